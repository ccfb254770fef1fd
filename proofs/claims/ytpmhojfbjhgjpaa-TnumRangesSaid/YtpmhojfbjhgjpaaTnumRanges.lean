/-
  The tnum of a range is the tightest that has all of its numbers.
-/
import Derived.Test.YtpmhojfbjhgjpaaTig
import Derived.Test.YtpmhojfbjhgjpaaSh
import Derived.Laws.AppendOwn
import Derived.Laws.OwnMore
import Derived.Test.YtpmhojfbjhgjpaaRMath
import Derived.ProofKit
import Derived.ChangeSame
namespace Go.Proofs.Ytpmhojfbjhgjpaa.tnumRanges
open Go.ChangeShapes Go.WideShapes Go.ChangeAt Go.RowKit Go.Joins
set_option linter.unusedVariables false
set_option linter.unusedSimpArgs false
def seqN (a : BitVec 64) (k : Nat) : List (BitVec 64) := (List.range k).map fun j => a + BitVec.ofNat 64 j
theorem seqN_succ (a : BitVec 64) (k : Nat) : seqN a (k + 1) = seqN a k ++ [a + BitVec.ofNat 64 k] := by
  unfold seqN; rw [List.range_succ, List.map_append]; rfl
theorem seqN_len (a : BitVec 64) (k : Nat) : (seqN a k).length = k := by unfold seqN; simp
def UU (x : BitVec 64) : Value := .int .u64 (nn x)
def LA (W : World) (a : BitVec 64) (n : Nat) (l v : Value) (wr : World) : Prop :=
  ∃ k : Nat, k ≤ n ∧ v = .int .u64 (nn (a + BitVec.ofNat 64 k)) ∧ wr.ownsRow W.heap.size 22 1 l k ((seqN a k).map UU) ∧ Below W.heap.size W wr
theorem info22 : (Try.prog.info? 22).map (fun i => (i.zero, i.size, i.bytes)) = some (some (.int .u64 0), 1, 8) := by kernel_rfl
theorem nn_add (a : BitVec 64) (k : Nat) (h : a.toNat + k < 18446744073709551616) : nn (a + BitVec.ofNat 64 k) = nn a + (k : Int) := by
  unfold nn
  rw [BitVec.toNat_add, BitVec.toNat_ofNat]
  omega
theorem one_new (wr : World) (x : Value) : ∀ (j : Nat) (u : Value), [x][j]? = some u → (wr.alloc (.cells #[x] 22)).cell? ((⟨wr.heap.size, 0, none⟩ : Addr).add j) = some u := by
  intro j u h
  obtain rfl : j = 0 := by
    rcases j with _ | j
    · rfl
    · simp at h
  simp at h
  subst h
  show (wr.alloc (.cells #[x] 22)).cell? ⟨wr.heap.size, 0, none⟩ = some x
  go_cell
theorem one_kind (x : Int) : ∀ u ∈ [Value.int .u64 x], u.oneCell' = true := by
  intro u h
  simp at h
  subst h
  rfl
theorem LA.step {W wr w2 : World} {a : BitVec 64} {n k : Nat} {l v' : Value} {x : Value} (hk : k < n) (hown : wr.ownsRow W.heap.size 22 1 l k ((seqN a k).map UU)) (hb : Below W.heap.size W wr)
    (h2 : w2.ownsRow W.heap.size 22 1 v' (k + 1) ((seqN a k).map UU ++ [.int .u64 (nn (a + BitVec.ofNat 64 k))])) (hg : (wr.alloc (.cells #[x] 22)).grownBy w2 l.ownBlock) :
    LA W a n v' (.int .u64 (nn (a + BitVec.ofNat 64 (k + 1)))) w2 := by
  refine ⟨k + 1, hk, rfl, ?_, ?_⟩
  · rw [seqN_succ, List.map_append]; exact h2
  · exact (hb.alloc hb.size _).grown hg (by have := hb.size; simp; omega) (fun q e => (hown.lt q e).1)
theorem LA.last {W wr w2 : World} {a : BitVec 64} {k : Nat} {l v' : Value} {x : Value} (hown : wr.ownsRow W.heap.size 22 1 l k ((seqN a k).map UU)) (hb : Below W.heap.size W wr)
    (h2 : w2.ownsRow W.heap.size 22 1 v' (k + 1) ((seqN a k).map UU ++ [.int .u64 (nn (a + BitVec.ofNat 64 k))])) (hg : (wr.alloc (.cells #[x] 22)).grownBy w2 l.ownBlock) :
    w2.ownsRow W.heap.size 22 1 v' (k + 1) ((seqN a (k + 1)).map UU) ∧ Below W.heap.size W w2 := by
  refine ⟨?_, ?_⟩
  · rw [seqN_succ, List.map_append]; exact h2
  · exact (hb.alloc hb.size _).grown hg (by have := hb.size; simp; omega) (fun q e => (hown.lt q e).1)
theorem mk_bit' (z : BitVec 64) (i : Nat) (hi' : i < 64) : (mk z).getLsbD i = decide (i < blen z) := by
  have h := blen_le z
  unfold mk
  rw [BitVec.getLsbD_ofNat]
  simp only [hi', decide_true, Bool.true_and]
  exact Nat.testBit_two_pow_sub_one _ _
theorem orx_bit (v0 : BitVec 64) (l : List (BitVec 64)) (i : Nat) : (orx v0 l).getLsbD i = true ↔ ∃ v ∈ l, (v ^^^ v0).getLsbD i = true := by
  have key : ∀ (l : List (BitVec 64)) (m : BitVec 64), (l.foldl (fun m v => m ||| (v ^^^ v0)) m).getLsbD i = true ↔ m.getLsbD i = true ∨ ∃ v ∈ l, (v ^^^ v0).getLsbD i = true := by
    intro l
    induction l with
    | nil => intro m; simp
    | cons x r ih =>
      intro m
      rw [List.foldl_cons, ih, BitVec.getLsbD_or, Bool.or_eq_true]
      constructor
      · rintro ((h | h) | ⟨v, h1, h2⟩)
        · exact Or.inl h
        · exact Or.inr ⟨x, by simp, h⟩
        · exact Or.inr ⟨v, by simp [h1], h2⟩
      · rintro (h | ⟨v, h1, h2⟩)
        · exact Or.inl (Or.inl h)
        · rcases List.mem_cons.1 h1 with rfl | h1
          · exact Or.inl (Or.inr h2)
          · exact Or.inr ⟨v, h1, h2⟩
  unfold orx
  rw [key]
  simp
theorem orx_range (a : BitVec 64) (n : Nat) (hov : a.toNat + n < 18446744073709551616) : orx a (seqN a (n + 1)) = mk (a ^^^ (a + BitVec.ofNat 64 n)) := by
  have tn : ∀ k, k ≤ n → (a + BitVec.ofNat 64 k).toNat = a.toNat + k := by
    intro k hk
    rw [BitVec.toNat_add, BitVec.toNat_ofNat]; omega
  obtain ⟨s1, s2⟩ := blen_spec (a ^^^ (a + BitVec.ofNat 64 n))
  rw [BitVec.toNat_xor, tn n (Nat.le_refl _)] at s1 s2
  apply bit_ext
  intro i hi'
  rw [mk_bit' _ i hi', Bool.eq_iff_iff, orx_bit, decide_eq_true_eq, ← range_bits a.toNat (a.toNat + n) _ (by omega) s1 s2 i]
  constructor
  · rintro ⟨v, h1, h2⟩
    obtain ⟨j, h3, rfl⟩ := List.mem_map.1 h1
    have hj := List.mem_range.1 h3
    refine ⟨a.toNat + j, by omega, by omega, ?_⟩
    rw [← tn j (by omega), ← BitVec.toNat_xor]
    exact h2
  · rintro ⟨v, h1, h2, h3⟩
    refine ⟨a + BitVec.ofNat 64 (v - a.toNat), List.mem_map.2 ⟨v - a.toNat, List.mem_range.2 (by omega), rfl⟩, ?_⟩
    show ((a + BitVec.ofNat 64 (v - a.toNat)) ^^^ a).toNat.testBit i = true
    rw [BitVec.toNat_xor, tn _ (by omega)]
    rw [show a.toNat + (v - a.toNat) = v by omega]
    exact h3
theorem seqN_cons (a : BitVec 64) (k : Nat) : ∃ r, seqN a (k + 1) = a :: r ∧ r.length = k := by
  refine ⟨(List.range k).map fun j => a + BitVec.ofNat 64 (j + 1), ?_, by simp⟩
  unfold seqN
  rw [List.range_succ_eq_map, List.map_cons, List.map_map]
  simp
theorem cells_next {w w1 : World} {g n : Nat} {X : List Value} (h : ∀ j, j < n → w.cell? ⟨g, j, none⟩ = X[j]?) (hg : g < w.heap.size) (b : Below w.heap.size w w1) : ∀ j, j < n → w1.cell? ⟨g, j, none⟩ = X[j]? :=
  fun j hj => (b.cell (p := ⟨g, j, none⟩) hg).trans (h j hj)
theorem tight_seq (a : BitVec 64) (n g cap : Nat) (hn : n ≤ 255) (hov : a.toNat + n < 18446744073709551616) (w : World) (hg : g < w.heap.size)
    (hc : ∀ j, j < n + 1 → w.cell? ⟨g, j, none⟩ = ((seqN a (n + 1)).map UU)[j]?) :
    Calls Try.prog 48 #[.slice (some ⟨g, 0, none⟩) (n + 1) cap] w fun e w' => e = .returned (tv (wo a (mk (a ^^^ (a + BitVec.ofNat 64 n))))) ∧ Below w.heap.size w w' := by
  rw [← orx_range a n hov]
  obtain ⟨r, hr, hl⟩ := seqN_cons a n
  rw [hr] at hc ⊢
  have h := tightest_any g cap a r w (by simp; omega) hg (fun j hj => by
    rw [hc j (by simpa [hl] using hj), List.getElem?_map, List.getElem?_eq_getElem hj, List.getD_eq_getElem?_getD, List.getElem?_eq_getElem hj]
    rfl)
  rw [show (a :: r).length = n + 1 by simp [hl]] at h
  exact h
set_option maxHeartbeats 1000000 in
set_option maxRecDepth 100000 in
theorem walk2 (a0 : BitVec 64) (n : Nat) (hn : n ≤ 255) (hov : a0.toNat + n < 18446744073709551616) (w : World) : Calls Try.prog 8 #[.int .u64 (nn a0), .int .u8 (n : Int)] w fun e w' => e = .returned (.bool true) ∧ Below w.heap.size w w' := by
  have hk := Lib.hid known_any
  have e1 : nn a0 + (n : Int) = nn (a0 + BitVec.ofNat 64 n) := (nn_add a0 n hov).symm
  have e2 : IntKind.u64.wrap (nn a0 + (n : Int)) = nn (a0 + BitVec.ofNat 64 n) := by rw [e1, IntKind.wrap_u64]; have := (a0 + BitVec.ofNat 64 n).isLt; unfold nn; omega
  have e3 : decide (nn (a0 + BitVec.ofNat 64 n) < nn a0) = false := by rw [← e1]; simp; omega
  have e4 : nn a0 ≤ nn (a0 + BitVec.ofNat 64 n) := by rw [← e1]; omega
  have H := Lib.hid (And.intro e2 (And.intro e3 e4))
  clear e1 e2 e3 e4
  go_enter Try.func8, Try.ntmps8
  go_upto_region 3 with ((with_reducible refine (hk.out _).mono ?_); rintro e w1 ⟨rfl, g1⟩)
  obtain ⟨e2, e3, e4⟩ := H.out
  generalize hM : a0 + BitVec.ofNat 64 n = M at *
  have HM := Lib.hid hM
  clear hM
  go_upto_region 7 with (fail)
  clear e2 e3 e4
  go_wp2
  obtain ⟨i0, hi, hz0, hz1, hz2⟩ := info_parts info22
  go_loopw [6, 7] (fun l v wr => LA w1 a0 n l v wr) (fun _ v _ => (a0.toNat + n + 1) - (intOf v).toNat)
  case atStart => exact ⟨0, by omega, by simp, ⟨rfl, Or.inl ⟨rfl, rfl⟩⟩, Below.refl _ _⟩
  case round =>
    obtain ⟨k, hkn, rfl, hown, hb⟩ := hrel
    have hsz := hb.size
    have ev : nn (a0 + BitVec.ofNat 64 k) = nn a0 + (k : Int) := nn_add a0 k (by omega)
    have eM : nn M = nn a0 + (n : Int) := by rw [← HM.out]; exact nn_add a0 n hov
    have en : nn a0 = (a0.toNat : Int) := rfl
    generalize hV : a0 + BitVec.ofNat 64 k = V at *
    have HV := Lib.hid hV
    have HO := Lib.hid hown
    have HB := Lib.hid hb
    by_cases hlt : k = n
    · have t1 : (nn V == nn M) = true := by rw [ev, eM, hlt]; simp
      have hs : k = n := hlt
      have HL := Lib.hid hlt
      clear hlt ev eM en hV hb
      have HS := Lib.hid hsz
      go_upto_region 10 with (at_builtin; refine wpList_append_own _ rfl _ _ 41 rfl w1.heap.size 22 i0 (.int .u64 0) 1 8 Try.underlying41 hi hz0 hz1 hz2 rfl (by decide) _ _ _ rfl (HO.out.alloc _) ⟨wr.heap.size, 0, none⟩ 1 1 [.int .u64 (nn V)] rfl rfl (one_new _ _) (one_kind _) (by unfold maxLen; omega) (by omega) (by simp; omega) ?_; intro v' w2 hown2 hgrow _; have HO2 := Lib.hid hown2; have HG := Lib.hid hgrow; clear hown2 hgrow)
      clear HS
      obtain ⟨LO, LB⟩ := LA.last HO.out HB.out (by rw [HV.out]; exact HO2.out) HG.out
      rw [HL.out] at LO
      obtain ⟨g, cap, hv, hg, hc⟩ : ∃ g cap, v' = .slice (some ⟨g, 0, none⟩) (n + 1) cap ∧ g < w2.heap.size ∧ ∀ j, j < n + 1 → w2.cell? ⟨g, j, none⟩ = ((seqN a0 (n + 1)).map UU)[j]? := by
        rcases LO.2 with ⟨_, h⟩ | ⟨g, cap, cur, rfl, hb, hgg, rest⟩
        · omega
        · refine ⟨g, cap, rfl, (LO.lt g rfl).2, fun j hj => ?_⟩
          exact LO.cellAt j (by omega)
      subst hv
      have C := Lib.hid (fun w h1 h2 => tight_seq a0 n g cap hn hov w h1 h2)
      have HC := Lib.hid hc
      have HR := Lib.hid hg
      have LB := Lib.hid LB
      clear hc hg LO HO2 HG HO HB hs
      have t3 : decide (nn M < nn a0) = false := by
        rw [← HM.out, nn_add a0 n hov]; simp; omega
      have C2 : ∀ w, g < w.heap.size → (∀ j, j < n + 1 → w.cell? ⟨g, j, none⟩ = ((seqN a0 (n + 1)).map UU)[j]?) → Calls Try.prog 48 #[.slice (some ⟨g, 0, none⟩) (n + 1) cap] w fun e w' => e = .returned (tv (wo a0 (mk (a0 ^^^ M)))) ∧ Below w.heap.size w w' := by
        intro w h1 h2
        have h := C.out w h1 h2
        rw [HM.out] at h
        exact h
      have C3 := Lib.hid C2
      have RY := Lib.hid (fun w => range_yes a0 M t3 w)
      clear C C2 t3
      go_upto_region 11 with (fail)
      clear t1
      have hE := eqT
      go_wp2_with (first
        | ((with_reducible refine (RY.out _).mono ?_); rintro e w3 ⟨rfl, g3⟩; simp only [tv])
        | ((with_reducible refine (C3.out _ (Nat.lt_of_lt_of_le HR.out (Below.size g3)) (cells_next HC.out HR.out g3)).mono ?_); rintro e w4 ⟨rfl, g4⟩; simp only [tv]))
      clear hE
      go_ret
      exact ⟨rfl, bl_trans g1 (bl_trans LB.out (bl_trans g3 g4))⟩
    · have t1 : (nn V == nn M) = false := by rw [ev, eM]; simp; omega
      have t2 : IntKind.u64.wrap (nn V + 1) = nn (a0 + BitVec.ofNat 64 (k + 1)) := by
        rw [nn_add a0 (k + 1) (by omega), ev, IntKind.wrap_u64, en]; omega
      have HL := Lib.hid hlt
      have EV := Lib.hid ev
      clear hlt ev eM en hV hb
      have HS := Lib.hid hsz
      go_upto_region 10 with (at_builtin; refine wpList_append_own _ rfl _ _ 41 rfl w1.heap.size 22 i0 (.int .u64 0) 1 8 Try.underlying41 hi hz0 hz1 hz2 rfl (by decide) _ _ _ rfl (HO.out.alloc _) ⟨wr.heap.size, 0, none⟩ 1 1 [.int .u64 (nn V)] rfl rfl (one_new _ _) (one_kind _) (by unfold maxLen; omega) (by omega) (by simp; omega) ?_; intro v' w2 hown2 hgrow _; have HO2 := Lib.hid hown2; have HG := Lib.hid hgrow; clear hown2 hgrow)
      clear HS
      go_upto_region 8 with (fail)
      go_wp2
      go_roundw
      case rel => exact LA.step (Nat.lt_of_le_of_ne hkn HL.out) HO.out HB.out (by rw [HV.out]; exact HO2.out) HG.out
      case measure =>
        have := EV.out
        have h2 := nn_add a0 (k + 1) (by have := HL.out; omega)
        rw [HV.out] at *
        simp only [intOf]
        rw [this, h2]
        have e : nn a0 = (a0.toNat : Int) := rfl
        have := HL.out
        omega

set_option maxHeartbeats 1000000 in
set_option maxRecDepth 100000 in
theorem walk1 (a0 : BitVec 64) (n : Nat) (hn : n ≤ 255) (hov : ¬ a0.toNat + n < 18446744073709551616) (w : World) : Calls Try.prog 8 #[.int .u64 (nn a0), .int .u8 (n : Int)] w fun e w' => e = .returned (.bool true) ∧ Below w.heap.size w w' := by
  have hk := Lib.hid known_any
  have hM : ∃ M : BitVec 64, IntKind.u64.wrap (nn a0 + (n : Int)) = nn M ∧ nn M < nn a0 := by
    refine ⟨a0 + BitVec.ofNat 64 n, ?_, ?_⟩
    · unfold nn; rw [IntKind.wrap_u64, BitVec.toNat_add, BitVec.toNat_ofNat]; omega
    · unfold nn; rw [BitVec.toNat_add, BitVec.toNat_ofNat]; have := a0.isLt; omega
  obtain ⟨M, e2, e4⟩ := hM
  have e3 : decide (nn M < nn a0) = true := by simpa using e4
  have RN := Lib.hid (fun w => range_no a0 M e3 w)
  have UN := Lib.hid (fun w => unk_any w)
  have H := Lib.hid (And.intro e2 (And.intro e3 e4))
  clear e2 e3 e4
  go_enter Try.func8, Try.ntmps8
  go_upto_region 3 with ((with_reducible refine (hk.out _).mono ?_); rintro e w1 ⟨rfl, g1⟩)
  obtain ⟨e2, e3, e4⟩ := H.out
  go_upto_region 5 with (fail)
  clear e2 e3 e4
  have hE := eqT
  go_wp2_with (first
    | ((with_reducible refine (RN.out _).mono ?_); rintro e w3 ⟨rfl, g3⟩; simp only [tv])
    | ((with_reducible refine (UN.out _).mono ?_); rintro e w4 ⟨rfl, g4⟩; simp only [tv]))
  clear hE
  go_ret
  exact ⟨rfl, bl_trans g1 (bl_trans g3 g4)⟩
set_option maxHeartbeats 1000000 in
set_option maxRecDepth 100000 in
theorem walk (a0 : BitVec 64) (a1 : Int) (w_a1 : (Lit.int .u8 a1).wf = true) (w : World) : Calls Try.prog 8 #[.int .u64 (nn a0), .int .u8 a1] w fun e w' => e = .returned (.bool true) ∧ Below w.heap.size w w' := by
  obtain ⟨n, rfl⟩ : ∃ n : Nat, a1 = n := ⟨a1.toNat, by have := bounds_u8 w_a1; omega⟩
  have hn : n ≤ 255 := by have := bounds_u8 w_a1; omega
  by_cases hov : a0.toNat + n < 18446744073709551616
  · exact walk2 a0 n hn hov w
  · exact walk1 a0 n hn hov w

set_option maxRecDepth 100000 in
theorem lifted (os : Os) (started : os.Started) (H : Type) (enc : TypeId × Value → H) :
    ReturnsInHanded {} Try.checked os 8 .any (Rows.tnumRangesSpec.pre6 enc Try.prog Try.f8 Rows.tnumRangesRow.domain false) (Rows.tnumRangesSpec.post enc Try.prog Try.f8 false true false false) := by
  refine returnsInHanded_of_change (C := Try.checked) own started (by kernel_rfl) Try.func8
    (ChangeSpec.witness6 (enc := enc) (C := Try.checked) false ⟨#[], #[.int .u64 0, .int .u8 0], []⟩ 8 (by kernel_rfl) (by kernel_rfl) (by kernel_rfl) (by kernel_rfl)) ?_
  intro W base args ds gs before hval0 hW hcnd _
  have hval : ∀ (j : Nat) t v, Try.f8.params[j]? = some t → args[j]? = some v → Value.okWide Try.prog W .any base t v := hval0
  have hW' := hW
  obtain ⟨p, q, hA0, hV, rfl, hfz, hnd⟩ := hW
  have hA : DataW.TrodAll enc Try.prog W 0 (fun _ => true) true Try.f8.params.toList args.toList ds p := hA0
  rw [Try.params8] at hA hval
  obtain ⟨v0, vs0, d0, ds0, p0, q0, hargs, rfl, rfl, h0, r0⟩ := trodAll_cons hA
  obtain ⟨v1, vs1, d1, ds1, p1, q1, rfl, rfl, rfl, h1, r1⟩ := trodAll_cons r0
  obtain ⟨rfl, rfl, rfl⟩ := trodAll_nil r1
  obtain rfl : args = #[v0, v1] := by cases args; simp_all
  obtain ⟨rfl, rfl⟩ := trodVars_none hV
  obtain ⟨x0, rfl, rfl, rfl, w0⟩ := open_int Try.underlying22 (hval 0 22 v0 rfl rfl) h0
  obtain ⟨a0, rfl⟩ := open_u64 w0
  obtain ⟨a1, rfl, rfl, rfl, w1⟩ := open_int Try.underlying5 (hval 1 5 v1 rfl rfl) h1
  clear hA0 hval0
  simp only [List.append_nil] at hW'
  refine (walk a0 a1 w1 W).mono fun e W' ⟨he, hg⟩ => ?_
  subst he
  exact ⟨_, rfl, post_of_below (pa := []) (pv := []) hW' (fun _ _ _ => (trodAll_cons_mk (shut_bool Try.underlying4 _) trodAll_mk0)) (fun sp _ => (trodAll_cons_mk (shut_int Try.underlying22 w0) (trodAll_cons_mk (shut_int Try.underlying5 w1) trodAll_mk0))) (fun _ _ => rfl) rfl
    hg (ok_one (by kernel_rfl) rfl (okWide_bool_mk Try.underlying4 _))⟩

theorem over : Rows.tnumRangesRow.holds Try.pinned (OpenSpec.ofChange Rows.tnumRangesSpec) :=
  OpenClaim.holds_of_wide 8 Try.f8 rfl rfl rfl rfl rfl rfl rfl ⟨rfl, rfl, rfl, rfl, rfl⟩ rfl rfl rfl rfl rfl (by kernel_rfl) Try.func8 (by kernel_rfl)
    (of_decide_eq_true (by kernel_rfl)) (by unfold Func.isWrapper; first | (rw [if_pos (by decide +kernel)]; kernel_rfl) | (rw [if_neg (by decide +kernel)]; exact ⟨rfl, rfl⟩))
    (fun os started H enc _ => lifted os started H enc)

/-- The statement. -/
theorem proved : Rows.TnumRangesSaid :=
  over
end Go.Proofs.Ytpmhojfbjhgjpaa.tnumRanges
