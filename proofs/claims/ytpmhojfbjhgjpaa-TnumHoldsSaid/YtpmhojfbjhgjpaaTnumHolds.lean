/-
  No number is lost by an operation on tnums.
-/
import Derived.Test.YtpmhojfbjhgjpaaBase
import Derived.Test.YtpmhojfbjhgjpaaMeet
import Derived.Test.YtpmhojfbjhgjpaaNou
import Derived.Deep.DeepCutAuto
import Derived.Deep.RegionHeld3
import Derived.Lib.ItoaNum
import Derived.ProofKit
import Derived.ChangeSame
namespace Go.Proofs.Ytpmhojfbjhgjpaa.tnumHolds
open Go.ChangeShapes Go.WideShapes Go.ChangeAt Go.RowKit Go.Joins
set_option linter.unusedVariables false
set_option linter.unusedSimpArgs false
def R2 (wb w : World) (p q : Nat) (a b : T) : Prop := At w p a ∧ At w q b ∧ Below wb.heap.size wb w
theorem R2.next {wb w w1 : World} {p q : Nat} {a b : T} (h : R2 wb w p q a b) (g : Below w.heap.size w w1) : R2 wb w1 p q a b :=
  ⟨h.1.next g, h.2.1.next g, bl_trans h.2.2 g⟩
theorem R2.cells {wb w : World} {p q : Nat} {a b : T} (h : R2 wb w p q a b) : w.cell? ⟨p, 0, none⟩ = some (.int .u64 (nn a.v)) ∧ w.cell? ⟨p, 1, none⟩ = some (.int .u64 (nn a.m)) ∧ w.cell? ⟨q, 0, none⟩ = some (.int .u64 (nn b.v)) ∧ w.cell? ⟨q, 1, none⟩ = some (.int .u64 (nn b.m)) ∧ R2 wb w p q a b := ⟨h.1.1, h.1.2.1, h.2.1.1, h.2.1.2.1, h⟩
theorem R2.below {wb w : World} {p q : Nat} {a b : T} (h : R2 wb w p q a b) : Below wb.heap.size wb w := h.2.2
theorem keep4b {wb w w1 : World} {p q : Nat} {a b : T} (g : Below w.heap.size w w1) (h : w.cell? ⟨p, 0, none⟩ = some (.int .u64 (nn a.v)) ∧ w.cell? ⟨p, 1, none⟩ = some (.int .u64 (nn a.m)) ∧ w.cell? ⟨q, 0, none⟩ = some (.int .u64 (nn b.v)) ∧ w.cell? ⟨q, 1, none⟩ = some (.int .u64 (nn b.m)) ∧ R2 wb w p q a b) : w1.cell? ⟨p, 0, none⟩ = some (.int .u64 (nn a.v)) ∧ w1.cell? ⟨p, 1, none⟩ = some (.int .u64 (nn a.m)) ∧ w1.cell? ⟨q, 0, none⟩ = some (.int .u64 (nn b.v)) ∧ w1.cell? ⟨q, 1, none⟩ = some (.int .u64 (nn b.m)) ∧ R2 wb w1 p q a b := (h.2.2.2.2.next g).cells
theorem has_yes (t : T) (x : BitVec 64) (h : has t x) (w : World) : Calls Try.prog 15 #[.agg #[.int .u64 (nn t.v), .int .u64 (nn t.m)], .int .u64 (nn x)] w fun e w' => e = .returned (.bool true) ∧ Below w.heap.size w w' := by
  have := has_any t x w
  rw [decide_eq_true h] at this
  exact this
theorem has_not (t : T) (x : BitVec 64) (h : ¬ has t x) (w : World) : Calls Try.prog 15 #[.agg #[.int .u64 (nn t.v), .int .u64 (nn t.m)], .int .u64 (nn x)] w fun e w' => e = .returned (.bool false) ∧ Below w.heap.size w w' := by
  have := has_any t x w
  rw [decide_eq_false h] at this
  exact this
theorem low_has {a : T} {x : BitVec 64} (h : has a x) : has (low a) (x &&& 0xffffffff#64) := by
  unfold low
  rw [kn_wf h.1]
  refine has_of ?_ fun i hi' hm => ?_
  · unfold wf
    apply bit_ext; intro i hi'
    have w := wf_bit h.1 i
    revert w
    simp only [BitVec.getLsbD_and, BitVec.getLsbD_zero]
    cases a.v.getLsbD i <;> cases a.m.getLsbD i <;> cases (0xffffffff#64).getLsbD i <;> decide
  · have p := has_bit h i hi'
    revert hm p
    simp only [BitVec.getLsbD_and]
    cases a.v.getLsbD i <;> cases a.m.getLsbD i <;> cases x.getLsbD i <;> cases (0xffffffff#64).getLsbD i <;> decide
/-- Bits at and above a number's length are 0. -/
theorem blen_bit (z : BitVec 64) (i : Nat) (hi' : blen z ≤ i) : z.getLsbD i = false := by
  have h : z.toNat < 2 ^ blen z := by
    unfold blen Lib.bitLen
    by_cases h0 : z.toNat = 0
    · rw [h0, Lib.bitLenAux_zero]; decide
    · exact (Lib.bitLenAux_bounds 64 z.toNat z.isLt h0).2.2
  exact Nat.testBit_lt_two_pow (Nat.lt_of_lt_of_le h (Nat.pow_le_pow_right (by decide) hi'))
theorem mk_bit (z : BitVec 64) (i : Nat) (hi' : i < 64) : (mk z).getLsbD i = decide (i < blen z) := by
  have h := blen_le z
  unfold mk
  rw [BitVec.getLsbD_ofNat]
  simp only [hi', decide_true, Bool.true_and]
  exact Nat.testBit_two_pow_sub_one _ _
theorem range_has_lo (x y : BitVec 64) : has (wo x (mk (x ^^^ y))) x := by
  refine has_of (wf_wo _ _) fun i hi' hm => ?_
  unfold wo at hm ⊢
  simp only at hm
  simp only [BitVec.getLsbD_and, BitVec.getLsbD_not, hi', decide_true, Bool.true_and, hm, Bool.not_false, Bool.and_true]
theorem range_has_hi (x y : BitVec 64) : has (wo x (mk (x ^^^ y))) y := by
  refine has_of (wf_wo _ _) fun i hi' hm => ?_
  unfold wo at hm ⊢
  simp only at hm
  simp only [BitVec.getLsbD_and, BitVec.getLsbD_not, hi', decide_true, Bool.true_and, hm, Bool.not_false, Bool.and_true]
  rw [mk_bit _ i hi'] at hm
  have := blen_bit (x ^^^ y) i (by simpa using hm)
  rw [BitVec.getLsbD_xor] at this
  revert this
  cases x.getLsbD i <;> cases y.getLsbD i <;> decide
theorem h_add {a b : T} {x y : BitVec 64} (h : has a x ∧ has b y) (w : World) : Calls Try.prog 15 #[.agg #[.int .u64 (nn (add a b).v), .int .u64 (nn (add a b).m)], .int .u64 (nn (x + y))] w fun e w' => e = .returned (.bool true) ∧ Below w.heap.size w w' := by
  obtain ⟨h1, h2⟩ := h
  refine has_yes _ _ ?_ w
  unfold add
  rw [kn_wf h1.1, kn_wf h2.1]
  exact padd_has h1 h2
theorem h_sub {a b : T} {x y : BitVec 64} (h : has a x ∧ has b y) (w : World) : Calls Try.prog 15 #[.agg #[.int .u64 (nn (sub a b).v), .int .u64 (nn (sub a b).m)], .int .u64 (nn (x - y))] w fun e w' => e = .returned (.bool true) ∧ Below w.heap.size w w' := by
  obtain ⟨h1, h2⟩ := h
  refine has_yes _ _ ?_ w
  unfold sub
  rw [kn_wf h1.1, kn_wf h2.1]
  exact psub_has h1 h2
theorem h_and {a b : T} {x y : BitVec 64} (h : has a x ∧ has b y) (w : World) : Calls Try.prog 15 #[.agg #[.int .u64 (nn (and a b).v), .int .u64 (nn (and a b).m)], .int .u64 (nn (x &&& y))] w fun e w' => e = .returned (.bool true) ∧ Below w.heap.size w w' := by
  obtain ⟨h1, h2⟩ := h
  refine has_yes _ _ ?_ w
  unfold and
  rw [kn_wf h1.1, kn_wf h2.1]
  exact pand_has h1 h2
theorem h_or {a b : T} {x y : BitVec 64} (h : has a x ∧ has b y) (w : World) : Calls Try.prog 15 #[.agg #[.int .u64 (nn (or a b).v), .int .u64 (nn (or a b).m)], .int .u64 (nn (x ||| y))] w fun e w' => e = .returned (.bool true) ∧ Below w.heap.size w w' := by
  obtain ⟨h1, h2⟩ := h
  refine has_yes _ _ ?_ w
  unfold or
  rw [kn_wf h1.1, kn_wf h2.1]
  exact por_has h1 h2
theorem h_xor {a b : T} {x y : BitVec 64} (h : has a x ∧ has b y) (w : World) : Calls Try.prog 15 #[.agg #[.int .u64 (nn (xor a b).v), .int .u64 (nn (xor a b).m)], .int .u64 (nn (x ^^^ y))] w fun e w' => e = .returned (.bool true) ∧ Below w.heap.size w w' := by
  obtain ⟨h1, h2⟩ := h
  refine has_yes _ _ ?_ w
  unfold xor
  rw [kn_wf h1.1, kn_wf h2.1]
  exact pxor_has h1 h2
theorem h_mul {a b : T} {x y : BitVec 64} (h : has a x ∧ has b y) (w : World) : Calls Try.prog 15 #[.agg #[.int .u64 (nn (mul a b).v), .int .u64 (nn (mul a b).m)], .int .u64 (nn (x * y))] w fun e w' => e = .returned (.bool true) ∧ Below w.heap.size w w' := by
  obtain ⟨h1, h2⟩ := h
  refine has_yes _ _ ?_ w
  unfold mul
  rw [kn_wf h1.1, kn_wf h2.1]
  exact pmul_has h1 h2
theorem h_shl {a b : T} {x y : BitVec 64} (h : has a x ∧ has b y) (k : Nat) (w : World) : Calls Try.prog 15 #[.agg #[.int .u64 (nn (shl a k).v), .int .u64 (nn (shl a k).m)], .int .u64 (nn (x <<< k))] w fun e w' => e = .returned (.bool true) ∧ Below w.heap.size w w' := by
  obtain ⟨h1, h2⟩ := h
  refine has_yes _ _ ?_ w
  unfold shl
  rw [kn_wf h1.1]
  exact shl_has h1 k
theorem h_shr {a b : T} {x y : BitVec 64} (h : has a x ∧ has b y) (k : Nat) (w : World) : Calls Try.prog 15 #[.agg #[.int .u64 (nn (shr a k).v), .int .u64 (nn (shr a k).m)], .int .u64 (nn (x >>> k))] w fun e w' => e = .returned (.bool true) ∧ Below w.heap.size w w' := by
  obtain ⟨h1, h2⟩ := h
  refine has_yes _ _ ?_ w
  unfold shr
  rw [kn_wf h1.1]
  exact shr_has h1 k
theorem h_sar {a b : T} {x y : BitVec 64} (h : has a x ∧ has b y) (k : Nat) (w : World) : Calls Try.prog 15 #[.agg #[.int .u64 (nn (sar a k).v), .int .u64 (nn (sar a k).m)], .int .u64 (nn (x.sshiftRight k))] w fun e w' => e = .returned (.bool true) ∧ Below w.heap.size w w' := by
  obtain ⟨h1, h2⟩ := h
  refine has_yes _ _ ?_ w
  unfold sar
  rw [kn_wf h1.1]
  exact sar_has h1 k
theorem h_low {a b : T} {x y : BitVec 64} (h : has a x ∧ has b y) (w : World) : Calls Try.prog 15 #[.agg #[.int .u64 (nn (low a).v), .int .u64 (nn (low a).m)], .int .u64 (nn (x &&& 0xffffffff#64))] w fun e w' => e = .returned (.bool true) ∧ Below w.heap.size w w' := has_yes _ _ (low_has h.1) w
theorem h_join1 {a b : T} {x y : BitVec 64} (h : has a x ∧ has b y) (w : World) : Calls Try.prog 15 #[.agg #[.int .u64 (nn (join a b).v), .int .u64 (nn (join a b).m)], .int .u64 (nn x)] w fun e w' => e = .returned (.bool true) ∧ Below w.heap.size w w' := by
  obtain ⟨h1, h2⟩ := h
  refine has_yes _ _ ?_ w
  unfold join
  rw [kn_wf h1.1, kn_wf h2.1]
  exact inn_has (wf_wo _ _) (inn_pjoin a b) h1
theorem h_join2 {a b : T} {x y : BitVec 64} (h : has a x ∧ has b y) (w : World) : Calls Try.prog 15 #[.agg #[.int .u64 (nn (join a b).v), .int .u64 (nn (join a b).m)], .int .u64 (nn y)] w fun e w' => e = .returned (.bool true) ∧ Below w.heap.size w w' := by
  obtain ⟨h1, h2⟩ := h
  refine has_yes _ _ ?_ w
  unfold join
  rw [kn_wf h1.1, kn_wf h2.1]
  rw [pjoin_comm]
  exact inn_has (wf_wo _ _) (inn_pjoin b a) h2
theorem h_lo (x y z : BitVec 64) (h : z = x ∨ z = y) (w : World) : Calls Try.prog 15 #[.agg #[.int .u64 (nn (wo x (mk (x ^^^ y))).v), .int .u64 (nn (wo x (mk (x ^^^ y))).m)], .int .u64 (nn z)] w fun e w' => e = .returned (.bool true) ∧ Below w.heap.size w w' := by
  rcases h with rfl | rfl
  · exact has_yes _ _ (range_has_lo _ _) w
  · exact has_yes _ _ (range_has_hi _ _) w
set_option maxHeartbeats 4000000 in
set_option maxRecDepth 100000 in
theorem walk1 (a0 a1 : T) (x y : BitVec 64) (n : Int) (ha : ¬ has a0 x) (w : World) : Calls Try.prog 4 #[.agg #[.int .u64 (nn a0.v), .int .u64 (nn a0.m)], .agg #[.int .u64 (nn a1.v), .int .u64 (nn a1.m)], .int .u64 (nn x), .int .u64 (nn y), .int .i64 n] w fun e w' => e = .returned (.bool true) ∧ Below w.heap.size w w' := by
  have hk := Lib.hid known_any
  go_enter Try.func4, Try.ntmps4
  go_upto_region 1 with (fail)
  have A0 : At ((w.alloc (.cells #[.int .u64 (nn a0.v), .int .u64 (nn a0.m)] 24)).alloc (.cells #[.int .u64 (nn a1.v), .int .u64 (nn a1.m)] 24)) w.heap.size a0 := ⟨by go_cell, by go_cell, by first | (simp; done) | (simp; omega)⟩
  have B0 : At ((w.alloc (.cells #[.int .u64 (nn a0.v), .int .u64 (nn a0.m)] 24)).alloc (.cells #[.int .u64 (nn a1.v), .int .u64 (nn a1.m)] 24)) (w.heap.size + 1) a1 := ⟨by go_cell, by go_cell, by first | (simp; done) | (simp; omega)⟩
  have g0 : Below w.heap.size w ((w.alloc (.cells #[.int .u64 (nn a0.v), .int .u64 (nn a0.m)] 24)).alloc (.cells #[.int .u64 (nn a1.v), .int .u64 (nn a1.m)] 24)) := by go_grown
  generalize ((w.alloc (.cells #[.int .u64 (nn a0.v), .int .u64 (nn a0.m)] 24)).alloc (.cells #[.int .u64 (nn a1.v), .int .u64 (nn a1.m)] 24)) = w0 at *
  go_upto_region 3 with ((with_reducible refine (hk.out _).mono ?_); rintro e w1 ⟨rfl, g1⟩)
  have A1 := A0.next g1
  have B1 := B0.next g1
  have G1 := bl_trans g0 g1
  have R1 : R2 w1 w1 w.heap.size (w.heap.size + 1) a0 a1 := ⟨A1, B1, Below.refl _ _⟩
  clear A0 B0 A1 B1 g0 g1
  obtain ⟨c1, c2, c3, c4, _⟩ := R1.cells
  have hr := Lib.hid (fun w => has_not a0 x ha w)
  clear ha
  go_wp2_with ((with_reducible refine (hr.out _).mono ?_); rintro e wx ⟨rfl, gx⟩; have qx := R2.next (by assumption) gx; (try clear c1 c2 c3 c4); obtain ⟨c1, c2, c3, c4, _⟩ := qx.cells; (try simp only [tv]))
  go_ret
  exact ⟨rfl, bl_trans G1 (R2.below (by assumption))⟩
set_option maxHeartbeats 4000000 in
set_option maxRecDepth 100000 in
theorem walk2 (a0 a1 : T) (x y : BitVec 64) (n : Int) (ha : has a0 x) (hb : ¬ has a1 y) (w : World) : Calls Try.prog 4 #[.agg #[.int .u64 (nn a0.v), .int .u64 (nn a0.m)], .agg #[.int .u64 (nn a1.v), .int .u64 (nn a1.m)], .int .u64 (nn x), .int .u64 (nn y), .int .i64 n] w fun e w' => e = .returned (.bool true) ∧ Below w.heap.size w w' := by
  have hk := Lib.hid known_any
  go_enter Try.func4, Try.ntmps4
  go_upto_region 1 with (fail)
  have A0 : At ((w.alloc (.cells #[.int .u64 (nn a0.v), .int .u64 (nn a0.m)] 24)).alloc (.cells #[.int .u64 (nn a1.v), .int .u64 (nn a1.m)] 24)) w.heap.size a0 := ⟨by go_cell, by go_cell, by first | (simp; done) | (simp; omega)⟩
  have B0 : At ((w.alloc (.cells #[.int .u64 (nn a0.v), .int .u64 (nn a0.m)] 24)).alloc (.cells #[.int .u64 (nn a1.v), .int .u64 (nn a1.m)] 24)) (w.heap.size + 1) a1 := ⟨by go_cell, by go_cell, by first | (simp; done) | (simp; omega)⟩
  have g0 : Below w.heap.size w ((w.alloc (.cells #[.int .u64 (nn a0.v), .int .u64 (nn a0.m)] 24)).alloc (.cells #[.int .u64 (nn a1.v), .int .u64 (nn a1.m)] 24)) := by go_grown
  generalize ((w.alloc (.cells #[.int .u64 (nn a0.v), .int .u64 (nn a0.m)] 24)).alloc (.cells #[.int .u64 (nn a1.v), .int .u64 (nn a1.m)] 24)) = w0 at *
  go_upto_region 3 with ((with_reducible refine (hk.out _).mono ?_); rintro e w1 ⟨rfl, g1⟩)
  have A1 := A0.next g1
  have B1 := B0.next g1
  have G1 := bl_trans g0 g1
  have R1 : R2 w1 w1 w.heap.size (w.heap.size + 1) a0 a1 := ⟨A1, B1, Below.refl _ _⟩
  clear A0 B0 A1 B1 g0 g1
  obtain ⟨c1, c2, c3, c4, _⟩ := R1.cells
  have hr := Lib.hid (fun w => has_yes a0 x ha w)
  have hs := Lib.hid (fun w => has_not a1 y hb w)
  clear ha hb
  go_wp2_with (first
    | ((with_reducible refine (hr.out _).mono ?_); rintro e wx ⟨rfl, gx⟩; have qx := R2.next (by assumption) gx; (try clear c1 c2 c3 c4); obtain ⟨c1, c2, c3, c4, _⟩ := qx.cells; (try simp only [tv]))
    | ((with_reducible refine (hs.out _).mono ?_); rintro e wx ⟨rfl, gx⟩; have qx := R2.next (by assumption) gx; (try clear c1 c2 c3 c4); obtain ⟨c1, c2, c3, c4, _⟩ := qx.cells; (try simp only [tv])))
  go_ret
  exact ⟨rfl, bl_trans G1 (R2.below (by assumption))⟩
theorem tmod_low (x : BitVec 64) : (nn x).tmod 4294967296 = nn (x &&& 0xffffffff#64) := by
  rw [Int.tmod_eq_emod_of_nonneg (by unfold nn; omega)]
  exact b_low x
theorem b_int' (x : BitVec 64) : IntKind.i64.wrap (nn x) = x.toInt := by
  have := b_int x
  unfold wrap64 at this
  rw [IntKind.wrap_i64]
  omega
theorem range_same (x : BitVec 64) (w : World) : Calls Try.prog 20 #[.int .u64 (nn x), .int .u64 (nn x)] w fun e w' => e = .returned (tv (wo x (mk 0#64))) ∧ Below w.heap.size w w' := by
  have h := range_yes x x (by simp) w
  rw [BitVec.xor_self] at h
  exact h
theorem h_same (x : BitVec 64) (w : World) : Calls Try.prog 15 #[.agg #[.int .u64 (nn (wo x (mk 0#64)).v), .int .u64 (nn (wo x (mk 0#64)).m)], .int .u64 (nn x)] w fun e w' => e = .returned (.bool true) ∧ Below w.heap.size w w' := by
  have h := h_lo x x x (Or.inl rfl) w
  rw [BitVec.xor_self] at h
  exact h
theorem kk1 (n : Int) : IntKind.i64.wrap (n.tmod 64 + 64) = n.tmod 64 + 64 := by
  have h1 := Int.lt_tmod_of_pos n (by decide : (0 : Int) < 64)
  have h2 := Int.tmod_lt_of_pos n (by decide : (0 : Int) < 64)
  rw [IntKind.wrap_i64]; omega
theorem kk2 (n : Int) : wrap64 (n.tmod 64 + 64) = n.tmod 64 + 64 := by
  have h1 := Int.lt_tmod_of_pos n (by decide : (0 : Int) < 64)
  have h2 := Int.tmod_lt_of_pos n (by decide : (0 : Int) < 64)
  unfold wrap64; omega
theorem kk3 (n : Int) : (n.tmod 64 + 64).tmod 64 = (cnt n 64 : Int) := by
  have h1 := Int.lt_tmod_of_pos n (by decide : (0 : Int) < 64)
  have h2 := Int.tmod_lt_of_pos n (by decide : (0 : Int) < 64)
  rw [Int.tmod_eq_emod_of_nonneg (by omega)]
  unfold cnt
  have h3 := Int.tmod_def n 64
  have h4 : n.tmod 64 % 64 = n % 64 := by
    rw [h3, Int.sub_mul_emod_self_left]
  omega
set_option maxHeartbeats 4000000 in
set_option maxRecDepth 100000 in
theorem walk3 (a0 a1 : T) (x y : BitVec 64) (n : Int) (m : T) (i : Bool) (hm : Hid (∀ w, Calls Try.prog 11 #[.agg #[.int .u64 (nn a0.v), .int .u64 (nn a0.m)], .agg #[.int .u64 (nn a1.v), .int .u64 (nn a1.m)]] w fun e w' => e = .returned (.tuple #[tv m, .bool i]) ∧ Below w.heap.size w w')) (ha : has a0 x) (hb : has a1 y) (hd : x ≠ y ∨ i = true ∧ has m x) (w : World) : Calls Try.prog 4 #[.agg #[.int .u64 (nn a0.v), .int .u64 (nn a0.m)], .agg #[.int .u64 (nn a1.v), .int .u64 (nn a1.m)], .int .u64 (nn x), .int .u64 (nn y), .int .i64 n] w fun e w' => e = .returned (.bool true) ∧ Below w.heap.size w w' := by
  have hk := Lib.hid known_any
  go_enter Try.func4, Try.ntmps4
  go_upto_region 1 with (fail)
  have A0 : At ((w.alloc (.cells #[.int .u64 (nn a0.v), .int .u64 (nn a0.m)] 24)).alloc (.cells #[.int .u64 (nn a1.v), .int .u64 (nn a1.m)] 24)) w.heap.size a0 := ⟨by go_cell, by go_cell, by first | (simp; done) | (simp; omega)⟩
  have B0 : At ((w.alloc (.cells #[.int .u64 (nn a0.v), .int .u64 (nn a0.m)] 24)).alloc (.cells #[.int .u64 (nn a1.v), .int .u64 (nn a1.m)] 24)) (w.heap.size + 1) a1 := ⟨by go_cell, by go_cell, by first | (simp; done) | (simp; omega)⟩
  have g0 : Below w.heap.size w ((w.alloc (.cells #[.int .u64 (nn a0.v), .int .u64 (nn a0.m)] 24)).alloc (.cells #[.int .u64 (nn a1.v), .int .u64 (nn a1.m)] 24)) := by go_grown
  generalize ((w.alloc (.cells #[.int .u64 (nn a0.v), .int .u64 (nn a0.m)] 24)).alloc (.cells #[.int .u64 (nn a1.v), .int .u64 (nn a1.m)] 24)) = w0 at *
  go_upto_region 3 with ((with_reducible refine (hk.out _).mono ?_); rintro e w1 ⟨rfl, g1⟩)
  have A1 := A0.next g1
  have B1 := B0.next g1
  have G1 := bl_trans g0 g1
  have R1 : R2 w1 w1 w.heap.size (w.heap.size + 1) a0 a1 := ⟨A1, B1, Below.refl _ _⟩
  clear A0 B0 A1 B1 g0 g1
  obtain ⟨c1, c2, c3, c4, _⟩ := R1.cells
  have hr := Lib.hid (fun w => has_yes a0 x ha w)
  have hs := Lib.hid (fun w => has_yes a1 y hb w)
  have HH := Lib.hid (And.intro ha hb)
  have HD := Lib.hid hd
  clear ha hb hd
  go_upto_region 5 with (first
    | ((with_reducible refine (hr.out _).mono ?_); rintro e wx ⟨rfl, gx⟩; have qx := R2.next (by assumption) gx; (try clear c1 c2 c3 c4); obtain ⟨c1, c2, c3, c4, _⟩ := qx.cells; (try simp only [tv]))
    | ((with_reducible refine (hs.out _).mono ?_); rintro e wx ⟨rfl, gx⟩; have qx := R2.next (by assumption) gx; (try clear c1 c2 c3 c4); obtain ⟨c1, c2, c3, c4, _⟩ := qx.cells; (try simp only [tv])))
  have e1 : IntKind.i64.wrap (n.tmod 64 + 64) = n.tmod 64 + 64 := kk1 n
  have e2 : wrap64 (n.tmod 64 + 64) = n.tmod 64 + 64 := kk2 n
  have e3 : (n.tmod 64 + 64).tmod 64 = (cnt n 64 : Int) := kk3 n
  go_upto_region 6 with (fail)
  clear e1 e2 e3
  have p1 : IntKind.u64.wrap (nn x + nn y) = nn (x + y) := b_add x y
  have p2 : IntKind.u64.wrap (nn x - nn y) = nn (x - y) := b_sub x y
  have p3 : bits .and .u64 (nn x) (nn y) = nn (x &&& y) := b_and x y
  have p4 : bits .or .u64 (nn x) (nn y) = nn (x ||| y) := b_or x y
  have p5 : bits .xor .u64 (nn x) (nn y) = nn (x ^^^ y) := b_xor x y
  have p6 : IntKind.u64.wrap (nn x * nn y) = nn (x * y) := b_mul x y
  go_upto_region 7 with (first
    | ((with_reducible refine (add_any a0 a1 _).mono ?_); rintro e wx ⟨rfl, gx⟩; have qx := R2.next (by assumption) gx; (try clear c1 c2 c3 c4); obtain ⟨c1, c2, c3, c4, _⟩ := qx.cells; (try simp only [tv]))
    | ((with_reducible refine (sub_any a0 a1 _).mono ?_); rintro e wx ⟨rfl, gx⟩; have qx := R2.next (by assumption) gx; (try clear c1 c2 c3 c4); obtain ⟨c1, c2, c3, c4, _⟩ := qx.cells; (try simp only [tv]))
    | ((with_reducible refine (and_any a0 a1 _).mono ?_); rintro e wx ⟨rfl, gx⟩; have qx := R2.next (by assumption) gx; (try clear c1 c2 c3 c4); obtain ⟨c1, c2, c3, c4, _⟩ := qx.cells; (try simp only [tv]))
    | ((with_reducible refine (or_any a0 a1 _).mono ?_); rintro e wx ⟨rfl, gx⟩; have qx := R2.next (by assumption) gx; (try clear c1 c2 c3 c4); obtain ⟨c1, c2, c3, c4, _⟩ := qx.cells; (try simp only [tv]))
    | ((with_reducible refine (xor_any a0 a1 _).mono ?_); rintro e wx ⟨rfl, gx⟩; have qx := R2.next (by assumption) gx; (try clear c1 c2 c3 c4); obtain ⟨c1, c2, c3, c4, _⟩ := qx.cells; (try simp only [tv]))
    | ((with_reducible refine (mul_any a0 a1 _).mono ?_); rintro e wx ⟨rfl, gx⟩; have qx := R2.next (by assumption) gx; (try clear c1 c2 c3 c4); obtain ⟨c1, c2, c3, c4, _⟩ := qx.cells; (try simp only [tv]))
    | ((with_reducible refine (h_add HH.out _).mono ?_); rintro e wx ⟨rfl, gx⟩; have qx := R2.next (by assumption) gx; (try clear c1 c2 c3 c4); obtain ⟨c1, c2, c3, c4, _⟩ := qx.cells; (try simp only [tv]))
    | ((with_reducible refine (h_sub HH.out _).mono ?_); rintro e wx ⟨rfl, gx⟩; have qx := R2.next (by assumption) gx; (try clear c1 c2 c3 c4); obtain ⟨c1, c2, c3, c4, _⟩ := qx.cells; (try simp only [tv]))
    | ((with_reducible refine (h_and HH.out _).mono ?_); rintro e wx ⟨rfl, gx⟩; have qx := R2.next (by assumption) gx; (try clear c1 c2 c3 c4); obtain ⟨c1, c2, c3, c4, _⟩ := qx.cells; (try simp only [tv]))
    | ((with_reducible refine (h_or HH.out _).mono ?_); rintro e wx ⟨rfl, gx⟩; have qx := R2.next (by assumption) gx; (try clear c1 c2 c3 c4); obtain ⟨c1, c2, c3, c4, _⟩ := qx.cells; (try simp only [tv]))
    | ((with_reducible refine (h_xor HH.out _).mono ?_); rintro e wx ⟨rfl, gx⟩; have qx := R2.next (by assumption) gx; (try clear c1 c2 c3 c4); obtain ⟨c1, c2, c3, c4, _⟩ := qx.cells; (try simp only [tv]))
    | ((with_reducible refine (h_mul HH.out _).mono ?_); rintro e wx ⟨rfl, gx⟩; have qx := R2.next (by assumption) gx; (try clear c1 c2 c3 c4); obtain ⟨c1, c2, c3, c4, _⟩ := qx.cells; (try simp only [tv])))
  clear p1 p2 p3 p4 p5 p6
  have s1 : IntKind.u64.wrap (nn x * 2 ^ cnt n 64) = nn (x <<< cnt n 64) := b_shl x _
  have s2 : nn x / 2 ^ cnt n 64 = nn (x >>> cnt n 64) := b_shr x _
  have s3 : wrap64 (nn x) = x.toInt := b_int x
  have s7 : IntKind.i64.wrap (nn x) = x.toInt := b_int' x
  have s4 : IntKind.u64.wrap (x.toInt / 2 ^ cnt n 64) = nn (x.sshiftRight (cnt n 64)) := b_sar x _
  have s5 : (nn x).tmod 4294967296 = nn (x &&& 0xffffffff#64) := tmod_low x
  have s6 : min (cnt n 64) 64 = cnt n 64 := cnt_min64 n
  have RR := ‹R2 w1 _ w.heap.size (w.heap.size + 1) a0 a1›
  go_region_held3 (fun w' => w'.cell? ⟨w.heap.size, 0, none⟩ = some (.int .u64 (nn a0.v)) ∧ w'.cell? ⟨w.heap.size, 1, none⟩ = some (.int .u64 (nn a0.m)) ∧ w'.cell? ⟨w.heap.size + 1, 0, none⟩ = some (.int .u64 (nn a1.v)) ∧ w'.cell? ⟨w.heap.size + 1, 1, none⟩ = some (.int .u64 (nn a1.m)) ∧ R2 w1 w' w.heap.size (w.heap.size + 1) a0 a1)
    (first | exact keep4b (by assumption) (by assumption) | exact (R2.next RR (Below.drew (Below.refl _ _))).cells | assumption)
    (first
    | (go_at_call 34; (with_reducible refine (lsh_any a0 n _).mono ?_); rintro e wx ⟨rfl, gx⟩; (try simp only [tv]))
    | (go_at_call 36; (with_reducible refine (rsh_any a0 n _).mono ?_); rintro e wx ⟨rfl, gx⟩; (try simp only [tv]))
    | (go_at_call 38; (with_reducible refine (arsh_any a0 n _).mono ?_); rintro e wx ⟨rfl, gx⟩; (try simp only [tv]))
    | (go_at_call 40; (with_reducible refine (low_any a0 _).mono ?_); rintro e wx ⟨rfl, gx⟩; (try simp only [tv]))
    | (go_at_call 15; (with_reducible refine (h_shl HH.out _ _).mono ?_); rintro e wx ⟨rfl, gx⟩; (try simp only [tv]))
    | (go_at_call 15; (with_reducible refine (h_shr HH.out _ _).mono ?_); rintro e wx ⟨rfl, gx⟩; (try simp only [tv]))
    | (go_at_call 15; (with_reducible refine (h_sar HH.out _ _).mono ?_); rintro e wx ⟨rfl, gx⟩; (try simp only [tv]))
    | (go_at_call 15; (with_reducible refine (h_low HH.out _).mono ?_); rintro e wx ⟨rfl, gx⟩; (try simp only [tv])))
  clear s1 s2 s3 s4 s5 s6 s7
  obtain ⟨_, _, _, _, q⟩ := ‹_ ∧ _ ∧ _ ∧ _ ∧ R2 _ _ _ _ _ _›
  (try clear c1 c2 c3 c4)
  obtain ⟨c1, c2, c3, c4, _⟩ := q.cells
  go_upto_region 8 with (fail)
  by_cases hlt : nn y < nn x
  · have t1 : decide (nn y < nn x) = true := by simpa using hlt
    have t2 : decide (nn x < nn y) = false := by simp; omega
    have hg := Lib.hid (fun w => range_yes y x t2 w)
    have hh := Lib.hid (fun w => h_lo y x x (Or.inr rfl) w)
    go_upto_region 9 with (first
    | ((with_reducible refine (join_any a0 a1 _).mono ?_); rintro e wx ⟨rfl, gx⟩; have qx := R2.next (by assumption) gx; (try clear c1 c2 c3 c4); obtain ⟨c1, c2, c3, c4, _⟩ := qx.cells; (try simp only [tv]))
    | ((with_reducible refine (h_join1 HH.out _).mono ?_); rintro e wx ⟨rfl, gx⟩; have qx := R2.next (by assumption) gx; (try clear c1 c2 c3 c4); obtain ⟨c1, c2, c3, c4, _⟩ := qx.cells; (try simp only [tv]))
    | ((with_reducible refine (h_join2 HH.out _).mono ?_); rintro e wx ⟨rfl, gx⟩; have qx := R2.next (by assumption) gx; (try clear c1 c2 c3 c4); obtain ⟨c1, c2, c3, c4, _⟩ := qx.cells; (try simp only [tv]))
    | ((with_reducible refine (hg.out _).mono ?_); rintro e wx ⟨rfl, gx⟩; have qx := R2.next (by assumption) gx; (try clear c1 c2 c3 c4); obtain ⟨c1, c2, c3, c4, _⟩ := qx.cells; (try simp only [tv]))
    | ((with_reducible refine (hh.out _).mono ?_); rintro e wx ⟨rfl, gx⟩; have qx := R2.next (by assumption) gx; (try clear c1 c2 c3 c4); obtain ⟨c1, c2, c3, c4, _⟩ := qx.cells; (try simp only [tv])))
    have hxy : x ≠ y := fun h => by rw [h] at hlt; exact absurd hlt (Int.lt_irrefl _)
    clear hlt t1 t2
    have RR2 := ‹R2 w1 _ w.heap.size (w.heap.size + 1) a0 a1›
    go_upto_region 10 with ((with_reducible refine (hm.out _).mono ?_); rintro e wm ⟨rfl, gm⟩; simp only [tv])
    (try clear c1 c2 c3 c4)
    have G2 := bl_trans G1 (bl_trans (R2.below RR2) (bl_alloc gm (.cells #[.int .u64 (nn m.v), .int .u64 (nn m.m)] 24)))
    have t3 : (nn x != nn y) = true := by rw [bne, b_eq]; simp [hxy]
    clear hxy
    go_wp2
    go_ret
    exact ⟨rfl, G2⟩
  · have t1 : decide (nn y < nn x) = false := by simpa using hlt
    have hg := Lib.hid (fun w => range_yes x y t1 w)
    have hh := Lib.hid (fun w => h_lo x y x (Or.inl rfl) w)
    by_cases hxy : x = y
    · have hyx : nn y = nn x := by rw [hxy]
      have HX := Lib.hid hxy
      have hg2 := Lib.hid (fun w => range_same x w)
      have hh2 := Lib.hid (fun w => h_same x w)
      clear hxy hlt hg hh t1
      go_upto_region 9 with (first
    | ((with_reducible refine (join_any a0 a1 _).mono ?_); rintro e wx ⟨rfl, gx⟩; have qx := R2.next (by assumption) gx; (try clear c1 c2 c3 c4); obtain ⟨c1, c2, c3, c4, _⟩ := qx.cells; (try simp only [tv]))
    | ((with_reducible refine (h_join1 HH.out _).mono ?_); rintro e wx ⟨rfl, gx⟩; have qx := R2.next (by assumption) gx; (try clear c1 c2 c3 c4); obtain ⟨c1, c2, c3, c4, _⟩ := qx.cells; (try simp only [tv]))
    | ((with_reducible refine (h_join2 HH.out _).mono ?_); rintro e wx ⟨rfl, gx⟩; have qx := R2.next (by assumption) gx; (try clear c1 c2 c3 c4); obtain ⟨c1, c2, c3, c4, _⟩ := qx.cells; (try simp only [tv]))
    | ((with_reducible refine (hg2.out _).mono ?_); rintro e wx ⟨rfl, gx⟩; have qx := R2.next (by assumption) gx; (try clear c1 c2 c3 c4); obtain ⟨c1, c2, c3, c4, _⟩ := qx.cells; (try simp only [tv]))
    | ((with_reducible refine (hh2.out _).mono ?_); rintro e wx ⟨rfl, gx⟩; have qx := R2.next (by assumption) gx; (try clear c1 c2 c3 c4); obtain ⟨c1, c2, c3, c4, _⟩ := qx.cells; (try simp only [tv])))
      have RR2 := ‹R2 w1 _ w.heap.size (w.heap.size + 1) a0 a1›
      go_upto_region 10 with ((with_reducible refine (hm.out _).mono ?_); rintro e wm ⟨rfl, gm⟩; simp only [tv])
      (try clear c1 c2 c3 c4)
      have G2 := bl_trans G1 (bl_trans (R2.below RR2) (bl_alloc gm (.cells #[.int .u64 (nn m.v), .int .u64 (nn m.m)] 24)))
      have hxy := HX.out
      obtain ⟨hi, hM⟩ : i = true ∧ has m x := by rcases HD.out with h | h; exact absurd hxy h; exact h
      have t3 : (nn x != nn y) = false := by rw [bne, b_eq]; simp [hxy]
      have hz := Lib.hid (fun w => has_yes m x hM w)
      have M := At.new wm m 24
      obtain ⟨d1, d2, d3⟩ := id M
      subst hi
      clear hxy hM
      go_wp2_with ((with_reducible refine (hz.out _).mono ?_); rintro e wz ⟨rfl, gz⟩)
      go_ret
      exact ⟨rfl, bl_trans G2 gz⟩
    · have hq : nn x < nn y := by
        have h1 : nn x ≠ nn y := fun h => hxy (by have := congrArg (fun z => z) (b_eq x y); rw [h] at this; simpa using this.symm)
        omega
      have t2 : decide (nn x < nn y) = true := by simpa using hq
      have HX := Lib.hid hxy
      have hle : nn x ≤ nn y := by omega
      clear hxy hlt
      go_upto_region 9 with (first
    | ((with_reducible refine (join_any a0 a1 _).mono ?_); rintro e wx ⟨rfl, gx⟩; have qx := R2.next (by assumption) gx; (try clear c1 c2 c3 c4); obtain ⟨c1, c2, c3, c4, _⟩ := qx.cells; (try simp only [tv]))
    | ((with_reducible refine (h_join1 HH.out _).mono ?_); rintro e wx ⟨rfl, gx⟩; have qx := R2.next (by assumption) gx; (try clear c1 c2 c3 c4); obtain ⟨c1, c2, c3, c4, _⟩ := qx.cells; (try simp only [tv]))
    | ((with_reducible refine (h_join2 HH.out _).mono ?_); rintro e wx ⟨rfl, gx⟩; have qx := R2.next (by assumption) gx; (try clear c1 c2 c3 c4); obtain ⟨c1, c2, c3, c4, _⟩ := qx.cells; (try simp only [tv]))
    | ((with_reducible refine (hg.out _).mono ?_); rintro e wx ⟨rfl, gx⟩; have qx := R2.next (by assumption) gx; (try clear c1 c2 c3 c4); obtain ⟨c1, c2, c3, c4, _⟩ := qx.cells; (try simp only [tv]))
    | ((with_reducible refine (hh.out _).mono ?_); rintro e wx ⟨rfl, gx⟩; have qx := R2.next (by assumption) gx; (try clear c1 c2 c3 c4); obtain ⟨c1, c2, c3, c4, _⟩ := qx.cells; (try simp only [tv])))
      clear t1 t2 hle
      have RR2 := ‹R2 w1 _ w.heap.size (w.heap.size + 1) a0 a1›
      go_upto_region 10 with ((with_reducible refine (hm.out _).mono ?_); rintro e wm ⟨rfl, gm⟩; simp only [tv])
      (try clear c1 c2 c3 c4)
      have G2 := bl_trans G1 (bl_trans (R2.below RR2) (bl_alloc gm (.cells #[.int .u64 (nn m.v), .int .u64 (nn m.m)] 24)))
      have hxy := HX.out
      have t3 : (nn x != nn y) = true := by rw [bne, b_eq]; simp [hxy]
      clear hxy
      go_wp2
      go_ret
      exact ⟨rfl, G2⟩
set_option maxHeartbeats 1000000 in
set_option maxRecDepth 100000 in
theorem walk (a0 : T) (a1 : T) (a2 : BitVec 64) (a3 : BitVec 64) (a4 : Int) (w_a4 : (Lit.int .i64 a4).wf = true) (w : World) : Calls Try.prog 4 #[.agg #[.int .u64 (nn a0.v), .int .u64 (nn a0.m)], .agg #[.int .u64 (nn a1.v), .int .u64 (nn a1.m)], .int .u64 (nn a2), .int .u64 (nn a3), .int .i64 a4] w fun e w' => e = .returned (.bool true) ∧ Below w.heap.size w w' := by
  by_cases ha : has a0 a2
  · by_cases hb : has a1 a3
    · have kr : kn a0 = a0 := kn_wf ha.1
      have ks : kn a1 = a1 := kn_wf hb.1
      by_cases hp : apart (kn a0) (kn a1)
      · refine walk3 a0 a1 a2 a3 a4 _ _ (Lib.hid (fun w => meet_no a0 a1 hp w)) ha hb (Or.inl fun h => ?_) w
        rw [kr, ks] at hp
        subst h
        exact (meet_has ha hb).1 hp
      · refine walk3 a0 a1 a2 a3 a4 _ _ (Lib.hid (fun w => meet_yes a0 a1 hp w)) ha hb ?_ w
        by_cases h : a2 = a3
        · subst h
          have := (meet_has ha hb).2
          rw [kr, ks] at hp
          unfold pmeet at this
          rw [if_neg hp] at this
          exact Or.inr ⟨rfl, by rw [kr, ks]; exact this⟩
        · exact Or.inl h
    · exact walk2 a0 a1 a2 a3 a4 ha hb w
  · exact walk1 a0 a1 a2 a3 a4 ha w

set_option maxRecDepth 100000 in
theorem lifted (os : Os) (started : os.Started) (H : Type) (enc : TypeId × Value → H) :
    ReturnsInHanded {} Try.checked os 4 .any (Rows.tnumHoldsSpec.pre6 enc Try.prog Try.f4 Rows.tnumHoldsRow.domain false) (Rows.tnumHoldsSpec.post enc Try.prog Try.f4 false true false false) := by
  refine returnsInHanded_of_change (C := Try.checked) own started (by kernel_rfl) Try.func4
    (ChangeSpec.witness6 (enc := enc) (C := Try.checked) false ⟨#[], #[.agg #[.int .u64 0, .int .u64 0], .agg #[.int .u64 0, .int .u64 0], .int .u64 0, .int .u64 0, .int .i64 0], []⟩ 8 (by kernel_rfl) (by kernel_rfl) (by kernel_rfl) (by kernel_rfl)) ?_
  intro W base args ds gs before hval0 hW hcnd _
  have hval : ∀ (j : Nat) t v, Try.f4.params[j]? = some t → args[j]? = some v → Value.okWide Try.prog W .any base t v := hval0
  have hW' := hW
  obtain ⟨p, q, hA0, hV, rfl, hfz, hnd⟩ := hW
  have hA : DataW.TrodAll enc Try.prog W 0 (fun _ => true) true Try.f4.params.toList args.toList ds p := hA0
  rw [Try.params4] at hA hval
  obtain ⟨v0, vs0, d0, ds0, p0, q0, hargs, rfl, rfl, h0, r0⟩ := trodAll_cons hA
  obtain ⟨v1, vs1, d1, ds1, p1, q1, rfl, rfl, rfl, h1, r1⟩ := trodAll_cons r0
  obtain ⟨v2, vs2, d2, ds2, p2, q2, rfl, rfl, rfl, h2, r2⟩ := trodAll_cons r1
  obtain ⟨v3, vs3, d3, ds3, p3, q3, rfl, rfl, rfl, h3, r3⟩ := trodAll_cons r2
  obtain ⟨v4, vs4, d4, ds4, p4, q4, rfl, rfl, rfl, h4, r4⟩ := trodAll_cons r3
  obtain ⟨rfl, rfl, rfl⟩ := trodAll_nil r4
  obtain rfl : args = #[v0, v1, v2, v3, v4] := by cases args; simp_all
  obtain ⟨rfl, rfl⟩ := trodVars_none hV
  obtain ⟨a0, rfl, rfl, rfl⟩ := open_T (hval 0 24 v0 rfl rfl) h0
  obtain ⟨a1, rfl, rfl, rfl⟩ := open_T (hval 1 24 v1 rfl rfl) h1
  obtain ⟨x2, rfl, rfl, rfl, w2⟩ := open_int Try.underlying22 (hval 2 22 v2 rfl rfl) h2
  obtain ⟨a2, rfl⟩ := open_u64 w2
  obtain ⟨x3, rfl, rfl, rfl, w3⟩ := open_int Try.underlying22 (hval 3 22 v3 rfl rfl) h3
  obtain ⟨a3, rfl⟩ := open_u64 w3
  obtain ⟨a4, rfl, rfl, rfl, w4⟩ := open_int Try.underlying3 (hval 4 3 v4 rfl rfl) h4
  clear hA0 hval0
  simp only [List.append_nil] at hW'
  refine (walk a0 a1 a2 a3 a4 w4 W).mono fun e W' ⟨he, hg⟩ => ?_
  subst he
  exact ⟨_, rfl, post_of_below (pa := []) (pv := []) hW' (fun _ _ _ => (trodAll_cons_mk (shut_bool Try.underlying4 _) trodAll_mk0)) (fun sp _ => (trodAll_cons_mk (shut_T a0) (trodAll_cons_mk (shut_T a1) (trodAll_cons_mk (shut_int Try.underlying22 w2) (trodAll_cons_mk (shut_int Try.underlying22 w3) (trodAll_cons_mk (shut_int Try.underlying3 w4) trodAll_mk0)))))) (fun _ _ => rfl) rfl
    hg (ok_one (by kernel_rfl) rfl (okWide_bool_mk Try.underlying4 _))⟩

theorem over : Rows.tnumHoldsRow.holds Try.pinned (OpenSpec.ofChange Rows.tnumHoldsSpec) :=
  OpenClaim.holds_of_wide 4 Try.f4 rfl rfl rfl rfl rfl rfl rfl ⟨rfl, rfl, rfl, rfl, rfl⟩ rfl rfl rfl rfl rfl (by kernel_rfl) Try.func4 (by kernel_rfl)
    (of_decide_eq_true (by kernel_rfl)) (by unfold Func.isWrapper; first | (rw [if_pos (by decide +kernel)]; kernel_rfl) | (rw [if_neg (by decide +kernel)]; exact ⟨rfl, rfl⟩))
    (fun os started H enc _ => lifted os started H enc)

/-- The statement. -/
theorem proved : Rows.TnumHoldsSaid :=
  over
end Go.Proofs.Ytpmhojfbjhgjpaa.tnumHolds
