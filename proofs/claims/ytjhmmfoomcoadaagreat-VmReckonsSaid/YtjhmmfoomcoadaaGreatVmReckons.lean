/-
  An operation on two registers makes what layer 2 says, a comparison jumps as it says: whatever the numbers are, which are letters in the runs that are reckoned.
-/
import Derived.Test.YtjhmmfoomcoadaaGreatVRD
import Derived.Test.YtjhmmfoomcoadaaGreatVLL
import Derived.Test.YtjhmmfoomcoadaaGreatRows
import Derived.WalkKit
import Derived.ProofKit
import Derived.OpenShut
import Derived.Below
import Derived.Lib.SmallJoins
import Derived.ChangeSame
namespace Go.Proofs.YtjhmmfoomcoadaaGreat.vmReckons
open Go.ChangeShapes Go.WideShapes Go.ChangeAt Go.RowKit Go.Joins Ev
set_option linter.unusedVariables false
set_option linter.unusedSimpArgs false
theorem own : ownKnob Tryz.prog.godebug = none := by kernel_rfl
section
variable {H : Type} {enc : TypeId × Value → H} {P : Program}
theorem post_of_below {f : Func} {s : ChangeSpec} {apart fresh handsOn again : Bool} {W W' : World} {args : Array Value} {v : Value} {ds gs : List (DataW H)} {before pa pv : List MemPlace}
    (hW : DataW.Whole enc P f.params.toList s.vars apart W args.toList ds gs before)
    (hres : ∀ (b : Nat) (sp : Nat → Bool) (hd : Bool), DataW.TrodAll enc P W' b sp hd f.resultTypes.toList (v.resultList f.resultTypes.size) (s.fn H (ds ++ gs)).results [])
    (hargs : ∀ sp : Nat → Bool, (∀ p ∈ before, sp p.block = true) → DataW.TrodAll enc P W' 0 sp true f.params.toList args.toList (s.fn H (ds ++ gs)).args pa)
    (hvars : ∀ sp : Nat → Bool, (∀ p ∈ before, sp p.block = true) → DataW.TrodVars enc P W' sp s.vars (s.fn H (ds ++ gs)).vars pv)
    (hps : before = pa ++ pv) (hb : Below W.heap.size W W')
    (hok : ∀ (j : Nat) (t : TypeId) (r : Value), f.resultTypes[j]? = some t → (v.resultList f.resultTypes.size)[j]? = some r → Value.okWide P W' .any 0 t r) :
    s.post enc P f apart fresh handsOn again W args v W' := by
  have hlt : ∀ p ∈ before, p.block < W.heap.size := fun p hp => hW.lt p hp
  have hold : ∀ p ∈ before, (fun b => decide (b < W.heap.size)) p.block = true := fun p hp => by simpa using hlt p hp
  refine ⟨ds, gs, before, [], pa, pv, hW, hres _ _ _, hargs _ hold, hvars _ hold, World.keptBut_mono (fun p hp => ⟨hp, ?_⟩) (hb.frame (· ∈ before)), fun _ => ?_⟩
  · rw [hps, List.mem_append] at hp
    exact Or.inr hp
  · obtain ⟨_, _, _, _, _, hz, hn⟩ := hW
    refine ⟨hok, _, _, ([] ++ pa) ++ pv, ⟨[] ++ pa, pv, trodAll_append (hargs _ (fun _ _ => rfl)) (hres _ _ _), hvars _ (fun _ _ => rfl), rfl, ?_, ?_⟩, ?_⟩
    · intro b off hp
      have hin : MemPlace.cell b off ∈ before := by rw [hps]; simpa using hp
      rw [hb.frozen (hlt _ hin)]
      exact hz b off hin
    · intro ha
      have := hn ha
      rw [hps] at this
      simpa using this
    · intro p hp _
      rw [hps]
      simpa using hp
end
theorem i64_wf {n : Int} (h : (Lit.int .i64 n).wf = true) : -9223372036854775808 ≤ n ∧ n ≤ 9223372036854775807 := by
  simp [Lit.wf, IntKind.min, IntKind.max, IntKind.signed, IntKind.bits] at h
  exact h
theorem u64_wf {n : Int} (h : (Lit.int .u64 n).wf = true) : 0 ≤ n ∧ n ≤ 18446744073709551615 := by
  simp [Lit.wf, IntKind.min, IntKind.max, IntKind.signed, IntKind.bits] at h
  exact h
theorem walk (o c : Int) (x : Bool) (a b : Int) (wo : (Lit.int .i64 o).wf = true) (wc : (Lit.int .i64 c).wf = true) (wa : (Lit.int .u64 a).wf = true) (wb : (Lit.int .u64 b).wf = true) (w : World) :
    Calls Tryz.prog 4 #[.int .i64 o, .int .i64 c, .bool x, .int .u64 a, .int .u64 b] w fun e w' => e = .returned (.bool true) ∧ Below w.heap.size w w' := by
  have ho := i64_wf wo
  have hc := i64_wf wc
  have ha := u64_wf wa
  have hb := u64_wf wb
  have B : ∃ p1, (∀ m : Bm, @V (En5 o c a b) m p1 (.int .i64 c)) ∧ @Ev.Ends (En5 o c a b) d9 (T2 p1 x) H2 := by
    by_cases h0 : c < 0
    · exact ⟨qLo, fun m => @V.sy (En5 o c a b) m .i64 (-9223372036854775808) (-1) (.v 1) (show -9223372036854775808 ≤ c from hc.1) (show c ≤ -1 by omega), tt_qLo ha hb x⟩
    by_cases h1 : 13 < c
    · exact ⟨qHi, fun m => @V.sy (En5 o c a b) m .i64 14 9223372036854775807 (.v 1) (show 14 ≤ c by omega) (show c ≤ 9223372036854775807 from hc.2), tt_qHi ha hb x⟩
    have : c = 0 ∨ c = 1 ∨ c = 2 ∨ c = 3 ∨ c = 4 ∨ c = 5 ∨ c = 6 ∨ c = 7 ∨ c = 8 ∨ c = 9 ∨ c = 10 ∨ c = 11 ∨ c = 12 ∨ c = 13 := by omega
    rcases this with rfl | rfl | rfl | rfl | rfl | rfl | rfl | rfl | rfl | rfl | rfl | rfl | rfl | rfl
    · exact ⟨.it .i64 0, fun m => @V.it (En5 o 0 a b) m .i64 0, tt_0 ha hb x⟩
    · exact ⟨.it .i64 1, fun m => @V.it (En5 o 1 a b) m .i64 1, tt_1 ha hb x⟩
    · exact ⟨.it .i64 2, fun m => @V.it (En5 o 2 a b) m .i64 2, tt_2 ha hb x⟩
    · exact ⟨.it .i64 3, fun m => @V.it (En5 o 3 a b) m .i64 3, tt_3 ha hb x⟩
    · exact ⟨.it .i64 4, fun m => @V.it (En5 o 4 a b) m .i64 4, tt_4 ha hb x⟩
    · exact ⟨.it .i64 5, fun m => @V.it (En5 o 5 a b) m .i64 5, tt_5 ha hb x⟩
    · exact ⟨.it .i64 6, fun m => @V.it (En5 o 6 a b) m .i64 6, tt_6 ha hb x⟩
    · exact ⟨.it .i64 7, fun m => @V.it (En5 o 7 a b) m .i64 7, tt_7 ha hb x⟩
    · exact ⟨.it .i64 8, fun m => @V.it (En5 o 8 a b) m .i64 8, tt_8 ha hb x⟩
    · exact ⟨.it .i64 9, fun m => @V.it (En5 o 9 a b) m .i64 9, tt_9 ha hb x⟩
    · exact ⟨.it .i64 10, fun m => @V.it (En5 o 10 a b) m .i64 10, tt_10 ha hb x⟩
    · exact ⟨.it .i64 11, fun m => @V.it (En5 o 11 a b) m .i64 11, tt_11 ha hb x⟩
    · exact ⟨.it .i64 12, fun m => @V.it (En5 o 12 a b) m .i64 12, tt_12 ha hb x⟩
    · exact ⟨.it .i64 13, fun m => @V.it (En5 o 13 a b) m .i64 13, tt_13 ha hb x⟩
  obtain ⟨p1, hp1, gB⟩ := B
  have fin' : ∀ p0, (∀ m : Bm, @V (En5 o c a b) m p0 (.int .i64 o)) → @Ev.Ends (En5 o c a b) d2 (T1 p0 p1 (.bl x) sa sb) ⟨.lf, 1197⟩ → Calls Tryz.prog 4 #[.int .i64 o, .int .i64 c, .bool x, .int .u64 a, .int .u64 b] w fun e w' => e = .returned (.bool true) ∧ Below w.heap.size w w' := by
    intro p0 h0 g
    exact fin (E := En5 o c a b) (l := [.int .i64 o, .int .i64 c, .bool x, .int .u64 a, .int .u64 b]) (fun m => @VL.cons (En5 o c a b) m _ _ _ _ (h0 m) (@VL.cons (En5 o c a b) m _ _ _ _ (hp1 m) (@VL.cons (En5 o c a b) m _ _ _ _ (@V.bl (En5 o c a b) m x)
      (@VL.cons (En5 o c a b) m _ _ _ _ (@V.sy (En5 o c a b) m .u64 0 18446744073709551615 (.v 2) ha.1 ha.2) (@VL.cons (En5 o c a b) m _ _ _ _ (@V.sy (En5 o c a b) m .u64 0 18446744073709551615 (.v 3) hb.1 hb.2) (@VL.nil (En5 o c a b) m)))))) g w
  by_cases h0 : o < 0
  · exact fin' pLo (fun m => @V.sy (En5 o c a b) m .i64 (-9223372036854775808) (-1) (.v 0) (show -9223372036854775808 ≤ o from ho.1) (show o ≤ -1 by omega)) (goE (E := En5 o c a b) (e_lo p1 _ _ _))
  by_cases h1 : 12 < o
  · exact fin' pHi (fun m => @V.sy (En5 o c a b) m .i64 13 9223372036854775807 (.v 0) (show 13 ≤ o by omega) (show o ≤ 9223372036854775807 from ho.2)) (goE (E := En5 o c a b) (e_hi p1 _ _ _))
  have : o = 0 ∨ o = 1 ∨ o = 2 ∨ o = 3 ∨ o = 4 ∨ o = 5 ∨ o = 6 ∨ o = 7 ∨ o = 8 ∨ o = 9 ∨ o = 10 ∨ o = 11 ∨ o = 12 := by omega
  rcases this with rfl | rfl | rfl | rfl | rfl | rfl | rfl | rfl | rfl | rfl | rfl | rfl | rfl
  · exact fin' (.it .i64 0) (fun m => @V.it (En5 0 c a b) m .i64 0) (st0 ha hb gB)
  · exact fin' (.it .i64 1) (fun m => @V.it (En5 1 c a b) m .i64 1) (st1 ha hb gB)
  · exact fin' (.it .i64 2) (fun m => @V.it (En5 2 c a b) m .i64 2) (st2 ha hb gB)
  · exact fin' (.it .i64 3) (fun m => @V.it (En5 3 c a b) m .i64 3) (st3 ha hb gB)
  · exact fin' (.it .i64 4) (fun m => @V.it (En5 4 c a b) m .i64 4) (st4 ha hb gB)
  · exact fin' (.it .i64 5) (fun m => @V.it (En5 5 c a b) m .i64 5) (st5 ha hb gB)
  · exact fin' (.it .i64 6) (fun m => @V.it (En5 6 c a b) m .i64 6) (st6 ha hb gB)
  · exact fin' (.it .i64 7) (fun m => @V.it (En5 7 c a b) m .i64 7) (st7 ha hb gB)
  · exact fin' (.it .i64 8) (fun m => @V.it (En5 8 c a b) m .i64 8) (goE (E := En5 8 c a b) (e_8 p1 _ _ _))
  · exact fin' (.it .i64 9) (fun m => @V.it (En5 9 c a b) m .i64 9) (st9 ha hb gB)
  · exact fin' (.it .i64 10) (fun m => @V.it (En5 10 c a b) m .i64 10) (st10 ha hb gB)
  · exact fin' (.it .i64 11) (fun m => @V.it (En5 11 c a b) m .i64 11) (st11 ha hb gB)
  · exact fin' (.it .i64 12) (fun m => @V.it (En5 12 c a b) m .i64 12) (st12 ha hb gB)
set_option maxRecDepth 100000 in
theorem lifted (os : Os) (started : os.Started) (H : Type) (enc : TypeId × Value → H) :
    ReturnsInHanded {} Tryz.checked os 4 .any (Rows.vmReckonsSpec.pre6 enc Tryz.prog Tryz.f4 Rows.vmReckonsRow.domain false) (Rows.vmReckonsSpec.post enc Tryz.prog Tryz.f4 false true false false) := by
  refine returnsInHanded_of_change (C := Tryz.checked) own started (by kernel_rfl) Tryz.func4
    (ChangeSpec.witness6 (enc := enc) (C := Tryz.checked) false ⟨#[], #[.int .i64 0, .int .i64 0, .bool false, .int .u64 0, .int .u64 0], []⟩ 8 (by kernel_rfl) (by kernel_rfl) (by kernel_rfl) (by kernel_rfl)) ?_
  intro W base args ds gs before hval0 hW hcnd _
  have hval : ∀ (j : Nat) t v, Tryz.f4.params[j]? = some t → args[j]? = some v → Value.okWide Tryz.prog W .any base t v := hval0
  have hW' := hW
  obtain ⟨p, q, hA0, hV, rfl, hfz, hnd⟩ := hW
  have hA : DataW.TrodAll enc Tryz.prog W 0 (fun _ => true) true Tryz.f4.params.toList args.toList ds p := hA0
  rw [Tryz.params4] at hA hval
  obtain ⟨v0, vs0, d0, ds0, p0, q0, hargs, rfl, rfl, h0, r0⟩ := trodAll_cons hA
  obtain ⟨v1, vs1, d1, ds1, p1, q1, rfl, rfl, rfl, h1, r1⟩ := trodAll_cons r0
  obtain ⟨v2, vs2, d2, ds2, p2, q2, rfl, rfl, rfl, h2, r2⟩ := trodAll_cons r1
  obtain ⟨v3, vs3, d3, ds3, p3, q3, rfl, rfl, rfl, h3, r3⟩ := trodAll_cons r2
  obtain ⟨v4, vs4, d4, ds4, p4, q4, rfl, rfl, rfl, h4, r4⟩ := trodAll_cons r3
  obtain ⟨rfl, rfl, rfl⟩ := trodAll_nil r4
  obtain rfl : args = #[v0, v1, v2, v3, v4] := by cases args; simp_all
  obtain ⟨rfl, rfl⟩ := trodVars_none hV
  obtain ⟨a0, rfl, rfl, rfl, w0⟩ := open_int Tryz.underlying3 (hval 0 3 v0 rfl rfl) h0
  obtain ⟨a1, rfl, rfl, rfl, w1⟩ := open_int Tryz.underlying3 (hval 1 3 v1 rfl rfl) h1
  obtain ⟨a2, rfl, rfl, rfl⟩ := open_bool Tryz.underlying4 (hval 2 4 v2 rfl rfl) h2
  obtain ⟨a3, rfl, rfl, rfl, w3⟩ := open_int Tryz.underlying25 (hval 3 25 v3 rfl rfl) h3
  obtain ⟨a4, rfl, rfl, rfl, w4⟩ := open_int Tryz.underlying25 (hval 4 25 v4 rfl rfl) h4
  clear hA0 hval0
  simp only [List.append_nil] at hW'
  refine (walk a0 a1 a2 a3 a4 w0 w1 w3 w4 W).mono fun e W' ⟨he, hg⟩ => ?_
  subst he
  exact ⟨_, rfl, post_of_below (pa := []) (pv := []) hW' (fun _ _ _ => (trodAll_cons_mk (shut_bool Tryz.underlying4 _) trodAll_mk0))
    (fun sp _ => (trodAll_cons_mk (shut_int Tryz.underlying3 w0) (trodAll_cons_mk (shut_int Tryz.underlying3 w1) (trodAll_cons_mk (shut_bool Tryz.underlying4 _) (trodAll_cons_mk (shut_int Tryz.underlying25 w3) (trodAll_cons_mk (shut_int Tryz.underlying25 w4) trodAll_mk0)))))) (fun _ _ => rfl) rfl
    hg (ok_one (by kernel_rfl) rfl (okWide_bool_mk Tryz.underlying4 _))⟩
theorem j_named : Tryz.pinned.checked.prog.funcNamed Rows.vmReckonsRow.func = some 4 := by kernel_rfl
theorem j_wrap : Tryz.f4.isWrapper Tryz.pinned.checked.prog Rows.vmReckonsRow.wrapper Rows.vmReckonsRow.mainSum := by unfold Func.isWrapper; first | (rw [if_pos (by decide +kernel)]; kernel_rfl) | (rw [if_neg (by decide +kernel)]; exact ⟨rfl, rfl⟩)
theorem over : Rows.vmReckonsRow.holds Tryz.pinned (OpenSpec.ofChange Rows.vmReckonsSpec) :=
  OpenClaim.holds_of_wide 4 Tryz.f4 rfl rfl rfl rfl rfl rfl rfl ⟨rfl, rfl, rfl, rfl, rfl⟩ rfl rfl rfl rfl rfl j_named Tryz.func4 j_closed
    (of_decide_eq_true (by kernel_rfl)) j_wrap
    (fun os started H enc _ => lifted os started H enc)
/-- The statement. -/
theorem proved : Rows.VmReckonsSaid :=
  over
end Go.Proofs.YtjhmmfoomcoadaaGreat.vmReckons
