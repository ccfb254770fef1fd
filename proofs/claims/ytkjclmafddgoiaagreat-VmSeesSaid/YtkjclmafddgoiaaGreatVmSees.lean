/-
  What is written to a map from outside a program reads, and what a program writes is read from outside: whatever the key, the number and the byte that is read; the numbers and their digits are letters in the runs that are reckoned.
-/
import Derived.Test.YtkjclmafddgoiaaGreatVSC
import Derived.Test.YtkjclmafddgoiaaGreatVSLL
import Derived.Test.YtkjclmafddgoiaaGreatRows
import Derived.WalkKit
import Derived.ProofKit
import Derived.OpenShut
import Derived.Below
import Derived.Lib.SmallJoins
import Derived.ChangeSame
namespace Go.Proofs.YtkjclmafddgoiaaGreat.vmSees
open Go.ChangeShapes Go.WideShapes Go.ChangeAt Go.RowKit Go.Joins Ev
set_option linter.unusedVariables false
set_option linter.unusedSimpArgs false
theorem own : ownKnob Tryz.prog.godebug = none := by kernel_rfl
section
variable {H : Type} {enc : TypeId × Value → H} {P : Program}
theorem post_of_below {f : Func} {s : ChangeSpec} {apart fresh handsOn again : Bool} {W W' : World} {args : Array Value} {v : Value} {ds gs : List (DataW H)} {before pa pv : List MemPlace}
    (hW : DataW.Whole enc P f.params.toList s.vars apart W args.toList ds gs before)
    (hres : ∀ (b : Nat) (sp : Nat → Bool) (hd : Bool), DataW.TrodAll enc P W' b sp hd f.resultTypes.toList (v.resultList f.resultTypes.size) (s.fn H (ds ++ gs)).results [])
    (hargs : ∀ sp : Nat → Bool, (∀ p ∈ before, sp p.block = true) → DataW.TrodAll enc P W' 0 sp true f.params.toList args.toList (s.fn H (ds ++ gs)).args pa)
    (hvars : ∀ sp : Nat → Bool, (∀ p ∈ before, sp p.block = true) → DataW.TrodVars enc P W' sp s.vars (s.fn H (ds ++ gs)).vars pv)
    (hps : before = pa ++ pv) (hb : Below W.heap.size W W')
    (hok : ∀ (j : Nat) (t : TypeId) (r : Value), f.resultTypes[j]? = some t → (v.resultList f.resultTypes.size)[j]? = some r → Value.okWide P W' .any 0 t r) :
    s.post enc P f apart fresh handsOn again W args v W' := by
  have hlt : ∀ p ∈ before, p.block < W.heap.size := fun p hp => hW.lt p hp
  have hold : ∀ p ∈ before, (fun b => decide (b < W.heap.size)) p.block = true := fun p hp => by simpa using hlt p hp
  refine ⟨ds, gs, before, [], pa, pv, hW, hres _ _ _, hargs _ hold, hvars _ hold, World.keptBut_mono (fun p hp => ⟨hp, ?_⟩) (hb.frame (· ∈ before)), fun _ => ?_⟩
  · rw [hps, List.mem_append] at hp
    exact Or.inr hp
  · obtain ⟨_, _, _, _, _, hz, hn⟩ := hW
    refine ⟨hok, _, _, ([] ++ pa) ++ pv, ⟨[] ++ pa, pv, trodAll_append (hargs _ (fun _ _ => rfl)) (hres _ _ _), hvars _ (fun _ _ => rfl), rfl, ?_, ?_⟩, ?_⟩
    · intro b off hp
      have hin : MemPlace.cell b off ∈ before := by rw [hps]; simpa using hp
      rw [hb.frozen (hlt _ hin)]
      exact hz b off hin
    · intro ha
      have := hn ha
      rw [hps] at this
      simpa using this
    · intro p hp _
      rw [hps]
      simpa using hp
end
theorem i64_wf {n : Int} (h : (Lit.int .i64 n).wf = true) : -9223372036854775808 ≤ n ∧ n ≤ 9223372036854775807 := by
  simp [Lit.wf, IntKind.min, IntKind.max, IntKind.signed, IntKind.bits] at h
  exact h
theorem i32_wf {n : Int} (h : (Lit.int .i32 n).wf = true) : -2147483648 ≤ n ∧ n ≤ 2147483647 := by
  simp [Lit.wf, IntKind.min, IntKind.max, IntKind.signed, IntKind.bits] at h
  exact h
theorem u64_wf {n : Int} (h : (Lit.int .u64 n).wf = true) : 0 ≤ n ∧ n ≤ 18446744073709551615 := by
  simp [Lit.wf, IntKind.min, IntKind.max, IntKind.signed, IntKind.bits] at h
  exact h
theorem walk (k v o : Int) (wk : (Lit.int .i32 k).wf = true) (wv : (Lit.int .u64 v).wf = true) (wo : (Lit.int .i64 o).wf = true) (w : World) :
    Calls Tryz.prog 3 #[.int .i32 k, .int .u64 v, .int .i64 o] w fun e w' => e = .returned (.bool true) ∧ Below w.heap.size w w' := by
  have hk := i32_wf wk
  have hv := u64_wf wv
  have ho := i64_wf wo
  have fin' : ∀ (p0 p2 : PV), (∀ m : Bm, @V (En4 k v o (nOf v)) m p0 (.int .i32 k)) → (∀ m : Bm, @V (En4 k v o (nOf v)) m p2 (.int .i64 o)) → @Ev.Done (En4 k v o (nOf v)) d2 (T1 p0 sv p2) ⟨.lf, 1197⟩ → Calls Tryz.prog 3 #[.int .i32 k, .int .u64 v, .int .i64 o] w fun e w' => e = .returned (.bool true) ∧ Below w.heap.size w w' := by
    intro p0 p2 h0 h2 g
    exact fin (E := En4 k v o (nOf v)) (l := [.int .i32 k, .int .u64 v, .int .i64 o]) (fun m => @VL.cons (En4 k v o (nOf v)) m _ _ _ _ (h0 m) (@VL.cons (En4 k v o (nOf v)) m _ _ _ _ (@V.sy (En4 k v o (nOf v)) m .u64 0 18446744073709551615 (.v 0) hv.1 hv.2)
      (@VL.cons (En4 k v o (nOf v)) m _ _ _ _ (h2 m) (@VL.nil (En4 k v o (nOf v)) m)))) g w
  have hO : ∀ m : Bm, @V (En4 k v o (nOf v)) m (.sy .i64 (-9223372036854775808) 9223372036854775807 (.v 3)) (.int .i64 o) := fun m => @V.sy (En4 k v o (nOf v)) m .i64 (-9223372036854775808) 9223372036854775807 (.v 3) ho.1 ho.2
  by_cases h0 : k < 0
  · exact fin' kLo _ (fun m => @V.sy (En4 k v o (nOf v)) m .i32 (-2147483648) (-1) (.v 2) (show -2147483648 ≤ k from hk.1) (show k ≤ -1 by omega)) hO (goT (E := En4 k v o (nOf v)) (noFs_ok (E := En4 k v o (nOf v))) (e_klo sv _))
  by_cases h1 : 3 < k
  · exact fin' kHi _ (fun m => @V.sy (En4 k v o (nOf v)) m .i32 4 2147483647 (.v 2) (show 4 ≤ k by omega) (show k ≤ 2147483647 from hk.2)) hO (goT (E := En4 k v o (nOf v)) (noFs_ok (E := En4 k v o (nOf v))) (e_khi sv _))
  have hK : ∀ m : Bm, @V (En4 k v o (nOf v)) m kIn (.int .i32 k) := fun m => @V.sy (En4 k v o (nOf v)) m .i32 0 3 (.v 2) (show 0 ≤ k by omega) (show k ≤ 3 by omega)
  by_cases h2 : o < 0
  · exact fin' kIn oLo hK (fun m => @V.sy (En4 k v o (nOf v)) m .i64 (-9223372036854775808) (-1) (.v 3) (show -9223372036854775808 ≤ o from ho.1) (show o ≤ -1 by omega)) (goT (E := En4 k v o (nOf v)) (noFs_ok (E := En4 k v o (nOf v))) (e_olo sv))
  by_cases h3 : 7 < o
  · exact fin' kIn oHi hK (fun m => @V.sy (En4 k v o (nOf v)) m .i64 8 9223372036854775807 (.v 3) (show 8 ≤ o by omega) (show o ≤ 9223372036854775807 from ho.2)) (goT (E := En4 k v o (nOf v)) (noFs_ok (E := En4 k v o (nOf v))) (e_ohi sv))
  obtain ⟨u, rfl⟩ := Int.eq_ofNat_of_zero_le hv.1
  have hu : u < 18446744073709551616 := by omega
  have c1 : k = 0 ∨ k = 1 ∨ k = 2 ∨ k = 3 := by omega
  have c2 : o = 0 ∨ o = 1 ∨ o = 2 ∨ o = 3 ∨ o = 4 ∨ o = 5 ∨ o = 6 ∨ o = 7 := by omega
  rcases c1 with rfl | rfl | rfl | rfl
  · rcases c2 with rfl | rfl | rfl | rfl | rfl | rfl | rfl | rfl
    · exact fin' (.it .i32 0) (.it .i64 0) (fun m => @V.it (En4 0 u 0 (nOf u)) m .i32 0) (fun m => @V.it (En4 0 u 0 (nOf u)) m .i64 0) (a_0_0 hu)
    · exact fin' (.it .i32 0) (.it .i64 1) (fun m => @V.it (En4 0 u 1 (nOf u)) m .i32 0) (fun m => @V.it (En4 0 u 1 (nOf u)) m .i64 1) (a_0_1 hu)
    · exact fin' (.it .i32 0) (.it .i64 2) (fun m => @V.it (En4 0 u 2 (nOf u)) m .i32 0) (fun m => @V.it (En4 0 u 2 (nOf u)) m .i64 2) (a_0_2 hu)
    · exact fin' (.it .i32 0) (.it .i64 3) (fun m => @V.it (En4 0 u 3 (nOf u)) m .i32 0) (fun m => @V.it (En4 0 u 3 (nOf u)) m .i64 3) (a_0_3 hu)
    · exact fin' (.it .i32 0) (.it .i64 4) (fun m => @V.it (En4 0 u 4 (nOf u)) m .i32 0) (fun m => @V.it (En4 0 u 4 (nOf u)) m .i64 4) (a_0_4 hu)
    · exact fin' (.it .i32 0) (.it .i64 5) (fun m => @V.it (En4 0 u 5 (nOf u)) m .i32 0) (fun m => @V.it (En4 0 u 5 (nOf u)) m .i64 5) (a_0_5 hu)
    · exact fin' (.it .i32 0) (.it .i64 6) (fun m => @V.it (En4 0 u 6 (nOf u)) m .i32 0) (fun m => @V.it (En4 0 u 6 (nOf u)) m .i64 6) (a_0_6 hu)
    · exact fin' (.it .i32 0) (.it .i64 7) (fun m => @V.it (En4 0 u 7 (nOf u)) m .i32 0) (fun m => @V.it (En4 0 u 7 (nOf u)) m .i64 7) (a_0_7 hu)
  · rcases c2 with rfl | rfl | rfl | rfl | rfl | rfl | rfl | rfl
    · exact fin' (.it .i32 1) (.it .i64 0) (fun m => @V.it (En4 1 u 0 (nOf u)) m .i32 1) (fun m => @V.it (En4 1 u 0 (nOf u)) m .i64 0) (a_1_0 hu)
    · exact fin' (.it .i32 1) (.it .i64 1) (fun m => @V.it (En4 1 u 1 (nOf u)) m .i32 1) (fun m => @V.it (En4 1 u 1 (nOf u)) m .i64 1) (a_1_1 hu)
    · exact fin' (.it .i32 1) (.it .i64 2) (fun m => @V.it (En4 1 u 2 (nOf u)) m .i32 1) (fun m => @V.it (En4 1 u 2 (nOf u)) m .i64 2) (a_1_2 hu)
    · exact fin' (.it .i32 1) (.it .i64 3) (fun m => @V.it (En4 1 u 3 (nOf u)) m .i32 1) (fun m => @V.it (En4 1 u 3 (nOf u)) m .i64 3) (a_1_3 hu)
    · exact fin' (.it .i32 1) (.it .i64 4) (fun m => @V.it (En4 1 u 4 (nOf u)) m .i32 1) (fun m => @V.it (En4 1 u 4 (nOf u)) m .i64 4) (a_1_4 hu)
    · exact fin' (.it .i32 1) (.it .i64 5) (fun m => @V.it (En4 1 u 5 (nOf u)) m .i32 1) (fun m => @V.it (En4 1 u 5 (nOf u)) m .i64 5) (a_1_5 hu)
    · exact fin' (.it .i32 1) (.it .i64 6) (fun m => @V.it (En4 1 u 6 (nOf u)) m .i32 1) (fun m => @V.it (En4 1 u 6 (nOf u)) m .i64 6) (a_1_6 hu)
    · exact fin' (.it .i32 1) (.it .i64 7) (fun m => @V.it (En4 1 u 7 (nOf u)) m .i32 1) (fun m => @V.it (En4 1 u 7 (nOf u)) m .i64 7) (a_1_7 hu)
  · rcases c2 with rfl | rfl | rfl | rfl | rfl | rfl | rfl | rfl
    · exact fin' (.it .i32 2) (.it .i64 0) (fun m => @V.it (En4 2 u 0 (nOf u)) m .i32 2) (fun m => @V.it (En4 2 u 0 (nOf u)) m .i64 0) (a_2_0 hu)
    · exact fin' (.it .i32 2) (.it .i64 1) (fun m => @V.it (En4 2 u 1 (nOf u)) m .i32 2) (fun m => @V.it (En4 2 u 1 (nOf u)) m .i64 1) (a_2_1 hu)
    · exact fin' (.it .i32 2) (.it .i64 2) (fun m => @V.it (En4 2 u 2 (nOf u)) m .i32 2) (fun m => @V.it (En4 2 u 2 (nOf u)) m .i64 2) (a_2_2 hu)
    · exact fin' (.it .i32 2) (.it .i64 3) (fun m => @V.it (En4 2 u 3 (nOf u)) m .i32 2) (fun m => @V.it (En4 2 u 3 (nOf u)) m .i64 3) (a_2_3 hu)
    · exact fin' (.it .i32 2) (.it .i64 4) (fun m => @V.it (En4 2 u 4 (nOf u)) m .i32 2) (fun m => @V.it (En4 2 u 4 (nOf u)) m .i64 4) (a_2_4 hu)
    · exact fin' (.it .i32 2) (.it .i64 5) (fun m => @V.it (En4 2 u 5 (nOf u)) m .i32 2) (fun m => @V.it (En4 2 u 5 (nOf u)) m .i64 5) (a_2_5 hu)
    · exact fin' (.it .i32 2) (.it .i64 6) (fun m => @V.it (En4 2 u 6 (nOf u)) m .i32 2) (fun m => @V.it (En4 2 u 6 (nOf u)) m .i64 6) (a_2_6 hu)
    · exact fin' (.it .i32 2) (.it .i64 7) (fun m => @V.it (En4 2 u 7 (nOf u)) m .i32 2) (fun m => @V.it (En4 2 u 7 (nOf u)) m .i64 7) (a_2_7 hu)
  · rcases c2 with rfl | rfl | rfl | rfl | rfl | rfl | rfl | rfl
    · exact fin' (.it .i32 3) (.it .i64 0) (fun m => @V.it (En4 3 u 0 (nOf u)) m .i32 3) (fun m => @V.it (En4 3 u 0 (nOf u)) m .i64 0) (a_3_0 hu)
    · exact fin' (.it .i32 3) (.it .i64 1) (fun m => @V.it (En4 3 u 1 (nOf u)) m .i32 3) (fun m => @V.it (En4 3 u 1 (nOf u)) m .i64 1) (a_3_1 hu)
    · exact fin' (.it .i32 3) (.it .i64 2) (fun m => @V.it (En4 3 u 2 (nOf u)) m .i32 3) (fun m => @V.it (En4 3 u 2 (nOf u)) m .i64 2) (a_3_2 hu)
    · exact fin' (.it .i32 3) (.it .i64 3) (fun m => @V.it (En4 3 u 3 (nOf u)) m .i32 3) (fun m => @V.it (En4 3 u 3 (nOf u)) m .i64 3) (a_3_3 hu)
    · exact fin' (.it .i32 3) (.it .i64 4) (fun m => @V.it (En4 3 u 4 (nOf u)) m .i32 3) (fun m => @V.it (En4 3 u 4 (nOf u)) m .i64 4) (a_3_4 hu)
    · exact fin' (.it .i32 3) (.it .i64 5) (fun m => @V.it (En4 3 u 5 (nOf u)) m .i32 3) (fun m => @V.it (En4 3 u 5 (nOf u)) m .i64 5) (a_3_5 hu)
    · exact fin' (.it .i32 3) (.it .i64 6) (fun m => @V.it (En4 3 u 6 (nOf u)) m .i32 3) (fun m => @V.it (En4 3 u 6 (nOf u)) m .i64 6) (a_3_6 hu)
    · exact fin' (.it .i32 3) (.it .i64 7) (fun m => @V.it (En4 3 u 7 (nOf u)) m .i32 3) (fun m => @V.it (En4 3 u 7 (nOf u)) m .i64 7) (a_3_7 hu)
set_option maxRecDepth 100000 in
theorem lifted (os : Os) (started : os.Started) (H : Type) (enc : TypeId × Value → H) :
    ReturnsInHanded {} Tryz.checked os 3 .any (Rows.vmSeesSpec.pre6 enc Tryz.prog Tryz.f3 Rows.vmSeesRow.domain false) (Rows.vmSeesSpec.post enc Tryz.prog Tryz.f3 false true false false) := by
  refine returnsInHanded_of_change (C := Tryz.checked) own started (by kernel_rfl) Tryz.func3
    (ChangeSpec.witness6 (enc := enc) (C := Tryz.checked) false ⟨#[], #[.int .i32 0, .int .u64 0, .int .i64 0], []⟩ 8 (by kernel_rfl) (by kernel_rfl) (by kernel_rfl) (by kernel_rfl)) ?_
  intro W base args ds gs before hval0 hW hcnd _
  have hval : ∀ (j : Nat) t v, Tryz.f3.params[j]? = some t → args[j]? = some v → Value.okWide Tryz.prog W .any base t v := hval0
  have hW' := hW
  obtain ⟨p, q, hA0, hV, rfl, hfz, hnd⟩ := hW
  have hA : DataW.TrodAll enc Tryz.prog W 0 (fun _ => true) true Tryz.f3.params.toList args.toList ds p := hA0
  rw [Tryz.params3] at hA hval
  obtain ⟨v0, vs0, d0, ds0, p0, q0, hargs, rfl, rfl, h0, r0⟩ := trodAll_cons hA
  obtain ⟨v1, vs1, d1, ds1, p1, q1, rfl, rfl, rfl, h1, r1⟩ := trodAll_cons r0
  obtain ⟨v2, vs2, d2, ds2, p2, q2, rfl, rfl, rfl, h2, r2⟩ := trodAll_cons r1
  obtain ⟨rfl, rfl, rfl⟩ := trodAll_nil r2
  obtain rfl : args = #[v0, v1, v2] := by cases args; simp_all
  obtain ⟨rfl, rfl⟩ := trodVars_none hV
  obtain ⟨a0, rfl, rfl, rfl, w0⟩ := open_int Tryz.underlying21 (hval 0 21 v0 rfl rfl) h0
  obtain ⟨a1, rfl, rfl, rfl, w1⟩ := open_int Tryz.underlying22 (hval 1 22 v1 rfl rfl) h1
  obtain ⟨a2, rfl, rfl, rfl, w2⟩ := open_int Tryz.underlying3 (hval 2 3 v2 rfl rfl) h2
  clear hA0 hval0
  simp only [List.append_nil] at hW'
  refine (walk a0 a1 a2 w0 w1 w2 W).mono fun e W' ⟨he, hg⟩ => ?_
  subst he
  exact ⟨_, rfl, post_of_below (pa := []) (pv := []) hW' (fun _ _ _ => (trodAll_cons_mk (shut_bool Tryz.underlying4 _) trodAll_mk0))
    (fun sp _ => (trodAll_cons_mk (shut_int Tryz.underlying21 w0) (trodAll_cons_mk (shut_int Tryz.underlying22 w1) (trodAll_cons_mk (shut_int Tryz.underlying3 w2) trodAll_mk0)))) (fun _ _ => rfl) rfl
    hg (ok_one (by kernel_rfl) rfl (okWide_bool_mk Tryz.underlying4 _))⟩
theorem j_named : Tryz.pinned.checked.prog.funcNamed Rows.vmSeesRow.func = some 3 := by kernel_rfl
theorem j_wrap : Tryz.f3.isWrapper Tryz.pinned.checked.prog Rows.vmSeesRow.wrapper Rows.vmSeesRow.mainSum := by unfold Func.isWrapper; first | (rw [if_pos (by decide +kernel)]; kernel_rfl) | (rw [if_neg (by decide +kernel)]; exact ⟨rfl, rfl⟩)
theorem over : Rows.vmSeesRow.holds Tryz.pinned (OpenSpec.ofChange Rows.vmSeesSpec) :=
  OpenClaim.holds_of_wide 3 Tryz.f3 rfl rfl rfl rfl rfl rfl rfl ⟨rfl, rfl, rfl, rfl, rfl⟩ rfl rfl rfl rfl rfl j_named Tryz.func3 j_closed
    (of_decide_eq_true (by kernel_rfl)) j_wrap
    (fun os started H enc _ => lifted os started H enc)
/-- The statement. -/
theorem proved : Rows.VmSeesSaid :=
  over
end Go.Proofs.YtkjclmafddgoiaaGreat.vmSees
