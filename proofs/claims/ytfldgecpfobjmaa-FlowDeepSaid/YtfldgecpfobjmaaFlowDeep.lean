/-
  A row of subprograms that call each other is as deep as it is long, up to eight; where the last one calls one of them again it has no end: whatever the two numbers are.
-/
import Derived.Test.YtfldgecpfobjmaaFDB
import Derived.Test.YtfldgecpfobjmaaFLL
import Derived.Test.YtfldgecpfobjmaaRows
import Derived.WalkKit
import Derived.ProofKit
import Derived.OpenShut
import Derived.Below
import Derived.Lib.SmallJoins
import Derived.ChangeSame
namespace Go.Proofs.Ytfldgecpfobjmaa.flowDeep
open Go.ChangeShapes Go.WideShapes Go.ChangeAt Go.RowKit Go.Joins Ev
set_option linter.unusedVariables false
set_option linter.unusedSimpArgs false
theorem own : ownKnob Try.prog.godebug = none := by kernel_rfl
section
variable {H : Type} {enc : TypeId × Value → H} {P : Program}
theorem post_of_below {f : Func} {s : ChangeSpec} {apart fresh handsOn again : Bool} {W W' : World} {args : Array Value} {v : Value} {ds gs : List (DataW H)} {before pa pv : List MemPlace}
    (hW : DataW.Whole enc P f.params.toList s.vars apart W args.toList ds gs before)
    (hres : ∀ (b : Nat) (sp : Nat → Bool) (hd : Bool), DataW.TrodAll enc P W' b sp hd f.resultTypes.toList (v.resultList f.resultTypes.size) (s.fn H (ds ++ gs)).results [])
    (hargs : ∀ sp : Nat → Bool, (∀ p ∈ before, sp p.block = true) → DataW.TrodAll enc P W' 0 sp true f.params.toList args.toList (s.fn H (ds ++ gs)).args pa)
    (hvars : ∀ sp : Nat → Bool, (∀ p ∈ before, sp p.block = true) → DataW.TrodVars enc P W' sp s.vars (s.fn H (ds ++ gs)).vars pv)
    (hps : before = pa ++ pv) (hb : Below W.heap.size W W')
    (hok : ∀ (j : Nat) (t : TypeId) (r : Value), f.resultTypes[j]? = some t → (v.resultList f.resultTypes.size)[j]? = some r → Value.okWide P W' .any 0 t r) :
    s.post enc P f apart fresh handsOn again W args v W' := by
  have hlt : ∀ p ∈ before, p.block < W.heap.size := fun p hp => hW.lt p hp
  have hold : ∀ p ∈ before, (fun b => decide (b < W.heap.size)) p.block = true := fun p hp => by simpa using hlt p hp
  refine ⟨ds, gs, before, [], pa, pv, hW, hres _ _ _, hargs _ hold, hvars _ hold, World.keptBut_mono (fun p hp => ⟨hp, ?_⟩) (hb.frame (· ∈ before)), fun _ => ?_⟩
  · rw [hps, List.mem_append] at hp
    exact Or.inr hp
  · obtain ⟨_, _, _, _, _, hz, hn⟩ := hW
    refine ⟨hok, _, _, ([] ++ pa) ++ pv, ⟨[] ++ pa, pv, trodAll_append (hargs _ (fun _ _ => rfl)) (hres _ _ _), hvars _ (fun _ _ => rfl), rfl, ?_, ?_⟩, ?_⟩
    · intro b off hp
      have hin : MemPlace.cell b off ∈ before := by rw [hps]; simpa using hp
      rw [hb.frozen (hlt _ hin)]
      exact hz b off hin
    · intro ha
      have := hn ha
      rw [hps] at this
      simpa using this
    · intro p hp _
      rw [hps]
      simpa using hp
end
theorem i64_wf {n : Int} (h : (Lit.int .i64 n).wf = true) : -9223372036854775808 ≤ n ∧ n ≤ 9223372036854775807 := by
  simp [Lit.wf, IntKind.min, IntKind.max, IntKind.signed, IntKind.bits] at h
  exact h
theorem walk (n k : Int) (wn : (Lit.int .i64 n).wf = true) (wk : (Lit.int .i64 k).wf = true) (w : World) :
    Calls Try.prog 3 #[.int .i64 n, .int .i64 k] w fun e w' => e = .returned (.bool true) ∧ Below w.heap.size w w' := by
  have hn := i64_wf wn
  have hk := i64_wf wk
  have fin' : ∀ p0, (∀ m : Bm, @V (En2 n k) m p0 (.int .i64 n)) → @Ev.Done (En2 n k) d2 (T1 p0 sx) ⟨.lf, 118⟩ → Calls Try.prog 3 #[.int .i64 n, .int .i64 k] w fun e w' => e = .returned (.bool true) ∧ Below w.heap.size w w' := by
    intro p0 h0 g
    exact fin (E := En2 n k) (l := [.int .i64 n, .int .i64 k]) (fun m => @VL.cons (En2 n k) m _ _ _ _ (h0 m) (@VL.cons (En2 n k) m _ _ _ _ (@V.sy (En2 n k) m .i64 (-9223372036854775808) 9223372036854775807 (.v 1) hk.1 hk.2) (@VL.nil (En2 n k) m))) g w
  by_cases h0 : n < 1
  · exact fin' pLo (fun m => @V.sy (En2 n k) m .i64 (-9223372036854775808) 0 (.v 0) (show -9223372036854775808 ≤ n from hn.1) (show n ≤ 0 by omega)) (goT (E := En2 n k) (e_lo sx))
  by_cases h1 : 20 < n
  · exact fin' pHi (fun m => @V.sy (En2 n k) m .i64 21 9223372036854775807 (.v 0) (show 21 ≤ n by omega) (show n ≤ 9223372036854775807 from hn.2)) (goT (E := En2 n k) (e_hi sx))
  have : n = 1 ∨ n = 2 ∨ n = 3 ∨ n = 4 ∨ n = 5 ∨ n = 6 ∨ n = 7 ∨ n = 8 ∨ n = 9 ∨ n = 10 ∨ n = 11 ∨ n = 12 ∨ n = 13 ∨ n = 14 ∨ n = 15 ∨ n = 16 ∨ n = 17 ∨ n = 18 ∨ n = 19 ∨ n = 20 := by omega
  rcases this with rfl | rfl | rfl | rfl | rfl | rfl | rfl | rfl | rfl | rfl | rfl | rfl | rfl | rfl | rfl | rfl | rfl | rfl | rfl | rfl
  · exact fin' (.it .i64 1) (fun m => @V.it (En2 1 k) m .i64 1) goA1
  · exact fin' (.it .i64 2) (fun m => @V.it (En2 2 k) m .i64 2) (goAB ra_2 rb_2 st_2)
  · exact fin' (.it .i64 3) (fun m => @V.it (En2 3 k) m .i64 3) (goAB ra_3 rb_3 st_3)
  · exact fin' (.it .i64 4) (fun m => @V.it (En2 4 k) m .i64 4) (goAB ra_4 rb_4 st_4)
  · exact fin' (.it .i64 5) (fun m => @V.it (En2 5 k) m .i64 5) (goAB ra_5 rb_5 st_5)
  · exact fin' (.it .i64 6) (fun m => @V.it (En2 6 k) m .i64 6) (goAB ra_6 rb_6 st_6)
  · exact fin' (.it .i64 7) (fun m => @V.it (En2 7 k) m .i64 7) (goAB ra_7 rb_7 st_7)
  · exact fin' (.it .i64 8) (fun m => @V.it (En2 8 k) m .i64 8) (goAB ra_8 rb_8 st_8)
  · exact fin' (.it .i64 9) (fun m => @V.it (En2 9 k) m .i64 9) (goAB ra_9 rb_9 st_9)
  · exact fin' (.it .i64 10) (fun m => @V.it (En2 10 k) m .i64 10) (goAB ra_10 rb_10 st_10)
  · exact fin' (.it .i64 11) (fun m => @V.it (En2 11 k) m .i64 11) (goAB ra_11 rb_11 st_11)
  · exact fin' (.it .i64 12) (fun m => @V.it (En2 12 k) m .i64 12) (goAB ra_12 rb_12 st_12)
  · exact fin' (.it .i64 13) (fun m => @V.it (En2 13 k) m .i64 13) (goAB ra_13 rb_13 st_13)
  · exact fin' (.it .i64 14) (fun m => @V.it (En2 14 k) m .i64 14) (goAB ra_14 rb_14 st_14)
  · exact fin' (.it .i64 15) (fun m => @V.it (En2 15 k) m .i64 15) (goAB ra_15 rb_15 st_15)
  · exact fin' (.it .i64 16) (fun m => @V.it (En2 16 k) m .i64 16) (goAB ra_16 rb_16 st_16)
  · exact fin' (.it .i64 17) (fun m => @V.it (En2 17 k) m .i64 17) (goAB ra_17 rb_17 st_17)
  · exact fin' (.it .i64 18) (fun m => @V.it (En2 18 k) m .i64 18) (goAB ra_18 rb_18 st_18)
  · exact fin' (.it .i64 19) (fun m => @V.it (En2 19 k) m .i64 19) (goAB ra_19 rb_19 st_19)
  · exact fin' (.it .i64 20) (fun m => @V.it (En2 20 k) m .i64 20) (goAB ra_20 rb_20 st_20)
set_option maxRecDepth 100000 in
theorem lifted (os : Os) (started : os.Started) (H : Type) (enc : TypeId × Value → H) :
    ReturnsInHanded {} Try.checked os 3 .any (Rows.flowDeepSpec.pre6 enc Try.prog Try.f3 Rows.flowDeepRow.domain false) (Rows.flowDeepSpec.post enc Try.prog Try.f3 false true false false) := by
  refine returnsInHanded_of_change (C := Try.checked) own started (by kernel_rfl) Try.func3
    (ChangeSpec.witness6 (enc := enc) (C := Try.checked) false ⟨#[], #[.int .i64 0, .int .i64 0], []⟩ 8 (by kernel_rfl) (by kernel_rfl) (by kernel_rfl) (by kernel_rfl)) ?_
  intro W base args ds gs before hval0 hW hcnd _
  have hval : ∀ (j : Nat) t v, Try.f3.params[j]? = some t → args[j]? = some v → Value.okWide Try.prog W .any base t v := hval0
  have hW' := hW
  obtain ⟨p, q, hA0, hV, rfl, hfz, hnd⟩ := hW
  have hA : DataW.TrodAll enc Try.prog W 0 (fun _ => true) true Try.f3.params.toList args.toList ds p := hA0
  rw [Try.params3] at hA hval
  obtain ⟨v0, vs0, d0, ds0, p0, q0, hargs, rfl, rfl, h0, r0⟩ := trodAll_cons hA
  obtain ⟨v1, vs1, d1, ds1, p1, q1, rfl, rfl, rfl, h1, r1⟩ := trodAll_cons r0
  obtain ⟨rfl, rfl, rfl⟩ := trodAll_nil r1
  obtain rfl : args = #[v0, v1] := by cases args; simp_all
  obtain ⟨rfl, rfl⟩ := trodVars_none hV
  obtain ⟨a0, rfl, rfl, rfl, w0⟩ := open_int Try.underlying3 (hval 0 3 v0 rfl rfl) h0
  obtain ⟨a1, rfl, rfl, rfl, w1⟩ := open_int Try.underlying3 (hval 1 3 v1 rfl rfl) h1
  clear hA0 hval0
  simp only [List.append_nil] at hW'
  refine (walk a0 a1 w0 w1 W).mono fun e W' ⟨he, hg⟩ => ?_
  subst he
  exact ⟨_, rfl, post_of_below (pa := []) (pv := []) hW' (fun _ _ _ => (trodAll_cons_mk (shut_bool Try.underlying4 _) trodAll_mk0))
    (fun sp _ => (trodAll_cons_mk (shut_int Try.underlying3 w0) (trodAll_cons_mk (shut_int Try.underlying3 w1) trodAll_mk0))) (fun _ _ => rfl) rfl
    hg (ok_one (by kernel_rfl) rfl (okWide_bool_mk Try.underlying4 _))⟩
theorem j_named : Try.pinned.checked.prog.funcNamed Rows.flowDeepRow.func = some 3 := by kernel_rfl
theorem j_wrap : Try.f3.isWrapper Try.pinned.checked.prog Rows.flowDeepRow.wrapper Rows.flowDeepRow.mainSum := by unfold Func.isWrapper; first | (rw [if_pos (by decide +kernel)]; kernel_rfl) | (rw [if_neg (by decide +kernel)]; exact ⟨rfl, rfl⟩)
theorem over : Rows.flowDeepRow.holds Try.pinned (OpenSpec.ofChange Rows.flowDeepSpec) :=
  OpenClaim.holds_of_wide 3 Try.f3 rfl rfl rfl rfl rfl rfl rfl ⟨rfl, rfl, rfl, rfl, rfl⟩ rfl rfl rfl rfl rfl j_named Try.func3 j_closed
    (of_decide_eq_true (by kernel_rfl)) j_wrap
    (fun os started H enc _ => lifted os started H enc)
/-- The statement. -/
theorem proved : Rows.FlowDeepSaid :=
  over
end Go.Proofs.Ytfldgecpfobjmaa.flowDeep
