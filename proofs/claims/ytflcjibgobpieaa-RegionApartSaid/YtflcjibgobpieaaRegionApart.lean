/-
  What is written to one of so many regions and frames is there alone: whatever their number, whichever it is, whatever is written.
-/
import Derived.Test.YtflcjibgobpieaaRAC
import Derived.Test.YtflcjibgobpieaaRLL
import Derived.Test.YtflcjibgobpieaaRows
import Derived.WalkKit
import Derived.ProofKit
import Derived.OpenShut
import Derived.Below
import Derived.Lib.SmallJoins
import Derived.ChangeSame
namespace Go.Proofs.Ytflcjibgobpieaa.regionApart
open Go.ChangeShapes Go.WideShapes Go.ChangeAt Go.RowKit Go.Joins Ev
set_option linter.unusedVariables false
set_option linter.unusedSimpArgs false
theorem own : ownKnob Try.prog.godebug = none := by kernel_rfl
section
variable {H : Type} {enc : TypeId × Value → H} {P : Program}
theorem post_of_below {f : Func} {s : ChangeSpec} {apart fresh handsOn again : Bool} {W W' : World} {args : Array Value} {v : Value} {ds gs : List (DataW H)} {before pa pv : List MemPlace}
    (hW : DataW.Whole enc P f.params.toList s.vars apart W args.toList ds gs before)
    (hres : ∀ (b : Nat) (sp : Nat → Bool) (hd : Bool), DataW.TrodAll enc P W' b sp hd f.resultTypes.toList (v.resultList f.resultTypes.size) (s.fn H (ds ++ gs)).results [])
    (hargs : ∀ sp : Nat → Bool, (∀ p ∈ before, sp p.block = true) → DataW.TrodAll enc P W' 0 sp true f.params.toList args.toList (s.fn H (ds ++ gs)).args pa)
    (hvars : ∀ sp : Nat → Bool, (∀ p ∈ before, sp p.block = true) → DataW.TrodVars enc P W' sp s.vars (s.fn H (ds ++ gs)).vars pv)
    (hps : before = pa ++ pv) (hb : Below W.heap.size W W')
    (hok : ∀ (j : Nat) (t : TypeId) (r : Value), f.resultTypes[j]? = some t → (v.resultList f.resultTypes.size)[j]? = some r → Value.okWide P W' .any 0 t r) :
    s.post enc P f apart fresh handsOn again W args v W' := by
  have hlt : ∀ p ∈ before, p.block < W.heap.size := fun p hp => hW.lt p hp
  have hold : ∀ p ∈ before, (fun b => decide (b < W.heap.size)) p.block = true := fun p hp => by simpa using hlt p hp
  refine ⟨ds, gs, before, [], pa, pv, hW, hres _ _ _, hargs _ hold, hvars _ hold, World.keptBut_mono (fun p hp => ⟨hp, ?_⟩) (hb.frame (· ∈ before)), fun _ => ?_⟩
  · rw [hps, List.mem_append] at hp
    exact Or.inr hp
  · obtain ⟨_, _, _, _, _, hz, hn⟩ := hW
    refine ⟨hok, _, _, ([] ++ pa) ++ pv, ⟨[] ++ pa, pv, trodAll_append (hargs _ (fun _ _ => rfl)) (hres _ _ _), hvars _ (fun _ _ => rfl), rfl, ?_, ?_⟩, ?_⟩
    · intro b off hp
      have hin : MemPlace.cell b off ∈ before := by rw [hps]; simpa using hp
      rw [hb.frozen (hlt _ hin)]
      exact hz b off hin
    · intro ha
      have := hn ha
      rw [hps] at this
      simpa using this
    · intro p hp _
      rw [hps]
      simpa using hp
end
theorem i64_wf {n : Int} (h : (Lit.int .i64 n).wf = true) : -9223372036854775808 ≤ n ∧ n ≤ 9223372036854775807 := by
  simp [Lit.wf, IntKind.min, IntKind.max, IntKind.signed, IntKind.bits] at h
  exact h
theorem u64_wf {n : Int} (h : (Lit.int .u64 n).wf = true) : 0 ≤ n ∧ n ≤ 18446744073709551615 := by
  simp [Lit.wf, IntKind.min, IntKind.max, IntKind.signed, IntKind.bits] at h
  exact h
theorem walk (n k v : Int) (wn : (Lit.int .i64 n).wf = true) (wk : (Lit.int .i64 k).wf = true) (wv : (Lit.int .u64 v).wf = true) (w : World) :
    Calls Try.prog 3 #[.int .i64 n, .int .i64 k, .int .u64 v] w fun e w' => e = .returned (.bool true) ∧ Below w.heap.size w w' := by
  have hn := i64_wf wn
  have hk := i64_wf wk
  have hv := u64_wf wv
  have fin' : ∀ (p0 : PV) (a x : Int), (∀ m : Bm, @V (En4 a k v x) m p0 (.int .i64 n)) → @Ev.Done (En4 a k v x) d2 (T1 p0 sw sv) ⟨.lf, 118⟩ → Calls Try.prog 3 #[.int .i64 n, .int .i64 k, .int .u64 v] w fun e w' => e = .returned (.bool true) ∧ Below w.heap.size w w' := by
    intro p0 a x h0 g
    exact fin (E := En4 a k v x) (l := [.int .i64 n, .int .i64 k, .int .u64 v]) (fun m => @VL.cons (En4 a k v x) m _ _ _ _ (h0 m) (@VL.cons (En4 a k v x) m _ _ _ _ (@V.sy (En4 a k v x) m .i64 (-9223372036854775808) 9223372036854775807 (.v 1) hk.1 hk.2)
      (@VL.cons (En4 a k v x) m _ _ _ _ (@V.sy (En4 a k v x) m .u64 0 18446744073709551615 (.v 2) hv.1 hv.2) (@VL.nil (En4 a k v x) m)))) g w
  by_cases h0 : n < 1
  · exact fin' pLo n 0 (fun m => @V.sy (En4 n k v 0) m .i64 (-9223372036854775808) 0 (.v 0) (show -9223372036854775808 ≤ n from hn.1) (show n ≤ 0 by omega)) (goT (E := En4 n k v 0) (e_lo sw sv))
  by_cases h1 : 40 < n
  · exact fin' pHi n 0 (fun m => @V.sy (En4 n k v 0) m .i64 41 9223372036854775807 (.v 0) (show 41 ≤ n by omega) (show n ≤ 9223372036854775807 from hn.2)) (goT (E := En4 n k v 0) (e_hi sw sv))
  have : n = 1 ∨ n = 2 ∨ n = 3 ∨ n = 4 ∨ n = 5 ∨ n = 6 ∨ n = 7 ∨ n = 8 ∨ n = 9 ∨ n = 10 ∨ n = 11 ∨ n = 12 ∨ n = 13 ∨ n = 14 ∨ n = 15 ∨ n = 16 ∨ n = 17 ∨ n = 18 ∨ n = 19 ∨ n = 20 ∨ n = 21 ∨ n = 22 ∨ n = 23 ∨ n = 24 ∨ n = 25 ∨ n = 26 ∨ n = 27 ∨ n = 28 ∨ n = 29 ∨ n = 30 ∨ n = 31 ∨ n = 32 ∨ n = 33 ∨ n = 34 ∨ n = 35 ∨ n = 36 ∨ n = 37 ∨ n = 38 ∨ n = 39 ∨ n = 40 := by omega
  rcases this with rfl | rfl | rfl | rfl | rfl | rfl | rfl | rfl | rfl | rfl | rfl | rfl | rfl | rfl | rfl | rfl | rfl | rfl | rfl | rfl | rfl | rfl | rfl | rfl | rfl | rfl | rfl | rfl | rfl | rfl | rfl | rfl | rfl | rfl | rfl | rfl | rfl | rfl | rfl | rfl
  · obtain ⟨x, g⟩ := for_1 (w := k) hv.1 hv.2
    exact fin' (it 1) _ x (fun m => @V.it (En4 (1 : Nat) k v x) m .i64 1) g
  · obtain ⟨x, g⟩ := for_2 (w := k) hv.1 hv.2
    exact fin' (it 2) _ x (fun m => @V.it (En4 (2 : Nat) k v x) m .i64 2) g
  · obtain ⟨x, g⟩ := for_3 (w := k) hv.1 hv.2
    exact fin' (it 3) _ x (fun m => @V.it (En4 (3 : Nat) k v x) m .i64 3) g
  · obtain ⟨x, g⟩ := for_4 (w := k) hv.1 hv.2
    exact fin' (it 4) _ x (fun m => @V.it (En4 (4 : Nat) k v x) m .i64 4) g
  · obtain ⟨x, g⟩ := for_5 (w := k) hv.1 hv.2
    exact fin' (it 5) _ x (fun m => @V.it (En4 (5 : Nat) k v x) m .i64 5) g
  · obtain ⟨x, g⟩ := for_6 (w := k) hv.1 hv.2
    exact fin' (it 6) _ x (fun m => @V.it (En4 (6 : Nat) k v x) m .i64 6) g
  · obtain ⟨x, g⟩ := for_7 (w := k) hv.1 hv.2
    exact fin' (it 7) _ x (fun m => @V.it (En4 (7 : Nat) k v x) m .i64 7) g
  · obtain ⟨x, g⟩ := for_8 (w := k) hv.1 hv.2
    exact fin' (it 8) _ x (fun m => @V.it (En4 (8 : Nat) k v x) m .i64 8) g
  · obtain ⟨x, g⟩ := for_9 (w := k) hv.1 hv.2
    exact fin' (it 9) _ x (fun m => @V.it (En4 (9 : Nat) k v x) m .i64 9) g
  · obtain ⟨x, g⟩ := for_10 (w := k) hv.1 hv.2
    exact fin' (it 10) _ x (fun m => @V.it (En4 (10 : Nat) k v x) m .i64 10) g
  · obtain ⟨x, g⟩ := for_11 (w := k) hv.1 hv.2
    exact fin' (it 11) _ x (fun m => @V.it (En4 (11 : Nat) k v x) m .i64 11) g
  · obtain ⟨x, g⟩ := for_12 (w := k) hv.1 hv.2
    exact fin' (it 12) _ x (fun m => @V.it (En4 (12 : Nat) k v x) m .i64 12) g
  · obtain ⟨x, g⟩ := for_13 (w := k) hv.1 hv.2
    exact fin' (it 13) _ x (fun m => @V.it (En4 (13 : Nat) k v x) m .i64 13) g
  · obtain ⟨x, g⟩ := for_14 (w := k) hv.1 hv.2
    exact fin' (it 14) _ x (fun m => @V.it (En4 (14 : Nat) k v x) m .i64 14) g
  · obtain ⟨x, g⟩ := for_15 (w := k) hv.1 hv.2
    exact fin' (it 15) _ x (fun m => @V.it (En4 (15 : Nat) k v x) m .i64 15) g
  · obtain ⟨x, g⟩ := for_16 (w := k) hv.1 hv.2
    exact fin' (it 16) _ x (fun m => @V.it (En4 (16 : Nat) k v x) m .i64 16) g
  · obtain ⟨x, g⟩ := for_17 (w := k) hv.1 hv.2
    exact fin' (it 17) _ x (fun m => @V.it (En4 (17 : Nat) k v x) m .i64 17) g
  · obtain ⟨x, g⟩ := for_18 (w := k) hv.1 hv.2
    exact fin' (it 18) _ x (fun m => @V.it (En4 (18 : Nat) k v x) m .i64 18) g
  · obtain ⟨x, g⟩ := for_19 (w := k) hv.1 hv.2
    exact fin' (it 19) _ x (fun m => @V.it (En4 (19 : Nat) k v x) m .i64 19) g
  · obtain ⟨x, g⟩ := for_20 (w := k) hv.1 hv.2
    exact fin' (it 20) _ x (fun m => @V.it (En4 (20 : Nat) k v x) m .i64 20) g
  · obtain ⟨x, g⟩ := for_21 (w := k) hv.1 hv.2
    exact fin' (it 21) _ x (fun m => @V.it (En4 (21 : Nat) k v x) m .i64 21) g
  · obtain ⟨x, g⟩ := for_22 (w := k) hv.1 hv.2
    exact fin' (it 22) _ x (fun m => @V.it (En4 (22 : Nat) k v x) m .i64 22) g
  · obtain ⟨x, g⟩ := for_23 (w := k) hv.1 hv.2
    exact fin' (it 23) _ x (fun m => @V.it (En4 (23 : Nat) k v x) m .i64 23) g
  · obtain ⟨x, g⟩ := for_24 (w := k) hv.1 hv.2
    exact fin' (it 24) _ x (fun m => @V.it (En4 (24 : Nat) k v x) m .i64 24) g
  · obtain ⟨x, g⟩ := for_25 (w := k) hv.1 hv.2
    exact fin' (it 25) _ x (fun m => @V.it (En4 (25 : Nat) k v x) m .i64 25) g
  · obtain ⟨x, g⟩ := for_26 (w := k) hv.1 hv.2
    exact fin' (it 26) _ x (fun m => @V.it (En4 (26 : Nat) k v x) m .i64 26) g
  · obtain ⟨x, g⟩ := for_27 (w := k) hv.1 hv.2
    exact fin' (it 27) _ x (fun m => @V.it (En4 (27 : Nat) k v x) m .i64 27) g
  · obtain ⟨x, g⟩ := for_28 (w := k) hv.1 hv.2
    exact fin' (it 28) _ x (fun m => @V.it (En4 (28 : Nat) k v x) m .i64 28) g
  · obtain ⟨x, g⟩ := for_29 (w := k) hv.1 hv.2
    exact fin' (it 29) _ x (fun m => @V.it (En4 (29 : Nat) k v x) m .i64 29) g
  · obtain ⟨x, g⟩ := for_30 (w := k) hv.1 hv.2
    exact fin' (it 30) _ x (fun m => @V.it (En4 (30 : Nat) k v x) m .i64 30) g
  · obtain ⟨x, g⟩ := for_31 (w := k) hv.1 hv.2
    exact fin' (it 31) _ x (fun m => @V.it (En4 (31 : Nat) k v x) m .i64 31) g
  · obtain ⟨x, g⟩ := for_32 (w := k) hv.1 hv.2
    exact fin' (it 32) _ x (fun m => @V.it (En4 (32 : Nat) k v x) m .i64 32) g
  · obtain ⟨x, g⟩ := for_33 (w := k) hv.1 hv.2
    exact fin' (it 33) _ x (fun m => @V.it (En4 (33 : Nat) k v x) m .i64 33) g
  · obtain ⟨x, g⟩ := for_34 (w := k) hv.1 hv.2
    exact fin' (it 34) _ x (fun m => @V.it (En4 (34 : Nat) k v x) m .i64 34) g
  · obtain ⟨x, g⟩ := for_35 (w := k) hv.1 hv.2
    exact fin' (it 35) _ x (fun m => @V.it (En4 (35 : Nat) k v x) m .i64 35) g
  · obtain ⟨x, g⟩ := for_36 (w := k) hv.1 hv.2
    exact fin' (it 36) _ x (fun m => @V.it (En4 (36 : Nat) k v x) m .i64 36) g
  · obtain ⟨x, g⟩ := for_37 (w := k) hv.1 hv.2
    exact fin' (it 37) _ x (fun m => @V.it (En4 (37 : Nat) k v x) m .i64 37) g
  · obtain ⟨x, g⟩ := for_38 (w := k) hv.1 hv.2
    exact fin' (it 38) _ x (fun m => @V.it (En4 (38 : Nat) k v x) m .i64 38) g
  · obtain ⟨x, g⟩ := for_39 (w := k) hv.1 hv.2
    exact fin' (it 39) _ x (fun m => @V.it (En4 (39 : Nat) k v x) m .i64 39) g
  · obtain ⟨x, g⟩ := for_40 (w := k) hv.1 hv.2
    exact fin' (it 40) _ x (fun m => @V.it (En4 (40 : Nat) k v x) m .i64 40) g
set_option maxRecDepth 100000 in
theorem lifted (os : Os) (started : os.Started) (H : Type) (enc : TypeId × Value → H) :
    ReturnsInHanded {} Try.checked os 3 .any (Rows.regionApartSpec.pre6 enc Try.prog Try.f3 Rows.regionApartRow.domain false) (Rows.regionApartSpec.post enc Try.prog Try.f3 false true false false) := by
  refine returnsInHanded_of_change (C := Try.checked) own started (by kernel_rfl) Try.func3
    (ChangeSpec.witness6 (enc := enc) (C := Try.checked) false ⟨#[], #[.int .i64 0, .int .i64 0, .int .u64 0], []⟩ 8 (by kernel_rfl) (by kernel_rfl) (by kernel_rfl) (by kernel_rfl)) ?_
  intro W base args ds gs before hval0 hW hcnd _
  have hval : ∀ (j : Nat) t v, Try.f3.params[j]? = some t → args[j]? = some v → Value.okWide Try.prog W .any base t v := hval0
  have hW' := hW
  obtain ⟨p, q, hA0, hV, rfl, hfz, hnd⟩ := hW
  have hA : DataW.TrodAll enc Try.prog W 0 (fun _ => true) true Try.f3.params.toList args.toList ds p := hA0
  rw [Try.params3] at hA hval
  obtain ⟨v0, vs0, d0, ds0, p0, q0, hargs, rfl, rfl, h0, r0⟩ := trodAll_cons hA
  obtain ⟨v1, vs1, d1, ds1, p1, q1, rfl, rfl, rfl, h1, r1⟩ := trodAll_cons r0
  obtain ⟨v2, vs2, d2, ds2, p2, q2, rfl, rfl, rfl, h2, r2⟩ := trodAll_cons r1
  obtain ⟨rfl, rfl, rfl⟩ := trodAll_nil r2
  obtain rfl : args = #[v0, v1, v2] := by cases args; simp_all
  obtain ⟨rfl, rfl⟩ := trodVars_none hV
  obtain ⟨a0, rfl, rfl, rfl, w0⟩ := open_int Try.underlying3 (hval 0 3 v0 rfl rfl) h0
  obtain ⟨a1, rfl, rfl, rfl, w1⟩ := open_int Try.underlying3 (hval 1 3 v1 rfl rfl) h1
  obtain ⟨a2, rfl, rfl, rfl, w2⟩ := open_int Try.underlying22 (hval 2 22 v2 rfl rfl) h2
  clear hA0 hval0
  simp only [List.append_nil] at hW'
  refine (walk a0 a1 a2 w0 w1 w2 W).mono fun e W' ⟨he, hg⟩ => ?_
  subst he
  exact ⟨_, rfl, post_of_below (pa := []) (pv := []) hW' (fun _ _ _ => (trodAll_cons_mk (shut_bool Try.underlying4 _) trodAll_mk0))
    (fun sp _ => (trodAll_cons_mk (shut_int Try.underlying3 w0) (trodAll_cons_mk (shut_int Try.underlying3 w1) (trodAll_cons_mk (shut_int Try.underlying22 w2) trodAll_mk0)))) (fun _ _ => rfl) rfl
    hg (ok_one (by kernel_rfl) rfl (okWide_bool_mk Try.underlying4 _))⟩
theorem j_named : Try.pinned.checked.prog.funcNamed Rows.regionApartRow.func = some 3 := by kernel_rfl
theorem j_wrap : Try.f3.isWrapper Try.pinned.checked.prog Rows.regionApartRow.wrapper Rows.regionApartRow.mainSum := by unfold Func.isWrapper; first | (rw [if_pos (by decide +kernel)]; kernel_rfl) | (rw [if_neg (by decide +kernel)]; exact ⟨rfl, rfl⟩)
theorem over : Rows.regionApartRow.holds Try.pinned (OpenSpec.ofChange Rows.regionApartSpec) :=
  OpenClaim.holds_of_wide 3 Try.f3 rfl rfl rfl rfl rfl rfl rfl ⟨rfl, rfl, rfl, rfl, rfl⟩ rfl rfl rfl rfl rfl j_named Try.func3 j_closed
    (of_decide_eq_true (by kernel_rfl)) j_wrap
    (fun os started H enc _ => lifted os started H enc)
/-- The statement. -/
theorem proved : Rows.RegionApartSaid :=
  over
end Go.Proofs.Ytflcjibgobpieaa.regionApart
