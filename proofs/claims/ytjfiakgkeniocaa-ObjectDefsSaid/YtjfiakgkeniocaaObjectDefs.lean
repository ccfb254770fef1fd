/-
  Of each kind of map just those with sizes within the limits may be: whatever the input, the law answers true.
-/
import Derived.Test.YtjfiakgkeniocaaRxK
import Derived.Test.YtjfiakgkeniocaaL5E
import Derived.Test.YtjfiakgkeniocaaRows
namespace Go.Proofs.Ytjfiakgkeniocaa
open Go.RowKit
set_option maxRecDepth 100000
end Go.Proofs.Ytjfiakgkeniocaa
namespace Go.Proofs.Ytjfiakgkeniocaa.objectDefs
open Go.ChangeShapes Go.WideShapes Go.ChangeAt Go.RowKit Go.Joins
set_option linter.unusedVariables false
set_option linter.unusedSimpArgs false
theorem opn1 {H : Type} {enc : TypeId × Value → H} {W : World} : Opens enc Try.prog W 3 (fun x : Int => [.int .i64 (x)]) isI64 := Opens.of (Opens.of (Opens.i64 (by kernel_rfl)) (fun _ => rfl)) (fun _ => rfl)
theorem opn2 {H : Type} {enc : TypeId × Value → H} {W : World} : Opens enc Try.prog W 3 (fun x : Int => [.int .i64 (x)]) isI64 := Opens.of (Opens.of (Opens.i64 (by kernel_rfl)) (fun _ => rfl)) (fun _ => rfl)
theorem opn3 {H : Type} {enc : TypeId × Value → H} {W : World} : Opens enc Try.prog W 3 (fun x : Int => [.int .i64 (x)]) isI64 := Opens.of (Opens.of (Opens.i64 (by kernel_rfl)) (fun _ => rfl)) (fun _ => rfl)
theorem opn4 {H : Type} {enc : TypeId × Value → H} {W : World} : Opens enc Try.prog W 3 (fun x : Int => [.int .i64 (x)]) isI64 := Opens.of (Opens.of (Opens.i64 (by kernel_rfl)) (fun _ => rfl)) (fun _ => rfl)
theorem opn5 {H : Type} {enc : TypeId × Value → H} {W : World} : Opens enc Try.prog W 4 (fun x : Bool => [.bool (x)]) (fun _ => True) := Opens.of (Opens.of (Opens.bool (by kernel_rfl)) (fun _ => rfl)) (fun _ => rfl)
set_option maxRecDepth 100000 in
theorem lifted (os : Os) (started : os.Started) (H : Type) (enc : TypeId × Value → H) :
    ReturnsInHanded {} Try.checked os 5 .any (Rows.objectDefsSpec.pre6 enc Try.prog Try.f5 Rows.objectDefsRow.domain false) (Rows.objectDefsSpec.post enc Try.prog Try.f5 false true false false) := by
  refine returnsInHanded_of_change_sized (C := Try.checked) (show ownKnob Try.prog.godebug = none by kernel_rfl) started (by kernel_rfl) Try.func5
    (ChangeSpec.witness6 (enc := enc) (C := Try.checked) false ⟨#[], #[.int .i64 0, .int .i64 0, .int .i64 0, .int .i64 0, .bool false], []⟩ 8 (by kernel_rfl) (by kernel_rfl) (by kernel_rfl) (by kernel_rfl)) ?_
  intro W base args ds gs before hval0 hW hcnd hsz _
  have hval : ∀ (j : Nat) t v, Try.f5.params[j]? = some t → args[j]? = some v → Value.okWide Try.prog W .any base t v := hval0
  have hW' := hW
  obtain ⟨p, q, hA0, hV, rfl, hfz, hnd⟩ := hW
  have hA : DataW.TrodAll enc Try.prog W 0 (fun _ => true) true Try.f5.params.toList args.toList ds p := hA0
  rw [Try.params5] at hA hval
  have hlt := hA.lt
  have hr0 := hA
  obtain ⟨v1, vs1, d1, ds1, p1, q1, hargs, rfl, rfl, h1, hr1⟩ := trodAll_cons hr0
  obtain ⟨v2, vs2, d2, ds2, p2, q2, rfl, rfl, rfl, h2, hr2⟩ := trodAll_cons hr1
  obtain ⟨v3, vs3, d3, ds3, p3, q3, rfl, rfl, rfl, h3, hr3⟩ := trodAll_cons hr2
  obtain ⟨v4, vs4, d4, ds4, p4, q4, rfl, rfl, rfl, h4, hr4⟩ := trodAll_cons hr3
  obtain ⟨v5, vs5, d5, ds5, p5, q5, rfl, rfl, rfl, h5, hr5⟩ := trodAll_cons hr4
  obtain ⟨rfl, rfl, rfl⟩ := trodAll_nil hr5
  obtain rfl : args = #[v1, v2, v3, v4, v5] := by cases args; simp_all
  obtain ⟨rfl, rfl⟩ := trodVars_none hV
  obtain ⟨x1, rfl, hx1⟩ := opn1.arg_int (show Try.prog.underlying 3 = some (.int .i64) by kernel_rfl) (hval 0 3 v1 rfl rfl) h1
  obtain ⟨x2, rfl, hx2⟩ := opn2.arg_int (show Try.prog.underlying 3 = some (.int .i64) by kernel_rfl) (hval 1 3 v2 rfl rfl) h2
  obtain ⟨x3, rfl, hx3⟩ := opn3.arg_int (show Try.prog.underlying 3 = some (.int .i64) by kernel_rfl) (hval 2 3 v3 rfl rfl) h3
  obtain ⟨x4, rfl, hx4⟩ := opn4.arg_int (show Try.prog.underlying 3 = some (.int .i64) by kernel_rfl) (hval 3 3 v4 rfl rfl) h4
  obtain ⟨x5, rfl, hx5⟩ := opn5.arg_bool (show Try.prog.underlying 4 = some (.bool) by kernel_rfl) (hval 4 4 v5 rfl rfl) h5
  have key : Calls Try.prog 5 #[.int .i64 (x1), .int .i64 (x2), .int .i64 (x3), .int .i64 (x4), .bool (x5)] W fun e w' => e = .returned (.bool true) ∧ Below W.heap.size W w' :=
    (ok_barbicanlaw5_ObjectDefs Old.up x1 x2 x3 x4 x5 true (defs_true x1 x2 x3 x4 x5) W (Old.self W)).2
  refine key.mono fun e W' ⟨he, hg⟩ => ?_
  subst he
  refine ⟨_, rfl, post_of_below' (pa := p1 ++ (p2 ++ (p3 ++ (p4 ++ (p5 ++ []))))) (pv := []) hW' (fun _ _ _ => (trodAll_cons_mk (shut_bool (show Try.prog.underlying 4 = some .bool by kernel_rfl) _) trodAll_mk0)) (fun sp hsp0 => ?_) (fun _ _ => rfl) (by simp)
    hg (ok_one (by kernel_rfl) rfl (okWide_bool_mk (show Try.prog.underlying 4 = some .bool by kernel_rfl) _))⟩
  have hsp : ∀ q ∈ p1 ++ (p2 ++ (p3 ++ (p4 ++ (p5 ++ [])))), sp q.block = true := fun q hq => hsp0 q (by simpa using hq)
  exact (trodAll_cons_mk (reads_again' (show laidOutB Try.prog = true by kernel_rfl) (by kernel_rfl) (by decide +kernel) h1 (fun q hq => hlt q (List.mem_append_left _ hq)) hg (sp := sp) (fun q hq => hsp q (List.mem_append_left _ hq))) (trodAll_cons_mk (reads_again' (show laidOutB Try.prog = true by kernel_rfl) (by kernel_rfl) (by decide +kernel) h2 (fun q hq => hlt q (List.mem_append_right _ (List.mem_append_left _ hq))) hg (sp := sp) (fun q hq => hsp q (List.mem_append_right _ (List.mem_append_left _ hq)))) (trodAll_cons_mk (reads_again' (show laidOutB Try.prog = true by kernel_rfl) (by kernel_rfl) (by decide +kernel) h3 (fun q hq => hlt q (List.mem_append_right _ (List.mem_append_right _ (List.mem_append_left _ hq)))) hg (sp := sp) (fun q hq => hsp q (List.mem_append_right _ (List.mem_append_right _ (List.mem_append_left _ hq))))) (trodAll_cons_mk (reads_again' (show laidOutB Try.prog = true by kernel_rfl) (by kernel_rfl) (by decide +kernel) h4 (fun q hq => hlt q (List.mem_append_right _ (List.mem_append_right _ (List.mem_append_right _ (List.mem_append_left _ hq))))) hg (sp := sp) (fun q hq => hsp q (List.mem_append_right _ (List.mem_append_right _ (List.mem_append_right _ (List.mem_append_left _ hq)))))) (trodAll_cons_mk (reads_again' (show laidOutB Try.prog = true by kernel_rfl) (by kernel_rfl) (by decide +kernel) h5 (fun q hq => hlt q (List.mem_append_right _ (List.mem_append_right _ (List.mem_append_right _ (List.mem_append_right _ (List.mem_append_left _ hq)))))) hg (sp := sp) (fun q hq => hsp q (List.mem_append_right _ (List.mem_append_right _ (List.mem_append_right _ (List.mem_append_right _ (List.mem_append_left _ hq))))))) trodAll_mk0)))))
theorem over : Rows.objectDefsRow.holds Try.pinned (OpenSpec.ofChange Rows.objectDefsSpec) :=
  OpenClaim.holds_of_wide 5 Try.f5 rfl rfl rfl rfl rfl rfl rfl ⟨rfl, rfl, rfl, rfl, rfl⟩ rfl rfl rfl rfl rfl (by kernel_rfl) Try.func5 (by kernel_rfl)
    (of_decide_eq_true (by kernel_rfl)) (by unfold Func.isWrapper; first | (rw [if_pos (by decide +kernel)]; kernel_rfl) | (rw [if_neg (by decide +kernel)]; exact ⟨rfl, rfl⟩))
    (fun os started H enc _ => lifted os started H enc)

/-- The statement. -/
theorem proved : Rows.ObjectDefsSaid :=
  over
end Go.Proofs.Ytjfiakgkeniocaa.objectDefs
