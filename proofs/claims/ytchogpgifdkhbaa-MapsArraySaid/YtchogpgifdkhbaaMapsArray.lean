/-
  An array has all entries, from 0 on, at 0 at first; each is written and read by itself, none is deleted: whatever the input, the law answers true.
-/
import Derived.Test.YtchogpgifdkhbaaRxK
import Derived.Test.YtchogpgifdkhbaaMAN
import Derived.Test.YtchogpgifdkhbaaRows
namespace Go.Proofs.Ytchogpgifdkhbaa
open Go.RowKit
set_option maxRecDepth 100000
abbrev cu32 (x : BitVec 32) : List Value := [.int .u32 (nn x)]
theorem cu32_len (x : BitVec 32) : (cu32 x).length = 1 := rfl
theorem cu32_one (x : BitVec 32) : ((cu32 x).all fun u => u.oneCell') = true := rfl
end Go.Proofs.Ytchogpgifdkhbaa
namespace Go.Proofs.Ytchogpgifdkhbaa.mapsArray
open Go.ChangeShapes Go.WideShapes Go.ChangeAt Go.RowKit Go.Joins
set_option linter.unusedVariables false
set_option linter.unusedSimpArgs false
theorem opn1 {H : Type} {enc : TypeId × Value → H} {W : World} : Opens enc Try.prog W 3 (fun x : Int => [.int .i64 (x)]) isI64 := Opens.of (Opens.of (Opens.i64 (by kernel_rfl)) (fun _ => rfl)) (fun _ => rfl)
theorem opn2 {H : Type} {enc : TypeId × Value → H} {W : World} : Opens enc Try.prog W 22 (fun x : BitVec 32 => [.int .u32 (nn x)]) (fun _ => True) := Opens.of (Opens.of (Opens.u32 (by kernel_rfl)) (fun _ => rfl)) (fun _ => rfl)
theorem opn3 {H : Type} {enc : TypeId × Value → H} {W : World} : Opens enc Try.prog W 5 (fun x : BitVec 8 => [.int .u8 (nn x)]) (fun _ => True) := Opens.of (Opens.of (Opens.u8 (by kernel_rfl)) (fun _ => rfl)) (fun _ => rfl)
set_option maxRecDepth 100000 in
theorem lifted (os : Os) (started : os.Started) (H : Type) (enc : TypeId × Value → H) :
    ReturnsInHanded {} Try.checked os 3 .any (Rows.mapsArraySpec.pre6 enc Try.prog Try.f3 Rows.mapsArrayRow.domain false) (Rows.mapsArraySpec.post enc Try.prog Try.f3 false true false false) := by
  refine returnsInHanded_of_change_sized (C := Try.checked) (show ownKnob Try.prog.godebug = none by kernel_rfl) started (by kernel_rfl) Try.func3
    (ChangeSpec.witness6 (enc := enc) (C := Try.checked) false ⟨#[], #[.int .i64 0, .int .u32 0, .int .u8 0], []⟩ 8 (by kernel_rfl) (by kernel_rfl) (by kernel_rfl) (by kernel_rfl)) ?_
  intro W base args ds gs before hval0 hW hcnd hsz _
  have hval : ∀ (j : Nat) t v, Try.f3.params[j]? = some t → args[j]? = some v → Value.okWide Try.prog W .any base t v := hval0
  have hW' := hW
  obtain ⟨p, q, hA0, hV, rfl, hfz, hnd⟩ := hW
  have hA : DataW.TrodAll enc Try.prog W 0 (fun _ => true) true Try.f3.params.toList args.toList ds p := hA0
  rw [Try.params3] at hA hval
  have hlt := hA.lt
  have hr0 := hA
  obtain ⟨v1, vs1, d1, ds1, p1, q1, hargs, rfl, rfl, h1, hr1⟩ := trodAll_cons hr0
  obtain ⟨v2, vs2, d2, ds2, p2, q2, rfl, rfl, rfl, h2, hr2⟩ := trodAll_cons hr1
  obtain ⟨v3, vs3, d3, ds3, p3, q3, rfl, rfl, rfl, h3, hr3⟩ := trodAll_cons hr2
  obtain ⟨rfl, rfl, rfl⟩ := trodAll_nil hr3
  obtain rfl : args = #[v1, v2, v3] := by cases args; simp_all
  obtain ⟨rfl, rfl⟩ := trodVars_none hV
  obtain ⟨x1, rfl, hx1⟩ := opn1.arg_int (show Try.prog.underlying 3 = some (.int .i64) by kernel_rfl) (hval 0 3 v1 rfl rfl) h1
  obtain ⟨x2, rfl, hx2⟩ := opn2.arg_int (show Try.prog.underlying 22 = some (.int .u32) by kernel_rfl) (hval 1 22 v2 rfl rfl) h2
  obtain ⟨x3, rfl, hx3⟩ := opn3.arg_int (show Try.prog.underlying 5 = some (.int .u8) by kernel_rfl) (hval 2 5 v3 rfl rfl) h3
  have key : Calls Try.prog 3 #[.int .i64 (x1), .int .u32 (nn x2), .int .u8 (nn x3)] W fun e w' => e = .returned (.bool true) ∧ Below W.heap.size W w' :=
    (ok_barbicanlaw9_MapsArray Old.up x1 x2 x3 true (mapsarray_true x1 x2 x3) W (Old.self W)).2
  refine key.mono fun e W' ⟨he, hg⟩ => ?_
  subst he
  refine ⟨_, rfl, post_of_below' (pa := p1 ++ (p2 ++ (p3 ++ []))) (pv := []) hW' (fun _ _ _ => (trodAll_cons_mk (shut_bool (show Try.prog.underlying 4 = some .bool by kernel_rfl) _) trodAll_mk0)) (fun sp hsp0 => ?_) (fun _ _ => rfl) (by simp)
    hg (ok_one (by kernel_rfl) rfl (okWide_bool_mk (show Try.prog.underlying 4 = some .bool by kernel_rfl) _))⟩
  have hsp : ∀ q ∈ p1 ++ (p2 ++ (p3 ++ [])), sp q.block = true := fun q hq => hsp0 q (by simpa using hq)
  exact (trodAll_cons_mk (reads_again' (show laidOutB Try.prog = true by kernel_rfl) (by kernel_rfl) (by decide +kernel) h1 (fun q hq => hlt q (List.mem_append_left _ hq)) hg (sp := sp) (fun q hq => hsp q (List.mem_append_left _ hq))) (trodAll_cons_mk (reads_again' (show laidOutB Try.prog = true by kernel_rfl) (by kernel_rfl) (by decide +kernel) h2 (fun q hq => hlt q (List.mem_append_right _ (List.mem_append_left _ hq))) hg (sp := sp) (fun q hq => hsp q (List.mem_append_right _ (List.mem_append_left _ hq)))) (trodAll_cons_mk (reads_again' (show laidOutB Try.prog = true by kernel_rfl) (by kernel_rfl) (by decide +kernel) h3 (fun q hq => hlt q (List.mem_append_right _ (List.mem_append_right _ (List.mem_append_left _ hq)))) hg (sp := sp) (fun q hq => hsp q (List.mem_append_right _ (List.mem_append_right _ (List.mem_append_left _ hq))))) trodAll_mk0)))
theorem over : Rows.mapsArrayRow.holds Try.pinned (OpenSpec.ofChange Rows.mapsArraySpec) :=
  OpenClaim.holds_of_wide 3 Try.f3 rfl rfl rfl rfl rfl rfl rfl ⟨rfl, rfl, rfl, rfl, rfl⟩ rfl rfl rfl rfl rfl (by kernel_rfl) Try.func3 (by kernel_rfl)
    (of_decide_eq_true (by kernel_rfl)) (by unfold Func.isWrapper; first | (rw [if_pos (by decide +kernel)]; kernel_rfl) | (rw [if_neg (by decide +kernel)]; exact ⟨rfl, rfl⟩))
    (fun os started H enc _ => lifted os started H enc)

/-- The statement. -/
theorem proved : Rows.MapsArraySaid :=
  over
end Go.Proofs.Ytchogpgifdkhbaa.mapsArray
