/-
  Of a program that is well formed each operation is followed by one of its subprogram, or ends there, and no jump leaves it: whatever the input, the law answers true.
-/
import Derived.Test.YtmlkiamemkfdlaaS1R
import Derived.Test.YtmlkiamemkfdlaaS1Y
namespace Go.Proofs.Ytmlkiamemkfdlaa.insnStays
open Go.ChangeShapes Go.WideShapes Go.ChangeAt Go.RowKit Go.Joins
set_option linter.unusedVariables false
set_option linter.unusedSimpArgs false
set_option maxRecDepth 100000 in
theorem lifted (os : Os) (started : os.Started) (H : Type) (enc : TypeId × Value → H) :
    ReturnsInHanded {} Try.checked os 5 .any (Rows.insnStaysSpec.pre6 enc Try.prog Try.f5 Rows.insnStaysRow.domain false) (Rows.insnStaysSpec.post enc Try.prog Try.f5 false true false false) := by
  refine returnsInHanded_of_change (C := Try.checked) own started (by kernel_rfl) Try.func5
    (ChangeSpec.witness6 (enc := enc) (C := Try.checked) false ⟨#[], #[.slice none 0 0], []⟩ 8 (by kernel_rfl) (by kernel_rfl) (by kernel_rfl) (by kernel_rfl)) ?_
  intro W base args ds gs before hval0 hW hcnd _
  have hval : ∀ (j : Nat) t v, Try.f5.params[j]? = some t → args[j]? = some v → Value.okWide Try.prog W .any base t v := hval0
  have hW' := hW
  obtain ⟨p, q, hA0, hV, rfl, hfz, hnd⟩ := hW
  have hA : DataW.TrodAll enc Try.prog W 0 (fun _ => true) true Try.f5.params.toList args.toList ds p := hA0
  rw [Try.params5] at hA hval
  have hlt := hA.lt
  obtain ⟨v1, vs1, d1, ds1, p1, q1, hargs, rfl, rfl, h1, r1⟩ := trodAll_cons hA
  obtain ⟨rfl, rfl, rfl⟩ := trodAll_nil r1
  obtain rfl : args = #[v1] := by cases args; simp_all
  obtain ⟨rfl, rfl⟩ := trodVars_none hV
  obtain ⟨a0, n0, cap0, pb, q0, A, rfl, hro⟩ := open_insns (hval 0 22 v1 rfl rfl) h1
  clear hA0 hval0
  simp only [List.append_nil] at hW' hlt
  have key : Calls Try.prog 5 #[.slice a0 n0 cap0] W fun e w' => e = .returned (.bool true) ∧ Below W.heap.size W w' :=
    (ok_barbicanlaw1_InsnStays (M := fun _ => False) (B0 := W.heap.size) (S := fun w => W.heap.size ≤ w.heap.size ∧ ∀ j, j < W.heap.size → w.heap[j]? = W.heap[j]?) ⟨fun _ h => h.1, fun w1 w2 h hc => ⟨Nat.le_trans h.1 hc.size, fun j hj => (hc.block j hj (fun c => c)).trans (h.2 j hj)⟩⟩ a0 pb q0 n0 cap0 A (hro.mono fun w h => h.2) true (stays_true n0 A) W ⟨Nat.le_refl _, fun _ _ => rfl⟩).2
  refine key.mono fun e W' ⟨he, hg⟩ => ?_
  subst he
  exact ⟨_, rfl, post_of_below (pa := p1) (pv := []) hW' (fun _ _ _ => (trodAll_cons_mk (shut_bool Try.underlying4 _) trodAll_mk0))
    (fun sp hsp => by
      have t := trodAll_cons_mk (reads_again (by kernel_rfl) (by decide +kernel) h1 hlt hg (sp := sp) hsp) trodAll_mk0
      simp only [List.append_nil] at t
      exact t) (fun _ _ => rfl) (by simp)
    hg (ok_one (by kernel_rfl) rfl (okWide_bool_mk Try.underlying4 _))⟩

theorem over : Rows.insnStaysRow.holds Try.pinned (OpenSpec.ofChange Rows.insnStaysSpec) :=
  OpenClaim.holds_of_wide 5 Try.f5 rfl rfl rfl rfl rfl rfl rfl ⟨rfl, rfl, rfl, rfl, rfl⟩ rfl rfl rfl rfl rfl (by kernel_rfl) Try.func5 (by kernel_rfl)
    (of_decide_eq_true (by kernel_rfl)) (by unfold Func.isWrapper; first | (rw [if_pos (by decide +kernel)]; kernel_rfl) | (rw [if_neg (by decide +kernel)]; exact ⟨rfl, rfl⟩))
    (fun os started H enc _ => lifted os started H enc)

/-- The statement. -/
theorem proved : Rows.InsnStaysSaid :=
  over
end Go.Proofs.Ytmlkiamemkfdlaa.insnStays
