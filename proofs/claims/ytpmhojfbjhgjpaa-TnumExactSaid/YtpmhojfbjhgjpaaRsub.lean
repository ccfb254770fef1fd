/-
  The document's sub of two tnums, as a contract over the program's own text.
-/
import Derived.Test.YtpmhojfbjhgjpaaRefD
namespace Go.Proofs.Ytpmhojfbjhgjpaa
open Go.ChangeShapes Go.WideShapes Go.ChangeAt Go.RowKit
set_option linter.unusedVariables false
set_option linter.unusedSimpArgs false

set_option maxHeartbeats 2000000 in
set_option maxRecDepth 100000 in
theorem rsub_any (a b : T) (w : World) : Calls Try.prog 27 #[.agg #[.int .u64 (nn a.v), .int .u64 (nn a.m)], .agg #[.int .u64 (nn b.v), .int .u64 (nn b.m)]] w fun e w' => e = .returned (tv (rpsub (kn a) (kn b))) ∧ Below w.heap.size w w' := by
  have f0 : F3 w (((w.alloc (.cells #[.int .u64 (nn a.v), .int .u64 (nn a.m)] 24)).alloc (.cells #[.int .u64 (nn b.v), .int .u64 (nn b.m)] 24)).alloc (.cells #[.int .u64 0, .int .u64 0] 24)).drew (.int .u64 (nn a.v)) (.int .u64 (nn a.m)) (.int .u64 (nn b.v)) (.int .u64 (nn b.m)) :=
    ⟨⟨by go_cell, by go_cell, by go_cell, by go_cell⟩, ⟨by go_simp, by go_simp, by go_simp, by go_simp⟩, ⟨by go_cell, by go_cell, by go_simp, by go_simp⟩, by simp, by go_grown⟩
  go_enter Try.func27, Try.ntmps27
  go_wp2_with fail
  go_region_with (first
    | (go_at_call 52; (with_reducible refine (may_any a _).mono ?_); rintro e w1 ⟨rfl, g1⟩; simp only [tv]; have f1 := F3.next f0 g1; obtain ⟨⟨_, _, k3, k4⟩, _⟩ := id f1)
    | (go_at_call 52; (with_reducible refine (may_any b _).mono ?_); rintro e w2 ⟨rfl, g2⟩; simp only [tv]; have f2 := F3.next f1 g2; clear k3 k4; obtain ⟨⟨k1, k2, k3, k4⟩, ⟨k5, k6, k7, k8⟩, ⟨k9, k10, k11, k12⟩, k13⟩ := f2))
  all_goals clear f0 f1
  all_goals (have hz := k13.1; have kb := k13.2; clear k13)
  all_goals (have hf0 := b_or)
  all_goals (have hf1 := b_xor)
  all_goals (have hf2 := b_add)
  all_goals (have hf3 := b_sub)
  all_goals (have hf4 := b_not)
  all_goals (go_wp2_with ((with_reducible refine (rof_any _ _ _).mono ?_); rintro e w5 ⟨rfl, g5⟩; simp only [tv]; have r9 : w5.cell? ⟨w.heap.size + 1 + 1, 0, none⟩ = some (.int .u64 0) := (g5.cell (p := ⟨w.heap.size + 1 + 1, 0, none⟩) (by simp; omega)).trans (by go_cell); have r10 : w5.cell? ⟨w.heap.size + 1 + 1, 1, none⟩ = some (.int .u64 0) := (g5.cell (p := ⟨w.heap.size + 1 + 1, 1, none⟩) (by simp; omega)).trans (by go_cell); have r11 : w5.frozen? ⟨w.heap.size + 1 + 1, 0, none⟩ = false := (g5.frozen (p := ⟨w.heap.size + 1 + 1, 0, none⟩) (by simp; omega)).trans (by go_simp); have r12 : w5.frozen? ⟨w.heap.size + 1 + 1, 1, none⟩ = false := (g5.frozen (p := ⟨w.heap.size + 1 + 1, 1, none⟩) (by simp; omega)).trans (by go_simp); have kb5 : Below w.heap.size w w5 := Below.trans (by go_grown) (g5.mono (by simp; omega))); refine bodyPost_ret (v := tv (rpsub (kn a) (kn b))) ?_ rfl ⟨rfl, ?_⟩)
  all_goals first
    | (go_grown; done)
    | (simp [results, Try.results27, go_sem, r9, r10, tv] <;> first | exact ⟨rfl, rfl⟩ | rfl)
end Go.Proofs.Ytpmhojfbjhgjpaa
