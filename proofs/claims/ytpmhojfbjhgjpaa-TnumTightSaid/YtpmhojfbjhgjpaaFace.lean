/-
  The faces of package tnum, as contracts over the program's own text.
-/
import Derived.Test.YtpmhojfbjhgjpaaOf
import Derived.StillTailTactics
namespace Go.Proofs.Ytpmhojfbjhgjpaa
open Go.ChangeShapes Go.WideShapes Go.ChangeAt Go.RowKit
set_option linter.unusedVariables false
set_option linter.unusedSimpArgs false

theorem join_any (a b : T) (w : World) : Calls Try.prog 22 #[.agg #[.int .u64 (nn a.v), .int .u64 (nn a.m)], .agg #[.int .u64 (nn b.v), .int .u64 (nn b.m)]] w fun e w' => e = .returned (tv (join a b)) ∧ Below w.heap.size w w' := by
  go_enter Try.func22, Try.ntmps22
  go_wp2_with ((with_reducible refine (of_any 57 pjoin (fun xs w => by kernel_rfl) pjoin_any _ _ _).mono ?_); rintro e w1 ⟨rfl, g1⟩; obtain ⟨hc, hf⟩ := bcell g1; simp only [tv])
  refine bodyPost_ret (v := tv (join a b)) ?_ rfl ⟨rfl, ?_⟩
  · simp [results, Try.results22, go_sem, hc, hf, tv, join]
    try rfl
  · refine Below.setCell (Below.setCell (Below.trans ?_ (g1.mono ?_)) ?_ _) ?_ _ <;> go_grown

theorem add_any (a b : T) (w : World) : Calls Try.prog 24 #[.agg #[.int .u64 (nn a.v), .int .u64 (nn a.m)], .agg #[.int .u64 (nn b.v), .int .u64 (nn b.m)]] w fun e w' => e = .returned (tv (add a b)) ∧ Below w.heap.size w w' := by
  go_enter Try.func24, Try.ntmps24
  go_wp2_with ((with_reducible refine (of_any 58 padd (fun xs w => by kernel_rfl) padd_any _ _ _).mono ?_); rintro e w1 ⟨rfl, g1⟩; obtain ⟨hc, hf⟩ := bcell g1; simp only [tv])
  refine bodyPost_ret (v := tv (add a b)) ?_ rfl ⟨rfl, ?_⟩
  · simp [results, Try.results24, go_sem, hc, hf, tv, add]
    try rfl
  · refine Below.setCell (Below.setCell (Below.trans ?_ (g1.mono ?_)) ?_ _) ?_ _ <;> go_grown

theorem sub_any (a b : T) (w : World) : Calls Try.prog 26 #[.agg #[.int .u64 (nn a.v), .int .u64 (nn a.m)], .agg #[.int .u64 (nn b.v), .int .u64 (nn b.m)]] w fun e w' => e = .returned (tv (sub a b)) ∧ Below w.heap.size w w' := by
  go_enter Try.func26, Try.ntmps26
  go_wp2_with ((with_reducible refine (of_any 59 psub (fun xs w => by kernel_rfl) psub_any _ _ _).mono ?_); rintro e w1 ⟨rfl, g1⟩; obtain ⟨hc, hf⟩ := bcell g1; simp only [tv])
  refine bodyPost_ret (v := tv (sub a b)) ?_ rfl ⟨rfl, ?_⟩
  · simp [results, Try.results26, go_sem, hc, hf, tv, sub]
    try rfl
  · refine Below.setCell (Below.setCell (Below.trans ?_ (g1.mono ?_)) ?_ _) ?_ _ <;> go_grown

theorem and_any (a b : T) (w : World) : Calls Try.prog 28 #[.agg #[.int .u64 (nn a.v), .int .u64 (nn a.m)], .agg #[.int .u64 (nn b.v), .int .u64 (nn b.m)]] w fun e w' => e = .returned (tv (and a b)) ∧ Below w.heap.size w w' := by
  go_enter Try.func28, Try.ntmps28
  go_wp2_with ((with_reducible refine (of_any 60 pand (fun xs w => by kernel_rfl) pand_any _ _ _).mono ?_); rintro e w1 ⟨rfl, g1⟩; obtain ⟨hc, hf⟩ := bcell g1; simp only [tv])
  refine bodyPost_ret (v := tv (and a b)) ?_ rfl ⟨rfl, ?_⟩
  · simp [results, Try.results28, go_sem, hc, hf, tv, and]
    try rfl
  · refine Below.setCell (Below.setCell (Below.trans ?_ (g1.mono ?_)) ?_ _) ?_ _ <;> go_grown

theorem or_any (a b : T) (w : World) : Calls Try.prog 30 #[.agg #[.int .u64 (nn a.v), .int .u64 (nn a.m)], .agg #[.int .u64 (nn b.v), .int .u64 (nn b.m)]] w fun e w' => e = .returned (tv (or a b)) ∧ Below w.heap.size w w' := by
  go_enter Try.func30, Try.ntmps30
  go_wp2_with ((with_reducible refine (of_any 61 por (fun xs w => by kernel_rfl) por_any _ _ _).mono ?_); rintro e w1 ⟨rfl, g1⟩; obtain ⟨hc, hf⟩ := bcell g1; simp only [tv])
  refine bodyPost_ret (v := tv (or a b)) ?_ rfl ⟨rfl, ?_⟩
  · simp [results, Try.results30, go_sem, hc, hf, tv, or]
    try rfl
  · refine Below.setCell (Below.setCell (Below.trans ?_ (g1.mono ?_)) ?_ _) ?_ _ <;> go_grown

theorem xor_any (a b : T) (w : World) : Calls Try.prog 32 #[.agg #[.int .u64 (nn a.v), .int .u64 (nn a.m)], .agg #[.int .u64 (nn b.v), .int .u64 (nn b.m)]] w fun e w' => e = .returned (tv (xor a b)) ∧ Below w.heap.size w w' := by
  go_enter Try.func32, Try.ntmps32
  go_wp2_with ((with_reducible refine (of_any 62 pxor (fun xs w => by kernel_rfl) pxor_any _ _ _).mono ?_); rintro e w1 ⟨rfl, g1⟩; obtain ⟨hc, hf⟩ := bcell g1; simp only [tv])
  refine bodyPost_ret (v := tv (xor a b)) ?_ rfl ⟨rfl, ?_⟩
  · simp [results, Try.results32, go_sem, hc, hf, tv, xor]
    try rfl
  · refine Below.setCell (Below.setCell (Below.trans ?_ (g1.mono ?_)) ?_ _) ?_ _ <;> go_grown

end Go.Proofs.Ytpmhojfbjhgjpaa
