/-
  The helpers' shapes, one by one: walks over the program's own text.
-/
import Derived.Test.YtknmpllnclkghaaKn
namespace Go.Proofs.Ytknmpllnclkghaa
open Go.ChangeShapes Go.WideShapes Go.ChangeAt Go.RowKit
set_option linter.unusedVariables false
set_option linter.unusedSimpArgs false
set_option maxHeartbeats 4000000 in
set_option maxRecDepth 100000 in
theorem shape_22 (w : World) : Calls Try.prog 4 #[.int .i64 22] w fun e w' => e = .returned (.bool true) ∧ Below w.heap.size w w' := by
  go_enter Try.func4, Try.ntmps4
  go_wp2_with (first
    | ((with_reducible refine (known_any _).mono ?_); rintro e w1 ⟨rfl, g1⟩)
    | ((with_reducible refine (of_22 _).mono ?_); rintro e w2 ⟨rfl, g2⟩))
  refine wp_loop_rounds 6 ?_
  iterate 6 (rw [rounds_succ]; go_wp2)
  go_ret
  exact ⟨rfl, Below.trans g1 (Below.trans (g2.mono g1.size) ((Below.refl _ _).alloc (Nat.le_trans g1.size g2.size) _))⟩
set_option maxHeartbeats 4000000 in
set_option maxRecDepth 100000 in
theorem shape_23 (w : World) : Calls Try.prog 4 #[.int .i64 23] w fun e w' => e = .returned (.bool true) ∧ Below w.heap.size w w' := by
  go_enter Try.func4, Try.ntmps4
  go_wp2_with (first
    | ((with_reducible refine (known_any _).mono ?_); rintro e w1 ⟨rfl, g1⟩)
    | ((with_reducible refine (of_23 _).mono ?_); rintro e w2 ⟨rfl, g2⟩))
  refine wp_loop_rounds 6 ?_
  iterate 6 (rw [rounds_succ]; go_wp2)
  go_ret
  exact ⟨rfl, Below.trans g1 (Below.trans (g2.mono g1.size) ((Below.refl _ _).alloc (Nat.le_trans g1.size g2.size) _))⟩
set_option maxHeartbeats 4000000 in
set_option maxRecDepth 100000 in
theorem shape_24 (w : World) : Calls Try.prog 4 #[.int .i64 24] w fun e w' => e = .returned (.bool true) ∧ Below w.heap.size w w' := by
  go_enter Try.func4, Try.ntmps4
  go_wp2_with (first
    | ((with_reducible refine (known_any _).mono ?_); rintro e w1 ⟨rfl, g1⟩)
    | ((with_reducible refine (of_24 _).mono ?_); rintro e w2 ⟨rfl, g2⟩))
  refine wp_loop_rounds 6 ?_
  iterate 6 (rw [rounds_succ]; go_wp2)
  go_ret
  exact ⟨rfl, Below.trans g1 (Below.trans (g2.mono g1.size) ((Below.refl _ _).alloc (Nat.le_trans g1.size g2.size) _))⟩
set_option maxHeartbeats 4000000 in
set_option maxRecDepth 100000 in
theorem shape_25 (w : World) : Calls Try.prog 4 #[.int .i64 25] w fun e w' => e = .returned (.bool true) ∧ Below w.heap.size w w' := by
  go_enter Try.func4, Try.ntmps4
  go_wp2_with (first
    | ((with_reducible refine (known_any _).mono ?_); rintro e w1 ⟨rfl, g1⟩)
    | ((with_reducible refine (of_25 _).mono ?_); rintro e w2 ⟨rfl, g2⟩))
  refine wp_loop_rounds 6 ?_
  iterate 6 (rw [rounds_succ]; go_wp2)
  go_ret
  exact ⟨rfl, Below.trans g1 (Below.trans (g2.mono g1.size) ((Below.refl _ _).alloc (Nat.le_trans g1.size g2.size) _))⟩
set_option maxHeartbeats 4000000 in
set_option maxRecDepth 100000 in
theorem shape_26 (w : World) : Calls Try.prog 4 #[.int .i64 26] w fun e w' => e = .returned (.bool true) ∧ Below w.heap.size w w' := by
  go_enter Try.func4, Try.ntmps4
  go_wp2_with (first
    | ((with_reducible refine (known_any _).mono ?_); rintro e w1 ⟨rfl, g1⟩)
    | ((with_reducible refine (of_26 _).mono ?_); rintro e w2 ⟨rfl, g2⟩))
  refine wp_loop_rounds 6 ?_
  iterate 6 (rw [rounds_succ]; go_wp2)
  go_ret
  exact ⟨rfl, Below.trans g1 (Below.trans (g2.mono g1.size) ((Below.refl _ _).alloc (Nat.le_trans g1.size g2.size) _))⟩
set_option maxHeartbeats 4000000 in
set_option maxRecDepth 100000 in
theorem shape_27 (w : World) : Calls Try.prog 4 #[.int .i64 27] w fun e w' => e = .returned (.bool true) ∧ Below w.heap.size w w' := by
  go_enter Try.func4, Try.ntmps4
  go_wp2_with (first
    | ((with_reducible refine (known_any _).mono ?_); rintro e w1 ⟨rfl, g1⟩)
    | ((with_reducible refine (of_27 _).mono ?_); rintro e w2 ⟨rfl, g2⟩))
  refine wp_loop_rounds 6 ?_
  iterate 6 (rw [rounds_succ]; go_wp2)
  go_ret
  exact ⟨rfl, Below.trans g1 (Below.trans (g2.mono g1.size) ((Below.refl _ _).alloc (Nat.le_trans g1.size g2.size) _))⟩
set_option maxHeartbeats 4000000 in
set_option maxRecDepth 100000 in
theorem shape_28 (w : World) : Calls Try.prog 4 #[.int .i64 28] w fun e w' => e = .returned (.bool true) ∧ Below w.heap.size w w' := by
  go_enter Try.func4, Try.ntmps4
  go_wp2_with (first
    | ((with_reducible refine (known_any _).mono ?_); rintro e w1 ⟨rfl, g1⟩)
    | ((with_reducible refine (of_28 _).mono ?_); rintro e w2 ⟨rfl, g2⟩))
  refine wp_loop_rounds 6 ?_
  iterate 6 (rw [rounds_succ]; go_wp2)
  go_ret
  exact ⟨rfl, Below.trans g1 (Below.trans (g2.mono g1.size) ((Below.refl _ _).alloc (Nat.le_trans g1.size g2.size) _))⟩
end Go.Proofs.Ytknmpllnclkghaa
