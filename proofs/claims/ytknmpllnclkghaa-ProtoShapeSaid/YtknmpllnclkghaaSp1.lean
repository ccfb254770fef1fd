/-
  The helpers' shapes, one by one: walks over the program's own text.
-/
import Derived.Test.YtknmpllnclkghaaKn
namespace Go.Proofs.Ytknmpllnclkghaa
open Go.ChangeShapes Go.WideShapes Go.ChangeAt Go.RowKit
set_option linter.unusedVariables false
set_option linter.unusedSimpArgs false
set_option maxHeartbeats 4000000 in
set_option maxRecDepth 100000 in
theorem shape_8 (w : World) : Calls Try.prog 4 #[.int .i64 8] w fun e w' => e = .returned (.bool true) ∧ Below w.heap.size w w' := by
  go_enter Try.func4, Try.ntmps4
  go_wp2_with (first
    | ((with_reducible refine (known_any _).mono ?_); rintro e w1 ⟨rfl, g1⟩)
    | ((with_reducible refine (of_8 _).mono ?_); rintro e w2 ⟨rfl, g2⟩))
  refine wp_loop_rounds 6 ?_
  iterate 6 (rw [rounds_succ]; go_wp2)
  go_ret
  exact ⟨rfl, Below.trans g1 (Below.trans (g2.mono g1.size) ((Below.refl _ _).alloc (Nat.le_trans g1.size g2.size) _))⟩
set_option maxHeartbeats 4000000 in
set_option maxRecDepth 100000 in
theorem shape_9 (w : World) : Calls Try.prog 4 #[.int .i64 9] w fun e w' => e = .returned (.bool true) ∧ Below w.heap.size w w' := by
  go_enter Try.func4, Try.ntmps4
  go_wp2_with (first
    | ((with_reducible refine (known_any _).mono ?_); rintro e w1 ⟨rfl, g1⟩)
    | ((with_reducible refine (of_9 _).mono ?_); rintro e w2 ⟨rfl, g2⟩))
  refine wp_loop_rounds 6 ?_
  iterate 6 (rw [rounds_succ]; go_wp2)
  go_ret
  exact ⟨rfl, Below.trans g1 (Below.trans (g2.mono g1.size) ((Below.refl _ _).alloc (Nat.le_trans g1.size g2.size) _))⟩
set_option maxHeartbeats 4000000 in
set_option maxRecDepth 100000 in
theorem shape_10 (w : World) : Calls Try.prog 4 #[.int .i64 10] w fun e w' => e = .returned (.bool true) ∧ Below w.heap.size w w' := by
  go_enter Try.func4, Try.ntmps4
  go_wp2_with (first
    | ((with_reducible refine (known_any _).mono ?_); rintro e w1 ⟨rfl, g1⟩)
    | ((with_reducible refine (of_10 _).mono ?_); rintro e w2 ⟨rfl, g2⟩))
  refine wp_loop_rounds 6 ?_
  iterate 6 (rw [rounds_succ]; go_wp2)
  go_ret
  exact ⟨rfl, Below.trans g1 (Below.trans (g2.mono g1.size) ((Below.refl _ _).alloc (Nat.le_trans g1.size g2.size) _))⟩
set_option maxHeartbeats 4000000 in
set_option maxRecDepth 100000 in
theorem shape_11 (w : World) : Calls Try.prog 4 #[.int .i64 11] w fun e w' => e = .returned (.bool true) ∧ Below w.heap.size w w' := by
  go_enter Try.func4, Try.ntmps4
  go_wp2_with (first
    | ((with_reducible refine (known_any _).mono ?_); rintro e w1 ⟨rfl, g1⟩)
    | ((with_reducible refine (of_11 _).mono ?_); rintro e w2 ⟨rfl, g2⟩))
  refine wp_loop_rounds 6 ?_
  iterate 6 (rw [rounds_succ]; go_wp2)
  go_ret
  exact ⟨rfl, Below.trans g1 (Below.trans (g2.mono g1.size) ((Below.refl _ _).alloc (Nat.le_trans g1.size g2.size) _))⟩
set_option maxHeartbeats 4000000 in
set_option maxRecDepth 100000 in
theorem shape_12 (w : World) : Calls Try.prog 4 #[.int .i64 12] w fun e w' => e = .returned (.bool true) ∧ Below w.heap.size w w' := by
  go_enter Try.func4, Try.ntmps4
  go_wp2_with (first
    | ((with_reducible refine (known_any _).mono ?_); rintro e w1 ⟨rfl, g1⟩)
    | ((with_reducible refine (of_12 _).mono ?_); rintro e w2 ⟨rfl, g2⟩))
  refine wp_loop_rounds 6 ?_
  iterate 6 (rw [rounds_succ]; go_wp2)
  go_ret
  exact ⟨rfl, Below.trans g1 (Below.trans (g2.mono g1.size) ((Below.refl _ _).alloc (Nat.le_trans g1.size g2.size) _))⟩
set_option maxHeartbeats 4000000 in
set_option maxRecDepth 100000 in
theorem shape_13 (w : World) : Calls Try.prog 4 #[.int .i64 13] w fun e w' => e = .returned (.bool true) ∧ Below w.heap.size w w' := by
  go_enter Try.func4, Try.ntmps4
  go_wp2_with (first
    | ((with_reducible refine (known_any _).mono ?_); rintro e w1 ⟨rfl, g1⟩)
    | ((with_reducible refine (of_13 _).mono ?_); rintro e w2 ⟨rfl, g2⟩))
  refine wp_loop_rounds 6 ?_
  iterate 6 (rw [rounds_succ]; go_wp2)
  go_ret
  exact ⟨rfl, Below.trans g1 (Below.trans (g2.mono g1.size) ((Below.refl _ _).alloc (Nat.le_trans g1.size g2.size) _))⟩
set_option maxHeartbeats 4000000 in
set_option maxRecDepth 100000 in
theorem shape_14 (w : World) : Calls Try.prog 4 #[.int .i64 14] w fun e w' => e = .returned (.bool true) ∧ Below w.heap.size w w' := by
  go_enter Try.func4, Try.ntmps4
  go_wp2_with (first
    | ((with_reducible refine (known_any _).mono ?_); rintro e w1 ⟨rfl, g1⟩)
    | ((with_reducible refine (of_14 _).mono ?_); rintro e w2 ⟨rfl, g2⟩))
  refine wp_loop_rounds 6 ?_
  iterate 6 (rw [rounds_succ]; go_wp2)
  go_ret
  exact ⟨rfl, Below.trans g1 (Below.trans (g2.mono g1.size) ((Below.refl _ _).alloc (Nat.le_trans g1.size g2.size) _))⟩
end Go.Proofs.Ytknmpllnclkghaa
