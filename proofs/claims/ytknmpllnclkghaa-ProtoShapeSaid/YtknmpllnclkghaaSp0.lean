/-
  The helpers' shapes, one by one: walks over the program's own text.
-/
import Derived.Test.YtknmpllnclkghaaKn
namespace Go.Proofs.Ytknmpllnclkghaa
open Go.ChangeShapes Go.WideShapes Go.ChangeAt Go.RowKit
set_option linter.unusedVariables false
set_option linter.unusedSimpArgs false
set_option maxHeartbeats 4000000 in
set_option maxRecDepth 100000 in
theorem shape_1 (w : World) : Calls Try.prog 4 #[.int .i64 1] w fun e w' => e = .returned (.bool true) ∧ Below w.heap.size w w' := by
  go_enter Try.func4, Try.ntmps4
  go_wp2_with (first
    | ((with_reducible refine (known_any _).mono ?_); rintro e w1 ⟨rfl, g1⟩)
    | ((with_reducible refine (of_1 _).mono ?_); rintro e w2 ⟨rfl, g2⟩))
  refine wp_loop_rounds 6 ?_
  iterate 6 (rw [rounds_succ]; go_wp2)
  go_ret
  exact ⟨rfl, Below.trans g1 (Below.trans (g2.mono g1.size) ((Below.refl _ _).alloc (Nat.le_trans g1.size g2.size) _))⟩
set_option maxHeartbeats 4000000 in
set_option maxRecDepth 100000 in
theorem shape_2 (w : World) : Calls Try.prog 4 #[.int .i64 2] w fun e w' => e = .returned (.bool true) ∧ Below w.heap.size w w' := by
  go_enter Try.func4, Try.ntmps4
  go_wp2_with (first
    | ((with_reducible refine (known_any _).mono ?_); rintro e w1 ⟨rfl, g1⟩)
    | ((with_reducible refine (of_2 _).mono ?_); rintro e w2 ⟨rfl, g2⟩))
  refine wp_loop_rounds 6 ?_
  iterate 6 (rw [rounds_succ]; go_wp2)
  go_ret
  exact ⟨rfl, Below.trans g1 (Below.trans (g2.mono g1.size) ((Below.refl _ _).alloc (Nat.le_trans g1.size g2.size) _))⟩
set_option maxHeartbeats 4000000 in
set_option maxRecDepth 100000 in
theorem shape_3 (w : World) : Calls Try.prog 4 #[.int .i64 3] w fun e w' => e = .returned (.bool true) ∧ Below w.heap.size w w' := by
  go_enter Try.func4, Try.ntmps4
  go_wp2_with (first
    | ((with_reducible refine (known_any _).mono ?_); rintro e w1 ⟨rfl, g1⟩)
    | ((with_reducible refine (of_3 _).mono ?_); rintro e w2 ⟨rfl, g2⟩))
  refine wp_loop_rounds 6 ?_
  iterate 6 (rw [rounds_succ]; go_wp2)
  go_ret
  exact ⟨rfl, Below.trans g1 (Below.trans (g2.mono g1.size) ((Below.refl _ _).alloc (Nat.le_trans g1.size g2.size) _))⟩
set_option maxHeartbeats 4000000 in
set_option maxRecDepth 100000 in
theorem shape_4 (w : World) : Calls Try.prog 4 #[.int .i64 4] w fun e w' => e = .returned (.bool true) ∧ Below w.heap.size w w' := by
  go_enter Try.func4, Try.ntmps4
  go_wp2_with (first
    | ((with_reducible refine (known_any _).mono ?_); rintro e w1 ⟨rfl, g1⟩)
    | ((with_reducible refine (of_4 _).mono ?_); rintro e w2 ⟨rfl, g2⟩))
  refine wp_loop_rounds 6 ?_
  iterate 6 (rw [rounds_succ]; go_wp2)
  go_ret
  exact ⟨rfl, Below.trans g1 (Below.trans (g2.mono g1.size) ((Below.refl _ _).alloc (Nat.le_trans g1.size g2.size) _))⟩
set_option maxHeartbeats 4000000 in
set_option maxRecDepth 100000 in
theorem shape_5 (w : World) : Calls Try.prog 4 #[.int .i64 5] w fun e w' => e = .returned (.bool true) ∧ Below w.heap.size w w' := by
  go_enter Try.func4, Try.ntmps4
  go_wp2_with (first
    | ((with_reducible refine (known_any _).mono ?_); rintro e w1 ⟨rfl, g1⟩)
    | ((with_reducible refine (of_5 _).mono ?_); rintro e w2 ⟨rfl, g2⟩))
  refine wp_loop_rounds 6 ?_
  iterate 6 (rw [rounds_succ]; go_wp2)
  go_ret
  exact ⟨rfl, Below.trans g1 (Below.trans (g2.mono g1.size) ((Below.refl _ _).alloc (Nat.le_trans g1.size g2.size) _))⟩
set_option maxHeartbeats 4000000 in
set_option maxRecDepth 100000 in
theorem shape_6 (w : World) : Calls Try.prog 4 #[.int .i64 6] w fun e w' => e = .returned (.bool true) ∧ Below w.heap.size w w' := by
  go_enter Try.func4, Try.ntmps4
  go_wp2_with (first
    | ((with_reducible refine (known_any _).mono ?_); rintro e w1 ⟨rfl, g1⟩)
    | ((with_reducible refine (of_6 _).mono ?_); rintro e w2 ⟨rfl, g2⟩))
  refine wp_loop_rounds 6 ?_
  iterate 6 (rw [rounds_succ]; go_wp2)
  go_ret
  exact ⟨rfl, Below.trans g1 (Below.trans (g2.mono g1.size) ((Below.refl _ _).alloc (Nat.le_trans g1.size g2.size) _))⟩
set_option maxHeartbeats 4000000 in
set_option maxRecDepth 100000 in
theorem shape_7 (w : World) : Calls Try.prog 4 #[.int .i64 7] w fun e w' => e = .returned (.bool true) ∧ Below w.heap.size w w' := by
  go_enter Try.func4, Try.ntmps4
  go_wp2_with (first
    | ((with_reducible refine (known_any _).mono ?_); rintro e w1 ⟨rfl, g1⟩)
    | ((with_reducible refine (of_7 _).mono ?_); rintro e w2 ⟨rfl, g2⟩))
  refine wp_loop_rounds 6 ?_
  iterate 6 (rw [rounds_succ]; go_wp2)
  go_ret
  exact ⟨rfl, Below.trans g1 (Below.trans (g2.mono g1.size) ((Below.refl _ _).alloc (Nat.le_trans g1.size g2.size) _))⟩
end Go.Proofs.Ytknmpllnclkghaa
