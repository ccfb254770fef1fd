/-
  The helpers' shapes, one by one: walks over the program's own text.
-/
import Derived.Test.YtknmpllnclkghaaKn
namespace Go.Proofs.Ytknmpllnclkghaa
open Go.ChangeShapes Go.WideShapes Go.ChangeAt Go.RowKit
set_option linter.unusedVariables false
set_option linter.unusedSimpArgs false
set_option maxHeartbeats 4000000 in
set_option maxRecDepth 100000 in
theorem shape_15 (w : World) : Calls Try.prog 4 #[.int .i64 15] w fun e w' => e = .returned (.bool true) ∧ Below w.heap.size w w' := by
  go_enter Try.func4, Try.ntmps4
  go_wp2_with (first
    | ((with_reducible refine (known_any _).mono ?_); rintro e w1 ⟨rfl, g1⟩)
    | ((with_reducible refine (of_15 _).mono ?_); rintro e w2 ⟨rfl, g2⟩))
  refine wp_loop_rounds 6 ?_
  iterate 6 (rw [rounds_succ]; go_wp2)
  go_ret
  exact ⟨rfl, Below.trans g1 (Below.trans (g2.mono g1.size) ((Below.refl _ _).alloc (Nat.le_trans g1.size g2.size) _))⟩
set_option maxHeartbeats 4000000 in
set_option maxRecDepth 100000 in
theorem shape_16 (w : World) : Calls Try.prog 4 #[.int .i64 16] w fun e w' => e = .returned (.bool true) ∧ Below w.heap.size w w' := by
  go_enter Try.func4, Try.ntmps4
  go_wp2_with (first
    | ((with_reducible refine (known_any _).mono ?_); rintro e w1 ⟨rfl, g1⟩)
    | ((with_reducible refine (of_16 _).mono ?_); rintro e w2 ⟨rfl, g2⟩))
  refine wp_loop_rounds 6 ?_
  iterate 6 (rw [rounds_succ]; go_wp2)
  go_ret
  exact ⟨rfl, Below.trans g1 (Below.trans (g2.mono g1.size) ((Below.refl _ _).alloc (Nat.le_trans g1.size g2.size) _))⟩
set_option maxHeartbeats 4000000 in
set_option maxRecDepth 100000 in
theorem shape_17 (w : World) : Calls Try.prog 4 #[.int .i64 17] w fun e w' => e = .returned (.bool true) ∧ Below w.heap.size w w' := by
  go_enter Try.func4, Try.ntmps4
  go_wp2_with (first
    | ((with_reducible refine (known_any _).mono ?_); rintro e w1 ⟨rfl, g1⟩)
    | ((with_reducible refine (of_17 _).mono ?_); rintro e w2 ⟨rfl, g2⟩))
  refine wp_loop_rounds 6 ?_
  iterate 6 (rw [rounds_succ]; go_wp2)
  go_ret
  exact ⟨rfl, Below.trans g1 (Below.trans (g2.mono g1.size) ((Below.refl _ _).alloc (Nat.le_trans g1.size g2.size) _))⟩
set_option maxHeartbeats 4000000 in
set_option maxRecDepth 100000 in
theorem shape_18 (w : World) : Calls Try.prog 4 #[.int .i64 18] w fun e w' => e = .returned (.bool true) ∧ Below w.heap.size w w' := by
  go_enter Try.func4, Try.ntmps4
  go_wp2_with (first
    | ((with_reducible refine (known_any _).mono ?_); rintro e w1 ⟨rfl, g1⟩)
    | ((with_reducible refine (of_18 _).mono ?_); rintro e w2 ⟨rfl, g2⟩))
  refine wp_loop_rounds 6 ?_
  iterate 6 (rw [rounds_succ]; go_wp2)
  go_ret
  exact ⟨rfl, Below.trans g1 (Below.trans (g2.mono g1.size) ((Below.refl _ _).alloc (Nat.le_trans g1.size g2.size) _))⟩
set_option maxHeartbeats 4000000 in
set_option maxRecDepth 100000 in
theorem shape_19 (w : World) : Calls Try.prog 4 #[.int .i64 19] w fun e w' => e = .returned (.bool true) ∧ Below w.heap.size w w' := by
  go_enter Try.func4, Try.ntmps4
  go_wp2_with (first
    | ((with_reducible refine (known_any _).mono ?_); rintro e w1 ⟨rfl, g1⟩)
    | ((with_reducible refine (of_19 _).mono ?_); rintro e w2 ⟨rfl, g2⟩))
  refine wp_loop_rounds 6 ?_
  iterate 6 (rw [rounds_succ]; go_wp2)
  go_ret
  exact ⟨rfl, Below.trans g1 (Below.trans (g2.mono g1.size) ((Below.refl _ _).alloc (Nat.le_trans g1.size g2.size) _))⟩
set_option maxHeartbeats 4000000 in
set_option maxRecDepth 100000 in
theorem shape_20 (w : World) : Calls Try.prog 4 #[.int .i64 20] w fun e w' => e = .returned (.bool true) ∧ Below w.heap.size w w' := by
  go_enter Try.func4, Try.ntmps4
  go_wp2_with (first
    | ((with_reducible refine (known_any _).mono ?_); rintro e w1 ⟨rfl, g1⟩)
    | ((with_reducible refine (of_20 _).mono ?_); rintro e w2 ⟨rfl, g2⟩))
  refine wp_loop_rounds 6 ?_
  iterate 6 (rw [rounds_succ]; go_wp2)
  go_ret
  exact ⟨rfl, Below.trans g1 (Below.trans (g2.mono g1.size) ((Below.refl _ _).alloc (Nat.le_trans g1.size g2.size) _))⟩
set_option maxHeartbeats 4000000 in
set_option maxRecDepth 100000 in
theorem shape_21 (w : World) : Calls Try.prog 4 #[.int .i64 21] w fun e w' => e = .returned (.bool true) ∧ Below w.heap.size w w' := by
  go_enter Try.func4, Try.ntmps4
  go_wp2_with (first
    | ((with_reducible refine (known_any _).mono ?_); rintro e w1 ⟨rfl, g1⟩)
    | ((with_reducible refine (of_21 _).mono ?_); rintro e w2 ⟨rfl, g2⟩))
  refine wp_loop_rounds 6 ?_
  iterate 6 (rw [rounds_succ]; go_wp2)
  go_ret
  exact ⟨rfl, Below.trans g1 (Below.trans (g2.mono g1.size) ((Below.refl _ _).alloc (Nat.le_trans g1.size g2.size) _))⟩
end Go.Proofs.Ytknmpllnclkghaa
