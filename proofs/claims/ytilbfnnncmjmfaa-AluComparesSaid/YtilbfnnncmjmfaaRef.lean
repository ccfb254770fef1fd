/-
  What the document's operations (the reference of layer 2) answer, for the codes from 0 to 12 (and for all others), as a contract over the program's own text: no condition.
-/
import Derived.Test.YtilbfnnncmjmfaaDo
import Derived.Test.YtilbfnnncmjmfaaMathC
import Derived.Lib.Hide
import Derived.Laws.Closers25b
namespace Go.Proofs.Ytilbfnnncmjmfaa
open Go.ChangeShapes Go.WideShapes Go.ChangeAt Go.RowKit
set_option linter.unusedVariables false

theorem cut_wide (v : Int) (w : World) : Calls Try.prog 22 #[.int .u64 v, .bool true] w fun e w' => e = .returned (.int .u64 v) ∧ w = w' := by
  go_enter Try.func22, Try.ntmps22
  go_wp2
  go_ret
  exact ⟨rfl, rfl⟩
theorem cut_narrow (v : Int) (h : 0 ≤ v) (w : World) : Calls Try.prog 22 #[.int .u64 v, .bool false] w fun e w' => e = .returned (.int .u64 (v % 4294967296)) ∧ w = w' := by
  go_enter Try.func22, Try.ntmps22
  go_wp2
  go_ret
  exact ⟨rfl, rfl⟩
theorem ret_two {a b : Int} (h : a = b) : Ending.returned (.tuple #[.int .u64 a, .bool true]) = .returned (.tuple #[.int .u64 b, .bool true]) := by rw [h]
set_option maxRecDepth 100000 in
set_option maxHeartbeats 1000000 in
theorem ref_64_0 (x y A B : Nat) (hA : A < 18446744073709551616) (hB : B < 18446744073709551616)
    (cA : ∀ w, Calls Try.prog 22 #[.int .u64 x, .bool true] w fun e w' => e = .returned (.int .u64 A) ∧ w = w')
    (cB : ∀ w, Calls Try.prog 22 #[.int .u64 y, .bool true] w fun e w' => e = .returned (.int .u64 B) ∧ w = w') (w : World) :
    Calls Try.prog 12 #[.int .i64 0, .bool true, .int .u64 x, .int .u64 y] w fun e w' => e = .returned (.tuple #[.int .u64 (opN 64 0 A B : Nat), .bool true]) ∧ w = w' := by
  go_enter Try.func12, Try.ntmps12
  go_wp2_with (first
    | ((with_reducible refine (cA _).mono ?_); rintro e w1 ⟨rfl, rfl⟩)
    | ((with_reducible refine (cB _).mono ?_); rintro e w1 ⟨rfl, rfl⟩)
    | ((with_reducible refine (cut_wide _ _).mono ?_); rintro e w1 ⟨rfl, rfl⟩))
  go_ret2
  exact ⟨ret_two (by rw [wrap_u64]; simp only [opN]; omega), rfl⟩
set_option maxRecDepth 100000 in
set_option maxHeartbeats 1000000 in
theorem ref_64_1 (x y A B : Nat) (hA : A < 18446744073709551616) (hB : B < 18446744073709551616)
    (cA : ∀ w, Calls Try.prog 22 #[.int .u64 x, .bool true] w fun e w' => e = .returned (.int .u64 A) ∧ w = w')
    (cB : ∀ w, Calls Try.prog 22 #[.int .u64 y, .bool true] w fun e w' => e = .returned (.int .u64 B) ∧ w = w') (w : World) :
    Calls Try.prog 12 #[.int .i64 1, .bool true, .int .u64 x, .int .u64 y] w fun e w' => e = .returned (.tuple #[.int .u64 (opN 64 1 A B : Nat), .bool true]) ∧ w = w' := by
  go_enter Try.func12, Try.ntmps12
  go_wp2_with (first
    | ((with_reducible refine (cA _).mono ?_); rintro e w1 ⟨rfl, rfl⟩)
    | ((with_reducible refine (cB _).mono ?_); rintro e w1 ⟨rfl, rfl⟩)
    | ((with_reducible refine (cut_wide _ _).mono ?_); rintro e w1 ⟨rfl, rfl⟩))
  go_ret2
  exact ⟨ret_two (by rw [wrap_u64]; simp only [opN]; omega), rfl⟩
set_option maxRecDepth 100000 in
set_option maxHeartbeats 1000000 in
theorem ref_64_2 (x y A B : Nat) (hA : A < 18446744073709551616) (hB : B < 18446744073709551616)
    (cA : ∀ w, Calls Try.prog 22 #[.int .u64 x, .bool true] w fun e w' => e = .returned (.int .u64 A) ∧ w = w')
    (cB : ∀ w, Calls Try.prog 22 #[.int .u64 y, .bool true] w fun e w' => e = .returned (.int .u64 B) ∧ w = w') (w : World) :
    Calls Try.prog 12 #[.int .i64 2, .bool true, .int .u64 x, .int .u64 y] w fun e w' => e = .returned (.tuple #[.int .u64 (opN 64 2 A B : Nat), .bool true]) ∧ w = w' := by
  go_enter Try.func12, Try.ntmps12
  go_wp2_with (first
    | ((with_reducible refine (cA _).mono ?_); rintro e w1 ⟨rfl, rfl⟩)
    | ((with_reducible refine (cB _).mono ?_); rintro e w1 ⟨rfl, rfl⟩)
    | ((with_reducible refine (cut_wide _ _).mono ?_); rintro e w1 ⟨rfl, rfl⟩))
  go_ret2
  exact ⟨ret_two (by rw [wrap_u64, ← Int.natCast_mul]; simp only [opN]; omega), rfl⟩
set_option maxRecDepth 100000 in
set_option maxHeartbeats 1000000 in
theorem ref_64_3 (x y A B : Nat) (hA : A < 18446744073709551616) (hB : B < 18446744073709551616)
    (cA : ∀ w, Calls Try.prog 22 #[.int .u64 x, .bool true] w fun e w' => e = .returned (.int .u64 A) ∧ w = w')
    (cB : ∀ w, Calls Try.prog 22 #[.int .u64 y, .bool true] w fun e w' => e = .returned (.int .u64 B) ∧ w = w') (w : World) :
    Calls Try.prog 12 #[.int .i64 3, .bool true, .int .u64 x, .int .u64 y] w fun e w' => e = .returned (.tuple #[.int .u64 (opN 64 3 A B : Nat), .bool true]) ∧ w = w' := by
  by_cases h0 : B = 0
  · subst h0
    go_enter Try.func12, Try.ntmps12
    go_wp2_with (first
      | ((with_reducible refine (cA _).mono ?_); rintro e w1 ⟨rfl, rfl⟩)
      | ((with_reducible refine (cB _).mono ?_); rintro e w1 ⟨rfl, rfl⟩)
      | ((with_reducible refine (cut_wide _ _).mono ?_); rintro e w1 ⟨rfl, rfl⟩))
    go_ret2
    exact ⟨ret_two (by simp [opN]), rfl⟩
  · have h1 : 0 < B := Nat.pos_of_ne_zero h0
    go_enter Try.func12, Try.ntmps12
    go_wp2_with (first
      | ((with_reducible refine (cA _).mono ?_); rintro e w1 ⟨rfl, rfl⟩)
      | ((with_reducible refine (cB _).mono ?_); rintro e w1 ⟨rfl, rfl⟩)
      | ((with_reducible refine (cut_wide _ _).mono ?_); rintro e w1 ⟨rfl, rfl⟩))
    go_ret2
    exact ⟨ret_two (by have := Nat.div_le_self A B; simp only [opN]; first | (rw [wrap_u64, ← Int.natCast_ediv]; generalize A / B = q at *; omega) | (rw [← Int.natCast_ediv]; generalize A / B = q at *; omega)), rfl⟩
set_option maxRecDepth 100000 in
set_option maxHeartbeats 1000000 in
theorem ref_64_4 (x y A B : Nat) (hA : A < 18446744073709551616) (hB : B < 18446744073709551616)
    (cA : ∀ w, Calls Try.prog 22 #[.int .u64 x, .bool true] w fun e w' => e = .returned (.int .u64 A) ∧ w = w')
    (cB : ∀ w, Calls Try.prog 22 #[.int .u64 y, .bool true] w fun e w' => e = .returned (.int .u64 B) ∧ w = w') (w : World) :
    Calls Try.prog 12 #[.int .i64 4, .bool true, .int .u64 x, .int .u64 y] w fun e w' => e = .returned (.tuple #[.int .u64 (opN 64 4 A B : Nat), .bool true]) ∧ w = w' := by
  go_enter Try.func12, Try.ntmps12
  go_wp2_with (first
    | ((with_reducible refine (cA _).mono ?_); rintro e w1 ⟨rfl, rfl⟩)
    | ((with_reducible refine (cB _).mono ?_); rintro e w1 ⟨rfl, rfl⟩)
    | ((with_reducible refine (cut_wide _ _).mono ?_); rintro e w1 ⟨rfl, rfl⟩))
  go_ret2
  exact ⟨ret_two (bits_or_u64_nat A B (by omega) (by omega)), rfl⟩
set_option maxRecDepth 100000 in
set_option maxHeartbeats 1000000 in
theorem ref_64_5 (x y A B : Nat) (hA : A < 18446744073709551616) (hB : B < 18446744073709551616)
    (cA : ∀ w, Calls Try.prog 22 #[.int .u64 x, .bool true] w fun e w' => e = .returned (.int .u64 A) ∧ w = w')
    (cB : ∀ w, Calls Try.prog 22 #[.int .u64 y, .bool true] w fun e w' => e = .returned (.int .u64 B) ∧ w = w') (w : World) :
    Calls Try.prog 12 #[.int .i64 5, .bool true, .int .u64 x, .int .u64 y] w fun e w' => e = .returned (.tuple #[.int .u64 (opN 64 5 A B : Nat), .bool true]) ∧ w = w' := by
  go_enter Try.func12, Try.ntmps12
  go_wp2_with (first
    | ((with_reducible refine (cA _).mono ?_); rintro e w1 ⟨rfl, rfl⟩)
    | ((with_reducible refine (cB _).mono ?_); rintro e w1 ⟨rfl, rfl⟩)
    | ((with_reducible refine (cut_wide _ _).mono ?_); rintro e w1 ⟨rfl, rfl⟩))
  go_ret2
  exact ⟨ret_two (bits_and_u64_nat A B (by omega) (by omega)), rfl⟩
set_option maxRecDepth 100000 in
set_option maxHeartbeats 1000000 in
theorem ref_64_6 (x y A B : Nat) (hA : A < 18446744073709551616) (hB : B < 18446744073709551616)
    (cA : ∀ w, Calls Try.prog 22 #[.int .u64 x, .bool true] w fun e w' => e = .returned (.int .u64 A) ∧ w = w')
    (cB : ∀ w, Calls Try.prog 22 #[.int .u64 y, .bool true] w fun e w' => e = .returned (.int .u64 B) ∧ w = w') (w : World) :
    Calls Try.prog 12 #[.int .i64 6, .bool true, .int .u64 x, .int .u64 y] w fun e w' => e = .returned (.tuple #[.int .u64 (opN 64 6 A B : Nat), .bool true]) ∧ w = w' := by
  go_enter Try.func12, Try.ntmps12
  go_wp2_with (first
    | ((with_reducible refine (cA _).mono ?_); rintro e w1 ⟨rfl, rfl⟩)
    | ((with_reducible refine (cB _).mono ?_); rintro e w1 ⟨rfl, rfl⟩)
    | ((with_reducible refine (cut_wide _ _).mono ?_); rintro e w1 ⟨rfl, rfl⟩))
  go_ret2
  exact ⟨ret_two (by rw [wrap_u64]; simp only [opN_6, Int.natCast_emod, Int.natCast_mul, Int.natCast_pow]; rfl), rfl⟩
set_option maxRecDepth 100000 in
set_option maxHeartbeats 1000000 in
theorem ref_64_7 (x y A B : Nat) (hA : A < 18446744073709551616) (hB : B < 18446744073709551616)
    (cA : ∀ w, Calls Try.prog 22 #[.int .u64 x, .bool true] w fun e w' => e = .returned (.int .u64 A) ∧ w = w')
    (cB : ∀ w, Calls Try.prog 22 #[.int .u64 y, .bool true] w fun e w' => e = .returned (.int .u64 B) ∧ w = w') (w : World) :
    Calls Try.prog 12 #[.int .i64 7, .bool true, .int .u64 x, .int .u64 y] w fun e w' => e = .returned (.tuple #[.int .u64 (opN 64 7 A B : Nat), .bool true]) ∧ w = w' := by
  go_enter Try.func12, Try.ntmps12
  go_wp2_with (first
    | ((with_reducible refine (cA _).mono ?_); rintro e w1 ⟨rfl, rfl⟩)
    | ((with_reducible refine (cB _).mono ?_); rintro e w1 ⟨rfl, rfl⟩)
    | ((with_reducible refine (cut_wide _ _).mono ?_); rintro e w1 ⟨rfl, rfl⟩))
  go_ret2
  exact ⟨ret_two (by simp only [opN_7, Int.natCast_ediv, Int.natCast_pow]; rfl), rfl⟩
set_option maxRecDepth 100000 in
set_option maxHeartbeats 1000000 in
theorem ref_64_8 (x y A B : Nat) (hA : A < 18446744073709551616) (hB : B < 18446744073709551616)
    (cA : ∀ w, Calls Try.prog 22 #[.int .u64 x, .bool true] w fun e w' => e = .returned (.int .u64 A) ∧ w = w')
    (cB : ∀ w, Calls Try.prog 22 #[.int .u64 y, .bool true] w fun e w' => e = .returned (.int .u64 B) ∧ w = w') (w : World) :
    Calls Try.prog 12 #[.int .i64 8, .bool true, .int .u64 x, .int .u64 y] w fun e w' => e = .returned (.tuple #[.int .u64 (opN 64 8 A B : Nat), .bool true]) ∧ w = w' := by
  go_enter Try.func12, Try.ntmps12
  go_wp2_with (first
    | ((with_reducible refine (cA _).mono ?_); rintro e w1 ⟨rfl, rfl⟩)
    | ((with_reducible refine (cB _).mono ?_); rintro e w1 ⟨rfl, rfl⟩)
    | ((with_reducible refine (cut_wide _ _).mono ?_); rintro e w1 ⟨rfl, rfl⟩))
  go_ret2
  exact ⟨ret_two (by rw [wrap_u64]; simp only [opN]; omega), rfl⟩
set_option maxRecDepth 100000 in
set_option maxHeartbeats 1000000 in
theorem ref_64_9 (x y A B : Nat) (hA : A < 18446744073709551616) (hB : B < 18446744073709551616)
    (cA : ∀ w, Calls Try.prog 22 #[.int .u64 x, .bool true] w fun e w' => e = .returned (.int .u64 A) ∧ w = w')
    (cB : ∀ w, Calls Try.prog 22 #[.int .u64 y, .bool true] w fun e w' => e = .returned (.int .u64 B) ∧ w = w') (w : World) :
    Calls Try.prog 12 #[.int .i64 9, .bool true, .int .u64 x, .int .u64 y] w fun e w' => e = .returned (.tuple #[.int .u64 (opN 64 9 A B : Nat), .bool true]) ∧ w = w' := by
  by_cases h0 : B = 0
  · subst h0
    go_enter Try.func12, Try.ntmps12
    go_wp2_with (first
      | ((with_reducible refine (cA _).mono ?_); rintro e w1 ⟨rfl, rfl⟩)
      | ((with_reducible refine (cB _).mono ?_); rintro e w1 ⟨rfl, rfl⟩)
      | ((with_reducible refine (cut_wide _ _).mono ?_); rintro e w1 ⟨rfl, rfl⟩))
    go_ret2
    exact ⟨ret_two (by simp [opN]), rfl⟩
  · have h1 : 0 < B := Nat.pos_of_ne_zero h0
    go_enter Try.func12, Try.ntmps12
    go_wp2_with (first
      | ((with_reducible refine (cA _).mono ?_); rintro e w1 ⟨rfl, rfl⟩)
      | ((with_reducible refine (cB _).mono ?_); rintro e w1 ⟨rfl, rfl⟩)
      | ((with_reducible refine (cut_wide _ _).mono ?_); rintro e w1 ⟨rfl, rfl⟩))
    go_ret2
    exact ⟨ret_two (by simp [opN]), rfl⟩
set_option maxRecDepth 100000 in
set_option maxHeartbeats 1000000 in
theorem ref_64_10 (x y A B : Nat) (hA : A < 18446744073709551616) (hB : B < 18446744073709551616)
    (cA : ∀ w, Calls Try.prog 22 #[.int .u64 x, .bool true] w fun e w' => e = .returned (.int .u64 A) ∧ w = w')
    (cB : ∀ w, Calls Try.prog 22 #[.int .u64 y, .bool true] w fun e w' => e = .returned (.int .u64 B) ∧ w = w') (w : World) :
    Calls Try.prog 12 #[.int .i64 10, .bool true, .int .u64 x, .int .u64 y] w fun e w' => e = .returned (.tuple #[.int .u64 (opN 64 10 A B : Nat), .bool true]) ∧ w = w' := by
  go_enter Try.func12, Try.ntmps12
  go_wp2_with (first
    | ((with_reducible refine (cA _).mono ?_); rintro e w1 ⟨rfl, rfl⟩)
    | ((with_reducible refine (cB _).mono ?_); rintro e w1 ⟨rfl, rfl⟩)
    | ((with_reducible refine (cut_wide _ _).mono ?_); rintro e w1 ⟨rfl, rfl⟩))
  go_ret2
  exact ⟨ret_two (bits_xor_u64_nat A B (by omega) (by omega)), rfl⟩
set_option maxRecDepth 100000 in
set_option maxHeartbeats 1000000 in
theorem ref_64_11 (x y A B : Nat) (hA : A < 18446744073709551616) (hB : B < 18446744073709551616)
    (cA : ∀ w, Calls Try.prog 22 #[.int .u64 x, .bool true] w fun e w' => e = .returned (.int .u64 A) ∧ w = w')
    (cB : ∀ w, Calls Try.prog 22 #[.int .u64 y, .bool true] w fun e w' => e = .returned (.int .u64 B) ∧ w = w') (w : World) :
    Calls Try.prog 12 #[.int .i64 11, .bool true, .int .u64 x, .int .u64 y] w fun e w' => e = .returned (.tuple #[.int .u64 (opN 64 11 A B : Nat), .bool true]) ∧ w = w' := by
  go_enter Try.func12, Try.ntmps12
  go_wp2_with (first
    | ((with_reducible refine (cA _).mono ?_); rintro e w1 ⟨rfl, rfl⟩)
    | ((with_reducible refine (cB _).mono ?_); rintro e w1 ⟨rfl, rfl⟩)
    | ((with_reducible refine (cut_wide _ _).mono ?_); rintro e w1 ⟨rfl, rfl⟩))
  go_ret2
  exact ⟨ret_two (rfl), rfl⟩
set_option maxRecDepth 100000 in
set_option maxHeartbeats 1000000 in
theorem ref_32_0 (x y A B : Nat) (hA : A < 4294967296) (hB : B < 4294967296)
    (cA : ∀ w, Calls Try.prog 22 #[.int .u64 x, .bool false] w fun e w' => e = .returned (.int .u64 A) ∧ w = w')
    (cB : ∀ w, Calls Try.prog 22 #[.int .u64 y, .bool false] w fun e w' => e = .returned (.int .u64 B) ∧ w = w') (w : World) :
    Calls Try.prog 12 #[.int .i64 0, .bool false, .int .u64 x, .int .u64 y] w fun e w' => e = .returned (.tuple #[.int .u64 (opN 32 0 A B : Nat), .bool true]) ∧ w = w' := by
  go_enter Try.func12, Try.ntmps12
  go_wp2_with (first
    | ((with_reducible refine (cA _).mono ?_); rintro e w1 ⟨rfl, rfl⟩)
    | ((with_reducible refine (cB _).mono ?_); rintro e w1 ⟨rfl, rfl⟩)
    | ((with_reducible refine (cut_narrow _ (by omega) _).mono ?_); rintro e w1 ⟨rfl, rfl⟩))
  go_ret2
  exact ⟨ret_two (by first | (rw [wrap_u64]; simp only [opN]; omega) | (simp only [opN]; omega)), rfl⟩
set_option maxRecDepth 100000 in
set_option maxHeartbeats 1000000 in
theorem ref_32_1 (x y A B : Nat) (hA : A < 4294967296) (hB : B < 4294967296)
    (cA : ∀ w, Calls Try.prog 22 #[.int .u64 x, .bool false] w fun e w' => e = .returned (.int .u64 A) ∧ w = w')
    (cB : ∀ w, Calls Try.prog 22 #[.int .u64 y, .bool false] w fun e w' => e = .returned (.int .u64 B) ∧ w = w') (w : World) :
    Calls Try.prog 12 #[.int .i64 1, .bool false, .int .u64 x, .int .u64 y] w fun e w' => e = .returned (.tuple #[.int .u64 (opN 32 1 A B : Nat), .bool true]) ∧ w = w' := by
  go_enter Try.func12, Try.ntmps12
  go_wp2_with (first
    | ((with_reducible refine (cA _).mono ?_); rintro e w1 ⟨rfl, rfl⟩)
    | ((with_reducible refine (cB _).mono ?_); rintro e w1 ⟨rfl, rfl⟩)
    | ((with_reducible refine (cut_narrow _ (by rw [wrap_u64]; omega) _).mono ?_); rintro e w1 ⟨rfl, rfl⟩))
  go_ret2
  exact ⟨ret_two (by rw [wrap_u64]; simp only [opN]; omega), rfl⟩
set_option maxRecDepth 100000 in
set_option maxHeartbeats 1000000 in
theorem ref_32_2 (x y A B : Nat) (hA : A < 4294967296) (hB : B < 4294967296)
    (cA : ∀ w, Calls Try.prog 22 #[.int .u64 x, .bool false] w fun e w' => e = .returned (.int .u64 A) ∧ w = w')
    (cB : ∀ w, Calls Try.prog 22 #[.int .u64 y, .bool false] w fun e w' => e = .returned (.int .u64 B) ∧ w = w') (w : World) :
    Calls Try.prog 12 #[.int .i64 2, .bool false, .int .u64 x, .int .u64 y] w fun e w' => e = .returned (.tuple #[.int .u64 (opN 32 2 A B : Nat), .bool true]) ∧ w = w' := by
  go_enter Try.func12, Try.ntmps12
  go_wp2_with (first
    | ((with_reducible refine (cA _).mono ?_); rintro e w1 ⟨rfl, rfl⟩)
    | ((with_reducible refine (cB _).mono ?_); rintro e w1 ⟨rfl, rfl⟩)
    | ((with_reducible refine (cut_narrow _ (by rw [wrap_u64]; omega) _).mono ?_); rintro e w1 ⟨rfl, rfl⟩))
  go_ret2
  exact ⟨ret_two (by rw [wrap_u64, ← Int.natCast_mul]; simp only [opN]; omega), rfl⟩
set_option maxRecDepth 100000 in
set_option maxHeartbeats 1000000 in
theorem ref_32_3 (x y A B : Nat) (hA : A < 4294967296) (hB : B < 4294967296)
    (cA : ∀ w, Calls Try.prog 22 #[.int .u64 x, .bool false] w fun e w' => e = .returned (.int .u64 A) ∧ w = w')
    (cB : ∀ w, Calls Try.prog 22 #[.int .u64 y, .bool false] w fun e w' => e = .returned (.int .u64 B) ∧ w = w') (w : World) :
    Calls Try.prog 12 #[.int .i64 3, .bool false, .int .u64 x, .int .u64 y] w fun e w' => e = .returned (.tuple #[.int .u64 (opN 32 3 A B : Nat), .bool true]) ∧ w = w' := by
  by_cases h0 : B = 0
  · subst h0
    go_enter Try.func12, Try.ntmps12
    go_wp2_with (first
      | ((with_reducible refine (cA _).mono ?_); rintro e w1 ⟨rfl, rfl⟩)
      | ((with_reducible refine (cB _).mono ?_); rintro e w1 ⟨rfl, rfl⟩)
      | ((with_reducible refine (cut_narrow _ (by first | omega | (rw [wrap_u64]; omega) | (rw [← Int.natCast_ediv]; omega)) _).mono ?_); rintro e w1 ⟨rfl, rfl⟩))
    go_ret2
    exact ⟨ret_two (by simp only [opN]; simp; first | done | omega), rfl⟩
  · have h1 : 0 < B := Nat.pos_of_ne_zero h0
    go_enter Try.func12, Try.ntmps12
    go_wp2_with (first
      | ((with_reducible refine (cA _).mono ?_); rintro e w1 ⟨rfl, rfl⟩)
      | ((with_reducible refine (cB _).mono ?_); rintro e w1 ⟨rfl, rfl⟩)
      | ((with_reducible refine (cut_narrow _ (by first | omega | (rw [wrap_u64]; omega) | (rw [← Int.natCast_ediv]; omega)) _).mono ?_); rintro e w1 ⟨rfl, rfl⟩))
    go_ret2
    exact ⟨ret_two (by have := Nat.div_le_self A B; simp only [opN]; (try rw [wrap_u64]); rw [← Int.natCast_ediv]; generalize A / B = q at *; omega), rfl⟩
set_option maxRecDepth 100000 in
set_option maxHeartbeats 1000000 in
theorem ref_32_4 (x y A B : Nat) (hA : A < 4294967296) (hB : B < 4294967296)
    (cA : ∀ w, Calls Try.prog 22 #[.int .u64 x, .bool false] w fun e w' => e = .returned (.int .u64 A) ∧ w = w')
    (cB : ∀ w, Calls Try.prog 22 #[.int .u64 y, .bool false] w fun e w' => e = .returned (.int .u64 B) ∧ w = w') (w : World) :
    Calls Try.prog 12 #[.int .i64 4, .bool false, .int .u64 x, .int .u64 y] w fun e w' => e = .returned (.tuple #[.int .u64 (opN 32 4 A B : Nat), .bool true]) ∧ w = w' := by
  go_enter Try.func12, Try.ntmps12
  go_wp2_with (first
    | ((with_reducible refine (cA _).mono ?_); rintro e w1 ⟨rfl, rfl⟩)
    | ((with_reducible refine (cB _).mono ?_); rintro e w1 ⟨rfl, rfl⟩)
    | ((with_reducible refine (cut_narrow _ (bits_lo_u64 _ _ _) _).mono ?_); rintro e w1 ⟨rfl, rfl⟩))
  go_ret2
  exact ⟨ret_two (by have h := Nat.or_lt_two_pow (x := A) (y := B) (n := 32) (by omega) (by omega); rw [bits_or_u64_nat A B (by omega) (by omega)]; simp only [opN]; omega), rfl⟩
set_option maxRecDepth 100000 in
set_option maxHeartbeats 1000000 in
theorem ref_32_5 (x y A B : Nat) (hA : A < 4294967296) (hB : B < 4294967296)
    (cA : ∀ w, Calls Try.prog 22 #[.int .u64 x, .bool false] w fun e w' => e = .returned (.int .u64 A) ∧ w = w')
    (cB : ∀ w, Calls Try.prog 22 #[.int .u64 y, .bool false] w fun e w' => e = .returned (.int .u64 B) ∧ w = w') (w : World) :
    Calls Try.prog 12 #[.int .i64 5, .bool false, .int .u64 x, .int .u64 y] w fun e w' => e = .returned (.tuple #[.int .u64 (opN 32 5 A B : Nat), .bool true]) ∧ w = w' := by
  go_enter Try.func12, Try.ntmps12
  go_wp2_with (first
    | ((with_reducible refine (cA _).mono ?_); rintro e w1 ⟨rfl, rfl⟩)
    | ((with_reducible refine (cB _).mono ?_); rintro e w1 ⟨rfl, rfl⟩)
    | ((with_reducible refine (cut_narrow _ (bits_lo_u64 _ _ _) _).mono ?_); rintro e w1 ⟨rfl, rfl⟩))
  go_ret2
  exact ⟨ret_two (by have h := Nat.and_lt_two_pow (n := 32) A (by omega : B < 2 ^ 32); rw [bits_and_u64_nat A B (by omega) (by omega)]; simp only [opN]; omega), rfl⟩
set_option maxRecDepth 100000 in
set_option maxHeartbeats 1000000 in
theorem ref_32_6 (x y A B : Nat) (hA : A < 4294967296) (hB : B < 4294967296)
    (cA : ∀ w, Calls Try.prog 22 #[.int .u64 x, .bool false] w fun e w' => e = .returned (.int .u64 A) ∧ w = w')
    (cB : ∀ w, Calls Try.prog 22 #[.int .u64 y, .bool false] w fun e w' => e = .returned (.int .u64 B) ∧ w = w') (w : World) :
    Calls Try.prog 12 #[.int .i64 6, .bool false, .int .u64 x, .int .u64 y] w fun e w' => e = .returned (.tuple #[.int .u64 (opN 32 6 A B : Nat), .bool true]) ∧ w = w' := by
  go_enter Try.func12, Try.ntmps12
  go_wp2_with (first
    | ((with_reducible refine (cA _).mono ?_); rintro e w1 ⟨rfl, rfl⟩)
    | ((with_reducible refine (cB _).mono ?_); rintro e w1 ⟨rfl, rfl⟩)
    | ((with_reducible refine (cut_narrow _ (by rw [wrap_u64]; omega) _).mono ?_); rintro e w1 ⟨rfl, rfl⟩))
  go_ret2
  exact ⟨ret_two (by rw [wrap_u64, opN_6]; have e : (A : Int) * 2 ^ (B % 32) = ((A * 2 ^ (B % 32) : Nat) : Int) := (by simp); rw [e]; omega), rfl⟩
set_option maxRecDepth 100000 in
set_option maxHeartbeats 1000000 in
theorem ref_32_7 (x y A B : Nat) (hA : A < 4294967296) (hB : B < 4294967296)
    (cA : ∀ w, Calls Try.prog 22 #[.int .u64 x, .bool false] w fun e w' => e = .returned (.int .u64 A) ∧ w = w')
    (cB : ∀ w, Calls Try.prog 22 #[.int .u64 y, .bool false] w fun e w' => e = .returned (.int .u64 B) ∧ w = w') (w : World) :
    Calls Try.prog 12 #[.int .i64 7, .bool false, .int .u64 x, .int .u64 y] w fun e w' => e = .returned (.tuple #[.int .u64 (opN 32 7 A B : Nat), .bool true]) ∧ w = w' := by
  go_enter Try.func12, Try.ntmps12
  go_wp2_with (first
    | ((with_reducible refine (cA _).mono ?_); rintro e w1 ⟨rfl, rfl⟩)
    | ((with_reducible refine (cB _).mono ?_); rintro e w1 ⟨rfl, rfl⟩)
    | ((with_reducible refine (cut_narrow _ (Int.ediv_nonneg (by omega) (Int.pow_nonneg (by omega))) _).mono ?_); rintro e w1 ⟨rfl, rfl⟩))
  go_ret2
  exact ⟨ret_two (by have h := Nat.div_le_self A (2 ^ (B % 32)); have e : (A : Int) / 2 ^ (B % 32) = ((A / 2 ^ (B % 32) : Nat) : Int) := (by simp); rw [e, opN_7]; clear e; generalize A / 2 ^ (B % 32) = q at *; omega), rfl⟩
set_option maxRecDepth 100000 in
set_option maxHeartbeats 1000000 in
theorem ref_32_8 (x y A B : Nat) (hA : A < 4294967296) (hB : B < 4294967296)
    (cA : ∀ w, Calls Try.prog 22 #[.int .u64 x, .bool false] w fun e w' => e = .returned (.int .u64 A) ∧ w = w')
    (cB : ∀ w, Calls Try.prog 22 #[.int .u64 y, .bool false] w fun e w' => e = .returned (.int .u64 B) ∧ w = w') (w : World) :
    Calls Try.prog 12 #[.int .i64 8, .bool false, .int .u64 x, .int .u64 y] w fun e w' => e = .returned (.tuple #[.int .u64 (opN 32 8 A B : Nat), .bool true]) ∧ w = w' := by
  go_enter Try.func12, Try.ntmps12
  go_wp2_with (first
    | ((with_reducible refine (cA _).mono ?_); rintro e w1 ⟨rfl, rfl⟩)
    | ((with_reducible refine (cB _).mono ?_); rintro e w1 ⟨rfl, rfl⟩)
    | ((with_reducible refine (cut_narrow _ (by rw [wrap_u64]; omega) _).mono ?_); rintro e w1 ⟨rfl, rfl⟩))
  go_ret2
  exact ⟨ret_two (by rw [wrap_u64]; simp only [opN]; omega), rfl⟩
set_option maxRecDepth 100000 in
set_option maxHeartbeats 1000000 in
theorem ref_32_9 (x y A B : Nat) (hA : A < 4294967296) (hB : B < 4294967296)
    (cA : ∀ w, Calls Try.prog 22 #[.int .u64 x, .bool false] w fun e w' => e = .returned (.int .u64 A) ∧ w = w')
    (cB : ∀ w, Calls Try.prog 22 #[.int .u64 y, .bool false] w fun e w' => e = .returned (.int .u64 B) ∧ w = w') (w : World) :
    Calls Try.prog 12 #[.int .i64 9, .bool false, .int .u64 x, .int .u64 y] w fun e w' => e = .returned (.tuple #[.int .u64 (opN 32 9 A B : Nat), .bool true]) ∧ w = w' := by
  by_cases h0 : B = 0
  · subst h0
    go_enter Try.func12, Try.ntmps12
    go_wp2_with (first
      | ((with_reducible refine (cA _).mono ?_); rintro e w1 ⟨rfl, rfl⟩)
      | ((with_reducible refine (cB _).mono ?_); rintro e w1 ⟨rfl, rfl⟩)
      | ((with_reducible refine (cut_narrow _ (by first | omega | (rw [wrap_u64]; omega) | (rw [← Int.natCast_emod]; omega)) _).mono ?_); rintro e w1 ⟨rfl, rfl⟩))
    go_ret2
    exact ⟨ret_two (by simp only [opN]; simp; first | done | omega), rfl⟩
  · have h1 : 0 < B := Nat.pos_of_ne_zero h0
    go_enter Try.func12, Try.ntmps12
    go_wp2_with (first
      | ((with_reducible refine (cA _).mono ?_); rintro e w1 ⟨rfl, rfl⟩)
      | ((with_reducible refine (cB _).mono ?_); rintro e w1 ⟨rfl, rfl⟩)
      | ((with_reducible refine (cut_narrow _ (by first | omega | (rw [wrap_u64]; omega) | (rw [← Int.natCast_emod]; omega)) _).mono ?_); rintro e w1 ⟨rfl, rfl⟩))
    go_ret2
    exact ⟨ret_two (by have := Nat.mod_le A B; simp only [opN]; rw [← Int.natCast_emod]; generalize A % B = q at *; omega), rfl⟩
set_option maxRecDepth 100000 in
set_option maxHeartbeats 1000000 in
theorem ref_32_10 (x y A B : Nat) (hA : A < 4294967296) (hB : B < 4294967296)
    (cA : ∀ w, Calls Try.prog 22 #[.int .u64 x, .bool false] w fun e w' => e = .returned (.int .u64 A) ∧ w = w')
    (cB : ∀ w, Calls Try.prog 22 #[.int .u64 y, .bool false] w fun e w' => e = .returned (.int .u64 B) ∧ w = w') (w : World) :
    Calls Try.prog 12 #[.int .i64 10, .bool false, .int .u64 x, .int .u64 y] w fun e w' => e = .returned (.tuple #[.int .u64 (opN 32 10 A B : Nat), .bool true]) ∧ w = w' := by
  go_enter Try.func12, Try.ntmps12
  go_wp2_with (first
    | ((with_reducible refine (cA _).mono ?_); rintro e w1 ⟨rfl, rfl⟩)
    | ((with_reducible refine (cB _).mono ?_); rintro e w1 ⟨rfl, rfl⟩)
    | ((with_reducible refine (cut_narrow _ (bits_lo_u64 _ _ _) _).mono ?_); rintro e w1 ⟨rfl, rfl⟩))
  go_ret2
  exact ⟨ret_two (by have h := Nat.xor_lt_two_pow (x := A) (y := B) (n := 32) (by omega) (by omega); rw [bits_xor_u64_nat A B (by omega) (by omega)]; simp only [opN]; omega), rfl⟩
set_option maxRecDepth 100000 in
set_option maxHeartbeats 1000000 in
theorem ref_32_11 (x y A B : Nat) (hA : A < 4294967296) (hB : B < 4294967296)
    (cA : ∀ w, Calls Try.prog 22 #[.int .u64 x, .bool false] w fun e w' => e = .returned (.int .u64 A) ∧ w = w')
    (cB : ∀ w, Calls Try.prog 22 #[.int .u64 y, .bool false] w fun e w' => e = .returned (.int .u64 B) ∧ w = w') (w : World) :
    Calls Try.prog 12 #[.int .i64 11, .bool false, .int .u64 x, .int .u64 y] w fun e w' => e = .returned (.tuple #[.int .u64 (opN 32 11 A B : Nat), .bool true]) ∧ w = w' := by
  go_enter Try.func12, Try.ntmps12
  go_wp2_with (first
    | ((with_reducible refine (cA _).mono ?_); rintro e w1 ⟨rfl, rfl⟩)
    | ((with_reducible refine (cB _).mono ?_); rintro e w1 ⟨rfl, rfl⟩)
    | ((with_reducible refine (cut_narrow _ (by omega) _).mono ?_); rintro e w1 ⟨rfl, rfl⟩))
  go_ret2
  exact ⟨ret_two (by rw [opN_11]; omega), rfl⟩
set_option maxRecDepth 100000 in
set_option maxHeartbeats 2000000 in
theorem ref_64_12 (x y A B : Nat) (hA : A < 18446744073709551616) (hB : B < 18446744073709551616)
    (cA : ∀ w, Calls Try.prog 22 #[.int .u64 x, .bool true] w fun e w' => e = .returned (.int .u64 A) ∧ w = w')
    (cB : ∀ w, Calls Try.prog 22 #[.int .u64 y, .bool true] w fun e w' => e = .returned (.int .u64 B) ∧ w = w') (w : World) :
    Calls Try.prog 12 #[.int .i64 12, .bool true, .int .u64 x, .int .u64 y] w fun e w' => e = .returned (.tuple #[.int .u64 (opN 64 12 A B : Nat), .bool true]) ∧ w = w' := by
  have hdl : A / 2 ^ (B % 64) ≤ A := Nat.div_le_self _ _
  have hd : (A : Int) / 2 ^ (B % 64) = ((A / 2 ^ (B % 64) : Nat) : Int) := (by simp)
  by_cases h0 : A < 9223372036854775808
  · have ht : ((A : Int) / 9223372036854775808 == 1) = false := by simp; omega
    have hv : (A : Int) / 2 ^ (B % 64) = ((opN 64 12 A B : Nat) : Int) := by rw [hd, opN_12, if_pos (by omega)]
    have hr : opN 64 12 A B < 18446744073709551616 := by rw [opN_12, if_pos (by omega)]; omega
    clear hd hdl
    go_enter Try.func12, Try.ntmps12
    go_wp2_with (first
      | ((with_reducible refine (cA _).mono ?_); rintro e w1 ⟨rfl, rfl⟩)
      | ((with_reducible refine (cB _).mono ?_); rintro e w1 ⟨rfl, rfl⟩)
      | ((with_reducible refine (cut_wide _ _).mono ?_); rintro e w1 ⟨rfl, rfl⟩))
    go_ret2
    exact ⟨rfl, rfl⟩
  · have ht : ((A : Int) / 9223372036854775808 == 1) = true := by simp; omega
    have hN : B % 64 < 64 := Nat.mod_lt _ (by omega)
    have hz := fill_zero 64 A (B % 64)
    have he := fill_end 64 A B (by omega) (by omega) (by omega)
    have hl := fun k => fill_le 64 A (B % 64) k (by omega) (by omega)
    have hs := fun k => fill_step 64 A (B % 64) k (by omega) (by omega)
    have HZ : Hid ((A : Int) / 2 ^ (B % 64) = ((fillN 64 A (B % 64) 0 : Nat) : Int)) := by rw [hz]; exact Lib.hid hd
    have HE := Lib.hid he
    have HL := Lib.hid hl
    have HS := Lib.hid hs
    clear hz he hl hs hd
    go_enter Try.func12, Try.ntmps12
    go_wp2_with (first
      | ((with_reducible refine (cA _).mono ?_); rintro e w1 ⟨rfl, rfl⟩)
      | ((with_reducible refine (cB _).mono ?_); rintro e w1 ⟨rfl, rfl⟩))
    go_loop [12, 13] (fun v i => ∃ k : Nat, k ≤ B % 64 ∧ i = .int .u64 k ∧ v = .int .u64 (fillN 64 A (B % 64) k : Nat)) (fun _ i => B % 64 - (intOf i).toNat)
    case atStart => exact ⟨0, by omega, rfl, congrArg (Value.int .u64) HZ.out⟩
    case round =>
      obtain ⟨k, hk, rfl, rfl⟩ := hrel
      by_cases hlt : k < B % 64
      · have hlk := HL.out k (by omega)
        have hl1 := HL.out (k + 1) (by omega)
        have hp : 2 ^ (63 - k) ≤ 2 ^ 63 := Nat.pow_le_pow_right (by omega) (by omega)
        have hw : IntKind.u64.wrap (2 ^ (63 - k)) = ((2 ^ (63 - k) : Nat) : Int) := by
          have e : (2 : Int) ^ (63 - k) = ((2 ^ (63 - k) : Nat) : Int) := (by simp)
          rw [e, wrap_u64]; clear e; generalize 2 ^ (63 - k) = q at *; omega
        have ho : bits .or .u64 (fillN 64 A (B % 64) k : Nat) (IntKind.u64.wrap (2 ^ (63 - k))) = ((fillN 64 A (B % 64) (k + 1) : Nat) : Int) := by
          rw [hw, bits_or_u64_nat _ _ (by omega) (by omega)]
          have hf := HS.out k hlt
          have e2 : 64 - 1 - k = 63 - k := by omega
          rw [e2] at hf
          rw [hf]
        clear hw hp
        go_wp2
        all_goals
          go_round
          case rel => exact ⟨k + 1, by omega, by go_num, rfl⟩
          case measure => simp [intOf]; omega
      · obtain rfl : k = B % 64 := by omega
        have hlk := HL.out (B % 64) (by omega)
        rw [HE.out] at hlk ⊢
        go_wp2_with ((with_reducible refine (cut_wide _ _).mono ?_); rintro e w1 ⟨rfl, rfl⟩)
        go_ret2
        exact ⟨rfl, rfl⟩
set_option maxRecDepth 100000 in
set_option maxHeartbeats 2000000 in
theorem ref_32_12 (x y A B : Nat) (hA : A < 4294967296) (hB : B < 4294967296)
    (cA : ∀ w, Calls Try.prog 22 #[.int .u64 x, .bool false] w fun e w' => e = .returned (.int .u64 A) ∧ w = w')
    (cB : ∀ w, Calls Try.prog 22 #[.int .u64 y, .bool false] w fun e w' => e = .returned (.int .u64 B) ∧ w = w') (w : World) :
    Calls Try.prog 12 #[.int .i64 12, .bool false, .int .u64 x, .int .u64 y] w fun e w' => e = .returned (.tuple #[.int .u64 (opN 32 12 A B : Nat), .bool true]) ∧ w = w' := by
  have hdl : A / 2 ^ (B % 32) ≤ A := Nat.div_le_self _ _
  have hd : (A : Int) / 2 ^ (B % 32) = ((A / 2 ^ (B % 32) : Nat) : Int) := (by simp)
  by_cases h0 : A < 2147483648
  · have ht : ((A : Int) / 2147483648 == 1) = false := by simp; omega
    have hv : (A : Int) / 2 ^ (B % 32) = ((opN 32 12 A B : Nat) : Int) := by rw [hd, opN_12, if_pos (by omega)]
    have hr : opN 32 12 A B < 4294967296 := by rw [opN_12, if_pos (by omega)]; omega
    clear hd hdl
    go_enter Try.func12, Try.ntmps12
    go_wp2_with (first
      | ((with_reducible refine (cA _).mono ?_); rintro e w1 ⟨rfl, rfl⟩)
      | ((with_reducible refine (cB _).mono ?_); rintro e w1 ⟨rfl, rfl⟩)
      | ((with_reducible refine (cut_narrow _ (by omega) _).mono ?_); rintro e w1 ⟨rfl, rfl⟩))
    go_ret2
    exact ⟨ret_two (by omega), rfl⟩
  · have ht : ((A : Int) / 2147483648 == 1) = true := by simp; omega
    have hN : B % 32 < 32 := Nat.mod_lt _ (by omega)
    have hz := fill_zero 32 A (B % 32)
    have he := fill_end 32 A B (by omega) (by omega) (by omega)
    have hl := fun k => fill_le 32 A (B % 32) k (by omega) (by omega)
    have hs := fun k => fill_step 32 A (B % 32) k (by omega) (by omega)
    have HZ : Hid ((A : Int) / 2 ^ (B % 32) = ((fillN 32 A (B % 32) 0 : Nat) : Int)) := by rw [hz]; exact Lib.hid hd
    have HE := Lib.hid he
    have HL := Lib.hid hl
    have HS := Lib.hid hs
    clear hz he hl hs hd
    go_enter Try.func12, Try.ntmps12
    go_wp2_with (first
      | ((with_reducible refine (cA _).mono ?_); rintro e w1 ⟨rfl, rfl⟩)
      | ((with_reducible refine (cB _).mono ?_); rintro e w1 ⟨rfl, rfl⟩))
    go_loop [12, 13] (fun v i => ∃ k : Nat, k ≤ B % 32 ∧ i = .int .u64 k ∧ v = .int .u64 (fillN 32 A (B % 32) k : Nat)) (fun _ i => B % 32 - (intOf i).toNat)
    case atStart => exact ⟨0, by omega, rfl, congrArg (Value.int .u64) HZ.out⟩
    case round =>
      obtain ⟨k, hk, rfl, rfl⟩ := hrel
      by_cases hlt : k < B % 32
      · have hlk := HL.out k (by omega)
        have hl1 := HL.out (k + 1) (by omega)
        have hp : 2 ^ (31 - k) ≤ 2 ^ 63 := Nat.pow_le_pow_right (by omega) (by omega)
        have hw : IntKind.u64.wrap (2 ^ (31 - k)) = ((2 ^ (31 - k) : Nat) : Int) := by
          have e : (2 : Int) ^ (31 - k) = ((2 ^ (31 - k) : Nat) : Int) := (by simp)
          rw [e, wrap_u64]; clear e; generalize 2 ^ (31 - k) = q at *; omega
        have ho : bits .or .u64 (fillN 32 A (B % 32) k : Nat) (IntKind.u64.wrap (2 ^ (31 - k))) = ((fillN 32 A (B % 32) (k + 1) : Nat) : Int) := by
          rw [hw, bits_or_u64_nat _ _ (by omega) (by omega)]
          have hf := HS.out k hlt
          have e2 : 32 - 1 - k = 31 - k := by omega
          rw [e2] at hf
          rw [hf]
        clear hw hp
        go_wp2
        all_goals
          go_round
          case rel => exact ⟨k + 1, by omega, by go_num, rfl⟩
          case measure => simp [intOf]; omega
      · obtain rfl : k = B % 32 := by omega
        have hlk := HL.out (B % 32) (by omega)
        rw [HE.out] at hlk ⊢
        go_wp2_with ((with_reducible refine (cut_narrow _ (by omega) _).mono ?_); rintro e w1 ⟨rfl, rfl⟩)
        go_ret2
        exact ⟨ret_two (by omega), rfl⟩

/-- Whatever the code from 0 to 12, the width and the two numbers: the reference answers what the operation makes of them, and changes nothing. -/
theorem ref_any (k : Nat) (hk : k < 13) (wide : Bool) (x y : Nat) (hx : x < 18446744073709551616) (hy : y < 18446744073709551616) (w : World) :
    Calls Try.prog 12 #[.int .i64 k, .bool wide, .int .u64 x, .int .u64 y] w fun e w' => e = .returned (.tuple #[.int .u64 (doN k wide x y : Nat), .bool true]) ∧ w = w' := by
  cases wide
  · have ex : (x : Int) % 4294967296 = ((x % 4294967296 : Nat) : Int) := by omega
    have ey : (y : Int) % 4294967296 = ((y % 4294967296 : Nat) : Int) := by omega
    have cA : ∀ w, Calls Try.prog 22 #[.int .u64 x, .bool false] w fun e w' => e = .returned (.int .u64 (x % 4294967296 : Nat)) ∧ w = w' := fun w => ex ▸ cut_narrow x (by omega) w
    have cB : ∀ w, Calls Try.prog 22 #[.int .u64 y, .bool false] w fun e w' => e = .returned (.int .u64 (y % 4294967296 : Nat)) ∧ w = w' := fun w => ey ▸ cut_narrow y (by omega) w
    have lA : x % 4294967296 < 4294967296 := by omega
    have lB : y % 4294967296 < 4294967296 := by omega
    match k, hk with
    | 0, _ => exact ref_32_0 x y _ _ lA lB cA cB w
    | 1, _ => exact ref_32_1 x y _ _ lA lB cA cB w
    | 2, _ => exact ref_32_2 x y _ _ lA lB cA cB w
    | 3, _ => exact ref_32_3 x y _ _ lA lB cA cB w
    | 4, _ => exact ref_32_4 x y _ _ lA lB cA cB w
    | 5, _ => exact ref_32_5 x y _ _ lA lB cA cB w
    | 6, _ => exact ref_32_6 x y _ _ lA lB cA cB w
    | 7, _ => exact ref_32_7 x y _ _ lA lB cA cB w
    | 8, _ => exact ref_32_8 x y _ _ lA lB cA cB w
    | 9, _ => exact ref_32_9 x y _ _ lA lB cA cB w
    | 10, _ => exact ref_32_10 x y _ _ lA lB cA cB w
    | 11, _ => exact ref_32_11 x y _ _ lA lB cA cB w
    | 12, _ => exact ref_32_12 x y _ _ lA lB cA cB w
  · match k, hk with
    | 0, _ => exact ref_64_0 x y x y hx hy (cut_wide x) (cut_wide y) w
    | 1, _ => exact ref_64_1 x y x y hx hy (cut_wide x) (cut_wide y) w
    | 2, _ => exact ref_64_2 x y x y hx hy (cut_wide x) (cut_wide y) w
    | 3, _ => exact ref_64_3 x y x y hx hy (cut_wide x) (cut_wide y) w
    | 4, _ => exact ref_64_4 x y x y hx hy (cut_wide x) (cut_wide y) w
    | 5, _ => exact ref_64_5 x y x y hx hy (cut_wide x) (cut_wide y) w
    | 6, _ => exact ref_64_6 x y x y hx hy (cut_wide x) (cut_wide y) w
    | 7, _ => exact ref_64_7 x y x y hx hy (cut_wide x) (cut_wide y) w
    | 8, _ => exact ref_64_8 x y x y hx hy (cut_wide x) (cut_wide y) w
    | 9, _ => exact ref_64_9 x y x y hx hy (cut_wide x) (cut_wide y) w
    | 10, _ => exact ref_64_10 x y x y hx hy (cut_wide x) (cut_wide y) w
    | 11, _ => exact ref_64_11 x y x y hx hy (cut_wide x) (cut_wide y) w
    | 12, _ => exact ref_64_12 x y x y hx hy (cut_wide x) (cut_wide y) w

theorem low_wide (x : Nat) (w : World) : Calls Try.prog 22 #[.int .u64 x, .bool true] w fun e w' => e = .returned (.int .u64 x) ∧ w = w' := cut_wide x w
set_option maxRecDepth 100000 in
set_option maxHeartbeats 1000000 in
/-- Any other code is none. -/
theorem ref_none (k : Int) (hk : k < 0 ∨ 13 ≤ k) (wide : Bool) (x y : Nat) (w : World) :
    Calls Try.prog 12 #[.int .i64 k, .bool wide, .int .u64 x, .int .u64 y] w fun e w' => e = .returned (.tuple #[.int .u64 0, .bool false]) ∧ w = w' := by
  have cN : ∀ (x : Nat) w, Calls Try.prog 22 #[.int .u64 x, .bool false] w fun e w' => e = .returned (.int .u64 ((x : Int) % 4294967296)) ∧ w = w' := fun x w => cut_narrow x (by omega) w
  cases wide
  · rcases hk with hk | hk
    all_goals
      go_enter Try.func12, Try.ntmps12
      go_wp2_with ((with_reducible refine (cN _ _).mono ?_); rintro e w1 ⟨rfl, rfl⟩)
      go_ret2
      exact ⟨rfl, rfl⟩
  · rcases hk with hk | hk
    all_goals
      go_enter Try.func12, Try.ntmps12
      go_wp2_with ((with_reducible refine (low_wide _ _).mono ?_); rintro e w1 ⟨rfl, rfl⟩)
      go_ret2
      exact ⟨rfl, rfl⟩
end Go.Proofs.Ytilbfnnncmjmfaa
