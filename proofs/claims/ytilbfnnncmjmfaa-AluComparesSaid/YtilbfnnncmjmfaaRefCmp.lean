/-
  What the document's comparisons (the reference of layer 2) tell, as a contract over the program's own text: no condition.
-/
import Derived.Test.YtilbfnnncmjmfaaCmpB
import Derived.Test.YtilbfnnncmjmfaaRef
namespace Go.Proofs.Ytilbfnnncmjmfaa
open Go.ChangeShapes Go.WideShapes Go.ChangeAt Go.RowKit
set_option linter.unusedVariables false
set_option linter.unusedSimpArgs false

theorem ret_bb {a b c : Bool} (h : a = b) : Ending.returned (.tuple #[.bool a, .bool c]) = .returned (.tuple #[.bool b, .bool c]) := by rw [h]
theorem wrap_low (x : Int) : wrap32 (x % 4294967296) = wrap32 x := by unfold wrap32; omega
theorem nar_any (x : Nat) (w : World) : Calls Try.prog 22 #[.int .u64 x, .bool false] w fun e w' => e = .returned (.int .u64 ((x : Int) % 4294967296)) ∧ w = w' := cut_narrow x (by omega) w

set_option maxRecDepth 100000 in
set_option maxHeartbeats 1000000 in
theorem refc_w_0 (x y : Nat) (hx : x < 18446744073709551616) (hy : y < 18446744073709551616) (w : World) :
    Calls Try.prog 20 #[.int .i64 0, .bool true, .int .u64 x, .int .u64 y] w fun e w' => e = .returned (.tuple #[.bool (cmpN 0 true x y), .bool (okN 0)]) ∧ w = w' := by
  go_enter Try.func20, Try.ntmps20
  go_wp2_with ((with_reducible refine (low_wide _ _).mono ?_); rintro e w1 ⟨rfl, rfl⟩)
  go_ret2
  exact ⟨ret_bb (by simp only [cmpN, lowZ, sgZ, Bool.false_eq_true, if_false, if_true, Int.ofNat_lt, Int.ofNat_le]), rfl⟩

set_option maxRecDepth 100000 in
set_option maxHeartbeats 1000000 in
theorem refc_w_1 (x y : Nat) (hx : x < 18446744073709551616) (hy : y < 18446744073709551616) (w : World) :
    Calls Try.prog 20 #[.int .i64 1, .bool true, .int .u64 x, .int .u64 y] w fun e w' => e = .returned (.tuple #[.bool (cmpN 1 true x y), .bool (okN 1)]) ∧ w = w' := by
  go_enter Try.func20, Try.ntmps20
  go_wp2_with ((with_reducible refine (low_wide _ _).mono ?_); rintro e w1 ⟨rfl, rfl⟩)
  go_ret2
  exact ⟨ret_bb (by simp only [cmpN, lowZ, sgZ, Bool.false_eq_true, if_false, if_true, Int.ofNat_lt, Int.ofNat_le]), rfl⟩

set_option maxRecDepth 100000 in
set_option maxHeartbeats 1000000 in
theorem refc_w_2 (x y : Nat) (hx : x < 18446744073709551616) (hy : y < 18446744073709551616) (w : World) :
    Calls Try.prog 20 #[.int .i64 2, .bool true, .int .u64 x, .int .u64 y] w fun e w' => e = .returned (.tuple #[.bool (cmpN 2 true x y), .bool (okN 2)]) ∧ w = w' := by
  go_enter Try.func20, Try.ntmps20
  go_wp2_with ((with_reducible refine (low_wide _ _).mono ?_); rintro e w1 ⟨rfl, rfl⟩)
  go_ret2
  exact ⟨ret_bb (by simp only [cmpN, lowZ, sgZ, Bool.false_eq_true, if_false, if_true, Int.ofNat_lt, Int.ofNat_le]), rfl⟩

set_option maxRecDepth 100000 in
set_option maxHeartbeats 1000000 in
theorem refc_w_3 (x y : Nat) (hx : x < 18446744073709551616) (hy : y < 18446744073709551616) (w : World) :
    Calls Try.prog 20 #[.int .i64 3, .bool true, .int .u64 x, .int .u64 y] w fun e w' => e = .returned (.tuple #[.bool (cmpN 3 true x y), .bool (okN 3)]) ∧ w = w' := by
  go_enter Try.func20, Try.ntmps20
  go_wp2_with ((with_reducible refine (low_wide _ _).mono ?_); rintro e w1 ⟨rfl, rfl⟩)
  go_ret2
  exact ⟨ret_bb (by simp only [cmpN, lowZ, sgZ, Bool.false_eq_true, if_false, if_true, Int.ofNat_lt, Int.ofNat_le]), rfl⟩

set_option maxRecDepth 100000 in
set_option maxHeartbeats 1000000 in
theorem refc_w_4 (x y : Nat) (hx : x < 18446744073709551616) (hy : y < 18446744073709551616) (w : World) :
    Calls Try.prog 20 #[.int .i64 4, .bool true, .int .u64 x, .int .u64 y] w fun e w' => e = .returned (.tuple #[.bool (cmpN 4 true x y), .bool (okN 4)]) ∧ w = w' := by
  go_enter Try.func20, Try.ntmps20
  go_wp2_with ((with_reducible refine (low_wide _ _).mono ?_); rintro e w1 ⟨rfl, rfl⟩)
  go_ret2
  exact ⟨ret_bb (by simp only [cmpN, lowZ, sgZ, Bool.false_eq_true, if_false, if_true, Int.ofNat_lt, Int.ofNat_le]), rfl⟩

set_option maxRecDepth 100000 in
set_option maxHeartbeats 1000000 in
theorem refc_w_5 (x y : Nat) (hx : x < 18446744073709551616) (hy : y < 18446744073709551616) (w : World) :
    Calls Try.prog 20 #[.int .i64 5, .bool true, .int .u64 x, .int .u64 y] w fun e w' => e = .returned (.tuple #[.bool (cmpN 5 true x y), .bool (okN 5)]) ∧ w = w' := by
  go_enter Try.func20, Try.ntmps20
  go_wp2_with ((with_reducible refine (low_wide _ _).mono ?_); rintro e w1 ⟨rfl, rfl⟩)
  go_ret2
  exact ⟨ret_bb (by simp only [cmpN, lowZ, sgZ, Bool.false_eq_true, if_false, if_true, Int.ofNat_lt, Int.ofNat_le]), rfl⟩

set_option maxRecDepth 100000 in
set_option maxHeartbeats 1000000 in
theorem refc_w_6 (x y : Nat) (hx : x < 18446744073709551616) (hy : y < 18446744073709551616) (w : World) :
    Calls Try.prog 20 #[.int .i64 6, .bool true, .int .u64 x, .int .u64 y] w fun e w' => e = .returned (.tuple #[.bool (cmpN 6 true x y), .bool (okN 6)]) ∧ w = w' := by
  go_enter Try.func20, Try.ntmps20
  go_wp2_with ((with_reducible refine (low_wide _ _).mono ?_); rintro e w1 ⟨rfl, rfl⟩)
  go_ret2
  exact ⟨ret_bb (by simp only [cmpN, lowZ, sgZ, Bool.false_eq_true, if_false, if_true, Int.ofNat_lt, Int.ofNat_le]), rfl⟩

set_option maxRecDepth 100000 in
set_option maxHeartbeats 1000000 in
theorem refc_w_7 (x y : Nat) (hx : x < 18446744073709551616) (hy : y < 18446744073709551616) (w : World) :
    Calls Try.prog 20 #[.int .i64 7, .bool true, .int .u64 x, .int .u64 y] w fun e w' => e = .returned (.tuple #[.bool (cmpN 7 true x y), .bool (okN 7)]) ∧ w = w' := by
  go_enter Try.func20, Try.ntmps20
  go_wp2_with ((with_reducible refine (low_wide _ _).mono ?_); rintro e w1 ⟨rfl, rfl⟩)
  go_ret2
  exact ⟨ret_bb (by simp only [cmpN, lowZ, sgZ, Bool.false_eq_true, if_false, if_true, Int.ofNat_lt, Int.ofNat_le]), rfl⟩

set_option maxRecDepth 100000 in
set_option maxHeartbeats 1000000 in
theorem refc_w_8 (x y : Nat) (hx : x < 18446744073709551616) (hy : y < 18446744073709551616) (w : World) :
    Calls Try.prog 20 #[.int .i64 8, .bool true, .int .u64 x, .int .u64 y] w fun e w' => e = .returned (.tuple #[.bool (cmpN 8 true x y), .bool (okN 8)]) ∧ w = w' := by
  go_enter Try.func20, Try.ntmps20
  go_wp2_with ((with_reducible refine (low_wide _ _).mono ?_); rintro e w1 ⟨rfl, rfl⟩)
  go_ret2
  exact ⟨ret_bb (by simp only [cmpN, lowZ, sgZ, Bool.false_eq_true, if_false, if_true, Int.ofNat_lt, Int.ofNat_le]), rfl⟩

set_option maxRecDepth 100000 in
set_option maxHeartbeats 1000000 in
theorem refc_w_9 (x y : Nat) (hx : x < 18446744073709551616) (hy : y < 18446744073709551616) (w : World) :
    Calls Try.prog 20 #[.int .i64 9, .bool true, .int .u64 x, .int .u64 y] w fun e w' => e = .returned (.tuple #[.bool (cmpN 9 true x y), .bool (okN 9)]) ∧ w = w' := by
  go_enter Try.func20, Try.ntmps20
  go_wp2_with ((with_reducible refine (low_wide _ _).mono ?_); rintro e w1 ⟨rfl, rfl⟩)
  go_ret2
  exact ⟨ret_bb (by simp only [cmpN, lowZ, sgZ, Bool.false_eq_true, if_false, if_true, Int.ofNat_lt, Int.ofNat_le]), rfl⟩

set_option maxRecDepth 100000 in
set_option maxHeartbeats 1000000 in
theorem refc_w_10 (x y : Nat) (hx : x < 18446744073709551616) (hy : y < 18446744073709551616) (w : World) :
    Calls Try.prog 20 #[.int .i64 10, .bool true, .int .u64 x, .int .u64 y] w fun e w' => e = .returned (.tuple #[.bool (cmpN 10 true x y), .bool (okN 10)]) ∧ w = w' := by
  go_enter Try.func20, Try.ntmps20
  go_wp2_with ((with_reducible refine (low_wide _ _).mono ?_); rintro e w1 ⟨rfl, rfl⟩)
  go_ret2
  exact ⟨ret_bb (by simp only [cmpN, lowZ, sgZ, Bool.false_eq_true, if_false, if_true, Int.ofNat_lt, Int.ofNat_le]), rfl⟩

set_option maxRecDepth 100000 in
set_option maxHeartbeats 1000000 in
theorem refc_w_11 (x y : Nat) (hx : x < 18446744073709551616) (hy : y < 18446744073709551616) (w : World) :
    Calls Try.prog 20 #[.int .i64 11, .bool true, .int .u64 x, .int .u64 y] w fun e w' => e = .returned (.tuple #[.bool (cmpN 11 true x y), .bool (okN 11)]) ∧ w = w' := by
  go_enter Try.func20, Try.ntmps20
  go_wp2_with ((with_reducible refine (low_wide _ _).mono ?_); rintro e w1 ⟨rfl, rfl⟩)
  go_ret2
  exact ⟨ret_bb (by simp only [cmpN, lowZ, sgZ, Bool.false_eq_true, if_false, if_true, Int.ofNat_lt, Int.ofNat_le]), rfl⟩

set_option maxRecDepth 100000 in
set_option maxHeartbeats 1000000 in
theorem refc_w_12 (x y : Nat) (hx : x < 18446744073709551616) (hy : y < 18446744073709551616) (w : World) :
    Calls Try.prog 20 #[.int .i64 12, .bool true, .int .u64 x, .int .u64 y] w fun e w' => e = .returned (.tuple #[.bool (cmpN 12 true x y), .bool (okN 12)]) ∧ w = w' := by
  go_enter Try.func20, Try.ntmps20
  go_wp2_with ((with_reducible refine (low_wide _ _).mono ?_); rintro e w1 ⟨rfl, rfl⟩)
  go_ret2
  exact ⟨ret_bb (by simp only [cmpN, lowZ, sgZ, Bool.false_eq_true, if_false, if_true, Int.ofNat_lt, Int.ofNat_le]), rfl⟩

set_option maxRecDepth 100000 in
set_option maxHeartbeats 1000000 in
theorem refc_w_13 (x y : Nat) (hx : x < 18446744073709551616) (hy : y < 18446744073709551616) (w : World) :
    Calls Try.prog 20 #[.int .i64 13, .bool true, .int .u64 x, .int .u64 y] w fun e w' => e = .returned (.tuple #[.bool (cmpN 13 true x y), .bool (okN 13)]) ∧ w = w' := by
  go_enter Try.func20, Try.ntmps20
  go_wp2_with ((with_reducible refine (low_wide _ _).mono ?_); rintro e w1 ⟨rfl, rfl⟩)
  go_ret2
  exact ⟨ret_bb (by simp only [cmpN, lowZ, sgZ, Bool.false_eq_true, if_false, if_true, Int.ofNat_lt, Int.ofNat_le]), rfl⟩

set_option maxRecDepth 100000 in
set_option maxHeartbeats 1000000 in
theorem refc_n_0 (x y : Nat) (hx : x < 18446744073709551616) (hy : y < 18446744073709551616) (w : World) :
    Calls Try.prog 20 #[.int .i64 0, .bool false, .int .u64 x, .int .u64 y] w fun e w' => e = .returned (.tuple #[.bool (cmpN 0 false x y), .bool (okN 0)]) ∧ w = w' := by
  go_enter Try.func20, Try.ntmps20
  go_wp2_with ((with_reducible refine (nar_any _ _).mono ?_); rintro e w1 ⟨rfl, rfl⟩)
  go_ret2
  exact ⟨ret_bb (by simp only [cmpN, lowZ, sgZ, Bool.false_eq_true, if_false, if_true, Int.ofNat_lt, Int.ofNat_le]), rfl⟩

set_option maxRecDepth 100000 in
set_option maxHeartbeats 1000000 in
theorem refc_n_1 (x y : Nat) (hx : x < 18446744073709551616) (hy : y < 18446744073709551616) (w : World) :
    Calls Try.prog 20 #[.int .i64 1, .bool false, .int .u64 x, .int .u64 y] w fun e w' => e = .returned (.tuple #[.bool (cmpN 1 false x y), .bool (okN 1)]) ∧ w = w' := by
  go_enter Try.func20, Try.ntmps20
  go_wp2_with ((with_reducible refine (nar_any _ _).mono ?_); rintro e w1 ⟨rfl, rfl⟩)
  go_ret2
  exact ⟨ret_bb (by simp only [cmpN, lowZ, sgZ, Bool.false_eq_true, if_false, if_true, Int.ofNat_lt, Int.ofNat_le]), rfl⟩

set_option maxRecDepth 100000 in
set_option maxHeartbeats 1000000 in
theorem refc_n_2 (x y : Nat) (hx : x < 18446744073709551616) (hy : y < 18446744073709551616) (w : World) :
    Calls Try.prog 20 #[.int .i64 2, .bool false, .int .u64 x, .int .u64 y] w fun e w' => e = .returned (.tuple #[.bool (cmpN 2 false x y), .bool (okN 2)]) ∧ w = w' := by
  go_enter Try.func20, Try.ntmps20
  go_wp2_with ((with_reducible refine (nar_any _ _).mono ?_); rintro e w1 ⟨rfl, rfl⟩)
  go_ret2
  exact ⟨ret_bb (by simp only [cmpN, lowZ, sgZ, Bool.false_eq_true, if_false, if_true, Int.ofNat_lt, Int.ofNat_le]), rfl⟩

set_option maxRecDepth 100000 in
set_option maxHeartbeats 1000000 in
theorem refc_n_3 (x y : Nat) (hx : x < 18446744073709551616) (hy : y < 18446744073709551616) (w : World) :
    Calls Try.prog 20 #[.int .i64 3, .bool false, .int .u64 x, .int .u64 y] w fun e w' => e = .returned (.tuple #[.bool (cmpN 3 false x y), .bool (okN 3)]) ∧ w = w' := by
  go_enter Try.func20, Try.ntmps20
  go_wp2_with ((with_reducible refine (nar_any _ _).mono ?_); rintro e w1 ⟨rfl, rfl⟩)
  go_ret2
  exact ⟨ret_bb (by simp only [cmpN, lowZ, sgZ, Bool.false_eq_true, if_false, if_true, Int.ofNat_lt, Int.ofNat_le]), rfl⟩

set_option maxRecDepth 100000 in
set_option maxHeartbeats 1000000 in
theorem refc_n_4 (x y : Nat) (hx : x < 18446744073709551616) (hy : y < 18446744073709551616) (w : World) :
    Calls Try.prog 20 #[.int .i64 4, .bool false, .int .u64 x, .int .u64 y] w fun e w' => e = .returned (.tuple #[.bool (cmpN 4 false x y), .bool (okN 4)]) ∧ w = w' := by
  go_enter Try.func20, Try.ntmps20
  go_wp2_with ((with_reducible refine (nar_any _ _).mono ?_); rintro e w1 ⟨rfl, rfl⟩)
  go_ret2
  exact ⟨ret_bb (by simp only [cmpN, lowZ, sgZ, Bool.false_eq_true, if_false, if_true, Int.ofNat_lt, Int.ofNat_le]), rfl⟩

set_option maxRecDepth 100000 in
set_option maxHeartbeats 1000000 in
theorem refc_n_5 (x y : Nat) (hx : x < 18446744073709551616) (hy : y < 18446744073709551616) (w : World) :
    Calls Try.prog 20 #[.int .i64 5, .bool false, .int .u64 x, .int .u64 y] w fun e w' => e = .returned (.tuple #[.bool (cmpN 5 false x y), .bool (okN 5)]) ∧ w = w' := by
  go_enter Try.func20, Try.ntmps20
  go_wp2_with ((with_reducible refine (nar_any _ _).mono ?_); rintro e w1 ⟨rfl, rfl⟩)
  go_ret2
  exact ⟨ret_bb (by simp only [cmpN, lowZ, sgZ, Bool.false_eq_true, if_false, if_true, Int.ofNat_lt, Int.ofNat_le]), rfl⟩

set_option maxRecDepth 100000 in
set_option maxHeartbeats 1000000 in
theorem refc_n_6 (x y : Nat) (hx : x < 18446744073709551616) (hy : y < 18446744073709551616) (w : World) :
    Calls Try.prog 20 #[.int .i64 6, .bool false, .int .u64 x, .int .u64 y] w fun e w' => e = .returned (.tuple #[.bool (cmpN 6 false x y), .bool (okN 6)]) ∧ w = w' := by
  go_enter Try.func20, Try.ntmps20
  go_wp2_with ((with_reducible refine (nar_any _ _).mono ?_); rintro e w1 ⟨rfl, rfl⟩)
  go_ret2
  exact ⟨ret_bb (by simp only [cmpN, lowZ, sgZ, Bool.false_eq_true, if_false, if_true, Int.ofNat_lt, Int.ofNat_le, wrap_low, wrap_wrap]), rfl⟩

set_option maxRecDepth 100000 in
set_option maxHeartbeats 1000000 in
theorem refc_n_7 (x y : Nat) (hx : x < 18446744073709551616) (hy : y < 18446744073709551616) (w : World) :
    Calls Try.prog 20 #[.int .i64 7, .bool false, .int .u64 x, .int .u64 y] w fun e w' => e = .returned (.tuple #[.bool (cmpN 7 false x y), .bool (okN 7)]) ∧ w = w' := by
  go_enter Try.func20, Try.ntmps20
  go_wp2_with ((with_reducible refine (nar_any _ _).mono ?_); rintro e w1 ⟨rfl, rfl⟩)
  go_ret2
  exact ⟨ret_bb (by simp only [cmpN, lowZ, sgZ, Bool.false_eq_true, if_false, if_true, Int.ofNat_lt, Int.ofNat_le, wrap_low, wrap_wrap]), rfl⟩

set_option maxRecDepth 100000 in
set_option maxHeartbeats 1000000 in
theorem refc_n_8 (x y : Nat) (hx : x < 18446744073709551616) (hy : y < 18446744073709551616) (w : World) :
    Calls Try.prog 20 #[.int .i64 8, .bool false, .int .u64 x, .int .u64 y] w fun e w' => e = .returned (.tuple #[.bool (cmpN 8 false x y), .bool (okN 8)]) ∧ w = w' := by
  go_enter Try.func20, Try.ntmps20
  go_wp2_with ((with_reducible refine (nar_any _ _).mono ?_); rintro e w1 ⟨rfl, rfl⟩)
  go_ret2
  exact ⟨ret_bb (by simp only [cmpN, lowZ, sgZ, Bool.false_eq_true, if_false, if_true, Int.ofNat_lt, Int.ofNat_le]), rfl⟩

set_option maxRecDepth 100000 in
set_option maxHeartbeats 1000000 in
theorem refc_n_9 (x y : Nat) (hx : x < 18446744073709551616) (hy : y < 18446744073709551616) (w : World) :
    Calls Try.prog 20 #[.int .i64 9, .bool false, .int .u64 x, .int .u64 y] w fun e w' => e = .returned (.tuple #[.bool (cmpN 9 false x y), .bool (okN 9)]) ∧ w = w' := by
  go_enter Try.func20, Try.ntmps20
  go_wp2_with ((with_reducible refine (nar_any _ _).mono ?_); rintro e w1 ⟨rfl, rfl⟩)
  go_ret2
  exact ⟨ret_bb (by simp only [cmpN, lowZ, sgZ, Bool.false_eq_true, if_false, if_true, Int.ofNat_lt, Int.ofNat_le]), rfl⟩

set_option maxRecDepth 100000 in
set_option maxHeartbeats 1000000 in
theorem refc_n_10 (x y : Nat) (hx : x < 18446744073709551616) (hy : y < 18446744073709551616) (w : World) :
    Calls Try.prog 20 #[.int .i64 10, .bool false, .int .u64 x, .int .u64 y] w fun e w' => e = .returned (.tuple #[.bool (cmpN 10 false x y), .bool (okN 10)]) ∧ w = w' := by
  go_enter Try.func20, Try.ntmps20
  go_wp2_with ((with_reducible refine (nar_any _ _).mono ?_); rintro e w1 ⟨rfl, rfl⟩)
  go_ret2
  exact ⟨ret_bb (by simp only [cmpN, lowZ, sgZ, Bool.false_eq_true, if_false, if_true, Int.ofNat_lt, Int.ofNat_le]), rfl⟩

set_option maxRecDepth 100000 in
set_option maxHeartbeats 1000000 in
theorem refc_n_11 (x y : Nat) (hx : x < 18446744073709551616) (hy : y < 18446744073709551616) (w : World) :
    Calls Try.prog 20 #[.int .i64 11, .bool false, .int .u64 x, .int .u64 y] w fun e w' => e = .returned (.tuple #[.bool (cmpN 11 false x y), .bool (okN 11)]) ∧ w = w' := by
  go_enter Try.func20, Try.ntmps20
  go_wp2_with ((with_reducible refine (nar_any _ _).mono ?_); rintro e w1 ⟨rfl, rfl⟩)
  go_ret2
  exact ⟨ret_bb (by simp only [cmpN, lowZ, sgZ, Bool.false_eq_true, if_false, if_true, Int.ofNat_lt, Int.ofNat_le]), rfl⟩

set_option maxRecDepth 100000 in
set_option maxHeartbeats 1000000 in
theorem refc_n_12 (x y : Nat) (hx : x < 18446744073709551616) (hy : y < 18446744073709551616) (w : World) :
    Calls Try.prog 20 #[.int .i64 12, .bool false, .int .u64 x, .int .u64 y] w fun e w' => e = .returned (.tuple #[.bool (cmpN 12 false x y), .bool (okN 12)]) ∧ w = w' := by
  go_enter Try.func20, Try.ntmps20
  go_wp2_with ((with_reducible refine (nar_any _ _).mono ?_); rintro e w1 ⟨rfl, rfl⟩)
  go_ret2
  exact ⟨ret_bb (by simp only [cmpN, lowZ, sgZ, Bool.false_eq_true, if_false, if_true, Int.ofNat_lt, Int.ofNat_le, wrap_low, wrap_wrap]), rfl⟩

set_option maxRecDepth 100000 in
set_option maxHeartbeats 1000000 in
theorem refc_n_13 (x y : Nat) (hx : x < 18446744073709551616) (hy : y < 18446744073709551616) (w : World) :
    Calls Try.prog 20 #[.int .i64 13, .bool false, .int .u64 x, .int .u64 y] w fun e w' => e = .returned (.tuple #[.bool (cmpN 13 false x y), .bool (okN 13)]) ∧ w = w' := by
  go_enter Try.func20, Try.ntmps20
  go_wp2_with ((with_reducible refine (nar_any _ _).mono ?_); rintro e w1 ⟨rfl, rfl⟩)
  go_ret2
  exact ⟨ret_bb (by simp only [cmpN, lowZ, sgZ, Bool.false_eq_true, if_false, if_true, Int.ofNat_lt, Int.ofNat_le, wrap_low, wrap_wrap]), rfl⟩

theorem refc_any (k : Nat) (hk : k < 14) (wide : Bool) (x y : Nat) (hx : x < 18446744073709551616) (hy : y < 18446744073709551616) (w : World) :
    Calls Try.prog 20 #[.int .i64 k, .bool wide, .int .u64 x, .int .u64 y] w fun e w' => e = .returned (.tuple #[.bool (cmpN k wide x y), .bool (okN k)]) ∧ w = w' := by
  cases wide
  · match k, hk with
    | 0, _ => exact refc_n_0 x y hx hy w
    | 1, _ => exact refc_n_1 x y hx hy w
    | 2, _ => exact refc_n_2 x y hx hy w
    | 3, _ => exact refc_n_3 x y hx hy w
    | 4, _ => exact refc_n_4 x y hx hy w
    | 5, _ => exact refc_n_5 x y hx hy w
    | 6, _ => exact refc_n_6 x y hx hy w
    | 7, _ => exact refc_n_7 x y hx hy w
    | 8, _ => exact refc_n_8 x y hx hy w
    | 9, _ => exact refc_n_9 x y hx hy w
    | 10, _ => exact refc_n_10 x y hx hy w
    | 11, _ => exact refc_n_11 x y hx hy w
    | 12, _ => exact refc_n_12 x y hx hy w
    | 13, _ => exact refc_n_13 x y hx hy w
  · match k, hk with
    | 0, _ => exact refc_w_0 x y hx hy w
    | 1, _ => exact refc_w_1 x y hx hy w
    | 2, _ => exact refc_w_2 x y hx hy w
    | 3, _ => exact refc_w_3 x y hx hy w
    | 4, _ => exact refc_w_4 x y hx hy w
    | 5, _ => exact refc_w_5 x y hx hy w
    | 6, _ => exact refc_w_6 x y hx hy w
    | 7, _ => exact refc_w_7 x y hx hy w
    | 8, _ => exact refc_w_8 x y hx hy w
    | 9, _ => exact refc_w_9 x y hx hy w
    | 10, _ => exact refc_w_10 x y hx hy w
    | 11, _ => exact refc_w_11 x y hx hy w
    | 12, _ => exact refc_w_12 x y hx hy w
    | 13, _ => exact refc_w_13 x y hx hy w

set_option maxRecDepth 100000 in
set_option maxHeartbeats 1000000 in
theorem refc_out (k : Int) (hk : k < 0 ∨ 14 ≤ k) (wide : Bool) (x y : Nat) (hx : x < 18446744073709551616) (hy : y < 18446744073709551616) (w : World) :
    Calls Try.prog 20 #[.int .i64 k, .bool wide, .int .u64 x, .int .u64 y] w fun e w' => e = .returned (.tuple #[.bool false, .bool false]) ∧ w = w' := by
  cases wide
  · rcases hk with hk | hk
    all_goals
      go_enter Try.func20, Try.ntmps20
      go_wp2_with ((with_reducible refine (nar_any _ _).mono ?_); rintro e w1 ⟨rfl, rfl⟩)
      go_ret2
      exact ⟨rfl, rfl⟩
  · rcases hk with hk | hk
    all_goals
      go_enter Try.func20, Try.ntmps20
      go_wp2_with ((with_reducible refine (low_wide _ _).mono ?_); rintro e w1 ⟨rfl, rfl⟩)
      go_ret2
      exact ⟨rfl, rfl⟩
end Go.Proofs.Ytilbfnnncmjmfaa
