/-
  What alu.Cmp answers, for every code, width and pair of numbers, put together: no condition.
-/
import Derived.Test.YtilbfnnncmjmfaaCmp
namespace Go.Proofs.Ytilbfnnncmjmfaa
open Go.ChangeShapes Go.WideShapes Go.ChangeAt Go.RowKit
set_option linter.unusedVariables false
set_option linter.unusedSimpArgs false

theorem cmp_narrow_1 (x y : Nat) (hx : x < 18446744073709551616) (hy : y < 18446744073709551616) (w : World) :
    Calls Try.prog 19 #[.int .i64 1, .bool false, .int .u64 x, .int .u64 y] w fun e w' => e = .returned (.tuple #[.bool (cmpN 1 false x y), .bool true]) ∧ Grown w w' := by
  have h : cmpN 1 false x y = (((x : Int) % 4294967296) == ((y : Int) % 4294967296)) := by simp only [cmpN, lowZ, sgZ, Bool.false_eq_true, if_false, if_true]
  rw [h]
  exact cmp_u_narrow 1 53 x y _ hx hy (by omega) rfl rfl cf_53 (fn_53 _ _) w
theorem cmp_narrow_2 (x y : Nat) (hx : x < 18446744073709551616) (hy : y < 18446744073709551616) (w : World) :
    Calls Try.prog 19 #[.int .i64 2, .bool false, .int .u64 x, .int .u64 y] w fun e w' => e = .returned (.tuple #[.bool (cmpN 2 false x y), .bool true]) ∧ Grown w w' := by
  have h : cmpN 2 false x y = (decide (((y : Int) % 4294967296) < ((x : Int) % 4294967296))) := by simp only [cmpN, lowZ, sgZ, Bool.false_eq_true, if_false, if_true]
  rw [h]
  exact cmp_u_narrow 2 55 x y _ hx hy (by omega) rfl rfl cf_55 (fn_55 _ _) w
theorem cmp_narrow_3 (x y : Nat) (hx : x < 18446744073709551616) (hy : y < 18446744073709551616) (w : World) :
    Calls Try.prog 19 #[.int .i64 3, .bool false, .int .u64 x, .int .u64 y] w fun e w' => e = .returned (.tuple #[.bool (cmpN 3 false x y), .bool true]) ∧ Grown w w' := by
  have h : cmpN 3 false x y = (decide (((y : Int) % 4294967296) ≤ ((x : Int) % 4294967296))) := by simp only [cmpN, lowZ, sgZ, Bool.false_eq_true, if_false, if_true]
  rw [h]
  exact cmp_u_narrow 3 56 x y _ hx hy (by omega) rfl rfl cf_56 (fn_56 _ _) w
theorem cmp_narrow_4 (x y : Nat) (hx : x < 18446744073709551616) (hy : y < 18446744073709551616) (w : World) :
    Calls Try.prog 19 #[.int .i64 4, .bool false, .int .u64 x, .int .u64 y] w fun e w' => e = .returned (.tuple #[.bool (cmpN 4 false x y), .bool true]) ∧ Grown w w' := by
  have h : cmpN 4 false x y = (bits .and .u64 ((x : Int) % 4294967296) ((y : Int) % 4294967296) != 0) := by simp only [cmpN, lowZ, sgZ, Bool.false_eq_true, if_false, if_true]
  rw [h]
  exact cmp_u_narrow 4 59 x y _ hx hy (by omega) rfl rfl cf_59 (fn_59 _ _) w
theorem cmp_narrow_5 (x y : Nat) (hx : x < 18446744073709551616) (hy : y < 18446744073709551616) (w : World) :
    Calls Try.prog 19 #[.int .i64 5, .bool false, .int .u64 x, .int .u64 y] w fun e w' => e = .returned (.tuple #[.bool (cmpN 5 false x y), .bool true]) ∧ Grown w w' := by
  have h : cmpN 5 false x y = (((x : Int) % 4294967296) != ((y : Int) % 4294967296)) := by simp only [cmpN, lowZ, sgZ, Bool.false_eq_true, if_false, if_true]
  rw [h]
  exact cmp_u_narrow 5 54 x y _ hx hy (by omega) rfl rfl cf_54 (fn_54 _ _) w
theorem cmp_narrow_6 (x y : Nat) (hx : x < 18446744073709551616) (hy : y < 18446744073709551616) (w : World) :
    Calls Try.prog 19 #[.int .i64 6, .bool false, .int .u64 x, .int .u64 y] w fun e w' => e = .returned (.tuple #[.bool (cmpN 6 false x y), .bool true]) ∧ Grown w w' := by
  have h : cmpN 6 false x y = (decide ((wrap32 y) < (wrap32 x))) := by simp only [cmpN, lowZ, sgZ, Bool.false_eq_true, if_false, if_true]
  rw [h]
  exact cmp_s_narrow 6 60 x y _ hx hy (by omega) rfl rfl cf_60 (fun w => by rw [wrap_wrap, wrap_wrap]; exact fn_60 _ _ w) w
theorem cmp_narrow_7 (x y : Nat) (hx : x < 18446744073709551616) (hy : y < 18446744073709551616) (w : World) :
    Calls Try.prog 19 #[.int .i64 7, .bool false, .int .u64 x, .int .u64 y] w fun e w' => e = .returned (.tuple #[.bool (cmpN 7 false x y), .bool true]) ∧ Grown w w' := by
  have h : cmpN 7 false x y = (decide ((wrap32 y) ≤ (wrap32 x))) := by simp only [cmpN, lowZ, sgZ, Bool.false_eq_true, if_false, if_true]
  rw [h]
  exact cmp_s_narrow 7 61 x y _ hx hy (by omega) rfl rfl cf_61 (fun w => by rw [wrap_wrap, wrap_wrap]; exact fn_61 _ _ w) w
theorem cmp_narrow_10 (x y : Nat) (hx : x < 18446744073709551616) (hy : y < 18446744073709551616) (w : World) :
    Calls Try.prog 19 #[.int .i64 10, .bool false, .int .u64 x, .int .u64 y] w fun e w' => e = .returned (.tuple #[.bool (cmpN 10 false x y), .bool true]) ∧ Grown w w' := by
  have h : cmpN 10 false x y = (decide (((x : Int) % 4294967296) < ((y : Int) % 4294967296))) := by simp only [cmpN, lowZ, sgZ, Bool.false_eq_true, if_false, if_true]
  rw [h]
  exact cmp_u_narrow 10 57 x y _ hx hy (by omega) rfl rfl cf_57 (fn_57 _ _) w
theorem cmp_narrow_11 (x y : Nat) (hx : x < 18446744073709551616) (hy : y < 18446744073709551616) (w : World) :
    Calls Try.prog 19 #[.int .i64 11, .bool false, .int .u64 x, .int .u64 y] w fun e w' => e = .returned (.tuple #[.bool (cmpN 11 false x y), .bool true]) ∧ Grown w w' := by
  have h : cmpN 11 false x y = (decide (((x : Int) % 4294967296) ≤ ((y : Int) % 4294967296))) := by simp only [cmpN, lowZ, sgZ, Bool.false_eq_true, if_false, if_true]
  rw [h]
  exact cmp_u_narrow 11 58 x y _ hx hy (by omega) rfl rfl cf_58 (fn_58 _ _) w
theorem cmp_narrow_12 (x y : Nat) (hx : x < 18446744073709551616) (hy : y < 18446744073709551616) (w : World) :
    Calls Try.prog 19 #[.int .i64 12, .bool false, .int .u64 x, .int .u64 y] w fun e w' => e = .returned (.tuple #[.bool (cmpN 12 false x y), .bool true]) ∧ Grown w w' := by
  have h : cmpN 12 false x y = (decide ((wrap32 x) < (wrap32 y))) := by simp only [cmpN, lowZ, sgZ, Bool.false_eq_true, if_false, if_true]
  rw [h]
  exact cmp_s_narrow 12 62 x y _ hx hy (by omega) rfl rfl cf_62 (fun w => by rw [wrap_wrap, wrap_wrap]; exact fn_62 _ _ w) w
theorem cmp_narrow_13 (x y : Nat) (hx : x < 18446744073709551616) (hy : y < 18446744073709551616) (w : World) :
    Calls Try.prog 19 #[.int .i64 13, .bool false, .int .u64 x, .int .u64 y] w fun e w' => e = .returned (.tuple #[.bool (cmpN 13 false x y), .bool true]) ∧ Grown w w' := by
  have h : cmpN 13 false x y = (decide ((wrap32 x) ≤ (wrap32 y))) := by simp only [cmpN, lowZ, sgZ, Bool.false_eq_true, if_false, if_true]
  rw [h]
  exact cmp_s_narrow 13 63 x y _ hx hy (by omega) rfl rfl cf_63 (fun w => by rw [wrap_wrap, wrap_wrap]; exact fn_63 _ _ w) w
theorem cmp_wide_1 (x y : Nat) (hx : x < 18446744073709551616) (hy : y < 18446744073709551616) (w : World) :
    Calls Try.prog 19 #[.int .i64 1, .bool true, .int .u64 x, .int .u64 y] w fun e w' => e = .returned (.tuple #[.bool (cmpN 1 true x y), .bool true]) ∧ Grown w w' := by
  have h : cmpN 1 true x y = ((x : Int) == (y : Int)) := by simp only [cmpN, lowZ, sgZ, Bool.false_eq_true, if_false, if_true]
  rw [h]
  exact cmp_u_wide 1 53 x y _ hx hy (by omega) rfl rfl cf_53 (fn_53 _ _) w
theorem cmp_wide_2 (x y : Nat) (hx : x < 18446744073709551616) (hy : y < 18446744073709551616) (w : World) :
    Calls Try.prog 19 #[.int .i64 2, .bool true, .int .u64 x, .int .u64 y] w fun e w' => e = .returned (.tuple #[.bool (cmpN 2 true x y), .bool true]) ∧ Grown w w' := by
  have h : cmpN 2 true x y = (decide ((y : Int) < (x : Int))) := by simp only [cmpN, lowZ, sgZ, Bool.false_eq_true, if_false, if_true]
  rw [h]
  exact cmp_u_wide 2 55 x y _ hx hy (by omega) rfl rfl cf_55 (fn_55 _ _) w
theorem cmp_wide_3 (x y : Nat) (hx : x < 18446744073709551616) (hy : y < 18446744073709551616) (w : World) :
    Calls Try.prog 19 #[.int .i64 3, .bool true, .int .u64 x, .int .u64 y] w fun e w' => e = .returned (.tuple #[.bool (cmpN 3 true x y), .bool true]) ∧ Grown w w' := by
  have h : cmpN 3 true x y = (decide ((y : Int) ≤ (x : Int))) := by simp only [cmpN, lowZ, sgZ, Bool.false_eq_true, if_false, if_true]
  rw [h]
  exact cmp_u_wide 3 56 x y _ hx hy (by omega) rfl rfl cf_56 (fn_56 _ _) w
theorem cmp_wide_4 (x y : Nat) (hx : x < 18446744073709551616) (hy : y < 18446744073709551616) (w : World) :
    Calls Try.prog 19 #[.int .i64 4, .bool true, .int .u64 x, .int .u64 y] w fun e w' => e = .returned (.tuple #[.bool (cmpN 4 true x y), .bool true]) ∧ Grown w w' := by
  have h : cmpN 4 true x y = (bits .and .u64 (x : Int) (y : Int) != 0) := by simp only [cmpN, lowZ, sgZ, Bool.false_eq_true, if_false, if_true]
  rw [h]
  exact cmp_u_wide 4 59 x y _ hx hy (by omega) rfl rfl cf_59 (fn_59 _ _) w
theorem cmp_wide_5 (x y : Nat) (hx : x < 18446744073709551616) (hy : y < 18446744073709551616) (w : World) :
    Calls Try.prog 19 #[.int .i64 5, .bool true, .int .u64 x, .int .u64 y] w fun e w' => e = .returned (.tuple #[.bool (cmpN 5 true x y), .bool true]) ∧ Grown w w' := by
  have h : cmpN 5 true x y = ((x : Int) != (y : Int)) := by simp only [cmpN, lowZ, sgZ, Bool.false_eq_true, if_false, if_true]
  rw [h]
  exact cmp_u_wide 5 54 x y _ hx hy (by omega) rfl rfl cf_54 (fn_54 _ _) w
theorem cmp_wide_6 (x y : Nat) (hx : x < 18446744073709551616) (hy : y < 18446744073709551616) (w : World) :
    Calls Try.prog 19 #[.int .i64 6, .bool true, .int .u64 x, .int .u64 y] w fun e w' => e = .returned (.tuple #[.bool (cmpN 6 true x y), .bool true]) ∧ Grown w w' := by
  have h : cmpN 6 true x y = (decide ((wrap64 y) < (wrap64 x))) := by simp only [cmpN, lowZ, sgZ, Bool.false_eq_true, if_false, if_true]
  rw [h]
  exact cmp_s_wide 6 60 x y _ hx hy (by omega) rfl rfl cf_60 (fn_60 _ _) w
theorem cmp_wide_7 (x y : Nat) (hx : x < 18446744073709551616) (hy : y < 18446744073709551616) (w : World) :
    Calls Try.prog 19 #[.int .i64 7, .bool true, .int .u64 x, .int .u64 y] w fun e w' => e = .returned (.tuple #[.bool (cmpN 7 true x y), .bool true]) ∧ Grown w w' := by
  have h : cmpN 7 true x y = (decide ((wrap64 y) ≤ (wrap64 x))) := by simp only [cmpN, lowZ, sgZ, Bool.false_eq_true, if_false, if_true]
  rw [h]
  exact cmp_s_wide 7 61 x y _ hx hy (by omega) rfl rfl cf_61 (fn_61 _ _) w
theorem cmp_wide_10 (x y : Nat) (hx : x < 18446744073709551616) (hy : y < 18446744073709551616) (w : World) :
    Calls Try.prog 19 #[.int .i64 10, .bool true, .int .u64 x, .int .u64 y] w fun e w' => e = .returned (.tuple #[.bool (cmpN 10 true x y), .bool true]) ∧ Grown w w' := by
  have h : cmpN 10 true x y = (decide ((x : Int) < (y : Int))) := by simp only [cmpN, lowZ, sgZ, Bool.false_eq_true, if_false, if_true]
  rw [h]
  exact cmp_u_wide 10 57 x y _ hx hy (by omega) rfl rfl cf_57 (fn_57 _ _) w
theorem cmp_wide_11 (x y : Nat) (hx : x < 18446744073709551616) (hy : y < 18446744073709551616) (w : World) :
    Calls Try.prog 19 #[.int .i64 11, .bool true, .int .u64 x, .int .u64 y] w fun e w' => e = .returned (.tuple #[.bool (cmpN 11 true x y), .bool true]) ∧ Grown w w' := by
  have h : cmpN 11 true x y = (decide ((x : Int) ≤ (y : Int))) := by simp only [cmpN, lowZ, sgZ, Bool.false_eq_true, if_false, if_true]
  rw [h]
  exact cmp_u_wide 11 58 x y _ hx hy (by omega) rfl rfl cf_58 (fn_58 _ _) w
theorem cmp_wide_12 (x y : Nat) (hx : x < 18446744073709551616) (hy : y < 18446744073709551616) (w : World) :
    Calls Try.prog 19 #[.int .i64 12, .bool true, .int .u64 x, .int .u64 y] w fun e w' => e = .returned (.tuple #[.bool (cmpN 12 true x y), .bool true]) ∧ Grown w w' := by
  have h : cmpN 12 true x y = (decide ((wrap64 x) < (wrap64 y))) := by simp only [cmpN, lowZ, sgZ, Bool.false_eq_true, if_false, if_true]
  rw [h]
  exact cmp_s_wide 12 62 x y _ hx hy (by omega) rfl rfl cf_62 (fn_62 _ _) w
theorem cmp_wide_13 (x y : Nat) (hx : x < 18446744073709551616) (hy : y < 18446744073709551616) (w : World) :
    Calls Try.prog 19 #[.int .i64 13, .bool true, .int .u64 x, .int .u64 y] w fun e w' => e = .returned (.tuple #[.bool (cmpN 13 true x y), .bool true]) ∧ Grown w w' := by
  have h : cmpN 13 true x y = (decide ((wrap64 x) ≤ (wrap64 y))) := by simp only [cmpN, lowZ, sgZ, Bool.false_eq_true, if_false, if_true]
  rw [h]
  exact cmp_s_wide 13 63 x y _ hx hy (by omega) rfl rfl cf_63 (fn_63 _ _) w

/-- Whatever the code from 0 to 13, the width and the two numbers: alu.Cmp tells what the comparison does, and makes new memory alone. -/
theorem cmp_any (k : Nat) (hk : k < 14) (wide : Bool) (x y : Nat) (hx : x < 18446744073709551616) (hy : y < 18446744073709551616) (w : World) :
    Calls Try.prog 19 #[.int .i64 k, .bool wide, .int .u64 x, .int .u64 y] w fun e w' => e = .returned (.tuple #[.bool (cmpN k wide x y), .bool (okN k)]) ∧ Grown w w' := by
  cases wide
  · match k, hk with
    | 0, h => exact cmp_none_narrow 0 x y hx hy h rfl rfl w
    | 1, _ => exact cmp_narrow_1 x y hx hy w
    | 2, _ => exact cmp_narrow_2 x y hx hy w
    | 3, _ => exact cmp_narrow_3 x y hx hy w
    | 4, _ => exact cmp_narrow_4 x y hx hy w
    | 5, _ => exact cmp_narrow_5 x y hx hy w
    | 6, _ => exact cmp_narrow_6 x y hx hy w
    | 7, _ => exact cmp_narrow_7 x y hx hy w
    | 8, h => exact cmp_none_narrow 8 x y hx hy h rfl rfl w
    | 9, h => exact cmp_none_narrow 9 x y hx hy h rfl rfl w
    | 10, _ => exact cmp_narrow_10 x y hx hy w
    | 11, _ => exact cmp_narrow_11 x y hx hy w
    | 12, _ => exact cmp_narrow_12 x y hx hy w
    | 13, _ => exact cmp_narrow_13 x y hx hy w
  · match k, hk with
    | 0, h => exact cmp_none_wide 0 x y hx hy h rfl rfl w
    | 1, _ => exact cmp_wide_1 x y hx hy w
    | 2, _ => exact cmp_wide_2 x y hx hy w
    | 3, _ => exact cmp_wide_3 x y hx hy w
    | 4, _ => exact cmp_wide_4 x y hx hy w
    | 5, _ => exact cmp_wide_5 x y hx hy w
    | 6, _ => exact cmp_wide_6 x y hx hy w
    | 7, _ => exact cmp_wide_7 x y hx hy w
    | 8, h => exact cmp_none_wide 8 x y hx hy h rfl rfl w
    | 9, h => exact cmp_none_wide 9 x y hx hy h rfl rfl w
    | 10, _ => exact cmp_wide_10 x y hx hy w
    | 11, _ => exact cmp_wide_11 x y hx hy w
    | 12, _ => exact cmp_wide_12 x y hx hy w
    | 13, _ => exact cmp_wide_13 x y hx hy w

/-- Any other code is none. -/
theorem cmp_out (k : Int) (hk : k < 0 ∨ 14 ≤ k) (wide : Bool) (x y : Nat) (w : World) :
    Calls Try.prog 19 #[.int .i64 k, .bool wide, .int .u64 x, .int .u64 y] w fun e w' => e = .returned (.tuple #[.bool false, .bool false]) ∧ Grown w w' := by
  have G : Grown w ((w.alloc (.cells cmpC 53)).alloc (.cells cmpC 53)) := ((Grown.refl _).alloc _ _).alloc _ _
  have hsz : cmpC.size = 28 := rfl
  have hst := cmp_store w
  by_cases h : k < 0
  · clear hk
    go_enter Try.func19, Try.ntmps19
    go_wp2_with (go_at_call 26; refine (comps_any _).mono ?_; rintro e w' ⟨rfl, rfl⟩)
    go_ret2
    exact ⟨rfl, G⟩
  · have h1 : 14 ≤ k := by omega
    have h0 : 0 ≤ k := by omega
    clear hk h
    go_enter Try.func19, Try.ntmps19
    go_wp2_with (go_at_call 26; refine (comps_any _).mono ?_; rintro e w' ⟨rfl, rfl⟩)
    go_ret2
    exact ⟨rfl, G⟩
end Go.Proofs.Ytilbfnnncmjmfaa
