/-
  Laws of what the operations of the layer alu make of two numbers: sums, products, quotients, shifts. Nothing of the program stands here.
-/
import Derived.Test.YtilbfnnncmjmfaaMath
namespace Go.Proofs.Ytilbfnnncmjmfaa
open Go.RowKit

theorem add_comm_do (wide : Bool) (x y : Nat) : doN 0 wide y x = doN 0 wide x y := by
  cases wide <;> simp only [doN, opN, Bool.false_eq_true, if_false, if_true, Nat.add_comm]
theorem mul_comm_do (wide : Bool) (x y : Nat) : doN 2 wide y x = doN 2 wide x y := by
  cases wide <;> simp only [doN, opN, Bool.false_eq_true, if_false, if_true, Nat.mul_comm]
theorem quo_rem_op (m x y : Nat) (hx : x < 2 ^ m) : opN m 0 (opN m 2 (opN m 3 x y) y) (opN m 9 x y) = x := by
  simp only [opN]
  have h1 : x / y * y ≤ x := Nat.div_mul_le_self x y
  have h2 := Nat.div_add_mod x y
  rw [Nat.mul_comm] at h2
  rw [Nat.mod_eq_of_lt (Nat.lt_of_le_of_lt h1 hx), h2, Nat.mod_eq_of_lt hx]
theorem mod_op (m k x y : Nat) (hm : m = 32) (hx : x < 2 ^ m) (hy : y < 2 ^ m) : opN m k x y % 4294967296 = opN m k x y := by
  subst hm
  exact Nat.mod_eq_of_lt (opN_lt 32 k x y hx hy)
theorem quo_rem (wide : Bool) (x y : Nat) (hx : x < 18446744073709551616) :
    doN 0 wide (doN 2 wide (doN 3 wide x y) y) (doN 9 wide x y) = lowN wide x := by
  cases wide
  · simp only [doN, lowN, Bool.false_eq_true, if_false]
    have hx' : x % 4294967296 < 2 ^ 32 := by omega
    have hy' : y % 4294967296 < 2 ^ 32 := by omega
    generalize x % 4294967296 = a at *
    generalize y % 4294967296 = b at *
    rw [mod_op 32 3 a b rfl hx' hy', mod_op 32 9 a b rfl hx' hy', mod_op 32 2 _ b rfl (opN_lt _ _ _ _ hx' hy') hy']
    exact quo_rem_op 32 a b hx'
  · simp only [doN, lowN, if_true]
    exact quo_rem_op 64 x y (by omega)
theorem low_do (k x y : Nat) : doN k false (x % 4294967296) (y % 4294967296) = doN k false x y := by
  simp only [doN, Bool.false_eq_true, if_false, Nat.mod_mod]

/-- Shifted up and down a number has lost just the upper bits. -/
theorem up_down (m k x : Nat) (hk : k ≤ m) : x * 2 ^ k % 2 ^ m / 2 ^ k = x % 2 ^ (m - k) := by
  have e : 2 ^ m = 2 ^ (m - k) * 2 ^ k := by rw [← Nat.pow_add]; congr 1; omega
  rw [e, Nat.mul_mod_mul_right, Nat.mul_div_cancel _ (Nat.two_pow_pos k)]
theorem down_up (m k x : Nat) (hx : x < 2 ^ m) : x / 2 ^ k * 2 ^ k % 2 ^ m = x - x % 2 ^ k := by
  have h1 : x / 2 ^ k * 2 ^ k ≤ x := Nat.div_mul_le_self _ _
  have h2 := Nat.div_add_mod x (2 ^ k)
  rw [Nat.mul_comm] at h2
  rw [Nat.mod_eq_of_lt (Nat.lt_of_le_of_lt h1 hx)]
  omega
theorem mod_lt_pow (x m k : Nat) (hx : x < 2 ^ m) : x % 2 ^ k < 2 ^ m := Nat.lt_of_le_of_lt (Nat.mod_le _ _) hx

theorem shifts64 (x n : Nat) (hx : x < 18446744073709551616) :
    doN 7 true (doN 6 true x n) n = x % 2 ^ (64 - n % 64) ∧ doN 6 true (doN 7 true x n) n = x - x % 2 ^ (n % 64) ∧
    doN 6 true x ((n + 192) % 18446744073709551616) = doN 6 true x n := by
  simp only [doN, if_true, opN]
  refine ⟨up_down 64 (n % 64) x (by omega), down_up 64 (n % 64) x (by omega), ?_⟩
  have e : (n + 192) % 18446744073709551616 % 64 = n % 64 := by omega
  rw [e]
theorem shifts32 (x n : Nat) :
    doN 7 false (doN 6 false x n) n = x % 4294967296 % 2 ^ (32 - n % 32) ∧ doN 6 false (doN 7 false x n) n = x % 4294967296 - x % 4294967296 % 2 ^ (n % 32) ∧
    doN 6 false x ((n + 96) % 18446744073709551616) = doN 6 false x n := by
  have l6 := doN_lt32 6 x n
  have l7 := doN_lt32 7 x n
  have e1 : n % 4294967296 % 32 = n % 32 := by omega
  have hx' : x % 4294967296 < 2 ^ 32 := by omega
  refine ⟨?_, ?_, ?_⟩
  · have : doN 7 false (doN 6 false x n) n = opN 32 7 (doN 6 false x n % 4294967296) (n % 4294967296) := rfl
    rw [this, Nat.mod_eq_of_lt l6, opN_7, e1]
    have : doN 6 false x n = x % 4294967296 * 2 ^ (n % 4294967296 % 32) % 2 ^ 32 := rfl
    rw [this, e1]
    exact up_down 32 (n % 32) _ (by omega)
  · have : doN 6 false (doN 7 false x n) n = opN 32 6 (doN 7 false x n % 4294967296) (n % 4294967296) := rfl
    rw [this, Nat.mod_eq_of_lt l7, opN_6, e1]
    have : doN 7 false x n = x % 4294967296 / 2 ^ (n % 4294967296 % 32) := rfl
    rw [this, e1]
    exact down_up 32 (n % 32) _ hx'
  · have a : doN 6 false x ((n + 96) % 18446744073709551616) = x % 4294967296 * 2 ^ ((n + 96) % 18446744073709551616 % 4294967296 % 32) % 2 ^ 32 := rfl
    have b : doN 6 false x n = x % 4294967296 * 2 ^ (n % 4294967296 % 32) % 2 ^ 32 := rfl
    rw [a, b]
    have e : (n + 96) % 18446744073709551616 % 4294967296 % 32 = n % 4294967296 % 32 := by omega
    rw [e]
end Go.Proofs.Ytilbfnnncmjmfaa
