/-
  An arithmetic shift made bit by bit: laws on natural numbers. Nothing of the program stands here.
-/
import Derived.Test.YtilbfnnncmjmfaaMath
namespace Go.Proofs.Ytilbfnnncmjmfaa
open Go.RowKit

/-- What stands behind k rounds: the number shifted, and its k upper bits. -/
def fillN (m A N k : Nat) : Nat := A / 2 ^ N + (2 ^ m - 2 ^ (m - k))

theorem fill_zero (m A N : Nat) : fillN m A N 0 = A / 2 ^ N := by simp [fillN]
theorem fill_step (m A N k : Nat) (hA : A < 2 ^ m) (hN : N ≤ m) (hk : k < N) :
    fillN m A N k ||| 2 ^ (m - 1 - k) = fillN m A N (k + 1) := by
  unfold fillN
  have hq : A / 2 ^ N < 2 ^ (m - 1 - k) := by
    have h1 : A / 2 ^ N < 2 ^ (m - N) := by
      rw [Nat.div_lt_iff_lt_mul (Nat.two_pow_pos N), ← Nat.pow_add]
      have : m - N + N = m := by omega
      rw [this]; exact hA
    exact Nat.lt_of_lt_of_le h1 (Nat.pow_le_pow_right (by omega) (by omega))
  have e1 : 2 ^ (m - k) = 2 * 2 ^ (m - 1 - k) := by
    have : m - k = m - 1 - k + 1 := by omega
    rw [this, Nat.pow_succ, Nat.mul_comm]
  have e2 : m - (k + 1) = m - 1 - k := by omega
  have e3 : 2 ^ m = 2 * 2 ^ (m - 1 - k) * 2 ^ k := by
    rw [← e1, ← Nat.pow_add]; congr 1; omega
  rw [e1, e2, e3]
  have hK : 0 < 2 ^ k := Nat.two_pow_pos k
  generalize A / 2 ^ N = q at *
  obtain ⟨K, hKe⟩ : ∃ K, 2 ^ k = K + 1 := ⟨2 ^ k - 1, by omega⟩
  rw [hKe]
  have hV : q + (2 * 2 ^ (m - 1 - k) * (K + 1) - 2 * 2 ^ (m - 1 - k)) = q + 2 ^ (m - 1 - k) * (2 * K) := by
    have : 2 * 2 ^ (m - 1 - k) * (K + 1) = 2 ^ (m - 1 - k) * (2 * K) + 2 * 2 ^ (m - 1 - k) := by
      rw [Nat.mul_add, Nat.mul_one]; congr 1; rw [Nat.mul_comm 2, Nat.mul_assoc]
    omega
  have hb : (q + 2 ^ (m - 1 - k) * (2 * K)).testBit (m - 1 - k) = false := by
    rw [Nat.testBit_eq_decide_div_mod_eq, Nat.add_mul_div_left _ _ (Nat.two_pow_pos _), Nat.div_eq_of_lt hq]
    simp
  have ha : (q + 2 ^ (m - 1 - k) * (2 * K)) &&& 2 ^ (m - 1 - k) = 0 := by
    apply Nat.eq_of_testBit_eq
    intro i
    rw [Nat.testBit_and, Nat.testBit_two_pow, Nat.zero_testBit]
    by_cases h : m - 1 - k = i
    · subst h
      rw [hb]; rfl
    · simp [h]
  have hs := or_add_and (q + 2 ^ (m - 1 - k) * (2 * K)) (2 ^ (m - 1 - k))
  rw [ha] at hs
  rw [hV]
  have e5 : 2 * 2 ^ (m - 1 - k) * (K + 1) = 2 ^ (m - 1 - k) * (2 * K) + 2 * 2 ^ (m - 1 - k) := by
    rw [Nat.mul_add, Nat.mul_one]; congr 1; rw [Nat.mul_comm 2, Nat.mul_assoc]
  rw [e5]
  omega
theorem fill_le (m A N k : Nat) (hA : A < 2 ^ m) (hN : N ≤ m) (hk : k ≤ N) : fillN m A N k < 2 ^ m := by
  unfold fillN
  have h1 : A / 2 ^ N < 2 ^ (m - N) := by
    rw [Nat.div_lt_iff_lt_mul (Nat.two_pow_pos N), ← Nat.pow_add]
    have : m - N + N = m := by omega
    rw [this]; exact hA
  have h2 : 2 ^ (m - N) ≤ 2 ^ (m - k) := Nat.pow_le_pow_right (by omega) (by omega)
  have h3 : 2 ^ (m - k) ≤ 2 ^ m := Nat.pow_le_pow_right (by omega) (by omega)
  omega
theorem fill_end (m A y : Nat) (hm : 0 < m) (hA : A < 2 ^ m) (hb : ¬ A < 2 ^ (m - 1)) : fillN m A (y % m) (y % m) = opN m 12 A y := by
  rw [opN_12, if_neg hb]
  have hN : y % m < m := Nat.mod_lt _ hm
  unfold fillN
  generalize y % m = N at *
  have e3 : 2 ^ m = 2 ^ N * 2 ^ (m - N) := by rw [← Nat.pow_add]; congr 1; omega
  have hs := Nat.mul_sub_div A (2 ^ N) (2 ^ (m - N)) (by rw [← e3]; exact hA)
  rw [← e3] at hs
  have e4 : 2 ^ m - 1 - A = 2 ^ m - (A + 1) := by omega
  rw [e4, hs]
  have h1 : A / 2 ^ N < 2 ^ (m - N) := by
    rw [Nat.div_lt_iff_lt_mul (Nat.two_pow_pos N), ← Nat.pow_add]
    have : m - N + N = m := by omega
    rw [this]; exact hA
  have h3 : 2 ^ (m - N) ≤ 2 ^ m := Nat.pow_le_pow_right (by omega) (by omega)
  clear hs e3 e4
  generalize A / 2 ^ N = q at *
  omega
end Go.Proofs.Ytilbfnnncmjmfaa
