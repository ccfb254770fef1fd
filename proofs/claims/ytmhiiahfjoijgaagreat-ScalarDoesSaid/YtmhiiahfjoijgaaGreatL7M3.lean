/-
  The greatest number of a tnum up to another number, and the least one from it on.
-/
import Derived.Test.YtmhiiahfjoijgaaGreatL7M2
namespace Go.Proofs.YtmhiiahfjoijgaaGreat
open Go.RowKit
set_option linter.unusedVariables false
set_option linter.unusedSimpArgs false
/-- n's bits above bit l, none at it, those of most below it. -/
def R (most n l : Nat) : Nat := n / 2 ^ (l + 1) * 2 ^ (l + 1) + most % 2 ^ l
theorem bit_div (x i : Nat) : x / 2 ^ i = 2 * (x / 2 ^ (i + 1)) + (x.testBit i).toNat := by
  rw [Nat.pow_succ, ← Nat.div_div_eq_div_mul, Nat.testBit_eq_decide_div_mod_eq]
  have := Nat.div_add_mod (x / 2 ^ i) 2
  by_cases h : x / 2 ^ i % 2 = 1
  · rw [decide_eq_true h]; simp; omega
  · rw [decide_eq_false h]; simp; omega
theorem split_at' (x i : Nat) : x = x / 2 ^ (i + 1) * 2 ^ (i + 1) + (x.testBit i).toNat * 2 ^ i + x % 2 ^ i := by
  have h1 := Nat.div_add_mod x (2 ^ i)
  have h2 := bit_div x i
  have h3 : 2 ^ (i + 1) = 2 * 2 ^ i := by rw [Nat.pow_succ, Nat.mul_comm]
  generalize x / 2 ^ (i + 1) = q at *
  rw [h3]
  generalize 2 ^ i = p at *
  rw [h2] at h1
  rw [Nat.mul_add] at h1
  have e : q * (2 * p) = p * (2 * q) := by rw [Nat.mul_comm q, Nat.mul_assoc, Nat.mul_left_comm]
  rw [e, Nat.mul_comm _ p]
  omega
theorem R_le {most n l : Nat} (h : n.testBit l = true) : R most n l + 1 ≤ n / 2 ^ l * 2 ^ l ∧ R most n l ≤ n := by
  have h1 := bit_div n l
  rw [h] at h1
  have h2 : most % 2 ^ l < 2 ^ l := Nat.mod_lt _ (Nat.two_pow_pos l)
  have h3 : 2 ^ (l + 1) = 2 * 2 ^ l := by rw [Nat.pow_succ, Nat.mul_comm]
  have h4 : n / 2 ^ l * 2 ^ l ≤ n := Nat.div_mul_le_self _ _
  have h5 : R most n l + 1 ≤ n / 2 ^ l * 2 ^ l := by
    unfold R
    rw [h1]
    generalize n / 2 ^ (l + 1) = q
    rw [h3]
    generalize 2 ^ l = p at *
    have : q * (2 * p) = 2 * q * p := by rw [← Nat.mul_assoc, Nat.mul_comm q 2]
    rw [this]
    simp [Nat.add_mul]
    omega
  exact ⟨h5, by omega⟩
theorem R_mono {most n i l : Nat} (h : n.testBit l = true) (hil : i < l) : R most n l ≤ R most n i := by
  have h1 := (R_le (most := most) h).1
  have h2 : n / 2 ^ l * 2 ^ l ≤ n / 2 ^ (i + 1) * 2 ^ (i + 1) := by
    have e : 2 ^ l = 2 ^ (i + 1) * 2 ^ (l - (i + 1)) := by rw [← Nat.pow_add]; congr 1; omega
    rw [e, ← Nat.div_div_eq_div_mul, Nat.mul_comm (2 ^ (i + 1)), ← Nat.mul_assoc]
    exact Nat.mul_le_mul_right _ (Nat.div_mul_le_self _ _)
  unfold R at h1 ⊢
  omega
/-- With the same bits above and none at bit i, a number whose bits below are some of most's is at most R. -/
theorem le_R {most n x i : Nat} (h1 : x / 2 ^ (i + 1) = n / 2 ^ (i + 1)) (h2 : x.testBit i = false) (h3 : x % 2 ^ i ≤ most % 2 ^ i) : x ≤ R most n i := by
  have := split_at' x i
  rw [h2, h1] at this
  unfold R
  simp at this
  omega
theorem same_low {n x i : Nat} (h1 : x / 2 ^ (i + 1) = n / 2 ^ (i + 1)) (h2 : x.testBit i = n.testBit i) : x / 2 ^ i = n / 2 ^ i := by
  rw [bit_div x i, bit_div n i, h1, h2]
theorem above_no {n x i : Nat} (h1 : x / 2 ^ (i + 1) = n / 2 ^ (i + 1)) (h2 : x.testBit i = true) (h3 : n.testBit i = false) (h : x ≤ n) : False := by
  have e1 := bit_div x i
  have e2 := bit_div n i
  rw [h2, h1] at e1
  rw [h3] at e2
  have := Nat.div_le_div_right (c := 2 ^ i) h
  simp at e1 e2
  omega
/-! ### The words' bits -/
theorem bitw (i : Nat) (hi : i < 64) : (1#64 <<< i).toNat = 2 ^ i := by
  rw [BitVec.toNat_shiftLeft, Nat.shiftLeft_eq]
  have : 2 ^ i < 2 ^ 64 := Nat.pow_lt_pow_right (by omega) hi
  simp
  omega
theorem and_bit (x : BitVec 64) (i : Nat) (hi : i < 64) : (x &&& (1#64 <<< i)) = bif x.getLsbD i then 1#64 <<< i else 0#64 := by
  show x &&& BitVec.twoPow 64 i = _
  rw [BitVec.and_twoPow]
  cases x.getLsbD i <;> rfl
theorem sh_ne (i : Nat) (hi : i < 64) : (1#64 <<< i) ≠ 0#64 := fun h => by
  have := congrArg BitVec.toNat h
  rw [bitw i hi] at this
  have h2 := Nat.two_pow_pos i
  have h3 : (0#64).toNat = 0 := rfl
  omega
theorem and_zero_iff (x : BitVec 64) (i : Nat) (hi : i < 64) : ((x &&& (1#64 <<< i)) == 0#64) = !x.getLsbD i := by
  rw [and_bit x i hi]
  cases x.getLsbD i
  · rfl
  · simp [sh_ne i hi]
theorem and_lt_iff (x y : BitVec 64) (i : Nat) (hi : i < 64) : BitVec.ult (x &&& (1#64 <<< i)) (y &&& (1#64 <<< i)) = (!x.getLsbD i && y.getLsbD i) := by
  rw [and_bit x i hi, and_bit y i hi, ult_iff]
  have := Nat.two_pow_pos i
  cases x.getLsbD i <;> cases y.getLsbD i <;> simp only [cond_true, cond_false, bitw i hi] <;> simp [Nat.two_pow_pos]
theorem R_word (n most : BitVec 64) (l : Nat) (hl : l < 64) : ((n &&& ~~~(((1#64 <<< l) <<< 1) - 1#64)) ||| (most &&& ((1#64 <<< l) - 1#64))).toNat = R most.toNat n.toNat l := by
  have e1 : ((1#64 <<< l) <<< 1) = 1#64 <<< (l + 1) := by rw [BitVec.shiftLeft_add]
  rw [e1]
  apply Nat.eq_of_testBit_eq
  intro i
  unfold R
  have hdis : (n.toNat / 2 ^ (l + 1) * 2 ^ (l + 1) + most.toNat % 2 ^ l).testBit i = ((n.toNat / 2 ^ (l + 1) * 2 ^ (l + 1)).testBit i || (most.toNat % 2 ^ l).testBit i) := by
    have hm : most.toNat % 2 ^ l < 2 ^ (l + 1) := by
      have := Nat.mod_lt most.toNat (Nat.two_pow_pos l)
      have : 2 ^ (l + 1) = 2 * 2 ^ l := by rw [Nat.pow_succ, Nat.mul_comm]
      omega
    rw [Nat.mul_comm, Nat.testBit_two_pow_mul_add _ hm]
    rw [Nat.mul_comm, Nat.testBit_mul_two_pow]
    by_cases h : i < l + 1
    · rw [if_pos h]
      have : decide (l + 1 ≤ i) = false := by simp; omega
      simp [this]
    · rw [if_neg h]
      have h1 : decide (l + 1 ≤ i) = true := by simp; omega
      have h2 : (most.toNat % 2 ^ l).testBit i = false := by
        rw [Nat.testBit_mod_two_pow]
        have : decide (i < l) = false := by simp; omega
        rw [this]; rfl
      simp [h1, h2]
  rw [hdis, Nat.testBit_mul_two_pow, Nat.testBit_mod_two_pow, Nat.testBit_div_two_pow]
  by_cases hi : i < 64
  · show ((n &&& ~~~(1#64 <<< (l + 1) - 1#64)) ||| (most &&& (1#64 <<< l - 1#64))).getLsbD i = _
    rw [BitVec.getLsbD_or, BitVec.getLsbD_and, BitVec.getLsbD_and, BitVec.getLsbD_not, mk_bit (l + 1) (by omega) i hi, mk_bit l (by omega) i hi]
    have en : n.getLsbD i = n.toNat.testBit i := rfl
    have em : most.getLsbD i = most.toNat.testBit i := rfl
    rw [en, em]
    have d1 : (decide (i < 64) && !decide (i < l + 1)) = decide (l + 1 ≤ i) := by
      rw [Bool.eq_iff_iff]; simp; omega
    rw [d1]
    by_cases h : l + 1 ≤ i
    · have : i - (l + 1) + (l + 1) = i := by omega
      simp [h, this, Bool.and_comm]
    · simp [h, Bool.and_comm]
  · have h64 : ∀ z : BitVec 64, z.toNat.testBit i = false := fun z => by
      apply Nat.testBit_lt_two_pow
      exact Nat.lt_of_lt_of_le z.isLt (Nat.pow_le_pow_right (by omega) (by omega))
    rw [h64]
    by_cases h : l + 1 ≤ i
    · have : i - (l + 1) + (l + 1) = i := by omega
      have h2 : ¬ i < l := by omega
      simp [h, this, h64, h2]
    · omega
end Go.Proofs.YtmhiiahfjoijgaaGreat
