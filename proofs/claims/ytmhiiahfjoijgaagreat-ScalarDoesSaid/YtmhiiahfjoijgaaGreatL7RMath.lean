/-
  Which bits are unlike in a range of numbers. Nothing of the program stands here.
-/
import Derived.Test.YtmhiiahfjoijgaaGreatL7H
import Derived.Lib.ItoaNum
namespace Go.Proofs.YtmhiiahfjoijgaaGreat
set_option linter.unusedVariables false
set_option linter.unusedSimpArgs false
/-- Nat: highest differing bit. x < y, L bits of xor. -/
theorem split_lt (x y L : Nat) (hxy : x < y) (h1 : x ^^^ y < 2 ^ (L + 1)) (h2 : 2 ^ L ≤ x ^^^ y) :
    x / 2 ^ (L + 1) = y / 2 ^ (L + 1) ∧ x.testBit L = false ∧ y.testBit L = true := by
  have hq : (x ^^^ y) / 2 ^ (L + 1) = 0 := Nat.div_eq_of_lt h1
  have e : x / 2 ^ (L + 1) = y / 2 ^ (L + 1) := by
    have : (x / 2 ^ (L + 1)) ^^^ (y / 2 ^ (L + 1)) = 0 := by
      rw [← Nat.shiftRight_eq_div_pow, ← Nat.shiftRight_eq_div_pow, ← Nat.shiftRight_xor_distrib, Nat.shiftRight_eq_div_pow]; exact hq
    exact (by have h := this; have := congrArg (fun z => (x / 2 ^ (L + 1)) ^^^ z) h; simpa [← Nat.xor_assoc] using this.symm)
  have hb : (x ^^^ y).testBit L = true := by
    rw [Nat.testBit_eq_decide_div_mod_eq]
    have : (x ^^^ y) / 2 ^ L = 1 := by
      apply Nat.div_eq_of_lt_le <;> rw [Nat.pow_succ] at h1 <;> omega
    rw [this]; rfl
  rw [Nat.testBit_xor] at hb
  have dx := Nat.div_add_mod x (2 ^ (L + 1))
  have dy := Nat.div_add_mod y (2 ^ (L + 1))
  have bx : x.testBit L = decide (2 ^ L ≤ x % 2 ^ (L + 1)) := by
    rw [Nat.testBit_eq_decide_div_mod_eq, Bool.eq_iff_iff]
    simp only [decide_eq_true_eq]
    rw [Nat.pow_succ, Nat.mod_mul]
    have := Nat.mod_lt x (Nat.two_pow_pos L)
    have := Nat.mod_lt (x / 2 ^ L) (by decide : 0 < 2)
    rcases Nat.mod_two_eq_zero_or_one (x / 2 ^ L) with h | h <;> rw [h] <;> simp <;> omega
  have by' : y.testBit L = decide (2 ^ L ≤ y % 2 ^ (L + 1)) := by
    rw [Nat.testBit_eq_decide_div_mod_eq, Bool.eq_iff_iff]
    simp only [decide_eq_true_eq]
    rw [Nat.pow_succ, Nat.mod_mul]
    have := Nat.mod_lt y (Nat.two_pow_pos L)
    rcases Nat.mod_two_eq_zero_or_one (y / 2 ^ L) with h | h <;> rw [h] <;> simp <;> omega
  rw [e] at dx
  have hm : x % 2 ^ (L + 1) < y % 2 ^ (L + 1) := by omega
  rw [bx, by'] at hb ⊢
  refine ⟨e, ?_⟩
  by_cases h3 : 2 ^ L ≤ x % 2 ^ (L + 1) <;> by_cases h4 : 2 ^ L ≤ y % 2 ^ (L + 1) <;> simp [h3, h4] at hb ⊢
  omega

theorem bits_above (x v n : Nat) (h : x / 2 ^ n = v / 2 ^ n) (i : Nat) (hi : n ≤ i) : v.testBit i = x.testBit i := by
  obtain ⟨k, rfl⟩ : ∃ k, i = n + k := ⟨i - n, by omega⟩
  have e : ∀ z : Nat, z.testBit (n + k) = (z / 2 ^ n).testBit k := by
    intro z
    rw [Nat.testBit_eq_decide_div_mod_eq, Nat.testBit_eq_decide_div_mod_eq, Nat.div_div_eq_div_mul, ← Nat.pow_add]
  rw [e, e, h]
theorem range_bits (x y B : Nat) (hxy : x ≤ y) (h1 : x ^^^ y < 2 ^ B) (h2 : B = 0 ∨ 2 ^ (B - 1) ≤ x ^^^ y) (i : Nat) :
    (∃ v, x ≤ v ∧ v ≤ y ∧ (v ^^^ x).testBit i = true) ↔ i < B := by
  by_cases hB : B = 0
  · subst hB
    have h0 : x ^^^ y = 0 := by simpa using h1
    have : x = y := by
      have := congrArg (fun z => x ^^^ z) h0
      simpa [← Nat.xor_assoc] using this.symm
    subst this
    constructor
    · rintro ⟨v, a, b, c⟩
      obtain rfl : v = x := by omega
      simp at c
    · intro h; omega
  · obtain ⟨L, rfl⟩ : ∃ L, B = L + 1 := ⟨B - 1, by omega⟩
    have h2 : 2 ^ L ≤ x ^^^ y := by rcases h2 with h | h; omega; simpa using h
    have hne : x ≠ y := by intro h; subst h; have := Nat.two_pow_pos L; simp at h2
    obtain ⟨e, bx, by'⟩ := split_lt x y L (by omega) h1 h2
    constructor
    · rintro ⟨v, a, b, c⟩
      rcases Nat.lt_or_ge i (L + 1) with h | h
      · exact h
      · exfalso
        have h3 := Nat.div_le_div_right (c := 2 ^ (L + 1)) a
        have h4 := Nat.div_le_div_right (c := 2 ^ (L + 1)) b
        have h5 : x / 2 ^ (L + 1) = v / 2 ^ (L + 1) := by omega
        rw [Nat.testBit_xor, bits_above x v (L + 1) h5 i h] at c
        simp at c
    · intro h
      have pL := Nat.two_pow_pos L
      -- mid: y with its lowest L bits 0
      have dy := Nat.div_add_mod y (2 ^ L)
      have my := Nat.mod_lt y pL
      have dx := Nat.div_add_mod x (2 ^ L)
      have mx := Nat.mod_lt x pL
      have hyx : x / 2 ^ L + 1 ≤ y / 2 ^ L := by
        have o1 : x / 2 ^ L % 2 = 0 := by
          rw [Nat.testBit_eq_decide_div_mod_eq] at bx
          have := Nat.mod_two_eq_zero_or_one (x / 2 ^ L)
          simp at bx; omega
        have o2 : y / 2 ^ L % 2 = 1 := by
          rw [Nat.testBit_eq_decide_div_mod_eq] at by'
          simpa using by'
        have := Nat.div_le_div_right (c := 2 ^ L) hxy
        omega
      have hm : 2 ^ L * (x / 2 ^ L) + 2 ^ L ≤ 2 ^ L * (y / 2 ^ L) := by
        have := Nat.mul_le_mul_left (2 ^ L) hyx
        rw [Nat.mul_add, Nat.mul_one] at this
        exact this
      generalize hq : y / 2 ^ L = q at *
      have q1 : 1 ≤ q := Nat.le_trans (Nat.le_add_left 1 _) hyx
      rcases Nat.lt_or_ge i L with hi | hi
      · have b0 : (2 ^ L * q).testBit i = false := by
          rw [Nat.testBit_two_pow_mul]; simp; omega
        have b1 : (2 ^ L * q - 1).testBit i = true := by
          have e1 : 2 ^ L * q - 1 = 2 ^ L * (q - 1) + (2 ^ L - 1) := by
            have : 2 ^ L * q = 2 ^ L * (q - 1) + 2 ^ L := by
              rw [← Nat.mul_succ]; congr 1; omega
            omega
          rw [e1, Nat.testBit_two_pow_mul_add _ (by omega), if_pos hi, Nat.testBit_two_pow_sub_one]
          simpa using hi
        cases hx : x.testBit i
        · exact ⟨2 ^ L * q - 1, by omega, by omega, by rw [Nat.testBit_xor, b1, hx]; rfl⟩
        · exact ⟨2 ^ L * q, by omega, by omega, by rw [Nat.testBit_xor, b0, hx]; rfl⟩
      · obtain rfl : i = L := by omega
        exact ⟨y, by omega, by omega, by rw [Nat.testBit_xor, bx, by']; rfl⟩

theorem blen_spec (z : BitVec 64) : z.toNat < 2 ^ blen z ∧ (blen z = 0 ∨ 2 ^ (blen z - 1) ≤ z.toNat) := by
  unfold blen Lib.bitLen
  by_cases h0 : z.toNat = 0
  · rw [h0, Lib.bitLenAux_zero]; exact ⟨by decide, Or.inl rfl⟩
  · obtain ⟨h1, h2, h3⟩ := Lib.bitLenAux_bounds 64 z.toNat z.isLt h0
    exact ⟨h3, Or.inr h2⟩
end Go.Proofs.YtmhiiahfjoijgaaGreat
