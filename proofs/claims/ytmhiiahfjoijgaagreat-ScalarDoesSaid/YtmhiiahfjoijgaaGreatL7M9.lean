/-
  Rests of scalars keep all numbers; shifts by a known number do.
-/
import Derived.Test.YtmhiiahfjoijgaaGreatL7M8
namespace Go.Proofs.YtmhiiahfjoijgaaGreat
open Go.RowKit
set_option linter.unusedVariables false
set_option linter.unusedSimpArgs false
/-- A rest of words, the number itself where the divisor is 0. -/
def re (x y : BitVec 64) : BitVec 64 := bif y == 0#64 then x else x % y
theorem re_n (x y : BitVec 64) : (re x y).toNat = if y.toNat = 0 then x.toNat else x.toNat % y.toNat := by
  unfold re
  have hz : (y == 0#64) = decide (y.toNat = 0) := by rw [Bool.eq_iff_iff, beq_iff_eq, decide_eq_true_eq, BitVec.toNat_eq]; rfl
  rw [hz]
  by_cases c : y.toNat = 0
  · simp [c]
  · simp [c, BitVec.toNat_umod]
/-- A number that has no bit in common with the one ahead of it is a power of two. -/
theorem pow_of_and {d : Nat} (h0 : d ≠ 0) (h : d &&& (d - 1) = 0) : ∃ k, d = 2 ^ k := by
  refine ⟨d.log2, ?_⟩
  have h1 := Nat.log2_self_le h0
  have h2 := Nat.lt_log2_self (n := d)
  rw [Nat.pow_succ] at h2
  by_cases e : d = 2 ^ d.log2
  · exact e
  · exfalso
    have h3 : 2 ^ d.log2 ≤ d - 1 := by omega
    have b1 : d.testBit d.log2 = true := by
      rw [Nat.testBit_eq_decide_div_mod_eq]
      have : d / 2 ^ d.log2 = 1 := by
        have a1 : d / 2 ^ d.log2 < 2 := (Nat.div_lt_iff_lt_mul (Nat.two_pow_pos _)).2 (by omega)
        have a2 : 1 ≤ d / 2 ^ d.log2 := (Nat.le_div_iff_mul_le (Nat.two_pow_pos _)).2 (by omega)
        omega
      rw [this]; rfl
    have b2 : (d - 1).testBit d.log2 = true := by
      rw [Nat.testBit_eq_decide_div_mod_eq]
      have : (d - 1) / 2 ^ d.log2 = 1 := by
        have a1 : (d - 1) / 2 ^ d.log2 < 2 := (Nat.div_lt_iff_lt_mul (Nat.two_pow_pos _)).2 (by omega)
        have a2 : 1 ≤ (d - 1) / 2 ^ d.log2 := (Nat.le_div_iff_mul_le (Nat.two_pow_pos _)).2 (by omega)
        omega
      rw [this]; rfl
    have : (d &&& (d - 1)).testBit d.log2 = true := by rw [Nat.testBit_and, b1, b2]; rfl
    rw [h] at this
    simp at this
section
variable {a b : S} {w x y : BitVec 64}
theorem pick_hs {c : Bool} {f g : S} {z : BitVec 64} (h1 : c = true → hs f z ∧ isS f) (h2 : c = false → hs g z ∧ isS g) : hs (bif c then f else g) z ∧ isS (bif c then f else g) := by
  cases c
  · exact h2 rfl
  · exact h1 rfl
theorem op_mod (ia : isS a) (hx : hs a x) (hy : hs b y) : hs (m_scalar_operands_mod ⟨a, b, w⟩) (re x y) ∧ isS (m_scalar_operands_mod ⟨a, b, w⟩) := by
  have h1 := hx.2.1
  have h2 := hx.2.2.1
  have h3 := hy.2.1
  have h4 := hy.2.2.1
  have hd := re_n x y
  have z0 : ∀ u : BitVec 64, (u == 0#64) = decide (u.toNat = 0) := fun u => by rw [Bool.eq_iff_iff, beq_iff_eq, decide_eq_true_eq, BitVec.toNat_eq]; rfl
  have bt : ∀ m : BitVec 64, (re x y).toNat ≤ m.toNat → hs (m_scalar_Between 0#64 m) (re x y) ∧ isS (m_scalar_Between 0#64 m) := fun m h => ⟨(between_has (u0 _)).2 ⟨u0 _, h⟩, between_is _ _⟩
  have lx : (re x y).toNat ≤ x.toNat := by rw [hd]; split; exact Nat.le_refl _; exact Nat.mod_le _ _
  unfold m_scalar_operands_mod
  dsimp only
  rw [z0, z0, ult_iff]
  refine pick_hs (fun c => ?_) (fun c1 => pick_hs (fun c => ?_) (fun c2 => pick_hs (fun c => ?_) (fun c3 => pick_hs (fun c => pick_hs (fun c' => ?_) (fun _ => ?_)) (fun _ => ?_))))
  · have c := of_decide_eq_true c
    have : re x y = x := BitVec.eq_of_toNat_eq (by rw [hd, if_pos (by omega)])
    rw [this]; exact ⟨hx, ia⟩
  · have c := of_decide_eq_true c
    have : re x y = x := BitVec.eq_of_toNat_eq (by rw [hd, if_neg (by omega), Nat.mod_eq_of_lt (by omega)])
    rw [this]; exact ⟨hx, ia⟩
  · exact bt _ (by omega)
  · have c3 := of_decide_eq_false c3
    have e : b.umin = b.umax := eq_of_beq c
    have ey : y = b.umin := BitVec.eq_of_toNat_eq (by rw [← e] at h4; omega)
    have hne : ¬ y.toNat = 0 := by rw [ey]; exact c3
    have hp : y.toNat &&& (y.toNat - 1) = 0 := by
      have k := congrArg BitVec.toNat (eq_of_beq c')
      rw [← ey, BitVec.toNat_and, sub_n] at k
      have := y.isLt
      rw [show (y.toNat + 18446744073709551616 - (1#64).toNat) % 18446744073709551616 = y.toNat - 1 from by show (y.toNat + 18446744073709551616 - 1) % _ = _; omega] at k
      exact k
    obtain ⟨k, hk⟩ := pow_of_and hne hp
    have er : re x y = x &&& (b.umin - 1#64) := by
      apply BitVec.eq_of_toNat_eq
      rw [hd, if_neg hne, hk, and_mod x k]
      rw [← ey, sub_n, ← hk]
      have := y.isLt
      show (y.toNat + 18446744073709551616 - 1) % _ = _
      omega
    rw [er]
    have := op_and (a := a) (b := K (b.umin - 1#64)) (w := w) hx (hs_K.2 rfl)
    exact ⟨this.1, this.2.1⟩
  · refine bt _ ?_
    have c1 := of_decide_eq_false c1
    have c3 := of_decide_eq_false c3
    have hne : ¬ y.toNat = 0 := by omega
    have lt : x.toNat % y.toNat < y.toNat := Nat.mod_lt _ (by omega)
    rw [if_neg hne] at hd
    have : (b.umax - 1#64).toNat = b.umax.toNat - 1 := by rw [sub_n]; have := b.umax.isLt; show (_ + 18446744073709551616 - 1) % _ = _; omega
    rw [uMin_n, this]
    omega
  · refine bt _ ?_
    have c1 := of_decide_eq_false c1
    have c3 := of_decide_eq_false c3
    have hne : ¬ y.toNat = 0 := by omega
    have lt : x.toNat % y.toNat < y.toNat := Nat.mod_lt _ (by omega)
    rw [if_neg hne] at hd
    have : (b.umax - 1#64).toNat = b.umax.toNat - 1 := by rw [sub_n]; have := b.umax.isLt; show (_ + 18446744073709551616 - 1) % _ = _; omega
    rw [uMin_n, this]
    omega
end
end Go.Proofs.YtmhiiahfjoijgaaGreat
