/-
  Products of scalars, numbers of 32 bits with their sign's bit above: no number is lost.
-/
import Derived.Test.YtmhiiahfjoijgaaGreatL7MB
namespace Go.Proofs.YtmhiiahfjoijgaaGreat
open Go.RowKit
set_option linter.unusedVariables false
set_option linter.unusedSimpArgs false
/-- The upper word of a product is 0 just where the product is a word. -/
theorem mul_hi {x y : BitVec 64} (h : ((m_math_bits_Mul64 x y).1 == 0#64) = true) : x.toNat * y.toNat < 18446744073709551616 := by
  have e := congrArg BitVec.toNat (eq_of_beq h)
  unfold m_math_bits_Mul64 at e
  dsimp only at e
  have sh : ∀ u : BitVec 64, (u >>> 32).toNat = u.toNat / 4294967296 := fun u => by rw [BitVec.toNat_ushiftRight, Nat.shiftRight_eq_div_pow]
  have an : ∀ u : BitVec 64, (u &&& 4294967295#64).toNat = u.toNat % 4294967296 := fun u => and_mod u 32 _ (by decide)
  have mu : ∀ u v : BitVec 64, (u * v).toNat = u.toNat * v.toNat % 18446744073709551616 := fun u v => BitVec.toNat_mul ..
  simp only [add_n, sh, an, mu] at e
  have hx := x.isLt
  have hy := y.isLt
  have ex := Nat.div_add_mod x.toNat 4294967296
  have ey := Nat.div_add_mod y.toNat 4294967296
  have a1 : x.toNat / 4294967296 ≤ 4294967295 := by omega
  have a2 : x.toNat % 4294967296 ≤ 4294967295 := by omega
  have a3 : y.toNat / 4294967296 ≤ 4294967295 := by omega
  have a4 : y.toNat % 4294967296 ≤ 4294967295 := by omega
  generalize x.toNat / 4294967296 = x1 at *
  generalize x.toNat % 4294967296 = x0 at *
  generalize y.toNat / 4294967296 = y1 at *
  generalize y.toNat % 4294967296 = y0 at *
  have p11 : x1 * y1 ≤ 4294967295 * 4294967295 := Nat.mul_le_mul a1 a3
  have p10 : x1 * y0 ≤ 4294967295 * 4294967295 := Nat.mul_le_mul a1 a4
  have p01 : x0 * y1 ≤ 4294967295 * 4294967295 := Nat.mul_le_mul a2 a3
  have p00 : x0 * y0 ≤ 4294967295 * 4294967295 := Nat.mul_le_mul a2 a4
  rw [← ex, ← ey]
  have exp : (4294967296 * x1 + x0) * (4294967296 * y1 + y0) = 18446744073709551616 * (x1 * y1) + 4294967296 * (x1 * y0 + x0 * y1) + x0 * y0 := by
    simp only [Nat.add_mul, Nat.mul_add]
    have q1 : 4294967296 * x1 * (4294967296 * y1) = 18446744073709551616 * (x1 * y1) := by
      rw [Nat.mul_assoc, Nat.mul_left_comm x1, ← Nat.mul_assoc]
    have q2 : 4294967296 * x1 * y0 = 4294967296 * (x1 * y0) := Nat.mul_assoc ..
    have q3 : x0 * (4294967296 * y1) = 4294967296 * (x0 * y1) := Nat.mul_left_comm ..
    omega
  rw [exp]
  generalize x1 * y1 = A at *
  generalize x1 * y0 = B at *
  generalize x0 * y1 = C at *
  generalize x0 * y0 = D at *
  have z : (0#64).toNat = 0 := rfl
  rw [z] at e
  clear ex ey exp hx hy h
  omega
theorem tmul_pair (a b : T) : True := trivial
section
variable {a b c : S} {w x y : BitVec 64}
theorem mul_ends (hx : hs a x) (hy : hs b y) (h : ((m_math_bits_Mul64 a.umax b.umax).1 == 0#64) = true) : (a.umin * b.umin).toNat ≤ (x * y).toNat ∧ (x * y).toNat ≤ (a.umax * b.umax).toNat := by
  have k := mul_hi h
  have mu : ∀ u v : BitVec 64, u.toNat ≤ a.umax.toNat → v.toNat ≤ b.umax.toNat → (u * v).toNat = u.toNat * v.toNat := fun u v h1 h2 => by
    rw [BitVec.toNat_mul]
    exact Nat.mod_eq_of_lt (Nat.lt_of_le_of_lt (Nat.mul_le_mul h1 h2) k)
  have h1 := hx.2.1
  have h2 := hx.2.2.1
  have h3 := hy.2.1
  have h4 := hy.2.2.1
  rw [mu _ _ (by omega) (by omega), mu _ _ h2 h4, mu _ _ (Nat.le_refl _) (Nat.le_refl _)]
  exact ⟨Nat.mul_le_mul h1 h3, Nat.mul_le_mul h2 h4⟩
/-! ### With the sign's bit above -/
def sx (x : BitVec 64) : BitVec 64 := (x.setWidth 32).signExtend 64
theorem sx_eq (x : BitVec 64) : (x <<< 32).sshiftRight 32 = sx x := by
  apply bit_ext
  intro i hi
  unfold sx
  rw [sar_bit _ _ _ hi, BitVec.getLsbD_signExtend, BitVec.getLsbD_shiftLeft, BitVec.msb_eq_getLsbD_last]
  simp only [hi, decide_true, Bool.true_and, BitVec.getLsbD_setWidth]
  by_cases h : i < 32
  · have h1 : 32 + i < 64 := by omega
    have h2 : 32 + i - 32 = i := by omega
    simp [h, h1, h2]
  · have h1 : ¬ 32 + i < 64 := by omega
    simp [h, h1]
theorem sx_int (x : BitVec 64) : (sx x).toInt = if x.toNat % 4294967296 < 2147483648 then ((x.toNat % 4294967296 : Nat) : Int) else ((x.toNat % 4294967296 : Nat) : Int) - 4294967296 := by
  unfold sx
  rw [BitVec.toInt_signExtend_of_le (by decide), BitVec.toInt_eq_toNat_cond, BitVec.toNat_setWidth]
  show (if 2 * (x.toNat % 2 ^ 32) < 2 ^ 32 then _ else _) = _
  have : (2 : Nat) ^ 32 = 4294967296 := by decide
  rw [this]
  split <;> split <;> first | rfl | omega
theorem ext_has (hx : hs a x) : hs (m_scalar_extend a) (sx x) ∧ isS (m_scalar_extend a) := by
  have t : has (m_tnum_Arsh (m_tnum_Lsh a.t 32#64) 32#64 true) (sx x) := by
    rw [← sx_eq]
    have h1 : has (m_tnum_Lsh a.t 32#64) (x <<< 32) := by
      unfold m_tnum_Lsh
      rw [kn_eq, kn_wf hx.1.1]; exact shl_has hx.1 32
    unfold m_tnum_Arsh
    rw [cond_true, kn_eq, kn_wf h1.1]
    exact sar_has h1 32
  have c3 := sx_int x
  have h1 := hx.2.1
  have h2 := hx.2.2.1
  unfold m_scalar_extend
  refine pick_hs (fun c => ?_) (fun _ => ?_)
  · refine settle_keep (mk_hs t (u0 _) (uM _) ?_ ?_)
    all_goals
      have e := congrArg BitVec.toNat (eq_of_beq c)
      rw [BitVec.toNat_ushiftRight, BitVec.toNat_ushiftRight, Nat.shiftRight_eq_div_pow, Nat.shiftRight_eq_div_pow] at e
      have c1 := sx_int a.umin
      have c2 := sx_int a.umax
      unfold sx at c1 c2 c3 ⊢
      split at c1 <;> split at c2 <;> split at c3 <;> omega
  · refine settle_keep (mk_hs t (u0 _) (uM _) ?_ ?_)
    · rw [show (18446744071562067968#64).toInt = -2147483648 from by decide, c3]; split <;> omega
    · rw [show (2147483647#64).toInt = 2147483647 from by decide, c3]; split <;> omega
theorem op_arsh64 (hx : hs a x) (hy : hs b y) : hs (m_scalar_operands_arsh ⟨a, b, 64#64⟩) (x.sshiftRight (y &&& (64#64 - 1#64)).toNat) ∧ isS (m_scalar_operands_arsh ⟨a, b, 64#64⟩) :=
  sh_signed (k := 6) (.inl ⟨rfl, rfl⟩) hx hy
theorem op_arsh32 (hx : hs a x) (hy : hs b y) : hs (m_scalar_operands_arsh ⟨a, b, 32#64⟩) ((sx x).sshiftRight (y &&& (32#64 - 1#64)).toNat) ∧ isS (m_scalar_operands_arsh ⟨a, b, 32#64⟩) :=
  sh_signed (k := 5) (.inr ⟨rfl, rfl⟩) (ext_has hx).1 hy
end
end Go.Proofs.YtmhiiahfjoijgaaGreat
