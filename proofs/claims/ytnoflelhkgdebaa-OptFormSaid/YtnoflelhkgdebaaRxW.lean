/-
  Words on numbers of all kinds, for runs with letters. Nothing of the program stands here.
-/
import Derived.Test.YtnoflelhkgdebaaRxE
namespace Go.Proofs.Ytnoflelhkgdebaa
open Go.RowKit
set_option linter.unusedVariables false
set_option linter.unusedSimpArgs false
theorem gu_wrap {k : IntKind} {n : Nat} (hb : k.bits = n) (hs : k.signed = false) (z : Int) : k.wrap z = nn (BitVec.ofInt n z) := by
  unfold IntKind.wrap nn
  rw [BitVec.toNat_ofInt, hb]
  simp only [hs, Bool.false_and, Bool.false_eq_true, if_false]
  have : (0 : Int) ≤ z % 2 ^ n := Int.emod_nonneg _ (by have : (0 : Int) < 2 ^ n := Int.pow_pos (by decide); omega)
  have e : ((2 ^ n : Nat) : Int) = 2 ^ n := by simp
  rw [e]; omega
theorem gs_wrap {k : IntKind} {n : Nat} (hb : k.bits = n + 1) (hs : k.signed = true) (z : Int) : k.wrap z = ii (BitVec.ofInt (n + 1) z) := by
  unfold IntKind.wrap ii
  rw [BitVec.toInt_ofInt, hb, hs]
  simp only [Bool.true_and, Int.bmod, ge_iff_le, decide_eq_true_eq, Nat.add_sub_cancel]
  have e : ((2 ^ (n + 1) : Nat) : Int) = 2 ^ (n + 1) := by simp
  have e1 : (2 : Int) ^ (n + 1) = 2 * 2 ^ n := by rw [Int.pow_succ]; omega
  rw [e, e1]
  generalize (2 : Int) ^ n = q
  split <;> split <;> omega
theorem ofi_nn {n : Nat} (a : BitVec n) : BitVec.ofInt n (nn a) = a := by unfold nn; rw [BitVec.ofInt_natCast, BitVec.ofNat_toNat, BitVec.setWidth_eq]
theorem ofi_nat {n : Nat} (a : BitVec n) : BitVec.ofInt n (a.toNat : Int) = a := ofi_nn a
theorem u8_and (a b : BitVec 8) : bits .and .u8 (nn a) (nn b) = nn (a &&& b) := by
  show IntKind.u8.wrap ((BitVec.ofInt 8 (nn a) &&& BitVec.ofInt 8 (nn b)).toNat : Int) = _
  rw [ofi_nn, ofi_nn, gu_wrap (k := .u8) (n := 8) rfl rfl, ofi_nat]
theorem u8_sub (a b : BitVec 8) : IntKind.u8.wrap (nn a - nn b) = nn (a - b) := by
  rw [gu_wrap (k := .u8) (n := 8) rfl rfl, Int.sub_eq_add_neg, BitVec.ofInt_add, BitVec.ofInt_neg, ofi_nn, ofi_nn, ← BitVec.sub_eq_add_neg]
theorem i16_of_z (z : Int) : IntKind.i16.wrap z = ii (BitVec.ofInt 16 z) := gs_wrap (k := .i16) (n := 15) rfl rfl z
theorem i32_of_z (z : Int) : IntKind.i32.wrap z = ii (BitVec.ofInt 32 z) := gs_wrap (k := .i32) (n := 31) rfl rfl z
theorem u8_shr (P : Program) (T : TypeId) (xo yo : Operand) (x : BitVec 8) (n : Nat) (yk : IntKind) {y : Int} (hy : y = (n : Int)) (w : World) :
    (Q.bin .shr T xo yo (.int .u8 (nn x)) (.int yk y)).sem.run P w = .ok (.value (.int .u8 (nn (x >>> n)))) w := by
  subst hy
  rw [run_shift P .shr (.inr rfl) T xo yo .u8 yk _ _ (by omega) w, if_neg (by decide), Int.toNat_natCast]
  rw [show IntKind.u8.bits = 8 from rfl]
  congr 3
  unfold nn
  rw [BitVec.toNat_ushiftRight, Nat.shiftRight_eq_div_pow]
  have hx := x.isLt
  by_cases h : n ≤ 8
  · rw [Nat.min_eq_left h]
    have e : (2 : Int) ^ n = ((2 ^ n : Nat) : Int) := by simp
    rw [e, Int.fdiv_eq_ediv_of_nonneg _ (Int.natCast_nonneg _), ← Int.natCast_ediv]
  · rw [Nat.min_eq_right (by omega)]
    have e : x.toNat / 2 ^ n = 0 := Nat.div_eq_of_lt (Nat.lt_of_lt_of_le hx (Nat.pow_le_pow_right (by omega) (by omega)))
    rw [e, Int.fdiv_eq_ediv_of_nonneg _ (by omega)]
    try omega
theorem u8_div (P : Program) (op : BinOp) (ho : op = .quo ∨ op = .rem) (T : TypeId) (xo yo : Operand) (x y : BitVec 8) (hy : y ≠ 0#8) (w : World) :
    (Q.bin op T xo yo (.int .u8 (nn x)) (.int .u8 (nn y))).sem.run P w = .ok (.value (.int .u8 (nn (if op = .quo then x / y else x % y)))) w := by
  have hn : ¬ nn y = 0 := by
    unfold nn
    intro h
    exact hy (BitVec.eq_of_toNat_eq (by simpa using h))
  have h1 : IntKind.u8.wrap ((nn x).tdiv (nn y)) = nn (x / y) := by
    rw [gu_wrap (k := .u8) (n := 8) rfl rfl, ← ofi_nn (x / y)]
    apply congrArg
    unfold nn
    rw [BitVec.toNat_udiv, Int.tdiv_eq_ediv_of_nonneg (by omega), ← Int.natCast_ediv]
  have h2 : (nn x).tmod (nn y) = nn (x % y) := by
    unfold nn
    rw [BitVec.toNat_umod, Int.tmod_eq_emod_of_nonneg (by omega), ← Int.natCast_emod]
  rcases ho with rfl | rfl <;> simp [Q.sem, eqGuard, binOp, Op.intDiv, hn, Sem.run, h1, h2, -Int.natCast_emod]
theorem u8_quo (P : Program) (T : TypeId) (xo yo : Operand) (x y : BitVec 8) (hy : y ≠ 0#8) (w : World) :
    (Q.bin .quo T xo yo (.int .u8 (nn x)) (.int .u8 (nn y))).sem.run P w = .ok (.value (.int .u8 (nn (x / y)))) w := by
  rw [u8_div P .quo (.inl rfl) T xo yo x y hy w, if_pos rfl]
theorem u8_rem (P : Program) (T : TypeId) (xo yo : Operand) (x y : BitVec 8) (hy : y ≠ 0#8) (w : World) :
    (Q.bin .rem T xo yo (.int .u8 (nn x)) (.int .u8 (nn y))).sem.run P w = .ok (.value (.int .u8 (nn (x % y)))) w := by
  rw [u8_div P .rem (.inr rfl) T xo yo x y hy w, if_neg (by decide)]
end Go.Proofs.Ytnoflelhkgdebaa

