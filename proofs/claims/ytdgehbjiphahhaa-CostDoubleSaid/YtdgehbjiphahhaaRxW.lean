/-
  Words on numbers of all kinds, for runs with letters. Nothing of the program stands here.
-/
import Derived.Test.YtdgehbjiphahhaaRxE
namespace Go.Proofs.Ytdgehbjiphahhaa
open Go.RowKit
set_option linter.unusedVariables false
set_option linter.unusedSimpArgs false
theorem gu_wrap {k : IntKind} {n : Nat} (hb : k.bits = n) (hs : k.signed = false) (z : Int) : k.wrap z = nn (BitVec.ofInt n z) := by
  unfold IntKind.wrap nn
  rw [BitVec.toNat_ofInt, hb]
  simp only [hs, Bool.false_and, Bool.false_eq_true, if_false]
  have : (0 : Int) ≤ z % 2 ^ n := Int.emod_nonneg _ (by have : (0 : Int) < 2 ^ n := Int.pow_pos (by decide); omega)
  have e : ((2 ^ n : Nat) : Int) = 2 ^ n := by simp
  rw [e]; omega
theorem ofi_nn {n : Nat} (a : BitVec n) : BitVec.ofInt n (nn a) = a := by unfold nn; rw [BitVec.ofInt_natCast, BitVec.ofNat_toNat, BitVec.setWidth_eq]
theorem ofi_nat {n : Nat} (a : BitVec n) : BitVec.ofInt n (a.toNat : Int) = a := ofi_nn a
theorem u8_and (a b : BitVec 8) : bits .and .u8 (nn a) (nn b) = nn (a &&& b) := by
  show IntKind.u8.wrap ((BitVec.ofInt 8 (nn a) &&& BitVec.ofInt 8 (nn b)).toNat : Int) = _
  rw [ofi_nn, ofi_nn, gu_wrap (k := .u8) (n := 8) rfl rfl, ofi_nat]
theorem u8_shr (P : Program) (T : TypeId) (xo yo : Operand) (x : BitVec 8) (n : Nat) (yk : IntKind) {y : Int} (hy : y = (n : Int)) (w : World) :
    (Q.bin .shr T xo yo (.int .u8 (nn x)) (.int yk y)).sem.run P w = .ok (.value (.int .u8 (nn (x >>> n)))) w := by
  subst hy
  rw [run_shift P .shr (.inr rfl) T xo yo .u8 yk _ _ (by omega) w, if_neg (by decide), Int.toNat_natCast]
  rw [show IntKind.u8.bits = 8 from rfl]
  congr 3
  unfold nn
  rw [BitVec.toNat_ushiftRight, Nat.shiftRight_eq_div_pow]
  have hx := x.isLt
  by_cases h : n ≤ 8
  · rw [Nat.min_eq_left h]
    have e : (2 : Int) ^ n = ((2 ^ n : Nat) : Int) := by simp
    rw [e, Int.fdiv_eq_ediv_of_nonneg _ (Int.natCast_nonneg _), ← Int.natCast_ediv]
  · rw [Nat.min_eq_right (by omega)]
    have e : x.toNat / 2 ^ n = 0 := Nat.div_eq_of_lt (Nat.lt_of_lt_of_le hx (Nat.pow_le_pow_right (by omega) (by omega)))
    rw [e, Int.fdiv_eq_ediv_of_nonneg _ (by omega)]
    try omega
end Go.Proofs.Ytdgehbjiphahhaa

