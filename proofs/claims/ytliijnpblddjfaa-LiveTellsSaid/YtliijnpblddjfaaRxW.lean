/-
  Words on numbers of all kinds, for runs with letters. Nothing of the program stands here.
-/
import Derived.Test.YtliijnpblddjfaaRxE
namespace Go.Proofs.Ytliijnpblddjfaa
open Go.RowKit
set_option linter.unusedVariables false
set_option linter.unusedSimpArgs false
theorem zsF {k : IntKind} {n : Nat} (hb : k.bits = n) (hs : k.signed = false) (z : Int) : k.wrap z = nn (BitVec.ofInt n z) := by
  unfold IntKind.wrap nn
  rw [BitVec.toNat_ofInt, hb]
  simp only [hs, Bool.false_and, Bool.false_eq_true, if_false]
  have : (0 : Int) ≤ z % 2 ^ n := Int.emod_nonneg _ (by have : (0 : Int) < 2 ^ n := Int.pow_pos (by decide); omega)
  have e : ((2 ^ n : Nat) : Int) = 2 ^ n := by simp
  rw [e]; omega
theorem znq {n : Nat} (a : BitVec n) : BitVec.ofInt n (nn a) = a := by unfold nn; rw [BitVec.ofInt_natCast, BitVec.ofNat_toNat, BitVec.setWidth_eq]
theorem zyj {n : Nat} (a : BitVec n) : BitVec.ofInt n (a.toNat : Int) = a := znq a
theorem zpZ (a b : BitVec 8) : bits .and .u8 (nn a) (nn b) = nn (a &&& b) := by
  show IntKind.u8.wrap ((BitVec.ofInt 8 (nn a) &&& BitVec.ofInt 8 (nn b)).toNat : Int) = _
  rw [znq, znq, zsF (k := .u8) (n := 8) rfl rfl, zyj]
theorem zDp (a b : BitVec 8) : IntKind.u8.wrap (nn a - nn b) = nn (a - b) := by
  rw [zsF (k := .u8) (n := 8) rfl rfl, Int.sub_eq_add_neg, BitVec.ofInt_add, BitVec.ofInt_neg, znq, znq, ← BitVec.sub_eq_add_neg]
theorem zsS (a b : BitVec 16) : bits .and .u16 (nn a) (nn b) = nn (a &&& b) := by
  show IntKind.u16.wrap ((BitVec.ofInt 16 (nn a) &&& BitVec.ofInt 16 (nn b)).toNat : Int) = _
  rw [znq, znq, zsF (k := .u16) (n := 16) rfl rfl, zyj]
theorem zml (a b : BitVec 16) : bits .or .u16 (nn a) (nn b) = nn (a ||| b) := by
  show IntKind.u16.wrap ((BitVec.ofInt 16 (nn a) ||| BitVec.ofInt 16 (nn b)).toNat : Int) = _
  rw [znq, znq, zsF (k := .u16) (n := 16) rfl rfl, zyj]
theorem zA3 (a b : BitVec 16) : bits .andNot .u16 (nn a) (nn b) = nn (a &&& ~~~b) := by
  show IntKind.u16.wrap ((BitVec.ofInt 16 (nn a) &&& ~~~BitVec.ofInt 16 (nn b)).toNat : Int) = _
  rw [znq, znq, zsF (k := .u16) (n := 16) rfl rfl, zyj]
theorem zBs (a b : BitVec 16) : IntKind.u16.wrap (nn a - nn b) = nn (a - b) := by
  rw [zsF (k := .u16) (n := 16) rfl rfl, Int.sub_eq_add_neg, BitVec.ofInt_add, BitVec.ofInt_neg, znq, znq, ← BitVec.sub_eq_add_neg]
theorem zDw {n : Nat} (x : BitVec n) (v : Int) (hv : BitVec.ofInt n v = x) (m : Nat) : BitVec.ofInt n (v * 2 ^ (min m n)) = x <<< m := by
  subst hv
  apply BitVec.eq_of_toNat_eq
  rw [BitVec.toNat_shiftLeft, BitVec.toNat_ofInt, BitVec.toNat_ofInt, Nat.shiftLeft_eq]
  have hp : (0 : Int) < ((2 ^ n : Nat) : Int) := by have := Nat.two_pow_pos n; omega
  generalize hq : ((2 ^ n : Nat) : Int) = q at *
  have h0 : 0 ≤ v % q := Int.emod_nonneg _ (by omega)
  by_cases h : m ≤ n
  · rw [Nat.min_eq_left h]
    have e : (((v % q).toNat * 2 ^ m % 2 ^ n : Nat) : Int) = (v % q * 2 ^ m) % q := by
      rw [Int.natCast_emod, Int.natCast_mul, Int.toNat_of_nonneg h0, hq]; simp
    have e2 : (v * 2 ^ m) % q = (v % q * 2 ^ m) % q := by simp [Int.mul_emod]
    rw [e2, ← e]
    exact Int.toNat_natCast _
  · rw [Nat.min_eq_right (by omega)]
    have e1 : 2 ^ m = 2 ^ n * 2 ^ (m - n) := by rw [← Nat.pow_add]; congr 1; omega
    rw [e1, ← Nat.mul_assoc, Nat.mul_right_comm, Nat.mul_mod_left]
    have e2 : (2 : Int) ^ n = q := by rw [← hq]; simp
    rw [e2, Int.mul_emod_left]; rfl
theorem zwY (P : Program) (T : TypeId) (xo yo : Operand) (x : BitVec 8) (n : Nat) (yk : IntKind) {y : Int} (hy : y = (n : Int)) (w : World) :
    (Q.bin .shr T xo yo (.int .u8 (nn x)) (.int yk y)).sem.run P w = .ok (.value (.int .u8 (nn (x >>> n)))) w := by
  subst hy
  rw [zy7 P .shr (.inr rfl) T xo yo .u8 yk _ _ (by omega) w, if_neg (by decide), Int.toNat_natCast]
  rw [show IntKind.u8.bits = 8 from rfl]
  congr 3
  unfold nn
  rw [BitVec.toNat_ushiftRight, Nat.shiftRight_eq_div_pow]
  have hx := x.isLt
  by_cases h : n ≤ 8
  · rw [Nat.min_eq_left h]
    have e : (2 : Int) ^ n = ((2 ^ n : Nat) : Int) := by simp
    rw [e, Int.fdiv_eq_ediv_of_nonneg _ (Int.natCast_nonneg _), ← Int.natCast_ediv]
  · rw [Nat.min_eq_right (by omega)]
    have e : x.toNat / 2 ^ n = 0 := Nat.div_eq_of_lt (Nat.lt_of_lt_of_le hx (Nat.pow_le_pow_right (by omega) (by omega)))
    rw [e, Int.fdiv_eq_ediv_of_nonneg _ (by omega)]
    try omega
theorem zB5 (P : Program) (op : BinOp) (ho : op = .quo ∨ op = .rem) (T : TypeId) (xo yo : Operand) (x y : BitVec 8) (hy : y ≠ 0#8) (w : World) :
    (Q.bin op T xo yo (.int .u8 (nn x)) (.int .u8 (nn y))).sem.run P w = .ok (.value (.int .u8 (nn (if op = .quo then x / y else x % y)))) w := by
  have hn : ¬ nn y = 0 := by
    unfold nn
    intro h
    exact hy (BitVec.eq_of_toNat_eq (by simpa using h))
  have h1 : IntKind.u8.wrap ((nn x).tdiv (nn y)) = nn (x / y) := by
    rw [zsF (k := .u8) (n := 8) rfl rfl, ← znq (x / y)]
    apply congrArg
    unfold nn
    rw [BitVec.toNat_udiv, Int.tdiv_eq_ediv_of_nonneg (by omega), ← Int.natCast_ediv]
  have h2 : (nn x).tmod (nn y) = nn (x % y) := by
    unfold nn
    rw [BitVec.toNat_umod, Int.tmod_eq_emod_of_nonneg (by omega), ← Int.natCast_emod]
  rcases ho with rfl | rfl <;> simp [Q.sem, eqGuard, binOp, Op.intDiv, hn, Sem.run, h1, h2, -Int.natCast_emod]
theorem zCg (P : Program) (T : TypeId) (xo yo : Operand) (x y : BitVec 8) (hy : y ≠ 0#8) (w : World) :
    (Q.bin .quo T xo yo (.int .u8 (nn x)) (.int .u8 (nn y))).sem.run P w = .ok (.value (.int .u8 (nn (x / y)))) w := by
  rw [zB5 P .quo (.inl rfl) T xo yo x y hy w, if_pos rfl]
theorem zCh (P : Program) (T : TypeId) (xo yo : Operand) (x y : BitVec 8) (hy : y ≠ 0#8) (w : World) :
    (Q.bin .rem T xo yo (.int .u8 (nn x)) (.int .u8 (nn y))).sem.run P w = .ok (.value (.int .u8 (nn (x % y)))) w := by
  rw [zB5 P .rem (.inr rfl) T xo yo x y hy w, if_neg (by decide)]
theorem zwX (P : Program) (T : TypeId) (xo yo : Operand) (x : BitVec 16) (n : Nat) (yk : IntKind) {y : Int} (hy : y = (n : Int)) (w : World) :
    (Q.bin .shl T xo yo (.int .u16 (nn x)) (.int yk y)).sem.run P w = .ok (.value (.int .u16 (nn (x <<< n)))) w := by
  subst hy
  rw [zy7 P .shl (.inl rfl) T xo yo .u16 yk _ _ (by omega) w, if_pos rfl, Int.toNat_natCast, zsF (k := .u16) (n := 16) rfl rfl]
  rw [show IntKind.u16.bits = 16 from rfl, zDw x _ (znq x)]
end Go.Proofs.Ytliijnpblddjfaa

