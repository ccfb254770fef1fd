/-
  Words on numbers of all kinds, for runs with letters. Nothing of the program stands here.
-/
import Derived.Test.YtcdkghdjfcccfaaGreatRxE
namespace Go.Proofs.YtcdkghdjfcccfaaGreat
open Go.RowKit
set_option linter.unusedVariables false
set_option linter.unusedSimpArgs false
theorem gu_wrap {k : IntKind} {n : Nat} (hb : k.bits = n) (hs : k.signed = false) (z : Int) : k.wrap z = nn (BitVec.ofInt n z) := by
  unfold IntKind.wrap nn
  rw [BitVec.toNat_ofInt, hb]
  simp only [hs, Bool.false_and, Bool.false_eq_true, if_false]
  have : (0 : Int) ≤ z % 2 ^ n := Int.emod_nonneg _ (by have : (0 : Int) < 2 ^ n := Int.pow_pos (by decide); omega)
  have e : ((2 ^ n : Nat) : Int) = 2 ^ n := by simp
  rw [e]; omega
theorem ofi_nn {n : Nat} (a : BitVec n) : BitVec.ofInt n (nn a) = a := by unfold nn; rw [BitVec.ofInt_natCast, BitVec.ofNat_toNat, BitVec.setWidth_eq]
theorem ofi_nat {n : Nat} (a : BitVec n) : BitVec.ofInt n (a.toNat : Int) = a := ofi_nn a
theorem u8_and (a b : BitVec 8) : bits .and .u8 (nn a) (nn b) = nn (a &&& b) := by
  show IntKind.u8.wrap ((BitVec.ofInt 8 (nn a) &&& BitVec.ofInt 8 (nn b)).toNat : Int) = _
  rw [ofi_nn, ofi_nn, gu_wrap (k := .u8) (n := 8) rfl rfl, ofi_nat]
theorem u16_and (a b : BitVec 16) : bits .and .u16 (nn a) (nn b) = nn (a &&& b) := by
  show IntKind.u16.wrap ((BitVec.ofInt 16 (nn a) &&& BitVec.ofInt 16 (nn b)).toNat : Int) = _
  rw [ofi_nn, ofi_nn, gu_wrap (k := .u16) (n := 16) rfl rfl, ofi_nat]
theorem u16_or (a b : BitVec 16) : bits .or .u16 (nn a) (nn b) = nn (a ||| b) := by
  show IntKind.u16.wrap ((BitVec.ofInt 16 (nn a) ||| BitVec.ofInt 16 (nn b)).toNat : Int) = _
  rw [ofi_nn, ofi_nn, gu_wrap (k := .u16) (n := 16) rfl rfl, ofi_nat]
theorem u32_and (a b : BitVec 32) : bits .and .u32 (nn a) (nn b) = nn (a &&& b) := by
  show IntKind.u32.wrap ((BitVec.ofInt 32 (nn a) &&& BitVec.ofInt 32 (nn b)).toNat : Int) = _
  rw [ofi_nn, ofi_nn, gu_wrap (k := .u32) (n := 32) rfl rfl, ofi_nat]
theorem u32_or (a b : BitVec 32) : bits .or .u32 (nn a) (nn b) = nn (a ||| b) := by
  show IntKind.u32.wrap ((BitVec.ofInt 32 (nn a) ||| BitVec.ofInt 32 (nn b)).toNat : Int) = _
  rw [ofi_nn, ofi_nn, gu_wrap (k := .u32) (n := 32) rfl rfl, ofi_nat]
theorem u32_xor (a b : BitVec 32) : bits .xor .u32 (nn a) (nn b) = nn (a ^^^ b) := by
  show IntKind.u32.wrap ((BitVec.ofInt 32 (nn a) ^^^ BitVec.ofInt 32 (nn b)).toNat : Int) = _
  rw [ofi_nn, ofi_nn, gu_wrap (k := .u32) (n := 32) rfl rfl, ofi_nat]
theorem u32_add (a b : BitVec 32) : IntKind.u32.wrap (nn a + nn b) = nn (a + b) := by
  rw [gu_wrap (k := .u32) (n := 32) rfl rfl, BitVec.ofInt_add, ofi_nn, ofi_nn]
theorem u32_mul (a b : BitVec 32) : IntKind.u32.wrap (nn a * nn b) = nn (a * b) := by
  rw [gu_wrap (k := .u32) (n := 32) rfl rfl, BitVec.ofInt_mul, ofi_nn, ofi_nn]
theorem u32_sub (a b : BitVec 32) : IntKind.u32.wrap (nn a - nn b) = nn (a - b) := by
  rw [gu_wrap (k := .u32) (n := 32) rfl rfl, Int.sub_eq_add_neg, BitVec.ofInt_add, BitVec.ofInt_neg, ofi_nn, ofi_nn, ← BitVec.sub_eq_add_neg]
theorem u32_neg' (a : BitVec 32) : IntKind.u32.wrap (-(nn a)) = nn (-a) := by
  rw [gu_wrap (k := .u32) (n := 32) rfl rfl, BitVec.ofInt_neg, ofi_nn]
theorem u64_neg' (a : BitVec 64) : IntKind.u64.wrap (-(nn a)) = nn (-a) := by
  rw [gu_wrap (k := .u64) (n := 64) rfl rfl, BitVec.ofInt_neg, ofi_nn]
theorem g_shl {n : Nat} (x : BitVec n) (v : Int) (hv : BitVec.ofInt n v = x) (m : Nat) : BitVec.ofInt n (v * 2 ^ (min m n)) = x <<< m := by
  subst hv
  apply BitVec.eq_of_toNat_eq
  rw [BitVec.toNat_shiftLeft, BitVec.toNat_ofInt, BitVec.toNat_ofInt, Nat.shiftLeft_eq]
  have hp : (0 : Int) < ((2 ^ n : Nat) : Int) := by have := Nat.two_pow_pos n; omega
  generalize hq : ((2 ^ n : Nat) : Int) = q at *
  have h0 : 0 ≤ v % q := Int.emod_nonneg _ (by omega)
  by_cases h : m ≤ n
  · rw [Nat.min_eq_left h]
    have e : (((v % q).toNat * 2 ^ m % 2 ^ n : Nat) : Int) = (v % q * 2 ^ m) % q := by
      rw [Int.natCast_emod, Int.natCast_mul, Int.toNat_of_nonneg h0, hq]; simp
    have e2 : (v * 2 ^ m) % q = (v % q * 2 ^ m) % q := by simp [Int.mul_emod]
    rw [e2, ← e]
    exact Int.toNat_natCast _
  · rw [Nat.min_eq_right (by omega)]
    have e1 : 2 ^ m = 2 ^ n * 2 ^ (m - n) := by rw [← Nat.pow_add]; congr 1; omega
    rw [e1, ← Nat.mul_assoc, Nat.mul_right_comm, Nat.mul_mod_left]
    have e2 : (2 : Int) ^ n = q := by rw [← hq]; simp
    rw [e2, Int.mul_emod_left]; rfl
theorem u8_shr (P : Program) (T : TypeId) (xo yo : Operand) (x : BitVec 8) (n : Nat) (yk : IntKind) {y : Int} (hy : y = (n : Int)) (w : World) :
    (Q.bin .shr T xo yo (.int .u8 (nn x)) (.int yk y)).sem.run P w = .ok (.value (.int .u8 (nn (x >>> n)))) w := by
  subst hy
  rw [run_shift P .shr (.inr rfl) T xo yo .u8 yk _ _ (by omega) w, if_neg (by decide), Int.toNat_natCast]
  rw [show IntKind.u8.bits = 8 from rfl]
  congr 3
  unfold nn
  rw [BitVec.toNat_ushiftRight, Nat.shiftRight_eq_div_pow]
  have hx := x.isLt
  by_cases h : n ≤ 8
  · rw [Nat.min_eq_left h]
    have e : (2 : Int) ^ n = ((2 ^ n : Nat) : Int) := by simp
    rw [e, Int.fdiv_eq_ediv_of_nonneg _ (Int.natCast_nonneg _), ← Int.natCast_ediv]
  · rw [Nat.min_eq_right (by omega)]
    have e : x.toNat / 2 ^ n = 0 := Nat.div_eq_of_lt (Nat.lt_of_lt_of_le hx (Nat.pow_le_pow_right (by omega) (by omega)))
    rw [e, Int.fdiv_eq_ediv_of_nonneg _ (by omega)]
    try omega
theorem u8_div (P : Program) (op : BinOp) (ho : op = .quo ∨ op = .rem) (T : TypeId) (xo yo : Operand) (x y : BitVec 8) (hy : y ≠ 0#8) (w : World) :
    (Q.bin op T xo yo (.int .u8 (nn x)) (.int .u8 (nn y))).sem.run P w = .ok (.value (.int .u8 (nn (if op = .quo then x / y else x % y)))) w := by
  have hn : ¬ nn y = 0 := by
    unfold nn
    intro h
    exact hy (BitVec.eq_of_toNat_eq (by simpa using h))
  have h1 : IntKind.u8.wrap ((nn x).tdiv (nn y)) = nn (x / y) := by
    rw [gu_wrap (k := .u8) (n := 8) rfl rfl, ← ofi_nn (x / y)]
    apply congrArg
    unfold nn
    rw [BitVec.toNat_udiv, Int.tdiv_eq_ediv_of_nonneg (by omega), ← Int.natCast_ediv]
  have h2 : (nn x).tmod (nn y) = nn (x % y) := by
    unfold nn
    rw [BitVec.toNat_umod, Int.tmod_eq_emod_of_nonneg (by omega), ← Int.natCast_emod]
  rcases ho with rfl | rfl <;> simp [Q.sem, eqGuard, binOp, Op.intDiv, hn, Sem.run, h1, h2, -Int.natCast_emod]
theorem u8_quo (P : Program) (T : TypeId) (xo yo : Operand) (x y : BitVec 8) (hy : y ≠ 0#8) (w : World) :
    (Q.bin .quo T xo yo (.int .u8 (nn x)) (.int .u8 (nn y))).sem.run P w = .ok (.value (.int .u8 (nn (x / y)))) w := by
  rw [u8_div P .quo (.inl rfl) T xo yo x y hy w, if_pos rfl]
theorem u8_rem (P : Program) (T : TypeId) (xo yo : Operand) (x y : BitVec 8) (hy : y ≠ 0#8) (w : World) :
    (Q.bin .rem T xo yo (.int .u8 (nn x)) (.int .u8 (nn y))).sem.run P w = .ok (.value (.int .u8 (nn (x % y)))) w := by
  rw [u8_div P .rem (.inr rfl) T xo yo x y hy w, if_neg (by decide)]
theorem u16_shl (P : Program) (T : TypeId) (xo yo : Operand) (x : BitVec 16) (n : Nat) (yk : IntKind) {y : Int} (hy : y = (n : Int)) (w : World) :
    (Q.bin .shl T xo yo (.int .u16 (nn x)) (.int yk y)).sem.run P w = .ok (.value (.int .u16 (nn (x <<< n)))) w := by
  subst hy
  rw [run_shift P .shl (.inl rfl) T xo yo .u16 yk _ _ (by omega) w, if_pos rfl, Int.toNat_natCast, gu_wrap (k := .u16) (n := 16) rfl rfl]
  rw [show IntKind.u16.bits = 16 from rfl, g_shl x _ (ofi_nn x)]
theorem u16_shr (P : Program) (T : TypeId) (xo yo : Operand) (x : BitVec 16) (n : Nat) (yk : IntKind) {y : Int} (hy : y = (n : Int)) (w : World) :
    (Q.bin .shr T xo yo (.int .u16 (nn x)) (.int yk y)).sem.run P w = .ok (.value (.int .u16 (nn (x >>> n)))) w := by
  subst hy
  rw [run_shift P .shr (.inr rfl) T xo yo .u16 yk _ _ (by omega) w, if_neg (by decide), Int.toNat_natCast]
  rw [show IntKind.u16.bits = 16 from rfl]
  congr 3
  unfold nn
  rw [BitVec.toNat_ushiftRight, Nat.shiftRight_eq_div_pow]
  have hx := x.isLt
  by_cases h : n ≤ 16
  · rw [Nat.min_eq_left h]
    have e : (2 : Int) ^ n = ((2 ^ n : Nat) : Int) := by simp
    rw [e, Int.fdiv_eq_ediv_of_nonneg _ (Int.natCast_nonneg _), ← Int.natCast_ediv]
  · rw [Nat.min_eq_right (by omega)]
    have e : x.toNat / 2 ^ n = 0 := Nat.div_eq_of_lt (Nat.lt_of_lt_of_le hx (Nat.pow_le_pow_right (by omega) (by omega)))
    rw [e, Int.fdiv_eq_ediv_of_nonneg _ (by omega)]
    try omega
theorem u32_shl (P : Program) (T : TypeId) (xo yo : Operand) (x : BitVec 32) (n : Nat) (yk : IntKind) {y : Int} (hy : y = (n : Int)) (w : World) :
    (Q.bin .shl T xo yo (.int .u32 (nn x)) (.int yk y)).sem.run P w = .ok (.value (.int .u32 (nn (x <<< n)))) w := by
  subst hy
  rw [run_shift P .shl (.inl rfl) T xo yo .u32 yk _ _ (by omega) w, if_pos rfl, Int.toNat_natCast, gu_wrap (k := .u32) (n := 32) rfl rfl]
  rw [show IntKind.u32.bits = 32 from rfl, g_shl x _ (ofi_nn x)]
theorem u32_shr (P : Program) (T : TypeId) (xo yo : Operand) (x : BitVec 32) (n : Nat) (yk : IntKind) {y : Int} (hy : y = (n : Int)) (w : World) :
    (Q.bin .shr T xo yo (.int .u32 (nn x)) (.int yk y)).sem.run P w = .ok (.value (.int .u32 (nn (x >>> n)))) w := by
  subst hy
  rw [run_shift P .shr (.inr rfl) T xo yo .u32 yk _ _ (by omega) w, if_neg (by decide), Int.toNat_natCast]
  rw [show IntKind.u32.bits = 32 from rfl]
  congr 3
  unfold nn
  rw [BitVec.toNat_ushiftRight, Nat.shiftRight_eq_div_pow]
  have hx := x.isLt
  by_cases h : n ≤ 32
  · rw [Nat.min_eq_left h]
    have e : (2 : Int) ^ n = ((2 ^ n : Nat) : Int) := by simp
    rw [e, Int.fdiv_eq_ediv_of_nonneg _ (Int.natCast_nonneg _), ← Int.natCast_ediv]
  · rw [Nat.min_eq_right (by omega)]
    have e : x.toNat / 2 ^ n = 0 := Nat.div_eq_of_lt (Nat.lt_of_lt_of_le hx (Nat.pow_le_pow_right (by omega) (by omega)))
    rw [e, Int.fdiv_eq_ediv_of_nonneg _ (by omega)]
    try omega
theorem u32_div (P : Program) (op : BinOp) (ho : op = .quo ∨ op = .rem) (T : TypeId) (xo yo : Operand) (x y : BitVec 32) (hy : y ≠ 0#32) (w : World) :
    (Q.bin op T xo yo (.int .u32 (nn x)) (.int .u32 (nn y))).sem.run P w = .ok (.value (.int .u32 (nn (if op = .quo then x / y else x % y)))) w := by
  have hn : ¬ nn y = 0 := by
    unfold nn
    intro h
    exact hy (BitVec.eq_of_toNat_eq (by simpa using h))
  have h1 : IntKind.u32.wrap ((nn x).tdiv (nn y)) = nn (x / y) := by
    rw [gu_wrap (k := .u32) (n := 32) rfl rfl, ← ofi_nn (x / y)]
    apply congrArg
    unfold nn
    rw [BitVec.toNat_udiv, Int.tdiv_eq_ediv_of_nonneg (by omega), ← Int.natCast_ediv]
  have h2 : (nn x).tmod (nn y) = nn (x % y) := by
    unfold nn
    rw [BitVec.toNat_umod, Int.tmod_eq_emod_of_nonneg (by omega), ← Int.natCast_emod]
  rcases ho with rfl | rfl <;> simp [Q.sem, eqGuard, binOp, Op.intDiv, hn, Sem.run, h1, h2, -Int.natCast_emod]
theorem u32_quo (P : Program) (T : TypeId) (xo yo : Operand) (x y : BitVec 32) (hy : y ≠ 0#32) (w : World) :
    (Q.bin .quo T xo yo (.int .u32 (nn x)) (.int .u32 (nn y))).sem.run P w = .ok (.value (.int .u32 (nn (x / y)))) w := by
  rw [u32_div P .quo (.inl rfl) T xo yo x y hy w, if_pos rfl]
theorem u32_rem (P : Program) (T : TypeId) (xo yo : Operand) (x y : BitVec 32) (hy : y ≠ 0#32) (w : World) :
    (Q.bin .rem T xo yo (.int .u32 (nn x)) (.int .u32 (nn y))).sem.run P w = .ok (.value (.int .u32 (nn (x % y)))) w := by
  rw [u32_div P .rem (.inr rfl) T xo yo x y hy w, if_neg (by decide)]
theorem i32_shr (P : Program) (T : TypeId) (xo yo : Operand) (x : BitVec 32) (n : Nat) (yk : IntKind) {y : Int} (hn : n < 32) (hy : y = (n : Int)) (w : World) :
    (Q.bin .shr T xo yo (.int .i32 (ii x)) (.int yk y)).sem.run P w = .ok (.value (.int .i32 (ii (x.sshiftRight n)))) w := by
  subst hy
  rw [run_shift P .shr (.inr rfl) T xo yo .i32 yk _ _ (by omega) w, if_neg (by decide), Int.toNat_natCast]
  rw [show IntKind.i32.bits = 32 from rfl]
  congr 3
  unfold ii
  rw [BitVec.toInt_sshiftRight, Nat.min_eq_left (by omega), Int.shiftRight_eq_div_pow]
  have e : (2 : Int) ^ n = ((2 ^ n : Nat) : Int) := by simp
  rw [e, Int.fdiv_eq_ediv_of_nonneg _ (Int.natCast_nonneg _)]
end Go.Proofs.YtcdkghdjfcccfaaGreat

