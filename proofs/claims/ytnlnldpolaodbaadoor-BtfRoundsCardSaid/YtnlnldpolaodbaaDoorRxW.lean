/-
  Words on numbers of all kinds, for runs with letters. Nothing of the program stands here.
-/
import Derived.Test.YtnlnldpolaodbaaDoorRxE
namespace Go.Proofs.YtnlnldpolaodbaaDoor
open Go.RowKit
set_option linter.unusedVariables false
set_option linter.unusedSimpArgs false
theorem gu_wrap {k : IntKind} {n : Nat} (hb : k.bits = n) (hs : k.signed = false) (z : Int) : k.wrap z = nn (BitVec.ofInt n z) := by
  unfold IntKind.wrap nn
  rw [BitVec.toNat_ofInt, hb]
  simp only [hs, Bool.false_and, Bool.false_eq_true, if_false]
  have : (0 : Int) ≤ z % 2 ^ n := Int.emod_nonneg _ (by have : (0 : Int) < 2 ^ n := Int.pow_pos (by decide); omega)
  have e : ((2 ^ n : Nat) : Int) = 2 ^ n := by simp
  rw [e]; omega
theorem gs_wrap {k : IntKind} {n : Nat} (hb : k.bits = n + 1) (hs : k.signed = true) (z : Int) : k.wrap z = ii (BitVec.ofInt (n + 1) z) := by
  unfold IntKind.wrap ii
  rw [BitVec.toInt_ofInt, hb, hs]
  simp only [Bool.true_and, Int.bmod, ge_iff_le, decide_eq_true_eq, Nat.add_sub_cancel]
  have e : ((2 ^ (n + 1) : Nat) : Int) = 2 ^ (n + 1) := by simp
  have e1 : (2 : Int) ^ (n + 1) = 2 * 2 ^ n := by rw [Int.pow_succ]; omega
  rw [e, e1]
  generalize (2 : Int) ^ n = q
  split <;> split <;> omega
theorem ofi_nn {n : Nat} (a : BitVec n) : BitVec.ofInt n (nn a) = a := by unfold nn; rw [BitVec.ofInt_natCast, BitVec.ofNat_toNat, BitVec.setWidth_eq]
theorem ofi_ii {n : Nat} (a : BitVec n) : BitVec.ofInt n (ii a) = a := BitVec.ofInt_toInt
theorem ofi_nat {n : Nat} (a : BitVec n) : BitVec.ofInt n (a.toNat : Int) = a := ofi_nn a
theorem nn_ofNat {n : Nat} (m : Nat) (h : m < 2 ^ n) : nn (BitVec.ofNat n m) = m := by unfold nn; rw [BitVec.toNat_ofNat, Nat.mod_eq_of_lt h]
theorem nn_nonneg {n : Nat} (a : BitVec n) : 0 ≤ nn a := Int.natCast_nonneg _
theorem wn {w : BitVec 64} {n : Nat} (h : n < 64) (hw : w = BitVec.ofNat 64 n) : ii w = n := by
  subst hw
  unfold ii
  rw [BitVec.toInt_eq_toNat_cond, BitVec.toNat_ofNat]
  split <;> omega

theorem u8_and (a b : BitVec 8) : bits .and .u8 (nn a) (nn b) = nn (a &&& b) := by
  show IntKind.u8.wrap ((BitVec.ofInt 8 (nn a) &&& BitVec.ofInt 8 (nn b)).toNat : Int) = _
  rw [ofi_nn, ofi_nn, gu_wrap (k := .u8) (n := 8) rfl rfl, ofi_nat]
theorem u8_or (a b : BitVec 8) : bits .or .u8 (nn a) (nn b) = nn (a ||| b) := by
  show IntKind.u8.wrap ((BitVec.ofInt 8 (nn a) ||| BitVec.ofInt 8 (nn b)).toNat : Int) = _
  rw [ofi_nn, ofi_nn, gu_wrap (k := .u8) (n := 8) rfl rfl, ofi_nat]
theorem u8_xor (a b : BitVec 8) : bits .xor .u8 (nn a) (nn b) = nn (a ^^^ b) := by
  show IntKind.u8.wrap ((BitVec.ofInt 8 (nn a) ^^^ BitVec.ofInt 8 (nn b)).toNat : Int) = _
  rw [ofi_nn, ofi_nn, gu_wrap (k := .u8) (n := 8) rfl rfl, ofi_nat]
theorem u8_not (a b : BitVec 8) : bits .andNot .u8 (nn a) (nn b) = nn (a &&& ~~~b) := by
  show IntKind.u8.wrap ((BitVec.ofInt 8 (nn a) &&& ~~~BitVec.ofInt 8 (nn b)).toNat : Int) = _
  rw [ofi_nn, ofi_nn, gu_wrap (k := .u8) (n := 8) rfl rfl, ofi_nat]
theorem u8_compl (a : BitVec 8) : bits .xor .u8 IntKind.u8.max (nn a) = nn (~~~a) := by
  have h : IntKind.u8.max = nn (BitVec.allOnes 8) := by decide
  rw [h, u8_xor, BitVec.allOnes_xor]
theorem u8_add (a b : BitVec 8) : IntKind.u8.wrap (nn a + nn b) = nn (a + b) := by
  rw [gu_wrap (k := .u8) (n := 8) rfl rfl, BitVec.ofInt_add, ofi_nn, ofi_nn]
theorem u8_mul (a b : BitVec 8) : IntKind.u8.wrap (nn a * nn b) = nn (a * b) := by
  rw [gu_wrap (k := .u8) (n := 8) rfl rfl, BitVec.ofInt_mul, ofi_nn, ofi_nn]
theorem u8_sub (a b : BitVec 8) : IntKind.u8.wrap (nn a - nn b) = nn (a - b) := by
  rw [gu_wrap (k := .u8) (n := 8) rfl rfl, Int.sub_eq_add_neg, BitVec.ofInt_add, BitVec.ofInt_neg, ofi_nn, ofi_nn, ← BitVec.sub_eq_add_neg]
theorem u8_neg (a : BitVec 8) : IntKind.u8.wrap (0 - nn a) = nn (-a) := by
  rw [Int.zero_sub, gu_wrap (k := .u8) (n := 8) rfl rfl, BitVec.ofInt_neg, ofi_nn]
theorem u8_neg' (a : BitVec 8) : IntKind.u8.wrap (-(nn a)) = nn (-a) := by
  rw [gu_wrap (k := .u8) (n := 8) rfl rfl, BitVec.ofInt_neg, ofi_nn]
theorem u16_and (a b : BitVec 16) : bits .and .u16 (nn a) (nn b) = nn (a &&& b) := by
  show IntKind.u16.wrap ((BitVec.ofInt 16 (nn a) &&& BitVec.ofInt 16 (nn b)).toNat : Int) = _
  rw [ofi_nn, ofi_nn, gu_wrap (k := .u16) (n := 16) rfl rfl, ofi_nat]
theorem u16_or (a b : BitVec 16) : bits .or .u16 (nn a) (nn b) = nn (a ||| b) := by
  show IntKind.u16.wrap ((BitVec.ofInt 16 (nn a) ||| BitVec.ofInt 16 (nn b)).toNat : Int) = _
  rw [ofi_nn, ofi_nn, gu_wrap (k := .u16) (n := 16) rfl rfl, ofi_nat]
theorem u16_xor (a b : BitVec 16) : bits .xor .u16 (nn a) (nn b) = nn (a ^^^ b) := by
  show IntKind.u16.wrap ((BitVec.ofInt 16 (nn a) ^^^ BitVec.ofInt 16 (nn b)).toNat : Int) = _
  rw [ofi_nn, ofi_nn, gu_wrap (k := .u16) (n := 16) rfl rfl, ofi_nat]
theorem u16_not (a b : BitVec 16) : bits .andNot .u16 (nn a) (nn b) = nn (a &&& ~~~b) := by
  show IntKind.u16.wrap ((BitVec.ofInt 16 (nn a) &&& ~~~BitVec.ofInt 16 (nn b)).toNat : Int) = _
  rw [ofi_nn, ofi_nn, gu_wrap (k := .u16) (n := 16) rfl rfl, ofi_nat]
theorem u16_compl (a : BitVec 16) : bits .xor .u16 IntKind.u16.max (nn a) = nn (~~~a) := by
  have h : IntKind.u16.max = nn (BitVec.allOnes 16) := by decide
  rw [h, u16_xor, BitVec.allOnes_xor]
theorem u16_add (a b : BitVec 16) : IntKind.u16.wrap (nn a + nn b) = nn (a + b) := by
  rw [gu_wrap (k := .u16) (n := 16) rfl rfl, BitVec.ofInt_add, ofi_nn, ofi_nn]
theorem u16_mul (a b : BitVec 16) : IntKind.u16.wrap (nn a * nn b) = nn (a * b) := by
  rw [gu_wrap (k := .u16) (n := 16) rfl rfl, BitVec.ofInt_mul, ofi_nn, ofi_nn]
theorem u16_sub (a b : BitVec 16) : IntKind.u16.wrap (nn a - nn b) = nn (a - b) := by
  rw [gu_wrap (k := .u16) (n := 16) rfl rfl, Int.sub_eq_add_neg, BitVec.ofInt_add, BitVec.ofInt_neg, ofi_nn, ofi_nn, ← BitVec.sub_eq_add_neg]
theorem u16_neg (a : BitVec 16) : IntKind.u16.wrap (0 - nn a) = nn (-a) := by
  rw [Int.zero_sub, gu_wrap (k := .u16) (n := 16) rfl rfl, BitVec.ofInt_neg, ofi_nn]
theorem u16_neg' (a : BitVec 16) : IntKind.u16.wrap (-(nn a)) = nn (-a) := by
  rw [gu_wrap (k := .u16) (n := 16) rfl rfl, BitVec.ofInt_neg, ofi_nn]
theorem u32_and (a b : BitVec 32) : bits .and .u32 (nn a) (nn b) = nn (a &&& b) := by
  show IntKind.u32.wrap ((BitVec.ofInt 32 (nn a) &&& BitVec.ofInt 32 (nn b)).toNat : Int) = _
  rw [ofi_nn, ofi_nn, gu_wrap (k := .u32) (n := 32) rfl rfl, ofi_nat]
theorem u32_or (a b : BitVec 32) : bits .or .u32 (nn a) (nn b) = nn (a ||| b) := by
  show IntKind.u32.wrap ((BitVec.ofInt 32 (nn a) ||| BitVec.ofInt 32 (nn b)).toNat : Int) = _
  rw [ofi_nn, ofi_nn, gu_wrap (k := .u32) (n := 32) rfl rfl, ofi_nat]
theorem u32_xor (a b : BitVec 32) : bits .xor .u32 (nn a) (nn b) = nn (a ^^^ b) := by
  show IntKind.u32.wrap ((BitVec.ofInt 32 (nn a) ^^^ BitVec.ofInt 32 (nn b)).toNat : Int) = _
  rw [ofi_nn, ofi_nn, gu_wrap (k := .u32) (n := 32) rfl rfl, ofi_nat]
theorem u32_not (a b : BitVec 32) : bits .andNot .u32 (nn a) (nn b) = nn (a &&& ~~~b) := by
  show IntKind.u32.wrap ((BitVec.ofInt 32 (nn a) &&& ~~~BitVec.ofInt 32 (nn b)).toNat : Int) = _
  rw [ofi_nn, ofi_nn, gu_wrap (k := .u32) (n := 32) rfl rfl, ofi_nat]
theorem u32_compl (a : BitVec 32) : bits .xor .u32 IntKind.u32.max (nn a) = nn (~~~a) := by
  have h : IntKind.u32.max = nn (BitVec.allOnes 32) := by decide
  rw [h, u32_xor, BitVec.allOnes_xor]
theorem u32_add (a b : BitVec 32) : IntKind.u32.wrap (nn a + nn b) = nn (a + b) := by
  rw [gu_wrap (k := .u32) (n := 32) rfl rfl, BitVec.ofInt_add, ofi_nn, ofi_nn]
theorem u32_mul (a b : BitVec 32) : IntKind.u32.wrap (nn a * nn b) = nn (a * b) := by
  rw [gu_wrap (k := .u32) (n := 32) rfl rfl, BitVec.ofInt_mul, ofi_nn, ofi_nn]
theorem u32_sub (a b : BitVec 32) : IntKind.u32.wrap (nn a - nn b) = nn (a - b) := by
  rw [gu_wrap (k := .u32) (n := 32) rfl rfl, Int.sub_eq_add_neg, BitVec.ofInt_add, BitVec.ofInt_neg, ofi_nn, ofi_nn, ← BitVec.sub_eq_add_neg]
theorem u32_neg (a : BitVec 32) : IntKind.u32.wrap (0 - nn a) = nn (-a) := by
  rw [Int.zero_sub, gu_wrap (k := .u32) (n := 32) rfl rfl, BitVec.ofInt_neg, ofi_nn]
theorem u32_neg' (a : BitVec 32) : IntKind.u32.wrap (-(nn a)) = nn (-a) := by
  rw [gu_wrap (k := .u32) (n := 32) rfl rfl, BitVec.ofInt_neg, ofi_nn]
theorem u64_neg' (a : BitVec 64) : IntKind.u64.wrap (-(nn a)) = nn (-a) := by
  rw [gu_wrap (k := .u64) (n := 64) rfl rfl, BitVec.ofInt_neg, ofi_nn]
theorem i8_of_z (z : Int) : IntKind.i8.wrap z = ii (BitVec.ofInt 8 z) := gs_wrap (k := .i8) (n := 7) rfl rfl z
theorem i8_and (a b : BitVec 8) : bits .and .i8 (ii a) (ii b) = ii (a &&& b) := by
  show IntKind.i8.wrap ((BitVec.ofInt 8 (ii a) &&& BitVec.ofInt 8 (ii b)).toNat : Int) = _
  rw [ofi_ii, ofi_ii, gs_wrap (k := .i8) (n := 7) rfl rfl, ofi_nat]
theorem i8_or (a b : BitVec 8) : bits .or .i8 (ii a) (ii b) = ii (a ||| b) := by
  show IntKind.i8.wrap ((BitVec.ofInt 8 (ii a) ||| BitVec.ofInt 8 (ii b)).toNat : Int) = _
  rw [ofi_ii, ofi_ii, gs_wrap (k := .i8) (n := 7) rfl rfl, ofi_nat]
theorem i8_xor (a b : BitVec 8) : bits .xor .i8 (ii a) (ii b) = ii (a ^^^ b) := by
  show IntKind.i8.wrap ((BitVec.ofInt 8 (ii a) ^^^ BitVec.ofInt 8 (ii b)).toNat : Int) = _
  rw [ofi_ii, ofi_ii, gs_wrap (k := .i8) (n := 7) rfl rfl, ofi_nat]
theorem i8_not (a b : BitVec 8) : bits .andNot .i8 (ii a) (ii b) = ii (a &&& ~~~b) := by
  show IntKind.i8.wrap ((BitVec.ofInt 8 (ii a) &&& ~~~BitVec.ofInt 8 (ii b)).toNat : Int) = _
  rw [ofi_ii, ofi_ii, gs_wrap (k := .i8) (n := 7) rfl rfl, ofi_nat]
theorem i8_compl (a : BitVec 8) : bits .xor .i8 (-1) (ii a) = ii (~~~a) := by
  have h : (-1 : Int) = ii (BitVec.allOnes 8) := by decide
  rw [h, i8_xor, BitVec.allOnes_xor]
theorem i8_add (a b : BitVec 8) : IntKind.i8.wrap (ii a + ii b) = ii (a + b) := by
  rw [gs_wrap (k := .i8) (n := 7) rfl rfl, BitVec.ofInt_add, ofi_ii, ofi_ii]
theorem i8_mul (a b : BitVec 8) : IntKind.i8.wrap (ii a * ii b) = ii (a * b) := by
  rw [gs_wrap (k := .i8) (n := 7) rfl rfl, BitVec.ofInt_mul, ofi_ii, ofi_ii]
theorem i8_sub (a b : BitVec 8) : IntKind.i8.wrap (ii a - ii b) = ii (a - b) := by
  rw [gs_wrap (k := .i8) (n := 7) rfl rfl, Int.sub_eq_add_neg, BitVec.ofInt_add, BitVec.ofInt_neg, ofi_ii, ofi_ii, ← BitVec.sub_eq_add_neg]
theorem i8_neg (a : BitVec 8) : IntKind.i8.wrap (0 - ii a) = ii (-a) := by
  rw [Int.zero_sub, gs_wrap (k := .i8) (n := 7) rfl rfl, BitVec.ofInt_neg, ofi_ii]
theorem i8_neg' (a : BitVec 8) : IntKind.i8.wrap (-(ii a)) = ii (-a) := by
  rw [gs_wrap (k := .i8) (n := 7) rfl rfl, BitVec.ofInt_neg, ofi_ii]
theorem i16_of_z (z : Int) : IntKind.i16.wrap z = ii (BitVec.ofInt 16 z) := gs_wrap (k := .i16) (n := 15) rfl rfl z
theorem i16_and (a b : BitVec 16) : bits .and .i16 (ii a) (ii b) = ii (a &&& b) := by
  show IntKind.i16.wrap ((BitVec.ofInt 16 (ii a) &&& BitVec.ofInt 16 (ii b)).toNat : Int) = _
  rw [ofi_ii, ofi_ii, gs_wrap (k := .i16) (n := 15) rfl rfl, ofi_nat]
theorem i16_or (a b : BitVec 16) : bits .or .i16 (ii a) (ii b) = ii (a ||| b) := by
  show IntKind.i16.wrap ((BitVec.ofInt 16 (ii a) ||| BitVec.ofInt 16 (ii b)).toNat : Int) = _
  rw [ofi_ii, ofi_ii, gs_wrap (k := .i16) (n := 15) rfl rfl, ofi_nat]
theorem i16_xor (a b : BitVec 16) : bits .xor .i16 (ii a) (ii b) = ii (a ^^^ b) := by
  show IntKind.i16.wrap ((BitVec.ofInt 16 (ii a) ^^^ BitVec.ofInt 16 (ii b)).toNat : Int) = _
  rw [ofi_ii, ofi_ii, gs_wrap (k := .i16) (n := 15) rfl rfl, ofi_nat]
theorem i16_not (a b : BitVec 16) : bits .andNot .i16 (ii a) (ii b) = ii (a &&& ~~~b) := by
  show IntKind.i16.wrap ((BitVec.ofInt 16 (ii a) &&& ~~~BitVec.ofInt 16 (ii b)).toNat : Int) = _
  rw [ofi_ii, ofi_ii, gs_wrap (k := .i16) (n := 15) rfl rfl, ofi_nat]
theorem i16_compl (a : BitVec 16) : bits .xor .i16 (-1) (ii a) = ii (~~~a) := by
  have h : (-1 : Int) = ii (BitVec.allOnes 16) := by decide
  rw [h, i16_xor, BitVec.allOnes_xor]
theorem i16_add (a b : BitVec 16) : IntKind.i16.wrap (ii a + ii b) = ii (a + b) := by
  rw [gs_wrap (k := .i16) (n := 15) rfl rfl, BitVec.ofInt_add, ofi_ii, ofi_ii]
theorem i16_mul (a b : BitVec 16) : IntKind.i16.wrap (ii a * ii b) = ii (a * b) := by
  rw [gs_wrap (k := .i16) (n := 15) rfl rfl, BitVec.ofInt_mul, ofi_ii, ofi_ii]
theorem i16_sub (a b : BitVec 16) : IntKind.i16.wrap (ii a - ii b) = ii (a - b) := by
  rw [gs_wrap (k := .i16) (n := 15) rfl rfl, Int.sub_eq_add_neg, BitVec.ofInt_add, BitVec.ofInt_neg, ofi_ii, ofi_ii, ← BitVec.sub_eq_add_neg]
theorem i16_neg (a : BitVec 16) : IntKind.i16.wrap (0 - ii a) = ii (-a) := by
  rw [Int.zero_sub, gs_wrap (k := .i16) (n := 15) rfl rfl, BitVec.ofInt_neg, ofi_ii]
theorem i16_neg' (a : BitVec 16) : IntKind.i16.wrap (-(ii a)) = ii (-a) := by
  rw [gs_wrap (k := .i16) (n := 15) rfl rfl, BitVec.ofInt_neg, ofi_ii]
theorem i32_of_z (z : Int) : IntKind.i32.wrap z = ii (BitVec.ofInt 32 z) := gs_wrap (k := .i32) (n := 31) rfl rfl z
theorem i32_and (a b : BitVec 32) : bits .and .i32 (ii a) (ii b) = ii (a &&& b) := by
  show IntKind.i32.wrap ((BitVec.ofInt 32 (ii a) &&& BitVec.ofInt 32 (ii b)).toNat : Int) = _
  rw [ofi_ii, ofi_ii, gs_wrap (k := .i32) (n := 31) rfl rfl, ofi_nat]
theorem i32_or (a b : BitVec 32) : bits .or .i32 (ii a) (ii b) = ii (a ||| b) := by
  show IntKind.i32.wrap ((BitVec.ofInt 32 (ii a) ||| BitVec.ofInt 32 (ii b)).toNat : Int) = _
  rw [ofi_ii, ofi_ii, gs_wrap (k := .i32) (n := 31) rfl rfl, ofi_nat]
theorem i32_xor (a b : BitVec 32) : bits .xor .i32 (ii a) (ii b) = ii (a ^^^ b) := by
  show IntKind.i32.wrap ((BitVec.ofInt 32 (ii a) ^^^ BitVec.ofInt 32 (ii b)).toNat : Int) = _
  rw [ofi_ii, ofi_ii, gs_wrap (k := .i32) (n := 31) rfl rfl, ofi_nat]
theorem i32_not (a b : BitVec 32) : bits .andNot .i32 (ii a) (ii b) = ii (a &&& ~~~b) := by
  show IntKind.i32.wrap ((BitVec.ofInt 32 (ii a) &&& ~~~BitVec.ofInt 32 (ii b)).toNat : Int) = _
  rw [ofi_ii, ofi_ii, gs_wrap (k := .i32) (n := 31) rfl rfl, ofi_nat]
theorem i32_compl (a : BitVec 32) : bits .xor .i32 (-1) (ii a) = ii (~~~a) := by
  have h : (-1 : Int) = ii (BitVec.allOnes 32) := by decide
  rw [h, i32_xor, BitVec.allOnes_xor]
theorem i32_add (a b : BitVec 32) : IntKind.i32.wrap (ii a + ii b) = ii (a + b) := by
  rw [gs_wrap (k := .i32) (n := 31) rfl rfl, BitVec.ofInt_add, ofi_ii, ofi_ii]
theorem i32_mul (a b : BitVec 32) : IntKind.i32.wrap (ii a * ii b) = ii (a * b) := by
  rw [gs_wrap (k := .i32) (n := 31) rfl rfl, BitVec.ofInt_mul, ofi_ii, ofi_ii]
theorem i32_sub (a b : BitVec 32) : IntKind.i32.wrap (ii a - ii b) = ii (a - b) := by
  rw [gs_wrap (k := .i32) (n := 31) rfl rfl, Int.sub_eq_add_neg, BitVec.ofInt_add, BitVec.ofInt_neg, ofi_ii, ofi_ii, ← BitVec.sub_eq_add_neg]
theorem i32_neg (a : BitVec 32) : IntKind.i32.wrap (0 - ii a) = ii (-a) := by
  rw [Int.zero_sub, gs_wrap (k := .i32) (n := 31) rfl rfl, BitVec.ofInt_neg, ofi_ii]
theorem i32_neg' (a : BitVec 32) : IntKind.i32.wrap (-(ii a)) = ii (-a) := by
  rw [gs_wrap (k := .i32) (n := 31) rfl rfl, BitVec.ofInt_neg, ofi_ii]
theorem i64_of_z (z : Int) : IntKind.i64.wrap z = ii (BitVec.ofInt 64 z) := gs_wrap (k := .i64) (n := 63) rfl rfl z
theorem i64_and (a b : BitVec 64) : bits .and .i64 (ii a) (ii b) = ii (a &&& b) := by
  show IntKind.i64.wrap ((BitVec.ofInt 64 (ii a) &&& BitVec.ofInt 64 (ii b)).toNat : Int) = _
  rw [ofi_ii, ofi_ii, gs_wrap (k := .i64) (n := 63) rfl rfl, ofi_nat]
theorem i64_or (a b : BitVec 64) : bits .or .i64 (ii a) (ii b) = ii (a ||| b) := by
  show IntKind.i64.wrap ((BitVec.ofInt 64 (ii a) ||| BitVec.ofInt 64 (ii b)).toNat : Int) = _
  rw [ofi_ii, ofi_ii, gs_wrap (k := .i64) (n := 63) rfl rfl, ofi_nat]
theorem i64_xor (a b : BitVec 64) : bits .xor .i64 (ii a) (ii b) = ii (a ^^^ b) := by
  show IntKind.i64.wrap ((BitVec.ofInt 64 (ii a) ^^^ BitVec.ofInt 64 (ii b)).toNat : Int) = _
  rw [ofi_ii, ofi_ii, gs_wrap (k := .i64) (n := 63) rfl rfl, ofi_nat]
theorem i64_not (a b : BitVec 64) : bits .andNot .i64 (ii a) (ii b) = ii (a &&& ~~~b) := by
  show IntKind.i64.wrap ((BitVec.ofInt 64 (ii a) &&& ~~~BitVec.ofInt 64 (ii b)).toNat : Int) = _
  rw [ofi_ii, ofi_ii, gs_wrap (k := .i64) (n := 63) rfl rfl, ofi_nat]
theorem i64_compl (a : BitVec 64) : bits .xor .i64 (-1) (ii a) = ii (~~~a) := by
  have h : (-1 : Int) = ii (BitVec.allOnes 64) := by decide
  rw [h, i64_xor, BitVec.allOnes_xor]
theorem i64_mul (a b : BitVec 64) : IntKind.i64.wrap (ii a * ii b) = ii (a * b) := by
  rw [gs_wrap (k := .i64) (n := 63) rfl rfl, BitVec.ofInt_mul, ofi_ii, ofi_ii]
theorem i64_neg (a : BitVec 64) : IntKind.i64.wrap (0 - ii a) = ii (-a) := by
  rw [Int.zero_sub, gs_wrap (k := .i64) (n := 63) rfl rfl, BitVec.ofInt_neg, ofi_ii]
theorem i64_neg' (a : BitVec 64) : IntKind.i64.wrap (-(ii a)) = ii (-a) := by
  rw [gs_wrap (k := .i64) (n := 63) rfl rfl, BitVec.ofInt_neg, ofi_ii]
theorem u8_of_u8 (a : BitVec 8) : IntKind.u8.wrap (nn a) = nn a := by
  rw [gu_wrap (k := .u8) (n := 8) rfl rfl, ofi_nn]
theorem u16_of_u8 (a : BitVec 8) : IntKind.u16.wrap (nn a) = nn (a.setWidth 16) := by
  rw [gu_wrap (k := .u16) (n := 16) rfl rfl]; unfold nn; rw [BitVec.ofInt_natCast, BitVec.ofNat_toNat]
theorem u32_of_u8 (a : BitVec 8) : IntKind.u32.wrap (nn a) = nn (a.setWidth 32) := by
  rw [gu_wrap (k := .u32) (n := 32) rfl rfl]; unfold nn; rw [BitVec.ofInt_natCast, BitVec.ofNat_toNat]
theorem u64_of_u8 (a : BitVec 8) : IntKind.u64.wrap (nn a) = nn (a.setWidth 64) := by
  rw [gu_wrap (k := .u64) (n := 64) rfl rfl]; unfold nn; rw [BitVec.ofInt_natCast, BitVec.ofNat_toNat]
theorem i8_of_u8 (a : BitVec 8) : IntKind.i8.wrap (nn a) = ii a := by
  rw [gs_wrap (k := .i8) (n := 7) rfl rfl, ofi_nn]
theorem i16_of_u8 (a : BitVec 8) : IntKind.i16.wrap (nn a) = ii (a.setWidth 16) := by
  rw [gs_wrap (k := .i16) (n := 15) rfl rfl]; unfold nn; rw [BitVec.ofInt_natCast, BitVec.ofNat_toNat]
theorem i32_of_u8 (a : BitVec 8) : IntKind.i32.wrap (nn a) = ii (a.setWidth 32) := by
  rw [gs_wrap (k := .i32) (n := 31) rfl rfl]; unfold nn; rw [BitVec.ofInt_natCast, BitVec.ofNat_toNat]
theorem i64_of_u8 (a : BitVec 8) : IntKind.i64.wrap (nn a) = ii (a.setWidth 64) := by
  rw [gs_wrap (k := .i64) (n := 63) rfl rfl]; unfold nn; rw [BitVec.ofInt_natCast, BitVec.ofNat_toNat]
theorem u8_of_u16 (a : BitVec 16) : IntKind.u8.wrap (nn a) = nn (a.setWidth 8) := by
  rw [gu_wrap (k := .u8) (n := 8) rfl rfl]; unfold nn; rw [BitVec.ofInt_natCast, BitVec.ofNat_toNat]
theorem u16_of_u16 (a : BitVec 16) : IntKind.u16.wrap (nn a) = nn a := by
  rw [gu_wrap (k := .u16) (n := 16) rfl rfl, ofi_nn]
theorem u32_of_u16 (a : BitVec 16) : IntKind.u32.wrap (nn a) = nn (a.setWidth 32) := by
  rw [gu_wrap (k := .u32) (n := 32) rfl rfl]; unfold nn; rw [BitVec.ofInt_natCast, BitVec.ofNat_toNat]
theorem u64_of_u16 (a : BitVec 16) : IntKind.u64.wrap (nn a) = nn (a.setWidth 64) := by
  rw [gu_wrap (k := .u64) (n := 64) rfl rfl]; unfold nn; rw [BitVec.ofInt_natCast, BitVec.ofNat_toNat]
theorem i8_of_u16 (a : BitVec 16) : IntKind.i8.wrap (nn a) = ii (a.setWidth 8) := by
  rw [gs_wrap (k := .i8) (n := 7) rfl rfl]; unfold nn; rw [BitVec.ofInt_natCast, BitVec.ofNat_toNat]
theorem i16_of_u16 (a : BitVec 16) : IntKind.i16.wrap (nn a) = ii a := by
  rw [gs_wrap (k := .i16) (n := 15) rfl rfl, ofi_nn]
theorem i32_of_u16 (a : BitVec 16) : IntKind.i32.wrap (nn a) = ii (a.setWidth 32) := by
  rw [gs_wrap (k := .i32) (n := 31) rfl rfl]; unfold nn; rw [BitVec.ofInt_natCast, BitVec.ofNat_toNat]
theorem i64_of_u16 (a : BitVec 16) : IntKind.i64.wrap (nn a) = ii (a.setWidth 64) := by
  rw [gs_wrap (k := .i64) (n := 63) rfl rfl]; unfold nn; rw [BitVec.ofInt_natCast, BitVec.ofNat_toNat]
theorem u8_of_u32 (a : BitVec 32) : IntKind.u8.wrap (nn a) = nn (a.setWidth 8) := by
  rw [gu_wrap (k := .u8) (n := 8) rfl rfl]; unfold nn; rw [BitVec.ofInt_natCast, BitVec.ofNat_toNat]
theorem u16_of_u32 (a : BitVec 32) : IntKind.u16.wrap (nn a) = nn (a.setWidth 16) := by
  rw [gu_wrap (k := .u16) (n := 16) rfl rfl]; unfold nn; rw [BitVec.ofInt_natCast, BitVec.ofNat_toNat]
theorem u32_of_u32 (a : BitVec 32) : IntKind.u32.wrap (nn a) = nn a := by
  rw [gu_wrap (k := .u32) (n := 32) rfl rfl, ofi_nn]
theorem i8_of_u32 (a : BitVec 32) : IntKind.i8.wrap (nn a) = ii (a.setWidth 8) := by
  rw [gs_wrap (k := .i8) (n := 7) rfl rfl]; unfold nn; rw [BitVec.ofInt_natCast, BitVec.ofNat_toNat]
theorem i16_of_u32 (a : BitVec 32) : IntKind.i16.wrap (nn a) = ii (a.setWidth 16) := by
  rw [gs_wrap (k := .i16) (n := 15) rfl rfl]; unfold nn; rw [BitVec.ofInt_natCast, BitVec.ofNat_toNat]
theorem i64_of_u32 (a : BitVec 32) : IntKind.i64.wrap (nn a) = ii (a.setWidth 64) := by
  rw [gs_wrap (k := .i64) (n := 63) rfl rfl]; unfold nn; rw [BitVec.ofInt_natCast, BitVec.ofNat_toNat]
theorem u8_of_u64 (a : BitVec 64) : IntKind.u8.wrap (nn a) = nn (a.setWidth 8) := by
  rw [gu_wrap (k := .u8) (n := 8) rfl rfl]; unfold nn; rw [BitVec.ofInt_natCast, BitVec.ofNat_toNat]
theorem u16_of_u64 (a : BitVec 64) : IntKind.u16.wrap (nn a) = nn (a.setWidth 16) := by
  rw [gu_wrap (k := .u16) (n := 16) rfl rfl]; unfold nn; rw [BitVec.ofInt_natCast, BitVec.ofNat_toNat]
theorem i8_of_u64 (a : BitVec 64) : IntKind.i8.wrap (nn a) = ii (a.setWidth 8) := by
  rw [gs_wrap (k := .i8) (n := 7) rfl rfl]; unfold nn; rw [BitVec.ofInt_natCast, BitVec.ofNat_toNat]
theorem i16_of_u64 (a : BitVec 64) : IntKind.i16.wrap (nn a) = ii (a.setWidth 16) := by
  rw [gs_wrap (k := .i16) (n := 15) rfl rfl]; unfold nn; rw [BitVec.ofInt_natCast, BitVec.ofNat_toNat]
theorem u8_of_i8 (a : BitVec 8) : IntKind.u8.wrap (ii a) = nn a := by
  rw [gu_wrap (k := .u8) (n := 8) rfl rfl, ofi_ii]
theorem u16_of_i8 (a : BitVec 8) : IntKind.u16.wrap (ii a) = nn (a.signExtend 16) := by
  rw [gu_wrap (k := .u16) (n := 16) rfl rfl]; rfl
theorem u32_of_i8 (a : BitVec 8) : IntKind.u32.wrap (ii a) = nn (a.signExtend 32) := by
  rw [gu_wrap (k := .u32) (n := 32) rfl rfl]; rfl
theorem u64_of_i8 (a : BitVec 8) : IntKind.u64.wrap (ii a) = nn (a.signExtend 64) := by
  rw [gu_wrap (k := .u64) (n := 64) rfl rfl]; rfl
theorem i8_of_i8 (a : BitVec 8) : IntKind.i8.wrap (ii a) = ii a := by
  rw [gs_wrap (k := .i8) (n := 7) rfl rfl, ofi_ii]
theorem i16_of_i8 (a : BitVec 8) : IntKind.i16.wrap (ii a) = ii (a.signExtend 16) := by
  rw [gs_wrap (k := .i16) (n := 15) rfl rfl]; rfl
theorem i32_of_i8 (a : BitVec 8) : IntKind.i32.wrap (ii a) = ii (a.signExtend 32) := by
  rw [gs_wrap (k := .i32) (n := 31) rfl rfl]; rfl
theorem i64_of_i8 (a : BitVec 8) : IntKind.i64.wrap (ii a) = ii (a.signExtend 64) := by
  rw [gs_wrap (k := .i64) (n := 63) rfl rfl]; rfl
theorem u8_of_i16 (a : BitVec 16) : IntKind.u8.wrap (ii a) = nn (a.setWidth 8) := by
  have h := gu_wrap (k := .u8) (n := 8) rfl rfl (ii a)
  rw [h, ← ofi_nat (BitVec.setWidth 8 a)]
  congr 1
  apply BitVec.eq_of_toNat_eq
  unfold ii
  rw [BitVec.toNat_ofInt, BitVec.toNat_ofInt, BitVec.toNat_setWidth, BitVec.toInt_eq_toNat_cond]
  have := a.isLt
  split <;> omega
theorem u16_of_i16 (a : BitVec 16) : IntKind.u16.wrap (ii a) = nn a := by
  rw [gu_wrap (k := .u16) (n := 16) rfl rfl, ofi_ii]
theorem u32_of_i16 (a : BitVec 16) : IntKind.u32.wrap (ii a) = nn (a.signExtend 32) := by
  rw [gu_wrap (k := .u32) (n := 32) rfl rfl]; rfl
theorem u64_of_i16 (a : BitVec 16) : IntKind.u64.wrap (ii a) = nn (a.signExtend 64) := by
  rw [gu_wrap (k := .u64) (n := 64) rfl rfl]; rfl
theorem i8_of_i16 (a : BitVec 16) : IntKind.i8.wrap (ii a) = ii (a.setWidth 8) := by
  have h := gs_wrap (k := .i8) (n := 7) rfl rfl (ii a)
  rw [h, ← ofi_nat (BitVec.setWidth 8 a)]
  congr 1
  apply BitVec.eq_of_toNat_eq
  unfold ii
  rw [BitVec.toNat_ofInt, BitVec.toNat_ofInt, BitVec.toNat_setWidth, BitVec.toInt_eq_toNat_cond]
  have := a.isLt
  split <;> omega
theorem i16_of_i16 (a : BitVec 16) : IntKind.i16.wrap (ii a) = ii a := by
  rw [gs_wrap (k := .i16) (n := 15) rfl rfl, ofi_ii]
theorem i32_of_i16 (a : BitVec 16) : IntKind.i32.wrap (ii a) = ii (a.signExtend 32) := by
  rw [gs_wrap (k := .i32) (n := 31) rfl rfl]; rfl
theorem i64_of_i16 (a : BitVec 16) : IntKind.i64.wrap (ii a) = ii (a.signExtend 64) := by
  rw [gs_wrap (k := .i64) (n := 63) rfl rfl]; rfl
theorem u8_of_i32 (a : BitVec 32) : IntKind.u8.wrap (ii a) = nn (a.setWidth 8) := by
  have h := gu_wrap (k := .u8) (n := 8) rfl rfl (ii a)
  rw [h, ← ofi_nat (BitVec.setWidth 8 a)]
  congr 1
  apply BitVec.eq_of_toNat_eq
  unfold ii
  rw [BitVec.toNat_ofInt, BitVec.toNat_ofInt, BitVec.toNat_setWidth, BitVec.toInt_eq_toNat_cond]
  have := a.isLt
  split <;> omega
theorem u16_of_i32 (a : BitVec 32) : IntKind.u16.wrap (ii a) = nn (a.setWidth 16) := by
  have h := gu_wrap (k := .u16) (n := 16) rfl rfl (ii a)
  rw [h, ← ofi_nat (BitVec.setWidth 16 a)]
  congr 1
  apply BitVec.eq_of_toNat_eq
  unfold ii
  rw [BitVec.toNat_ofInt, BitVec.toNat_ofInt, BitVec.toNat_setWidth, BitVec.toInt_eq_toNat_cond]
  have := a.isLt
  split <;> omega
theorem u64_of_i32 (a : BitVec 32) : IntKind.u64.wrap (ii a) = nn (a.signExtend 64) := by
  rw [gu_wrap (k := .u64) (n := 64) rfl rfl]; rfl
theorem i8_of_i32 (a : BitVec 32) : IntKind.i8.wrap (ii a) = ii (a.setWidth 8) := by
  have h := gs_wrap (k := .i8) (n := 7) rfl rfl (ii a)
  rw [h, ← ofi_nat (BitVec.setWidth 8 a)]
  congr 1
  apply BitVec.eq_of_toNat_eq
  unfold ii
  rw [BitVec.toNat_ofInt, BitVec.toNat_ofInt, BitVec.toNat_setWidth, BitVec.toInt_eq_toNat_cond]
  have := a.isLt
  split <;> omega
theorem i16_of_i32 (a : BitVec 32) : IntKind.i16.wrap (ii a) = ii (a.setWidth 16) := by
  have h := gs_wrap (k := .i16) (n := 15) rfl rfl (ii a)
  rw [h, ← ofi_nat (BitVec.setWidth 16 a)]
  congr 1
  apply BitVec.eq_of_toNat_eq
  unfold ii
  rw [BitVec.toNat_ofInt, BitVec.toNat_ofInt, BitVec.toNat_setWidth, BitVec.toInt_eq_toNat_cond]
  have := a.isLt
  split <;> omega
theorem i32_of_i32 (a : BitVec 32) : IntKind.i32.wrap (ii a) = ii a := by
  rw [gs_wrap (k := .i32) (n := 31) rfl rfl, ofi_ii]
theorem u8_of_i64 (a : BitVec 64) : IntKind.u8.wrap (ii a) = nn (a.setWidth 8) := by
  have h := gu_wrap (k := .u8) (n := 8) rfl rfl (ii a)
  rw [h, ← ofi_nat (BitVec.setWidth 8 a)]
  congr 1
  apply BitVec.eq_of_toNat_eq
  unfold ii
  rw [BitVec.toNat_ofInt, BitVec.toNat_ofInt, BitVec.toNat_setWidth, BitVec.toInt_eq_toNat_cond]
  have := a.isLt
  split <;> omega
theorem u16_of_i64 (a : BitVec 64) : IntKind.u16.wrap (ii a) = nn (a.setWidth 16) := by
  have h := gu_wrap (k := .u16) (n := 16) rfl rfl (ii a)
  rw [h, ← ofi_nat (BitVec.setWidth 16 a)]
  congr 1
  apply BitVec.eq_of_toNat_eq
  unfold ii
  rw [BitVec.toNat_ofInt, BitVec.toNat_ofInt, BitVec.toNat_setWidth, BitVec.toInt_eq_toNat_cond]
  have := a.isLt
  split <;> omega
theorem u32_of_i64 (a : BitVec 64) : IntKind.u32.wrap (ii a) = nn (a.setWidth 32) := by
  have h := gu_wrap (k := .u32) (n := 32) rfl rfl (ii a)
  rw [h, ← ofi_nat (BitVec.setWidth 32 a)]
  congr 1
  apply BitVec.eq_of_toNat_eq
  unfold ii
  rw [BitVec.toNat_ofInt, BitVec.toNat_ofInt, BitVec.toNat_setWidth, BitVec.toInt_eq_toNat_cond]
  have := a.isLt
  split <;> omega
theorem i8_of_i64 (a : BitVec 64) : IntKind.i8.wrap (ii a) = ii (a.setWidth 8) := by
  have h := gs_wrap (k := .i8) (n := 7) rfl rfl (ii a)
  rw [h, ← ofi_nat (BitVec.setWidth 8 a)]
  congr 1
  apply BitVec.eq_of_toNat_eq
  unfold ii
  rw [BitVec.toNat_ofInt, BitVec.toNat_ofInt, BitVec.toNat_setWidth, BitVec.toInt_eq_toNat_cond]
  have := a.isLt
  split <;> omega
theorem i16_of_i64 (a : BitVec 64) : IntKind.i16.wrap (ii a) = ii (a.setWidth 16) := by
  have h := gs_wrap (k := .i16) (n := 15) rfl rfl (ii a)
  rw [h, ← ofi_nat (BitVec.setWidth 16 a)]
  congr 1
  apply BitVec.eq_of_toNat_eq
  unfold ii
  rw [BitVec.toNat_ofInt, BitVec.toNat_ofInt, BitVec.toNat_setWidth, BitVec.toInt_eq_toNat_cond]
  have := a.isLt
  split <;> omega
theorem i32_of_i64 (a : BitVec 64) : IntKind.i32.wrap (ii a) = ii (a.setWidth 32) := by
  have h := gs_wrap (k := .i32) (n := 31) rfl rfl (ii a)
  rw [h, ← ofi_nat (BitVec.setWidth 32 a)]
  congr 1
  apply BitVec.eq_of_toNat_eq
  unfold ii
  rw [BitVec.toNat_ofInt, BitVec.toNat_ofInt, BitVec.toNat_setWidth, BitVec.toInt_eq_toNat_cond]
  have := a.isLt
  split <;> omega
theorem g_shl {n : Nat} (x : BitVec n) (v : Int) (hv : BitVec.ofInt n v = x) (m : Nat) : BitVec.ofInt n (v * 2 ^ (min m n)) = x <<< m := by
  subst hv
  apply BitVec.eq_of_toNat_eq
  rw [BitVec.toNat_shiftLeft, BitVec.toNat_ofInt, BitVec.toNat_ofInt, Nat.shiftLeft_eq]
  have hp : (0 : Int) < ((2 ^ n : Nat) : Int) := by have := Nat.two_pow_pos n; omega
  generalize hq : ((2 ^ n : Nat) : Int) = q at *
  have h0 : 0 ≤ v % q := Int.emod_nonneg _ (by omega)
  by_cases h : m ≤ n
  · rw [Nat.min_eq_left h]
    have e : (((v % q).toNat * 2 ^ m % 2 ^ n : Nat) : Int) = (v % q * 2 ^ m) % q := by
      rw [Int.natCast_emod, Int.natCast_mul, Int.toNat_of_nonneg h0, hq]; simp
    have e2 : (v * 2 ^ m) % q = (v % q * 2 ^ m) % q := by simp [Int.mul_emod]
    rw [e2, ← e]
    exact Int.toNat_natCast _
  · rw [Nat.min_eq_right (by omega)]
    have e1 : 2 ^ m = 2 ^ n * 2 ^ (m - n) := by rw [← Nat.pow_add]; congr 1; omega
    rw [e1, ← Nat.mul_assoc, Nat.mul_right_comm, Nat.mul_mod_left]
    have e2 : (2 : Int) ^ n = q := by rw [← hq]; simp
    rw [e2, Int.mul_emod_left]; rfl
theorem u8_shl (P : Program) (T : TypeId) (xo yo : Operand) (x : BitVec 8) (n : Nat) (yk : IntKind) {y : Int} (hy : y = (n : Int)) (w : World) :
    (Q.bin .shl T xo yo (.int .u8 (nn x)) (.int yk y)).sem.run P w = .ok (.value (.int .u8 (nn (x <<< n)))) w := by
  subst hy
  rw [run_shift P .shl (.inl rfl) T xo yo .u8 yk _ _ (by omega) w, if_pos rfl, Int.toNat_natCast, gu_wrap (k := .u8) (n := 8) rfl rfl]
  rw [show IntKind.u8.bits = 8 from rfl, g_shl x _ (ofi_nn x)]
theorem u8_shr (P : Program) (T : TypeId) (xo yo : Operand) (x : BitVec 8) (n : Nat) (yk : IntKind) {y : Int} (hy : y = (n : Int)) (w : World) :
    (Q.bin .shr T xo yo (.int .u8 (nn x)) (.int yk y)).sem.run P w = .ok (.value (.int .u8 (nn (x >>> n)))) w := by
  subst hy
  rw [run_shift P .shr (.inr rfl) T xo yo .u8 yk _ _ (by omega) w, if_neg (by decide), Int.toNat_natCast]
  rw [show IntKind.u8.bits = 8 from rfl]
  congr 3
  unfold nn
  rw [BitVec.toNat_ushiftRight, Nat.shiftRight_eq_div_pow]
  have hx := x.isLt
  by_cases h : n ≤ 8
  · rw [Nat.min_eq_left h]
    have e : (2 : Int) ^ n = ((2 ^ n : Nat) : Int) := by simp
    rw [e, Int.fdiv_eq_ediv_of_nonneg _ (Int.natCast_nonneg _), ← Int.natCast_ediv]
  · rw [Nat.min_eq_right (by omega)]
    have e : x.toNat / 2 ^ n = 0 := Nat.div_eq_of_lt (Nat.lt_of_lt_of_le hx (Nat.pow_le_pow_right (by omega) (by omega)))
    rw [e, Int.fdiv_eq_ediv_of_nonneg _ (by omega)]
    try omega
theorem u8_div (P : Program) (op : BinOp) (ho : op = .quo ∨ op = .rem) (T : TypeId) (xo yo : Operand) (x y : BitVec 8) (hy : y ≠ 0#8) (w : World) :
    (Q.bin op T xo yo (.int .u8 (nn x)) (.int .u8 (nn y))).sem.run P w = .ok (.value (.int .u8 (nn (if op = .quo then x / y else x % y)))) w := by
  have hn : ¬ nn y = 0 := by
    unfold nn
    intro h
    exact hy (BitVec.eq_of_toNat_eq (by simpa using h))
  have h1 : IntKind.u8.wrap ((nn x).tdiv (nn y)) = nn (x / y) := by
    rw [gu_wrap (k := .u8) (n := 8) rfl rfl, ← ofi_nn (x / y)]
    apply congrArg
    unfold nn
    rw [BitVec.toNat_udiv, Int.tdiv_eq_ediv_of_nonneg (by omega), ← Int.natCast_ediv]
  have h2 : (nn x).tmod (nn y) = nn (x % y) := by
    unfold nn
    rw [BitVec.toNat_umod, Int.tmod_eq_emod_of_nonneg (by omega), ← Int.natCast_emod]
  rcases ho with rfl | rfl <;> simp [Q.sem, eqGuard, binOp, Op.intDiv, hn, Sem.run, h1, h2, -Int.natCast_emod]
theorem u8_quo (P : Program) (T : TypeId) (xo yo : Operand) (x y : BitVec 8) (hy : y ≠ 0#8) (w : World) :
    (Q.bin .quo T xo yo (.int .u8 (nn x)) (.int .u8 (nn y))).sem.run P w = .ok (.value (.int .u8 (nn (x / y)))) w := by
  rw [u8_div P .quo (.inl rfl) T xo yo x y hy w, if_pos rfl]
theorem u8_rem (P : Program) (T : TypeId) (xo yo : Operand) (x y : BitVec 8) (hy : y ≠ 0#8) (w : World) :
    (Q.bin .rem T xo yo (.int .u8 (nn x)) (.int .u8 (nn y))).sem.run P w = .ok (.value (.int .u8 (nn (x % y)))) w := by
  rw [u8_div P .rem (.inr rfl) T xo yo x y hy w, if_neg (by decide)]
theorem u16_shl (P : Program) (T : TypeId) (xo yo : Operand) (x : BitVec 16) (n : Nat) (yk : IntKind) {y : Int} (hy : y = (n : Int)) (w : World) :
    (Q.bin .shl T xo yo (.int .u16 (nn x)) (.int yk y)).sem.run P w = .ok (.value (.int .u16 (nn (x <<< n)))) w := by
  subst hy
  rw [run_shift P .shl (.inl rfl) T xo yo .u16 yk _ _ (by omega) w, if_pos rfl, Int.toNat_natCast, gu_wrap (k := .u16) (n := 16) rfl rfl]
  rw [show IntKind.u16.bits = 16 from rfl, g_shl x _ (ofi_nn x)]
theorem u16_shr (P : Program) (T : TypeId) (xo yo : Operand) (x : BitVec 16) (n : Nat) (yk : IntKind) {y : Int} (hy : y = (n : Int)) (w : World) :
    (Q.bin .shr T xo yo (.int .u16 (nn x)) (.int yk y)).sem.run P w = .ok (.value (.int .u16 (nn (x >>> n)))) w := by
  subst hy
  rw [run_shift P .shr (.inr rfl) T xo yo .u16 yk _ _ (by omega) w, if_neg (by decide), Int.toNat_natCast]
  rw [show IntKind.u16.bits = 16 from rfl]
  congr 3
  unfold nn
  rw [BitVec.toNat_ushiftRight, Nat.shiftRight_eq_div_pow]
  have hx := x.isLt
  by_cases h : n ≤ 16
  · rw [Nat.min_eq_left h]
    have e : (2 : Int) ^ n = ((2 ^ n : Nat) : Int) := by simp
    rw [e, Int.fdiv_eq_ediv_of_nonneg _ (Int.natCast_nonneg _), ← Int.natCast_ediv]
  · rw [Nat.min_eq_right (by omega)]
    have e : x.toNat / 2 ^ n = 0 := Nat.div_eq_of_lt (Nat.lt_of_lt_of_le hx (Nat.pow_le_pow_right (by omega) (by omega)))
    rw [e, Int.fdiv_eq_ediv_of_nonneg _ (by omega)]
    try omega
theorem u16_div (P : Program) (op : BinOp) (ho : op = .quo ∨ op = .rem) (T : TypeId) (xo yo : Operand) (x y : BitVec 16) (hy : y ≠ 0#16) (w : World) :
    (Q.bin op T xo yo (.int .u16 (nn x)) (.int .u16 (nn y))).sem.run P w = .ok (.value (.int .u16 (nn (if op = .quo then x / y else x % y)))) w := by
  have hn : ¬ nn y = 0 := by
    unfold nn
    intro h
    exact hy (BitVec.eq_of_toNat_eq (by simpa using h))
  have h1 : IntKind.u16.wrap ((nn x).tdiv (nn y)) = nn (x / y) := by
    rw [gu_wrap (k := .u16) (n := 16) rfl rfl, ← ofi_nn (x / y)]
    apply congrArg
    unfold nn
    rw [BitVec.toNat_udiv, Int.tdiv_eq_ediv_of_nonneg (by omega), ← Int.natCast_ediv]
  have h2 : (nn x).tmod (nn y) = nn (x % y) := by
    unfold nn
    rw [BitVec.toNat_umod, Int.tmod_eq_emod_of_nonneg (by omega), ← Int.natCast_emod]
  rcases ho with rfl | rfl <;> simp [Q.sem, eqGuard, binOp, Op.intDiv, hn, Sem.run, h1, h2, -Int.natCast_emod]
theorem u16_quo (P : Program) (T : TypeId) (xo yo : Operand) (x y : BitVec 16) (hy : y ≠ 0#16) (w : World) :
    (Q.bin .quo T xo yo (.int .u16 (nn x)) (.int .u16 (nn y))).sem.run P w = .ok (.value (.int .u16 (nn (x / y)))) w := by
  rw [u16_div P .quo (.inl rfl) T xo yo x y hy w, if_pos rfl]
theorem u16_rem (P : Program) (T : TypeId) (xo yo : Operand) (x y : BitVec 16) (hy : y ≠ 0#16) (w : World) :
    (Q.bin .rem T xo yo (.int .u16 (nn x)) (.int .u16 (nn y))).sem.run P w = .ok (.value (.int .u16 (nn (x % y)))) w := by
  rw [u16_div P .rem (.inr rfl) T xo yo x y hy w, if_neg (by decide)]
theorem u32_shl (P : Program) (T : TypeId) (xo yo : Operand) (x : BitVec 32) (n : Nat) (yk : IntKind) {y : Int} (hy : y = (n : Int)) (w : World) :
    (Q.bin .shl T xo yo (.int .u32 (nn x)) (.int yk y)).sem.run P w = .ok (.value (.int .u32 (nn (x <<< n)))) w := by
  subst hy
  rw [run_shift P .shl (.inl rfl) T xo yo .u32 yk _ _ (by omega) w, if_pos rfl, Int.toNat_natCast, gu_wrap (k := .u32) (n := 32) rfl rfl]
  rw [show IntKind.u32.bits = 32 from rfl, g_shl x _ (ofi_nn x)]
theorem u32_shr (P : Program) (T : TypeId) (xo yo : Operand) (x : BitVec 32) (n : Nat) (yk : IntKind) {y : Int} (hy : y = (n : Int)) (w : World) :
    (Q.bin .shr T xo yo (.int .u32 (nn x)) (.int yk y)).sem.run P w = .ok (.value (.int .u32 (nn (x >>> n)))) w := by
  subst hy
  rw [run_shift P .shr (.inr rfl) T xo yo .u32 yk _ _ (by omega) w, if_neg (by decide), Int.toNat_natCast]
  rw [show IntKind.u32.bits = 32 from rfl]
  congr 3
  unfold nn
  rw [BitVec.toNat_ushiftRight, Nat.shiftRight_eq_div_pow]
  have hx := x.isLt
  by_cases h : n ≤ 32
  · rw [Nat.min_eq_left h]
    have e : (2 : Int) ^ n = ((2 ^ n : Nat) : Int) := by simp
    rw [e, Int.fdiv_eq_ediv_of_nonneg _ (Int.natCast_nonneg _), ← Int.natCast_ediv]
  · rw [Nat.min_eq_right (by omega)]
    have e : x.toNat / 2 ^ n = 0 := Nat.div_eq_of_lt (Nat.lt_of_lt_of_le hx (Nat.pow_le_pow_right (by omega) (by omega)))
    rw [e, Int.fdiv_eq_ediv_of_nonneg _ (by omega)]
    try omega
theorem u32_div (P : Program) (op : BinOp) (ho : op = .quo ∨ op = .rem) (T : TypeId) (xo yo : Operand) (x y : BitVec 32) (hy : y ≠ 0#32) (w : World) :
    (Q.bin op T xo yo (.int .u32 (nn x)) (.int .u32 (nn y))).sem.run P w = .ok (.value (.int .u32 (nn (if op = .quo then x / y else x % y)))) w := by
  have hn : ¬ nn y = 0 := by
    unfold nn
    intro h
    exact hy (BitVec.eq_of_toNat_eq (by simpa using h))
  have h1 : IntKind.u32.wrap ((nn x).tdiv (nn y)) = nn (x / y) := by
    rw [gu_wrap (k := .u32) (n := 32) rfl rfl, ← ofi_nn (x / y)]
    apply congrArg
    unfold nn
    rw [BitVec.toNat_udiv, Int.tdiv_eq_ediv_of_nonneg (by omega), ← Int.natCast_ediv]
  have h2 : (nn x).tmod (nn y) = nn (x % y) := by
    unfold nn
    rw [BitVec.toNat_umod, Int.tmod_eq_emod_of_nonneg (by omega), ← Int.natCast_emod]
  rcases ho with rfl | rfl <;> simp [Q.sem, eqGuard, binOp, Op.intDiv, hn, Sem.run, h1, h2, -Int.natCast_emod]
theorem u32_quo (P : Program) (T : TypeId) (xo yo : Operand) (x y : BitVec 32) (hy : y ≠ 0#32) (w : World) :
    (Q.bin .quo T xo yo (.int .u32 (nn x)) (.int .u32 (nn y))).sem.run P w = .ok (.value (.int .u32 (nn (x / y)))) w := by
  rw [u32_div P .quo (.inl rfl) T xo yo x y hy w, if_pos rfl]
theorem u32_rem (P : Program) (T : TypeId) (xo yo : Operand) (x y : BitVec 32) (hy : y ≠ 0#32) (w : World) :
    (Q.bin .rem T xo yo (.int .u32 (nn x)) (.int .u32 (nn y))).sem.run P w = .ok (.value (.int .u32 (nn (x % y)))) w := by
  rw [u32_div P .rem (.inr rfl) T xo yo x y hy w, if_neg (by decide)]
theorem u64_div (P : Program) (op : BinOp) (ho : op = .quo ∨ op = .rem) (T : TypeId) (xo yo : Operand) (x y : BitVec 64) (hy : y ≠ 0#64) (w : World) :
    (Q.bin op T xo yo (.int .u64 (nn x)) (.int .u64 (nn y))).sem.run P w = .ok (.value (.int .u64 (nn (if op = .quo then x / y else x % y)))) w := by
  have hn : ¬ nn y = 0 := by
    unfold nn
    intro h
    exact hy (BitVec.eq_of_toNat_eq (by simpa using h))
  have h1 : IntKind.u64.wrap ((nn x).tdiv (nn y)) = nn (x / y) := by
    rw [gu_wrap (k := .u64) (n := 64) rfl rfl, ← ofi_nn (x / y)]
    apply congrArg
    unfold nn
    rw [BitVec.toNat_udiv, Int.tdiv_eq_ediv_of_nonneg (by omega), ← Int.natCast_ediv]
  have h2 : (nn x).tmod (nn y) = nn (x % y) := by
    unfold nn
    rw [BitVec.toNat_umod, Int.tmod_eq_emod_of_nonneg (by omega), ← Int.natCast_emod]
  rcases ho with rfl | rfl <;> simp [Q.sem, eqGuard, binOp, Op.intDiv, hn, Sem.run, h1, h2, -Int.natCast_emod]
theorem i8_shl (P : Program) (T : TypeId) (xo yo : Operand) (x : BitVec 8) (n : Nat) (yk : IntKind) {y : Int} (hy : y = (n : Int)) (w : World) :
    (Q.bin .shl T xo yo (.int .i8 (ii x)) (.int yk y)).sem.run P w = .ok (.value (.int .i8 (ii (x <<< n)))) w := by
  subst hy
  rw [run_shift P .shl (.inl rfl) T xo yo .i8 yk _ _ (by omega) w, if_pos rfl, Int.toNat_natCast, gs_wrap (k := .i8) (n := 7) rfl rfl]
  rw [show IntKind.i8.bits = 8 from rfl, g_shl x _ (ofi_ii x)]
theorem i8_shr (P : Program) (T : TypeId) (xo yo : Operand) (x : BitVec 8) (n : Nat) (yk : IntKind) {y : Int} (hn : n < 8) (hy : y = (n : Int)) (w : World) :
    (Q.bin .shr T xo yo (.int .i8 (ii x)) (.int yk y)).sem.run P w = .ok (.value (.int .i8 (ii (x.sshiftRight n)))) w := by
  subst hy
  rw [run_shift P .shr (.inr rfl) T xo yo .i8 yk _ _ (by omega) w, if_neg (by decide), Int.toNat_natCast]
  rw [show IntKind.i8.bits = 8 from rfl]
  congr 3
  unfold ii
  rw [BitVec.toInt_sshiftRight, Nat.min_eq_left (by omega), Int.shiftRight_eq_div_pow]
  have e : (2 : Int) ^ n = ((2 ^ n : Nat) : Int) := by simp
  rw [e, Int.fdiv_eq_ediv_of_nonneg _ (Int.natCast_nonneg _)]
theorem i16_shl (P : Program) (T : TypeId) (xo yo : Operand) (x : BitVec 16) (n : Nat) (yk : IntKind) {y : Int} (hy : y = (n : Int)) (w : World) :
    (Q.bin .shl T xo yo (.int .i16 (ii x)) (.int yk y)).sem.run P w = .ok (.value (.int .i16 (ii (x <<< n)))) w := by
  subst hy
  rw [run_shift P .shl (.inl rfl) T xo yo .i16 yk _ _ (by omega) w, if_pos rfl, Int.toNat_natCast, gs_wrap (k := .i16) (n := 15) rfl rfl]
  rw [show IntKind.i16.bits = 16 from rfl, g_shl x _ (ofi_ii x)]
theorem i16_shr (P : Program) (T : TypeId) (xo yo : Operand) (x : BitVec 16) (n : Nat) (yk : IntKind) {y : Int} (hn : n < 16) (hy : y = (n : Int)) (w : World) :
    (Q.bin .shr T xo yo (.int .i16 (ii x)) (.int yk y)).sem.run P w = .ok (.value (.int .i16 (ii (x.sshiftRight n)))) w := by
  subst hy
  rw [run_shift P .shr (.inr rfl) T xo yo .i16 yk _ _ (by omega) w, if_neg (by decide), Int.toNat_natCast]
  rw [show IntKind.i16.bits = 16 from rfl]
  congr 3
  unfold ii
  rw [BitVec.toInt_sshiftRight, Nat.min_eq_left (by omega), Int.shiftRight_eq_div_pow]
  have e : (2 : Int) ^ n = ((2 ^ n : Nat) : Int) := by simp
  rw [e, Int.fdiv_eq_ediv_of_nonneg _ (Int.natCast_nonneg _)]
theorem i32_shl (P : Program) (T : TypeId) (xo yo : Operand) (x : BitVec 32) (n : Nat) (yk : IntKind) {y : Int} (hy : y = (n : Int)) (w : World) :
    (Q.bin .shl T xo yo (.int .i32 (ii x)) (.int yk y)).sem.run P w = .ok (.value (.int .i32 (ii (x <<< n)))) w := by
  subst hy
  rw [run_shift P .shl (.inl rfl) T xo yo .i32 yk _ _ (by omega) w, if_pos rfl, Int.toNat_natCast, gs_wrap (k := .i32) (n := 31) rfl rfl]
  rw [show IntKind.i32.bits = 32 from rfl, g_shl x _ (ofi_ii x)]
theorem i32_shr (P : Program) (T : TypeId) (xo yo : Operand) (x : BitVec 32) (n : Nat) (yk : IntKind) {y : Int} (hn : n < 32) (hy : y = (n : Int)) (w : World) :
    (Q.bin .shr T xo yo (.int .i32 (ii x)) (.int yk y)).sem.run P w = .ok (.value (.int .i32 (ii (x.sshiftRight n)))) w := by
  subst hy
  rw [run_shift P .shr (.inr rfl) T xo yo .i32 yk _ _ (by omega) w, if_neg (by decide), Int.toNat_natCast]
  rw [show IntKind.i32.bits = 32 from rfl]
  congr 3
  unfold ii
  rw [BitVec.toInt_sshiftRight, Nat.min_eq_left (by omega), Int.shiftRight_eq_div_pow]
  have e : (2 : Int) ^ n = ((2 ^ n : Nat) : Int) := by simp
  rw [e, Int.fdiv_eq_ediv_of_nonneg _ (Int.natCast_nonneg _)]
theorem i64_shl (P : Program) (T : TypeId) (xo yo : Operand) (x : BitVec 64) (n : Nat) (yk : IntKind) {y : Int} (hy : y = (n : Int)) (w : World) :
    (Q.bin .shl T xo yo (.int .i64 (ii x)) (.int yk y)).sem.run P w = .ok (.value (.int .i64 (ii (x <<< n)))) w := by
  subst hy
  rw [run_shift P .shl (.inl rfl) T xo yo .i64 yk _ _ (by omega) w, if_pos rfl, Int.toNat_natCast, gs_wrap (k := .i64) (n := 63) rfl rfl]
  rw [show IntKind.i64.bits = 64 from rfl, g_shl x _ (ofi_ii x)]
theorem ii_nat {n : Nat} (a : BitVec n) (h : 2 * a.toNat < 2 ^ n) : ii a = (a.toNat : Int) := by
  unfold ii; rw [BitVec.toInt_eq_toNat_cond, if_pos h]
theorem mask_le {n : Nat} (a k : BitVec n) : (a &&& k).toNat ≤ k.toNat := by rw [BitVec.toNat_and]; exact Nat.and_le_right
theorem ii_mask {n : Nat} (a k : BitVec n) (h : 2 * k.toNat < 2 ^ n) : ii (a &&& k) = ((a &&& k).toNat : Int) := ii_nat _ (by have := mask_le a k; omega)
theorem mask_lt {n m : Nat} (a k : BitVec n) (h : k.toNat < m) : (a &&& k).toNat < m := Nat.lt_of_le_of_lt (mask_le a k) h
end Go.Proofs.YtnlnldpolaodbaaDoor
