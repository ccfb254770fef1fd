/-
  What an operation makes of numbers of 32 bits, by what it makes of 64.
-/
import Derived.Test.YtmhiiahfjoijgaaGreatL7MD
namespace Go.Proofs.YtmhiiahfjoijgaaGreat
open Go.RowKit
set_option linter.unusedVariables false
set_option linter.unusedSimpArgs false
abbrev M32 : BitVec 64 := 4294967295#64
abbrev lo (x : BitVec 64) : BitVec 64 := x &&& M32
theorem lo_n (x : BitVec 64) : (lo x).toNat = x.toNat % 4294967296 := and_mod x 32 _ (by decide)
theorem sw_n (x : BitVec 64) : (x.setWidth 32).toNat = x.toNat % 4294967296 := BitVec.toNat_setWidth ..
theorem up_n (v : BitVec 32) : (v.setWidth 64).toNat = v.toNat := by rw [BitVec.toNat_setWidth]; exact Nat.mod_eq_of_lt (Nat.lt_trans v.isLt (by decide))
theorem nw_ext {u : BitVec 64} {v : BitVec 32} (h : u.toNat % 4294967296 = v.toNat) : lo u = v.setWidth 64 := BitVec.eq_of_toNat_eq (by rw [lo_n, up_n, h])
section
variable (x y : BitVec 64)
theorem nw_add : lo (lo x + lo y) = (x.setWidth 32 + y.setWidth 32).setWidth 64 := nw_ext (by rw [add_n, BitVec.toNat_add, lo_n, lo_n, sw_n, sw_n]; omega)
theorem nw_sub : lo (lo x - lo y) = (x.setWidth 32 - y.setWidth 32).setWidth 64 := nw_ext (by rw [sub_n, BitVec.toNat_sub, lo_n, lo_n, sw_n, sw_n]; omega)
theorem nw_neg : lo (-lo x) = (-(x.setWidth 32)).setWidth 64 := nw_ext (by rw [BitVec.toNat_neg, BitVec.toNat_neg, lo_n, sw_n]; omega)
theorem nw_mul : lo (lo x * lo y) = (x.setWidth 32 * y.setWidth 32).setWidth 64 := nw_ext (by rw [BitVec.toNat_mul, BitVec.toNat_mul, lo_n, lo_n, sw_n, sw_n]; exact Nat.mod_mod_of_dvd _ (by decide))
theorem nw_or : lo (lo x ||| lo y) = (x.setWidth 32 ||| y.setWidth 32).setWidth 64 := by
  apply bit_ext; intro i hi
  simp only [lo, M32, BitVec.getLsbD_and, BitVec.getLsbD_or, BitVec.getLsbD_setWidth, hi, decide_true, Bool.true_and]
  rw [show (4294967295#64 : BitVec 64).getLsbD i = decide (i < 32) from mk_bit 32 (by decide) i hi]
  by_cases h : i < 32 <;> simp [h]
theorem nw_and : lo (lo x &&& lo y) = (x.setWidth 32 &&& y.setWidth 32).setWidth 64 := by
  apply bit_ext; intro i hi
  simp only [lo, M32, BitVec.getLsbD_and, BitVec.getLsbD_or, BitVec.getLsbD_setWidth, hi, decide_true, Bool.true_and]
  rw [show (4294967295#64 : BitVec 64).getLsbD i = decide (i < 32) from mk_bit 32 (by decide) i hi]
  by_cases h : i < 32 <;> simp [h]
theorem nw_xor : lo (lo x ^^^ lo y) = (x.setWidth 32 ^^^ y.setWidth 32).setWidth 64 := by
  apply bit_ext; intro i hi
  simp only [lo, M32, BitVec.getLsbD_and, BitVec.getLsbD_xor, BitVec.getLsbD_setWidth, hi, decide_true, Bool.true_and]
  rw [show (4294967295#64 : BitVec 64).getLsbD i = decide (i < 32) from mk_bit 32 (by decide) i hi]
  by_cases h : i < 32 <;> simp [h]
theorem z32 (v : BitVec 32) : (v == 0#32) = decide (v.toNat = 0) := by rw [Bool.eq_iff_iff, beq_iff_eq, decide_eq_true_eq, BitVec.toNat_eq]; rfl
theorem nw_div : lo (qu (lo x) (lo y)) = (bif y.setWidth 32 == 0#32 then 0#32 else x.setWidth 32 / y.setWidth 32).setWidth 64 := nw_ext (by
  rw [qu_n, lo_n, lo_n, z32, sw_n]
  by_cases c : y.toNat % 4294967296 = 0
  · simp [c]
  · rw [if_neg c, decide_eq_false c, cond_false, BitVec.toNat_udiv, sw_n, sw_n]
    have := Nat.div_le_self (x.toNat % 4294967296) (y.toNat % 4294967296)
    exact Nat.mod_eq_of_lt (by omega))
theorem nw_mod : lo (re (lo x) (lo y)) = (bif y.setWidth 32 == 0#32 then x.setWidth 32 else x.setWidth 32 % y.setWidth 32).setWidth 64 := nw_ext (by
  rw [re_n, lo_n, lo_n, z32, sw_n]
  by_cases c : y.toNat % 4294967296 = 0
  · rw [if_pos c, decide_eq_true c, cond_true, sw_n]; omega
  · rw [if_neg c, decide_eq_false c, cond_false, BitVec.toNat_umod, sw_n, sw_n]
    have := Nat.mod_le (x.toNat % 4294967296) (y.toNat % 4294967296)
    exact Nat.mod_eq_of_lt (by omega))
theorem cnt64 : (y &&& (64#64 - 1#64)).toNat = (y % 64#64).toNat := by
  rw [and_mod y 6 _ (by decide), BitVec.toNat_umod]; rfl
theorem cnt32 : (lo y &&& (32#64 - 1#64)).toNat = (y.setWidth 32 % 32#32).toNat := by
  rw [and_mod (lo y) 5 _ (by decide), BitVec.toNat_umod, lo_n, sw_n]
  show y.toNat % 4294967296 % 32 = y.toNat % 4294967296 % 32
  rfl
theorem nw_lsh (n : Nat) : lo (lo x <<< n) = (x.setWidth 32 <<< n).setWidth 64 := by
  apply bit_ext; intro i hi
  simp only [lo, M32, BitVec.getLsbD_and, BitVec.getLsbD_shiftLeft, BitVec.getLsbD_setWidth, hi, decide_true, Bool.true_and]
  rw [show (4294967295#64 : BitVec 64).getLsbD i = decide (i < 32) from mk_bit 32 (by decide) i hi]
  by_cases h : i < 32
  · have h2 : i - n < 64 := by omega
    have h3 : i - n < 32 := by omega
    rw [show (4294967295#64 : BitVec 64).getLsbD (i - n) = decide (i - n < 32) from mk_bit 32 (by decide) _ h2]
    simp [h, h3]
  · simp [h]
theorem nw_rsh (n : Nat) : lo (lo x >>> n) = (x.setWidth 32 >>> n).setWidth 64 := nw_ext (by
  rw [BitVec.toNat_ushiftRight, BitVec.toNat_ushiftRight, lo_n, sw_n, Nat.shiftRight_eq_div_pow]
  have := Nat.div_le_self (x.toNat % 4294967296) (2 ^ n)
  exact Nat.mod_eq_of_lt (by omega))
theorem nw_arsh (n : Nat) : lo ((sx (lo x)).sshiftRight n) = ((x.setWidth 32).sshiftRight n).setWidth 64 := by
  have e : sx (lo x) = (x.setWidth 32).signExtend 64 := by
    unfold sx
    congr 1
    exact BitVec.eq_of_toNat_eq (by rw [sw_n, sw_n, lo_n]; omega)
  rw [e]
  apply bit_ext; intro i hi
  simp only [lo, M32, BitVec.getLsbD_and, BitVec.getLsbD_setWidth, BitVec.getLsbD_sshiftRight, BitVec.getLsbD_signExtend, hi, decide_true, Bool.true_and]
  rw [show (4294967295#64 : BitVec 64).getLsbD i = decide (i < 32) from mk_bit 32 (by decide) i hi]
  by_cases h : i < 32
  · have n64 : ¬ 64 ≤ i := by omega
    have n32 : ¬ 32 ≤ i := by omega
    simp only [h, n64, n32, decide_false, decide_true, Bool.not_false, Bool.true_and, Bool.and_true]
    by_cases h2 : n + i < 32
    · have h3 : n + i < 64 := by omega
      simp [h2, h3]
    · by_cases h3 : n + i < 64
      · simp [h2, h3]
      · simp [h2, h3, BitVec.msb_signExtend]
  · simp [h]
end
end Go.Proofs.YtmhiiahfjoijgaaGreat
