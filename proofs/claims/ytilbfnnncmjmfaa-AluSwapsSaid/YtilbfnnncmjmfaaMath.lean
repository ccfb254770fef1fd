/-
  What the operations of the layer alu make of two numbers, as functions on natural numbers, and laws of them. Nothing of the program stands here.
-/
import Derived.WalkKit
import Derived.Laws.Bits64
import Derived.Laws.Bits64b
namespace Go.Proofs.Ytilbfnnncmjmfaa
open Go.RowKit

/-- What the operation of code k makes of two numbers of m bits. -/
def opN (m k x y : Nat) : Nat :=
  match k with
  | 0 => (x + y) % 2 ^ m
  | 1 => (x + (2 ^ m - y)) % 2 ^ m
  | 2 => (x * y) % 2 ^ m
  | 3 => x / y
  | 4 => x ||| y
  | 5 => x &&& y
  | 6 => x * 2 ^ (y % m) % 2 ^ m
  | 7 => x / 2 ^ (y % m)
  | 8 => (2 ^ m - x) % 2 ^ m
  | 9 => x % y
  | 10 => x ^^^ y
  | 11 => y
  | _ => if x < 2 ^ (m - 1) then x / 2 ^ (y % m) else 2 ^ m - 1 - (2 ^ m - 1 - x) / 2 ^ (y % m)

/-- Of 64 bits, or of the lowest 32 of each. -/
def doN (k : Nat) (wide : Bool) (x y : Nat) : Nat :=
  if wide then opN 64 k x y else opN 32 k (x % 4294967296) (y % 4294967296)

theorem opN_6 (m x y : Nat) : opN m 6 x y = x * 2 ^ (y % m) % 2 ^ m := rfl
theorem opN_7 (m x y : Nat) : opN m 7 x y = x / 2 ^ (y % m) := rfl
theorem opN_11 (m x y : Nat) : opN m 11 x y = y := rfl
theorem opN_12 (m x y : Nat) : opN m 12 x y = if x < 2 ^ (m - 1) then x / 2 ^ (y % m) else 2 ^ m - 1 - (2 ^ m - 1 - x) / 2 ^ (y % m) := rfl

theorem wrap_u64 (n : Int) : IntKind.u64.wrap n = n % 18446744073709551616 := by
  simp [IntKind.wrap, IntKind.signed, IntKind.bits]
theorem wrap_u32 (n : Int) : IntKind.u32.wrap n = n % 4294967296 := by
  simp [IntKind.wrap, IntKind.signed, IntKind.bits]
theorem bits_and_u32 (a b : Nat) (ha : a < 4294967296) (hb : b < 4294967296) : bits .and .u32 (a : Int) (b : Int) = ((a &&& b : Nat) : Int) := by
  have hx : a &&& b < 2 ^ 32 := Nat.and_lt_two_pow _ (by omega)
  have h1 : (BitVec.ofInt 32 (a : Int)).toNat = a := by
    rw [BitVec.ofInt_natCast, BitVec.toNat_ofNat]; exact Nat.mod_eq_of_lt (by omega)
  have h2 : (BitVec.ofInt 32 (b : Int)).toNat = b := by
    rw [BitVec.ofInt_natCast, BitVec.toNat_ofNat]; exact Nat.mod_eq_of_lt (by omega)
  show IntKind.u32.wrap ((BitVec.ofInt 32 (a : Int) &&& BitVec.ofInt 32 (b : Int)).toNat : Int) = _
  rw [BitVec.toNat_and, h1, h2, wrap_u32]
  omega
theorem bits_or_u32 (a b : Nat) (ha : a < 4294967296) (hb : b < 4294967296) : bits .or .u32 (a : Int) (b : Int) = ((a ||| b : Nat) : Int) := by
  have hx : a ||| b < 2 ^ 32 := Nat.or_lt_two_pow (by omega) (by omega)
  have h1 : (BitVec.ofInt 32 (a : Int)).toNat = a := by
    rw [BitVec.ofInt_natCast, BitVec.toNat_ofNat]; exact Nat.mod_eq_of_lt (by omega)
  have h2 : (BitVec.ofInt 32 (b : Int)).toNat = b := by
    rw [BitVec.ofInt_natCast, BitVec.toNat_ofNat]; exact Nat.mod_eq_of_lt (by omega)
  show IntKind.u32.wrap ((BitVec.ofInt 32 (a : Int) ||| BitVec.ofInt 32 (b : Int)).toNat : Int) = _
  rw [BitVec.toNat_or, h1, h2, wrap_u32]
  omega
theorem bits_xor_u32 (a b : Nat) (ha : a < 4294967296) (hb : b < 4294967296) : bits .xor .u32 (a : Int) (b : Int) = ((a ^^^ b : Nat) : Int) := by
  have hx : a ^^^ b < 2 ^ 32 := Nat.xor_lt_two_pow (by omega) (by omega)
  have h1 : (BitVec.ofInt 32 (a : Int)).toNat = a := by
    rw [BitVec.ofInt_natCast, BitVec.toNat_ofNat]; exact Nat.mod_eq_of_lt (by omega)
  have h2 : (BitVec.ofInt 32 (b : Int)).toNat = b := by
    rw [BitVec.ofInt_natCast, BitVec.toNat_ofNat]; exact Nat.mod_eq_of_lt (by omega)
  show IntKind.u32.wrap ((BitVec.ofInt 32 (a : Int) ^^^ BitVec.ofInt 32 (b : Int)).toNat : Int) = _
  rw [BitVec.toNat_xor, h1, h2, wrap_u32]
  omega

/-- Division downwards of a number below 0. -/
theorem ediv_below (n P : Nat) (hP : 0 < P) : (-(n : Int) - 1) / (P : Int) = -((n / P : Nat) : Int) - 1 := by
  have h := Int.negSucc_ediv n (b := (P : Int)) (by omega)
  have e : Int.negSucc n = -(n : Int) - 1 := by omega
  rw [e] at h
  rw [h]
  have : Int.ediv (n : Int) (P : Int) = ((n / P : Nat) : Int) := rfl
  omega

theorem asr64 (x s : Nat) (hx : x < 18446744073709551616) :
    IntKind.u64.wrap (wrap64 x / 2 ^ s) = ((if x < 2 ^ (64 - 1) then x / 2 ^ s else 2 ^ 64 - 1 - (2 ^ 64 - 1 - x) / 2 ^ s : Nat) : Int) := by
  have hP : 0 < 2 ^ s := Nat.two_pow_pos s
  have ec : (2 : Int) ^ s = ((2 ^ s : Nat) : Int) := by simp
  rw [wrap_u64, ec]
  generalize 2 ^ s = P at *
  by_cases h : x < 9223372036854775808
  · rw [if_pos (by simpa using h)]
    have e : wrap64 (x : Int) = x := by unfold wrap64; omega
    have := Nat.div_le_self x P
    rw [e, ← Int.natCast_ediv]
    generalize x / P = q at *
    clear ec e
    omega
  · rw [if_neg (by simpa using h)]
    have e : wrap64 (x : Int) = -((18446744073709551615 - x : Nat) : Int) - 1 := by unfold wrap64; omega
    have := Nat.div_le_self (18446744073709551615 - x) P
    rw [e, ediv_below _ _ hP]
    have e3 : (2 ^ 64 - 1 - x : Nat) = 18446744073709551615 - x := by omega
    rw [e3]
    clear ec e e3
    generalize (18446744073709551615 - x) / P = q at *
    omega
theorem asr32 (x s : Nat) (hx : x < 4294967296) :
    IntKind.u32.wrap (wrap32 x / 2 ^ s) = ((if x < 2 ^ (32 - 1) then x / 2 ^ s else 2 ^ 32 - 1 - (2 ^ 32 - 1 - x) / 2 ^ s : Nat) : Int) := by
  have hP : 0 < 2 ^ s := Nat.two_pow_pos s
  have ec : (2 : Int) ^ s = ((2 ^ s : Nat) : Int) := by simp
  rw [wrap_u32, ec]
  generalize 2 ^ s = P at *
  by_cases h : x < 2147483648
  · rw [if_pos (by simpa using h)]
    have e : wrap32 (x : Int) = x := by unfold wrap32; omega
    have := Nat.div_le_self x P
    rw [e, ← Int.natCast_ediv]
    generalize x / P = q at *
    clear ec e
    omega
  · rw [if_neg (by simpa using h)]
    have e : wrap32 (x : Int) = -((4294967295 - x : Nat) : Int) - 1 := by unfold wrap32; omega
    have := Nat.div_le_self (4294967295 - x) P
    rw [e, ediv_below _ _ hP]
    have e3 : (2 ^ 32 - 1 - x : Nat) = 4294967295 - x := by omega
    rw [e3]
    clear ec e e3
    generalize (4294967295 - x) / P = q at *
    omega

theorem opN_lt (m k x y : Nat) (hx : x < 2 ^ m) (hy : y < 2 ^ m) : opN m k x y < 2 ^ m := by
  have h2 : 0 < 2 ^ m := Nat.two_pow_pos m
  unfold opN
  split
  · exact Nat.mod_lt _ h2
  · exact Nat.mod_lt _ h2
  · exact Nat.mod_lt _ h2
  · exact Nat.lt_of_le_of_lt (Nat.div_le_self _ _) hx
  · exact Nat.or_lt_two_pow hx hy
  · exact Nat.and_lt_two_pow _ hy
  · exact Nat.mod_lt _ h2
  · exact Nat.lt_of_le_of_lt (Nat.div_le_self _ _) hx
  · exact Nat.mod_lt _ h2
  · exact Nat.lt_of_le_of_lt (Nat.mod_le _ _) hx
  · exact Nat.xor_lt_two_pow hx hy
  · exact hy
  · split
    · exact Nat.lt_of_le_of_lt (Nat.div_le_self _ _) hx
    · exact Nat.lt_of_le_of_lt (Nat.sub_le _ _) (by omega)

theorem doN_lt (k : Nat) (wide : Bool) (x y : Nat) (hx : x < 18446744073709551616) (hy : y < 18446744073709551616) : doN k wide x y < 18446744073709551616 := by
  unfold doN
  cases wide
  · have := opN_lt 32 k (x % 4294967296) (y % 4294967296) (by omega) (by omega)
    simp only [Bool.false_eq_true, if_false]; omega
  · have := opN_lt 64 k x y (by omega) (by omega)
    simp only [if_true]; omega
theorem doN_lt32 (k : Nat) (x y : Nat) : doN k false x y < 4294967296 := by
  have := opN_lt 32 k (x % 4294967296) (y % 4294967296) (by omega) (by omega)
  unfold doN
  simp only [Bool.false_eq_true, if_false]; omega

/-- What both have and what one of them has make both together. -/
theorem or_add_and (x y : Nat) : (x ||| y) + (x &&& y) = x + y := by
  induction x using Nat.strongRecOn generalizing y with
  | _ x ih =>
    by_cases h0 : x = 0
    · subst h0; simp
    · have h := ih (x / 2) (by omega) (y / 2)
      have a := Nat.or_div_two (a := x) (b := y)
      have b := Nat.and_div_two (a := x) (b := y)
      have c : (x ||| y) % 2 = (x % 2 ||| y % 2) := Nat.or_mod_two_pow (n := 1)
      have d : (x &&& y) % 2 = (x % 2 &&& y % 2) := Nat.and_mod_two_pow (n := 1)
      rcases Nat.mod_two_eq_zero_or_one x with e | e <;> rcases Nat.mod_two_eq_zero_or_one y with f | f <;> rw [e, f] at c d
      · have c : (x ||| y) % 2 = 0 := c
        have d : (x &&& y) % 2 = 0 := d
        omega
      · have c : (x ||| y) % 2 = 1 := c
        have d : (x &&& y) % 2 = 0 := d
        omega
      · have c : (x ||| y) % 2 = 1 := c
        have d : (x &&& y) % 2 = 0 := d
        omega
      · have c : (x ||| y) % 2 = 1 := c
        have d : (x &&& y) % 2 = 1 := d
        omega
theorem xor_add_and (x y : Nat) : (x ^^^ y) + (x &&& y) = (x ||| y) := by
  induction x using Nat.strongRecOn generalizing y with
  | _ x ih =>
    by_cases h0 : x = 0
    · subst h0; simp
    · have h := ih (x / 2) (by omega) (y / 2)
      have a := Nat.or_div_two (a := x) (b := y)
      have b := Nat.and_div_two (a := x) (b := y)
      have g := Nat.xor_div_two (a := x) (b := y)
      have c : (x ||| y) % 2 = (x % 2 ||| y % 2) := Nat.or_mod_two_pow (n := 1)
      have d : (x &&& y) % 2 = (x % 2 &&& y % 2) := Nat.and_mod_two_pow (n := 1)
      have i : (x ^^^ y) % 2 = (x % 2 ^^^ y % 2) := Nat.xor_mod_two_pow (n := 1)
      rcases Nat.mod_two_eq_zero_or_one x with e | e <;> rcases Nat.mod_two_eq_zero_or_one y with f | f <;> rw [e, f] at c d i
      · have c : (x ||| y) % 2 = 0 := c
        have d : (x &&& y) % 2 = 0 := d
        have i : (x ^^^ y) % 2 = 0 := i
        omega
      · have c : (x ||| y) % 2 = 1 := c
        have d : (x &&& y) % 2 = 0 := d
        have i : (x ^^^ y) % 2 = 1 := i
        omega
      · have c : (x ||| y) % 2 = 1 := c
        have d : (x &&& y) % 2 = 0 := d
        have i : (x ^^^ y) % 2 = 1 := i
        omega
      · have c : (x ||| y) % 2 = 1 := c
        have d : (x &&& y) % 2 = 1 := d
        have i : (x ^^^ y) % 2 = 0 := i
        omega

/-- The lowest 32 bits, or all of them. -/
def lowN (wide : Bool) (x : Nat) : Nat := if wide then x else x % 4294967296

theorem bits_laws (wide : Bool) (x y : Nat) (hx : x < 18446744073709551616) (hy : y < 18446744073709551616) :
    doN 0 wide (doN 4 wide x y) (doN 5 wide x y) = doN 0 wide x y ∧ doN 1 wide (doN 4 wide x y) (doN 5 wide x y) = doN 10 wide x y ∧
    doN 10 wide (doN 10 wide x y) y = lowN wide x := by
  cases wide
  · simp only [doN, lowN, opN, Bool.false_eq_true, if_false]
    have hx' : x % 4294967296 < 2 ^ 32 := by omega
    have hy' : y % 4294967296 < 2 ^ 32 := by omega
    generalize x % 4294967296 = a at *
    generalize y % 4294967296 = b at *
    have l1 := Nat.or_lt_two_pow hx' hy'
    have l2 := Nat.and_lt_two_pow a hy'
    have l3 := Nat.xor_lt_two_pow hx' hy'
    have e1 := or_add_and a b
    have e2 := xor_add_and a b
    refine ⟨by omega, by omega, ?_⟩
    rw [Nat.mod_eq_of_lt (show a ^^^ b < 4294967296 by omega), Nat.xor_assoc, Nat.xor_self, Nat.xor_zero]
  · simp only [doN, lowN, opN, if_true]
    have hx' : x < 2 ^ 64 := by omega
    have hy' : y < 2 ^ 64 := by omega
    have l1 := Nat.or_lt_two_pow hx' hy'
    have l2 := Nat.and_lt_two_pow x hy'
    have l3 := Nat.xor_lt_two_pow hx' hy'
    have e1 := or_add_and x y
    have e2 := xor_add_and x y
    refine ⟨by omega, by omega, ?_⟩
    rw [Nat.xor_assoc, Nat.xor_self, Nat.xor_zero]

end Go.Proofs.Ytilbfnnncmjmfaa
