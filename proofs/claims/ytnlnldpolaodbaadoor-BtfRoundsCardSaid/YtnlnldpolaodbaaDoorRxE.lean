/-
  Contracts of functions that only reckon, out of their runs with letters; words on numbers. Nothing of the program stands here.
-/
import Derived.Test.YtnlnldpolaodbaaDoorRxF
import Derived.KernelRfl
namespace Go.Proofs.YtnlnldpolaodbaaDoor
open Go.RowKit
set_option linter.unusedVariables false
set_option linter.unusedSimpArgs false
def Con (P : Program) (f : FuncId) (args : Array Value) (V : Value) : Prop := ∀ w, Calls' P f args w fun e w' => e = .returned V ∧ Below w.heap.size w w'
/-! ### Numbers -/
/-- A word as the program's number, without and with a sign. -/
def nn {n : Nat} (x : BitVec n) : Int := (x.toNat : Int)
def ii {n : Nat} (x : BitVec n) : Int := x.toInt
theorem u64_and (a b : BitVec 64) : bits .and .u64 (nn a) (nn b) = nn (a &&& b) := by
  unfold nn; rw [bits_and_u64_nat _ _ a.isLt b.isLt, BitVec.toNat_and]
theorem u64_or (a b : BitVec 64) : bits .or .u64 (nn a) (nn b) = nn (a ||| b) := by
  unfold nn; rw [bits_or_u64_nat _ _ a.isLt b.isLt, BitVec.toNat_or]
theorem u64_xor (a b : BitVec 64) : bits .xor .u64 (nn a) (nn b) = nn (a ^^^ b) := by
  unfold nn; rw [bits_xor_u64_nat _ _ a.isLt b.isLt, BitVec.toNat_xor]
theorem u64_not (a b : BitVec 64) : bits .andNot .u64 (nn a) (nn b) = nn (a &&& ~~~b) := by
  unfold nn
  show IntKind.u64.wrap ((BitVec.ofInt 64 (a.toNat : Int) &&& ~~~BitVec.ofInt 64 (b.toNat : Int)).toNat : Int) = _
  rw [BitVec.ofInt_natCast, BitVec.ofInt_natCast, BitVec.ofNat_toNat, BitVec.ofNat_toNat, BitVec.setWidth_eq, BitVec.setWidth_eq, IntKind.wrap_u64]
  have := (a &&& ~~~b).isLt
  omega
theorem u64_compl (a : BitVec 64) : bits .xor .u64 IntKind.u64.max (nn a) = nn (~~~a) := by
  have h : IntKind.u64.max = nn (BitVec.allOnes 64) := by decide
  rw [h, u64_xor, BitVec.allOnes_xor]
theorem u64_add (a b : BitVec 64) : IntKind.u64.wrap (nn a + nn b) = nn (a + b) := by
  unfold nn; rw [IntKind.wrap_u64, BitVec.toNat_add]; omega
theorem u64_sub (a b : BitVec 64) : IntKind.u64.wrap (nn a - nn b) = nn (a - b) := by
  unfold nn
  have := a.isLt
  have := b.isLt
  rw [IntKind.wrap_u64, BitVec.toNat_sub]; omega
theorem u64_mul (a b : BitVec 64) : IntKind.u64.wrap (nn a * nn b) = nn (a * b) := by
  unfold nn; rw [IntKind.wrap_u64, BitVec.toNat_mul]; simp
theorem u_eq {n : Nat} (a b : BitVec n) : (nn a == nn b) = (a == b) := by
  rw [Bool.eq_iff_iff]; simp only [nn, beq_iff_eq, BitVec.toNat_eq]; omega
theorem u_ne {n : Nat} (a b : BitVec n) : (nn a != nn b) = !(a == b) := by rw [bne, u_eq]
theorem u_lt {n : Nat} (a b : BitVec n) : decide (nn a < nn b) = a.ult b := by
  rw [Bool.eq_iff_iff]; simp [nn, BitVec.ult]
theorem u_le {n : Nat} (a b : BitVec n) : decide (nn a ≤ nn b) = !(b.ult a) := by
  rw [Bool.eq_iff_iff]; simp [nn, BitVec.ult]
theorem u_gt {n : Nat} (a b : BitVec n) : decide (nn a > nn b) = b.ult a := u_lt b a
theorem u_ge {n : Nat} (a b : BitVec n) : decide (nn a ≥ nn b) = !(a.ult b) := u_le b a
theorem i_eq {n : Nat} (a b : BitVec n) : (ii a == ii b) = (a == b) := by
  rw [Bool.eq_iff_iff]; simp only [ii, beq_iff_eq]; exact BitVec.toInt_inj
theorem i_ne {n : Nat} (a b : BitVec n) : (ii a != ii b) = !(a == b) := by rw [bne, i_eq]
theorem i_lt {n : Nat} (a b : BitVec n) : decide (ii a < ii b) = a.slt b := rfl
theorem i_le {n : Nat} (a b : BitVec n) : decide (ii a ≤ ii b) = !(b.slt a) := by
  unfold ii BitVec.slt
  rw [Bool.eq_iff_iff]
  simp only [decide_eq_true_eq, Bool.not_eq_true', decide_eq_false_iff_not, Int.not_lt]
theorem i_gt {n : Nat} (a b : BitVec n) : decide (ii a > ii b) = b.slt a := rfl
theorem i_ge {n : Nat} (a b : BitVec n) : decide (ii a ≥ ii b) = !(a.slt b) := i_le b a
theorem ite_nn {n : Nat} (c : Prop) [Decidable c] (a b : BitVec n) : (if c then nn a else nn b) = nn (bif decide c then a else b) := by
  by_cases h : c <;> simp [h]
theorem ite_ii {n : Nat} (c : Prop) [Decidable c] (a b : BitVec n) : (if c then ii a else ii b) = ii (bif decide c then a else b) := by
  by_cases h : c <;> simp [h]
/-- The lesser and the greater one. -/
def uMin {n : Nat} (a b : BitVec n) : BitVec n := bif b.ult a then b else a
def uMax {n : Nat} (a b : BitVec n) : BitVec n := bif a.ult b then b else a
def sMin {n : Nat} (a b : BitVec n) : BitVec n := bif b.slt a then b else a
def sMax {n : Nat} (a b : BitVec n) : BitVec n := bif a.slt b then b else a
theorem u_min {n : Nat} (a b : BitVec n) : (if nn b < nn a then nn b else nn a) = nn (uMin a b) := by rw [ite_nn, u_lt]; rfl
theorem u_max {n : Nat} (a b : BitVec n) : (if nn a < nn b then nn b else nn a) = nn (uMax a b) := by rw [ite_nn, u_lt]; rfl
theorem i_min {n : Nat} (a b : BitVec n) : (if ii b < ii a then ii b else ii a) = ii (sMin a b) := by rw [ite_ii, i_lt]; rfl
theorem i_max {n : Nat} (a b : BitVec n) : (if ii a < ii b then ii b else ii a) = ii (sMax a b) := by rw [ite_ii, i_lt]; rfl
theorem i64_wrap (z : Int) : IntKind.i64.wrap z = ii (BitVec.ofInt 64 z) := by
  unfold ii; rw [IntKind.wrap_i64, BitVec.toInt_ofInt]
  simp only [Int.bmod]
  split <;> omega
theorem i64_add (a b : BitVec 64) : IntKind.i64.wrap (ii a + ii b) = ii (a + b) := by
  rw [i64_wrap]; unfold ii; rw [BitVec.ofInt_add, BitVec.ofInt_toInt, BitVec.ofInt_toInt]
theorem i64_sub (a b : BitVec 64) : IntKind.i64.wrap (ii a - ii b) = ii (a - b) := by
  rw [i64_wrap]; unfold ii; rw [BitVec.toInt_ofInt, BitVec.toInt_sub]
theorem u64_of_i64 (a : BitVec 64) : IntKind.u64.wrap (ii a) = nn a := by
  unfold ii nn; rw [IntKind.wrap_u64, BitVec.toInt_eq_toNat_cond]; have := a.isLt; split <;> omega
theorem i64_of_u64 (a : BitVec 64) : IntKind.i64.wrap (nn a) = ii a := by
  rw [i64_wrap]; unfold nn; rw [BitVec.ofInt_natCast, BitVec.ofNat_toNat, BitVec.setWidth_eq]
theorem u64_of_u64 (a : BitVec 64) : IntKind.u64.wrap (nn a) = nn a := by
  unfold nn; rw [IntKind.wrap_u64]; have := a.isLt; omega
theorem i64_of_i64 (a : BitVec 64) : IntKind.i64.wrap (ii a) = ii a := by
  rw [i64_wrap]; unfold ii; rw [BitVec.ofInt_toInt]
theorem u32_of_u64 (a : BitVec 64) : IntKind.u32.wrap (nn a) = nn (a.setWidth 32) := by
  unfold nn; rw [IntKind.wrap_u32, BitVec.toNat_setWidth]; omega
theorem u64_of_u32 (a : BitVec 32) : IntKind.u64.wrap (nn a) = nn (a.setWidth 64) := by
  unfold nn; rw [IntKind.wrap_u64, BitVec.toNat_setWidth]; have := a.isLt; omega
theorem i32_wrap (z : Int) : IntKind.i32.wrap z = ii (BitVec.ofInt 32 z) := by
  unfold ii; rw [IntKind.wrap_i32, BitVec.toInt_ofInt]
  simp only [Int.bmod]
  split <;> omega
theorem i32_of_u32 (a : BitVec 32) : IntKind.i32.wrap (nn a) = ii a := by
  rw [i32_wrap]; unfold nn; rw [BitVec.ofInt_natCast, BitVec.ofNat_toNat, BitVec.setWidth_eq]
theorem i32_of_u64 (a : BitVec 64) : IntKind.i32.wrap (nn a) = ii (a.setWidth 32) := by
  rw [i32_wrap]; unfold nn; rw [BitVec.ofInt_natCast, BitVec.ofNat_toNat]
theorem i64_of_i32 (a : BitVec 32) : IntKind.i64.wrap (ii a) = ii (a.signExtend 64) := by
  rw [i64_wrap]; rfl
theorem u32_of_i32 (a : BitVec 32) : IntKind.u32.wrap (ii a) = nn a := by
  unfold ii nn; rw [IntKind.wrap_u32, BitVec.toInt_eq_toNat_cond]; have := a.isLt; split <;> omega
theorem lit_cast {k : IntKind} {x y z : Int} (h : x = y) (g : y = z) : Value.int k x = .int k z := by rw [h, g]
/-! ### Shifts by so many bits -/
theorem run_shift (P : Program) (op : BinOp) (ho : op = .shl ∨ op = .shr) (T : TypeId) (xo yo : Operand) (k yk : IntKind) (x y : Int) (hy : 0 ≤ y) (w : World) :
    (Q.bin op T xo yo (.int k x) (.int yk y)).sem.run P w = .ok (.value (.int k (if op = .shl then k.wrap (x * 2 ^ (min y.toNat k.bits)) else x.fdiv (2 ^ (min y.toNat k.bits))))) w := by
  have hn : ¬ y < 0 := by omega
  rcases ho with rfl | rfl <;> simp [Q.sem, eqGuard, binOp, Op.shift, hn, Sem.run]
theorem nn_shl (x : BitVec 64) (n : Nat) : IntKind.u64.wrap (nn x * 2 ^ (min n 64)) = nn (x <<< n) := by
  unfold nn
  rw [IntKind.wrap_u64, BitVec.toNat_shiftLeft, Nat.shiftLeft_eq]
  by_cases h : n ≤ 64
  · rw [Nat.min_eq_left h]
    have e : (2 : Int) ^ n = ((2 ^ n : Nat) : Int) := by simp
    rw [e, ← Int.natCast_mul]
    omega
  · rw [Nat.min_eq_right (by omega)]
    have e : x.toNat * 2 ^ n % 2 ^ 64 = 0 := by
      have : 2 ^ n = 2 ^ 64 * 2 ^ (n - 64) := by rw [← Nat.pow_add]; congr 1; omega
      rw [this, ← Nat.mul_assoc, Nat.mul_right_comm]
      exact Nat.mul_mod_left _ _
    rw [e]
    omega
theorem nn_shr (x : BitVec 64) (n : Nat) : (nn x).fdiv (2 ^ (min n 64)) = nn (x >>> n) := by
  unfold nn
  rw [BitVec.toNat_ushiftRight, Nat.shiftRight_eq_div_pow]
  have hx := x.isLt
  by_cases h : n ≤ 64
  · rw [Nat.min_eq_left h]
    have e : (2 : Int) ^ n = ((2 ^ n : Nat) : Int) := by simp
    rw [e, Int.fdiv_eq_ediv_of_nonneg _ (Int.natCast_nonneg _), ← Int.natCast_ediv]
  · rw [Nat.min_eq_right (by omega)]
    have e : x.toNat / 2 ^ n = 0 := Nat.div_eq_of_lt (Nat.lt_of_lt_of_le hx (Nat.pow_le_pow_right (by omega) (by omega)))
    rw [e, Int.fdiv_eq_ediv_of_nonneg _ (by omega)]
    omega
theorem ii_shr (x : BitVec 64) (n : Nat) (h : n < 64) : (ii x).fdiv (2 ^ (min n 64)) = ii (x.sshiftRight n) := by
  unfold ii
  rw [BitVec.toInt_sshiftRight, Nat.min_eq_left (by omega), Int.shiftRight_eq_div_pow]
  have e : (2 : Int) ^ n = ((2 ^ n : Nat) : Int) := by simp
  rw [e, Int.fdiv_eq_ediv_of_nonneg _ (Int.natCast_nonneg _)]
theorem run_div (P : Program) (op : BinOp) (ho : op = .quo ∨ op = .rem) (T : TypeId) (xo yo : Operand) (x y : BitVec 64) (hy : y ≠ 0#64) (w : World) :
    (Q.bin op T xo yo (.int .u64 (nn x)) (.int .u64 (nn y))).sem.run P w = .ok (.value (.int .u64 (nn (if op = .quo then x / y else x % y)))) w := by
  have hn : ¬ nn y = 0 := by
    unfold nn
    intro h
    exact hy (BitVec.eq_of_toNat_eq (by simpa using h))
  have h1 : IntKind.u64.wrap ((nn x).tdiv (nn y)) = nn (x / y) := by
    unfold nn
    rw [IntKind.wrap_u64, BitVec.toNat_udiv, Int.tdiv_eq_ediv_of_nonneg (by omega), ← Int.natCast_ediv]
    have h1 : x.toNat / y.toNat ≤ x.toNat := Nat.div_le_self _ _
    have h2 := x.isLt
    generalize x.toNat / y.toNat = q at *
    omega
  have h2 : (nn x).tmod (nn y) = nn (x % y) := by
    unfold nn
    rw [BitVec.toNat_umod, Int.tmod_eq_emod_of_nonneg (by omega), ← Int.natCast_emod]
  rcases ho with rfl | rfl <;> simp [Q.sem, eqGuard, binOp, Op.intDiv, hn, Sem.run, h1, h2]

theorem Con.val {P : Program} {f : FuncId} {a : Array Value} {V V' : Value} (h : Con P f a V) (e : V = V') : Con P f a V' := e ▸ h
theorem z_ne {x y : Int} {c : Bool} (h : (x == y) = c) : (x != y) = !c := by rw [bne, h]
theorem u_nz {n : Nat} {x y : BitVec n} (h : (x == y) = false) : x ≠ y := by simpa using h
theorem u64_neg (a : BitVec 64) : IntKind.u64.wrap (0 - nn a) = nn (-a) := by
  have := u64_sub 0#64 a
  rw [BitVec.zero_sub] at this
  exact this
theorem u64_of_z (z : Int) : IntKind.u64.wrap z = nn (BitVec.ofInt 64 z) := by
  unfold nn; rw [IntKind.wrap_u64, BitVec.toNat_ofInt]; omega
theorem u32_of_z (z : Int) : IntKind.u32.wrap z = nn (BitVec.ofInt 32 z) := by
  unfold nn; rw [IntKind.wrap_u32, BitVec.toNat_ofInt]; omega
theorem u16_of_z (z : Int) : IntKind.u16.wrap z = nn (BitVec.ofInt 16 z) := by
  unfold nn; rw [IntKind.wrap_u16, BitVec.toNat_ofInt]; omega
theorem u8_of_z (z : Int) : IntKind.u8.wrap z = nn (BitVec.ofInt 8 z) := by
  unfold nn; rw [IntKind.wrap_u8, BitVec.toNat_ofInt]; omega
theorem u64_shl (P : Program) (T : TypeId) (xo yo : Operand) (x : BitVec 64) (n : Nat) (yk : IntKind) {y : Int} (hy : y = (n : Int)) (w : World) :
    (Q.bin .shl T xo yo (.int .u64 (nn x)) (.int yk y)).sem.run P w = .ok (.value (.int .u64 (nn (x <<< n)))) w := by
  subst hy
  rw [run_shift P .shl (.inl rfl) T xo yo .u64 yk _ _ (by omega) w, if_pos rfl, Int.toNat_natCast]
  rw [show IntKind.u64.bits = 64 from rfl, nn_shl]
theorem u64_shr (P : Program) (T : TypeId) (xo yo : Operand) (x : BitVec 64) (n : Nat) (yk : IntKind) {y : Int} (hy : y = (n : Int)) (w : World) :
    (Q.bin .shr T xo yo (.int .u64 (nn x)) (.int yk y)).sem.run P w = .ok (.value (.int .u64 (nn (x >>> n)))) w := by
  subst hy
  rw [run_shift P .shr (.inr rfl) T xo yo .u64 yk _ _ (by omega) w, if_neg (by decide), Int.toNat_natCast]
  rw [show IntKind.u64.bits = 64 from rfl, nn_shr]
theorem i64_shr (P : Program) (T : TypeId) (xo yo : Operand) (x : BitVec 64) (n : Nat) (yk : IntKind) {y : Int} (hn : n < 64) (hy : y = (n : Int)) (w : World) :
    (Q.bin .shr T xo yo (.int .i64 (ii x)) (.int yk y)).sem.run P w = .ok (.value (.int .i64 (ii (x.sshiftRight n)))) w := by
  subst hy
  rw [run_shift P .shr (.inr rfl) T xo yo .i64 yk _ _ (by omega) w, if_neg (by decide), Int.toNat_natCast]
  rw [show IntKind.i64.bits = 64 from rfl, ii_shr _ _ hn]
theorem u64_quo (P : Program) (T : TypeId) (xo yo : Operand) (x y : BitVec 64) (hy : y ≠ 0#64) (w : World) :
    (Q.bin .quo T xo yo (.int .u64 (nn x)) (.int .u64 (nn y))).sem.run P w = .ok (.value (.int .u64 (nn (x / y)))) w := by
  rw [run_div P .quo (.inl rfl) T xo yo x y hy w, if_pos rfl]
theorem u64_rem (P : Program) (T : TypeId) (xo yo : Operand) (x y : BitVec 64) (hy : y ≠ 0#64) (w : World) :
    (Q.bin .rem T xo yo (.int .u64 (nn x)) (.int .u64 (nn y))).sem.run P w = .ok (.value (.int .u64 (nn (x % y)))) w := by
  rw [run_div P .rem (.inr rfl) T xo yo x y hy w, if_neg (by decide)]
end Go.Proofs.YtnlnldpolaodbaaDoor
