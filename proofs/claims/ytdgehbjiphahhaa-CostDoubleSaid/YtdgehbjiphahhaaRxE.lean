/-
  Contracts of functions that only reckon, out of their runs with letters; words on numbers. Nothing of the program stands here.
-/
import Derived.Test.YtdgehbjiphahhaaRxF
import Derived.KernelRfl
namespace Go.Proofs.Ytdgehbjiphahhaa
open Go.RowKit
set_option linter.unusedVariables false
set_option linter.unusedSimpArgs false
def Con (P : Program) (f : FuncId) (args : Array Value) (V : Value) : Prop := ∀ w, Calls' P f args w fun e w' => e = .returned V ∧ Below w.heap.size w w'
/-! ### Numbers -/
/-- A word as the program's number, without and with a sign. -/
def nn {n : Nat} (x : BitVec n) : Int := (x.toNat : Int)
def ii {n : Nat} (x : BitVec n) : Int := x.toInt
theorem u_eq {n : Nat} (a b : BitVec n) : (nn a == nn b) = (a == b) := by
  rw [Bool.eq_iff_iff]; simp only [nn, beq_iff_eq, BitVec.toNat_eq]; omega
theorem u_ne {n : Nat} (a b : BitVec n) : (nn a != nn b) = !(a == b) := by rw [bne, u_eq]
theorem u_lt {n : Nat} (a b : BitVec n) : decide (nn a < nn b) = a.ult b := by
  rw [Bool.eq_iff_iff]; simp [nn, BitVec.ult]
theorem u_gt {n : Nat} (a b : BitVec n) : decide (nn a > nn b) = b.ult a := u_lt b a
theorem i_eq {n : Nat} (a b : BitVec n) : (ii a == ii b) = (a == b) := by
  rw [Bool.eq_iff_iff]; simp only [ii, beq_iff_eq]; exact BitVec.toInt_inj
theorem i_lt {n : Nat} (a b : BitVec n) : decide (ii a < ii b) = a.slt b := rfl
theorem i_gt {n : Nat} (a b : BitVec n) : decide (ii a > ii b) = b.slt a := rfl
theorem i64_wrap (z : Int) : IntKind.i64.wrap z = ii (BitVec.ofInt 64 z) := by
  unfold ii; rw [IntKind.wrap_i64, BitVec.toInt_ofInt]
  simp only [Int.bmod]
  split <;> omega
/-! ### Shifts by so many bits -/
theorem run_shift (P : Program) (op : BinOp) (ho : op = .shl ∨ op = .shr) (T : TypeId) (xo yo : Operand) (k yk : IntKind) (x y : Int) (hy : 0 ≤ y) (w : World) :
    (Q.bin op T xo yo (.int k x) (.int yk y)).sem.run P w = .ok (.value (.int k (if op = .shl then k.wrap (x * 2 ^ (min y.toNat k.bits)) else x.fdiv (2 ^ (min y.toNat k.bits))))) w := by
  have hn : ¬ y < 0 := by omega
  rcases ho with rfl | rfl <;> simp [Q.sem, eqGuard, binOp, Op.shift, hn, Sem.run]
theorem nn_shl (x : BitVec 64) (n : Nat) : IntKind.u64.wrap (nn x * 2 ^ (min n 64)) = nn (x <<< n) := by
  unfold nn
  rw [IntKind.wrap_u64, BitVec.toNat_shiftLeft, Nat.shiftLeft_eq]
  by_cases h : n ≤ 64
  · rw [Nat.min_eq_left h]
    have e : (2 : Int) ^ n = ((2 ^ n : Nat) : Int) := by simp
    rw [e, ← Int.natCast_mul]
    omega
  · rw [Nat.min_eq_right (by omega)]
    have e : x.toNat * 2 ^ n % 2 ^ 64 = 0 := by
      have : 2 ^ n = 2 ^ 64 * 2 ^ (n - 64) := by rw [← Nat.pow_add]; congr 1; omega
      rw [this, ← Nat.mul_assoc, Nat.mul_right_comm]
      exact Nat.mul_mod_left _ _
    rw [e]
    omega
theorem Con.val {P : Program} {f : FuncId} {a : Array Value} {V V' : Value} (h : Con P f a V) (e : V = V') : Con P f a V' := e ▸ h
theorem u64_of_z (z : Int) : IntKind.u64.wrap z = nn (BitVec.ofInt 64 z) := by
  unfold nn; rw [IntKind.wrap_u64, BitVec.toNat_ofInt]; omega
theorem u64_shl (P : Program) (T : TypeId) (xo yo : Operand) (x : BitVec 64) (n : Nat) (yk : IntKind) {y : Int} (hy : y = (n : Int)) (w : World) :
    (Q.bin .shl T xo yo (.int .u64 (nn x)) (.int yk y)).sem.run P w = .ok (.value (.int .u64 (nn (x <<< n)))) w := by
  subst hy
  rw [run_shift P .shl (.inl rfl) T xo yo .u64 yk _ _ (by omega) w, if_pos rfl, Int.toNat_natCast]
  rw [show IntKind.u64.bits = 64 from rfl, nn_shl]
end Go.Proofs.Ytdgehbjiphahhaa

