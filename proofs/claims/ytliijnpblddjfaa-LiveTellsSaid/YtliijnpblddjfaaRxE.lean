/-
  Contracts of functions that only reckon, out of their runs with letters; words on numbers. Nothing of the program stands here.
-/
import Derived.Test.YtliijnpblddjfaaRxF
import Derived.KernelRfl
namespace Go.Proofs.Ytliijnpblddjfaa
open Go.RowKit
set_option linter.unusedVariables false
set_option linter.unusedSimpArgs false
def Con (P : Program) (f : FuncId) (args : Array Value) (V : Value) : Prop := ∀ w, zAc P f args w fun e w' => e = .returned V ∧ Below w.heap.size w w'
/-! ### Numbers -/
/-- A word as the program's number, without and with a sign. -/
def nn {n : Nat} (x : BitVec n) : Int := (x.toNat : Int)
def ii {n : Nat} (x : BitVec n) : Int := x.toInt
theorem u_eq {n : Nat} (a b : BitVec n) : (nn a == nn b) = (a == b) := by
  rw [Bool.eq_iff_iff]; simp only [nn, beq_iff_eq, BitVec.toNat_eq]; omega
theorem u_ne {n : Nat} (a b : BitVec n) : (nn a != nn b) = !(a == b) := by rw [bne, u_eq]
theorem u_lt {n : Nat} (a b : BitVec n) : decide (nn a < nn b) = a.ult b := by
  rw [Bool.eq_iff_iff]; simp [nn, BitVec.ult]
theorem u_le {n : Nat} (a b : BitVec n) : decide (nn a ≤ nn b) = !(b.ult a) := by
  rw [Bool.eq_iff_iff]; simp [nn, BitVec.ult]
theorem u_gt {n : Nat} (a b : BitVec n) : decide (nn a > nn b) = b.ult a := u_lt b a
theorem i_eq {n : Nat} (a b : BitVec n) : (ii a == ii b) = (a == b) := by
  rw [Bool.eq_iff_iff]; simp only [ii, beq_iff_eq]; exact BitVec.toInt_inj
theorem i_ne {n : Nat} (a b : BitVec n) : (ii a != ii b) = !(a == b) := by rw [bne, i_eq]
theorem i_lt {n : Nat} (a b : BitVec n) : decide (ii a < ii b) = a.slt b := rfl
theorem i_gt {n : Nat} (a b : BitVec n) : decide (ii a > ii b) = b.slt a := rfl
theorem zya (z : Int) : IntKind.i64.wrap z = ii (BitVec.ofInt 64 z) := by
  unfold ii; rw [IntKind.wrap_i64, BitVec.toInt_ofInt]
  simp only [Int.bmod]
  split <;> omega
/-! ### Shifts by so many bits -/
theorem zy7 (P : Program) (op : BinOp) (ho : op = .shl ∨ op = .shr) (T : TypeId) (xo yo : Operand) (k yk : IntKind) (x y : Int) (hy : 0 ≤ y) (w : World) :
    (Q.bin op T xo yo (.int k x) (.int yk y)).sem.run P w = .ok (.value (.int k (if op = .shl then k.wrap (x * 2 ^ (min y.toNat k.bits)) else x.fdiv (2 ^ (min y.toNat k.bits))))) w := by
  have hn : ¬ y < 0 := by omega
  rcases ho with rfl | rfl <;> simp [Q.sem, eqGuard, binOp, Op.shift, hn, Sem.run]
theorem Con.val {P : Program} {f : FuncId} {a : Array Value} {V V' : Value} (h : Con P f a V) (e : V = V') : Con P f a V' := e ▸ h
theorem zCN (z : Int) : IntKind.u8.wrap z = nn (BitVec.ofInt 8 z) := by
  unfold nn; rw [IntKind.wrap_u8, BitVec.toNat_ofInt]; omega
end Go.Proofs.Ytliijnpblddjfaa

