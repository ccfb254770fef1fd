/-
  Contracts of functions that only reckon, out of their runs with letters; words on numbers. Nothing of the program stands here.
-/
import Derived.Test.YtlpjdjbophcomaaDoorRxF
import Derived.KernelRfl
namespace Go.Proofs.YtlpjdjbophcomaaDoor
open Go.RowKit
set_option linter.unusedVariables false
set_option linter.unusedSimpArgs false
def Con (P : Program) (f : FuncId) (args : Array Value) (V : Value) : Prop := ∀ w, Calls' P f args w fun e w' => e = .returned V ∧ Below w.heap.size w w'
/-! ### Numbers -/
/-- A word as the program's number, without and with a sign. -/
def nn {n : Nat} (x : BitVec n) : Int := (x.toNat : Int)
def ii {n : Nat} (x : BitVec n) : Int := x.toInt
theorem u_eq {n : Nat} (a b : BitVec n) : (nn a == nn b) = (a == b) := by
  rw [Bool.eq_iff_iff]; simp only [nn, beq_iff_eq, BitVec.toNat_eq]; omega
theorem u_le {n : Nat} (a b : BitVec n) : decide (nn a ≤ nn b) = !(b.ult a) := by
  rw [Bool.eq_iff_iff]; simp [nn, BitVec.ult]
theorem u_ge {n : Nat} (a b : BitVec n) : decide (nn a ≥ nn b) = !(a.ult b) := u_le b a
theorem i64_wrap (z : Int) : IntKind.i64.wrap z = ii (BitVec.ofInt 64 z) := by
  unfold ii; rw [IntKind.wrap_i64, BitVec.toInt_ofInt]
  simp only [Int.bmod]
  split <;> omega
/-! ### Shifts by so many bits -/
theorem Con.val {P : Program} {f : FuncId} {a : Array Value} {V V' : Value} (h : Con P f a V) (e : V = V') : Con P f a V' := e ▸ h
end Go.Proofs.YtlpjdjbophcomaaDoor

