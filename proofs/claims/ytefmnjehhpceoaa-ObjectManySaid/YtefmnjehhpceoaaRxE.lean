/-
  Contracts of functions that only reckon, out of their runs with letters; words on numbers. Nothing of the program stands here.
-/
import Derived.Test.YtefmnjehhpceoaaRxF
import Derived.KernelRfl
namespace Go.Proofs.Ytefmnjehhpceoaa
open Go.RowKit
set_option linter.unusedVariables false
set_option linter.unusedSimpArgs false
def Con (P : Program) (f : FuncId) (args : Array Value) (V : Value) : Prop := ∀ w, Calls' P f args w fun e w' => e = .returned V ∧ Below w.heap.size w w'
/-! ### Numbers -/
/-- A word as the program's number, without and with a sign. -/
def nn {n : Nat} (x : BitVec n) : Int := (x.toNat : Int)
def ii {n : Nat} (x : BitVec n) : Int := x.toInt
theorem i64_wrap (z : Int) : IntKind.i64.wrap z = ii (BitVec.ofInt 64 z) := by
  unfold ii; rw [IntKind.wrap_i64, BitVec.toInt_ofInt]
  simp only [Int.bmod]
  split <;> omega
/-! ### Shifts by so many bits -/
theorem Con.val {P : Program} {f : FuncId} {a : Array Value} {V V' : Value} (h : Con P f a V) (e : V = V') : Con P f a V' := e ▸ h
end Go.Proofs.Ytefmnjehhpceoaa

