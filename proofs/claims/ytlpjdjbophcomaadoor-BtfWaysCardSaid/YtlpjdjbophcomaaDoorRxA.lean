/-
  What a run with letters stands on. Nothing of the program stands here.
-/
import Derived.StillTail
import Derived.Below
import Derived.Lib.Hide
import Derived.WalkKit
import Derived.LoopN
namespace Go.Proofs.YtlpjdjbophcomaaDoor
open Go.RowKit
set_option linter.unusedVariables false
set_option linter.unusedSimpArgs false
/-- The operation, run, leaves v; what was there stays. -/
def RunsTo (P : Program) (o : Oper) (a : Act) (w : World) (v : Value) : Prop :=
  match (execOp a.eval o).run P w with
  | .ok (.value u) w' => Below w.heap.size w w' ∧ u = v
  | .ok .skip w' => Below w.heap.size w w' ∧ undef = v
  | .ok (.enter f args) w' => w' = w ∧ Calls P f args w (fun e w'' => e = .returned v ∧ Below w.heap.size w w'')
  | _ => False
def ptrTo (b : Nat) : Value := .pointer (some ⟨b, 0, none⟩)
def dstOf (ops : Array Oper) (i : Nat) : Option Tmp := (ops[i]?).bind (·.dst)
end Go.Proofs.YtlpjdjbophcomaaDoor

