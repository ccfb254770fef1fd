/-
  Pieces of code by their paths; what is left in a frame. Nothing of the program stands here.
-/
import Derived.Test.YtlpjdjbophcomaaDoorRxW
namespace Go.Proofs.YtlpjdjbophcomaaDoor
open Go.RowKit
set_option linter.unusedVariables false
def subCode : List Nat → Code → Code
  | [], c => c
  | k :: p, c => match c with
    | .seq a b => match k with | 0 => subCode p a | _ => subCode p b
    | .cond _ a b => match k with | 0 => subCode p a | _ => subCode p b
    | .block _ a => subCode p a
    | .loop a => subCode p a
    | .scope a => subCode p a
    | c => c
def bodyOf (f : Func) : Code := f.body.getD .skip
def codeOf (f : Func) (p : List Nat) : Code := subCode p (bodyOf f)
end Go.Proofs.YtlpjdjbophcomaaDoor

