/-
  Pieces of code by their paths; what is left in a frame. Nothing of the program stands here.
-/
import Derived.Test.YtliijnpblddjfaaRxW
namespace Go.Proofs.Ytliijnpblddjfaa
open Go.RowKit
set_option linter.unusedVariables false
def zsl : List Nat → Code → Code
  | [], c => c
  | k :: p, c => match c with
    | .seq a b => match k with | 0 => zsl p a | _ => zsl p b
    | .cond _ a b => match k with | 0 => zsl p a | _ => zsl p b
    | .block _ a => zsl p a
    | .loop a => zsl p a
    | .scope a => zsl p a
    | c => c
def zDb (f : Func) : Code := f.body.getD .skip
def zb6 (f : Func) (p : List Nat) : Code := zsl p (zDb f)
end Go.Proofs.Ytliijnpblddjfaa

