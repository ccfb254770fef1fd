/-
  make and copy of rows of unknown length. Nothing of the program stands here.
-/
import Derived.Test.YtlpjdjbophcomaaDoorRxX
import Derived.Laws.MakeOwn
import Derived.Laws.CopyRow
namespace Go.Proofs.YtlpjdjbophcomaaDoor
open Go.RowKit
set_option linter.unusedVariables false
set_option linter.unusedSimpArgs false
theorem esG_split {α : Type} {f : α → List Value} {A : Nat → α} (n m : Nat) : esG f (n + m) A = esG f n A ++ esG f m (fun j => A (n + j)) := by
  induction m with
  | zero => simp [esG]
  | succ m ih => rw [← Nat.add_assoc, esG_succ, ih, esG_succ, List.append_assoc]
end Go.Proofs.YtlpjdjbophcomaaDoor

