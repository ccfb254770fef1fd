/-
  Words for what told functions come to: tests that are decided, loops by rounds. Nothing of the program stands here.
-/
import Derived.Test.YtlpjdjbophcomaaDoorRxO
import Derived.Test.YtlpjdjbophcomaaDoorRxN
namespace Go.Proofs.YtlpjdjbophcomaaDoor
open Go.RowKit
set_option linter.unusedVariables false
set_option linter.unusedSimpArgs false
section
variable {α β : Type} {a b : α}
end
end Go.Proofs.YtlpjdjbophcomaaDoor

