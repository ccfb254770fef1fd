/-
  Words on numbers of all kinds, for runs with letters. Nothing of the program stands here.
-/
import Derived.Test.YtlpjdjbophcomaaDoorRxE
namespace Go.Proofs.YtlpjdjbophcomaaDoor
open Go.RowKit
set_option linter.unusedVariables false
set_option linter.unusedSimpArgs false
end Go.Proofs.YtlpjdjbophcomaaDoor

