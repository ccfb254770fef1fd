/-
  Items that bear their proofs. Nothing of the program stands here.
-/
import Derived.Test.YtlpjdjbophcomaaDoorRxP
namespace Go.Proofs.YtlpjdjbophcomaaDoor
open Go.RowKit
set_option linter.unusedVariables false
set_option linter.unusedSimpArgs false
end Go.Proofs.YtlpjdjbophcomaaDoor

