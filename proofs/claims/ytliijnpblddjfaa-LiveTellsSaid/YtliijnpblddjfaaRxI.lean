/-
  Items that bear their proofs. Nothing of the program stands here.
-/
import Derived.Test.YtliijnpblddjfaaRxP
namespace Go.Proofs.Ytliijnpblddjfaa
open Go.RowKit
set_option linter.unusedVariables false
set_option linter.unusedSimpArgs false
end Go.Proofs.Ytliijnpblddjfaa

