/-
  Items that bear their proofs. Nothing of the program stands here.
-/
import Derived.Test.YtnlnldpolaodbaaDoorRxP
namespace Go.Proofs.YtnlnldpolaodbaaDoor
open Go.RowKit
set_option linter.unusedVariables false
set_option linter.unusedSimpArgs false
end Go.Proofs.YtnlnldpolaodbaaDoor
