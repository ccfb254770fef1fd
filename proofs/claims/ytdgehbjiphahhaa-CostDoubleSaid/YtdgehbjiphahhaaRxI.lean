/-
  Items that bear their proofs. Nothing of the program stands here.
-/
import Derived.Test.YtdgehbjiphahhaaRxP
namespace Go.Proofs.Ytdgehbjiphahhaa
open Go.RowKit
set_option linter.unusedVariables false
set_option linter.unusedSimpArgs false
end Go.Proofs.Ytdgehbjiphahhaa

