/-
  Equality of arrays, shifts by what is left of a division. Nothing of the program stands here.
-/
import Derived.Test.YtdgehbjiphahhaaRyH
import Derived.ChangeKeysEq
namespace Go.Proofs.Ytdgehbjiphahhaa
open Go.RowKit
set_option linter.unusedVariables false
set_option linter.unusedSimpArgs false
section
variable {P : Program} {w : World} {d : Nat} {t e : TypeId} {n c : Nat}
end
end Go.Proofs.Ytdgehbjiphahhaa

