/-
  Bytes of a string behind a row, a row behind a block that bears a mark, parts of known rows, elements that point somewhere. Nothing of the program stands here.
-/
import Derived.Test.YtdgehbjiphahhaaRyG
import Derived.Test.YtdgehbjiphahhaaRxH
import Derived.Lib.AppendStr
namespace Go.Proofs.Ytdgehbjiphahhaa
open Go.RowKit
set_option linter.unusedVariables false
set_option linter.unusedSimpArgs false
/-! ### Parts at known places -/
section
variable {P : Program} {T e : TypeId} {sz n : Nat}
end
/-! ### append -/
section
variable {P : Program} {t ty e : TypeId} {i : TypeInfo} {z : Value} {size bytes : Nat}
end
section
variable {P : Program} {t ty e : TypeId} {i : TypeInfo} {z : Value} {sz bytes : Nat} {α : Type} {f : α → List Value}
end
section
variable {P : Program} {t u ty e : TypeId} {i : TypeInfo} {z : Value} {bytes : Nat} {α : Type} {f : α → List Value}
end
section
variable {P : Program} {t ty e : TypeId} {i : TypeInfo} {z : Value} {size bytes : Nat}
end
end Go.Proofs.Ytdgehbjiphahhaa

