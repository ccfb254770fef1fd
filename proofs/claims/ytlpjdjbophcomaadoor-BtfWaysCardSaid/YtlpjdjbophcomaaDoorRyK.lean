/-
  At an assignment: a slice of a whole block is a row without room. Nothing of the program stands here.
-/
import Derived.Test.YtlpjdjbophcomaaDoorRyG
namespace Go.Proofs.YtlpjdjbophcomaaDoor
open Go.RowKit
set_option linter.unusedVariables false
set_option linter.unusedSimpArgs false
section
variable {P : Program}
end
end Go.Proofs.YtlpjdjbophcomaaDoor

