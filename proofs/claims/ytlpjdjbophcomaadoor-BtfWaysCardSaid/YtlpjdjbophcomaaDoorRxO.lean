/-
  A row of the call's own handed to a function that only reads it and answers plain data: in few words. Nothing of the program stands here.
-/
import Derived.Test.YtlpjdjbophcomaaDoorRxU
namespace Go.Proofs.YtlpjdjbophcomaaDoor
open Go.RowKit
set_option linter.unusedVariables false
end Go.Proofs.YtlpjdjbophcomaaDoor

