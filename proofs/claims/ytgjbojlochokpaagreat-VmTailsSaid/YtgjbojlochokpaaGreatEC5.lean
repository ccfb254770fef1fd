import Derived.Test.YtgjbojlochokpaaGreatEvZB
import Derived.Test.YtgjbojlochokpaaGreatChecked
namespace Go.Proofs.YtgjbojlochokpaaGreat.Ev
open Go.RowKit
set_option linter.unusedVariables false
set_option maxRecDepth 100000000 in
theorem r_tails5 : evCall Tryz.prog (evDraw Tryz.prog) 10000 3 [.it .i64 5] ⟨.lf, 0⟩ (fun v H => some v) (fun v H => none) = some (.bl true) := by kernel_rfl
end Go.Proofs.YtgjbojlochokpaaGreat.Ev
