import Derived.Test.YtjhmmfoomcoadaaGreatVRA
namespace Go.Proofs.YtjhmmfoomcoadaaGreat.Ev
open Go.RowKit
set_option maxRecDepth 100000000
theorem X1_is (p0 p1 p2 p3 p4 : PV) : X1 p0 p1 p2 p3 p4 = some (T1 p0 p1 p2 p3 p4, 1197) := by kernel_rfl
end Go.Proofs.YtjhmmfoomcoadaaGreat.Ev
