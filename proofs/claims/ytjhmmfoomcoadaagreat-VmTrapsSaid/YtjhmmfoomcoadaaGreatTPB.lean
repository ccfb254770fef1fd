import Derived.Test.YtjhmmfoomcoadaaGreatTPA
namespace Go.Proofs.YtjhmmfoomcoadaaGreat.Ev
open Go.RowKit
set_option maxRecDepth 100000000
theorem XA_is (x : Int) : XA x = some (T1 x, 1197) := by kernel_rfl
end Go.Proofs.YtjhmmfoomcoadaaGreat.Ev
