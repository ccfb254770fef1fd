import Derived.Test.YtjhmmfoomcoadaaGreatTPA
namespace Go.Proofs.YtjhmmfoomcoadaaGreat.Ev
open Go.RowKit
set_option maxRecDepth 100000000
theorem tail11 (x r s : Int) : evC Tryz.prog (evDraw Tryz.prog) 10000 false 40 tR (T6 x r s 11) [] (S4 x).2 kT = some () := by kernel_rfl
end Go.Proofs.YtjhmmfoomcoadaaGreat.Ev
