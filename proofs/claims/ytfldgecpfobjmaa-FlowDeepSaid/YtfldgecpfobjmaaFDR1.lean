import Derived.Test.YtfldgecpfobjmaaFDA
namespace Go.Proofs.Ytfldgecpfobjmaa.Ev
open Go.RowKit
set_option maxRecDepth 100000000
theorem rd_20_2 : runD 20 2 = some () := by kernel_rfl
theorem rd_20_26 : runD 20 26 = some () := by kernel_rfl
theorem rd_19_18 : runD 19 18 = some () := by kernel_rfl
theorem rd_18_4 : runD 18 4 = some () := by kernel_rfl
theorem rd_18_22 : runD 18 22 = some () := by kernel_rfl
theorem rd_17_16 : runD 17 16 = some () := by kernel_rfl
theorem rd_16_6 : runD 16 6 = some () := by kernel_rfl
theorem rd_16_26 : runD 16 26 = some () := by kernel_rfl
theorem rb_14 : runB 14 = some () := by kernel_rfl
theorem rd_14_6 : runD 14 6 = some () := by kernel_rfl
theorem rd_13_4 : runD 13 4 = some () := by kernel_rfl
theorem rd_12_2 : runD 12 2 = some () := by kernel_rfl
theorem rd_11_2 : runD 11 2 = some () := by kernel_rfl
theorem rd_10_6 : runD 10 6 = some () := by kernel_rfl
theorem rd_9_16 : runD 9 16 = some () := by kernel_rfl
theorem ra_18 : runA 18 = some () := by kernel_rfl
theorem ra_15 : runA 15 = some () := by kernel_rfl
theorem rd_5_6 : runD 5 6 = some () := by kernel_rfl
theorem ra_3 : runA 3 = some () := by kernel_rfl
theorem ra_2 : runA 2 = some () := by kernel_rfl
end Go.Proofs.Ytfldgecpfobjmaa.Ev
