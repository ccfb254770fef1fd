import Derived.Test.YtfldgecpfobjmaaFDA
namespace Go.Proofs.Ytfldgecpfobjmaa.Ev
open Go.RowKit
set_option maxRecDepth 100000000
theorem rd_20_10 : runD 20 10 = some () := by kernel_rfl
theorem rd_20_34 : runD 20 34 = some () := by kernel_rfl
theorem rd_19_26 : runD 19 26 = some () := by kernel_rfl
theorem rd_18_12 : runD 18 12 = some () := by kernel_rfl
theorem rd_18_30 : runD 18 30 = some () := by kernel_rfl
theorem rd_17_24 : runD 17 24 = some () := by kernel_rfl
theorem rd_16_14 : runD 16 14 = some () := by kernel_rfl
theorem rd_15_2 : runD 15 2 = some () := by kernel_rfl
theorem rd_15_14 : runD 15 14 = some () := by kernel_rfl
theorem rd_14_14 : runD 14 14 = some () := by kernel_rfl
theorem rd_13_12 : runD 13 12 = some () := by kernel_rfl
theorem rd_12_10 : runD 12 10 = some () := by kernel_rfl
theorem rd_11_10 : runD 11 10 = some () := by kernel_rfl
theorem rd_10_14 : runD 10 14 = some () := by kernel_rfl
theorem rd_8_6 : runD 8 6 = some () := by kernel_rfl
theorem rb_7 : runB 7 = some () := by kernel_rfl
theorem ra_17 : runA 17 = some () := by kernel_rfl
theorem ra_9 : runA 9 = some () := by kernel_rfl
theorem rb_3 : runB 3 = some () := by kernel_rfl
end Go.Proofs.Ytfldgecpfobjmaa.Ev
