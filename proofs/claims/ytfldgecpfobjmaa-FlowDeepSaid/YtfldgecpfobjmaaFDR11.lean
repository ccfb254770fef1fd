import Derived.Test.YtfldgecpfobjmaaFDA
namespace Go.Proofs.Ytfldgecpfobjmaa.Ev
open Go.RowKit
set_option maxRecDepth 100000000
theorem rd_20_22 : runD 20 22 = some () := by kernel_rfl
theorem rd_19_6 : runD 19 6 = some () := by kernel_rfl
theorem rd_19_14 : runD 19 14 = some () := by kernel_rfl
theorem rb_18 : runB 18 = some () := by kernel_rfl
theorem rd_18_18 : runD 18 18 = some () := by kernel_rfl
theorem rd_17_12 : runD 17 12 = some () := by kernel_rfl
theorem rd_16_2 : runD 16 2 = some () := by kernel_rfl
theorem rd_16_22 : runD 16 22 = some () := by kernel_rfl
theorem rd_15_26 : runD 15 26 = some () := by kernel_rfl
theorem rd_14_26 : runD 14 26 = some () := by kernel_rfl
theorem rd_13_24 : runD 13 24 = some () := by kernel_rfl
theorem rd_12_22 : runD 12 22 = some () := by kernel_rfl
theorem rb_10 : runB 10 = some () := by kernel_rfl
theorem rd_10_2 : runD 10 2 = some () := by kernel_rfl
theorem rd_9_12 : runD 9 12 = some () := by kernel_rfl
theorem rd_7_12 : runD 7 12 = some () := by kernel_rfl
theorem rd_6_10 : runD 6 10 = some () := by kernel_rfl
theorem ra_10 : runA 10 = some () := by kernel_rfl
theorem rd_3_2 : runD 3 2 = some () := by kernel_rfl
end Go.Proofs.Ytfldgecpfobjmaa.Ev
