import Derived.Test.YtfldgecpfobjmaaFDA
namespace Go.Proofs.Ytfldgecpfobjmaa.Ev
open Go.RowKit
set_option maxRecDepth 100000000
theorem rd_20_20 : runD 20 20 = some () := by kernel_rfl
theorem rd_19_4 : runD 19 4 = some () := by kernel_rfl
theorem rd_19_12 : runD 19 12 = some () := by kernel_rfl
theorem rd_19_36 : runD 19 36 = some () := by kernel_rfl
theorem rd_17_4 : runD 17 4 = some () := by kernel_rfl
theorem rd_17_10 : runD 17 10 = some () := by kernel_rfl
theorem rb_16 : runB 16 = some () := by kernel_rfl
theorem rd_16_20 : runD 16 20 = some () := by kernel_rfl
theorem rd_15_24 : runD 15 24 = some () := by kernel_rfl
theorem rd_14_24 : runD 14 24 = some () := by kernel_rfl
theorem rd_13_22 : runD 13 22 = some () := by kernel_rfl
theorem rd_12_20 : runD 12 20 = some () := by kernel_rfl
theorem rd_11_20 : runD 11 20 = some () := by kernel_rfl
theorem rd_9_4 : runD 9 4 = some () := by kernel_rfl
theorem rd_9_10 : runD 9 10 = some () := by kernel_rfl
theorem rd_7_10 : runD 7 10 = some () := by kernel_rfl
theorem rd_6_8 : runD 6 8 = some () := by kernel_rfl
theorem ra_11 : runA 11 = some () := by kernel_rfl
theorem rd_3_4 : runD 3 4 = some () := by kernel_rfl
end Go.Proofs.Ytfldgecpfobjmaa.Ev
