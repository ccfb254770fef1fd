import Derived.Test.YtfldgecpfobjmaaFDA
namespace Go.Proofs.Ytfldgecpfobjmaa.Ev
open Go.RowKit
set_option maxRecDepth 100000000
theorem rd_20_8 : runD 20 8 = some () := by kernel_rfl
theorem rd_20_32 : runD 20 32 = some () := by kernel_rfl
theorem rd_19_24 : runD 19 24 = some () := by kernel_rfl
theorem rd_18_10 : runD 18 10 = some () := by kernel_rfl
theorem rd_18_28 : runD 18 28 = some () := by kernel_rfl
theorem rd_17_22 : runD 17 22 = some () := by kernel_rfl
theorem rd_16_12 : runD 16 12 = some () := by kernel_rfl
theorem rb_15 : runB 15 = some () := by kernel_rfl
theorem rd_15_12 : runD 15 12 = some () := by kernel_rfl
theorem rd_14_12 : runD 14 12 = some () := by kernel_rfl
theorem rd_13_10 : runD 13 10 = some () := by kernel_rfl
theorem rd_12_8 : runD 12 8 = some () := by kernel_rfl
theorem rd_11_8 : runD 11 8 = some () := by kernel_rfl
theorem rd_10_12 : runD 10 12 = some () := by kernel_rfl
theorem rd_8_4 : runD 8 4 = some () := by kernel_rfl
theorem ra_20 : runA 20 = some () := by kernel_rfl
theorem ra_16 : runA 16 = some () := by kernel_rfl
theorem rd_5_8 : runD 5 8 = some () := by kernel_rfl
theorem rb_1 : runB1 = some () := by kernel_rfl
theorem ra_1 : runA 1 = some () := by kernel_rfl
end Go.Proofs.Ytfldgecpfobjmaa.Ev
