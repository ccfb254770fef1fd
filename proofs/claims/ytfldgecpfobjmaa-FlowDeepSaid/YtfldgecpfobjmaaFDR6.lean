import Derived.Test.YtfldgecpfobjmaaFDA
namespace Go.Proofs.Ytfldgecpfobjmaa.Ev
open Go.RowKit
set_option maxRecDepth 100000000
theorem rd_20_12 : runD 20 12 = some () := by kernel_rfl
theorem rd_20_36 : runD 20 36 = some () := by kernel_rfl
theorem rd_19_28 : runD 19 28 = some () := by kernel_rfl
theorem rd_18_14 : runD 18 14 = some () := by kernel_rfl
theorem rd_18_32 : runD 18 32 = some () := by kernel_rfl
theorem rd_17_26 : runD 17 26 = some () := by kernel_rfl
theorem rd_16_16 : runD 16 16 = some () := by kernel_rfl
theorem rd_15_4 : runD 15 4 = some () := by kernel_rfl
theorem rd_15_16 : runD 15 16 = some () := by kernel_rfl
theorem rd_14_16 : runD 14 16 = some () := by kernel_rfl
theorem rd_13_14 : runD 13 14 = some () := by kernel_rfl
theorem rd_12_12 : runD 12 12 = some () := by kernel_rfl
theorem rd_11_12 : runD 11 12 = some () := by kernel_rfl
theorem rd_10_16 : runD 10 16 = some () := by kernel_rfl
theorem rd_8_8 : runD 8 8 = some () := by kernel_rfl
theorem rd_7_2 : runD 7 2 = some () := by kernel_rfl
theorem rb_6 : runB 6 = some () := by kernel_rfl
theorem rb_4 : runB 4 = some () := by kernel_rfl
theorem ra_8 : runA 8 = some () := by kernel_rfl
end Go.Proofs.Ytfldgecpfobjmaa.Ev
