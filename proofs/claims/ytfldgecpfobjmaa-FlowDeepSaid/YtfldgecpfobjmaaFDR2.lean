import Derived.Test.YtfldgecpfobjmaaFDA
namespace Go.Proofs.Ytfldgecpfobjmaa.Ev
open Go.RowKit
set_option maxRecDepth 100000000
theorem rd_20_4 : runD 20 4 = some () := by kernel_rfl
theorem rd_20_28 : runD 20 28 = some () := by kernel_rfl
theorem rd_19_20 : runD 19 20 = some () := by kernel_rfl
theorem rd_18_6 : runD 18 6 = some () := by kernel_rfl
theorem rd_18_24 : runD 18 24 = some () := by kernel_rfl
theorem rd_17_18 : runD 17 18 = some () := by kernel_rfl
theorem rd_16_8 : runD 16 8 = some () := by kernel_rfl
theorem rd_16_28 : runD 16 28 = some () := by kernel_rfl
theorem rd_14_2 : runD 14 2 = some () := by kernel_rfl
theorem rd_14_8 : runD 14 8 = some () := by kernel_rfl
theorem rd_13_6 : runD 13 6 = some () := by kernel_rfl
theorem rd_12_4 : runD 12 4 = some () := by kernel_rfl
theorem rd_11_4 : runD 11 4 = some () := by kernel_rfl
theorem rd_10_8 : runD 10 8 = some () := by kernel_rfl
theorem rb_8 : runB 8 = some () := by kernel_rfl
theorem rd_8_12 : runD 8 12 = some () := by kernel_rfl
theorem rb_5 : runB 5 = some () := by kernel_rfl
theorem ra_13 : runA 13 = some () := by kernel_rfl
theorem ra_5 : runA 5 = some () := by kernel_rfl
end Go.Proofs.Ytfldgecpfobjmaa.Ev
