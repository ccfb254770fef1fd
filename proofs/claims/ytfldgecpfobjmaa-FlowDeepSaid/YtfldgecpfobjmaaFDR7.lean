import Derived.Test.YtfldgecpfobjmaaFDA
namespace Go.Proofs.Ytfldgecpfobjmaa.Ev
open Go.RowKit
set_option maxRecDepth 100000000
theorem rd_20_14 : runD 20 14 = some () := by kernel_rfl
theorem rd_20_38 : runD 20 38 = some () := by kernel_rfl
theorem rd_19_30 : runD 19 30 = some () := by kernel_rfl
theorem rd_18_16 : runD 18 16 = some () := by kernel_rfl
theorem rd_18_34 : runD 18 34 = some () := by kernel_rfl
theorem rd_17_28 : runD 17 28 = some () := by kernel_rfl
theorem rd_16_18 : runD 16 18 = some () := by kernel_rfl
theorem rd_15_6 : runD 15 6 = some () := by kernel_rfl
theorem rd_15_18 : runD 15 18 = some () := by kernel_rfl
theorem rd_14_18 : runD 14 18 = some () := by kernel_rfl
theorem rd_13_16 : runD 13 16 = some () := by kernel_rfl
theorem rd_12_14 : runD 12 14 = some () := by kernel_rfl
theorem rd_11_14 : runD 11 14 = some () := by kernel_rfl
theorem rd_10_18 : runD 10 18 = some () := by kernel_rfl
theorem rd_8_10 : runD 8 10 = some () := by kernel_rfl
theorem rd_7_4 : runD 7 4 = some () := by kernel_rfl
theorem rd_6_2 : runD 6 2 = some () := by kernel_rfl
theorem rd_4_2 : runD 4 2 = some () := by kernel_rfl
theorem ra_7 : runA 7 = some () := by kernel_rfl
end Go.Proofs.Ytfldgecpfobjmaa.Ev
