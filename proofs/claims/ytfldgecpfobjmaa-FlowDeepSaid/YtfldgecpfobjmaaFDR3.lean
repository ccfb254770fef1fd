import Derived.Test.YtfldgecpfobjmaaFDA
namespace Go.Proofs.Ytfldgecpfobjmaa.Ev
open Go.RowKit
set_option maxRecDepth 100000000
theorem rd_20_6 : runD 20 6 = some () := by kernel_rfl
theorem rd_20_30 : runD 20 30 = some () := by kernel_rfl
theorem rd_19_22 : runD 19 22 = some () := by kernel_rfl
theorem rd_18_8 : runD 18 8 = some () := by kernel_rfl
theorem rd_18_26 : runD 18 26 = some () := by kernel_rfl
theorem rd_17_20 : runD 17 20 = some () := by kernel_rfl
theorem rd_16_10 : runD 16 10 = some () := by kernel_rfl
theorem rd_16_30 : runD 16 30 = some () := by kernel_rfl
theorem rd_14_4 : runD 14 4 = some () := by kernel_rfl
theorem rd_14_10 : runD 14 10 = some () := by kernel_rfl
theorem rd_13_8 : runD 13 8 = some () := by kernel_rfl
theorem rd_12_6 : runD 12 6 = some () := by kernel_rfl
theorem rd_11_6 : runD 11 6 = some () := by kernel_rfl
theorem rd_10_10 : runD 10 10 = some () := by kernel_rfl
theorem rd_8_2 : runD 8 2 = some () := by kernel_rfl
theorem rd_8_14 : runD 8 14 = some () := by kernel_rfl
theorem rd_5_2 : runD 5 2 = some () := by kernel_rfl
theorem ra_12 : runA 12 = some () := by kernel_rfl
theorem rd_2_2 : runD 2 2 = some () := by kernel_rfl
end Go.Proofs.Ytfldgecpfobjmaa.Ev
