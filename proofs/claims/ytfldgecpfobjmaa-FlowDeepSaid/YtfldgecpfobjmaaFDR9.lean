import Derived.Test.YtfldgecpfobjmaaFDA
namespace Go.Proofs.Ytfldgecpfobjmaa.Ev
open Go.RowKit
set_option maxRecDepth 100000000
theorem rd_20_18 : runD 20 18 = some () := by kernel_rfl
theorem rd_19_2 : runD 19 2 = some () := by kernel_rfl
theorem rd_19_10 : runD 19 10 = some () := by kernel_rfl
theorem rd_19_34 : runD 19 34 = some () := by kernel_rfl
theorem rd_17_2 : runD 17 2 = some () := by kernel_rfl
theorem rd_17_8 : runD 17 8 = some () := by kernel_rfl
theorem rd_17_32 : runD 17 32 = some () := by kernel_rfl
theorem rd_15_10 : runD 15 10 = some () := by kernel_rfl
theorem rd_15_22 : runD 15 22 = some () := by kernel_rfl
theorem rd_14_22 : runD 14 22 = some () := by kernel_rfl
theorem rd_13_20 : runD 13 20 = some () := by kernel_rfl
theorem rd_12_18 : runD 12 18 = some () := by kernel_rfl
theorem rd_11_18 : runD 11 18 = some () := by kernel_rfl
theorem rd_9_2 : runD 9 2 = some () := by kernel_rfl
theorem rd_9_8 : runD 9 8 = some () := by kernel_rfl
theorem rd_7_8 : runD 7 8 = some () := by kernel_rfl
theorem rd_6_6 : runD 6 6 = some () := by kernel_rfl
theorem rd_4_6 : runD 4 6 = some () := by kernel_rfl
theorem rb_2 : runB 2 = some () := by kernel_rfl
end Go.Proofs.Ytfldgecpfobjmaa.Ev
