import Derived.Test.YtfldgecpfobjmaaFDA
namespace Go.Proofs.Ytfldgecpfobjmaa.Ev
open Go.RowKit
set_option maxRecDepth 100000000
theorem rd_20_16 : runD 20 16 = some () := by kernel_rfl
theorem rb_19 : runB 19 = some () := by kernel_rfl
theorem rd_19_8 : runD 19 8 = some () := by kernel_rfl
theorem rd_19_32 : runD 19 32 = some () := by kernel_rfl
theorem rb_17 : runB 17 = some () := by kernel_rfl
theorem rd_17_6 : runD 17 6 = some () := by kernel_rfl
theorem rd_17_30 : runD 17 30 = some () := by kernel_rfl
theorem rd_15_8 : runD 15 8 = some () := by kernel_rfl
theorem rd_15_20 : runD 15 20 = some () := by kernel_rfl
theorem rd_14_20 : runD 14 20 = some () := by kernel_rfl
theorem rd_13_18 : runD 13 18 = some () := by kernel_rfl
theorem rd_12_16 : runD 12 16 = some () := by kernel_rfl
theorem rd_11_16 : runD 11 16 = some () := by kernel_rfl
theorem rb_9 : runB 9 = some () := by kernel_rfl
theorem rd_9_6 : runD 9 6 = some () := by kernel_rfl
theorem rd_7_6 : runD 7 6 = some () := by kernel_rfl
theorem rd_6_4 : runD 6 4 = some () := by kernel_rfl
theorem rd_4_4 : runD 4 4 = some () := by kernel_rfl
theorem ra_6 : runA 6 = some () := by kernel_rfl
end Go.Proofs.Ytfldgecpfobjmaa.Ev
