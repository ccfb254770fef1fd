import Derived.Test.YtfldgecpfobjmaaFDA
namespace Go.Proofs.Ytfldgecpfobjmaa.Ev
open Go.RowKit
set_option maxRecDepth 100000000
theorem rb_20 : runB 20 = some () := by kernel_rfl
theorem rd_20_24 : runD 20 24 = some () := by kernel_rfl
theorem rd_19_16 : runD 19 16 = some () := by kernel_rfl
theorem rd_18_2 : runD 18 2 = some () := by kernel_rfl
theorem rd_18_20 : runD 18 20 = some () := by kernel_rfl
theorem rd_17_14 : runD 17 14 = some () := by kernel_rfl
theorem rd_16_4 : runD 16 4 = some () := by kernel_rfl
theorem rd_16_24 : runD 16 24 = some () := by kernel_rfl
theorem rd_15_28 : runD 15 28 = some () := by kernel_rfl
theorem rb_13 : runB 13 = some () := by kernel_rfl
theorem rd_13_2 : runD 13 2 = some () := by kernel_rfl
theorem rb_12 : runB 12 = some () := by kernel_rfl
theorem rb_11 : runB 11 = some () := by kernel_rfl
theorem rd_10_4 : runD 10 4 = some () := by kernel_rfl
theorem rd_9_14 : runD 9 14 = some () := by kernel_rfl
theorem ra_19 : runA 19 = some () := by kernel_rfl
theorem ra_14 : runA 14 = some () := by kernel_rfl
theorem rd_5_4 : runD 5 4 = some () := by kernel_rfl
theorem ra_4 : runA 4 = some () := by kernel_rfl
end Go.Proofs.Ytfldgecpfobjmaa.Ev
