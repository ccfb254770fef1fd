import Derived.Test.YtflcjibgobpieaaRAA
namespace Go.Proofs.Ytflcjibgobpieaa.Ev
open Go.RowKit
set_option maxRecDepth 100000000
theorem ra_37 : runA 37 = some () := by kernel_rfl
theorem ra_28 : runA 28 = some () := by kernel_rfl
theorem ra_21 : runA 21 = some () := by kernel_rfl
theorem ra_12 : runA 12 = some () := by kernel_rfl
theorem ra_5 : runA 5 = some () := by kernel_rfl
theorem rc_14_0 : allN (runC 14) 10 0 = true := by kernel_rfl
theorem rc_21_0 : allN (runC 21) 10 0 = true := by kernel_rfl
theorem rc_25_0 : allN (runC 25) 10 0 = true := by kernel_rfl
theorem rc_29_0 : allN (runC 29) 10 0 = true := by kernel_rfl
theorem rc_32_0 : allN (runC 32) 10 0 = true := by kernel_rfl
theorem rc_34_20 : allN (runC 34) 10 20 = true := by kernel_rfl
theorem rc_37_10 : allN (runC 37) 10 10 = true := by kernel_rfl
theorem rc_40_0 : allN (runC 40) 10 0 = true := by kernel_rfl
theorem rc_8_0 : allN (runC 8) 8 0 = true := by kernel_rfl
theorem ra_2 : runA 2 = some () := by kernel_rfl
theorem rd2_12_0 : allN (runD2 12) 10 0 = true := by kernel_rfl
theorem rd2_16_0 : allN (runD2 16) 10 0 = true := by kernel_rfl
theorem rd2_20_0 : allN (runD2 20) 10 0 = true := by kernel_rfl
theorem rd2_22_0 : allN (runD2 22) 10 0 = true := by kernel_rfl
theorem rd2_24_0 : allN (runD2 24) 10 0 = true := by kernel_rfl
theorem rd2_26_0 : allN (runD2 26) 10 0 = true := by kernel_rfl
theorem rd2_28_0 : allN (runD2 28) 10 0 = true := by kernel_rfl
theorem rd2_30_0 : allN (runD2 30) 10 0 = true := by kernel_rfl
theorem rd2_31_10 : allN (runD2 31) 10 10 = true := by kernel_rfl
theorem rd2_32_20 : allN (runD2 32) 10 20 = true := by kernel_rfl
theorem rd2_34_0 : allN (runD2 34) 10 0 = true := by kernel_rfl
theorem rd2_35_10 : allN (runD2 35) 10 10 = true := by kernel_rfl
theorem rd2_36_20 : allN (runD2 36) 10 20 = true := by kernel_rfl
theorem rd2_38_0 : allN (runD2 38) 10 0 = true := by kernel_rfl
theorem rd2_39_10 : allN (runD2 39) 10 10 = true := by kernel_rfl
theorem rd2_40_20 : allN (runD2 40) 10 20 = true := by kernel_rfl
theorem rd1_29_20 : allN (runD1 29) 9 20 = true := by kernel_rfl
theorem rd1_8_0 : allN (runD1 8) 8 0 = true := by kernel_rfl
theorem rd2_38_30 : allN (runD2 38) 8 30 = true := by kernel_rfl
theorem rd2_37_30 : allN (runD2 37) 7 30 = true := by kernel_rfl
theorem rd2_36_30 : allN (runD2 36) 6 30 = true := by kernel_rfl
theorem rd2_15_10 : allN (runD2 15) 5 10 = true := by kernel_rfl
theorem rd2_14_10 : allN (runD2 14) 4 10 = true := by kernel_rfl
theorem rd2_34_30 : allN (runD2 34) 4 30 = true := by kernel_rfl
theorem rd1_23_20 : allN (runD1 23) 3 20 = true := by kernel_rfl
theorem rb_36 : allN (runB 36) 71 0 = true := by kernel_rfl
theorem rd1_12_10 : allN (runD1 12) 2 10 = true := by kernel_rfl
theorem rb_30 : allN (runB 30) 59 0 = true := by kernel_rfl
theorem rb_24 : allN (runB 24) 47 0 = true := by kernel_rfl
theorem rb_17 : allN (runB 17) 33 0 = true := by kernel_rfl
theorem rd1_21_20 : allN (runD1 21) 1 20 = true := by kernel_rfl
theorem rb_8 : allN (runB 8) 15 0 = true := by kernel_rfl
theorem rx_2 : runX 2 = some () := by kernel_rfl
theorem rr_6 : runR 6 = some () := by kernel_rfl
theorem rr_10 : runR 10 = some () := by kernel_rfl
theorem rr_14 : runR 14 = some () := by kernel_rfl
theorem rr_18 : runR 18 = some () := by kernel_rfl
theorem rr_22 : runR 22 = some () := by kernel_rfl
theorem rr_26 : runR 26 = some () := by kernel_rfl
theorem rr_30 : runR 30 = some () := by kernel_rfl
theorem rr_34 : runR 34 = some () := by kernel_rfl
theorem rr_38 : runR 38 = some () := by kernel_rfl
theorem rb_1 : allN (runB 1) 1 0 = true := by kernel_rfl
end Go.Proofs.Ytflcjibgobpieaa.Ev
