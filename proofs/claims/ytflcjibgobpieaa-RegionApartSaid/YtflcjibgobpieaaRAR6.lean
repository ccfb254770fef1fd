import Derived.Test.YtflcjibgobpieaaRAA
namespace Go.Proofs.Ytflcjibgobpieaa.Ev
open Go.RowKit
set_option maxRecDepth 100000000
theorem ra_34 : runA 34 = some () := by kernel_rfl
theorem ra_31 : runA 31 = some () := by kernel_rfl
theorem ra_18 : runA 18 = some () := by kernel_rfl
theorem ra_15 : runA 15 = some () := by kernel_rfl
theorem rc_12_0 : allN (runC 12) 10 0 = true := by kernel_rfl
theorem rc_17_0 : allN (runC 17) 10 0 = true := by kernel_rfl
theorem rc_22_10 : allN (runC 22) 10 10 = true := by kernel_rfl
theorem rc_26_10 : allN (runC 26) 10 10 = true := by kernel_rfl
theorem rc_30_10 : allN (runC 30) 10 10 = true := by kernel_rfl
theorem rc_33_0 : allN (runC 33) 10 0 = true := by kernel_rfl
theorem rc_35_20 : allN (runC 35) 10 20 = true := by kernel_rfl
theorem rc_38_10 : allN (runC 38) 10 10 = true := by kernel_rfl
theorem rc_40_30 : allN (runC 40) 10 30 = true := by kernel_rfl
theorem rc_38_30 : allN (runC 38) 8 30 = true := by kernel_rfl
theorem rc_26_20 : allN (runC 26) 6 20 = true := by kernel_rfl
theorem rd2_11_0 : allN (runD2 11) 10 0 = true := by kernel_rfl
theorem rd2_15_0 : allN (runD2 15) 10 0 = true := by kernel_rfl
theorem rd2_19_0 : allN (runD2 19) 10 0 = true := by kernel_rfl
theorem rd2_21_10 : allN (runD2 21) 10 10 = true := by kernel_rfl
theorem rd2_23_10 : allN (runD2 23) 10 10 = true := by kernel_rfl
theorem rd2_25_10 : allN (runD2 25) 10 10 = true := by kernel_rfl
theorem rd2_27_10 : allN (runD2 27) 10 10 = true := by kernel_rfl
theorem rd2_29_10 : allN (runD2 29) 10 10 = true := by kernel_rfl
theorem rd2_31_0 : allN (runD2 31) 10 0 = true := by kernel_rfl
theorem rd2_32_10 : allN (runD2 32) 10 10 = true := by kernel_rfl
theorem rd2_33_20 : allN (runD2 33) 10 20 = true := by kernel_rfl
theorem rd2_35_0 : allN (runD2 35) 10 0 = true := by kernel_rfl
theorem rd2_36_10 : allN (runD2 36) 10 10 = true := by kernel_rfl
theorem rd2_37_20 : allN (runD2 37) 10 20 = true := by kernel_rfl
theorem rd2_39_0 : allN (runD2 39) 10 0 = true := by kernel_rfl
theorem rd2_40_10 : allN (runD2 40) 10 10 = true := by kernel_rfl
theorem rd1_19_10 : allN (runD1 19) 9 10 = true := by kernel_rfl
theorem rc_25_20 : allN (runC 25) 5 20 = true := by kernel_rfl
theorem rd1_38_30 : allN (runD1 38) 8 30 = true := by kernel_rfl
theorem rd1_37_30 : allN (runD1 37) 7 30 = true := by kernel_rfl
theorem rd1_36_30 : allN (runD1 36) 6 30 = true := by kernel_rfl
theorem rd1_15_10 : allN (runD1 15) 5 10 = true := by kernel_rfl
theorem rd2_4_0 : allN (runD2 4) 4 0 = true := by kernel_rfl
theorem rd2_24_20 : allN (runD2 24) 4 20 = true := by kernel_rfl
theorem rd2_3_0 : allN (runD2 3) 3 0 = true := by kernel_rfl
theorem rb_39 : allN (runB 39) 77 0 = true := by kernel_rfl
theorem rd2_2_0 : allN (runD2 2) 2 0 = true := by kernel_rfl
theorem rb_31 : allN (runB 31) 61 0 = true := by kernel_rfl
theorem rb_23 : allN (runB 23) 45 0 = true := by kernel_rfl
theorem rb_18 : allN (runB 18) 35 0 = true := by kernel_rfl
theorem rd1_31_30 : allN (runD1 31) 1 30 = true := by kernel_rfl
theorem rb_6 : allN (runB 6) 11 0 = true := by kernel_rfl
theorem rx_1 : runX 1 = some () := by kernel_rfl
theorem rb_4 : allN (runB 4) 7 0 = true := by kernel_rfl
theorem rx_8 : runX 8 = some () := by kernel_rfl
theorem rx_12 : runX 12 = some () := by kernel_rfl
theorem rx_16 : runX 16 = some () := by kernel_rfl
theorem rx_20 : runX 20 = some () := by kernel_rfl
theorem rx_24 : runX 24 = some () := by kernel_rfl
theorem rx_28 : runX 28 = some () := by kernel_rfl
theorem rx_32 : runX 32 = some () := by kernel_rfl
theorem rx_36 : runX 36 = some () := by kernel_rfl
theorem rx_40 : runX 40 = some () := by kernel_rfl
end Go.Proofs.Ytflcjibgobpieaa.Ev
