import Derived.Test.YtflcjibgobpieaaRAA
namespace Go.Proofs.Ytflcjibgobpieaa.Ev
open Go.RowKit
set_option maxRecDepth 100000000
theorem ra_38 : runA 38 = some () := by kernel_rfl
theorem ra_27 : runA 27 = some () := by kernel_rfl
theorem ra_22 : runA 22 = some () := by kernel_rfl
theorem ra_11 : runA 11 = some () := by kernel_rfl
theorem ra_6 : runA 6 = some () := by kernel_rfl
theorem rc_19_0 : allN (runC 19) 10 0 = true := by kernel_rfl
theorem rc_23_10 : allN (runC 23) 10 10 = true := by kernel_rfl
theorem rc_27_10 : allN (runC 27) 10 10 = true := by kernel_rfl
theorem rc_31_0 : allN (runC 31) 10 0 = true := by kernel_rfl
theorem rc_33_20 : allN (runC 33) 10 20 = true := by kernel_rfl
theorem rc_36_10 : allN (runC 36) 10 10 = true := by kernel_rfl
theorem rc_39_0 : allN (runC 39) 10 0 = true := by kernel_rfl
theorem rc_19_10 : allN (runC 19) 9 10 = true := by kernel_rfl
theorem ra_3 : runA 3 = some () := by kernel_rfl
theorem rc_27_20 : allN (runC 27) 7 20 = true := by kernel_rfl
theorem rd1_13_0 : allN (runD1 13) 10 0 = true := by kernel_rfl
theorem rd1_17_0 : allN (runD1 17) 10 0 = true := by kernel_rfl
theorem rd1_20_10 : allN (runD1 20) 10 10 = true := by kernel_rfl
theorem rd1_22_10 : allN (runD1 22) 10 10 = true := by kernel_rfl
theorem rd1_24_10 : allN (runD1 24) 10 10 = true := by kernel_rfl
theorem rd1_26_10 : allN (runD1 26) 10 10 = true := by kernel_rfl
theorem rd1_28_10 : allN (runD1 28) 10 10 = true := by kernel_rfl
theorem rd1_30_10 : allN (runD1 30) 10 10 = true := by kernel_rfl
theorem rd1_31_20 : allN (runD1 31) 10 20 = true := by kernel_rfl
theorem rd1_33_0 : allN (runD1 33) 10 0 = true := by kernel_rfl
theorem rd1_34_10 : allN (runD1 34) 10 10 = true := by kernel_rfl
theorem rd1_35_20 : allN (runD1 35) 10 20 = true := by kernel_rfl
theorem rd1_37_0 : allN (runD1 37) 10 0 = true := by kernel_rfl
theorem rd1_38_10 : allN (runD1 38) 10 10 = true := by kernel_rfl
theorem rd1_39_20 : allN (runD1 39) 10 20 = true := by kernel_rfl
theorem rd1_40_30 : allN (runD1 40) 10 30 = true := by kernel_rfl
theorem rd1_39_30 : allN (runD1 39) 9 30 = true := by kernel_rfl
theorem rd1_18_10 : allN (runD1 18) 8 10 = true := by kernel_rfl
theorem rd2_7_0 : allN (runD2 7) 7 0 = true := by kernel_rfl
theorem rc_24_20 : allN (runC 24) 4 20 = true := by kernel_rfl
theorem rd1_16_10 : allN (runD1 16) 6 10 = true := by kernel_rfl
theorem rc_23_20 : allN (runC 23) 3 20 = true := by kernel_rfl
theorem rd1_35_30 : allN (runD1 35) 5 30 = true := by kernel_rfl
theorem rc_22_20 : allN (runC 22) 2 20 = true := by kernel_rfl
theorem rd1_33_30 : allN (runD1 33) 3 30 = true := by kernel_rfl
theorem rb_34 : allN (runB 34) 67 0 = true := by kernel_rfl
theorem rb_32 : allN (runB 32) 63 0 = true := by kernel_rfl
theorem rc_21_20 : allN (runC 21) 1 20 = true := by kernel_rfl
theorem rb_25 : allN (runB 25) 49 0 = true := by kernel_rfl
theorem rd1_1_0 : allN (runD1 1) 1 0 = true := by kernel_rfl
theorem rb_16 : allN (runB 16) 31 0 = true := by kernel_rfl
theorem rb_9 : allN (runB 9) 17 0 = true := by kernel_rfl
theorem rr_3 : runR 3 = some () := by kernel_rfl
theorem rx_6 : runX 6 = some () := by kernel_rfl
theorem rx_10 : runX 10 = some () := by kernel_rfl
theorem rx_14 : runX 14 = some () := by kernel_rfl
theorem rx_18 : runX 18 = some () := by kernel_rfl
theorem rx_22 : runX 22 = some () := by kernel_rfl
theorem rx_26 : runX 26 = some () := by kernel_rfl
theorem rx_30 : runX 30 = some () := by kernel_rfl
theorem rx_34 : runX 34 = some () := by kernel_rfl
theorem rx_38 : runX 38 = some () := by kernel_rfl
end Go.Proofs.Ytflcjibgobpieaa.Ev
