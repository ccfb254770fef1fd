import Derived.Test.YtflcjibgobpieaaRAA
namespace Go.Proofs.Ytflcjibgobpieaa.Ev
open Go.RowKit
set_option maxRecDepth 100000000
theorem ra_35 : runA 35 = some () := by kernel_rfl
theorem ra_30 : runA 30 = some () := by kernel_rfl
theorem ra_19 : runA 19 = some () := by kernel_rfl
theorem ra_14 : runA 14 = some () := by kernel_rfl
theorem rc_11_0 : allN (runC 11) 10 0 = true := by kernel_rfl
theorem rc_16_0 : allN (runC 16) 10 0 = true := by kernel_rfl
theorem rc_22_0 : allN (runC 22) 10 0 = true := by kernel_rfl
theorem rc_26_0 : allN (runC 26) 10 0 = true := by kernel_rfl
theorem rc_30_0 : allN (runC 30) 10 0 = true := by kernel_rfl
theorem rc_32_20 : allN (runC 32) 10 20 = true := by kernel_rfl
theorem rc_35_10 : allN (runC 35) 10 10 = true := by kernel_rfl
theorem rc_38_0 : allN (runC 38) 10 0 = true := by kernel_rfl
theorem rc_40_20 : allN (runC 40) 10 20 = true := by kernel_rfl
theorem rc_28_20 : allN (runC 28) 8 20 = true := by kernel_rfl
theorem rc_16_10 : allN (runC 16) 6 10 = true := by kernel_rfl
theorem rd1_11_0 : allN (runD1 11) 10 0 = true := by kernel_rfl
theorem rd1_15_0 : allN (runD1 15) 10 0 = true := by kernel_rfl
theorem rd1_19_0 : allN (runD1 19) 10 0 = true := by kernel_rfl
theorem rd1_21_10 : allN (runD1 21) 10 10 = true := by kernel_rfl
theorem rd1_23_10 : allN (runD1 23) 10 10 = true := by kernel_rfl
theorem rd1_25_10 : allN (runD1 25) 10 10 = true := by kernel_rfl
theorem rd1_27_10 : allN (runD1 27) 10 10 = true := by kernel_rfl
theorem rd1_29_10 : allN (runD1 29) 10 10 = true := by kernel_rfl
theorem rd1_31_0 : allN (runD1 31) 10 0 = true := by kernel_rfl
theorem rd1_32_10 : allN (runD1 32) 10 10 = true := by kernel_rfl
theorem rd1_33_20 : allN (runD1 33) 10 20 = true := by kernel_rfl
theorem rd1_35_0 : allN (runD1 35) 10 0 = true := by kernel_rfl
theorem rd1_36_10 : allN (runD1 36) 10 10 = true := by kernel_rfl
theorem rd1_37_20 : allN (runD1 37) 10 20 = true := by kernel_rfl
theorem rd1_39_0 : allN (runD1 39) 10 0 = true := by kernel_rfl
theorem rd1_40_10 : allN (runD1 40) 10 10 = true := by kernel_rfl
theorem rd2_9_0 : allN (runD2 9) 9 0 = true := by kernel_rfl
theorem rc_15_10 : allN (runC 15) 5 10 = true := by kernel_rfl
theorem rd2_28_20 : allN (runD2 28) 8 20 = true := by kernel_rfl
theorem rc_34_30 : allN (runC 34) 4 30 = true := by kernel_rfl
theorem rd2_26_20 : allN (runD2 26) 6 20 = true := by kernel_rfl
theorem rd2_5_0 : allN (runD2 5) 5 0 = true := by kernel_rfl
theorem rd1_4_0 : allN (runD1 4) 4 0 = true := by kernel_rfl
theorem rd1_24_20 : allN (runD1 24) 4 20 = true := by kernel_rfl
theorem rd1_3_0 : allN (runD1 3) 3 0 = true := by kernel_rfl
theorem rb_40 : allN (runB 40) 79 0 = true := by kernel_rfl
theorem rd2_12_10 : allN (runD2 12) 2 10 = true := by kernel_rfl
theorem rb_29 : allN (runB 29) 57 0 = true := by kernel_rfl
theorem rb_26 : allN (runB 26) 51 0 = true := by kernel_rfl
theorem rd2_1_0 : allN (runD2 1) 1 0 = true := by kernel_rfl
theorem rd2_21_20 : allN (runD2 21) 1 20 = true := by kernel_rfl
theorem rb_7 : allN (runB 7) 13 0 = true := by kernel_rfl
theorem rr_2 : runR 2 = some () := by kernel_rfl
theorem rx_5 : runX 5 = some () := by kernel_rfl
theorem rx_9 : runX 9 = some () := by kernel_rfl
theorem rx_13 : runX 13 = some () := by kernel_rfl
theorem rx_17 : runX 17 = some () := by kernel_rfl
theorem rx_21 : runX 21 = some () := by kernel_rfl
theorem rx_25 : runX 25 = some () := by kernel_rfl
theorem rx_29 : runX 29 = some () := by kernel_rfl
theorem rx_33 : runX 33 = some () := by kernel_rfl
theorem rx_37 : runX 37 = some () := by kernel_rfl
theorem rb_2 : allN (runB 2) 3 0 = true := by kernel_rfl
end Go.Proofs.Ytflcjibgobpieaa.Ev
