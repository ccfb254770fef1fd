import Derived.Test.YtflcjibgobpieaaRAA
namespace Go.Proofs.Ytflcjibgobpieaa.Ev
open Go.RowKit
set_option maxRecDepth 100000000
theorem ra_40 : runA 40 = some () := by kernel_rfl
theorem ra_25 : runA 25 = some () := by kernel_rfl
theorem ra_24 : runA 24 = some () := by kernel_rfl
theorem ra_9 : runA 9 = some () := by kernel_rfl
theorem ra_8 : runA 8 = some () := by kernel_rfl
theorem rc_20_10 : allN (runC 20) 10 10 = true := by kernel_rfl
theorem rc_24_10 : allN (runC 24) 10 10 = true := by kernel_rfl
theorem rc_28_10 : allN (runC 28) 10 10 = true := by kernel_rfl
theorem rc_31_20 : allN (runC 31) 10 20 = true := by kernel_rfl
theorem rc_34_10 : allN (runC 34) 10 10 = true := by kernel_rfl
theorem rc_37_0 : allN (runC 37) 10 0 = true := by kernel_rfl
theorem rc_39_20 : allN (runC 39) 10 20 = true := by kernel_rfl
theorem rc_39_30 : allN (runC 39) 9 30 = true := by kernel_rfl
theorem rc_17_10 : allN (runC 17) 7 10 = true := by kernel_rfl
theorem rd1_10_0 : allN (runD1 10) 10 0 = true := by kernel_rfl
theorem rd1_14_0 : allN (runD1 14) 10 0 = true := by kernel_rfl
theorem rd1_18_0 : allN (runD1 18) 10 0 = true := by kernel_rfl
theorem rd1_21_0 : allN (runD1 21) 10 0 = true := by kernel_rfl
theorem rd1_23_0 : allN (runD1 23) 10 0 = true := by kernel_rfl
theorem rd1_25_0 : allN (runD1 25) 10 0 = true := by kernel_rfl
theorem rd1_27_0 : allN (runD1 27) 10 0 = true := by kernel_rfl
theorem rd1_29_0 : allN (runD1 29) 10 0 = true := by kernel_rfl
theorem rd1_30_20 : allN (runD1 30) 10 20 = true := by kernel_rfl
theorem rd1_32_0 : allN (runD1 32) 10 0 = true := by kernel_rfl
theorem rd1_33_10 : allN (runD1 33) 10 10 = true := by kernel_rfl
theorem rd1_34_20 : allN (runD1 34) 10 20 = true := by kernel_rfl
theorem rd1_36_0 : allN (runD1 36) 10 0 = true := by kernel_rfl
theorem rd1_37_10 : allN (runD1 37) 10 10 = true := by kernel_rfl
theorem rd1_38_20 : allN (runD1 38) 10 20 = true := by kernel_rfl
theorem rd1_40_0 : allN (runD1 40) 10 0 = true := by kernel_rfl
theorem ra_1 : runA 1 = some () := by kernel_rfl
theorem rd2_29_20 : allN (runD2 29) 9 20 = true := by kernel_rfl
theorem rd2_8_0 : allN (runD2 8) 8 0 = true := by kernel_rfl
theorem rd1_7_0 : allN (runD1 7) 7 0 = true := by kernel_rfl
theorem rd2_17_10 : allN (runD2 17) 7 10 = true := by kernel_rfl
theorem rd2_6_0 : allN (runD2 6) 6 0 = true := by kernel_rfl
theorem rc_13_10 : allN (runC 13) 3 10 = true := by kernel_rfl
theorem rd2_25_20 : allN (runD2 25) 5 20 = true := by kernel_rfl
theorem rc_12_10 : allN (runC 12) 2 10 = true := by kernel_rfl
theorem rd2_23_20 : allN (runD2 23) 3 20 = true := by kernel_rfl
theorem rb_35 : allN (runB 35) 69 0 = true := by kernel_rfl
theorem rd1_32_30 : allN (runD1 32) 2 30 = true := by kernel_rfl
theorem rb_28 : allN (runB 28) 55 0 = true := by kernel_rfl
theorem rb_21 : allN (runB 21) 41 0 = true := by kernel_rfl
theorem rb_20 : allN (runB 20) 39 0 = true := by kernel_rfl
theorem rb_15 : allN (runB 15) 29 0 = true := by kernel_rfl
theorem rb_10 : allN (runB 10) 19 0 = true := by kernel_rfl
theorem rr_4 : runR 4 = some () := by kernel_rfl
theorem rx_7 : runX 7 = some () := by kernel_rfl
theorem rx_11 : runX 11 = some () := by kernel_rfl
theorem rx_15 : runX 15 = some () := by kernel_rfl
theorem rx_19 : runX 19 = some () := by kernel_rfl
theorem rx_23 : runX 23 = some () := by kernel_rfl
theorem rx_27 : runX 27 = some () := by kernel_rfl
theorem rx_31 : runX 31 = some () := by kernel_rfl
theorem rx_35 : runX 35 = some () := by kernel_rfl
theorem rx_39 : runX 39 = some () := by kernel_rfl
end Go.Proofs.Ytflcjibgobpieaa.Ev
