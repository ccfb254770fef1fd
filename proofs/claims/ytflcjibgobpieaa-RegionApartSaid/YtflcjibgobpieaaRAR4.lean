import Derived.Test.YtflcjibgobpieaaRAA
namespace Go.Proofs.Ytflcjibgobpieaa.Ev
open Go.RowKit
set_option maxRecDepth 100000000
theorem ra_36 : runA 36 = some () := by kernel_rfl
theorem ra_29 : runA 29 = some () := by kernel_rfl
theorem ra_20 : runA 20 = some () := by kernel_rfl
theorem ra_13 : runA 13 = some () := by kernel_rfl
theorem rc_10_0 : allN (runC 10) 10 0 = true := by kernel_rfl
theorem rc_15_0 : allN (runC 15) 10 0 = true := by kernel_rfl
theorem rc_21_10 : allN (runC 21) 10 10 = true := by kernel_rfl
theorem rc_25_10 : allN (runC 25) 10 10 = true := by kernel_rfl
theorem rc_29_10 : allN (runC 29) 10 10 = true := by kernel_rfl
theorem rc_32_10 : allN (runC 32) 10 10 = true := by kernel_rfl
theorem rc_35_0 : allN (runC 35) 10 0 = true := by kernel_rfl
theorem rc_37_20 : allN (runC 37) 10 20 = true := by kernel_rfl
theorem rc_40_10 : allN (runC 40) 10 10 = true := by kernel_rfl
theorem rc_18_10 : allN (runC 18) 8 10 = true := by kernel_rfl
theorem rc_6_0 : allN (runC 6) 6 0 = true := by kernel_rfl
theorem rd2_10_0 : allN (runD2 10) 10 0 = true := by kernel_rfl
theorem rd2_14_0 : allN (runD2 14) 10 0 = true := by kernel_rfl
theorem rd2_18_0 : allN (runD2 18) 10 0 = true := by kernel_rfl
theorem rd2_21_0 : allN (runD2 21) 10 0 = true := by kernel_rfl
theorem rd2_23_0 : allN (runD2 23) 10 0 = true := by kernel_rfl
theorem rd2_25_0 : allN (runD2 25) 10 0 = true := by kernel_rfl
theorem rd2_27_0 : allN (runD2 27) 10 0 = true := by kernel_rfl
theorem rd2_29_0 : allN (runD2 29) 10 0 = true := by kernel_rfl
theorem rd2_30_20 : allN (runD2 30) 10 20 = true := by kernel_rfl
theorem rd2_32_0 : allN (runD2 32) 10 0 = true := by kernel_rfl
theorem rd2_33_10 : allN (runD2 33) 10 10 = true := by kernel_rfl
theorem rd2_34_20 : allN (runD2 34) 10 20 = true := by kernel_rfl
theorem rd2_36_0 : allN (runD2 36) 10 0 = true := by kernel_rfl
theorem rd2_37_10 : allN (runD2 37) 10 10 = true := by kernel_rfl
theorem rd2_38_20 : allN (runD2 38) 10 20 = true := by kernel_rfl
theorem rd2_40_0 : allN (runD2 40) 10 0 = true := by kernel_rfl
theorem rd1_9_0 : allN (runD1 9) 9 0 = true := by kernel_rfl
theorem rc_5_0 : allN (runC 5) 5 0 = true := by kernel_rfl
theorem rd1_28_20 : allN (runD1 28) 8 20 = true := by kernel_rfl
theorem rd2_27_20 : allN (runD2 27) 7 20 = true := by kernel_rfl
theorem rd1_26_20 : allN (runD1 26) 6 20 = true := by kernel_rfl
theorem rd1_5_0 : allN (runD1 5) 5 0 = true := by kernel_rfl
theorem rd2_35_30 : allN (runD2 35) 5 30 = true := by kernel_rfl
theorem rc_32_30 : allN (runC 32) 2 30 = true := by kernel_rfl
theorem rd2_33_30 : allN (runD2 33) 3 30 = true := by kernel_rfl
theorem rb_33 : allN (runB 33) 65 0 = true := by kernel_rfl
theorem rd2_22_20 : allN (runD2 22) 2 20 = true := by kernel_rfl
theorem rc_11_10 : allN (runC 11) 1 10 = true := by kernel_rfl
theorem rb_27 : allN (runB 27) 53 0 = true := by kernel_rfl
theorem rd1_11_10 : allN (runD1 11) 1 10 = true := by kernel_rfl
theorem rb_14 : allN (runB 14) 27 0 = true := by kernel_rfl
theorem rb_11 : allN (runB 11) 21 0 = true := by kernel_rfl
theorem rx_4 : runX 4 = some () := by kernel_rfl
theorem rr_8 : runR 8 = some () := by kernel_rfl
theorem rr_12 : runR 12 = some () := by kernel_rfl
theorem rr_16 : runR 16 = some () := by kernel_rfl
theorem rr_20 : runR 20 = some () := by kernel_rfl
theorem rr_24 : runR 24 = some () := by kernel_rfl
theorem rr_28 : runR 28 = some () := by kernel_rfl
theorem rr_32 : runR 32 = some () := by kernel_rfl
theorem rr_36 : runR 36 = some () := by kernel_rfl
theorem rr_40 : runR 40 = some () := by kernel_rfl
end Go.Proofs.Ytflcjibgobpieaa.Ev
