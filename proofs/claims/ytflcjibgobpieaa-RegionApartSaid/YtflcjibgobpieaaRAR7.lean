import Derived.Test.YtflcjibgobpieaaRAA
namespace Go.Proofs.Ytflcjibgobpieaa.Ev
open Go.RowKit
set_option maxRecDepth 100000000
theorem ra_33 : runA 33 = some () := by kernel_rfl
theorem ra_32 : runA 32 = some () := by kernel_rfl
theorem ra_17 : runA 17 = some () := by kernel_rfl
theorem ra_16 : runA 16 = some () := by kernel_rfl
theorem rc_13_0 : allN (runC 13) 10 0 = true := by kernel_rfl
theorem rc_18_0 : allN (runC 18) 10 0 = true := by kernel_rfl
theorem rc_23_0 : allN (runC 23) 10 0 = true := by kernel_rfl
theorem rc_27_0 : allN (runC 27) 10 0 = true := by kernel_rfl
theorem rc_30_20 : allN (runC 30) 10 20 = true := by kernel_rfl
theorem rc_33_10 : allN (runC 33) 10 10 = true := by kernel_rfl
theorem rc_36_0 : allN (runC 36) 10 0 = true := by kernel_rfl
theorem rc_38_20 : allN (runC 38) 10 20 = true := by kernel_rfl
theorem rc_9_0 : allN (runC 9) 9 0 = true := by kernel_rfl
theorem ra_4 : runA 4 = some () := by kernel_rfl
theorem rc_37_30 : allN (runC 37) 7 30 = true := by kernel_rfl
theorem rd2_13_0 : allN (runD2 13) 10 0 = true := by kernel_rfl
theorem rd2_17_0 : allN (runD2 17) 10 0 = true := by kernel_rfl
theorem rd2_20_10 : allN (runD2 20) 10 10 = true := by kernel_rfl
theorem rd2_22_10 : allN (runD2 22) 10 10 = true := by kernel_rfl
theorem rd2_24_10 : allN (runD2 24) 10 10 = true := by kernel_rfl
theorem rd2_26_10 : allN (runD2 26) 10 10 = true := by kernel_rfl
theorem rd2_28_10 : allN (runD2 28) 10 10 = true := by kernel_rfl
theorem rd2_30_10 : allN (runD2 30) 10 10 = true := by kernel_rfl
theorem rd2_31_20 : allN (runD2 31) 10 20 = true := by kernel_rfl
theorem rd2_33_0 : allN (runD2 33) 10 0 = true := by kernel_rfl
theorem rd2_34_10 : allN (runD2 34) 10 10 = true := by kernel_rfl
theorem rd2_35_20 : allN (runD2 35) 10 20 = true := by kernel_rfl
theorem rd2_37_0 : allN (runD2 37) 10 0 = true := by kernel_rfl
theorem rd2_38_10 : allN (runD2 38) 10 10 = true := by kernel_rfl
theorem rd2_39_20 : allN (runD2 39) 10 20 = true := by kernel_rfl
theorem rd2_40_30 : allN (runD2 40) 10 30 = true := by kernel_rfl
theorem rd2_39_30 : allN (runD2 39) 9 30 = true := by kernel_rfl
theorem rd2_18_10 : allN (runD2 18) 8 10 = true := by kernel_rfl
theorem rc_14_10 : allN (runC 14) 4 10 = true := by kernel_rfl
theorem rd1_27_20 : allN (runD1 27) 7 20 = true := by kernel_rfl
theorem rd2_16_10 : allN (runD2 16) 6 10 = true := by kernel_rfl
theorem rc_33_30 : allN (runC 33) 3 30 = true := by kernel_rfl
theorem rd1_14_10 : allN (runD1 14) 4 10 = true := by kernel_rfl
theorem rd1_34_30 : allN (runD1 34) 4 30 = true := by kernel_rfl
theorem rd1_13_10 : allN (runD1 13) 3 10 = true := by kernel_rfl
theorem rb_38 : allN (runB 38) 75 0 = true := by kernel_rfl
theorem rd1_2_0 : allN (runD1 2) 2 0 = true := by kernel_rfl
theorem rd2_32_30 : allN (runD2 32) 2 30 = true := by kernel_rfl
theorem rb_22 : allN (runB 22) 43 0 = true := by kernel_rfl
theorem rb_19 : allN (runB 19) 37 0 = true := by kernel_rfl
theorem rd2_31_30 : allN (runD2 31) 1 30 = true := by kernel_rfl
theorem rb_5 : allN (runB 5) 9 0 = true := by kernel_rfl
theorem rr_1 : runR 1 = some () := by kernel_rfl
theorem rx_3 : runX 3 = some () := by kernel_rfl
theorem rr_7 : runR 7 = some () := by kernel_rfl
theorem rr_11 : runR 11 = some () := by kernel_rfl
theorem rr_15 : runR 15 = some () := by kernel_rfl
theorem rr_19 : runR 19 = some () := by kernel_rfl
theorem rr_23 : runR 23 = some () := by kernel_rfl
theorem rr_27 : runR 27 = some () := by kernel_rfl
theorem rr_31 : runR 31 = some () := by kernel_rfl
theorem rr_35 : runR 35 = some () := by kernel_rfl
theorem rr_39 : runR 39 = some () := by kernel_rfl
end Go.Proofs.Ytflcjibgobpieaa.Ev
