import Derived.Test.YtflcjibgobpieaaRAA
namespace Go.Proofs.Ytflcjibgobpieaa.Ev
open Go.RowKit
set_option maxRecDepth 100000000
theorem ra_39 : runA 39 = some () := by kernel_rfl
theorem ra_26 : runA 26 = some () := by kernel_rfl
theorem ra_23 : runA 23 = some () := by kernel_rfl
theorem ra_10 : runA 10 = some () := by kernel_rfl
theorem ra_7 : runA 7 = some () := by kernel_rfl
theorem rc_20_0 : allN (runC 20) 10 0 = true := by kernel_rfl
theorem rc_24_0 : allN (runC 24) 10 0 = true := by kernel_rfl
theorem rc_28_0 : allN (runC 28) 10 0 = true := by kernel_rfl
theorem rc_31_10 : allN (runC 31) 10 10 = true := by kernel_rfl
theorem rc_34_0 : allN (runC 34) 10 0 = true := by kernel_rfl
theorem rc_36_20 : allN (runC 36) 10 20 = true := by kernel_rfl
theorem rc_39_10 : allN (runC 39) 10 10 = true := by kernel_rfl
theorem rc_29_20 : allN (runC 29) 9 20 = true := by kernel_rfl
theorem rc_7_0 : allN (runC 7) 7 0 = true := by kernel_rfl
theorem rc_36_30 : allN (runC 36) 6 30 = true := by kernel_rfl
theorem rd1_12_0 : allN (runD1 12) 10 0 = true := by kernel_rfl
theorem rd1_16_0 : allN (runD1 16) 10 0 = true := by kernel_rfl
theorem rd1_20_0 : allN (runD1 20) 10 0 = true := by kernel_rfl
theorem rd1_22_0 : allN (runD1 22) 10 0 = true := by kernel_rfl
theorem rd1_24_0 : allN (runD1 24) 10 0 = true := by kernel_rfl
theorem rd1_26_0 : allN (runD1 26) 10 0 = true := by kernel_rfl
theorem rd1_28_0 : allN (runD1 28) 10 0 = true := by kernel_rfl
theorem rd1_30_0 : allN (runD1 30) 10 0 = true := by kernel_rfl
theorem rd1_31_10 : allN (runD1 31) 10 10 = true := by kernel_rfl
theorem rd1_32_20 : allN (runD1 32) 10 20 = true := by kernel_rfl
theorem rd1_34_0 : allN (runD1 34) 10 0 = true := by kernel_rfl
theorem rd1_35_10 : allN (runD1 35) 10 10 = true := by kernel_rfl
theorem rd1_36_20 : allN (runD1 36) 10 20 = true := by kernel_rfl
theorem rd1_38_0 : allN (runD1 38) 10 0 = true := by kernel_rfl
theorem rd1_39_10 : allN (runD1 39) 10 10 = true := by kernel_rfl
theorem rd1_40_20 : allN (runD1 40) 10 20 = true := by kernel_rfl
theorem rd2_19_10 : allN (runD2 19) 9 10 = true := by kernel_rfl
theorem rc_35_30 : allN (runC 35) 5 30 = true := by kernel_rfl
theorem rc_4_0 : allN (runC 4) 4 0 = true := by kernel_rfl
theorem rd1_17_10 : allN (runD1 17) 7 10 = true := by kernel_rfl
theorem rd1_6_0 : allN (runD1 6) 6 0 = true := by kernel_rfl
theorem rc_3_0 : allN (runC 3) 3 0 = true := by kernel_rfl
theorem rd1_25_20 : allN (runD1 25) 5 20 = true := by kernel_rfl
theorem rc_2_0 : allN (runC 2) 2 0 = true := by kernel_rfl
theorem rd2_13_10 : allN (runD2 13) 3 10 = true := by kernel_rfl
theorem rb_37 : allN (runB 37) 73 0 = true := by kernel_rfl
theorem rd1_22_20 : allN (runD1 22) 2 20 = true := by kernel_rfl
theorem rc_1_0 : allN (runC 1) 1 0 = true := by kernel_rfl
theorem rc_31_30 : allN (runC 31) 1 30 = true := by kernel_rfl
theorem rd2_11_10 : allN (runD2 11) 1 10 = true := by kernel_rfl
theorem rb_13 : allN (runB 13) 25 0 = true := by kernel_rfl
theorem rb_12 : allN (runB 12) 23 0 = true := by kernel_rfl
theorem rr_5 : runR 5 = some () := by kernel_rfl
theorem rr_9 : runR 9 = some () := by kernel_rfl
theorem rr_13 : runR 13 = some () := by kernel_rfl
theorem rr_17 : runR 17 = some () := by kernel_rfl
theorem rr_21 : runR 21 = some () := by kernel_rfl
theorem rr_25 : runR 25 = some () := by kernel_rfl
theorem rr_29 : runR 29 = some () := by kernel_rfl
theorem rr_33 : runR 33 = some () := by kernel_rfl
theorem rr_37 : runR 37 = some () := by kernel_rfl
theorem rb_3 : allN (runB 3) 5 0 = true := by kernel_rfl
end Go.Proofs.Ytflcjibgobpieaa.Ev
