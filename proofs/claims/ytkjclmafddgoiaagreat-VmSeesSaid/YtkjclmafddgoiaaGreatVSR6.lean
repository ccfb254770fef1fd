import Derived.Test.YtkjclmafddgoiaaGreatVSA
namespace Go.Proofs.YtkjclmafddgoiaaGreat.Ev
open Go.RowKit
set_option maxRecDepth 100000000
theorem ra_0_6 : runA 0 6 = some () := by kernel_rfl
theorem rb_0_p5 : runB (FP 100000 999999 5) 0 = some () := by kernel_rfl
theorem ra_1_2 : runA 1 2 = some () := by kernel_rfl
theorem rb_1_p3 : runB (FP 1000 9999 3) 1 = some () := by kernel_rfl
theorem rb_1_p9 : runB (FP 1000000000 2147483647 9) 1 = some () := by kernel_rfl
theorem rb_2_p1 : runB (FP 10 99 1) 2 = some () := by kernel_rfl
theorem rb_2_p7 : runB (FP 10000000 99999999 7) 2 = some () := by kernel_rfl
theorem ra_3_6 : runA 3 6 = some () := by kernel_rfl
theorem rb_3_p5 : runB (FP 100000 999999 5) 3 = some () := by kernel_rfl
end Go.Proofs.YtkjclmafddgoiaaGreat.Ev
