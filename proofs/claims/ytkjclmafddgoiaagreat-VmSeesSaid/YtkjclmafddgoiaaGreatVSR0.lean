import Derived.Test.YtkjclmafddgoiaaGreatVSA
namespace Go.Proofs.YtkjclmafddgoiaaGreat.Ev
open Go.RowKit
set_option maxRecDepth 100000000
theorem ra_0_0 : runA 0 0 = some () := by kernel_rfl
theorem rb_0_p2 : runB (FP 100 999 2) 0 = some () := by kernel_rfl
theorem rb_0_p8 : runB (FP 100000000 999999999 8) 0 = some () := by kernel_rfl
theorem rb_1_p6 : runB (FP 1000000 9999999 6) 1 = some () := by kernel_rfl
theorem ra_2_4 : runA 2 4 = some () := by kernel_rfl
theorem rb_2_p4 : runB (FP 10000 99999 4) 2 = some () := by kernel_rfl
theorem ra_3_0 : runA 3 0 = some () := by kernel_rfl
theorem rb_3_p2 : runB (FP 100 999 2) 3 = some () := by kernel_rfl
theorem rb_3_p8 : runB (FP 100000000 999999999 8) 3 = some () := by kernel_rfl
end Go.Proofs.YtkjclmafddgoiaaGreat.Ev
