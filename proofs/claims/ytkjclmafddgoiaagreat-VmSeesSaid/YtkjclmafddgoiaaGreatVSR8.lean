import Derived.Test.YtkjclmafddgoiaaGreatVSA
namespace Go.Proofs.YtkjclmafddgoiaaGreat.Ev
open Go.RowKit
set_option maxRecDepth 100000000
theorem rb_0_p6 : runB (FP 1000000 9999999 6) 0 = some () := by kernel_rfl
theorem ra_1_4 : runA 1 4 = some () := by kernel_rfl
theorem rb_1_p4 : runB (FP 10000 99999 4) 1 = some () := by kernel_rfl
theorem ra_2_0 : runA 2 0 = some () := by kernel_rfl
theorem rb_2_p2 : runB (FP 100 999 2) 2 = some () := by kernel_rfl
theorem rb_2_p8 : runB (FP 100000000 999999999 8) 2 = some () := by kernel_rfl
theorem rb_3_p6 : runB (FP 1000000 9999999 6) 3 = some () := by kernel_rfl
end Go.Proofs.YtkjclmafddgoiaaGreat.Ev
