import Derived.Test.YtkjclmafddgoiaaGreatVSA
namespace Go.Proofs.YtkjclmafddgoiaaGreat.Ev
open Go.RowKit
set_option maxRecDepth 100000000
theorem rb_0_p0 : runB (FP 1 9 0) 0 = some () := by kernel_rfl
theorem rb_1_p0 : runB (FP 1 9 0) 1 = some () := by kernel_rfl
theorem rb_2_p0 : runB (FP 1 9 0) 2 = some () := by kernel_rfl
theorem rb_3_p0 : runB (FP 1 9 0) 3 = some () := by kernel_rfl
end Go.Proofs.YtkjclmafddgoiaaGreat.Ev
