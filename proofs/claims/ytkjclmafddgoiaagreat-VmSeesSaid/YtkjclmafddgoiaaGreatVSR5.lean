import Derived.Test.YtkjclmafddgoiaaGreatVSA
namespace Go.Proofs.YtkjclmafddgoiaaGreat.Ev
open Go.RowKit
set_option maxRecDepth 100000000
theorem ra_0_5 : runA 0 5 = some () := by kernel_rfl
theorem rb_0_n4 : runB (FN (-99999) (-10000) 4) 0 = some () := by kernel_rfl
theorem ra_1_1 : runA 1 1 = some () := by kernel_rfl
theorem rb_1_n2 : runB (FN (-999) (-100) 2) 1 = some () := by kernel_rfl
theorem rb_1_n8 : runB (FN (-999999999) (-100000000) 8) 1 = some () := by kernel_rfl
theorem rb_2_n0 : runB (FN (-9) (-1) 0) 2 = some () := by kernel_rfl
theorem rb_2_n6 : runB (FN (-9999999) (-1000000) 6) 2 = some () := by kernel_rfl
theorem ra_3_5 : runA 3 5 = some () := by kernel_rfl
theorem rb_3_n4 : runB (FN (-99999) (-10000) 4) 3 = some () := by kernel_rfl
end Go.Proofs.YtkjclmafddgoiaaGreat.Ev
