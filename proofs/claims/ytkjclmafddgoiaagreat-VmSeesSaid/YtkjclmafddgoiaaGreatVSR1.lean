import Derived.Test.YtkjclmafddgoiaaGreatVSA
namespace Go.Proofs.YtkjclmafddgoiaaGreat.Ev
open Go.RowKit
set_option maxRecDepth 100000000
theorem ra_0_1 : runA 0 1 = some () := by kernel_rfl
theorem rb_0_n2 : runB (FN (-999) (-100) 2) 0 = some () := by kernel_rfl
theorem rb_0_n8 : runB (FN (-999999999) (-100000000) 8) 0 = some () := by kernel_rfl
theorem rb_1_n0 : runB (FN (-9) (-1) 0) 1 = some () := by kernel_rfl
theorem rb_1_n6 : runB (FN (-9999999) (-1000000) 6) 1 = some () := by kernel_rfl
theorem ra_2_5 : runA 2 5 = some () := by kernel_rfl
theorem rb_2_n4 : runB (FN (-99999) (-10000) 4) 2 = some () := by kernel_rfl
theorem ra_3_1 : runA 3 1 = some () := by kernel_rfl
theorem rb_3_n2 : runB (FN (-999) (-100) 2) 3 = some () := by kernel_rfl
theorem rb_3_n8 : runB (FN (-999999999) (-100000000) 8) 3 = some () := by kernel_rfl
end Go.Proofs.YtkjclmafddgoiaaGreat.Ev
