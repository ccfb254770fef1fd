import Derived.Test.YtkjclmafddgoiaaGreatVSA
namespace Go.Proofs.YtkjclmafddgoiaaGreat.Ev
open Go.RowKit
set_option maxRecDepth 100000000
theorem ra_0_7 : runA 0 7 = some () := by kernel_rfl
theorem rb_0_n5 : runB (FN (-999999) (-100000) 5) 0 = some () := by kernel_rfl
theorem ra_1_3 : runA 1 3 = some () := by kernel_rfl
theorem rb_1_n3 : runB (FN (-9999) (-1000) 3) 1 = some () := by kernel_rfl
theorem rb_1_n9 : runB (FN (-2147483648) (-1000000000) 9) 1 = some () := by kernel_rfl
theorem rb_2_n1 : runB (FN (-99) (-10) 1) 2 = some () := by kernel_rfl
theorem rb_2_n7 : runB (FN (-99999999) (-10000000) 7) 2 = some () := by kernel_rfl
theorem ra_3_7 : runA 3 7 = some () := by kernel_rfl
theorem rb_3_n5 : runB (FN (-999999) (-100000) 5) 3 = some () := by kernel_rfl
end Go.Proofs.YtkjclmafddgoiaaGreat.Ev
