import Derived.Test.YtkjclmafddgoiaaGreatVSA
namespace Go.Proofs.YtkjclmafddgoiaaGreat.Ev
open Go.RowKit
set_option maxRecDepth 100000000
theorem rb_0_n1 : runB (FN (-99) (-10) 1) 0 = some () := by kernel_rfl
theorem rb_0_n7 : runB (FN (-99999999) (-10000000) 7) 0 = some () := by kernel_rfl
theorem ra_1_7 : runA 1 7 = some () := by kernel_rfl
theorem rb_1_n5 : runB (FN (-999999) (-100000) 5) 1 = some () := by kernel_rfl
theorem ra_2_3 : runA 2 3 = some () := by kernel_rfl
theorem rb_2_n3 : runB (FN (-9999) (-1000) 3) 2 = some () := by kernel_rfl
theorem rb_2_n9 : runB (FN (-2147483648) (-1000000000) 9) 2 = some () := by kernel_rfl
theorem rb_3_n1 : runB (FN (-99) (-10) 1) 3 = some () := by kernel_rfl
theorem rb_3_n7 : runB (FN (-99999999) (-10000000) 7) 3 = some () := by kernel_rfl
end Go.Proofs.YtkjclmafddgoiaaGreat.Ev
