import Derived.Test.YtkjclmafddgoiaaGreatVSA
namespace Go.Proofs.YtkjclmafddgoiaaGreat.Ev
open Go.RowKit
set_option maxRecDepth 100000000
@[reducible] noncomputable def FZ : Fs := ⟨[⟨.eql, .c 0, .v 1, true⟩], [], [(sR, 0, 0, .v 1)]⟩
theorem rb_0_z : runB (FZ) 0 = some () := by kernel_rfl
theorem rb_1_z : runB (FZ) 1 = some () := by kernel_rfl
theorem rb_2_z : runB (FZ) 2 = some () := by kernel_rfl
theorem rb_3_z : runB (FZ) 3 = some () := by kernel_rfl
end Go.Proofs.YtkjclmafddgoiaaGreat.Ev
