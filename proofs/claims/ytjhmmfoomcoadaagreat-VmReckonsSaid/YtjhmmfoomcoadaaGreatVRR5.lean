import Derived.Test.YtjhmmfoomcoadaaGreatVRA
namespace Go.Proofs.YtjhmmfoomcoadaaGreat.Ev
open Go.RowKit
set_option maxRecDepth 100000000
@[reducible] noncomputable def F_a2f : Fs := ⟨[⟨.neq, (.o .mul .u32 (.w .u32 sA) (.w .u32 sB)), (.o .mul .u32 (.w .u32 (.v 2)) (.w .u32 (.v 3))), false⟩]⟩
theorem r_a2f (p1 : PV) : runA F_a2f (.it .i64 2) p1 false = some (resA p1 false) := by kernel_rfl
@[reducible] noncomputable def F_a7f : Fs := ⟨[⟨.neq, (.o .shr .u32 (.w .u32 sA) (.o .rem .u32 (.w .u32 sB) (.c (32)))), (.o .shr .u32 (.w .u32 (.v 2)) (.o .rem .u32 (.w .u32 (.v 3)) (.c (32)))), false⟩]⟩
theorem r_a7f (p1 : PV) : runA F_a7f (.it .i64 7) p1 false = some (resA p1 false) := by kernel_rfl
@[reducible] noncomputable def F_b0f : Fs := ⟨[]⟩
theorem r_b0f : runB F_b0f (.it .i64 0) false = some () := by kernel_rfl
@[reducible] noncomputable def F_b3ft : Fs := ⟨[⟨.geq, (.w .u32 (.v 2)), (.w .u32 (.v 3)), true⟩, ⟨.geq, (.w .u32 sA), (.w .u32 sB), true⟩]⟩
theorem r_b3ft : runB F_b3ft (.it .i64 3) false = some () := by kernel_rfl
@[reducible] noncomputable def F_b6ft : Fs := ⟨[⟨.gtr, (.w .i32 (.v 2)), (.w .i32 (.v 3)), true⟩, ⟨.gtr, (.w .i32 sA), (.w .i32 sB), true⟩]⟩
theorem r_b6ft : runB F_b6ft (.it .i64 6) false = some () := by kernel_rfl
@[reducible] noncomputable def F_b10ff : Fs := ⟨[⟨.lss, (.w .u32 (.v 2)), (.w .u32 (.v 3)), false⟩, ⟨.lss, (.w .u32 sA), (.w .u32 sB), false⟩]⟩
theorem r_b10ff : runB F_b10ff (.it .i64 10) false = some () := by kernel_rfl
@[reducible] noncomputable def F_b13ff : Fs := ⟨[⟨.leq, (.w .i32 (.v 2)), (.w .i32 (.v 3)), false⟩, ⟨.leq, (.w .i32 sA), (.w .i32 sB), false⟩]⟩
theorem r_b13ff : runB F_b13ff (.it .i64 13) false = some () := by kernel_rfl
end Go.Proofs.YtjhmmfoomcoadaaGreat.Ev
