import Derived.Test.YtjhmmfoomcoadaaGreatVRA
namespace Go.Proofs.YtjhmmfoomcoadaaGreat.Ev
open Go.RowKit
set_option maxRecDepth 100000000
@[reducible] noncomputable def F_a3fz : Fs := ⟨[⟨.eql, (.w .u32 sB), (.c (0)), true⟩, ⟨.eql, (.w .u32 (.v 3)), (.c (0)), true⟩]⟩
theorem r_a3fz (p1 : PV) : runA F_a3fz (.it .i64 3) p1 false = some (resA p1 false) := by kernel_rfl
@[reducible] noncomputable def F_a9fz : Fs := ⟨[⟨.eql, (.w .u32 sB), (.c (0)), true⟩, ⟨.eql, (.w .u32 (.v 3)), (.c (0)), true⟩, ⟨.neq, (.w .u32 sA), (.w .u32 (.v 2)), false⟩]⟩
theorem r_a9fz (p1 : PV) : runA F_a9fz (.it .i64 9) p1 false = some (resA p1 false) := by kernel_rfl
@[reducible] noncomputable def F_b1ft : Fs := ⟨[⟨.eql, (.w .u32 (.v 2)), (.w .u32 (.v 3)), true⟩, ⟨.eql, (.w .u32 sA), (.w .u32 sB), true⟩]⟩
theorem r_b1ft : runB F_b1ft (.it .i64 1) false = some () := by kernel_rfl
@[reducible] noncomputable def F_b4ff : Fs := ⟨[⟨.neq, (.o .and .u64 (.w .u32 (.v 2)) (.w .u32 (.v 3))), (.c (0)), false⟩, ⟨.neq, (.o .and .u64 (.w .u32 sA) (.w .u32 sB)), (.c (0)), false⟩]⟩
theorem r_b4ff : runB F_b4ff (.it .i64 4) false = some () := by kernel_rfl
@[reducible] noncomputable def F_b7ft : Fs := ⟨[⟨.geq, (.w .i32 (.v 2)), (.w .i32 (.v 3)), true⟩, ⟨.geq, (.w .i32 sA), (.w .i32 sB), true⟩]⟩
theorem r_b7ft : runB F_b7ft (.it .i64 7) false = some () := by kernel_rfl
@[reducible] noncomputable def F_b11ff : Fs := ⟨[⟨.leq, (.w .u32 (.v 2)), (.w .u32 (.v 3)), false⟩, ⟨.leq, (.w .u32 sA), (.w .u32 sB), false⟩]⟩
theorem r_b11ff : runB F_b11ff (.it .i64 11) false = some () := by kernel_rfl
@[reducible] noncomputable def F_bHif : Fs := ⟨[]⟩
theorem r_bHif : runB F_bHif qHi false = some () := by kernel_rfl
end Go.Proofs.YtjhmmfoomcoadaaGreat.Ev
