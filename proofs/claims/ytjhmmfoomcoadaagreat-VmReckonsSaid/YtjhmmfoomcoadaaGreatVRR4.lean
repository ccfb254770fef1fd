import Derived.Test.YtjhmmfoomcoadaaGreatVRA
namespace Go.Proofs.YtjhmmfoomcoadaaGreat.Ev
open Go.RowKit
set_option maxRecDepth 100000000
@[reducible] noncomputable def F_a2t : Fs := ⟨[⟨.neq, (.o .mul .u64 sA sB), (.o .mul .u64 (.v 2) (.v 3)), false⟩]⟩
theorem r_a2t (p1 : PV) : runA F_a2t (.it .i64 2) p1 true = some (resA p1 true) := by kernel_rfl
@[reducible] noncomputable def F_a7t : Fs := ⟨[⟨.neq, (.o .shr .u64 sA (.o .rem .u64 sB (.c (64)))), (.o .shr .u64 (.v 2) (.o .rem .u64 (.v 3) (.c (64)))), false⟩]⟩
theorem r_a7t (p1 : PV) : runA F_a7t (.it .i64 7) p1 true = some (resA p1 true) := by kernel_rfl
@[reducible] noncomputable def F_b0t : Fs := ⟨[]⟩
theorem r_b0t : runB F_b0t (.it .i64 0) true = some () := by kernel_rfl
@[reducible] noncomputable def F_b3ff : Fs := ⟨[⟨.geq, (.w .u32 (.v 2)), (.w .u32 (.v 3)), false⟩, ⟨.geq, (.w .u32 sA), (.w .u32 sB), false⟩]⟩
theorem r_b3ff : runB F_b3ff (.it .i64 3) false = some () := by kernel_rfl
@[reducible] noncomputable def F_b6ff : Fs := ⟨[⟨.gtr, (.w .i32 (.v 2)), (.w .i32 (.v 3)), false⟩, ⟨.gtr, (.w .i32 sA), (.w .i32 sB), false⟩]⟩
theorem r_b6ff : runB F_b6ff (.it .i64 6) false = some () := by kernel_rfl
@[reducible] noncomputable def F_b10ft : Fs := ⟨[⟨.lss, (.w .u32 (.v 2)), (.w .u32 (.v 3)), true⟩, ⟨.lss, (.w .u32 sA), (.w .u32 sB), true⟩]⟩
theorem r_b10ft : runB F_b10ft (.it .i64 10) false = some () := by kernel_rfl
@[reducible] noncomputable def F_b13ft : Fs := ⟨[⟨.leq, (.w .i32 (.v 2)), (.w .i32 (.v 3)), true⟩, ⟨.leq, (.w .i32 sA), (.w .i32 sB), true⟩]⟩
theorem r_b13ft : runB F_b13ft (.it .i64 13) false = some () := by kernel_rfl
end Go.Proofs.YtjhmmfoomcoadaaGreat.Ev
