import Derived.Test.YtjhmmfoomcoadaaGreatVRA
namespace Go.Proofs.YtjhmmfoomcoadaaGreat.Ev
open Go.RowKit
set_option maxRecDepth 100000000
@[reducible] noncomputable def F_a0f : Fs := ⟨[⟨.neq, (.o .add .u32 (.w .u32 sA) (.w .u32 sB)), (.o .add .u32 (.w .u32 (.v 2)) (.w .u32 (.v 3))), false⟩]⟩
theorem r_a0f (p1 : PV) : runA F_a0f (.it .i64 0) p1 false = some (resA p1 false) := by kernel_rfl
@[reducible] noncomputable def F_a5f : Fs := ⟨[⟨.neq, (.o .and .u32 (.w .u32 sA) (.w .u32 sB)), (.o .and .u32 (.w .u32 (.v 2)) (.w .u32 (.v 3))), false⟩]⟩
theorem r_a5f (p1 : PV) : runA F_a5f (.it .i64 5) p1 false = some (resA p1 false) := by kernel_rfl
@[reducible] noncomputable def F_a11f : Fs := ⟨[⟨.neq, (.w .u32 sB), (.w .u32 (.v 3)), false⟩]⟩
theorem r_a11f (p1 : PV) : runA F_a11f (.it .i64 11) p1 false = some (resA p1 false) := by kernel_rfl
@[reducible] noncomputable def F_b2ft : Fs := ⟨[⟨.gtr, (.w .u32 (.v 2)), (.w .u32 (.v 3)), true⟩, ⟨.gtr, (.w .u32 sA), (.w .u32 sB), true⟩]⟩
theorem r_b2ft : runB F_b2ft (.it .i64 2) false = some () := by kernel_rfl
@[reducible] noncomputable def F_b5ff : Fs := ⟨[⟨.neq, (.w .u32 (.v 2)), (.w .u32 (.v 3)), false⟩, ⟨.neq, (.w .u32 sA), (.w .u32 sB), false⟩]⟩
theorem r_b5ff : runB F_b5ff (.it .i64 5) false = some () := by kernel_rfl
@[reducible] noncomputable def F_b9f : Fs := ⟨[]⟩
theorem r_b9f : runB F_b9f (.it .i64 9) false = some () := by kernel_rfl
@[reducible] noncomputable def F_b12ff : Fs := ⟨[⟨.lss, (.w .i32 (.v 2)), (.w .i32 (.v 3)), false⟩, ⟨.lss, (.w .i32 sA), (.w .i32 sB), false⟩]⟩
theorem r_b12ff : runB F_b12ff (.it .i64 12) false = some () := by kernel_rfl
end Go.Proofs.YtjhmmfoomcoadaaGreat.Ev
