import Derived.Test.YtjhmmfoomcoadaaGreatVRA
namespace Go.Proofs.YtjhmmfoomcoadaaGreat.Ev
open Go.RowKit
set_option maxRecDepth 100000000
@[reducible] noncomputable def F_a0t : Fs := ⟨[⟨.neq, (.o .add .u64 sA sB), (.o .add .u64 (.v 2) (.v 3)), false⟩]⟩
theorem r_a0t (p1 : PV) : runA F_a0t (.it .i64 0) p1 true = some (resA p1 true) := by kernel_rfl
@[reducible] noncomputable def F_a5t : Fs := ⟨[⟨.neq, (.o .and .u64 sA sB), (.o .and .u64 (.v 2) (.v 3)), false⟩]⟩
theorem r_a5t (p1 : PV) : runA F_a5t (.it .i64 5) p1 true = some (resA p1 true) := by kernel_rfl
@[reducible] noncomputable def F_a11t : Fs := ⟨[⟨.neq, sB, (.v 3), false⟩]⟩
theorem r_a11t (p1 : PV) : runA F_a11t (.it .i64 11) p1 true = some (resA p1 true) := by kernel_rfl
@[reducible] noncomputable def F_b2ff : Fs := ⟨[⟨.gtr, (.w .u32 (.v 2)), (.w .u32 (.v 3)), false⟩, ⟨.gtr, (.w .u32 sA), (.w .u32 sB), false⟩]⟩
theorem r_b2ff : runB F_b2ff (.it .i64 2) false = some () := by kernel_rfl
@[reducible] noncomputable def F_b5ft : Fs := ⟨[⟨.neq, (.w .u32 (.v 2)), (.w .u32 (.v 3)), true⟩, ⟨.neq, (.w .u32 sA), (.w .u32 sB), true⟩]⟩
theorem r_b5ft : runB F_b5ft (.it .i64 5) false = some () := by kernel_rfl
@[reducible] noncomputable def F_b9t : Fs := ⟨[]⟩
theorem r_b9t : runB F_b9t (.it .i64 9) true = some () := by kernel_rfl
@[reducible] noncomputable def F_b12ft : Fs := ⟨[⟨.lss, (.w .i32 (.v 2)), (.w .i32 (.v 3)), true⟩, ⟨.lss, (.w .i32 sA), (.w .i32 sB), true⟩]⟩
theorem r_b12ft : runB F_b12ft (.it .i64 12) false = some () := by kernel_rfl
end Go.Proofs.YtjhmmfoomcoadaaGreat.Ev
