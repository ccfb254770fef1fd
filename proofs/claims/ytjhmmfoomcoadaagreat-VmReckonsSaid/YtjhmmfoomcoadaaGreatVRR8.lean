import Derived.Test.YtjhmmfoomcoadaaGreatVRA
namespace Go.Proofs.YtjhmmfoomcoadaaGreat.Ev
open Go.RowKit
set_option maxRecDepth 100000000
@[reducible] noncomputable def F_a3fn : Fs := ⟨[⟨.eql, (.w .u32 sB), (.c (0)), false⟩, ⟨.eql, (.w .u32 (.v 3)), (.c (0)), false⟩, ⟨.neq, (.o .quo .u32 (.w .u32 sA) (.w .u32 sB)), (.o .quo .u32 (.w .u32 (.v 2)) (.w .u32 (.v 3))), false⟩]⟩
theorem r_a3fn (p1 : PV) : runA F_a3fn (.it .i64 3) p1 false = some (resA p1 false) := by kernel_rfl
@[reducible] noncomputable def F_a9fn : Fs := ⟨[⟨.eql, (.w .u32 sB), (.c (0)), false⟩, ⟨.eql, (.w .u32 (.v 3)), (.c (0)), false⟩, ⟨.neq, (.o .rem .u32 (.w .u32 sA) (.w .u32 sB)), (.o .rem .u32 (.w .u32 (.v 2)) (.w .u32 (.v 3))), false⟩]⟩
theorem r_a9fn (p1 : PV) : runA F_a9fn (.it .i64 9) p1 false = some (resA p1 false) := by kernel_rfl
@[reducible] noncomputable def F_b1ff : Fs := ⟨[⟨.eql, (.w .u32 (.v 2)), (.w .u32 (.v 3)), false⟩, ⟨.eql, (.w .u32 sA), (.w .u32 sB), false⟩]⟩
theorem r_b1ff : runB F_b1ff (.it .i64 1) false = some () := by kernel_rfl
@[reducible] noncomputable def F_b4ft : Fs := ⟨[⟨.neq, (.o .and .u64 (.w .u32 (.v 2)) (.w .u32 (.v 3))), (.c (0)), true⟩, ⟨.neq, (.o .and .u64 (.w .u32 sA) (.w .u32 sB)), (.c (0)), true⟩]⟩
theorem r_b4ft : runB F_b4ft (.it .i64 4) false = some () := by kernel_rfl
@[reducible] noncomputable def F_b7ff : Fs := ⟨[⟨.geq, (.w .i32 (.v 2)), (.w .i32 (.v 3)), false⟩, ⟨.geq, (.w .i32 sA), (.w .i32 sB), false⟩]⟩
theorem r_b7ff : runB F_b7ff (.it .i64 7) false = some () := by kernel_rfl
@[reducible] noncomputable def F_b11ft : Fs := ⟨[⟨.leq, (.w .u32 (.v 2)), (.w .u32 (.v 3)), true⟩, ⟨.leq, (.w .u32 sA), (.w .u32 sB), true⟩]⟩
theorem r_b11ft : runB F_b11ft (.it .i64 11) false = some () := by kernel_rfl
@[reducible] noncomputable def F_bHit : Fs := ⟨[]⟩
theorem r_bHit : runB F_bHit qHi true = some () := by kernel_rfl
end Go.Proofs.YtjhmmfoomcoadaaGreat.Ev
