import Derived.Test.YtjhmmfoomcoadaaGreatVRA
namespace Go.Proofs.YtjhmmfoomcoadaaGreat.Ev
open Go.RowKit
set_option maxRecDepth 100000000
@[reducible] noncomputable def F_a1f : Fs := ⟨[⟨.neq, (.o .sub .u32 (.w .u32 sA) (.w .u32 sB)), (.o .sub .u32 (.w .u32 (.v 2)) (.w .u32 (.v 3))), false⟩]⟩
theorem r_a1f (p1 : PV) : runA F_a1f (.it .i64 1) p1 false = some (resA p1 false) := by kernel_rfl
@[reducible] noncomputable def F_a6f : Fs := ⟨[⟨.neq, (.o .shl .u32 (.w .u32 sA) (.o .rem .u32 (.w .u32 sB) (.c (32)))), (.o .shl .u32 (.w .u32 (.v 2)) (.o .rem .u32 (.w .u32 (.v 3)) (.c (32)))), false⟩]⟩
theorem r_a6f (p1 : PV) : runA F_a6f (.it .i64 6) p1 false = some (resA p1 false) := by kernel_rfl
@[reducible] noncomputable def F_a12f : Fs := ⟨[⟨.neq, (.w .u32 (.o .shr .i32 (.w .i32 (.w .u32 sA)) (.o .rem .u32 (.w .u32 sB) (.c (32))))), (.w .u32 (.o .shr .i32 (.w .i32 (.w .u32 (.v 2))) (.o .rem .u32 (.w .u32 (.v 3)) (.c (32))))), false⟩]⟩
theorem r_a12f (p1 : PV) : runA F_a12f (.it .i64 12) p1 false = some (resA p1 false) := by kernel_rfl
@[reducible] noncomputable def F_b3tt : Fs := ⟨[⟨.geq, (.v 2), (.v 3), true⟩, ⟨.geq, sA, sB, true⟩]⟩
theorem r_b3tt : runB F_b3tt (.it .i64 3) true = some () := by kernel_rfl
@[reducible] noncomputable def F_b6tt : Fs := ⟨[⟨.gtr, (.w .i64 (.v 2)), (.w .i64 (.v 3)), true⟩, ⟨.gtr, (.w .i64 sA), (.w .i64 sB), true⟩]⟩
theorem r_b6tt : runB F_b6tt (.it .i64 6) true = some () := by kernel_rfl
@[reducible] noncomputable def F_b10tf : Fs := ⟨[⟨.lss, (.v 2), (.v 3), false⟩, ⟨.lss, sA, sB, false⟩]⟩
theorem r_b10tf : runB F_b10tf (.it .i64 10) true = some () := by kernel_rfl
@[reducible] noncomputable def F_b13tf : Fs := ⟨[⟨.leq, (.w .i64 (.v 2)), (.w .i64 (.v 3)), false⟩, ⟨.leq, (.w .i64 sA), (.w .i64 sB), false⟩]⟩
theorem r_b13tf : runB F_b13tf (.it .i64 13) true = some () := by kernel_rfl
end Go.Proofs.YtjhmmfoomcoadaaGreat.Ev
