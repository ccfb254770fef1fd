import Derived.Test.YtjhmmfoomcoadaaGreatVRA
namespace Go.Proofs.YtjhmmfoomcoadaaGreat.Ev
open Go.RowKit
set_option maxRecDepth 100000000
@[reducible] noncomputable def F_a1t : Fs := ⟨[⟨.neq, (.o .sub .u64 sA sB), (.o .sub .u64 (.v 2) (.v 3)), false⟩]⟩
theorem r_a1t (p1 : PV) : runA F_a1t (.it .i64 1) p1 true = some (resA p1 true) := by kernel_rfl
@[reducible] noncomputable def F_a6t : Fs := ⟨[⟨.neq, (.o .shl .u64 sA (.o .rem .u64 sB (.c (64)))), (.o .shl .u64 (.v 2) (.o .rem .u64 (.v 3) (.c (64)))), false⟩]⟩
theorem r_a6t (p1 : PV) : runA F_a6t (.it .i64 6) p1 true = some (resA p1 true) := by kernel_rfl
@[reducible] noncomputable def F_a12t : Fs := ⟨[⟨.neq, (.w .u64 (.o .shr .i64 (.w .i64 sA) (.o .rem .u64 sB (.c (64))))), (.w .u64 (.o .shr .i64 (.w .i64 (.v 2)) (.o .rem .u64 (.v 3) (.c (64))))), false⟩]⟩
theorem r_a12t (p1 : PV) : runA F_a12t (.it .i64 12) p1 true = some (resA p1 true) := by kernel_rfl
@[reducible] noncomputable def F_b3tf : Fs := ⟨[⟨.geq, (.v 2), (.v 3), false⟩, ⟨.geq, sA, sB, false⟩]⟩
theorem r_b3tf : runB F_b3tf (.it .i64 3) true = some () := by kernel_rfl
@[reducible] noncomputable def F_b6tf : Fs := ⟨[⟨.gtr, (.w .i64 (.v 2)), (.w .i64 (.v 3)), false⟩, ⟨.gtr, (.w .i64 sA), (.w .i64 sB), false⟩]⟩
theorem r_b6tf : runB F_b6tf (.it .i64 6) true = some () := by kernel_rfl
@[reducible] noncomputable def F_b10tt : Fs := ⟨[⟨.lss, (.v 2), (.v 3), true⟩, ⟨.lss, sA, sB, true⟩]⟩
theorem r_b10tt : runB F_b10tt (.it .i64 10) true = some () := by kernel_rfl
@[reducible] noncomputable def F_b13tt : Fs := ⟨[⟨.leq, (.w .i64 (.v 2)), (.w .i64 (.v 3)), true⟩, ⟨.leq, (.w .i64 sA), (.w .i64 sB), true⟩]⟩
theorem r_b13tt : runB F_b13tt (.it .i64 13) true = some () := by kernel_rfl
end Go.Proofs.YtjhmmfoomcoadaaGreat.Ev
