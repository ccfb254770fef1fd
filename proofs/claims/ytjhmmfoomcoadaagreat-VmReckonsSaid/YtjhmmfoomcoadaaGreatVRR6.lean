import Derived.Test.YtjhmmfoomcoadaaGreatVRA
namespace Go.Proofs.YtjhmmfoomcoadaaGreat.Ev
open Go.RowKit
set_option maxRecDepth 100000000
@[reducible] noncomputable def F_a3tn : Fs := ⟨[⟨.eql, sB, (.c (0)), false⟩, ⟨.eql, (.v 3), (.c (0)), false⟩, ⟨.neq, (.o .quo .u64 sA sB), (.o .quo .u64 (.v 2) (.v 3)), false⟩]⟩
theorem r_a3tn (p1 : PV) : runA F_a3tn (.it .i64 3) p1 true = some (resA p1 true) := by kernel_rfl
@[reducible] noncomputable def F_a9tn : Fs := ⟨[⟨.eql, sB, (.c (0)), false⟩, ⟨.eql, (.v 3), (.c (0)), false⟩, ⟨.neq, (.o .rem .u64 sA sB), (.o .rem .u64 (.v 2) (.v 3)), false⟩]⟩
theorem r_a9tn (p1 : PV) : runA F_a9tn (.it .i64 9) p1 true = some (resA p1 true) := by kernel_rfl
@[reducible] noncomputable def F_b1tf : Fs := ⟨[⟨.eql, (.v 2), (.v 3), false⟩, ⟨.eql, sA, sB, false⟩]⟩
theorem r_b1tf : runB F_b1tf (.it .i64 1) true = some () := by kernel_rfl
@[reducible] noncomputable def F_b4tt : Fs := ⟨[⟨.neq, (.o .and .u64 (.v 2) (.v 3)), (.c (0)), true⟩, ⟨.neq, (.o .and .u64 sA sB), (.c (0)), true⟩]⟩
theorem r_b4tt : runB F_b4tt (.it .i64 4) true = some () := by kernel_rfl
@[reducible] noncomputable def F_b7tf : Fs := ⟨[⟨.geq, (.w .i64 (.v 2)), (.w .i64 (.v 3)), false⟩, ⟨.geq, (.w .i64 sA), (.w .i64 sB), false⟩]⟩
theorem r_b7tf : runB F_b7tf (.it .i64 7) true = some () := by kernel_rfl
@[reducible] noncomputable def F_b11tt : Fs := ⟨[⟨.leq, (.v 2), (.v 3), true⟩, ⟨.leq, sA, sB, true⟩]⟩
theorem r_b11tt : runB F_b11tt (.it .i64 11) true = some () := by kernel_rfl
@[reducible] noncomputable def F_bLot : Fs := ⟨[]⟩
theorem r_bLot : runB F_bLot qLo true = some () := by kernel_rfl
end Go.Proofs.YtjhmmfoomcoadaaGreat.Ev
