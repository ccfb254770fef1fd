import Derived.Test.YtjhmmfoomcoadaaGreatVRA
namespace Go.Proofs.YtjhmmfoomcoadaaGreat.Ev
open Go.RowKit
set_option maxRecDepth 100000000
@[reducible] noncomputable def F_a3tz : Fs := ⟨[⟨.eql, sB, (.c (0)), true⟩, ⟨.eql, (.v 3), (.c (0)), true⟩]⟩
theorem r_a3tz (p1 : PV) : runA F_a3tz (.it .i64 3) p1 true = some (resA p1 true) := by kernel_rfl
@[reducible] noncomputable def F_a9tz : Fs := ⟨[⟨.eql, sB, (.c (0)), true⟩, ⟨.eql, (.v 3), (.c (0)), true⟩, ⟨.neq, sA, (.v 2), false⟩]⟩
theorem r_a9tz (p1 : PV) : runA F_a9tz (.it .i64 9) p1 true = some (resA p1 true) := by kernel_rfl
@[reducible] noncomputable def F_b1tt : Fs := ⟨[⟨.eql, (.v 2), (.v 3), true⟩, ⟨.eql, sA, sB, true⟩]⟩
theorem r_b1tt : runB F_b1tt (.it .i64 1) true = some () := by kernel_rfl
@[reducible] noncomputable def F_b4tf : Fs := ⟨[⟨.neq, (.o .and .u64 (.v 2) (.v 3)), (.c (0)), false⟩, ⟨.neq, (.o .and .u64 sA sB), (.c (0)), false⟩]⟩
theorem r_b4tf : runB F_b4tf (.it .i64 4) true = some () := by kernel_rfl
@[reducible] noncomputable def F_b7tt : Fs := ⟨[⟨.geq, (.w .i64 (.v 2)), (.w .i64 (.v 3)), true⟩, ⟨.geq, (.w .i64 sA), (.w .i64 sB), true⟩]⟩
theorem r_b7tt : runB F_b7tt (.it .i64 7) true = some () := by kernel_rfl
@[reducible] noncomputable def F_b11tf : Fs := ⟨[⟨.leq, (.v 2), (.v 3), false⟩, ⟨.leq, sA, sB, false⟩]⟩
theorem r_b11tf : runB F_b11tf (.it .i64 11) true = some () := by kernel_rfl
@[reducible] noncomputable def F_bLof : Fs := ⟨[]⟩
theorem r_bLof : runB F_bLof qLo false = some () := by kernel_rfl
end Go.Proofs.YtjhmmfoomcoadaaGreat.Ev
