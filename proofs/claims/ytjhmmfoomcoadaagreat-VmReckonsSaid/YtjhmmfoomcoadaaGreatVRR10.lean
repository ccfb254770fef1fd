import Derived.Test.YtjhmmfoomcoadaaGreatVRA
namespace Go.Proofs.YtjhmmfoomcoadaaGreat.Ev
open Go.RowKit
set_option maxRecDepth 100000000
@[reducible] noncomputable def F_a4t : Fs := ⟨[⟨.neq, (.o .or .u64 sA sB), (.o .or .u64 (.v 2) (.v 3)), false⟩]⟩
theorem r_a4t (p1 : PV) : runA F_a4t (.it .i64 4) p1 true = some (resA p1 true) := by kernel_rfl
@[reducible] noncomputable def F_a10t : Fs := ⟨[⟨.neq, (.o .xor .u64 sA sB), (.o .xor .u64 (.v 2) (.v 3)), false⟩]⟩
theorem r_a10t (p1 : PV) : runA F_a10t (.it .i64 10) p1 true = some (resA p1 true) := by kernel_rfl
@[reducible] noncomputable def F_b2tf : Fs := ⟨[⟨.gtr, (.v 2), (.v 3), false⟩, ⟨.gtr, sA, sB, false⟩]⟩
theorem r_b2tf : runB F_b2tf (.it .i64 2) true = some () := by kernel_rfl
@[reducible] noncomputable def F_b5tt : Fs := ⟨[⟨.neq, (.v 2), (.v 3), true⟩, ⟨.neq, sA, sB, true⟩]⟩
theorem r_b5tt : runB F_b5tt (.it .i64 5) true = some () := by kernel_rfl
@[reducible] noncomputable def F_b8t : Fs := ⟨[]⟩
theorem r_b8t : runB F_b8t (.it .i64 8) true = some () := by kernel_rfl
@[reducible] noncomputable def F_b12tt : Fs := ⟨[⟨.lss, (.w .i64 (.v 2)), (.w .i64 (.v 3)), true⟩, ⟨.lss, (.w .i64 sA), (.w .i64 sB), true⟩]⟩
theorem r_b12tt : runB F_b12tt (.it .i64 12) true = some () := by kernel_rfl
end Go.Proofs.YtjhmmfoomcoadaaGreat.Ev
