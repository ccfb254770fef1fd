import Derived.Test.YtjhmmfoomcoadaaGreatVRA
namespace Go.Proofs.YtjhmmfoomcoadaaGreat.Ev
open Go.RowKit
set_option maxRecDepth 100000000
@[reducible] noncomputable def F_a4f : Fs := ⟨[⟨.neq, (.o .or .u32 (.w .u32 sA) (.w .u32 sB)), (.o .or .u32 (.w .u32 (.v 2)) (.w .u32 (.v 3))), false⟩]⟩
theorem r_a4f (p1 : PV) : runA F_a4f (.it .i64 4) p1 false = some (resA p1 false) := by kernel_rfl
@[reducible] noncomputable def F_a10f : Fs := ⟨[⟨.neq, (.o .xor .u32 (.w .u32 sA) (.w .u32 sB)), (.o .xor .u32 (.w .u32 (.v 2)) (.w .u32 (.v 3))), false⟩]⟩
theorem r_a10f (p1 : PV) : runA F_a10f (.it .i64 10) p1 false = some (resA p1 false) := by kernel_rfl
@[reducible] noncomputable def F_b2tt : Fs := ⟨[⟨.gtr, (.v 2), (.v 3), true⟩, ⟨.gtr, sA, sB, true⟩]⟩
theorem r_b2tt : runB F_b2tt (.it .i64 2) true = some () := by kernel_rfl
@[reducible] noncomputable def F_b5tf : Fs := ⟨[⟨.neq, (.v 2), (.v 3), false⟩, ⟨.neq, sA, sB, false⟩]⟩
theorem r_b5tf : runB F_b5tf (.it .i64 5) true = some () := by kernel_rfl
@[reducible] noncomputable def F_b8f : Fs := ⟨[]⟩
theorem r_b8f : runB F_b8f (.it .i64 8) false = some () := by kernel_rfl
@[reducible] noncomputable def F_b12tf : Fs := ⟨[⟨.lss, (.w .i64 (.v 2)), (.w .i64 (.v 3)), false⟩, ⟨.lss, (.w .i64 sA), (.w .i64 sB), false⟩]⟩
theorem r_b12tf : runB F_b12tf (.it .i64 12) true = some () := by kernel_rfl
end Go.Proofs.YtjhmmfoomcoadaaGreat.Ev
