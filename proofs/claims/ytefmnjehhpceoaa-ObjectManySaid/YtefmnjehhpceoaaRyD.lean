/-
  Rows of rows: so many rows of nothing made; a row put in another's place. Nothing of the program stands here.
-/
import Derived.Test.YtefmnjehhpceoaaRyC
namespace Go.Proofs.Ytefmnjehhpceoaa
open Go.RowKit
set_option linter.unusedVariables false
set_option linter.unusedSimpArgs false
theorem AccOk.blks {S : World → Prop} (l : List Nat) : AccOk S (l.map Acc.blk) := fun x hx => by
  obtain ⟨i, _, rfl⟩ := List.mem_map.1 hx
  trivial
section
variable {P : Program} {M : Nat → Prop} {B0 : Nat} {S : World → Prop} {t e T2 T : TypeId} {i : TypeInfo} {z : Value} {bytes : Nat}
/-! ### make -/
/-! ### A row in another's place -/
end
end Go.Proofs.Ytefmnjehhpceoaa

