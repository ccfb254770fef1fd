/-
  Rows whose elements are structs with a slice of their own: one entry for the row itself and for all the rows that it points to. Nothing of the program stands here.
-/
import Derived.Test.YtlpjdjbophcomaaDoorRyK
namespace Go.Proofs.YtlpjdjbophcomaaDoor
open Go.RowKit
set_option linter.unusedVariables false
set_option linter.unusedSimpArgs false
section
variable {τ σ : Type} {hd tl : σ → List Value} {zs : Nat} {E : Nat → σ} {l : L1} {T T2 : TypeId} {f : τ → List Value} {sz N : Nat} {D : Nat → Nat × (Nat → τ)}
end
section
variable {P : Program} {M : Nat → Prop} {B0 : Nat} {S : World → Prop} {t ty e T2 : TypeId} {i : TypeInfo} {z : Value} {bytes : Nat}
end
end Go.Proofs.YtlpjdjbophcomaaDoor

