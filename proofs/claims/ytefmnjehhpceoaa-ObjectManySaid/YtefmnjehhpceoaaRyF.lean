/-
  Rows of rows at two places: append, make, reading, one given to a reader. Nothing of the program stands here.
-/
import Derived.Test.YtefmnjehhpceoaaRyE
namespace Go.Proofs.Ytefmnjehhpceoaa
open Go.RowKit
set_option linter.unusedVariables false
set_option linter.unusedSimpArgs false
section
variable {τ : Type} {q l L : L1} {e T2 : TypeId} {f : τ → List Value} {sz N : Nat} {D : Nat → Nat × (Nat → τ)} {rest xs ys : List L1} {R Hs Ks : List Obj}
end
section
variable {P : Program} {M : Nat → Prop} {B0 : Nat} {S : World → Prop} {t ty e T2 T : TypeId} {i : TypeInfo} {z : Value} {bytes : Nat}
variable {τ : Type} {f : τ → List Value} {sz N k : Nat} {D : Nat → Nat × (Nat → τ)}
end
/-! ### One given to a reader -/
end Go.Proofs.Ytefmnjehhpceoaa

