/-
  Rows of named slices: a string and a slice each, all slices alike. Nothing of the program stands here.
-/
import Derived.Test.YtlpjdjbophcomaaDoorRyR
namespace Go.Proofs.YtlpjdjbophcomaaDoor
open Go.RowKit
set_option linter.unusedVariables false
set_option linter.unusedSimpArgs false
section
variable {P : Program} {M : Nat → Prop} {B0 : Nat} {S : World → Prop}
variable {τ σ : Type} {hd tl : σ → List Value} {zs : Nat} {e T T2 : TypeId} {f : τ → List Value} {sz N k m : Nat} {B : Nat → τ} {E : Nat → σ}
end
end Go.Proofs.YtlpjdjbophcomaaDoor

