/-
  One block out of an entry that stands for many; a struct with a slice out of a row of such. Nothing of the program stands here.
-/
import Derived.Test.YtlpjdjbophcomaaDoorRyN
import Derived.MapKept
namespace Go.Proofs.YtlpjdjbophcomaaDoor
open Go.RowKit
set_option linter.unusedVariables false
set_option linter.unusedSimpArgs false
section
variable {P : Program} {M : Nat → Prop} {B0 : Nat} {S : World → Prop} {τ σ : Type} {hd tl : σ → List Value} {zs : Nat} {e T T2 : TypeId} {f : τ → List Value} {sz N k m : Nat} {B : Nat → τ} {E : Nat → σ}
end
end Go.Proofs.YtlpjdjbophcomaaDoor
/-
  A map of strings that only grows, each with the value 1: its keys are a row. Nothing of the program stands here.
-/
namespace Go.Proofs.YtlpjdjbophcomaaDoor
open Go.RowKit Go.MapKept
set_option linter.unusedVariables false
set_option linter.unusedSimpArgs false
section
variable {P : Program} {M : Nat → Prop} {B0 : Nat} {S : World → Prop} {T kt el : TypeId} {N : Nat} {K : Nat → ByteArray} {x : ByteArray}
end
end Go.Proofs.YtlpjdjbophcomaaDoor
