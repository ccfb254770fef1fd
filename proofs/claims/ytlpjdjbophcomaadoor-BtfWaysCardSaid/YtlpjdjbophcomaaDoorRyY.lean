/-
  Rows of structs with one slice, told by one function; one put behind such a row. Nothing of the program stands here.
-/
import Derived.Test.YtlpjdjbophcomaaDoorRyW
import Derived.Test.YtlpjdjbophcomaaDoorRyX
namespace Go.Proofs.YtlpjdjbophcomaaDoor
open Go.RowKit
set_option linter.unusedVariables false
set_option linter.unusedSimpArgs false
section
variable {τ σ : Type} (hd tl : σ → List Value) (zs : Nat) (x0 : σ) (t ty e T2 : TypeId) (consts : Array Bool) (f : τ → List Value) (sz N : Nat) (X : Nat → σ × (Nat × (Nat → τ))) (m : Nat) (B : Nat → τ) (c : Nat) (T' : TypeId) (dk : DK)
end
section
variable {P : Program} {M : Nat → Prop} {B0 : Nat} {S : World → Prop} {t ty e T2 : TypeId} {i : TypeInfo} {z : Value} {bytes : Nat}
  {σ : Type} {hd tl : σ → List Value} {zs : Nat} {x0 : σ} (hz : ∀ x, (hd x).length + 1 + (tl x).length = zs) (hh1 : ∀ x, ∀ u ∈ hd x, u.oneCell' = true) (hh2 : ∀ x, ∀ u ∈ tl x, u.oneCell' = true) (R : RowT P t e i z zs bytes) (consts : Array Bool) (dk : DK) {τ : Type} {f : τ → List Value} {sz N : Nat} {X : Nat → σ × (Nat × (Nat → τ))} {m : Nat} {B : Nat → τ} {c : Nat} {T' : TypeId}
include hz hh1 hh2 R
end
end Go.Proofs.YtlpjdjbophcomaaDoor

