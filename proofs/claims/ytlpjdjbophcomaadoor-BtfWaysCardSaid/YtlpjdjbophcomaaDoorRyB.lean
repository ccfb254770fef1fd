/-
  Rows of rows that are only read; one of the call's own given to a callee that only reads it. Nothing of the program stands here.
-/
import Derived.Test.YtlpjdjbophcomaaDoorRyA
namespace Go.Proofs.YtlpjdjbophcomaaDoor
open Go.RowKit
set_option linter.unusedVariables false
set_option linter.unusedSimpArgs false
/-- Where a row lies that is only read, and its room. -/
structure RoX where
  a : Option Addr
  p : Nat
  q : Nat
  c : Nat
def rxC {τ : Type} (X : Nat → RoX) (D : Nat → Nat × (Nat → τ)) (i : Nat) : List Value := [.slice (X i).a (D i).1 ((D i).1 + (X i).c)]
structure RoR {τ : Type} (S : World → Prop) (f : τ → List Value) (sz : Nat) (a : Option Addr) (p q n : Nat) (X : Nat → RoX) (D : Nat → Nat × (Nat → τ)) : Prop where
  row : Ro S (rxC X D) 1 a p q n (fun i => i)
  els : ∀ i, i < n → Ro S f sz (X i).a (X i).p (X i).q (D i).1 (D i).2
theorem RoR.mono {τ : Type} {S S' : World → Prop} {f : τ → List Value} {sz : Nat} {a : Option Addr} {p q n : Nat} {X : Nat → RoX} {D : Nat → Nat × (Nat → τ)} (h : RoR S f sz a p q n X D) (hs : ∀ w, S' w → S w) : RoR S' f sz a p q n X D :=
  ⟨h.row.mono hs, fun i hi => (h.els i hi).mono hs⟩
theorem RoR.nil {τ : Type} {S : World → Prop} {f : τ → List Value} {sz : Nat} {a : Option Addr} {p q : Nat} {X : Nat → RoX} {D : Nat → Nat × (Nat → τ)} : RoR S f sz a p q 0 X D := ⟨Ro.nil, fun i hi => absurd hi (by omega)⟩
end Go.Proofs.YtlpjdjbophcomaaDoor

