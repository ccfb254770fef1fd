/-
  Rows of structs with a slice that are only read; one of the call's own handed to a reader. Nothing of the program stands here.
-/
import Derived.Test.YtlpjdjbophcomaaDoorRyB
import Derived.Test.YtlpjdjbophcomaaDoorRyQ
namespace Go.Proofs.YtlpjdjbophcomaaDoor
open Go.RowKit
set_option linter.unusedVariables false
set_option linter.unusedSimpArgs false
def rxS {τ σ : Type} (hd tl : σ → List Value) (X : Nat → RoX) (D : Nat → Nat × (Nat → τ)) (E : Nat → σ) (i : Nat) : List Value := hd (E i) ++ .slice (X i).a (D i).1 ((D i).1 + (X i).c) :: tl (E i)
theorem rxS_len {τ σ : Type} {hd tl : σ → List Value} {zs : Nat} (hz : ∀ x, (hd x).length + 1 + (tl x).length = zs) (X : Nat → RoX) (D : Nat → Nat × (Nat → τ)) (E : Nat → σ) (i : Nat) : (rxS hd tl X D E i).length = zs := by
  unfold rxS
  rw [List.length_append, List.length_cons, ← hz (E i)]
  omega
structure RoS {τ σ : Type} (S : World → Prop) (hd tl : σ → List Value) (zs : Nat) (f : τ → List Value) (sz : Nat) (a : Option Addr) (p q n : Nat) (X : Nat → RoX) (D : Nat → Nat × (Nat → τ)) (E : Nat → σ) : Prop where
  row : Ro S (rxS hd tl X D E) zs a p q n (fun i => i)
  els : ∀ i, i < n → Ro S f sz (X i).a (X i).p (X i).q (D i).1 (D i).2
theorem RoS.mono {τ σ : Type} {S S' : World → Prop} {hd tl : σ → List Value} {zs : Nat} {f : τ → List Value} {sz : Nat} {a : Option Addr} {p q n : Nat} {X : Nat → RoX} {D : Nat → Nat × (Nat → τ)} {E : Nat → σ} (h : RoS S hd tl zs f sz a p q n X D E) (hs : ∀ w, S' w → S w) : RoS S' hd tl zs f sz a p q n X D E :=
  ⟨h.row.mono hs, fun i hi => (h.els i hi).mono hs⟩
theorem RoS.nil {τ σ : Type} {S : World → Prop} {hd tl : σ → List Value} {zs : Nat} {f : τ → List Value} {sz : Nat} {a : Option Addr} {p q : Nat} {X : Nat → RoX} {D : Nat → Nat × (Nat → τ)} {E : Nat → σ} : RoS S hd tl zs f sz a p q 0 X D E := ⟨Ro.nil, fun i hi => absurd hi (by omega)⟩
section
variable {P : Program} {M : Nat → Prop} {B0 : Nat} {S : World → Prop} {t ty e T2 : TypeId} {i : TypeInfo} {z : Value} {bytes : Nat}
end
end Go.Proofs.YtlpjdjbophcomaaDoor

