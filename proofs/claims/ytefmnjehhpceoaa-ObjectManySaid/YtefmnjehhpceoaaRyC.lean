/-
  Rows of rows: a row's slice read, a cell of a row read and written. Nothing of the program stands here.
-/
import Derived.Test.YtefmnjehhpceoaaRyB
namespace Go.Proofs.Ytefmnjehhpceoaa
open Go.RowKit
set_option linter.unusedVariables false
set_option linter.unusedSimpArgs false
section
variable {P : Program} {M : Nat → Prop} {B0 : Nat} {S : World → Prop}
/-- What only reads is told by what it answers. -/
theorem spc_read {q : List L1 → Q} {o : List L1 → List Obj} {v : List L1 → Value} (h : ∀ ls w, (o ls).length = ls.length → SatF ls (o ls) w → S w → (q ls).sem.run P w = .ok (.value (v ls)) w) :
    SpcG P M B0 S ⟨fun ls => .op (q ls), o, 0, .normal, fun ls => [v ls], o, fun _ => []⟩ := fun ls w hl hs ht hS =>
  ⟨v ls, w, .inl (h ls w hl hs hS), [], rfl, by simp, Chg.refl .., fun _ => ⟨by simpa using hs, fun j k o l x p hj hx ho => .inr ⟨j, k, o, l, p, by simpa using hj, by simpa using hx, ho⟩⟩⟩
variable {τ : Type} {e T2 T : TypeId} {f : τ → List Value} {sz N k : Nat} {D : Nat → Nat × (Nat → τ)}
end
end Go.Proofs.Ytefmnjehhpceoaa

