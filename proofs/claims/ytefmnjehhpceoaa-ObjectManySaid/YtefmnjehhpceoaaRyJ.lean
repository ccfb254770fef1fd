/-
  Arguments that are arrays, opened. Nothing of the program stands here.
-/
import Derived.Test.YtefmnjehhpceoaaRxK
import Derived.OpenShut
namespace Go.Proofs.Ytefmnjehhpceoaa
open Go.RowKit
set_option linter.unusedVariables false
set_option linter.unusedSimpArgs false
section
variable {H : Type} {enc : TypeId × Value → H} {P : Program} {W : World} {τ : Type}
theorem Opens.elem {t e n sz : Nat} {m : Nat} {cs : List Value} {y : DataW H × List MemPlace} {g : τ → List Value} {V : τ → Prop} (ht : P.underlying t = some (.array n e)) (hc : P.cellsOf e = sz) (ho : Opens enc P W e g V)
    (h : DataW.trod enc P W 0 (fun _ => true) true m t cs = some y) (i : Nat) (hi : i < n) {o : Nat} (e1 : i * sz = o) : ∃ x, (cs.drop o).take sz = g x ∧ V x := by
  subst e1 hc
  obtain ⟨xs, k, -, -, -, hl, hel⟩ := DataW.trod_array ht h
  have h1 := hel i hi
  rw [List.getElem?_eq_getElem (by omega)] at h1
  exact ho _ _ _ h1
end
end Go.Proofs.Ytefmnjehhpceoaa

