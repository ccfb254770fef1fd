/-
  Arguments that are arrays, opened. Nothing of the program stands here.
-/
import Derived.Test.YtfphpdhjcbhehaaDoorRxK
import Derived.OpenShut
namespace Go.Proofs.YtfphpdhjcbhehaaDoor
open Go.RowKit
set_option linter.unusedVariables false
set_option linter.unusedSimpArgs false
section
variable {H : Type} {enc : TypeId × Value → H} {P : Program} {W : World} {τ : Type}
theorem okWide_array {r : Reach} {b0 : Nat} {t e : TypeId} {n : Nat} {v : Value} (ht : P.underlying t = some (.array n e)) (h : Value.okWide P W r b0 t v) : ∃ cs, v = .agg cs ∧ cs.size = P.cellsOf t := by
  simp only [Value.okWide, ht] at h
  obtain ⟨cs, h1, h2, _⟩ := h
  exact ⟨cs, h1, h2⟩
theorem Opens.elem {t e n sz : Nat} {m : Nat} {cs : List Value} {y : DataW H × List MemPlace} {g : τ → List Value} {V : τ → Prop} (ht : P.underlying t = some (.array n e)) (hc : P.cellsOf e = sz) (ho : Opens enc P W e g V)
    (h : DataW.trod enc P W 0 (fun _ => true) true m t cs = some y) (i : Nat) (hi : i < n) {o : Nat} (e1 : i * sz = o) : ∃ x, (cs.drop o).take sz = g x ∧ V x := by
  subst e1 hc
  obtain ⟨xs, k, -, -, -, hl, hel⟩ := DataW.trod_array ht h
  have h1 := hel i hi
  rw [List.getElem?_eq_getElem (by omega)] at h1
  exact ho _ _ _ h1
theorem elem_len {t e n : Nat} {m : Nat} {cs : List Value} {y : DataW H × List MemPlace} (ht : P.underlying t = some (.array n e)) (h : DataW.trod enc P W 0 (fun _ => true) true m t cs = some y) : cs.length = P.cellsOf t := by
  obtain ⟨xs, k, -, -, hl, -, -⟩ := DataW.trod_array ht h
  exact hl
theorem Opens.arg_array {t e n : Nat} {r : Reach} {b0 : Nat} {v : Value} {d : DataW H} {p : List MemPlace} {f : τ → List Value} {V : τ → Prop} (ht : P.underlying t = some (.array n e)) (ho : Opens enc P W t f V) (hv : Value.okWide P W r b0 t v) (h : DataW.Trod enc P W 0 (fun _ => true) true t v d p) : ∃ x : τ, v = .agg ⟨f x⟩ ∧ V x := by
  obtain ⟨cs, rfl, -⟩ := okWide_array ht hv
  obtain ⟨fuel, hf⟩ := h
  obtain ⟨x, hx, hV⟩ := ho _ _ _ hf
  refine ⟨x, ?_, hV⟩
  rw [← hx]
  rfl
end
end Go.Proofs.YtfphpdhjcbhehaaDoor
