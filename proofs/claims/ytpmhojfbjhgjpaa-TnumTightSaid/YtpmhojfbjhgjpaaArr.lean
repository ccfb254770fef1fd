/-
  Arrays of numbers as arguments: opened and shut.
-/
import Derived.Test.YtpmhojfbjhgjpaaBase
namespace Go.Proofs.Ytpmhojfbjhgjpaa
open Go.ChangeShapes Go.WideShapes Go.ChangeAt Go.RowKit Go.Joins
set_option linter.unusedVariables false
set_option linter.unusedSimpArgs false
section
variable {H : Type} {enc : TypeId × Value → H} {P : Program} {w : World} {base : Nat} {spare : Nat → Bool} {held : Bool}
theorem okWide_arr {r : Reach} {b0 : Nat} {t e : TypeId} {n : Nat} {v : Value} (ht : P.underlying t = some (.array n e)) (h : Value.okWide P w r b0 t v) : ∃ cs, v = .agg cs ∧ cs.size = P.cellsOf t := by
  simp only [Value.okWide, ht] at h
  obtain ⟨cs, h1, h2, _⟩ := h
  exact ⟨cs, h1, h2⟩
theorem open_arr_ints {r : Reach} {b0 : Nat} {t e : TypeId} {n : Nat} {k : IntKind} {v : Value} {d : DataW H} {p : List MemPlace} (ht : P.underlying t = some (.array n e)) (he : P.underlying e = some (.int k)) (hce : P.cellsOf e = 1) (hC : P.cellsOf t = n)
    (hv : Value.okWide P w r b0 t v) (h : DataW.Trod enc P w base spare held t v d p) :
    ∃ zs : List Int, zs.length = n ∧ v = .agg (zs.map (Value.int k)).toArray ∧ d = .agg (zs.map fun z => .lit (.int k z)) ∧ p = [] ∧ ∀ z ∈ zs, (Lit.int k z).wf = true := by
  obtain ⟨cs, rfl, hsz⟩ := okWide_arr ht hv
  obtain ⟨fuel, hf⟩ := h
  obtain ⟨xs, m, rfl, hx, hl, hn, hi⟩ := DataW.trod_array ht hf
  simp only [Value.cells] at hi hl
  rw [hC] at hl
  have key : ∀ i, i < n → ∃ z, cs.toList[i]? = some (.int k z) ∧ xs[i]? = some (.lit (.int k z), []) ∧ (Lit.int k z).wf = true := by
    intro i h1
    have h2 := hi i h1
    rw [hce, Nat.mul_one] at h2
    have hlt : i < cs.toList.length := by rw [hl]; exact h1
    have h3 : (cs.toList.drop i).take 1 = [cs.toList[i]] := by rw [List.drop_eq_getElem_cons hlt]; rfl
    rw [h3] at h2
    have h4 : xs[i]? = some (xs[i]'(by omega)) := List.getElem?_eq_getElem (by omega)
    rw [h4] at h2
    obtain ⟨z, e1, e2, e3⟩ := DataW.trod_int he h2
    refine ⟨z, ?_, ?_, e3⟩
    · rw [List.getElem?_eq_getElem hlt]
      simpa using e1
    · rw [h4, e2]
  let zs : List Int := cs.toList.map intOf
  have hz : zs.length = n := by simp only [zs, List.length_map]; exact hl
  have hcs : cs.toList = zs.map (Value.int k) := by
    apply List.ext_getElem?
    intro i
    by_cases h1 : i < n
    · obtain ⟨z, e1, e2, e3⟩ := key i h1
      simp only [zs, List.getElem?_map, e1, Option.map_some, intOf]
    · rw [List.getElem?_eq_none (by omega), List.getElem?_eq_none (by simp only [List.length_map, hz]; omega)]
  have hxs : xs = zs.map fun z => ((.lit (.int k z), []) : DataW H × List MemPlace) := by
    apply List.ext_getElem?
    intro i
    by_cases h1 : i < n
    · obtain ⟨z, e1, e2, e3⟩ := key i h1
      simp only [zs, List.getElem?_map, e1, e2, Option.map_some, intOf]
    · rw [List.getElem?_eq_none (by omega), List.getElem?_eq_none (by simp only [List.length_map, hz]; omega)]
  refine ⟨zs, hz, ?_, ?_, ?_, ?_⟩
  · rw [← hcs]
  · have := congrArg Prod.fst hx
    simp only at this
    rw [this, hxs, List.map_map]
    rfl
  · have := congrArg Prod.snd hx
    simp only at this
    rw [this, hxs]
    simp
  · intro z h1
    obtain ⟨i, h2⟩ := List.getElem?_of_mem h1
    have h3 : i < n := by
      have := List.getElem?_eq_some_iff.1 h2
      obtain ⟨h4, _⟩ := this
      omega
    obtain ⟨z', e1, e2, e3⟩ := key i h3
    simp only [zs, List.getElem?_map, e1, Option.map_some, intOf] at h2
    rw [← Option.some.inj h2]
    exact e3
end
section
variable {H : Type} {enc : TypeId × Value → H} {w : World} {base : Nat} {spare : Nat → Bool} {held : Bool}
theorem open_arr2 {r : Reach} {b0 : Nat} {v : Value} {d : DataW H} {p : List MemPlace} (hv : Value.okWide Try.prog w r b0 48 v) (h : DataW.Trod enc Try.prog w base spare held 48 v d p) :
    ∃ x y : BitVec 64, v = .agg #[.int .u64 (nn x), .int .u64 (nn y)] ∧ d = .agg [.lit (.int .u64 (nn x)), .lit (.int .u64 (nn y))] ∧ p = [] := by
  obtain ⟨zs, hz, rfl, rfl, rfl, hw⟩ := open_arr_ints Try.underlying48 Try.underlying22 cells22 (by kernel_rfl) hv h
  match zs, hz with
  | [a, b], _ =>
    obtain ⟨x, rfl⟩ := open_u64 (hw a (by simp))
    obtain ⟨y, rfl⟩ := open_u64 (hw b (by simp))
    exact ⟨x, y, rfl, rfl, rfl⟩
theorem shut_arr2 (x y : BitVec 64) : DataW.Trod enc Try.prog w base spare true 48 (.agg #[.int .u64 (nn x), .int .u64 (nn y)]) (.agg [.lit (.int .u64 (nn x)), .lit (.int .u64 (nn y))]) [] := by
  refine ⟨2, ?_⟩
  have r : List.range 2 = [0, 1] := rfl
  have c48 : Try.prog.cellsOf 48 = 2 := by kernel_rfl
  have wx := wf_nn x
  have wy := wf_nn y
  simp [DataW.trod, Try.underlying48, Try.underlying22, Value.cells, r, cells22, c48, wx, wy]
end
end Go.Proofs.Ytpmhojfbjhgjpaa
