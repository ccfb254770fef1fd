/-
  Loops by steps: a loop whose rounds are told by a step comes to what the steps come to. Nothing of the program stands here.
-/
import Derived.Test.YtlpjdjbophcomaaDoorRxG
namespace Go.Proofs.YtlpjdjbophcomaaDoor
open Go.RowKit
set_option linter.unusedVariables false
section
variable {σ τ : Type}
/-- What is kept from round to round, and what falls. -/
structure Falls (step : σ → σ ⊕ τ) (μ : σ → Nat) (I : σ → Prop) : Prop where
  next : ∀ s s', I s → step s = .inl s' → I s' ∧ μ s' < μ s
end
/-- A contract by a test. -/
theorem Con.cond {P : Program} {f : FuncId} {a : Array Value} {α : Type} (F : α → Value) (c : Bool) (A B : α) (ht : c = true → Con P f a (F A)) (hf : c = false → Con P f a (F B)) : Con P f a (F (bif c then A else B)) := by
  cases c
  · exact hf rfl
  · exact ht rfl
theorem ne_exit (i : Nat) : (.exit i : Ex) ≠ .normal := fun h => by cases h
theorem ne_ret : (.ret : Ex) ≠ .normal := fun h => by cases h
end Go.Proofs.YtlpjdjbophcomaaDoor

