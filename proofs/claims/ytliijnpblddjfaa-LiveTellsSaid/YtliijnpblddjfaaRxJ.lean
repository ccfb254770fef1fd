/-
  Words for what told functions come to: tests that are decided, loops by rounds. Nothing of the program stands here.
-/
import Derived.Test.YtliijnpblddjfaaRxO
import Derived.Test.YtliijnpblddjfaaRxN
namespace Go.Proofs.Ytliijnpblddjfaa
open Go.RowKit
set_option linter.unusedVariables false
set_option linter.unusedSimpArgs false
section
variable {α β : Type} {a b : α}
theorem bd_t {p : Prop} [Decidable p] (h : p) : (bif decide p then a else b) = a := by rw [decide_eq_true h]; rfl
theorem bd_f {p : Prop} [Decidable p] (h : ¬ p) : (bif decide p then a else b) = b := by rw [decide_eq_false h]; rfl
theorem bi_t {x : Int} {n : Nat} (h : 0 ≤ x ∧ x < n) : (bif inR x n then a else b) = a := by rw [ziB.2 h]; rfl
theorem bz_t {x y : Int} (h : x = y) : (bif x == y then a else b) = a := by rw [beq_iff_eq.2 h]; rfl
theorem bz_f {x y : Int} (h : x ≠ y) : (bif x == y then a else b) = b := by rw [beq_eq_false_iff_ne.2 h]; rfl
theorem b_t : (bif true then a else b) = a := by rfl
theorem b_f : (bif false then a else b) = b := by rfl
theorem bt_ {x : α} {f : α → β} : zv x f = f x := by rfl
theorem bs_ {x : α} {f : α → Option β} : (some x).bind f = f x := by rfl
theorem wz {x : Int} (h : -9223372036854775808 ≤ x ∧ x < 9223372036854775808) : IntKind.i64.wrap x = x := zCb h.1 h.2
theorem dd_t {p : Prop} [Decidable p] (h : p) : decide p = true := decide_eq_true h
theorem dd_f {p : Prop} [Decidable p] (h : ¬ p) : decide p = false := decide_eq_false h
theorem zuD (A : Nat → α) (k : Nat) (v : α) (j : Nat) : updF A k v j = if j = k then v else A j := by rfl
end
end Go.Proofs.Ytliijnpblddjfaa

