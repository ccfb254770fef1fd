/-
  Words for what told functions come to: tests that are decided, loops by rounds. Nothing of the program stands here.
-/
import Derived.Test.YtnlnldpolaodbaaDoorRxO
import Derived.Test.YtnlnldpolaodbaaDoorRxN
namespace Go.Proofs.YtnlnldpolaodbaaDoor
open Go.RowKit
set_option linter.unusedVariables false
set_option linter.unusedSimpArgs false
section
variable {α β : Type} {a b : α}
theorem bd_t {p : Prop} [Decidable p] (h : p) : (bif decide p then a else b) = a := by rw [decide_eq_true h]; rfl
theorem bd_f {p : Prop} [Decidable p] (h : ¬ p) : (bif decide p then a else b) = b := by rw [decide_eq_false h]; rfl
theorem bi_t {x : Int} {n : Nat} (h : 0 ≤ x ∧ x < n) : (bif inR x n then a else b) = a := by rw [inR_iff.2 h]; rfl
theorem bi_f {x : Int} {n : Nat} (h : ¬ (0 ≤ x ∧ x < n)) : (bif inR x n then a else b) = b := by
  cases e : inR x n
  · rfl
  · exact absurd (inR_iff.1 e) h
theorem bz_t {x y : Int} (h : x = y) : (bif x == y then a else b) = a := by rw [beq_iff_eq.2 h]; rfl
theorem bz_f {x y : Int} (h : x ≠ y) : (bif x == y then a else b) = b := by rw [beq_eq_false_iff_ne.2 h]; rfl
theorem bn_t {x y : Int} (h : x ≠ y) : (bif x != y then a else b) = a := by rw [bne_iff_ne.2 h]; rfl
theorem bn_f {x y : Int} (h : x = y) : (bif x != y then a else b) = b := by subst h; simp
theorem b_t : (bif true then a else b) = a := by rfl
theorem b_f : (bif false then a else b) = b := by rfl
theorem bt_ {x : α} {f : α → β} : bindT x f = f x := by rfl
theorem bs_ {x : α} {f : α → Option β} : (some x).bind f = f x := by rfl
theorem wz {x : Int} (h : -9223372036854775808 ≤ x ∧ x < 9223372036854775808) : IntKind.i64.wrap x = x := z_wrap h.1 h.2
theorem dd_t {p : Prop} [Decidable p] (h : p) : decide p = true := decide_eq_true h
theorem dd_f {p : Prop} [Decidable p] (h : ¬ p) : decide p = false := decide_eq_false h
theorem ir_t {x : Int} {n : Nat} (h : 0 ≤ x ∧ x < n) : inR x n = true := inR_iff.2 h
theorem ir_f {x : Int} {n : Nat} (h : ¬ (0 ≤ x ∧ x < n)) : inR x n = false := by
  cases e : inR x n
  · rfl
  · exact absurd (inR_iff.1 e) h
theorem zq_nat {x : Int} {y : Int} (h0 : 0 ≤ x) (h1 : x < 9223372036854775808) (hy : 0 < y) : zquo x y = x / y := by
  have h2 : 0 ≤ x / y := Int.ediv_nonneg h0 (Int.le_of_lt hy)
  have h3 : x / y ≤ x := Int.ediv_le_self y h0
  unfold zquo
  rw [Int.tdiv_eq_ediv_of_nonneg h0, wz ⟨by omega, by omega⟩]
theorem zr_nat {x : Int} {y : Int} (h0 : 0 ≤ x) : zrem x y = x % y := by
  unfold zrem
  exact Int.tmod_eq_emod_of_nonneg h0
theorem updF_get (A : Nat → α) (k : Nat) (v : α) (j : Nat) : updF A k v j = if j = k then v else A j := by rfl
end
end Go.Proofs.YtnlnldpolaodbaaDoor
