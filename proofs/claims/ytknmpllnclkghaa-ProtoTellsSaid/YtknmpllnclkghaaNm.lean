/-
  The helpers' numbers by their names: contracts over the program's own text.
-/
import Derived.Test.YtknmpllnclkghaaRn
import Derived.Maps.OwnSet
import Derived.Maps.OwnOps
import Derived.Carry
import Derived.StringKeys
namespace Go.Proofs.Ytknmpllnclkghaa
open Go.Maps Go.WideMaps Go.ChangeShapes Go.WideShapes Go.ChangeAt Go.RowKit
set_option linter.unusedVariables false
set_option linter.unusedSimpArgs false
abbrev HH := Nat
def keyN (s : ByteArray) : Lit := .string s.data.toList
def NM : Nat → DataW HH
  | 0 => .map []
  | m + 1 => (NM m).put (keyN (nm m)) (.lit (.int .i64 ((m : Int) + 1)))
theorem NM_map : ∀ k, IsMap (NM k)
  | 0 => ⟨[], rfl⟩
  | k + 1 => by
    obtain ⟨es, h⟩ := NM_map k
    unfold NM; rw [h]; exact ⟨_, rfl⟩
theorem key_inj {a b : ByteArray} (h : keyN a = keyN b) : a = b := by
  cases a; cases b
  simp only [keyN, Lit.string.injEq] at h
  rw [Array.toList_inj.1 h]
theorem keyN_key (s : ByteArray) : WideAt.IsKeyLit (keyN s) := by simp [WideAt.IsKeyLit, keyN]
theorem nm_ne : ∀ i, i < 28 → ∀ j, j < 28 → nm i = nm j → i = j := by decide +kernel
theorem nm_size : ∀ i, i < 28 → (nm i).size ≤ 100 := by decide +kernel
theorem NM_not (s : ByteArray) : ∀ k, k ≤ 28 → (∀ j, j < k → nm j ≠ s) → has (NM k) (keyN s) = false
  | 0, _, _ => rfl
  | k + 1, hk, h => by
    show has ((NM k).put (keyN (nm k)) _) (keyN s) = false
    rw [has_put_other (fun e => h k (by omega) (key_inj e).symm)]
    exact NM_not s k (by omega) (fun j hj => h j (by omega))
theorem NM_at (m : Nat) (z : DataW HH) : ∀ k, k ≤ 28 → m < k → has (NM k) (keyN (nm m)) = true ∧ (NM k).atKey (keyN (nm m)) z = .lit (.int .i64 ((m : Int) + 1))
  | 0, _, h => by omega
  | k + 1, hk, h => by
    by_cases e : m = k
    · subst e
      exact ⟨has_put_same (NM_map m) (keyN_key _) _, atKey_put_same (NM_map m) (keyN_key _) _ _⟩
    · have hne : keyN (nm m) ≠ keyN (nm k) := fun h2 => e (nm_ne m (by omega) k (by omega) (key_inj h2))
      have ih := NM_at m z k (by omega) (by omega)
      exact ⟨(has_put_other hne _).trans ih.1, (atKey_put_other hne _ _).trans ih.2⟩
end Go.Proofs.Ytknmpllnclkghaa
