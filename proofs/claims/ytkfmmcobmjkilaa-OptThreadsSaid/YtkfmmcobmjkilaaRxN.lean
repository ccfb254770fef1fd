/-
  append of a whole row: a slice that is only read, or a row of the call's own, put behind a row of the call's own, or behind nothing. Nothing of the program stands here.
-/
import Derived.Test.YtkfmmcobmjkilaaRxU
import Derived.Laws.OwnMore
import Derived.Laws.BytesArg
import Derived.Laws.Strings
namespace Go.Proofs.Ytkfmmcobmjkilaa
open Go.RowKit
set_option linter.unusedVariables false
set_option linter.unusedSimpArgs false
section
variable {P : Program} {t ty e : TypeId} {i : TypeInfo} {z : Value} {size bytes : Nat}
end
section
variable {P : Program} {t ty e : TypeId} {i : TypeInfo} {z : Value} {sz bytes : Nat} {α : Type} {f : α → List Value}
theorem ro_news {S : World → Prop} (hf : ∀ x, (f x).length = sz) (hsz : 0 < sz) {a : Option Addr} {p q m : Nat} {B : Nat → α} (hR : Ro S f sz a p q m B) {w : World} (hS : S w) : 0 < m → ∃ ad, a = some ad ∧ ∀ j u, (esG f m B)[j]? = some u → w.cell? (ad.add j) = some u := fun hm => by
  refine ⟨⟨p, q, none⟩, hR.at_ hm, fun j u hj => ?_⟩
  have hlt : j < m * sz := by rw [← esG_len hf]; exact (List.getElem?_eq_some_iff.1 hj).1
  have hk : j / sz < m := Nat.div_lt_of_lt_mul (by rw [Nat.mul_comm]; exact hlt)
  have hj2 : j / sz * sz + j % sz = j := by rw [Nat.mul_comm]; exact Nat.div_add_mod j sz
  have h1 := hR.cell w hS (j / sz) hk (j % sz) (Nat.mod_lt _ hsz)
  have h2 := esG_get (A := B) hf (Nat.mod_lt j hsz) hk
  rw [hj2, hj] at h2
  rw [Nat.add_assoc, hj2, ← h2] at h1
  rw [show (⟨p, q, none⟩ : Addr).add j = ⟨p, q + j, none⟩ by unfold Addr.add; split <;> simp_all]
  exact h1
end
/-! ### Bytes as a string -/
/-! ### A part of a slice that is only read -/
theorem Ro.drop {τ : Type} {S : World → Prop} {f : τ → List Value} {sz : Nat} {a : Option Addr} {p m n : Nat} {A : Nat → τ} (h : Ro S f sz a p m n A) (j : Nat) : Ro S f sz (some ⟨p, m + j * sz, none⟩) p (m + j * sz) (n - j) (fun k => A (j + k)) :=
  ⟨fun _ => rfl, fun w hS k hk i hi => by
    have := h.cell w hS (j + k) (by omega) i hi
    rw [← this, Nat.add_mul, ← Nat.add_assoc]⟩
end Go.Proofs.Ytkfmmcobmjkilaa

