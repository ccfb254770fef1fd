/-
  append of a whole row: a slice that is only read, or a row of the call's own, put behind a row of the call's own, or behind nothing. Nothing of the program stands here.
-/
import Derived.Test.YtlpjdjbophcomaaDoorRxU
import Derived.Laws.OwnMore
import Derived.Laws.BytesArg
import Derived.Laws.Strings
namespace Go.Proofs.YtlpjdjbophcomaaDoor
open Go.RowKit
set_option linter.unusedVariables false
set_option linter.unusedSimpArgs false
section
variable {P : Program} {t ty e : TypeId} {i : TypeInfo} {z : Value} {size bytes : Nat}
end
section
variable {P : Program} {t ty e : TypeId} {i : TypeInfo} {z : Value} {sz bytes : Nat} {α : Type} {f : α → List Value}
end
/-! ### Bytes as a string -/
theorem str_eql {P : Program} (T : TypeId) (a b : ByteArray) (hg : P.eqGuardType P.depth T = false) (xo yo : Operand) (w : World) : (Q.bin .eql T xo yo (.string a) (.string b)).sem.run P w = .ok (.value (.bool (a == b))) w := by
  simp [Q.sem, eqGuard, binOp_string_eql, Sem.run, hg, beq_toListBytes]
/-! ### A part of a slice that is only read -/
theorem Ro.drop {τ : Type} {S : World → Prop} {f : τ → List Value} {sz : Nat} {a : Option Addr} {p m n : Nat} {A : Nat → τ} (h : Ro S f sz a p m n A) (j : Nat) : Ro S f sz (some ⟨p, m + j * sz, none⟩) p (m + j * sz) (n - j) (fun k => A (j + k)) :=
  ⟨fun _ => rfl, fun w hS k hk i hi => by
    have := h.cell w hS (j + k) (by omega) i hi
    rw [← this, Nat.add_mul, ← Nat.add_assoc]⟩
end Go.Proofs.YtlpjdjbophcomaaDoor

