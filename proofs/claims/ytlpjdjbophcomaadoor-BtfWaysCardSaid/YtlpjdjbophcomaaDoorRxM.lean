/-
  Rows that are cut: a row's first elements with no room behind them, what lies behind a place, one put behind the other; copy of nothing; make of a row of a natural number of elements. Nothing of the program stands here.
-/
import Derived.Test.YtlpjdjbophcomaaDoorRxN
namespace Go.Proofs.YtlpjdjbophcomaaDoor
open Go.RowKit
set_option linter.unusedVariables false
set_option linter.unusedSimpArgs false
inductive CK where
  | row
  | cap
section
variable {P : Program} {S : World → Prop} {T e : TypeId} {sz : Nat}
end
section
variable {P : Program} {t ty e : TypeId} {i : TypeInfo} {z : Value} {sz bytes : Nat}
end
theorem Ro.part {τ : Type} {S : World → Prop} {f : τ → List Value} {sz : Nat} {a : Option Addr} {p m n : Nat} {A : Nat → τ} (h : Ro S f sz a p m n A) (j n' : Nat) (hn : j + n' ≤ n) : Ro S f sz (some ⟨p, m + j * sz, none⟩) p (m + j * sz) n' (fun k => A (j + k)) :=
  ⟨fun _ => rfl, fun w hS k hk i hi => by
    have := h.cell w hS (j + k) (by omega) i hi
    rw [← this, Nat.add_mul, ← Nat.add_assoc]⟩
/-! ### A row's part, given to a callee that only reads it -/
end Go.Proofs.YtlpjdjbophcomaaDoor

