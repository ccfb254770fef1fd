/-
  Rows that are cut: a row's first elements with no room behind them, what lies behind a place, one put behind the other; copy of nothing; make of a row of a natural number of elements. Nothing of the program stands here.
-/
import Derived.Test.YtefmnjehhpceoaaRxN
namespace Go.Proofs.Ytefmnjehhpceoaa
open Go.RowKit
set_option linter.unusedVariables false
set_option linter.unusedSimpArgs false
inductive CK where
  | row
  | cap
section
variable {P : Program} {S : World → Prop} {T e : TypeId} {sz : Nat}
end
section
variable {P : Program} {t ty e : TypeId} {i : TypeInfo} {z : Value} {sz bytes : Nat}
theorem padL_of {x k sz : Nat} {p : List Value} (h1 : p.length % sz = 0) (h2 : k + p.length / sz ≤ maxLen) : padL ⟨x, padOf p⟩ k sz = p := by
  unfold padL
  rw [padR_of, if_pos ⟨h1, h2⟩]
end
/-! ### A row's part, given to a callee that only reads it -/
end Go.Proofs.Ytefmnjehhpceoaa

