/-
  Blocks of several arrays; parts of a call's own rows and arrays, which a callee may write. Nothing of the program stands here.
-/
import Derived.Test.YtdgehbjiphahhaaRxM
namespace Go.Proofs.Ytdgehbjiphahhaa
open Go.RowKit
set_option linter.unusedVariables false
set_option linter.unusedSimpArgs false
/-! ### A block of several arrays -/
section
variable {P : Program} {S : World → Prop} {T e : TypeId}
variable {τ : Type} {f : τ → List Value} {N k sz o off : Nat} {A A1 : Nat → τ} {v : τ} {pre post : List (List Value)}
end
/-! ### A part of a row or of an array -/
section
variable {P : Program} {T e : TypeId} {sz : Nat}
end
end Go.Proofs.Ytdgehbjiphahhaa

