/-
  Bytes of unknown strings; a map's one entry, by the key that it was made with. Nothing of the program stands here.
-/
import Derived.Test.YtefmnjehhpceoaaRyK
namespace Go.Proofs.Ytefmnjehhpceoaa
open Go.RowKit
set_option linter.unusedVariables false
set_option linter.unusedSimpArgs false
theorem ba_eq : ∀ {a b : ByteArray}, (a == b) = true → a = b
  | ⟨a⟩, ⟨b⟩, h => by
    have h1 : (a == b) = true := h
    rw [eq_of_beq h1]
end Go.Proofs.Ytefmnjehhpceoaa

