/-
  A map of strings that only grows, each with the value 1: its keys are a row. Nothing of the program stands here.
-/
import Derived.Test.YtdgehbjiphahhaaRyP
import Derived.MapKept
namespace Go.Proofs.Ytdgehbjiphahhaa
open Go.RowKit Go.MapKept
set_option linter.unusedVariables false
set_option linter.unusedSimpArgs false
section
variable {P : Program} {M : Nat → Prop} {B0 : Nat} {S : World → Prop} {T kt el : TypeId} {N : Nat} {K : Nat → ByteArray} {x : ByteArray}
end
end Go.Proofs.Ytdgehbjiphahhaa

