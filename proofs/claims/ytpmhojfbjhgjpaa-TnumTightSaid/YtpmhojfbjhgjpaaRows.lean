/-
  No cell of these rows narrows 'for every input' (looked for: loops, veiled, ifaces, maps, wideKeys, modest, calm, conditions, laid).
  DERIVED. THE GIVEN ROWS OF THIS SEAT. 7 by the template 'for every input the law returns true; each argument reads behind the call as it read before'; 0 by the template 'total and deterministic' (their statements: YtpmhojfbjhgjpaaTotals.lean).
  GIVEN WITH THE SEED: the statements are not yours to turn. If you find one false, say at which input.
  Laid BY PROGRAM, IN A SANDBOX (cutbox-rows.mjs): the forced cells as the released guide's own fill.sh prints them over the translation 7066ac233e03ebcc… (all of the seat's roots in one cut). By AI agents, Wed Nov 11 2026. No macro, syntax, notation, axiom, sorry.
-/
import Derived.Test.YtpmhojfbjhgjpaaChecked
import GoSem.Claim
import GoSem.ClaimJoined
import GoSem.ClaimMapViews
import Derived.JoinedTies
import Derived.KernelRfl
namespace Go.Proofs.Ytpmhojfbjhgjpaa
/- THE CELL 'sum', in the pinned program and in every row, IS THE sha256 OF THE DUMP (.gsa) THAT YtpmhojfbjhgjpaaProg.lean LOADS. Nothing in Lean hashes anything: it is a label: what it is worth is what the hold of that sum in a sandbox is worth. -/
noncomputable def Try.pinned : Pinned := { name := "ytpmhojfbjhgjpaa", sum := "7066ac233e03ebcc21ec1df66f234d826fa7fe1f5782f21296a3aa084cc22265", checked := Try.checked }
namespace Rows
def none {H : Type} : Left H := { results := [], args := [] }

/-- 'barbicanlaw6.TnumExact': WHATEVER THE INPUT: true; the input reads as it did. -/
def tnumExactSpec : ChangeSpec := { name := "tnumExact", fn := fun _ => fun
  | [d1, d2, d3, d4, d5, d6] => { results := [.lit (.bool true)], args := [d1, d2, d3, d4, d5, d6] }
  | _ => none }
def tnumExactRow : OpenClaim := { program := "ytpmhojfbjhgjpaa", sum := "7066ac233e03ebcc21ec1df66f234d826fa7fe1f5782f21296a3aa084cc22265", func := "barbican/barbicanlaw6.TnumExact", spec := "tnumExact", unfollowed := true, recurses := true, apart := false }
def TnumExactSaid : Prop := tnumExactRow.holds Try.pinned (OpenSpec.ofChange tnumExactSpec)

/-- ITS FALSE NEIGHBOUR: 'it returns false'. Refute it at one input. -/
def tnumExactWrong : ChangeSpec := { name := "tnumExact", fn := fun _ => fun
  | [d1, d2, d3, d4, d5, d6] => { results := [.lit (.bool false)], args := [d1, d2, d3, d4, d5, d6] }
  | _ => none }
def TnumExactWrongFalsely : Prop := tnumExactRow.holds Try.pinned (OpenSpec.ofChange tnumExactWrong)

/-- 'barbicanlaw6.TnumHolds': WHATEVER THE INPUT: true; the input reads as it did. -/
def tnumHoldsSpec : ChangeSpec := { name := "tnumHolds", fn := fun _ => fun
  | [d1, d2, d3, d4, d5] => { results := [.lit (.bool true)], args := [d1, d2, d3, d4, d5] }
  | _ => none }
def tnumHoldsRow : OpenClaim := { program := "ytpmhojfbjhgjpaa", sum := "7066ac233e03ebcc21ec1df66f234d826fa7fe1f5782f21296a3aa084cc22265", func := "barbican/barbicanlaw6.TnumHolds", spec := "tnumHolds", unfollowed := true, recurses := true, apart := false }
def TnumHoldsSaid : Prop := tnumHoldsRow.holds Try.pinned (OpenSpec.ofChange tnumHoldsSpec)

/-- ITS FALSE NEIGHBOUR: 'it returns false'. Refute it at one input. -/
def tnumHoldsWrong : ChangeSpec := { name := "tnumHolds", fn := fun _ => fun
  | [d1, d2, d3, d4, d5] => { results := [.lit (.bool false)], args := [d1, d2, d3, d4, d5] }
  | _ => none }
def TnumHoldsWrongFalsely : Prop := tnumHoldsRow.holds Try.pinned (OpenSpec.ofChange tnumHoldsWrong)

/-- 'barbicanlaw6.TnumTight': WHATEVER THE INPUT: true; the input reads as it did. -/
def tnumTightSpec : ChangeSpec := { name := "tnumTight", fn := fun _ => fun
  | [d1, d2, d3, d4, d5] => { results := [.lit (.bool true)], args := [d1, d2, d3, d4, d5] }
  | _ => none }
def tnumTightRow : OpenClaim := { program := "ytpmhojfbjhgjpaa", sum := "7066ac233e03ebcc21ec1df66f234d826fa7fe1f5782f21296a3aa084cc22265", func := "barbican/barbicanlaw6.TnumTight", spec := "tnumTight", unfollowed := true, recurses := true, apart := false }
def TnumTightSaid : Prop := tnumTightRow.holds Try.pinned (OpenSpec.ofChange tnumTightSpec)

/-- ITS FALSE NEIGHBOUR: 'it returns false'. Refute it at one input. -/
def tnumTightWrong : ChangeSpec := { name := "tnumTight", fn := fun _ => fun
  | [d1, d2, d3, d4, d5] => { results := [.lit (.bool false)], args := [d1, d2, d3, d4, d5] }
  | _ => none }
def TnumTightWrongFalsely : Prop := tnumTightRow.holds Try.pinned (OpenSpec.ofChange tnumTightWrong)

/-- 'barbicanlaw6.TnumMul': WHATEVER THE INPUT: true; the input reads as it did. -/
def tnumMulSpec : ChangeSpec := { name := "tnumMul", fn := fun _ => fun
  | [d1, d2] => { results := [.lit (.bool true)], args := [d1, d2] }
  | _ => none }
def tnumMulRow : OpenClaim := { program := "ytpmhojfbjhgjpaa", sum := "7066ac233e03ebcc21ec1df66f234d826fa7fe1f5782f21296a3aa084cc22265", func := "barbican/barbicanlaw6.TnumMul", spec := "tnumMul", unfollowed := true, recurses := true, apart := false }
def TnumMulSaid : Prop := tnumMulRow.holds Try.pinned (OpenSpec.ofChange tnumMulSpec)

/-- ITS FALSE NEIGHBOUR: 'it returns false'. Refute it at one input. -/
def tnumMulWrong : ChangeSpec := { name := "tnumMul", fn := fun _ => fun
  | [d1, d2] => { results := [.lit (.bool false)], args := [d1, d2] }
  | _ => none }
def TnumMulWrongFalsely : Prop := tnumMulRow.holds Try.pinned (OpenSpec.ofChange tnumMulWrong)

/-- 'barbicanlaw6.TnumRises': WHATEVER THE INPUT: true; the input reads as it did. -/
def tnumRisesSpec : ChangeSpec := { name := "tnumRises", fn := fun _ => fun
  | [d1, d2, d3, d4] => { results := [.lit (.bool true)], args := [d1, d2, d3, d4] }
  | _ => none }
def tnumRisesRow : OpenClaim := { program := "ytpmhojfbjhgjpaa", sum := "7066ac233e03ebcc21ec1df66f234d826fa7fe1f5782f21296a3aa084cc22265", func := "barbican/barbicanlaw6.TnumRises", spec := "tnumRises", unfollowed := true, recurses := true, apart := false }
def TnumRisesSaid : Prop := tnumRisesRow.holds Try.pinned (OpenSpec.ofChange tnumRisesSpec)

/-- ITS FALSE NEIGHBOUR: 'it returns false'. Refute it at one input. -/
def tnumRisesWrong : ChangeSpec := { name := "tnumRises", fn := fun _ => fun
  | [d1, d2, d3, d4] => { results := [.lit (.bool false)], args := [d1, d2, d3, d4] }
  | _ => none }
def TnumRisesWrongFalsely : Prop := tnumRisesRow.holds Try.pinned (OpenSpec.ofChange tnumRisesWrong)

/-- 'barbicanlaw6.TnumRanges': WHATEVER THE INPUT: true; the input reads as it did. -/
def tnumRangesSpec : ChangeSpec := { name := "tnumRanges", fn := fun _ => fun
  | [d1, d2] => { results := [.lit (.bool true)], args := [d1, d2] }
  | _ => none }
def tnumRangesRow : OpenClaim := { program := "ytpmhojfbjhgjpaa", sum := "7066ac233e03ebcc21ec1df66f234d826fa7fe1f5782f21296a3aa084cc22265", func := "barbican/barbicanlaw6.TnumRanges", spec := "tnumRanges", unfollowed := true, recurses := true, apart := false }
def TnumRangesSaid : Prop := tnumRangesRow.holds Try.pinned (OpenSpec.ofChange tnumRangesSpec)

/-- ITS FALSE NEIGHBOUR: 'it returns false'. Refute it at one input. -/
def tnumRangesWrong : ChangeSpec := { name := "tnumRanges", fn := fun _ => fun
  | [d1, d2] => { results := [.lit (.bool false)], args := [d1, d2] }
  | _ => none }
def TnumRangesWrongFalsely : Prop := tnumRangesRow.holds Try.pinned (OpenSpec.ofChange tnumRangesWrong)

/-- 'barbicanlaw6.TnumLattice': WHATEVER THE INPUT: true; the input reads as it did. -/
def tnumLatticeSpec : ChangeSpec := { name := "tnumLattice", fn := fun _ => fun
  | [d1, d2] => { results := [.lit (.bool true)], args := [d1, d2] }
  | _ => none }
def tnumLatticeRow : OpenClaim := { program := "ytpmhojfbjhgjpaa", sum := "7066ac233e03ebcc21ec1df66f234d826fa7fe1f5782f21296a3aa084cc22265", func := "barbican/barbicanlaw6.TnumLattice", spec := "tnumLattice", unfollowed := true, recurses := true, apart := false }
def TnumLatticeSaid : Prop := tnumLatticeRow.holds Try.pinned (OpenSpec.ofChange tnumLatticeSpec)

/-- ITS FALSE NEIGHBOUR: 'it returns false'. Refute it at one input. -/
def tnumLatticeWrong : ChangeSpec := { name := "tnumLattice", fn := fun _ => fun
  | [d1, d2] => { results := [.lit (.bool false)], args := [d1, d2] }
  | _ => none }
def TnumLatticeWrongFalsely : Prop := tnumLatticeRow.holds Try.pinned (OpenSpec.ofChange tnumLatticeWrong)

/- THE SECOND FORM. 'bulk': how many values and letters a reading holds, each counted each time it is reached (what is shared counts as often as it is met; a slice's spare places count too). A statement '..UptoSaid' is the law's where the arguments, and the package variables that the reading takes, are together of bulk at most 1048576: NARROWER than '..Said'. Prove '..Said' where nothing that the law and all that it calls make is longer than what came in: it says more and counts as full. Else prove '..UptoSaid'. A law counts once. -/
mutual
def uptoBulk {H : Type} : DataW H → Nat
  | .lit (.string bytes) => bytes.length + 1
  | .lit _ => 1
  | .nil => 1
  | .ptr d => uptoBulk d + 1
  | .slice elems spare => uptoBulkAll elems + uptoBulkAll spare + 1
  | .agg parts => uptoBulkAll parts + 1
  | .iface _ d => uptoBulk d + 1
  | .map entries => uptoBulkEntries entries + 1
  | .held _ => 1
def uptoBulkAll {H : Type} : List (DataW H) → Nat
  | [] => 0
  | d :: r => uptoBulk d + uptoBulkAll r
def uptoBulkEntries {H : Type} : List (Lit × DataW H) → Nat
  | [] => 0
  | x :: r => uptoBulkEntry x + uptoBulkEntries r
def uptoBulkEntry {H : Type} : Lit × DataW H → Nat
  | (.string bytes, d) => bytes.length + uptoBulk d + 1
  | (_, d) => uptoBulk d + 1
 end
def uptoSmall : (H : Type) → List (DataW H) → Bool := fun _ ds => decide (uptoBulkAll ds ≤ 1048576)
def OpenSpec.upto (s : _root_.Go.ChangeSpec) : _root_.Go.OpenSpec := { _root_.Go.OpenSpec.ofChange s with cond := some uptoSmall }

/-- 'barbicanlaw6.TnumExact', WHERE WHAT IT READS IS OF BULK AT MOST 1048576: true; the input reads as it did. -/
def tnumExactUptoRow : OpenClaim := { program := "ytpmhojfbjhgjpaa", sum := "7066ac233e03ebcc21ec1df66f234d826fa7fe1f5782f21296a3aa084cc22265", func := "barbican/barbicanlaw6.TnumExact", spec := "tnumExact", unfollowed := true, recurses := true, apart := false, narrowed := true }
def TnumExactUptoSaid : Prop := tnumExactUptoRow.holds Try.pinned (OpenSpec.upto tnumExactSpec)

/-- 'barbicanlaw6.TnumHolds', WHERE WHAT IT READS IS OF BULK AT MOST 1048576: true; the input reads as it did. -/
def tnumHoldsUptoRow : OpenClaim := { program := "ytpmhojfbjhgjpaa", sum := "7066ac233e03ebcc21ec1df66f234d826fa7fe1f5782f21296a3aa084cc22265", func := "barbican/barbicanlaw6.TnumHolds", spec := "tnumHolds", unfollowed := true, recurses := true, apart := false, narrowed := true }
def TnumHoldsUptoSaid : Prop := tnumHoldsUptoRow.holds Try.pinned (OpenSpec.upto tnumHoldsSpec)

/-- 'barbicanlaw6.TnumTight', WHERE WHAT IT READS IS OF BULK AT MOST 1048576: true; the input reads as it did. -/
def tnumTightUptoRow : OpenClaim := { program := "ytpmhojfbjhgjpaa", sum := "7066ac233e03ebcc21ec1df66f234d826fa7fe1f5782f21296a3aa084cc22265", func := "barbican/barbicanlaw6.TnumTight", spec := "tnumTight", unfollowed := true, recurses := true, apart := false, narrowed := true }
def TnumTightUptoSaid : Prop := tnumTightUptoRow.holds Try.pinned (OpenSpec.upto tnumTightSpec)

/-- 'barbicanlaw6.TnumMul', WHERE WHAT IT READS IS OF BULK AT MOST 1048576: true; the input reads as it did. -/
def tnumMulUptoRow : OpenClaim := { program := "ytpmhojfbjhgjpaa", sum := "7066ac233e03ebcc21ec1df66f234d826fa7fe1f5782f21296a3aa084cc22265", func := "barbican/barbicanlaw6.TnumMul", spec := "tnumMul", unfollowed := true, recurses := true, apart := false, narrowed := true }
def TnumMulUptoSaid : Prop := tnumMulUptoRow.holds Try.pinned (OpenSpec.upto tnumMulSpec)

/-- 'barbicanlaw6.TnumRises', WHERE WHAT IT READS IS OF BULK AT MOST 1048576: true; the input reads as it did. -/
def tnumRisesUptoRow : OpenClaim := { program := "ytpmhojfbjhgjpaa", sum := "7066ac233e03ebcc21ec1df66f234d826fa7fe1f5782f21296a3aa084cc22265", func := "barbican/barbicanlaw6.TnumRises", spec := "tnumRises", unfollowed := true, recurses := true, apart := false, narrowed := true }
def TnumRisesUptoSaid : Prop := tnumRisesUptoRow.holds Try.pinned (OpenSpec.upto tnumRisesSpec)

/-- 'barbicanlaw6.TnumRanges', WHERE WHAT IT READS IS OF BULK AT MOST 1048576: true; the input reads as it did. -/
def tnumRangesUptoRow : OpenClaim := { program := "ytpmhojfbjhgjpaa", sum := "7066ac233e03ebcc21ec1df66f234d826fa7fe1f5782f21296a3aa084cc22265", func := "barbican/barbicanlaw6.TnumRanges", spec := "tnumRanges", unfollowed := true, recurses := true, apart := false, narrowed := true }
def TnumRangesUptoSaid : Prop := tnumRangesUptoRow.holds Try.pinned (OpenSpec.upto tnumRangesSpec)

/-- 'barbicanlaw6.TnumLattice', WHERE WHAT IT READS IS OF BULK AT MOST 1048576: true; the input reads as it did. -/
def tnumLatticeUptoRow : OpenClaim := { program := "ytpmhojfbjhgjpaa", sum := "7066ac233e03ebcc21ec1df66f234d826fa7fe1f5782f21296a3aa084cc22265", func := "barbican/barbicanlaw6.TnumLattice", spec := "tnumLattice", unfollowed := true, recurses := true, apart := false, narrowed := true }
def TnumLatticeUptoSaid : Prop := tnumLatticeUptoRow.holds Try.pinned (OpenSpec.upto tnumLatticeSpec)

end Rows
end Go.Proofs.Ytpmhojfbjhgjpaa
