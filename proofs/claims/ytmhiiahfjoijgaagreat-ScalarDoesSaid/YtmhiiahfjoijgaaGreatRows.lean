/-
  No cell of these rows narrows 'for every input' (looked for: loops, veiled, ifaces, maps, wideKeys, modest, calm, conditions, laid).
  DERIVED. THE GIVEN ROWS OF THIS SEAT. 8 by the template 'for every input the law returns true; each argument reads behind the call as it read before'; 0 by the template 'total and deterministic' (their statements: YtmhiiahfjoijgaaGreatTotals.lean).
  GIVEN WITH THE SEED: the statements are not yours to turn. If you find one false, say at which input.
  Laid BY PROGRAM, IN A SANDBOX (cutbox-rows.mjs): the forced cells as the released guide's own fill.sh prints them over the translation a0ae5a9cdd9f23a6… (all of the seat's roots in one cut). By AI agents, Wed Nov 11 2026. No macro, syntax, notation, axiom, sorry.
-/
import Derived.Test.YtmhiiahfjoijgaaGreatChecked
import GoSem.Claim
import GoSem.ClaimJoined
import GoSem.ClaimMapViews
import Derived.JoinedTies
import Derived.KernelRfl
namespace Go.Proofs.YtmhiiahfjoijgaaGreat
/- THE CELL 'sum', in the pinned program and in every row, IS THE sha256 OF THE DUMP (.gsa) THAT YtmhiiahfjoijgaaGreatProg.lean LOADS. Nothing in Lean hashes anything: it is a label: what it is worth is what the hold of that sum in a sandbox is worth. -/
noncomputable def Tryz.pinned : Pinned := { name := "ytmhiiahfjoijgaagreat", sum := "a0ae5a9cdd9f23a6fd7b23e8160198271ca463bb3aa8d5d88f99ba8c72c2d30b", checked := Tryz.checked }
namespace Rows
def none {H : Type} : Left H := { results := [], args := [] }

/-- 'barbicanlaw7.ScalarMakes': WHATEVER THE INPUT: true; the input reads as it did. -/
def scalarMakesSpec : ChangeSpec := { name := "scalarMakes", fn := fun _ => fun
  | [d1, d2, d3, d4] => { results := [.lit (.bool true)], args := [d1, d2, d3, d4] }
  | _ => none }
def scalarMakesRow : OpenClaim := { program := "ytmhiiahfjoijgaagreat", sum := "a0ae5a9cdd9f23a6fd7b23e8160198271ca463bb3aa8d5d88f99ba8c72c2d30b", func := "barbican/barbicanlaw7.ScalarMakes", spec := "scalarMakes", inPlace := ["math/bits.Add64", "math/bits.Sub64"], unfollowed := true, recurses := true, apart := false }
def ScalarMakesSaid : Prop := scalarMakesRow.holds Tryz.pinned (OpenSpec.ofChange scalarMakesSpec)

/-- ITS FALSE NEIGHBOUR: 'it returns false'. Refute it at one input. -/
def scalarMakesWrong : ChangeSpec := { name := "scalarMakes", fn := fun _ => fun
  | [d1, d2, d3, d4] => { results := [.lit (.bool false)], args := [d1, d2, d3, d4] }
  | _ => none }
def ScalarMakesWrongFalsely : Prop := scalarMakesRow.holds Tryz.pinned (OpenSpec.ofChange scalarMakesWrong)

/-- 'barbicanlaw7.ScalarDoes': WHATEVER THE INPUT: true; the input reads as it did. -/
def scalarDoesSpec : ChangeSpec := { name := "scalarDoes", fn := fun _ => fun
  | [d1, d2, d3, d4, d5, d6, d7, d8, d9] => { results := [.lit (.bool true)], args := [d1, d2, d3, d4, d5, d6, d7, d8, d9] }
  | _ => none }
def scalarDoesRow : OpenClaim := { program := "ytmhiiahfjoijgaagreat", sum := "a0ae5a9cdd9f23a6fd7b23e8160198271ca463bb3aa8d5d88f99ba8c72c2d30b", func := "barbican/barbicanlaw7.ScalarDoes", spec := "scalarDoes", inPlace := ["math/bits.Add64", "math/bits.Sub64"], unfollowed := true, recurses := true, apart := false }
def ScalarDoesSaid : Prop := scalarDoesRow.holds Tryz.pinned (OpenSpec.ofChange scalarDoesSpec)

/-- ITS FALSE NEIGHBOUR: 'it returns false'. Refute it at one input. -/
def scalarDoesWrong : ChangeSpec := { name := "scalarDoes", fn := fun _ => fun
  | [d1, d2, d3, d4, d5, d6, d7, d8, d9] => { results := [.lit (.bool false)], args := [d1, d2, d3, d4, d5, d6, d7, d8, d9] }
  | _ => none }
def ScalarDoesWrongFalsely : Prop := scalarDoesRow.holds Tryz.pinned (OpenSpec.ofChange scalarDoesWrong)

/-- 'barbicanlaw7.ScalarConst': WHATEVER THE INPUT: true; the input reads as it did. -/
def scalarConstSpec : ChangeSpec := { name := "scalarConst", fn := fun _ => fun
  | [d1, d2, d3, d4, d5] => { results := [.lit (.bool true)], args := [d1, d2, d3, d4, d5] }
  | _ => none }
def scalarConstRow : OpenClaim := { program := "ytmhiiahfjoijgaagreat", sum := "a0ae5a9cdd9f23a6fd7b23e8160198271ca463bb3aa8d5d88f99ba8c72c2d30b", func := "barbican/barbicanlaw7.ScalarConst", spec := "scalarConst", inPlace := ["math/bits.Add64", "math/bits.Sub64"], unfollowed := true, recurses := true, apart := false }
def ScalarConstSaid : Prop := scalarConstRow.holds Tryz.pinned (OpenSpec.ofChange scalarConstSpec)

/-- ITS FALSE NEIGHBOUR: 'it returns false'. Refute it at one input. -/
def scalarConstWrong : ChangeSpec := { name := "scalarConst", fn := fun _ => fun
  | [d1, d2, d3, d4, d5] => { results := [.lit (.bool false)], args := [d1, d2, d3, d4, d5] }
  | _ => none }
def ScalarConstWrongFalsely : Prop := scalarConstRow.holds Tryz.pinned (OpenSpec.ofChange scalarConstWrong)

/-- 'barbicanlaw7.ScalarBranches': WHATEVER THE INPUT: true; the input reads as it did. -/
def scalarBranchesSpec : ChangeSpec := { name := "scalarBranches", fn := fun _ => fun
  | [d1, d2, d3, d4, d5, d6, d7] => { results := [.lit (.bool true)], args := [d1, d2, d3, d4, d5, d6, d7] }
  | _ => none }
def scalarBranchesRow : OpenClaim := { program := "ytmhiiahfjoijgaagreat", sum := "a0ae5a9cdd9f23a6fd7b23e8160198271ca463bb3aa8d5d88f99ba8c72c2d30b", func := "barbican/barbicanlaw7.ScalarBranches", spec := "scalarBranches", inPlace := ["math/bits.Add64", "math/bits.Sub64"], unfollowed := true, recurses := true, apart := false }
def ScalarBranchesSaid : Prop := scalarBranchesRow.holds Tryz.pinned (OpenSpec.ofChange scalarBranchesSpec)

/-- ITS FALSE NEIGHBOUR: 'it returns false'. Refute it at one input. -/
def scalarBranchesWrong : ChangeSpec := { name := "scalarBranches", fn := fun _ => fun
  | [d1, d2, d3, d4, d5, d6, d7] => { results := [.lit (.bool false)], args := [d1, d2, d3, d4, d5, d6, d7] }
  | _ => none }
def ScalarBranchesWrongFalsely : Prop := scalarBranchesRow.holds Tryz.pinned (OpenSpec.ofChange scalarBranchesWrong)

/-- 'barbicanlaw7.ScalarTight': WHATEVER THE INPUT: true; the input reads as it did. -/
def scalarTightSpec : ChangeSpec := { name := "scalarTight", fn := fun _ => fun
  | [d1, d2, d3, d4] => { results := [.lit (.bool true)], args := [d1, d2, d3, d4] }
  | _ => none }
def scalarTightRow : OpenClaim := { program := "ytmhiiahfjoijgaagreat", sum := "a0ae5a9cdd9f23a6fd7b23e8160198271ca463bb3aa8d5d88f99ba8c72c2d30b", func := "barbican/barbicanlaw7.ScalarTight", spec := "scalarTight", inPlace := ["math/bits.Add64", "math/bits.Sub64"], unfollowed := true, recurses := true, apart := false }
def ScalarTightSaid : Prop := scalarTightRow.holds Tryz.pinned (OpenSpec.ofChange scalarTightSpec)

/-- ITS FALSE NEIGHBOUR: 'it returns false'. Refute it at one input. -/
def scalarTightWrong : ChangeSpec := { name := "scalarTight", fn := fun _ => fun
  | [d1, d2, d3, d4] => { results := [.lit (.bool false)], args := [d1, d2, d3, d4] }
  | _ => none }
def ScalarTightWrongFalsely : Prop := scalarTightRow.holds Tryz.pinned (OpenSpec.ofChange scalarTightWrong)

/-- 'barbicanlaw7.ScalarMasked': WHATEVER THE INPUT: true; the input reads as it did. -/
def scalarMaskedSpec : ChangeSpec := { name := "scalarMasked", fn := fun _ => fun
  | [d1, d2, d3] => { results := [.lit (.bool true)], args := [d1, d2, d3] }
  | _ => none }
def scalarMaskedRow : OpenClaim := { program := "ytmhiiahfjoijgaagreat", sum := "a0ae5a9cdd9f23a6fd7b23e8160198271ca463bb3aa8d5d88f99ba8c72c2d30b", func := "barbican/barbicanlaw7.ScalarMasked", spec := "scalarMasked", inPlace := ["math/bits.Add64", "math/bits.Sub64"], unfollowed := true, recurses := true, apart := false }
def ScalarMaskedSaid : Prop := scalarMaskedRow.holds Tryz.pinned (OpenSpec.ofChange scalarMaskedSpec)

/-- ITS FALSE NEIGHBOUR: 'it returns false'. Refute it at one input. -/
def scalarMaskedWrong : ChangeSpec := { name := "scalarMasked", fn := fun _ => fun
  | [d1, d2, d3] => { results := [.lit (.bool false)], args := [d1, d2, d3] }
  | _ => none }
def ScalarMaskedWrongFalsely : Prop := scalarMaskedRow.holds Tryz.pinned (OpenSpec.ofChange scalarMaskedWrong)

/-- 'barbicanlaw7.ScalarClosed': WHATEVER THE INPUT: true; the input reads as it did. -/
def scalarClosedSpec : ChangeSpec := { name := "scalarClosed", fn := fun _ => fun
  | [d1, d2, d3] => { results := [.lit (.bool true)], args := [d1, d2, d3] }
  | _ => none }
def scalarClosedRow : OpenClaim := { program := "ytmhiiahfjoijgaagreat", sum := "a0ae5a9cdd9f23a6fd7b23e8160198271ca463bb3aa8d5d88f99ba8c72c2d30b", func := "barbican/barbicanlaw7.ScalarClosed", spec := "scalarClosed", inPlace := ["math/bits.Add64", "math/bits.Sub64"], unfollowed := true, recurses := true, apart := false }
def ScalarClosedSaid : Prop := scalarClosedRow.holds Tryz.pinned (OpenSpec.ofChange scalarClosedSpec)

/-- ITS FALSE NEIGHBOUR: 'it returns false'. Refute it at one input. -/
def scalarClosedWrong : ChangeSpec := { name := "scalarClosed", fn := fun _ => fun
  | [d1, d2, d3] => { results := [.lit (.bool false)], args := [d1, d2, d3] }
  | _ => none }
def ScalarClosedWrongFalsely : Prop := scalarClosedRow.holds Tryz.pinned (OpenSpec.ofChange scalarClosedWrong)

/-- 'barbicanlaw7.ScalarJoins': WHATEVER THE INPUT: true; the input reads as it did. -/
def scalarJoinsSpec : ChangeSpec := { name := "scalarJoins", fn := fun _ => fun
  | [d1, d2, d3] => { results := [.lit (.bool true)], args := [d1, d2, d3] }
  | _ => none }
def scalarJoinsRow : OpenClaim := { program := "ytmhiiahfjoijgaagreat", sum := "a0ae5a9cdd9f23a6fd7b23e8160198271ca463bb3aa8d5d88f99ba8c72c2d30b", func := "barbican/barbicanlaw7.ScalarJoins", spec := "scalarJoins", inPlace := ["math/bits.Add64", "math/bits.Sub64"], unfollowed := true, recurses := true, apart := false }
def ScalarJoinsSaid : Prop := scalarJoinsRow.holds Tryz.pinned (OpenSpec.ofChange scalarJoinsSpec)

/-- ITS FALSE NEIGHBOUR: 'it returns false'. Refute it at one input. -/
def scalarJoinsWrong : ChangeSpec := { name := "scalarJoins", fn := fun _ => fun
  | [d1, d2, d3] => { results := [.lit (.bool false)], args := [d1, d2, d3] }
  | _ => none }
def ScalarJoinsWrongFalsely : Prop := scalarJoinsRow.holds Tryz.pinned (OpenSpec.ofChange scalarJoinsWrong)

/- THE SECOND FORM. 'bulk': how many values and letters a reading holds, each counted each time it is reached (what is shared counts as often as it is met; a slice's spare places count too). A statement '..UptoSaid' is the law's where the arguments, and the package variables that the reading takes, are together of bulk at most 1048576: NARROWER than '..Said'. Prove '..Said' where nothing that the law and all that it calls make is longer than what came in: it says more and counts as full. Else prove '..UptoSaid'. A law counts once. -/
mutual
def uptoBulk {H : Type} : DataW H → Nat
  | .lit (.string bytes) => bytes.length + 1
  | .lit _ => 1
  | .nil => 1
  | .ptr d => uptoBulk d + 1
  | .slice elems spare => uptoBulkAll elems + uptoBulkAll spare + 1
  | .agg parts => uptoBulkAll parts + 1
  | .iface _ d => uptoBulk d + 1
  | .map entries => uptoBulkEntries entries + 1
  | .held _ => 1
def uptoBulkAll {H : Type} : List (DataW H) → Nat
  | [] => 0
  | d :: r => uptoBulk d + uptoBulkAll r
def uptoBulkEntries {H : Type} : List (Lit × DataW H) → Nat
  | [] => 0
  | x :: r => uptoBulkEntry x + uptoBulkEntries r
def uptoBulkEntry {H : Type} : Lit × DataW H → Nat
  | (.string bytes, d) => bytes.length + uptoBulk d + 1
  | (_, d) => uptoBulk d + 1
 end
def uptoSmall : (H : Type) → List (DataW H) → Bool := fun _ ds => decide (uptoBulkAll ds ≤ 1048576)
def OpenSpec.upto (s : _root_.Go.ChangeSpec) : _root_.Go.OpenSpec := { _root_.Go.OpenSpec.ofChange s with cond := some uptoSmall }

/-- 'barbicanlaw7.ScalarMakes', WHERE WHAT IT READS IS OF BULK AT MOST 1048576: true; the input reads as it did. -/
def scalarMakesUptoRow : OpenClaim := { program := "ytmhiiahfjoijgaagreat", sum := "a0ae5a9cdd9f23a6fd7b23e8160198271ca463bb3aa8d5d88f99ba8c72c2d30b", func := "barbican/barbicanlaw7.ScalarMakes", spec := "scalarMakes", inPlace := ["math/bits.Add64", "math/bits.Sub64"], unfollowed := true, recurses := true, apart := false, narrowed := true }
def ScalarMakesUptoSaid : Prop := scalarMakesUptoRow.holds Tryz.pinned (OpenSpec.upto scalarMakesSpec)

/-- 'barbicanlaw7.ScalarDoes', WHERE WHAT IT READS IS OF BULK AT MOST 1048576: true; the input reads as it did. -/
def scalarDoesUptoRow : OpenClaim := { program := "ytmhiiahfjoijgaagreat", sum := "a0ae5a9cdd9f23a6fd7b23e8160198271ca463bb3aa8d5d88f99ba8c72c2d30b", func := "barbican/barbicanlaw7.ScalarDoes", spec := "scalarDoes", inPlace := ["math/bits.Add64", "math/bits.Sub64"], unfollowed := true, recurses := true, apart := false, narrowed := true }
def ScalarDoesUptoSaid : Prop := scalarDoesUptoRow.holds Tryz.pinned (OpenSpec.upto scalarDoesSpec)

/-- 'barbicanlaw7.ScalarConst', WHERE WHAT IT READS IS OF BULK AT MOST 1048576: true; the input reads as it did. -/
def scalarConstUptoRow : OpenClaim := { program := "ytmhiiahfjoijgaagreat", sum := "a0ae5a9cdd9f23a6fd7b23e8160198271ca463bb3aa8d5d88f99ba8c72c2d30b", func := "barbican/barbicanlaw7.ScalarConst", spec := "scalarConst", inPlace := ["math/bits.Add64", "math/bits.Sub64"], unfollowed := true, recurses := true, apart := false, narrowed := true }
def ScalarConstUptoSaid : Prop := scalarConstUptoRow.holds Tryz.pinned (OpenSpec.upto scalarConstSpec)

/-- 'barbicanlaw7.ScalarBranches', WHERE WHAT IT READS IS OF BULK AT MOST 1048576: true; the input reads as it did. -/
def scalarBranchesUptoRow : OpenClaim := { program := "ytmhiiahfjoijgaagreat", sum := "a0ae5a9cdd9f23a6fd7b23e8160198271ca463bb3aa8d5d88f99ba8c72c2d30b", func := "barbican/barbicanlaw7.ScalarBranches", spec := "scalarBranches", inPlace := ["math/bits.Add64", "math/bits.Sub64"], unfollowed := true, recurses := true, apart := false, narrowed := true }
def ScalarBranchesUptoSaid : Prop := scalarBranchesUptoRow.holds Tryz.pinned (OpenSpec.upto scalarBranchesSpec)

/-- 'barbicanlaw7.ScalarTight', WHERE WHAT IT READS IS OF BULK AT MOST 1048576: true; the input reads as it did. -/
def scalarTightUptoRow : OpenClaim := { program := "ytmhiiahfjoijgaagreat", sum := "a0ae5a9cdd9f23a6fd7b23e8160198271ca463bb3aa8d5d88f99ba8c72c2d30b", func := "barbican/barbicanlaw7.ScalarTight", spec := "scalarTight", inPlace := ["math/bits.Add64", "math/bits.Sub64"], unfollowed := true, recurses := true, apart := false, narrowed := true }
def ScalarTightUptoSaid : Prop := scalarTightUptoRow.holds Tryz.pinned (OpenSpec.upto scalarTightSpec)

/-- 'barbicanlaw7.ScalarMasked', WHERE WHAT IT READS IS OF BULK AT MOST 1048576: true; the input reads as it did. -/
def scalarMaskedUptoRow : OpenClaim := { program := "ytmhiiahfjoijgaagreat", sum := "a0ae5a9cdd9f23a6fd7b23e8160198271ca463bb3aa8d5d88f99ba8c72c2d30b", func := "barbican/barbicanlaw7.ScalarMasked", spec := "scalarMasked", inPlace := ["math/bits.Add64", "math/bits.Sub64"], unfollowed := true, recurses := true, apart := false, narrowed := true }
def ScalarMaskedUptoSaid : Prop := scalarMaskedUptoRow.holds Tryz.pinned (OpenSpec.upto scalarMaskedSpec)

/-- 'barbicanlaw7.ScalarClosed', WHERE WHAT IT READS IS OF BULK AT MOST 1048576: true; the input reads as it did. -/
def scalarClosedUptoRow : OpenClaim := { program := "ytmhiiahfjoijgaagreat", sum := "a0ae5a9cdd9f23a6fd7b23e8160198271ca463bb3aa8d5d88f99ba8c72c2d30b", func := "barbican/barbicanlaw7.ScalarClosed", spec := "scalarClosed", inPlace := ["math/bits.Add64", "math/bits.Sub64"], unfollowed := true, recurses := true, apart := false, narrowed := true }
def ScalarClosedUptoSaid : Prop := scalarClosedUptoRow.holds Tryz.pinned (OpenSpec.upto scalarClosedSpec)

/-- 'barbicanlaw7.ScalarJoins', WHERE WHAT IT READS IS OF BULK AT MOST 1048576: true; the input reads as it did. -/
def scalarJoinsUptoRow : OpenClaim := { program := "ytmhiiahfjoijgaagreat", sum := "a0ae5a9cdd9f23a6fd7b23e8160198271ca463bb3aa8d5d88f99ba8c72c2d30b", func := "barbican/barbicanlaw7.ScalarJoins", spec := "scalarJoins", inPlace := ["math/bits.Add64", "math/bits.Sub64"], unfollowed := true, recurses := true, apart := false, narrowed := true }
def ScalarJoinsUptoSaid : Prop := scalarJoinsUptoRow.holds Tryz.pinned (OpenSpec.upto scalarJoinsSpec)

end Rows
end Go.Proofs.YtmhiiahfjoijgaaGreat
