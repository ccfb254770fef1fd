/-
  No cell of these rows narrows 'for every input' (looked for: loops, veiled, ifaces, maps, wideKeys, modest, calm, conditions, laid).
  DERIVED. THE GIVEN ROWS OF THIS SEAT. 2 by the template 'for every input the law returns true; each argument reads behind the call as it read before'; 0 by the template 'total and deterministic' (their statements: YtjhmmfoomcoadaaGreatTotals.lean).
  GIVEN WITH THE SEED: the statements are not yours to turn. If you find one false, say at which input.
  Laid BY PROGRAM, IN A SANDBOX (cutbox-rows.mjs): the forced cells as the released guide's own fill.sh prints them over the translation 3d97384419f9081c… (all of the seat's roots in one cut). By AI agents, Wed Nov 11 2026. No macro, syntax, notation, axiom, sorry.
-/
import Derived.Test.YtjhmmfoomcoadaaGreatChecked
import GoSem.Claim
import GoSem.ClaimJoined
import GoSem.ClaimMapViews
import Derived.JoinedTies
import Derived.KernelRfl
namespace Go.Proofs.YtjhmmfoomcoadaaGreat
/- THE CELL 'sum', in the pinned program and in every row, IS THE sha256 OF THE DUMP (.gsa) THAT YtjhmmfoomcoadaaGreatProg.lean LOADS. Nothing in Lean hashes anything: it is a label: what it is worth is what the hold of that sum in a sandbox is worth. -/
noncomputable def Tryz.pinned : Pinned := { name := "ytjhmmfoomcoadaagreat", sum := "3d97384419f9081ce4e440c7d9685f08a6aad37cb4a47e17b5bd066126e71df7", checked := Tryz.checked }
namespace Rows
def none {H : Type} : Left H := { results := [], args := [] }

/-- 'barbicanlaw14.VmTraps': WHATEVER THE INPUT: true; the input reads as it did. -/
def vmTrapsSpec : ChangeSpec := { name := "vmTraps", fn := fun _ => fun
  | [d] => { results := [.lit (.bool true)], args := [d] }
  | _ => none }
def vmTrapsRow : OpenClaim := { program := "ytjhmmfoomcoadaagreat", sum := "3d97384419f9081ce4e440c7d9685f08a6aad37cb4a47e17b5bd066126e71df7", func := "barbican/barbicanlaw14.VmTraps", spec := "vmTraps", unfollowed := true, recurses := true, plainKeys := false, apart := false }
def VmTrapsSaid : Prop := vmTrapsRow.holds Tryz.pinned (OpenSpec.ofChange vmTrapsSpec)

/-- ITS FALSE NEIGHBOUR: 'it returns false'. Refute it at one input. -/
def vmTrapsWrong : ChangeSpec := { name := "vmTraps", fn := fun _ => fun
  | [d] => { results := [.lit (.bool false)], args := [d] }
  | _ => none }
def VmTrapsWrongFalsely : Prop := vmTrapsRow.holds Tryz.pinned (OpenSpec.ofChange vmTrapsWrong)

/-- 'barbicanlaw14.VmReckons': WHATEVER THE INPUT: true; the input reads as it did. -/
def vmReckonsSpec : ChangeSpec := { name := "vmReckons", fn := fun _ => fun
  | [d1, d2, d3, d4, d5] => { results := [.lit (.bool true)], args := [d1, d2, d3, d4, d5] }
  | _ => none }
def vmReckonsRow : OpenClaim := { program := "ytjhmmfoomcoadaagreat", sum := "3d97384419f9081ce4e440c7d9685f08a6aad37cb4a47e17b5bd066126e71df7", func := "barbican/barbicanlaw14.VmReckons", spec := "vmReckons", unfollowed := true, recurses := true, plainKeys := false, apart := false }
def VmReckonsSaid : Prop := vmReckonsRow.holds Tryz.pinned (OpenSpec.ofChange vmReckonsSpec)

/-- ITS FALSE NEIGHBOUR: 'it returns false'. Refute it at one input. -/
def vmReckonsWrong : ChangeSpec := { name := "vmReckons", fn := fun _ => fun
  | [d1, d2, d3, d4, d5] => { results := [.lit (.bool false)], args := [d1, d2, d3, d4, d5] }
  | _ => none }
def VmReckonsWrongFalsely : Prop := vmReckonsRow.holds Tryz.pinned (OpenSpec.ofChange vmReckonsWrong)

/- THE SECOND FORM. 'bulk': how many values and letters a reading holds, each counted each time it is reached (what is shared counts as often as it is met; a slice's spare places count too). A statement '..UptoSaid' is the law's where the arguments, and the package variables that the reading takes, are together of bulk at most 1048576: NARROWER than '..Said'. Prove '..Said' where nothing that the law and all that it calls make is longer than what came in: it says more and counts as full. Else prove '..UptoSaid'. A law counts once. -/
mutual
def uptoBulk {H : Type} : DataW H → Nat
  | .lit (.string bytes) => bytes.length + 1
  | .lit _ => 1
  | .nil => 1
  | .ptr d => uptoBulk d + 1
  | .slice elems spare => uptoBulkAll elems + uptoBulkAll spare + 1
  | .agg parts => uptoBulkAll parts + 1
  | .iface _ d => uptoBulk d + 1
  | .map entries => uptoBulkEntries entries + 1
  | .held _ => 1
def uptoBulkAll {H : Type} : List (DataW H) → Nat
  | [] => 0
  | d :: r => uptoBulk d + uptoBulkAll r
def uptoBulkEntries {H : Type} : List (Lit × DataW H) → Nat
  | [] => 0
  | x :: r => uptoBulkEntry x + uptoBulkEntries r
def uptoBulkEntry {H : Type} : Lit × DataW H → Nat
  | (.string bytes, d) => bytes.length + uptoBulk d + 1
  | (_, d) => uptoBulk d + 1
 end
def uptoSmall : (H : Type) → List (DataW H) → Bool := fun _ ds => decide (uptoBulkAll ds ≤ 1048576)
def OpenSpec.upto (s : _root_.Go.ChangeSpec) : _root_.Go.OpenSpec := { _root_.Go.OpenSpec.ofChange s with cond := some uptoSmall }

/-- 'barbicanlaw14.VmTraps', WHERE WHAT IT READS IS OF BULK AT MOST 1048576: true; the input reads as it did. -/
def vmTrapsUptoRow : OpenClaim := { program := "ytjhmmfoomcoadaagreat", sum := "3d97384419f9081ce4e440c7d9685f08a6aad37cb4a47e17b5bd066126e71df7", func := "barbican/barbicanlaw14.VmTraps", spec := "vmTraps", unfollowed := true, recurses := true, plainKeys := false, apart := false, narrowed := true }
def VmTrapsUptoSaid : Prop := vmTrapsUptoRow.holds Tryz.pinned (OpenSpec.upto vmTrapsSpec)

/-- 'barbicanlaw14.VmReckons', WHERE WHAT IT READS IS OF BULK AT MOST 1048576: true; the input reads as it did. -/
def vmReckonsUptoRow : OpenClaim := { program := "ytjhmmfoomcoadaagreat", sum := "3d97384419f9081ce4e440c7d9685f08a6aad37cb4a47e17b5bd066126e71df7", func := "barbican/barbicanlaw14.VmReckons", spec := "vmReckons", unfollowed := true, recurses := true, plainKeys := false, apart := false, narrowed := true }
def VmReckonsUptoSaid : Prop := vmReckonsUptoRow.holds Tryz.pinned (OpenSpec.upto vmReckonsSpec)

end Rows
end Go.Proofs.YtjhmmfoomcoadaaGreat
