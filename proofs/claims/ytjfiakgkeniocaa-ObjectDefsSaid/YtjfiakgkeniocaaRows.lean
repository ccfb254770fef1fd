/-
  No cell of these rows narrows 'for every input' (looked for: loops, veiled, ifaces, maps, wideKeys, modest, calm, conditions, laid).
  DERIVED. THE GIVEN ROWS OF THIS SEAT. 4 by the template 'for every input the law returns true; each argument reads behind the call as it read before'; 0 by the template 'total and deterministic' (their statements: YtjfiakgkeniocaaTotals.lean).
  GIVEN WITH THE SEED: the statements are not yours to turn. If you find one false, say at which input.
  Laid BY PROGRAM, IN A SANDBOX (cutbox-rows.mjs): the forced cells as the released guide's own fill.sh prints them over the translation ec7231c28ada742b… (all of the seat's roots in one cut). By AI agents, Wed Nov 11 2026. No macro, syntax, notation, axiom, sorry.
-/
import Derived.Test.YtjfiakgkeniocaaChecked
import GoSem.Claim
import GoSem.ClaimJoined
import GoSem.ClaimMapViews
import Derived.JoinedTies
import Derived.KernelRfl
namespace Go.Proofs.Ytjfiakgkeniocaa
/- THE CELL 'sum', in the pinned program and in every row, IS THE sha256 OF THE DUMP (.gsa) THAT YtjfiakgkeniocaaProg.lean LOADS. Nothing in Lean hashes anything: it is a label: what it is worth is what the hold of that sum in a sandbox is worth. -/
noncomputable def Try.pinned : Pinned := { name := "ytjfiakgkeniocaa", sum := "ec7231c28ada742bd306a5c0b5f9aded59d7794310fd3d2116083ac09fa0f7bb", checked := Try.checked }
namespace Rows
def none {H : Type} : Left H := { results := [], args := [] }

/-- 'barbicanlaw16.LiveStraight': WHATEVER THE INPUT: true; the input reads as it did. -/
def liveStraightSpec : ChangeSpec := { name := "liveStraight", fn := fun _ => fun
  | [d] => { results := [.lit (.bool true)], args := [d] }
  | _ => none }
def liveStraightRow : OpenClaim := { program := "ytjfiakgkeniocaa", sum := "ec7231c28ada742bd306a5c0b5f9aded59d7794310fd3d2116083ac09fa0f7bb", func := "barbican/barbicanlaw16.LiveStraight", spec := "liveStraight", unfollowed := true, recurses := true, plainKeys := false, apart := false }
def LiveStraightSaid : Prop := liveStraightRow.holds Try.pinned (OpenSpec.ofChange liveStraightSpec)

/-- ITS FALSE NEIGHBOUR: 'it returns false'. Refute it at one input. -/
def liveStraightWrong : ChangeSpec := { name := "liveStraight", fn := fun _ => fun
  | [d] => { results := [.lit (.bool false)], args := [d] }
  | _ => none }
def LiveStraightWrongFalsely : Prop := liveStraightRow.holds Try.pinned (OpenSpec.ofChange liveStraightWrong)

/-- 'barbicanlaw16.LiveChain': WHATEVER THE INPUT: true; the input reads as it did. -/
def liveChainSpec : ChangeSpec := { name := "liveChain", fn := fun _ => fun
  | [d] => { results := [.lit (.bool true)], args := [d] }
  | _ => none }
def liveChainRow : OpenClaim := { program := "ytjfiakgkeniocaa", sum := "ec7231c28ada742bd306a5c0b5f9aded59d7794310fd3d2116083ac09fa0f7bb", func := "barbican/barbicanlaw16.LiveChain", spec := "liveChain", unfollowed := true, recurses := true, plainKeys := false, apart := false }
def LiveChainSaid : Prop := liveChainRow.holds Try.pinned (OpenSpec.ofChange liveChainSpec)

/-- ITS FALSE NEIGHBOUR: 'it returns false'. Refute it at one input. -/
def liveChainWrong : ChangeSpec := { name := "liveChain", fn := fun _ => fun
  | [d] => { results := [.lit (.bool false)], args := [d] }
  | _ => none }
def LiveChainWrongFalsely : Prop := liveChainRow.holds Try.pinned (OpenSpec.ofChange liveChainWrong)

/-- 'barbicanlaw5.ObjectDefs': WHATEVER THE INPUT: true; the input reads as it did. -/
def objectDefsSpec : ChangeSpec := { name := "objectDefs", fn := fun _ => fun
  | [d1, d2, d3, d4, d5] => { results := [.lit (.bool true)], args := [d1, d2, d3, d4, d5] }
  | _ => none }
def objectDefsRow : OpenClaim := { program := "ytjfiakgkeniocaa", sum := "ec7231c28ada742bd306a5c0b5f9aded59d7794310fd3d2116083ac09fa0f7bb", func := "barbican/barbicanlaw5.ObjectDefs", spec := "objectDefs", unfollowed := true, recurses := true, plainKeys := false, apart := false }
def ObjectDefsSaid : Prop := objectDefsRow.holds Try.pinned (OpenSpec.ofChange objectDefsSpec)

/-- ITS FALSE NEIGHBOUR: 'it returns false'. Refute it at one input. -/
def objectDefsWrong : ChangeSpec := { name := "objectDefs", fn := fun _ => fun
  | [d1, d2, d3, d4, d5] => { results := [.lit (.bool false)], args := [d1, d2, d3, d4, d5] }
  | _ => none }
def ObjectDefsWrongFalsely : Prop := objectDefsRow.holds Try.pinned (OpenSpec.ofChange objectDefsWrong)

/-- 'barbicanlaw5.ObjectMany': WHATEVER THE INPUT: true; the input reads as it did. -/
def objectManySpec : ChangeSpec := { name := "objectMany", fn := fun _ => fun
  | [d1, d2, d3] => { results := [.lit (.bool true)], args := [d1, d2, d3] }
  | _ => none }
def objectManyRow : OpenClaim := { program := "ytjfiakgkeniocaa", sum := "ec7231c28ada742bd306a5c0b5f9aded59d7794310fd3d2116083ac09fa0f7bb", func := "barbican/barbicanlaw5.ObjectMany", spec := "objectMany", unfollowed := true, recurses := true, plainKeys := false, apart := false }
def ObjectManySaid : Prop := objectManyRow.holds Try.pinned (OpenSpec.ofChange objectManySpec)

/-- ITS FALSE NEIGHBOUR: 'it returns false'. Refute it at one input. -/
def objectManyWrong : ChangeSpec := { name := "objectMany", fn := fun _ => fun
  | [d1, d2, d3] => { results := [.lit (.bool false)], args := [d1, d2, d3] }
  | _ => none }
def ObjectManyWrongFalsely : Prop := objectManyRow.holds Try.pinned (OpenSpec.ofChange objectManyWrong)

/- THE SECOND FORM. 'bulk': how many values and letters a reading holds, each counted each time it is reached (what is shared counts as often as it is met; a slice's spare places count too). A statement '..UptoSaid' is the law's where the arguments, and the package variables that the reading takes, are together of bulk at most 1048576: NARROWER than '..Said'. Prove '..Said' where nothing that the law and all that it calls make is longer than what came in: it says more and counts as full. Else prove '..UptoSaid'. A law counts once. -/
mutual
def uptoBulk {H : Type} : DataW H → Nat
  | .lit (.string bytes) => bytes.length + 1
  | .lit _ => 1
  | .nil => 1
  | .ptr d => uptoBulk d + 1
  | .slice elems spare => uptoBulkAll elems + uptoBulkAll spare + 1
  | .agg parts => uptoBulkAll parts + 1
  | .iface _ d => uptoBulk d + 1
  | .map entries => uptoBulkEntries entries + 1
  | .held _ => 1
def uptoBulkAll {H : Type} : List (DataW H) → Nat
  | [] => 0
  | d :: r => uptoBulk d + uptoBulkAll r
def uptoBulkEntries {H : Type} : List (Lit × DataW H) → Nat
  | [] => 0
  | x :: r => uptoBulkEntry x + uptoBulkEntries r
def uptoBulkEntry {H : Type} : Lit × DataW H → Nat
  | (.string bytes, d) => bytes.length + uptoBulk d + 1
  | (_, d) => uptoBulk d + 1
 end
def uptoSmall : (H : Type) → List (DataW H) → Bool := fun _ ds => decide (uptoBulkAll ds ≤ 1048576)
def OpenSpec.upto (s : _root_.Go.ChangeSpec) : _root_.Go.OpenSpec := { _root_.Go.OpenSpec.ofChange s with cond := some uptoSmall }

/-- 'barbicanlaw16.LiveStraight', WHERE WHAT IT READS IS OF BULK AT MOST 1048576: true; the input reads as it did. -/
def liveStraightUptoRow : OpenClaim := { program := "ytjfiakgkeniocaa", sum := "ec7231c28ada742bd306a5c0b5f9aded59d7794310fd3d2116083ac09fa0f7bb", func := "barbican/barbicanlaw16.LiveStraight", spec := "liveStraight", unfollowed := true, recurses := true, plainKeys := false, apart := false, narrowed := true }
def LiveStraightUptoSaid : Prop := liveStraightUptoRow.holds Try.pinned (OpenSpec.upto liveStraightSpec)

/-- 'barbicanlaw16.LiveChain', WHERE WHAT IT READS IS OF BULK AT MOST 1048576: true; the input reads as it did. -/
def liveChainUptoRow : OpenClaim := { program := "ytjfiakgkeniocaa", sum := "ec7231c28ada742bd306a5c0b5f9aded59d7794310fd3d2116083ac09fa0f7bb", func := "barbican/barbicanlaw16.LiveChain", spec := "liveChain", unfollowed := true, recurses := true, plainKeys := false, apart := false, narrowed := true }
def LiveChainUptoSaid : Prop := liveChainUptoRow.holds Try.pinned (OpenSpec.upto liveChainSpec)

/-- 'barbicanlaw5.ObjectDefs', WHERE WHAT IT READS IS OF BULK AT MOST 1048576: true; the input reads as it did. -/
def objectDefsUptoRow : OpenClaim := { program := "ytjfiakgkeniocaa", sum := "ec7231c28ada742bd306a5c0b5f9aded59d7794310fd3d2116083ac09fa0f7bb", func := "barbican/barbicanlaw5.ObjectDefs", spec := "objectDefs", unfollowed := true, recurses := true, plainKeys := false, apart := false, narrowed := true }
def ObjectDefsUptoSaid : Prop := objectDefsUptoRow.holds Try.pinned (OpenSpec.upto objectDefsSpec)

/-- 'barbicanlaw5.ObjectMany', WHERE WHAT IT READS IS OF BULK AT MOST 1048576: true; the input reads as it did. -/
def objectManyUptoRow : OpenClaim := { program := "ytjfiakgkeniocaa", sum := "ec7231c28ada742bd306a5c0b5f9aded59d7794310fd3d2116083ac09fa0f7bb", func := "barbican/barbicanlaw5.ObjectMany", spec := "objectMany", unfollowed := true, recurses := true, plainKeys := false, apart := false, narrowed := true }
def ObjectManyUptoSaid : Prop := objectManyUptoRow.holds Try.pinned (OpenSpec.upto objectManySpec)

end Rows
end Go.Proofs.Ytjfiakgkeniocaa
