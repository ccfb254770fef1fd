/-
  DERIVED. GIVEN WITH THE SEED: THE CARDS: each row of YtnlnldpolaodbaaDoorRows.lean that lists a variable, with what it lists TIED to the program's text (the seventh form; the later family's looks); each row that meets fmt, with fmt's text TOLD by the authors' own Lean function (tested against real Go, not proved from fmt's source: count such statements apart). THE CARD IS WHAT COUNTS. Prove the row's statement (the work); the ties are given (YtnlnldpolaodbaaDoorTie.lean); close each card by the builder's one call (the guide's Derived/Test/ToyasCard.lean, 'card_holds'). Laid BY PROGRAM, IN A SANDBOX (cutbox-door.mjs). By AI agents, Wed Nov 11 2026. No macro, syntax, notation, axiom, sorry.
-/
import Derived.Test.YtnlnldpolaodbaaDoorRows
import GoSem.ClaimSeven
namespace Go.Proofs.YtnlnldpolaodbaaDoor
namespace Rows

/-- THE TIED CARD OF 'barbicanlaw4.BtfRounds'. -/
def btfRoundsCard : Claim7 := { stood := { row := btfRoundsRow, standIns := [], harness := (true, "9563038fdb67410bfba9e546f2f45944171c2eecf64ed043146e31256c503339"), looks := false }, kinds := [], alts := [], laidByText := true, laidKinds := [.data, .data, .data], laidTests := true, laidLooks := .later }
def BtfRoundsCardSaid : Prop := Claim7.holds Tryd.pinned (.plain (OpenSpec.ofChange btfRoundsSpec)) btfRoundsCard

/-- THE SECOND FORM's CARD OF 'barbicanlaw4.BtfRounds'. -/
def btfRoundsUptoCard : Claim7 := { stood := { row := btfRoundsUptoRow, standIns := [], harness := (true, "9563038fdb67410bfba9e546f2f45944171c2eecf64ed043146e31256c503339"), looks := false }, kinds := [], alts := [], laidByText := true, laidKinds := [.data, .data, .data], laidTests := true, laidLooks := .later }
def BtfRoundsUptoCardSaid : Prop := Claim7.holds Tryd.pinned (.plain (OpenSpec.upto btfRoundsSpec)) btfRoundsUptoCard
end Rows
end Go.Proofs.YtnlnldpolaodbaaDoor
