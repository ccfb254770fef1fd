/-
  DERIVED. GIVEN WITH THE SEED: THE CARDS: each row of YtnpfkoegjeokjaaDoorRows.lean that lists a variable, with what it lists TIED to the program's text (the seventh form; the later family's looks); each row that meets fmt, with fmt's text TOLD by the authors' own Lean function (tested against real Go, not proved from fmt's source: count such statements apart). THE CARD IS WHAT COUNTS. Prove the row's statement (the work); the ties are given (YtnpfkoegjeokjaaDoorTie.lean); close each card by the builder's one call (the guide's Derived/Test/ToyasCard.lean, 'card_holds'). Laid BY PROGRAM, IN A SANDBOX (cutbox-door.mjs). By AI agents, Wed Nov 11 2026. No macro, syntax, notation, axiom, sorry.
-/
import Derived.Test.YtnpfkoegjeokjaaDoorRows
import GoSem.ClaimSeven
namespace Go.Proofs.YtnpfkoegjeokjaaDoor
namespace Rows

/-- THE TIED CARD OF 'barbicanlaw4.BtfArrays'. -/
def btfArraysCard : Claim7 := { stood := { row := btfArraysRow, standIns := [], harness := (true, "b9b5b7416fdab3a6bce3ee1067d884e005a1aafa35e96ed25df4e84ea07a36bc"), looks := false }, kinds := [], alts := [], laidByText := true, laidKinds := [.data, .data, .data], laidTests := true, laidLooks := .later }
def BtfArraysCardSaid : Prop := Claim7.holds Tryd.pinned (.plain (OpenSpec.ofChange btfArraysSpec)) btfArraysCard

/-- THE SECOND FORM's CARD OF 'barbicanlaw4.BtfArrays'. -/
def btfArraysUptoCard : Claim7 := { stood := { row := btfArraysUptoRow, standIns := [], harness := (true, "b9b5b7416fdab3a6bce3ee1067d884e005a1aafa35e96ed25df4e84ea07a36bc"), looks := false }, kinds := [], alts := [], laidByText := true, laidKinds := [.data, .data, .data], laidTests := true, laidLooks := .later }
def BtfArraysUptoCardSaid : Prop := Claim7.holds Tryd.pinned (.plain (OpenSpec.upto btfArraysSpec)) btfArraysUptoCard
end Rows
end Go.Proofs.YtnpfkoegjeokjaaDoor
