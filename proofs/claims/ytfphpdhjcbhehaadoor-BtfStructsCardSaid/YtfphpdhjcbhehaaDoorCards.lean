/-
  DERIVED. GIVEN WITH THE SEED: THE CARDS: each row of YtfphpdhjcbhehaaDoorRows.lean that lists a variable, with what it lists TIED to the program's text (the seventh form; the later family's looks); each row that meets fmt, with fmt's text TOLD by the authors' own Lean function (tested against real Go, not proved from fmt's source: count such statements apart). THE CARD IS WHAT COUNTS. Prove the row's statement (the work); the ties are given (YtfphpdhjcbhehaaDoorTie.lean); close each card by the builder's one call (the guide's Derived/Test/ToyasCard.lean, 'card_holds'). Laid BY PROGRAM, IN A SANDBOX (cutbox-door.mjs). By AI agents, Wed Nov 11 2026. No macro, syntax, notation, axiom, sorry.
-/
import Derived.Test.YtfphpdhjcbhehaaDoorRows
import GoSem.ClaimSeven
namespace Go.Proofs.YtfphpdhjcbhehaaDoor
namespace Rows

/-- THE TIED CARD OF 'barbicanlaw4.BtfStructs'. -/
def btfStructsCard : Claim7 := { stood := { row := btfStructsRow, standIns := [], harness := (true, "c06a6930cfb91cd7a2d48db1109556c28a941940c2da79de1ddc4a6154a0c3cc"), looks := false }, kinds := [], alts := [], laidByText := true, laidKinds := [.data, .data, .data], laidTests := true, laidLooks := .later }
def BtfStructsCardSaid : Prop := Claim7.holds Tryd.pinned (.plain (OpenSpec.ofChange btfStructsSpec)) btfStructsCard

/-- THE SECOND FORM's CARD OF 'barbicanlaw4.BtfStructs'. -/
def btfStructsUptoCard : Claim7 := { stood := { row := btfStructsUptoRow, standIns := [], harness := (true, "c06a6930cfb91cd7a2d48db1109556c28a941940c2da79de1ddc4a6154a0c3cc"), looks := false }, kinds := [], alts := [], laidByText := true, laidKinds := [.data, .data, .data], laidTests := true, laidLooks := .later }
def BtfStructsUptoCardSaid : Prop := Claim7.holds Tryd.pinned (.plain (OpenSpec.upto btfStructsSpec)) btfStructsUptoCard
end Rows
end Go.Proofs.YtfphpdhjcbhehaaDoor
