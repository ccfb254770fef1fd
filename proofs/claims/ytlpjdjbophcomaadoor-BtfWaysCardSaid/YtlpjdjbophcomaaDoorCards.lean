/-
  DERIVED. GIVEN WITH THE SEED: THE CARDS: each row of YtlpjdjbophcomaaDoorRows.lean that lists a variable, with what it lists TIED to the program's text (the seventh form; the later family's looks); each row that meets fmt, with fmt's text TOLD by the authors' own Lean function (tested against real Go, not proved from fmt's source: count such statements apart). THE CARD IS WHAT COUNTS. Prove the row's statement (the work); the ties are given (YtlpjdjbophcomaaDoorTie.lean); close each card by the builder's one call (the guide's Derived/Test/ToyasCard.lean, 'card_holds'). Laid BY PROGRAM, IN A SANDBOX (cutbox-door.mjs). By AI agents, Wed Nov 11 2026. No macro, syntax, notation, axiom, sorry.
-/
import Derived.Test.YtlpjdjbophcomaaDoorRows
import GoSem.ClaimSeven
namespace Go.Proofs.YtlpjdjbophcomaaDoor
namespace Rows

/-- THE TIED CARD OF 'barbicanlaw4.BtfWays'. -/
def btfWaysCard : Claim7 := { stood := { row := btfWaysRow, standIns := [], harness := (true, "b3389f1a76bd5562f5e73255a30a2c46c1949eef3685fdd6190b90ebcd1bb507"), looks := false }, kinds := [], alts := [], laidByText := true, laidKinds := [.data, .data, .data], laidTests := true, laidLooks := .later }
def BtfWaysCardSaid : Prop := Claim7.holds Tryd.pinned (.plain (OpenSpec.ofChange btfWaysSpec)) btfWaysCard

/-- THE SECOND FORM's CARD OF 'barbicanlaw4.BtfWays'. -/
def btfWaysUptoCard : Claim7 := { stood := { row := btfWaysUptoRow, standIns := [], harness := (true, "b3389f1a76bd5562f5e73255a30a2c46c1949eef3685fdd6190b90ebcd1bb507"), looks := false }, kinds := [], alts := [], laidByText := true, laidKinds := [.data, .data, .data], laidTests := true, laidLooks := .later }
def BtfWaysUptoCardSaid : Prop := Claim7.holds Tryd.pinned (.plain (OpenSpec.upto btfWaysSpec)) btfWaysUptoCard
end Rows
end Go.Proofs.YtlpjdjbophcomaaDoor
