/-
  DERIVED. GIVEN WITH THE SEED: THE CARDS: each row of YtchgkfmmeaemnaaGreatDoorRows.lean that lists a variable, with what it lists TIED to the program's text (the seventh form; the later family's looks); each row that meets fmt, with fmt's text TOLD by the authors' own Lean function (tested against real Go, not proved from fmt's source: count such statements apart). THE CARD IS WHAT COUNTS. Prove the row's statement (the work); the ties are given (YtchgkfmmeaemnaaGreatDoorTie.lean); close each card by the builder's one call (the guide's Derived/Test/ToyasCard.lean, 'card_holds'). Laid BY PROGRAM, IN A SANDBOX (cutbox-door.mjs). By AI agents, Wed Nov 11 2026. No macro, syntax, notation, axiom, sorry.
-/
import Derived.Test.YtchgkfmmeaemnaaGreatDoorRows
import GoSem.ClaimSeven
namespace Go.Proofs.YtchgkfmmeaemnaaGreatDoor
namespace Rows

/-- THE TIED CARD OF 'torrentlaw22.MagnetTwoWay'. -/
def magnetTwoWayCard : Claim7 := { stood := { row := magnetTwoWayRow, standIns := [], harness := (true, "da03a4c6316359611f5f724334b56956a6065f5cb630ebe406a14fd341c03792"), looks := true }, kinds := [], alts := [], laidByText := true, laidKinds := [.data, .data, .data, .sentinel, .sentinel, .data], laidTests := true, laidLooks := .later }
def MagnetTwoWayCardSaid : Prop := Claim7.holds Tryz.pinned (.plain (OpenSpec.ofChange magnetTwoWaySpec)) magnetTwoWayCard

/-- THE TIED CARD OF 'torrentlaw22.MagnetBack'. -/
def magnetBackCard : Claim7 := { stood := { row := magnetBackRow, standIns := [], harness := (true, "da03a4c6316359611f5f724334b56956a6065f5cb630ebe406a14fd341c03792"), looks := true }, kinds := [], alts := [], laidByText := true, laidKinds := [.data, .data, .data, .sentinel, .sentinel, .data], laidTests := true, laidLooks := .later }
def MagnetBackCardSaid : Prop := Claim7.holds Tryz.pinned (.plain (OpenSpec.ofChange magnetBackSpec)) magnetBackCard

/-- THE SECOND FORM's CARD OF 'torrentlaw22.MagnetTwoWay'. -/
def magnetTwoWayUptoCard : Claim7 := { stood := { row := magnetTwoWayUptoRow, standIns := [], harness := (true, "da03a4c6316359611f5f724334b56956a6065f5cb630ebe406a14fd341c03792"), looks := true }, kinds := [], alts := [], laidByText := true, laidKinds := [.data, .data, .data, .sentinel, .sentinel, .data], laidTests := true, laidLooks := .later }
def MagnetTwoWayUptoCardSaid : Prop := Claim7.holds Tryz.pinned (.plain (OpenSpec.upto magnetTwoWaySpec)) magnetTwoWayUptoCard

/-- THE SECOND FORM's CARD OF 'torrentlaw22.MagnetBack'. -/
def magnetBackUptoCard : Claim7 := { stood := { row := magnetBackUptoRow, standIns := [], harness := (true, "da03a4c6316359611f5f724334b56956a6065f5cb630ebe406a14fd341c03792"), looks := true }, kinds := [], alts := [], laidByText := true, laidKinds := [.data, .data, .data, .sentinel, .sentinel, .data], laidTests := true, laidLooks := .later }
def MagnetBackUptoCardSaid : Prop := Claim7.holds Tryz.pinned (.plain (OpenSpec.upto magnetBackSpec)) magnetBackUptoCard
end Rows
end Go.Proofs.YtchgkfmmeaemnaaGreatDoor
