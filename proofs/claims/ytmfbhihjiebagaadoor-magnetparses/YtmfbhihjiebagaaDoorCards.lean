/-
  DERIVED. GIVEN WITH THE SEED: THE CARDS: each row of YtmfbhihjiebagaaDoorRows.lean that lists a variable, with what it lists TIED to the program's text (the seventh form; the later family's looks); each row that meets fmt, with fmt's text TOLD by the authors' own Lean function (tested against real Go, not proved from fmt's source: count such statements apart). THE CARD IS WHAT COUNTS. Prove the row's statement (the work); the ties are given (YtmfbhihjiebagaaDoorTie.lean); close each card by the builder's one call (the guide's Derived/Test/ToyasCard.lean, 'card_holds'). Laid BY PROGRAM, IN A SANDBOX (cutbox-door.mjs). By AI agents, Wed Nov 11 2026. No macro, syntax, notation, axiom, sorry.
-/
import Derived.Test.YtmfbhihjiebagaaDoorRows
import GoSem.ClaimSeven
namespace Go.Proofs.YtmfbhihjiebagaaDoor
namespace Rows

/-- THE TIED CARD OF 'torrentlaw22.MagnetParses'. -/
def magnetParsesCard : Claim7 := { stood := { row := magnetParsesRow, standIns := [], harness := (true, "6ef6203cc7367ca2c8e371632a23953aa38624262d3fbda905304e4eb438fc64"), looks := true }, kinds := [], alts := [], laidByText := true, laidKinds := [.data, .data, .data, .sentinel, .sentinel, .data], laidTests := true, laidLooks := .later }
def MagnetParsesCardSaid : Prop := Claim7.holds Tryd.pinned (.plain (OpenSpec.ofChange magnetParsesSpec)) magnetParsesCard

/-- THE SECOND FORM's CARD OF 'torrentlaw22.MagnetParses'. -/
def magnetParsesUptoCard : Claim7 := { stood := { row := magnetParsesUptoRow, standIns := [], harness := (true, "6ef6203cc7367ca2c8e371632a23953aa38624262d3fbda905304e4eb438fc64"), looks := true }, kinds := [], alts := [], laidByText := true, laidKinds := [.data, .data, .data, .sentinel, .sentinel, .data], laidTests := true, laidLooks := .later }
def MagnetParsesUptoCardSaid : Prop := Claim7.holds Tryd.pinned (.plain (OpenSpec.upto magnetParsesSpec)) magnetParsesUptoCard
end Rows
end Go.Proofs.YtmfbhihjiebagaaDoor
