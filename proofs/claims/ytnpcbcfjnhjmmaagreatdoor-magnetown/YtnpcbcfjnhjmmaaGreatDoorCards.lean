/-
  DERIVED. GIVEN WITH THE SEED: THE CARDS: each row of YtnpcbcfjnhjmmaaGreatDoorRows.lean that lists a variable, with what it lists TIED to the program's text (the seventh form; the later family's looks); each row that meets fmt, with fmt's text TOLD by the authors' own Lean function (tested against real Go, not proved from fmt's source: count such statements apart). THE CARD IS WHAT COUNTS. Prove the row's statement (the work); the ties are given (YtnpcbcfjnhjmmaaGreatDoorTie.lean); close each card by the builder's one call (the guide's Derived/Test/ToyasCard.lean, 'card_holds'). Laid BY PROGRAM, IN A SANDBOX (cutbox-door.mjs). By AI agents, Wed Nov 11 2026. No macro, syntax, notation, axiom, sorry.
-/
import Derived.Test.YtnpcbcfjnhjmmaaGreatDoorRows
import GoSem.ClaimSeven
namespace Go.Proofs.YtnpcbcfjnhjmmaaGreatDoor
namespace Rows

/-- THE TIED CARD OF 'torrentlaw22.MagnetOwn'. -/
def magnetOwnCard : Claim7 := { stood := { row := magnetOwnRow, standIns := [], harness := (true, "7adeb4a7a526cb931aa3ea56251dd26a73c8347f0a904be1dc322af9c7d44da6"), looks := true }, kinds := [], alts := [], laidByText := true, laidKinds := [.data, .data, .data, .sentinel, .sentinel, .data], laidTests := true, laidLooks := .later }
def MagnetOwnCardSaid : Prop := Claim7.holds Tryz.pinned (.plain (OpenSpec.ofChange magnetOwnSpec)) magnetOwnCard

/-- THE SECOND FORM's CARD OF 'torrentlaw22.MagnetOwn'. -/
def magnetOwnUptoCard : Claim7 := { stood := { row := magnetOwnUptoRow, standIns := [], harness := (true, "7adeb4a7a526cb931aa3ea56251dd26a73c8347f0a904be1dc322af9c7d44da6"), looks := true }, kinds := [], alts := [], laidByText := true, laidKinds := [.data, .data, .data, .sentinel, .sentinel, .data], laidTests := true, laidLooks := .later }
def MagnetOwnUptoCardSaid : Prop := Claim7.holds Tryz.pinned (.plain (OpenSpec.upto magnetOwnSpec)) magnetOwnUptoCard
end Rows
end Go.Proofs.YtnpcbcfjnhjmmaaGreatDoor
