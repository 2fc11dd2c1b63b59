/-
  DERIVED. GIVEN WITH THE SEED: THE CARDS: each row of YtofjohmnijnjmaaGreatDoorRows.lean that lists a variable, with what it lists TIED to the program's text (the seventh form; the later family's looks); each row that meets fmt, with fmt's text TOLD by the authors' own Lean function (tested against real Go, not proved from fmt's source: count such statements apart). THE CARD IS WHAT COUNTS. Prove the row's statement (the work); the ties are given (YtofjohmnijnjmaaGreatDoorTie.lean); close each card by the builder's one call (the guide's Derived/Test/ToyasCard.lean, 'card_holds'). Laid BY PROGRAM, IN A SANDBOX (cutbox-door.mjs). By AI agents, Wed Nov 11 2026. No macro, syntax, notation, axiom, sorry.
-/
import Derived.Test.YtofjohmnijnjmaaGreatDoorRows
import GoSem.ClaimSeven
namespace Go.Proofs.YtofjohmnijnjmaaGreatDoor
namespace Rows

/-- THE TIED CARD OF 'torrentlaw22.MagnetTwoWay'. -/
def magnetTwoWayCard : Claim7 := { stood := { row := magnetTwoWayRow, standIns := [], harness := (true, "ceef266550c69461047b43e0f2a8131f6f808d8e2525fdb34e9a088a62dd6f29"), looks := true }, kinds := [], alts := [], laidByText := true, laidKinds := [.data, .data, .data, .sentinel, .sentinel, .data], laidTests := true, laidLooks := .later }
def MagnetTwoWayCardSaid : Prop := Claim7.holds Tryz.pinned (.plain (OpenSpec.ofChange magnetTwoWaySpec)) magnetTwoWayCard

/-- THE TIED CARD OF 'torrentlaw22.MagnetBack'. -/
def magnetBackCard : Claim7 := { stood := { row := magnetBackRow, standIns := [], harness := (true, "ceef266550c69461047b43e0f2a8131f6f808d8e2525fdb34e9a088a62dd6f29"), looks := true }, kinds := [], alts := [], laidByText := true, laidKinds := [.data, .data, .data, .sentinel, .sentinel, .data], laidTests := true, laidLooks := .later }
def MagnetBackCardSaid : Prop := Claim7.holds Tryz.pinned (.plain (OpenSpec.ofChange magnetBackSpec)) magnetBackCard

/-- THE TIED CARD OF 'torrentlaw22.MagnetSigns'. -/
def magnetSignsCard : Claim7 := { stood := { row := magnetSignsRow, standIns := [], harness := (true, "ceef266550c69461047b43e0f2a8131f6f808d8e2525fdb34e9a088a62dd6f29"), looks := true }, kinds := [], alts := [], laidByText := true, laidKinds := [.data, .data, .data, .sentinel, .sentinel, .data], laidTests := true, laidLooks := .later }
def MagnetSignsCardSaid : Prop := Claim7.holds Tryz.pinned (.plain (OpenSpec.ofChange magnetSignsSpec)) magnetSignsCard

/-- THE TIED CARD OF 'torrentlaw22.MagnetOnly'. -/
def magnetOnlyCard : Claim7 := { stood := { row := magnetOnlyRow, standIns := [], harness := (true, "ceef266550c69461047b43e0f2a8131f6f808d8e2525fdb34e9a088a62dd6f29"), looks := true }, kinds := [], alts := [], laidByText := true, laidKinds := [.data, .data, .data, .sentinel, .sentinel, .data], laidTests := true, laidLooks := .later }
def MagnetOnlyCardSaid : Prop := Claim7.holds Tryz.pinned (.plain (OpenSpec.ofChange magnetOnlySpec)) magnetOnlyCard

/-- THE SECOND FORM's CARD OF 'torrentlaw22.MagnetTwoWay'. -/
def magnetTwoWayUptoCard : Claim7 := { stood := { row := magnetTwoWayUptoRow, standIns := [], harness := (true, "ceef266550c69461047b43e0f2a8131f6f808d8e2525fdb34e9a088a62dd6f29"), looks := true }, kinds := [], alts := [], laidByText := true, laidKinds := [.data, .data, .data, .sentinel, .sentinel, .data], laidTests := true, laidLooks := .later }
def MagnetTwoWayUptoCardSaid : Prop := Claim7.holds Tryz.pinned (.plain (OpenSpec.upto magnetTwoWaySpec)) magnetTwoWayUptoCard

/-- THE SECOND FORM's CARD OF 'torrentlaw22.MagnetBack'. -/
def magnetBackUptoCard : Claim7 := { stood := { row := magnetBackUptoRow, standIns := [], harness := (true, "ceef266550c69461047b43e0f2a8131f6f808d8e2525fdb34e9a088a62dd6f29"), looks := true }, kinds := [], alts := [], laidByText := true, laidKinds := [.data, .data, .data, .sentinel, .sentinel, .data], laidTests := true, laidLooks := .later }
def MagnetBackUptoCardSaid : Prop := Claim7.holds Tryz.pinned (.plain (OpenSpec.upto magnetBackSpec)) magnetBackUptoCard

/-- THE SECOND FORM's CARD OF 'torrentlaw22.MagnetSigns'. -/
def magnetSignsUptoCard : Claim7 := { stood := { row := magnetSignsUptoRow, standIns := [], harness := (true, "ceef266550c69461047b43e0f2a8131f6f808d8e2525fdb34e9a088a62dd6f29"), looks := true }, kinds := [], alts := [], laidByText := true, laidKinds := [.data, .data, .data, .sentinel, .sentinel, .data], laidTests := true, laidLooks := .later }
def MagnetSignsUptoCardSaid : Prop := Claim7.holds Tryz.pinned (.plain (OpenSpec.upto magnetSignsSpec)) magnetSignsUptoCard

/-- THE SECOND FORM's CARD OF 'torrentlaw22.MagnetOnly'. -/
def magnetOnlyUptoCard : Claim7 := { stood := { row := magnetOnlyUptoRow, standIns := [], harness := (true, "ceef266550c69461047b43e0f2a8131f6f808d8e2525fdb34e9a088a62dd6f29"), looks := true }, kinds := [], alts := [], laidByText := true, laidKinds := [.data, .data, .data, .sentinel, .sentinel, .data], laidTests := true, laidLooks := .later }
def MagnetOnlyUptoCardSaid : Prop := Claim7.holds Tryz.pinned (.plain (OpenSpec.upto magnetOnlySpec)) magnetOnlyUptoCard
end Rows
end Go.Proofs.YtofjohmnijnjmaaGreatDoor
