/-
  DERIVED. GIVEN WITH THE SEED: THE CARDS: each row of YtjfgpplomldeiaaGreatDoorRows.lean that lists a variable, with what it lists TIED to the program's text (the seventh form; the later family's looks); each row that meets fmt, with fmt's text TOLD by the authors' own Lean function (tested against real Go, not proved from fmt's source: count such statements apart). THE CARD IS WHAT COUNTS. Prove the row's statement (the work); the ties are given (YtjfgpplomldeiaaGreatDoorTie.lean); close each card by the builder's one call (the guide's Derived/Test/ToyasCard.lean, 'card_holds'). Laid BY PROGRAM, IN A SANDBOX (cutbox-door.mjs). By AI agents, Wed Nov 11 2026. No macro, syntax, notation, axiom, sorry.
-/
import Derived.Test.YtjfgpplomldeiaaGreatDoorRows
import GoSem.ClaimSeven
namespace Go.Proofs.YtjfgpplomldeiaaGreatDoor
namespace Rows

/-- THE TIED CARD OF 'torrentlaw22.MagnetChecks'. -/
def magnetChecksCard : Claim7 := { stood := { row := magnetChecksRow, standIns := [], harness := (true, "fe33adead9bb46f3f2d0155c9a72509929f4568a3434fcc869f76da19f079247"), looks := false }, kinds := [], alts := [], laidByText := true, laidKinds := [.data, .data, .data, .data], laidTests := true, laidLooks := .later }
def MagnetChecksCardSaid : Prop := Claim7.holds Tryz.pinned (.plain (OpenSpec.ofChange magnetChecksSpec)) magnetChecksCard

/-- THE TIED CARD OF 'torrentlaw22.MagnetPrints'. -/
def magnetPrintsCard : Claim7 := { stood := { row := magnetPrintsRow, standIns := [], harness := (true, "fe33adead9bb46f3f2d0155c9a72509929f4568a3434fcc869f76da19f079247"), looks := false }, kinds := [], alts := [], laidByText := true, laidKinds := [.data, .data, .data, .data], laidTests := true, laidLooks := .later }
def MagnetPrintsCardSaid : Prop := Claim7.holds Tryz.pinned (.plain (OpenSpec.ofChange magnetPrintsSpec)) magnetPrintsCard

/-- THE SECOND FORM's CARD OF 'torrentlaw22.MagnetChecks'. -/
def magnetChecksUptoCard : Claim7 := { stood := { row := magnetChecksUptoRow, standIns := [], harness := (true, "fe33adead9bb46f3f2d0155c9a72509929f4568a3434fcc869f76da19f079247"), looks := false }, kinds := [], alts := [], laidByText := true, laidKinds := [.data, .data, .data, .data], laidTests := true, laidLooks := .later }
def MagnetChecksUptoCardSaid : Prop := Claim7.holds Tryz.pinned (.plain (OpenSpec.upto magnetChecksSpec)) magnetChecksUptoCard

/-- THE SECOND FORM's CARD OF 'torrentlaw22.MagnetPrints'. -/
def magnetPrintsUptoCard : Claim7 := { stood := { row := magnetPrintsUptoRow, standIns := [], harness := (true, "fe33adead9bb46f3f2d0155c9a72509929f4568a3434fcc869f76da19f079247"), looks := false }, kinds := [], alts := [], laidByText := true, laidKinds := [.data, .data, .data, .data], laidTests := true, laidLooks := .later }
def MagnetPrintsUptoCardSaid : Prop := Claim7.holds Tryz.pinned (.plain (OpenSpec.upto magnetPrintsSpec)) magnetPrintsUptoCard
end Rows
end Go.Proofs.YtjfgpplomldeiaaGreatDoor
