/-
  DERIVED. GIVEN WITH THE SEED: THE CARDS: each row of YtgijbjipidbnkaaDoorRows.lean that lists a variable, with what it lists TIED to the program's text (the seventh form; the later family's looks); each row that meets fmt, with fmt's text TOLD by the authors' own Lean function (tested against real Go, not proved from fmt's source: count such statements apart). THE CARD IS WHAT COUNTS. Prove the row's statement (the work); the ties are given (YtgijbjipidbnkaaDoorTie.lean); close each card by the builder's one call (the guide's Derived/Test/ToyasCard.lean, 'card_holds'). Laid BY PROGRAM, IN A SANDBOX (cutbox-door.mjs). By AI agents, Wed Nov 11 2026. No macro, syntax, notation, axiom, sorry.
-/
import Derived.Test.YtgijbjipidbnkaaDoorRows
import GoSem.ClaimSeven
namespace Go.Proofs.YtgijbjipidbnkaaDoor
namespace Rows

/-- THE TIED CARD OF 'torrentlaw22.MagnetEscapes'. -/
def magnetEscapesCard : Claim7 := { stood := { row := magnetEscapesRow, standIns := [], harness := (true, "644b8cb92692a2efc5063dcef09b56173befdf95b94e3b8dcfdec6dd5ebb3dda"), looks := false }, kinds := [], alts := [], laidByText := true, laidKinds := [.data], laidTests := true, laidLooks := .later }
def MagnetEscapesCardSaid : Prop := Claim7.holds Tryd.pinned (.plain (OpenSpec.ofChange magnetEscapesSpec)) magnetEscapesCard

/-- THE TIED CARD OF 'torrentlaw22.MagnetUnescapes'. -/
def magnetUnescapesCard : Claim7 := { stood := { row := magnetUnescapesRow, standIns := [], harness := (true, "644b8cb92692a2efc5063dcef09b56173befdf95b94e3b8dcfdec6dd5ebb3dda"), looks := false }, kinds := [], alts := [], laidByText := true, laidKinds := [.data], laidTests := true, laidLooks := .later }
def MagnetUnescapesCardSaid : Prop := Claim7.holds Tryd.pinned (.plain (OpenSpec.ofChange magnetUnescapesSpec)) magnetUnescapesCard

/-- THE SECOND FORM's CARD OF 'torrentlaw22.MagnetEscapes'. -/
def magnetEscapesUptoCard : Claim7 := { stood := { row := magnetEscapesUptoRow, standIns := [], harness := (true, "644b8cb92692a2efc5063dcef09b56173befdf95b94e3b8dcfdec6dd5ebb3dda"), looks := false }, kinds := [], alts := [], laidByText := true, laidKinds := [.data], laidTests := true, laidLooks := .later }
def MagnetEscapesUptoCardSaid : Prop := Claim7.holds Tryd.pinned (.plain (OpenSpec.upto magnetEscapesSpec)) magnetEscapesUptoCard

/-- THE SECOND FORM's CARD OF 'torrentlaw22.MagnetUnescapes'. -/
def magnetUnescapesUptoCard : Claim7 := { stood := { row := magnetUnescapesUptoRow, standIns := [], harness := (true, "644b8cb92692a2efc5063dcef09b56173befdf95b94e3b8dcfdec6dd5ebb3dda"), looks := false }, kinds := [], alts := [], laidByText := true, laidKinds := [.data], laidTests := true, laidLooks := .later }
def MagnetUnescapesUptoCardSaid : Prop := Claim7.holds Tryd.pinned (.plain (OpenSpec.upto magnetUnescapesSpec)) magnetUnescapesUptoCard
end Rows
end Go.Proofs.YtgijbjipidbnkaaDoor
