/-
  DERIVED. GIVEN WITH THE SEED: THE CARDS: each row of YtjhnkdhbjpddcaaDoorRows.lean that lists a variable, with what it lists TIED to the program's text (the seventh form; the later family's looks); each row that meets fmt, with fmt's text TOLD by the authors' own Lean function (tested against real Go, not proved from fmt's source: count such statements apart). THE CARD IS WHAT COUNTS. Prove the row's statement (the work); the ties are given (YtjhnkdhbjpddcaaDoorTie.lean); close each card by the builder's one call (the guide's Derived/Test/ToyasCard.lean, 'card_holds'). Laid BY PROGRAM, IN A SANDBOX (cutbox-door.mjs). By AI agents, Wed Nov 11 2026. No macro, syntax, notation, axiom, sorry.
-/
import Derived.Test.YtjhnkdhbjpddcaaDoorRows
import GoSem.ClaimSeven
namespace Go.Proofs.YtjhnkdhbjpddcaaDoor
namespace Rows

/-- THE TIED CARD OF 'torrentlaw4.BitsetKept'. -/
def bitsetKeptCard : Claim7 := { stood := { row := bitsetKeptRow, standIns := [], harness := (true, "c006ff9df2f04d1e5beb335dce06ac08396d72f7718e2a554e38e63d2f2b0879"), looks := false }, kinds := [], alts := [], laidByText := true, laidKinds := [.data], laidTests := true, laidLooks := .later }
def BitsetKeptCardSaid : Prop := Claim7.holds Tryd.pinned (.plain (OpenSpec.ofChange bitsetKeptSpec)) bitsetKeptCard

/-- THE SECOND FORM's CARD OF 'torrentlaw4.BitsetKept'. -/
def bitsetKeptUptoCard : Claim7 := { stood := { row := bitsetKeptUptoRow, standIns := [], harness := (true, "c006ff9df2f04d1e5beb335dce06ac08396d72f7718e2a554e38e63d2f2b0879"), looks := false }, kinds := [], alts := [], laidByText := true, laidKinds := [.data], laidTests := true, laidLooks := .later }
def BitsetKeptUptoCardSaid : Prop := Claim7.holds Tryd.pinned (.plain (OpenSpec.upto bitsetKeptSpec)) bitsetKeptUptoCard
end Rows
end Go.Proofs.YtjhnkdhbjpddcaaDoor
