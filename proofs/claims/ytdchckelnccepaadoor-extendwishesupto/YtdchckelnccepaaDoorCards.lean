/-
  DERIVED. GIVEN WITH THE SEED: THE CARDS: each row of YtdchckelnccepaaDoorRows.lean that lists a variable, with what it lists TIED to the program's text (the seventh form; the later family's looks); each row that meets fmt, with fmt's text TOLD by the authors' own Lean function (tested against real Go, not proved from fmt's source: count such statements apart). THE CARD IS WHAT COUNTS. Prove the row's statement (the work); the ties are given (YtdchckelnccepaaDoorTie.lean); close each card by the builder's one call (the guide's Derived/Test/ToyasCard.lean, 'card_holds'). Laid BY PROGRAM, IN A SANDBOX (cutbox-door.mjs). By AI agents, Wed Nov 11 2026. No macro, syntax, notation, axiom, sorry.
-/
import Derived.Test.YtdchckelnccepaaDoorRows
import GoSem.ClaimSeven
namespace Go.Proofs.YtdchckelnccepaaDoor
namespace Rows

/-- THE TIED CARD OF 'torrentlaw21.ExtendWishes'. -/
def extendWishesCard : Claim7 := { stood := { row := extendWishesRow, standIns := [], harness := (true, "58f7128f510eb45da00d2ed8c1711cff864da61697fd4910f54208f23f1758d7"), looks := false }, kinds := [], alts := [], laidByText := true, laidKinds := [.data, .data, .data], laidTests := true, laidLooks := .later }
def ExtendWishesCardSaid : Prop := Claim7.holds Tryd.pinned (.plain (OpenSpec.ofChange extendWishesSpec)) extendWishesCard

/-- THE SECOND FORM's CARD OF 'torrentlaw21.ExtendWishes'. -/
def extendWishesUptoCard : Claim7 := { stood := { row := extendWishesUptoRow, standIns := [], harness := (true, "58f7128f510eb45da00d2ed8c1711cff864da61697fd4910f54208f23f1758d7"), looks := false }, kinds := [], alts := [], laidByText := true, laidKinds := [.data, .data, .data], laidTests := true, laidLooks := .later }
def ExtendWishesUptoCardSaid : Prop := Claim7.holds Tryd.pinned (.plain (OpenSpec.upto extendWishesSpec)) extendWishesUptoCard
end Rows
end Go.Proofs.YtdchckelnccepaaDoor
