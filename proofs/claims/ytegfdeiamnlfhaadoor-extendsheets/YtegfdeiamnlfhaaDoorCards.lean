/-
  DERIVED. GIVEN WITH THE SEED: THE CARDS: each row of YtegfdeiamnlfhaaDoorRows.lean that lists a variable, with what it lists TIED to the program's text (the seventh form; the later family's looks); each row that meets fmt, with fmt's text TOLD by the authors' own Lean function (tested against real Go, not proved from fmt's source: count such statements apart). THE CARD IS WHAT COUNTS. Prove the row's statement (the work); the ties are given (YtegfdeiamnlfhaaDoorTie.lean); close each card by the builder's one call (the guide's Derived/Test/ToyasCard.lean, 'card_holds'). Laid BY PROGRAM, IN A SANDBOX (cutbox-door.mjs). By AI agents, Wed Nov 11 2026. No macro, syntax, notation, axiom, sorry.
-/
import Derived.Test.YtegfdeiamnlfhaaDoorRows
import GoSem.ClaimSeven
namespace Go.Proofs.YtegfdeiamnlfhaaDoor
namespace Rows

/-- THE TIED CARD OF 'torrentlaw21.ExtendSheets'. -/
def extendSheetsCard : Claim7 := { stood := { row := extendSheetsRow, standIns := [], harness := (true, "b78b9685e325864678c74af80b6e3b200fc609830c64b341f4cad6094933de7f"), looks := false }, kinds := [], alts := [], laidByText := true, laidKinds := [.data, .data, .data], laidTests := true, laidLooks := .later }
def ExtendSheetsCardSaid : Prop := Claim7.holds Tryd.pinned (.plain (OpenSpec.ofChange extendSheetsSpec)) extendSheetsCard

/-- THE SECOND FORM's CARD OF 'torrentlaw21.ExtendSheets'. -/
def extendSheetsUptoCard : Claim7 := { stood := { row := extendSheetsUptoRow, standIns := [], harness := (true, "b78b9685e325864678c74af80b6e3b200fc609830c64b341f4cad6094933de7f"), looks := false }, kinds := [], alts := [], laidByText := true, laidKinds := [.data, .data, .data], laidTests := true, laidLooks := .later }
def ExtendSheetsUptoCardSaid : Prop := Claim7.holds Tryd.pinned (.plain (OpenSpec.upto extendSheetsSpec)) extendSheetsUptoCard
end Rows
end Go.Proofs.YtegfdeiamnlfhaaDoor
