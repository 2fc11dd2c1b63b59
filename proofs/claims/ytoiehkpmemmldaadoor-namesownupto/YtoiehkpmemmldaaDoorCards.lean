/-
  DERIVED. GIVEN WITH THE SEED: THE CARDS: each row of YtoiehkpmemmldaaDoorRows.lean that lists a variable, with what it lists TIED to the program's text (the seventh form; the later family's looks); each row that meets fmt, with fmt's text TOLD by the authors' own Lean function (tested against real Go, not proved from fmt's source: count such statements apart). THE CARD IS WHAT COUNTS. Prove the row's statement (the work); the ties are given (YtoiehkpmemmldaaDoorTie.lean); close each card by the builder's one call (the guide's Derived/Test/ToyasCard.lean, 'card_holds'). Laid BY PROGRAM, IN A SANDBOX (cutbox-door.mjs). By AI agents, Wed Nov 11 2026. No macro, syntax, notation, axiom, sorry.
-/
import Derived.Test.YtoiehkpmemmldaaDoorRows
import GoSem.ClaimSeven
namespace Go.Proofs.YtoiehkpmemmldaaDoor
namespace Rows

/-- THE TIED CARD OF 'torrentlaw5.NamesClashShown'. -/
def namesClashShownCard : Claim7 := { stood := { row := namesClashShownRow, standIns := [], harness := (true, "bf28992019f1804e8ecb537f52859a8e342bc08c5763b066b1c8cb3f58541dec"), looks := false }, kinds := [], alts := [], laidByText := true, laidKinds := [.data, .pinned], laidTests := true, laidLooks := .later }
def NamesClashShownCardSaid : Prop := Claim7.holds Tryd.pinned (.plain (OpenSpec.ofChange namesClashShownSpec)) namesClashShownCard

/-- THE TIED CARD OF 'torrentlaw5.NamesOrderRises'. -/
def namesOrderRisesCard : Claim7 := { stood := { row := namesOrderRisesRow, standIns := [], harness := (true, "bf28992019f1804e8ecb537f52859a8e342bc08c5763b066b1c8cb3f58541dec"), looks := false }, kinds := [], alts := [], laidByText := true, laidKinds := [.data, .pinned], laidTests := true, laidLooks := .later }
def NamesOrderRisesCardSaid : Prop := Claim7.holds Tryd.pinned (.plain (OpenSpec.ofChange namesOrderRisesSpec)) namesOrderRisesCard

/-- THE TIED CARD OF 'torrentlaw5.NamesOwn'. -/
def namesOwnCard : Claim7 := { stood := { row := namesOwnRow, standIns := [], harness := (true, "bf28992019f1804e8ecb537f52859a8e342bc08c5763b066b1c8cb3f58541dec"), looks := false }, kinds := [], alts := [], laidByText := true, laidKinds := [.data, .pinned], laidTests := true, laidLooks := .later }
def NamesOwnCardSaid : Prop := Claim7.holds Tryd.pinned (.plain (OpenSpec.ofChange namesOwnSpec)) namesOwnCard

/-- THE SECOND FORM's CARD OF 'torrentlaw5.NamesClashShown'. -/
def namesClashShownUptoCard : Claim7 := { stood := { row := namesClashShownUptoRow, standIns := [], harness := (true, "bf28992019f1804e8ecb537f52859a8e342bc08c5763b066b1c8cb3f58541dec"), looks := false }, kinds := [], alts := [], laidByText := true, laidKinds := [.data, .pinned], laidTests := true, laidLooks := .later }
def NamesClashShownUptoCardSaid : Prop := Claim7.holds Tryd.pinned (.plain (OpenSpec.upto namesClashShownSpec)) namesClashShownUptoCard

/-- THE SECOND FORM's CARD OF 'torrentlaw5.NamesOrderRises'. -/
def namesOrderRisesUptoCard : Claim7 := { stood := { row := namesOrderRisesUptoRow, standIns := [], harness := (true, "bf28992019f1804e8ecb537f52859a8e342bc08c5763b066b1c8cb3f58541dec"), looks := false }, kinds := [], alts := [], laidByText := true, laidKinds := [.data, .pinned], laidTests := true, laidLooks := .later }
def NamesOrderRisesUptoCardSaid : Prop := Claim7.holds Tryd.pinned (.plain (OpenSpec.upto namesOrderRisesSpec)) namesOrderRisesUptoCard

/-- THE SECOND FORM's CARD OF 'torrentlaw5.NamesOwn'. -/
def namesOwnUptoCard : Claim7 := { stood := { row := namesOwnUptoRow, standIns := [], harness := (true, "bf28992019f1804e8ecb537f52859a8e342bc08c5763b066b1c8cb3f58541dec"), looks := false }, kinds := [], alts := [], laidByText := true, laidKinds := [.data, .pinned], laidTests := true, laidLooks := .later }
def NamesOwnUptoCardSaid : Prop := Claim7.holds Tryd.pinned (.plain (OpenSpec.upto namesOwnSpec)) namesOwnUptoCard
end Rows
end Go.Proofs.YtoiehkpmemmldaaDoor
