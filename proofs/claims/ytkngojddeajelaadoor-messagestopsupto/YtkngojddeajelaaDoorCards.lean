/-
  DERIVED. GIVEN WITH THE SEED: THE CARDS: each row of YtkngojddeajelaaDoorRows.lean that lists a variable, with what it lists TIED to the program's text (the seventh form; the later family's looks); each row that meets fmt, with fmt's text TOLD by the authors' own Lean function (tested against real Go, not proved from fmt's source: count such statements apart). THE CARD IS WHAT COUNTS. Prove the row's statement (the work); the ties are given (YtkngojddeajelaaDoorTie.lean); close each card by the builder's one call (the guide's Derived/Test/ToyasCard.lean, 'card_holds'). Laid BY PROGRAM, IN A SANDBOX (cutbox-door.mjs). By AI agents, Wed Nov 11 2026. No macro, syntax, notation, axiom, sorry.
-/
import Derived.Test.YtkngojddeajelaaDoorRows
import GoSem.ClaimSeven
namespace Go.Proofs.YtkngojddeajelaaDoor
namespace Rows

/-- THE TIED CARD OF 'torrentlaw11.MessageTwoWay'. -/
def messageTwoWayCard : Claim7 := { stood := { row := messageTwoWayRow, standIns := [], harness := (true, "971e1e822ac4132424cb26afb926245852a76db0dce985f174509447b36e8a4b"), looks := false }, kinds := [], alts := [], laidByText := true, laidKinds := [.data], laidTests := true, laidLooks := .later }
def MessageTwoWayCardSaid : Prop := Claim7.holds Tryd.pinned (.plain (OpenSpec.ofChange messageTwoWaySpec)) messageTwoWayCard

/-- THE TIED CARD OF 'torrentlaw11.MessageBack'. -/
def messageBackCard : Claim7 := { stood := { row := messageBackRow, standIns := [], harness := (true, "971e1e822ac4132424cb26afb926245852a76db0dce985f174509447b36e8a4b"), looks := false }, kinds := [], alts := [], laidByText := true, laidKinds := [.data], laidTests := true, laidLooks := .later }
def MessageBackCardSaid : Prop := Claim7.holds Tryd.pinned (.plain (OpenSpec.ofChange messageBackSpec)) messageBackCard

/-- THE TIED CARD OF 'torrentlaw11.MessageDecodes'. -/
def messageDecodesCard : Claim7 := { stood := { row := messageDecodesRow, standIns := [], harness := (true, "971e1e822ac4132424cb26afb926245852a76db0dce985f174509447b36e8a4b"), looks := false }, kinds := [], alts := [], laidByText := true, laidKinds := [.data], laidTests := true, laidLooks := .later }
def MessageDecodesCardSaid : Prop := Claim7.holds Tryd.pinned (.plain (OpenSpec.ofChange messageDecodesSpec)) messageDecodesCard

/-- THE TIED CARD OF 'torrentlaw11.MessageStops'. -/
def messageStopsCard : Claim7 := { stood := { row := messageStopsRow, standIns := [], harness := (true, "971e1e822ac4132424cb26afb926245852a76db0dce985f174509447b36e8a4b"), looks := false }, kinds := [], alts := [], laidByText := true, laidKinds := [.data], laidTests := true, laidLooks := .later }
def MessageStopsCardSaid : Prop := Claim7.holds Tryd.pinned (.plain (OpenSpec.ofChange messageStopsSpec)) messageStopsCard

/-- THE TIED CARD OF 'torrentlaw11.MessageUnwireBack'. -/
def messageUnwireBackCard : Claim7 := { stood := { row := messageUnwireBackRow, standIns := [], harness := (true, "971e1e822ac4132424cb26afb926245852a76db0dce985f174509447b36e8a4b"), looks := false }, kinds := [], alts := [], laidByText := true, laidKinds := [.data], laidTests := true, laidLooks := .later }
def MessageUnwireBackCardSaid : Prop := Claim7.holds Tryd.pinned (.plain (OpenSpec.ofChange messageUnwireBackSpec)) messageUnwireBackCard

/-- THE TIED CARD OF 'torrentlaw11.MessageUnwires'. -/
def messageUnwiresCard : Claim7 := { stood := { row := messageUnwiresRow, standIns := [], harness := (true, "971e1e822ac4132424cb26afb926245852a76db0dce985f174509447b36e8a4b"), looks := false }, kinds := [], alts := [], laidByText := true, laidKinds := [.data], laidTests := true, laidLooks := .later }
def MessageUnwiresCardSaid : Prop := Claim7.holds Tryd.pinned (.plain (OpenSpec.ofChange messageUnwiresSpec)) messageUnwiresCard

/-- THE SECOND FORM's CARD OF 'torrentlaw11.MessageTwoWay'. -/
def messageTwoWayUptoCard : Claim7 := { stood := { row := messageTwoWayUptoRow, standIns := [], harness := (true, "971e1e822ac4132424cb26afb926245852a76db0dce985f174509447b36e8a4b"), looks := false }, kinds := [], alts := [], laidByText := true, laidKinds := [.data], laidTests := true, laidLooks := .later }
def MessageTwoWayUptoCardSaid : Prop := Claim7.holds Tryd.pinned (.plain (OpenSpec.upto messageTwoWaySpec)) messageTwoWayUptoCard

/-- THE SECOND FORM's CARD OF 'torrentlaw11.MessageBack'. -/
def messageBackUptoCard : Claim7 := { stood := { row := messageBackUptoRow, standIns := [], harness := (true, "971e1e822ac4132424cb26afb926245852a76db0dce985f174509447b36e8a4b"), looks := false }, kinds := [], alts := [], laidByText := true, laidKinds := [.data], laidTests := true, laidLooks := .later }
def MessageBackUptoCardSaid : Prop := Claim7.holds Tryd.pinned (.plain (OpenSpec.upto messageBackSpec)) messageBackUptoCard

/-- THE SECOND FORM's CARD OF 'torrentlaw11.MessageDecodes'. -/
def messageDecodesUptoCard : Claim7 := { stood := { row := messageDecodesUptoRow, standIns := [], harness := (true, "971e1e822ac4132424cb26afb926245852a76db0dce985f174509447b36e8a4b"), looks := false }, kinds := [], alts := [], laidByText := true, laidKinds := [.data], laidTests := true, laidLooks := .later }
def MessageDecodesUptoCardSaid : Prop := Claim7.holds Tryd.pinned (.plain (OpenSpec.upto messageDecodesSpec)) messageDecodesUptoCard

/-- THE SECOND FORM's CARD OF 'torrentlaw11.MessageStops'. -/
def messageStopsUptoCard : Claim7 := { stood := { row := messageStopsUptoRow, standIns := [], harness := (true, "971e1e822ac4132424cb26afb926245852a76db0dce985f174509447b36e8a4b"), looks := false }, kinds := [], alts := [], laidByText := true, laidKinds := [.data], laidTests := true, laidLooks := .later }
def MessageStopsUptoCardSaid : Prop := Claim7.holds Tryd.pinned (.plain (OpenSpec.upto messageStopsSpec)) messageStopsUptoCard

/-- THE SECOND FORM's CARD OF 'torrentlaw11.MessageUnwireBack'. -/
def messageUnwireBackUptoCard : Claim7 := { stood := { row := messageUnwireBackUptoRow, standIns := [], harness := (true, "971e1e822ac4132424cb26afb926245852a76db0dce985f174509447b36e8a4b"), looks := false }, kinds := [], alts := [], laidByText := true, laidKinds := [.data], laidTests := true, laidLooks := .later }
def MessageUnwireBackUptoCardSaid : Prop := Claim7.holds Tryd.pinned (.plain (OpenSpec.upto messageUnwireBackSpec)) messageUnwireBackUptoCard

/-- THE SECOND FORM's CARD OF 'torrentlaw11.MessageUnwires'. -/
def messageUnwiresUptoCard : Claim7 := { stood := { row := messageUnwiresUptoRow, standIns := [], harness := (true, "971e1e822ac4132424cb26afb926245852a76db0dce985f174509447b36e8a4b"), looks := false }, kinds := [], alts := [], laidByText := true, laidKinds := [.data], laidTests := true, laidLooks := .later }
def MessageUnwiresUptoCardSaid : Prop := Claim7.holds Tryd.pinned (.plain (OpenSpec.upto messageUnwiresSpec)) messageUnwiresUptoCard
end Rows
end Go.Proofs.YtkngojddeajelaaDoor
