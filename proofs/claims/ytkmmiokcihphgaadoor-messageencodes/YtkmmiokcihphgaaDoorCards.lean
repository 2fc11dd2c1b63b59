/-
  DERIVED. GIVEN WITH THE SEED: THE CARDS: each row of YtkmmiokcihphgaaDoorRows.lean that lists a variable, with what it lists TIED to the program's text (the seventh form; the later family's looks); each row that meets fmt, with fmt's text TOLD by the authors' own Lean function (tested against real Go, not proved from fmt's source: count such statements apart). THE CARD IS WHAT COUNTS. Prove the row's statement (the work); the ties are given (YtkmmiokcihphgaaDoorTie.lean); close each card by the builder's one call (the guide's Derived/Test/ToyasCard.lean, 'card_holds'). Laid BY PROGRAM, IN A SANDBOX (cutbox-door.mjs). By AI agents, Wed Nov 11 2026. No macro, syntax, notation, axiom, sorry.
-/
import Derived.Test.YtkmmiokcihphgaaDoorRows
import GoSem.ClaimSeven
namespace Go.Proofs.YtkmmiokcihphgaaDoor
namespace Rows

/-- THE TIED CARD OF 'torrentlaw11.MessageTwoWay'. -/
def messageTwoWayCard : Claim7 := { stood := { row := messageTwoWayRow, standIns := [], harness := (true, "ccfaf10074fdabb1c34d925da107c39a226e500363fa684a90af2e31c1f4682c"), looks := false }, kinds := [], alts := [], laidByText := true, laidKinds := [.data], laidTests := true, laidLooks := .later }
def MessageTwoWayCardSaid : Prop := Claim7.holds Tryd.pinned (.plain (OpenSpec.ofChange messageTwoWaySpec)) messageTwoWayCard

/-- THE TIED CARD OF 'torrentlaw11.MessageBack'. -/
def messageBackCard : Claim7 := { stood := { row := messageBackRow, standIns := [], harness := (true, "ccfaf10074fdabb1c34d925da107c39a226e500363fa684a90af2e31c1f4682c"), looks := false }, kinds := [], alts := [], laidByText := true, laidKinds := [.data], laidTests := true, laidLooks := .later }
def MessageBackCardSaid : Prop := Claim7.holds Tryd.pinned (.plain (OpenSpec.ofChange messageBackSpec)) messageBackCard

/-- THE TIED CARD OF 'torrentlaw11.MessageValids'. -/
def messageValidsCard : Claim7 := { stood := { row := messageValidsRow, standIns := [], harness := (true, "ccfaf10074fdabb1c34d925da107c39a226e500363fa684a90af2e31c1f4682c"), looks := false }, kinds := [], alts := [], laidByText := true, laidKinds := [.data], laidTests := true, laidLooks := .later }
def MessageValidsCardSaid : Prop := Claim7.holds Tryd.pinned (.plain (OpenSpec.ofChange messageValidsSpec)) messageValidsCard

/-- THE TIED CARD OF 'torrentlaw11.MessageDecodes'. -/
def messageDecodesCard : Claim7 := { stood := { row := messageDecodesRow, standIns := [], harness := (true, "ccfaf10074fdabb1c34d925da107c39a226e500363fa684a90af2e31c1f4682c"), looks := false }, kinds := [], alts := [], laidByText := true, laidKinds := [.data], laidTests := true, laidLooks := .later }
def MessageDecodesCardSaid : Prop := Claim7.holds Tryd.pinned (.plain (OpenSpec.ofChange messageDecodesSpec)) messageDecodesCard

/-- THE TIED CARD OF 'torrentlaw11.MessageStops'. -/
def messageStopsCard : Claim7 := { stood := { row := messageStopsRow, standIns := [], harness := (true, "ccfaf10074fdabb1c34d925da107c39a226e500363fa684a90af2e31c1f4682c"), looks := false }, kinds := [], alts := [], laidByText := true, laidKinds := [.data], laidTests := true, laidLooks := .later }
def MessageStopsCardSaid : Prop := Claim7.holds Tryd.pinned (.plain (OpenSpec.ofChange messageStopsSpec)) messageStopsCard

/-- THE TIED CARD OF 'torrentlaw11.MessageEncodes'. -/
def messageEncodesCard : Claim7 := { stood := { row := messageEncodesRow, standIns := [], harness := (true, "ccfaf10074fdabb1c34d925da107c39a226e500363fa684a90af2e31c1f4682c"), looks := false }, kinds := [], alts := [], laidByText := true, laidKinds := [.data], laidTests := true, laidLooks := .later }
def MessageEncodesCardSaid : Prop := Claim7.holds Tryd.pinned (.plain (OpenSpec.ofChange messageEncodesSpec)) messageEncodesCard

/-- THE SECOND FORM's CARD OF 'torrentlaw11.MessageTwoWay'. -/
def messageTwoWayUptoCard : Claim7 := { stood := { row := messageTwoWayUptoRow, standIns := [], harness := (true, "ccfaf10074fdabb1c34d925da107c39a226e500363fa684a90af2e31c1f4682c"), looks := false }, kinds := [], alts := [], laidByText := true, laidKinds := [.data], laidTests := true, laidLooks := .later }
def MessageTwoWayUptoCardSaid : Prop := Claim7.holds Tryd.pinned (.plain (OpenSpec.upto messageTwoWaySpec)) messageTwoWayUptoCard

/-- THE SECOND FORM's CARD OF 'torrentlaw11.MessageBack'. -/
def messageBackUptoCard : Claim7 := { stood := { row := messageBackUptoRow, standIns := [], harness := (true, "ccfaf10074fdabb1c34d925da107c39a226e500363fa684a90af2e31c1f4682c"), looks := false }, kinds := [], alts := [], laidByText := true, laidKinds := [.data], laidTests := true, laidLooks := .later }
def MessageBackUptoCardSaid : Prop := Claim7.holds Tryd.pinned (.plain (OpenSpec.upto messageBackSpec)) messageBackUptoCard

/-- THE SECOND FORM's CARD OF 'torrentlaw11.MessageValids'. -/
def messageValidsUptoCard : Claim7 := { stood := { row := messageValidsUptoRow, standIns := [], harness := (true, "ccfaf10074fdabb1c34d925da107c39a226e500363fa684a90af2e31c1f4682c"), looks := false }, kinds := [], alts := [], laidByText := true, laidKinds := [.data], laidTests := true, laidLooks := .later }
def MessageValidsUptoCardSaid : Prop := Claim7.holds Tryd.pinned (.plain (OpenSpec.upto messageValidsSpec)) messageValidsUptoCard

/-- THE SECOND FORM's CARD OF 'torrentlaw11.MessageDecodes'. -/
def messageDecodesUptoCard : Claim7 := { stood := { row := messageDecodesUptoRow, standIns := [], harness := (true, "ccfaf10074fdabb1c34d925da107c39a226e500363fa684a90af2e31c1f4682c"), looks := false }, kinds := [], alts := [], laidByText := true, laidKinds := [.data], laidTests := true, laidLooks := .later }
def MessageDecodesUptoCardSaid : Prop := Claim7.holds Tryd.pinned (.plain (OpenSpec.upto messageDecodesSpec)) messageDecodesUptoCard

/-- THE SECOND FORM's CARD OF 'torrentlaw11.MessageStops'. -/
def messageStopsUptoCard : Claim7 := { stood := { row := messageStopsUptoRow, standIns := [], harness := (true, "ccfaf10074fdabb1c34d925da107c39a226e500363fa684a90af2e31c1f4682c"), looks := false }, kinds := [], alts := [], laidByText := true, laidKinds := [.data], laidTests := true, laidLooks := .later }
def MessageStopsUptoCardSaid : Prop := Claim7.holds Tryd.pinned (.plain (OpenSpec.upto messageStopsSpec)) messageStopsUptoCard

/-- THE SECOND FORM's CARD OF 'torrentlaw11.MessageEncodes'. -/
def messageEncodesUptoCard : Claim7 := { stood := { row := messageEncodesUptoRow, standIns := [], harness := (true, "ccfaf10074fdabb1c34d925da107c39a226e500363fa684a90af2e31c1f4682c"), looks := false }, kinds := [], alts := [], laidByText := true, laidKinds := [.data], laidTests := true, laidLooks := .later }
def MessageEncodesUptoCardSaid : Prop := Claim7.holds Tryd.pinned (.plain (OpenSpec.upto messageEncodesSpec)) messageEncodesUptoCard
end Rows
end Go.Proofs.YtkmmiokcihphgaaDoor
