/-
  DERIVED. GIVEN WITH THE SEED: THE CARDS: each row of YtphehachmgfcaabDoorRows.lean that lists a variable, with what it lists TIED to the program's text (the seventh form; the later family's looks); each row that meets fmt, with fmt's text TOLD by the authors' own Lean function (tested against real Go, not proved from fmt's source: count such statements apart). THE CARD IS WHAT COUNTS. Prove the row's statement (the work); the ties are given (YtphehachmgfcaabDoorTie.lean); close each card by the builder's one call (the guide's Derived/Test/ToyasCard.lean, 'card_holds'). Laid BY PROGRAM, IN A SANDBOX (cutbox-door.mjs). By AI agents, Wed Nov 11 2026. No macro, syntax, notation, axiom, sorry.
-/
import Derived.Test.YtphehachmgfcaabDoorRows
import GoSem.ClaimSeven
namespace Go.Proofs.YtphehachmgfcaabDoor
namespace Rows

/-- THE TIED CARD OF 'torrentlaw4.BitsetTwoWay'. -/
def bitsetTwoWayCard : Claim7 := { stood := { row := bitsetTwoWayRow, standIns := [], harness := (true, "6dc6ca231994e827a40953c56cc0d7db3b7b51bff5ff20afa5bf5ea021b854c5"), looks := false }, kinds := [], alts := [], laidByText := true, laidKinds := [.data], laidTests := true, laidLooks := .later }
def BitsetTwoWayCardSaid : Prop := Claim7.holds Tryd.pinned (.plain (OpenSpec.ofChange bitsetTwoWaySpec)) bitsetTwoWayCard

/-- THE TIED CARD OF 'torrentlaw4.BitsetRuns'. -/
def bitsetRunsCard : Claim7 := { stood := { row := bitsetRunsRow, standIns := [], harness := (true, "6dc6ca231994e827a40953c56cc0d7db3b7b51bff5ff20afa5bf5ea021b854c5"), looks := false }, kinds := [], alts := [], laidByText := true, laidKinds := [.data], laidTests := true, laidLooks := .later }
def BitsetRunsCardSaid : Prop := Claim7.holds Tryd.pinned (.plain (OpenSpec.ofChange bitsetRunsSpec)) bitsetRunsCard

/-- THE TIED CARD OF 'torrentlaw4.BitsetPlaces'. -/
def bitsetPlacesCard : Claim7 := { stood := { row := bitsetPlacesRow, standIns := [], harness := (true, "6dc6ca231994e827a40953c56cc0d7db3b7b51bff5ff20afa5bf5ea021b854c5"), looks := false }, kinds := [], alts := [], laidByText := true, laidKinds := [.data], laidTests := true, laidLooks := .later }
def BitsetPlacesCardSaid : Prop := Claim7.holds Tryd.pinned (.plain (OpenSpec.ofChange bitsetPlacesSpec)) bitsetPlacesCard

/-- THE TIED CARD OF 'torrentlaw4.BitsetCounts'. -/
def bitsetCountsCard : Claim7 := { stood := { row := bitsetCountsRow, standIns := [], harness := (true, "6dc6ca231994e827a40953c56cc0d7db3b7b51bff5ff20afa5bf5ea021b854c5"), looks := false }, kinds := [], alts := [], laidByText := true, laidKinds := [.data], laidTests := true, laidLooks := .later }
def BitsetCountsCardSaid : Prop := Claim7.holds Tryd.pinned (.plain (OpenSpec.ofChange bitsetCountsSpec)) bitsetCountsCard

/-- THE TIED CARD OF 'torrentlaw4.BitsetAlgebra'. -/
def bitsetAlgebraCard : Claim7 := { stood := { row := bitsetAlgebraRow, standIns := [], harness := (true, "6dc6ca231994e827a40953c56cc0d7db3b7b51bff5ff20afa5bf5ea021b854c5"), looks := false }, kinds := [], alts := [], laidByText := true, laidKinds := [.data], laidTests := true, laidLooks := .later }
def BitsetAlgebraCardSaid : Prop := Claim7.holds Tryd.pinned (.plain (OpenSpec.ofChange bitsetAlgebraSpec)) bitsetAlgebraCard

/-- THE TIED CARD OF 'torrentlaw4.BitsetJoins'. -/
def bitsetJoinsCard : Claim7 := { stood := { row := bitsetJoinsRow, standIns := [], harness := (true, "6dc6ca231994e827a40953c56cc0d7db3b7b51bff5ff20afa5bf5ea021b854c5"), looks := false }, kinds := [], alts := [], laidByText := true, laidKinds := [.data], laidTests := true, laidLooks := .later }
def BitsetJoinsCardSaid : Prop := Claim7.holds Tryd.pinned (.plain (OpenSpec.ofChange bitsetJoinsSpec)) bitsetJoinsCard

/-- THE SECOND FORM's CARD OF 'torrentlaw4.BitsetTwoWay'. -/
def bitsetTwoWayUptoCard : Claim7 := { stood := { row := bitsetTwoWayUptoRow, standIns := [], harness := (true, "6dc6ca231994e827a40953c56cc0d7db3b7b51bff5ff20afa5bf5ea021b854c5"), looks := false }, kinds := [], alts := [], laidByText := true, laidKinds := [.data], laidTests := true, laidLooks := .later }
def BitsetTwoWayUptoCardSaid : Prop := Claim7.holds Tryd.pinned (.plain (OpenSpec.upto bitsetTwoWaySpec)) bitsetTwoWayUptoCard

/-- THE SECOND FORM's CARD OF 'torrentlaw4.BitsetRuns'. -/
def bitsetRunsUptoCard : Claim7 := { stood := { row := bitsetRunsUptoRow, standIns := [], harness := (true, "6dc6ca231994e827a40953c56cc0d7db3b7b51bff5ff20afa5bf5ea021b854c5"), looks := false }, kinds := [], alts := [], laidByText := true, laidKinds := [.data], laidTests := true, laidLooks := .later }
def BitsetRunsUptoCardSaid : Prop := Claim7.holds Tryd.pinned (.plain (OpenSpec.upto bitsetRunsSpec)) bitsetRunsUptoCard

/-- THE SECOND FORM's CARD OF 'torrentlaw4.BitsetPlaces'. -/
def bitsetPlacesUptoCard : Claim7 := { stood := { row := bitsetPlacesUptoRow, standIns := [], harness := (true, "6dc6ca231994e827a40953c56cc0d7db3b7b51bff5ff20afa5bf5ea021b854c5"), looks := false }, kinds := [], alts := [], laidByText := true, laidKinds := [.data], laidTests := true, laidLooks := .later }
def BitsetPlacesUptoCardSaid : Prop := Claim7.holds Tryd.pinned (.plain (OpenSpec.upto bitsetPlacesSpec)) bitsetPlacesUptoCard

/-- THE SECOND FORM's CARD OF 'torrentlaw4.BitsetCounts'. -/
def bitsetCountsUptoCard : Claim7 := { stood := { row := bitsetCountsUptoRow, standIns := [], harness := (true, "6dc6ca231994e827a40953c56cc0d7db3b7b51bff5ff20afa5bf5ea021b854c5"), looks := false }, kinds := [], alts := [], laidByText := true, laidKinds := [.data], laidTests := true, laidLooks := .later }
def BitsetCountsUptoCardSaid : Prop := Claim7.holds Tryd.pinned (.plain (OpenSpec.upto bitsetCountsSpec)) bitsetCountsUptoCard

/-- THE SECOND FORM's CARD OF 'torrentlaw4.BitsetAlgebra'. -/
def bitsetAlgebraUptoCard : Claim7 := { stood := { row := bitsetAlgebraUptoRow, standIns := [], harness := (true, "6dc6ca231994e827a40953c56cc0d7db3b7b51bff5ff20afa5bf5ea021b854c5"), looks := false }, kinds := [], alts := [], laidByText := true, laidKinds := [.data], laidTests := true, laidLooks := .later }
def BitsetAlgebraUptoCardSaid : Prop := Claim7.holds Tryd.pinned (.plain (OpenSpec.upto bitsetAlgebraSpec)) bitsetAlgebraUptoCard

/-- THE SECOND FORM's CARD OF 'torrentlaw4.BitsetJoins'. -/
def bitsetJoinsUptoCard : Claim7 := { stood := { row := bitsetJoinsUptoRow, standIns := [], harness := (true, "6dc6ca231994e827a40953c56cc0d7db3b7b51bff5ff20afa5bf5ea021b854c5"), looks := false }, kinds := [], alts := [], laidByText := true, laidKinds := [.data], laidTests := true, laidLooks := .later }
def BitsetJoinsUptoCardSaid : Prop := Claim7.holds Tryd.pinned (.plain (OpenSpec.upto bitsetJoinsSpec)) bitsetJoinsUptoCard
end Rows
end Go.Proofs.YtphehachmgfcaabDoor
