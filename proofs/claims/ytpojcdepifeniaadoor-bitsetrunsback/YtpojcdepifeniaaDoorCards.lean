/-
  DERIVED. GIVEN WITH THE SEED: THE CARDS: each row of YtpojcdepifeniaaDoorRows.lean that lists a variable, with what it lists TIED to the program's text (the seventh form; the later family's looks); each row that meets fmt, with fmt's text TOLD by the authors' own Lean function (tested against real Go, not proved from fmt's source: count such statements apart). THE CARD IS WHAT COUNTS. Prove the row's statement (the work); the ties are given (YtpojcdepifeniaaDoorTie.lean); close each card by the builder's one call (the guide's Derived/Test/ToyasCard.lean, 'card_holds'). Laid BY PROGRAM, IN A SANDBOX (cutbox-door.mjs). By AI agents, Wed Nov 11 2026. No macro, syntax, notation, axiom, sorry.
-/
import Derived.Test.YtpojcdepifeniaaDoorRows
import GoSem.ClaimSeven
namespace Go.Proofs.YtpojcdepifeniaaDoor
namespace Rows

/-- THE TIED CARD OF 'torrentlaw4.BitsetChecks'. -/
def bitsetChecksCard : Claim7 := { stood := { row := bitsetChecksRow, standIns := [], harness := (true, "9f75344ee87b60da3400f1649b1bc391c9d925c125e3eba47eb99789a332f2eb"), looks := false }, kinds := [], alts := [], laidByText := true, laidKinds := [.data], laidTests := true, laidLooks := .later }
def BitsetChecksCardSaid : Prop := Claim7.holds Tryd.pinned (.plain (OpenSpec.ofChange bitsetChecksSpec)) bitsetChecksCard

/-- THE TIED CARD OF 'torrentlaw4.BitsetMakes'. -/
def bitsetMakesCard : Claim7 := { stood := { row := bitsetMakesRow, standIns := [], harness := (true, "9f75344ee87b60da3400f1649b1bc391c9d925c125e3eba47eb99789a332f2eb"), looks := false }, kinds := [], alts := [], laidByText := true, laidKinds := [.data], laidTests := true, laidLooks := .later }
def BitsetMakesCardSaid : Prop := Claim7.holds Tryd.pinned (.plain (OpenSpec.ofChange bitsetMakesSpec)) bitsetMakesCard

/-- THE TIED CARD OF 'torrentlaw4.BitsetOfs'. -/
def bitsetOfsCard : Claim7 := { stood := { row := bitsetOfsRow, standIns := [], harness := (true, "9f75344ee87b60da3400f1649b1bc391c9d925c125e3eba47eb99789a332f2eb"), looks := false }, kinds := [], alts := [], laidByText := true, laidKinds := [.data], laidTests := true, laidLooks := .later }
def BitsetOfsCardSaid : Prop := Claim7.holds Tryd.pinned (.plain (OpenSpec.ofChange bitsetOfsSpec)) bitsetOfsCard

/-- THE TIED CARD OF 'torrentlaw4.BitsetRunsBack'. -/
def bitsetRunsBackCard : Claim7 := { stood := { row := bitsetRunsBackRow, standIns := [], harness := (true, "9f75344ee87b60da3400f1649b1bc391c9d925c125e3eba47eb99789a332f2eb"), looks := false }, kinds := [], alts := [], laidByText := true, laidKinds := [.data], laidTests := true, laidLooks := .later }
def BitsetRunsBackCardSaid : Prop := Claim7.holds Tryd.pinned (.plain (OpenSpec.ofChange bitsetRunsBackSpec)) bitsetRunsBackCard

/-- THE TIED CARD OF 'torrentlaw4.BitsetNexts'. -/
def bitsetNextsCard : Claim7 := { stood := { row := bitsetNextsRow, standIns := [], harness := (true, "9f75344ee87b60da3400f1649b1bc391c9d925c125e3eba47eb99789a332f2eb"), looks := false }, kinds := [], alts := [], laidByText := true, laidKinds := [.data], laidTests := true, laidLooks := .later }
def BitsetNextsCardSaid : Prop := Claim7.holds Tryd.pinned (.plain (OpenSpec.ofChange bitsetNextsSpec)) bitsetNextsCard

/-- THE TIED CARD OF 'torrentlaw4.BitsetWalks'. -/
def bitsetWalksCard : Claim7 := { stood := { row := bitsetWalksRow, standIns := [], harness := (true, "9f75344ee87b60da3400f1649b1bc391c9d925c125e3eba47eb99789a332f2eb"), looks := false }, kinds := [], alts := [], laidByText := true, laidKinds := [.data], laidTests := true, laidLooks := .later }
def BitsetWalksCardSaid : Prop := Claim7.holds Tryd.pinned (.plain (OpenSpec.ofChange bitsetWalksSpec)) bitsetWalksCard

/-- THE SECOND FORM's CARD OF 'torrentlaw4.BitsetChecks'. -/
def bitsetChecksUptoCard : Claim7 := { stood := { row := bitsetChecksUptoRow, standIns := [], harness := (true, "9f75344ee87b60da3400f1649b1bc391c9d925c125e3eba47eb99789a332f2eb"), looks := false }, kinds := [], alts := [], laidByText := true, laidKinds := [.data], laidTests := true, laidLooks := .later }
def BitsetChecksUptoCardSaid : Prop := Claim7.holds Tryd.pinned (.plain (OpenSpec.upto bitsetChecksSpec)) bitsetChecksUptoCard

/-- THE SECOND FORM's CARD OF 'torrentlaw4.BitsetMakes'. -/
def bitsetMakesUptoCard : Claim7 := { stood := { row := bitsetMakesUptoRow, standIns := [], harness := (true, "9f75344ee87b60da3400f1649b1bc391c9d925c125e3eba47eb99789a332f2eb"), looks := false }, kinds := [], alts := [], laidByText := true, laidKinds := [.data], laidTests := true, laidLooks := .later }
def BitsetMakesUptoCardSaid : Prop := Claim7.holds Tryd.pinned (.plain (OpenSpec.upto bitsetMakesSpec)) bitsetMakesUptoCard

/-- THE SECOND FORM's CARD OF 'torrentlaw4.BitsetOfs'. -/
def bitsetOfsUptoCard : Claim7 := { stood := { row := bitsetOfsUptoRow, standIns := [], harness := (true, "9f75344ee87b60da3400f1649b1bc391c9d925c125e3eba47eb99789a332f2eb"), looks := false }, kinds := [], alts := [], laidByText := true, laidKinds := [.data], laidTests := true, laidLooks := .later }
def BitsetOfsUptoCardSaid : Prop := Claim7.holds Tryd.pinned (.plain (OpenSpec.upto bitsetOfsSpec)) bitsetOfsUptoCard

/-- THE SECOND FORM's CARD OF 'torrentlaw4.BitsetRunsBack'. -/
def bitsetRunsBackUptoCard : Claim7 := { stood := { row := bitsetRunsBackUptoRow, standIns := [], harness := (true, "9f75344ee87b60da3400f1649b1bc391c9d925c125e3eba47eb99789a332f2eb"), looks := false }, kinds := [], alts := [], laidByText := true, laidKinds := [.data], laidTests := true, laidLooks := .later }
def BitsetRunsBackUptoCardSaid : Prop := Claim7.holds Tryd.pinned (.plain (OpenSpec.upto bitsetRunsBackSpec)) bitsetRunsBackUptoCard

/-- THE SECOND FORM's CARD OF 'torrentlaw4.BitsetNexts'. -/
def bitsetNextsUptoCard : Claim7 := { stood := { row := bitsetNextsUptoRow, standIns := [], harness := (true, "9f75344ee87b60da3400f1649b1bc391c9d925c125e3eba47eb99789a332f2eb"), looks := false }, kinds := [], alts := [], laidByText := true, laidKinds := [.data], laidTests := true, laidLooks := .later }
def BitsetNextsUptoCardSaid : Prop := Claim7.holds Tryd.pinned (.plain (OpenSpec.upto bitsetNextsSpec)) bitsetNextsUptoCard

/-- THE SECOND FORM's CARD OF 'torrentlaw4.BitsetWalks'. -/
def bitsetWalksUptoCard : Claim7 := { stood := { row := bitsetWalksUptoRow, standIns := [], harness := (true, "9f75344ee87b60da3400f1649b1bc391c9d925c125e3eba47eb99789a332f2eb"), looks := false }, kinds := [], alts := [], laidByText := true, laidKinds := [.data], laidTests := true, laidLooks := .later }
def BitsetWalksUptoCardSaid : Prop := Claim7.holds Tryd.pinned (.plain (OpenSpec.upto bitsetWalksSpec)) bitsetWalksUptoCard
end Rows
end Go.Proofs.YtpojcdepifeniaaDoor
