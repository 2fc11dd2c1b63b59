/-
  DERIVED. GIVEN WITH THE SEED: THE CARDS: each row of YtfjjpbebnoghmaaGreatDoorRows.lean that lists a variable, with what it lists TIED to the program's text (the seventh form; the later family's looks); each row that meets fmt, with fmt's text TOLD by the authors' own Lean function (tested against real Go, not proved from fmt's source: count such statements apart). THE CARD IS WHAT COUNTS. Prove the row's statement (the work); the ties are given (YtfjjpbebnoghmaaGreatDoorTie.lean); close each card by the builder's one call (the guide's Derived/Test/ToyasCard.lean, 'card_holds'). Laid BY PROGRAM, IN A SANDBOX (cutbox-door.mjs). By AI agents, Wed Nov 11 2026. No macro, syntax, notation, axiom, sorry.
-/
import Derived.Test.YtfjjpbebnoghmaaGreatDoorRows
import GoSem.ClaimSeven
namespace Go.Proofs.YtfjjpbebnoghmaaGreatDoor
namespace Rows

/-- THE TIED CARD OF 'torrentlaw17.PeerFeeds'. -/
def peerFeedsCard : Claim7 := { stood := { row := peerFeedsRow, standIns := [], harness := (true, "e51baf89b1caf1ee2c4e1ec6e3db15fbcbba511f0ccaafa04354bd905f621610"), looks := false }, kinds := [], alts := [], laidByText := true, laidKinds := [.data, .data], laidTests := true, laidLooks := .later }
def PeerFeedsCardSaid : Prop := Claim7.holds Tryz.pinned (.plain (OpenSpec.ofChange peerFeedsSpec)) peerFeedsCard

/-- THE TIED CARD OF 'torrentlaw17.PeerSays'. -/
def peerSaysCard : Claim7 := { stood := { row := peerSaysRow, standIns := [], harness := (true, "e51baf89b1caf1ee2c4e1ec6e3db15fbcbba511f0ccaafa04354bd905f621610"), looks := false }, kinds := [], alts := [], laidByText := true, laidKinds := [.data, .data], laidTests := true, laidLooks := .later }
def PeerSaysCardSaid : Prop := Claim7.holds Tryz.pinned (.plain (OpenSpec.ofChange peerSaysSpec)) peerSaysCard

/-- THE TIED CARD OF 'torrentlaw17.PeerStates'. -/
def peerStatesCard : Claim7 := { stood := { row := peerStatesRow, standIns := [], harness := (true, "e51baf89b1caf1ee2c4e1ec6e3db15fbcbba511f0ccaafa04354bd905f621610"), looks := false }, kinds := [], alts := [], laidByText := true, laidKinds := [.data, .data], laidTests := true, laidLooks := .later }
def PeerStatesCardSaid : Prop := Claim7.holds Tryz.pinned (.plain (OpenSpec.ofChange peerStatesSpec)) peerStatesCard

/-- THE TIED CARD OF 'torrentlaw17.PeerPlays'. -/
def peerPlaysCard : Claim7 := { stood := { row := peerPlaysRow, standIns := [], harness := (true, "e51baf89b1caf1ee2c4e1ec6e3db15fbcbba511f0ccaafa04354bd905f621610"), looks := false }, kinds := [], alts := [], laidByText := true, laidKinds := [.data, .data], laidTests := true, laidLooks := .later }
def PeerPlaysCardSaid : Prop := Claim7.holds Tryz.pinned (.plain (OpenSpec.ofChange peerPlaysSpec)) peerPlaysCard

/-- THE SECOND FORM's CARD OF 'torrentlaw17.PeerFeeds'. -/
def peerFeedsUptoCard : Claim7 := { stood := { row := peerFeedsUptoRow, standIns := [], harness := (true, "e51baf89b1caf1ee2c4e1ec6e3db15fbcbba511f0ccaafa04354bd905f621610"), looks := false }, kinds := [], alts := [], laidByText := true, laidKinds := [.data, .data], laidTests := true, laidLooks := .later }
def PeerFeedsUptoCardSaid : Prop := Claim7.holds Tryz.pinned (.plain (OpenSpec.upto peerFeedsSpec)) peerFeedsUptoCard

/-- THE SECOND FORM's CARD OF 'torrentlaw17.PeerSays'. -/
def peerSaysUptoCard : Claim7 := { stood := { row := peerSaysUptoRow, standIns := [], harness := (true, "e51baf89b1caf1ee2c4e1ec6e3db15fbcbba511f0ccaafa04354bd905f621610"), looks := false }, kinds := [], alts := [], laidByText := true, laidKinds := [.data, .data], laidTests := true, laidLooks := .later }
def PeerSaysUptoCardSaid : Prop := Claim7.holds Tryz.pinned (.plain (OpenSpec.upto peerSaysSpec)) peerSaysUptoCard

/-- THE SECOND FORM's CARD OF 'torrentlaw17.PeerStates'. -/
def peerStatesUptoCard : Claim7 := { stood := { row := peerStatesUptoRow, standIns := [], harness := (true, "e51baf89b1caf1ee2c4e1ec6e3db15fbcbba511f0ccaafa04354bd905f621610"), looks := false }, kinds := [], alts := [], laidByText := true, laidKinds := [.data, .data], laidTests := true, laidLooks := .later }
def PeerStatesUptoCardSaid : Prop := Claim7.holds Tryz.pinned (.plain (OpenSpec.upto peerStatesSpec)) peerStatesUptoCard

/-- THE SECOND FORM's CARD OF 'torrentlaw17.PeerPlays'. -/
def peerPlaysUptoCard : Claim7 := { stood := { row := peerPlaysUptoRow, standIns := [], harness := (true, "e51baf89b1caf1ee2c4e1ec6e3db15fbcbba511f0ccaafa04354bd905f621610"), looks := false }, kinds := [], alts := [], laidByText := true, laidKinds := [.data, .data], laidTests := true, laidLooks := .later }
def PeerPlaysUptoCardSaid : Prop := Claim7.holds Tryz.pinned (.plain (OpenSpec.upto peerPlaysSpec)) peerPlaysUptoCard
end Rows
end Go.Proofs.YtfjjpbebnoghmaaGreatDoor
