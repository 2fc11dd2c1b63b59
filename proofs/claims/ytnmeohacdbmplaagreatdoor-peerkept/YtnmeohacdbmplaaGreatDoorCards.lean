/-
  DERIVED. GIVEN WITH THE SEED: THE CARDS: each row of YtnmeohacdbmplaaGreatDoorRows.lean that lists a variable, with what it lists TIED to the program's text (the seventh form; the later family's looks); each row that meets fmt, with fmt's text TOLD by the authors' own Lean function (tested against real Go, not proved from fmt's source: count such statements apart). THE CARD IS WHAT COUNTS. Prove the row's statement (the work); the ties are given (YtnmeohacdbmplaaGreatDoorTie.lean); close each card by the builder's one call (the guide's Derived/Test/ToyasCard.lean, 'card_holds'). Laid BY PROGRAM, IN A SANDBOX (cutbox-door.mjs). By AI agents, Wed Nov 11 2026. No macro, syntax, notation, axiom, sorry.
-/
import Derived.Test.YtnmeohacdbmplaaGreatDoorRows
import GoSem.ClaimSeven
namespace Go.Proofs.YtnmeohacdbmplaaGreatDoor
namespace Rows

/-- THE TIED CARD OF 'torrentlaw17.PeerStranger'. -/
def peerStrangerCard : Claim7 := { stood := { row := peerStrangerRow, standIns := [], harness := (true, "43861a822815882f6e7bc72f108e81f2f7874dca2aba6729f3610d9548e699f0"), looks := false }, kinds := [], alts := [], laidByText := true, laidKinds := [.data, .data], laidTests := true, laidLooks := .later }
def PeerStrangerCardSaid : Prop := Claim7.holds Tryz.pinned (.plain (OpenSpec.ofChange peerStrangerSpec)) peerStrangerCard

/-- THE TIED CARD OF 'torrentlaw17.PeerBreaks'. -/
def peerBreaksCard : Claim7 := { stood := { row := peerBreaksRow, standIns := [], harness := (true, "43861a822815882f6e7bc72f108e81f2f7874dca2aba6729f3610d9548e699f0"), looks := false }, kinds := [], alts := [], laidByText := true, laidKinds := [.data, .data], laidTests := true, laidLooks := .later }
def PeerBreaksCardSaid : Prop := Claim7.holds Tryz.pinned (.plain (OpenSpec.ofChange peerBreaksSpec)) peerBreaksCard

/-- THE TIED CARD OF 'torrentlaw17.PeerLegal'. -/
def peerLegalCard : Claim7 := { stood := { row := peerLegalRow, standIns := [], harness := (true, "43861a822815882f6e7bc72f108e81f2f7874dca2aba6729f3610d9548e699f0"), looks := false }, kinds := [], alts := [], laidByText := true, laidKinds := [.data, .data], laidTests := true, laidLooks := .later }
def PeerLegalCardSaid : Prop := Claim7.holds Tryz.pinned (.plain (OpenSpec.ofChange peerLegalSpec)) peerLegalCard

/-- THE TIED CARD OF 'torrentlaw17.PeerCutting'. -/
def peerCuttingCard : Claim7 := { stood := { row := peerCuttingRow, standIns := [], harness := (true, "43861a822815882f6e7bc72f108e81f2f7874dca2aba6729f3610d9548e699f0"), looks := false }, kinds := [], alts := [], laidByText := true, laidKinds := [.data, .data], laidTests := true, laidLooks := .later }
def PeerCuttingCardSaid : Prop := Claim7.holds Tryz.pinned (.plain (OpenSpec.ofChange peerCuttingSpec)) peerCuttingCard

/-- THE TIED CARD OF 'torrentlaw17.PeerTalk'. -/
def peerTalkCard : Claim7 := { stood := { row := peerTalkRow, standIns := [], harness := (true, "43861a822815882f6e7bc72f108e81f2f7874dca2aba6729f3610d9548e699f0"), looks := false }, kinds := [], alts := [], laidByText := true, laidKinds := [.data, .data], laidTests := true, laidLooks := .later }
def PeerTalkCardSaid : Prop := Claim7.holds Tryz.pinned (.plain (OpenSpec.ofChange peerTalkSpec)) peerTalkCard

/-- THE TIED CARD OF 'torrentlaw17.PeerKept'. -/
def peerKeptCard : Claim7 := { stood := { row := peerKeptRow, standIns := [], harness := (true, "43861a822815882f6e7bc72f108e81f2f7874dca2aba6729f3610d9548e699f0"), looks := false }, kinds := [], alts := [], laidByText := true, laidKinds := [.data, .data], laidTests := true, laidLooks := .later }
def PeerKeptCardSaid : Prop := Claim7.holds Tryz.pinned (.plain (OpenSpec.ofChange peerKeptSpec)) peerKeptCard

/-- THE SECOND FORM's CARD OF 'torrentlaw17.PeerStranger'. -/
def peerStrangerUptoCard : Claim7 := { stood := { row := peerStrangerUptoRow, standIns := [], harness := (true, "43861a822815882f6e7bc72f108e81f2f7874dca2aba6729f3610d9548e699f0"), looks := false }, kinds := [], alts := [], laidByText := true, laidKinds := [.data, .data], laidTests := true, laidLooks := .later }
def PeerStrangerUptoCardSaid : Prop := Claim7.holds Tryz.pinned (.plain (OpenSpec.upto peerStrangerSpec)) peerStrangerUptoCard

/-- THE SECOND FORM's CARD OF 'torrentlaw17.PeerBreaks'. -/
def peerBreaksUptoCard : Claim7 := { stood := { row := peerBreaksUptoRow, standIns := [], harness := (true, "43861a822815882f6e7bc72f108e81f2f7874dca2aba6729f3610d9548e699f0"), looks := false }, kinds := [], alts := [], laidByText := true, laidKinds := [.data, .data], laidTests := true, laidLooks := .later }
def PeerBreaksUptoCardSaid : Prop := Claim7.holds Tryz.pinned (.plain (OpenSpec.upto peerBreaksSpec)) peerBreaksUptoCard

/-- THE SECOND FORM's CARD OF 'torrentlaw17.PeerLegal'. -/
def peerLegalUptoCard : Claim7 := { stood := { row := peerLegalUptoRow, standIns := [], harness := (true, "43861a822815882f6e7bc72f108e81f2f7874dca2aba6729f3610d9548e699f0"), looks := false }, kinds := [], alts := [], laidByText := true, laidKinds := [.data, .data], laidTests := true, laidLooks := .later }
def PeerLegalUptoCardSaid : Prop := Claim7.holds Tryz.pinned (.plain (OpenSpec.upto peerLegalSpec)) peerLegalUptoCard

/-- THE SECOND FORM's CARD OF 'torrentlaw17.PeerCutting'. -/
def peerCuttingUptoCard : Claim7 := { stood := { row := peerCuttingUptoRow, standIns := [], harness := (true, "43861a822815882f6e7bc72f108e81f2f7874dca2aba6729f3610d9548e699f0"), looks := false }, kinds := [], alts := [], laidByText := true, laidKinds := [.data, .data], laidTests := true, laidLooks := .later }
def PeerCuttingUptoCardSaid : Prop := Claim7.holds Tryz.pinned (.plain (OpenSpec.upto peerCuttingSpec)) peerCuttingUptoCard

/-- THE SECOND FORM's CARD OF 'torrentlaw17.PeerTalk'. -/
def peerTalkUptoCard : Claim7 := { stood := { row := peerTalkUptoRow, standIns := [], harness := (true, "43861a822815882f6e7bc72f108e81f2f7874dca2aba6729f3610d9548e699f0"), looks := false }, kinds := [], alts := [], laidByText := true, laidKinds := [.data, .data], laidTests := true, laidLooks := .later }
def PeerTalkUptoCardSaid : Prop := Claim7.holds Tryz.pinned (.plain (OpenSpec.upto peerTalkSpec)) peerTalkUptoCard

/-- THE SECOND FORM's CARD OF 'torrentlaw17.PeerKept'. -/
def peerKeptUptoCard : Claim7 := { stood := { row := peerKeptUptoRow, standIns := [], harness := (true, "43861a822815882f6e7bc72f108e81f2f7874dca2aba6729f3610d9548e699f0"), looks := false }, kinds := [], alts := [], laidByText := true, laidKinds := [.data, .data], laidTests := true, laidLooks := .later }
def PeerKeptUptoCardSaid : Prop := Claim7.holds Tryz.pinned (.plain (OpenSpec.upto peerKeptSpec)) peerKeptUptoCard
end Rows
end Go.Proofs.YtnmeohacdbmplaaGreatDoor
