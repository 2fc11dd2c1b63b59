/-
  DERIVED. GIVEN WITH THE SEED: THE CARDS: each row of YtfpokhcddjgfmabDoorRows.lean that lists a variable, with what it lists TIED to the program's text (the seventh form; the later family's looks); each row that meets fmt, with fmt's text TOLD by the authors' own Lean function (tested against real Go, not proved from fmt's source: count such statements apart). THE CARD IS WHAT COUNTS. Prove the row's statement (the work); the ties are given (YtfpokhcddjgfmabDoorTie.lean); close each card by the builder's one call (the guide's Derived/Test/ToyasCard.lean, 'card_holds'). Laid BY PROGRAM, IN A SANDBOX (cutbox-door.mjs). By AI agents, Wed Nov 11 2026. No macro, syntax, notation, axiom, sorry.
-/
import Derived.Test.YtfpokhcddjgfmabDoorRows
import GoSem.ClaimSeven
namespace Go.Proofs.YtfpokhcddjgfmabDoor
namespace Rows

/-- THE TIED CARD OF 'torrentlaw5.NamesSplits'. -/
def namesSplitsCard : Claim7 := { stood := { row := namesSplitsRow, standIns := [], harness := (true, "bf1b1c5a4edd77d631bac23a5c095156d6538707bb0dbb1b6c72fc1991d117d6"), looks := false }, kinds := [], alts := [], laidByText := true, laidKinds := [.data, .pinned], laidTests := true, laidLooks := .later }
def NamesSplitsCardSaid : Prop := Claim7.holds Tryd.pinned (.plain (OpenSpec.ofChange namesSplitsSpec)) namesSplitsCard

/-- THE TIED CARD OF 'torrentlaw5.NamesThereAndBack'. -/
def namesThereAndBackCard : Claim7 := { stood := { row := namesThereAndBackRow, standIns := [], harness := (true, "bf1b1c5a4edd77d631bac23a5c095156d6538707bb0dbb1b6c72fc1991d117d6"), looks := false }, kinds := [], alts := [], laidByText := true, laidKinds := [.data, .pinned], laidTests := true, laidLooks := .later }
def NamesThereAndBackCardSaid : Prop := Claim7.holds Tryd.pinned (.plain (OpenSpec.ofChange namesThereAndBackSpec)) namesThereAndBackCard

/-- THE TIED CARD OF 'torrentlaw5.NamesSigns'. -/
def namesSignsCard : Claim7 := { stood := { row := namesSignsRow, standIns := [], harness := (true, "bf1b1c5a4edd77d631bac23a5c095156d6538707bb0dbb1b6c72fc1991d117d6"), looks := false }, kinds := [], alts := [], laidByText := true, laidKinds := [.data, .pinned], laidTests := true, laidLooks := .later }
def NamesSignsCardSaid : Prop := Claim7.holds Tryd.pinned (.plain (OpenSpec.ofChange namesSignsSpec)) namesSignsCard

/-- THE TIED CARD OF 'torrentlaw5.NamesStayBelow'. -/
def namesStayBelowCard : Claim7 := { stood := { row := namesStayBelowRow, standIns := [], harness := (true, "bf1b1c5a4edd77d631bac23a5c095156d6538707bb0dbb1b6c72fc1991d117d6"), looks := false }, kinds := [], alts := [], laidByText := true, laidKinds := [.data, .pinned], laidTests := true, laidLooks := .later }
def NamesStayBelowCardSaid : Prop := Claim7.holds Tryd.pinned (.plain (OpenSpec.ofChange namesStayBelowSpec)) namesStayBelowCard

/-- THE TIED CARD OF 'torrentlaw5.NamesTotal'. -/
def namesTotalCard : Claim7 := { stood := { row := namesTotalRow, standIns := [], harness := (true, "bf1b1c5a4edd77d631bac23a5c095156d6538707bb0dbb1b6c72fc1991d117d6"), looks := false }, kinds := [], alts := [], laidByText := true, laidKinds := [.data, .pinned], laidTests := true, laidLooks := .later }
def NamesTotalCardSaid : Prop := Claim7.holds Tryd.pinned (.plain (OpenSpec.ofChange namesTotalSpec)) namesTotalCard

/-- THE SECOND FORM's CARD OF 'torrentlaw5.NamesSplits'. -/
def namesSplitsUptoCard : Claim7 := { stood := { row := namesSplitsUptoRow, standIns := [], harness := (true, "bf1b1c5a4edd77d631bac23a5c095156d6538707bb0dbb1b6c72fc1991d117d6"), looks := false }, kinds := [], alts := [], laidByText := true, laidKinds := [.data, .pinned], laidTests := true, laidLooks := .later }
def NamesSplitsUptoCardSaid : Prop := Claim7.holds Tryd.pinned (.plain (OpenSpec.upto namesSplitsSpec)) namesSplitsUptoCard

/-- THE SECOND FORM's CARD OF 'torrentlaw5.NamesThereAndBack'. -/
def namesThereAndBackUptoCard : Claim7 := { stood := { row := namesThereAndBackUptoRow, standIns := [], harness := (true, "bf1b1c5a4edd77d631bac23a5c095156d6538707bb0dbb1b6c72fc1991d117d6"), looks := false }, kinds := [], alts := [], laidByText := true, laidKinds := [.data, .pinned], laidTests := true, laidLooks := .later }
def NamesThereAndBackUptoCardSaid : Prop := Claim7.holds Tryd.pinned (.plain (OpenSpec.upto namesThereAndBackSpec)) namesThereAndBackUptoCard

/-- THE SECOND FORM's CARD OF 'torrentlaw5.NamesSigns'. -/
def namesSignsUptoCard : Claim7 := { stood := { row := namesSignsUptoRow, standIns := [], harness := (true, "bf1b1c5a4edd77d631bac23a5c095156d6538707bb0dbb1b6c72fc1991d117d6"), looks := false }, kinds := [], alts := [], laidByText := true, laidKinds := [.data, .pinned], laidTests := true, laidLooks := .later }
def NamesSignsUptoCardSaid : Prop := Claim7.holds Tryd.pinned (.plain (OpenSpec.upto namesSignsSpec)) namesSignsUptoCard

/-- THE SECOND FORM's CARD OF 'torrentlaw5.NamesStayBelow'. -/
def namesStayBelowUptoCard : Claim7 := { stood := { row := namesStayBelowUptoRow, standIns := [], harness := (true, "bf1b1c5a4edd77d631bac23a5c095156d6538707bb0dbb1b6c72fc1991d117d6"), looks := false }, kinds := [], alts := [], laidByText := true, laidKinds := [.data, .pinned], laidTests := true, laidLooks := .later }
def NamesStayBelowUptoCardSaid : Prop := Claim7.holds Tryd.pinned (.plain (OpenSpec.upto namesStayBelowSpec)) namesStayBelowUptoCard

/-- THE SECOND FORM's CARD OF 'torrentlaw5.NamesTotal'. -/
def namesTotalUptoCard : Claim7 := { stood := { row := namesTotalUptoRow, standIns := [], harness := (true, "bf1b1c5a4edd77d631bac23a5c095156d6538707bb0dbb1b6c72fc1991d117d6"), looks := false }, kinds := [], alts := [], laidByText := true, laidKinds := [.data, .pinned], laidTests := true, laidLooks := .later }
def NamesTotalUptoCardSaid : Prop := Claim7.holds Tryd.pinned (.plain (OpenSpec.upto namesTotalSpec)) namesTotalUptoCard
end Rows
end Go.Proofs.YtfpokhcddjgfmabDoor
