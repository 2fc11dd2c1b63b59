/-
  DERIVED. GIVEN WITH THE SEED: THE CARDS: each row of YtdlnnnlmlaploaaDoorRows.lean that lists a variable, with what it lists TIED to the program's text (the seventh form; the later family's looks); each row that meets fmt, with fmt's text TOLD by the authors' own Lean function (tested against real Go, not proved from fmt's source: count such statements apart). THE CARD IS WHAT COUNTS. Prove the row's statement (the work); the ties are given (YtdlnnnlmlaploaaDoorTie.lean); close each card by the builder's one call (the guide's Derived/Test/ToyasCard.lean, 'card_holds'). Laid BY PROGRAM, IN A SANDBOX (cutbox-door.mjs). By AI agents, Wed Nov 11 2026. No macro, syntax, notation, axiom, sorry.
-/
import Derived.Test.YtdlnnnlmlaploaaDoorRows
import GoSem.ClaimSeven
namespace Go.Proofs.YtdlnnnlmlaploaaDoor
namespace Rows

/-- THE TIED CARD OF 'torrentlaw3.SpanBack'. -/
def spanBackCard : Claim7 := { stood := { row := spanBackRow, standIns := [], harness := (true, "ace84a37888ac1f547b7c4b0d367cfd181d09974f3871faf43b09661f8d15648"), looks := true }, kinds := [], alts := [], laidByText := true, laidKinds := [.data, .data, .data, .sentinel, .sentinel], laidTests := true, laidLooks := .later }
def SpanBackCardSaid : Prop := Claim7.holds Tryd.pinned (.plain (OpenSpec.ofChange spanBackSpec)) spanBackCard

/-- THE TIED CARD OF 'torrentlaw3.SpanInfoStays'. -/
def spanInfoStaysCard : Claim7 := { stood := { row := spanInfoStaysRow, standIns := [], harness := (true, "ace84a37888ac1f547b7c4b0d367cfd181d09974f3871faf43b09661f8d15648"), looks := true }, kinds := [], alts := [], laidByText := true, laidKinds := [.data, .data, .data, .sentinel, .sentinel], laidTests := true, laidLooks := .later }
def SpanInfoStaysCardSaid : Prop := Claim7.holds Tryd.pinned (.plain (OpenSpec.ofChange spanInfoStaysSpec)) spanInfoStaysCard

/-- THE TIED CARD OF 'torrentlaw3.SpanSkims'. -/
def spanSkimsCard : Claim7 := { stood := { row := spanSkimsRow, standIns := [], harness := (true, "ace84a37888ac1f547b7c4b0d367cfd181d09974f3871faf43b09661f8d15648"), looks := true }, kinds := [], alts := [], laidByText := true, laidKinds := [.data, .data, .data, .sentinel, .sentinel], laidTests := true, laidLooks := .later }
def SpanSkimsCardSaid : Prop := Claim7.holds Tryd.pinned (.plain (OpenSpec.ofChange spanSkimsSpec)) spanSkimsCard

/-- THE TIED CARD OF 'torrentlaw3.SpanInfos'. -/
def spanInfosCard : Claim7 := { stood := { row := spanInfosRow, standIns := [], harness := (true, "ace84a37888ac1f547b7c4b0d367cfd181d09974f3871faf43b09661f8d15648"), looks := true }, kinds := [], alts := [], laidByText := true, laidKinds := [.data, .data, .data, .sentinel, .sentinel], laidTests := true, laidLooks := .later }
def SpanInfosCardSaid : Prop := Claim7.holds Tryd.pinned (.plain (OpenSpec.ofChange spanInfosSpec)) spanInfosCard

/-- THE SECOND FORM's CARD OF 'torrentlaw3.SpanBack'. -/
def spanBackUptoCard : Claim7 := { stood := { row := spanBackUptoRow, standIns := [], harness := (true, "ace84a37888ac1f547b7c4b0d367cfd181d09974f3871faf43b09661f8d15648"), looks := true }, kinds := [], alts := [], laidByText := true, laidKinds := [.data, .data, .data, .sentinel, .sentinel], laidTests := true, laidLooks := .later }
def SpanBackUptoCardSaid : Prop := Claim7.holds Tryd.pinned (.plain (OpenSpec.upto spanBackSpec)) spanBackUptoCard

/-- THE SECOND FORM's CARD OF 'torrentlaw3.SpanInfoStays'. -/
def spanInfoStaysUptoCard : Claim7 := { stood := { row := spanInfoStaysUptoRow, standIns := [], harness := (true, "ace84a37888ac1f547b7c4b0d367cfd181d09974f3871faf43b09661f8d15648"), looks := true }, kinds := [], alts := [], laidByText := true, laidKinds := [.data, .data, .data, .sentinel, .sentinel], laidTests := true, laidLooks := .later }
def SpanInfoStaysUptoCardSaid : Prop := Claim7.holds Tryd.pinned (.plain (OpenSpec.upto spanInfoStaysSpec)) spanInfoStaysUptoCard

/-- THE SECOND FORM's CARD OF 'torrentlaw3.SpanSkims'. -/
def spanSkimsUptoCard : Claim7 := { stood := { row := spanSkimsUptoRow, standIns := [], harness := (true, "ace84a37888ac1f547b7c4b0d367cfd181d09974f3871faf43b09661f8d15648"), looks := true }, kinds := [], alts := [], laidByText := true, laidKinds := [.data, .data, .data, .sentinel, .sentinel], laidTests := true, laidLooks := .later }
def SpanSkimsUptoCardSaid : Prop := Claim7.holds Tryd.pinned (.plain (OpenSpec.upto spanSkimsSpec)) spanSkimsUptoCard

/-- THE SECOND FORM's CARD OF 'torrentlaw3.SpanInfos'. -/
def spanInfosUptoCard : Claim7 := { stood := { row := spanInfosUptoRow, standIns := [], harness := (true, "ace84a37888ac1f547b7c4b0d367cfd181d09974f3871faf43b09661f8d15648"), looks := true }, kinds := [], alts := [], laidByText := true, laidKinds := [.data, .data, .data, .sentinel, .sentinel], laidTests := true, laidLooks := .later }
def SpanInfosUptoCardSaid : Prop := Claim7.holds Tryd.pinned (.plain (OpenSpec.upto spanInfosSpec)) spanInfosUptoCard
end Rows
end Go.Proofs.YtdlnnnlmlaploaaDoor
