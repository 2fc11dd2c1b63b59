/-
  DERIVED. GIVEN WITH THE SEED: THE CARDS: each row of YtdlnnnlmlaploabDoorRows.lean that lists a variable, with what it lists TIED to the program's text (the seventh form; the later family's looks); each row that meets fmt, with fmt's text TOLD by the authors' own Lean function (tested against real Go, not proved from fmt's source: count such statements apart). THE CARD IS WHAT COUNTS. Prove the row's statement (the work); the ties are given (YtdlnnnlmlaploabDoorTie.lean); close each card by the builder's one call (the guide's Derived/Test/ToyasCard.lean, 'card_holds'). Laid BY PROGRAM, IN A SANDBOX (cutbox-door.mjs). By AI agents, Wed Nov 11 2026. No macro, syntax, notation, axiom, sorry.
-/
import Derived.Test.YtdlnnnlmlaploabDoorRows
import GoSem.ClaimSeven
namespace Go.Proofs.YtdlnnnlmlaploabDoor
namespace Rows

/-- THE TIED CARD OF 'torrentlaw3.SpanPutFinds'. -/
def spanPutFindsCard : Claim7 := { stood := { row := spanPutFindsRow, standIns := [], harness := (true, "8b3a45ffab48088333d5efd4d9904fb932bba5c7f7d6cb586776ccf4780d1499"), looks := true }, kinds := [], alts := [], laidByText := true, laidKinds := [.data, .data, .data, .sentinel, .sentinel], laidTests := true, laidLooks := .later }
def SpanPutFindsCardSaid : Prop := Claim7.holds Tryd.pinned (.plain (OpenSpec.ofChange spanPutFindsSpec)) spanPutFindsCard

/-- THE TIED CARD OF 'torrentlaw3.SpanFinds'. -/
def spanFindsCard : Claim7 := { stood := { row := spanFindsRow, standIns := [], harness := (true, "8b3a45ffab48088333d5efd4d9904fb932bba5c7f7d6cb586776ccf4780d1499"), looks := true }, kinds := [], alts := [], laidByText := true, laidKinds := [.data, .data, .data, .sentinel, .sentinel], laidTests := true, laidLooks := .later }
def SpanFindsCardSaid : Prop := Claim7.holds Tryd.pinned (.plain (OpenSpec.ofChange spanFindsSpec)) spanFindsCard

/-- THE TIED CARD OF 'torrentlaw3.SpanCuts'. -/
def spanCutsCard : Claim7 := { stood := { row := spanCutsRow, standIns := [], harness := (true, "8b3a45ffab48088333d5efd4d9904fb932bba5c7f7d6cb586776ccf4780d1499"), looks := true }, kinds := [], alts := [], laidByText := true, laidKinds := [.data, .data, .data, .sentinel, .sentinel], laidTests := true, laidLooks := .later }
def SpanCutsCardSaid : Prop := Claim7.holds Tryd.pinned (.plain (OpenSpec.ofChange spanCutsSpec)) spanCutsCard

/-- THE TIED CARD OF 'torrentlaw3.SpanParts'. -/
def spanPartsCard : Claim7 := { stood := { row := spanPartsRow, standIns := [], harness := (true, "8b3a45ffab48088333d5efd4d9904fb932bba5c7f7d6cb586776ccf4780d1499"), looks := true }, kinds := [], alts := [], laidByText := true, laidKinds := [.data, .data, .data, .sentinel, .sentinel], laidTests := true, laidLooks := .later }
def SpanPartsCardSaid : Prop := Claim7.holds Tryd.pinned (.plain (OpenSpec.ofChange spanPartsSpec)) spanPartsCard

/-- THE SECOND FORM's CARD OF 'torrentlaw3.SpanPutFinds'. -/
def spanPutFindsUptoCard : Claim7 := { stood := { row := spanPutFindsUptoRow, standIns := [], harness := (true, "8b3a45ffab48088333d5efd4d9904fb932bba5c7f7d6cb586776ccf4780d1499"), looks := true }, kinds := [], alts := [], laidByText := true, laidKinds := [.data, .data, .data, .sentinel, .sentinel], laidTests := true, laidLooks := .later }
def SpanPutFindsUptoCardSaid : Prop := Claim7.holds Tryd.pinned (.plain (OpenSpec.upto spanPutFindsSpec)) spanPutFindsUptoCard

/-- THE SECOND FORM's CARD OF 'torrentlaw3.SpanFinds'. -/
def spanFindsUptoCard : Claim7 := { stood := { row := spanFindsUptoRow, standIns := [], harness := (true, "8b3a45ffab48088333d5efd4d9904fb932bba5c7f7d6cb586776ccf4780d1499"), looks := true }, kinds := [], alts := [], laidByText := true, laidKinds := [.data, .data, .data, .sentinel, .sentinel], laidTests := true, laidLooks := .later }
def SpanFindsUptoCardSaid : Prop := Claim7.holds Tryd.pinned (.plain (OpenSpec.upto spanFindsSpec)) spanFindsUptoCard

/-- THE SECOND FORM's CARD OF 'torrentlaw3.SpanCuts'. -/
def spanCutsUptoCard : Claim7 := { stood := { row := spanCutsUptoRow, standIns := [], harness := (true, "8b3a45ffab48088333d5efd4d9904fb932bba5c7f7d6cb586776ccf4780d1499"), looks := true }, kinds := [], alts := [], laidByText := true, laidKinds := [.data, .data, .data, .sentinel, .sentinel], laidTests := true, laidLooks := .later }
def SpanCutsUptoCardSaid : Prop := Claim7.holds Tryd.pinned (.plain (OpenSpec.upto spanCutsSpec)) spanCutsUptoCard

/-- THE SECOND FORM's CARD OF 'torrentlaw3.SpanParts'. -/
def spanPartsUptoCard : Claim7 := { stood := { row := spanPartsUptoRow, standIns := [], harness := (true, "8b3a45ffab48088333d5efd4d9904fb932bba5c7f7d6cb586776ccf4780d1499"), looks := true }, kinds := [], alts := [], laidByText := true, laidKinds := [.data, .data, .data, .sentinel, .sentinel], laidTests := true, laidLooks := .later }
def SpanPartsUptoCardSaid : Prop := Claim7.holds Tryd.pinned (.plain (OpenSpec.upto spanPartsSpec)) spanPartsUptoCard
end Rows
end Go.Proofs.YtdlnnnlmlaploabDoor
