/-
  DERIVED. GIVEN WITH THE SEED: THE CARDS: each row of YtdlnnnlmlaploabGreatDoorRows.lean that lists a variable, with what it lists TIED to the program's text (the seventh form; the later family's looks); each row that meets fmt, with fmt's text TOLD by the authors' own Lean function (tested against real Go, not proved from fmt's source: count such statements apart). THE CARD IS WHAT COUNTS. Prove the row's statement (the work); the ties are given (YtdlnnnlmlaploabGreatDoorTie.lean); close each card by the builder's one call (the guide's Derived/Test/ToyasCard.lean, 'card_holds'). Laid BY PROGRAM, IN A SANDBOX (cutbox-door.mjs). By AI agents, Wed Nov 11 2026. No macro, syntax, notation, axiom, sorry.
-/
import Derived.Test.YtdlnnnlmlaploabGreatDoorRows
import GoSem.ClaimSeven
namespace Go.Proofs.YtdlnnnlmlaploabGreatDoor
namespace Rows

/-- THE TIED CARD OF 'torrentlaw3.SpanPuts'. -/
def spanPutsCard : Claim7 := { stood := { row := spanPutsRow, standIns := [], harness := (true, "03b8eb61ab3db14cd674031845c430ea086ec280be661f6a0c6fbedf48582132"), looks := true }, kinds := [], alts := [], laidByText := true, laidKinds := [.data, .data, .data, .sentinel, .sentinel], laidTests := true, laidLooks := .later }
def SpanPutsCardSaid : Prop := Claim7.holds Tryz.pinned (.plain (OpenSpec.ofChange spanPutsSpec)) spanPutsCard

/-- THE TIED CARD OF 'torrentlaw3.SpanReads'. -/
def spanReadsCard : Claim7 := { stood := { row := spanReadsRow, standIns := [], harness := (true, "03b8eb61ab3db14cd674031845c430ea086ec280be661f6a0c6fbedf48582132"), looks := true }, kinds := [], alts := [], laidByText := true, laidKinds := [.data, .data, .data, .sentinel, .sentinel], laidTests := true, laidLooks := .later }
def SpanReadsCardSaid : Prop := Claim7.holds Tryz.pinned (.plain (OpenSpec.ofChange spanReadsSpec)) spanReadsCard

/-- THE SECOND FORM's CARD OF 'torrentlaw3.SpanPuts'. -/
def spanPutsUptoCard : Claim7 := { stood := { row := spanPutsUptoRow, standIns := [], harness := (true, "03b8eb61ab3db14cd674031845c430ea086ec280be661f6a0c6fbedf48582132"), looks := true }, kinds := [], alts := [], laidByText := true, laidKinds := [.data, .data, .data, .sentinel, .sentinel], laidTests := true, laidLooks := .later }
def SpanPutsUptoCardSaid : Prop := Claim7.holds Tryz.pinned (.plain (OpenSpec.upto spanPutsSpec)) spanPutsUptoCard

/-- THE SECOND FORM's CARD OF 'torrentlaw3.SpanReads'. -/
def spanReadsUptoCard : Claim7 := { stood := { row := spanReadsUptoRow, standIns := [], harness := (true, "03b8eb61ab3db14cd674031845c430ea086ec280be661f6a0c6fbedf48582132"), looks := true }, kinds := [], alts := [], laidByText := true, laidKinds := [.data, .data, .data, .sentinel, .sentinel], laidTests := true, laidLooks := .later }
def SpanReadsUptoCardSaid : Prop := Claim7.holds Tryz.pinned (.plain (OpenSpec.upto spanReadsSpec)) spanReadsUptoCard
end Rows
end Go.Proofs.YtdlnnnlmlaploabGreatDoor
