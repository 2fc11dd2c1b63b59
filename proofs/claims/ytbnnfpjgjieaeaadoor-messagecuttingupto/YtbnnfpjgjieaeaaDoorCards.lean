/-
  DERIVED. GIVEN WITH THE SEED: THE CARDS: each row of YtbnnfpjgjieaeaaDoorRows.lean that lists a variable, with what it lists TIED to the program's text (the seventh form; the later family's looks); each row that meets fmt, with fmt's text TOLD by the authors' own Lean function (tested against real Go, not proved from fmt's source: count such statements apart). THE CARD IS WHAT COUNTS. Prove the row's statement (the work); the ties are given (YtbnnfpjgjieaeaaDoorTie.lean); close each card by the builder's one call (the guide's Derived/Test/ToyasCard.lean, 'card_holds'). Laid BY PROGRAM, IN A SANDBOX (cutbox-door.mjs). By AI agents, Wed Nov 11 2026. No macro, syntax, notation, axiom, sorry.
-/
import Derived.Test.YtbnnfpjgjieaeaaDoorRows
import GoSem.ClaimSeven
namespace Go.Proofs.YtbnnfpjgjieaeaaDoor
namespace Rows

/-- THE TIED CARD OF 'torrentlaw11.MessageCutting'. -/
def messageCuttingCard : Claim7 := { stood := { row := messageCuttingRow, standIns := [], harness := (true, "c88b01a6a7e19698bd4918b5a869b9f052696ea2c2220d97490365abce7b980f"), looks := false }, kinds := [], alts := [], laidByText := true, laidKinds := [.data], laidTests := true, laidLooks := .later }
def MessageCuttingCardSaid : Prop := Claim7.holds Tryd.pinned (.plain (OpenSpec.ofChange messageCuttingSpec)) messageCuttingCard

/-- THE TIED CARD OF 'torrentlaw11.MessageWires'. -/
def messageWiresCard : Claim7 := { stood := { row := messageWiresRow, standIns := [], harness := (true, "c88b01a6a7e19698bd4918b5a869b9f052696ea2c2220d97490365abce7b980f"), looks := false }, kinds := [], alts := [], laidByText := true, laidKinds := [.data], laidTests := true, laidLooks := .later }
def MessageWiresCardSaid : Prop := Claim7.holds Tryd.pinned (.plain (OpenSpec.ofChange messageWiresSpec)) messageWiresCard

/-- THE SECOND FORM's CARD OF 'torrentlaw11.MessageCutting'. -/
def messageCuttingUptoCard : Claim7 := { stood := { row := messageCuttingUptoRow, standIns := [], harness := (true, "c88b01a6a7e19698bd4918b5a869b9f052696ea2c2220d97490365abce7b980f"), looks := false }, kinds := [], alts := [], laidByText := true, laidKinds := [.data], laidTests := true, laidLooks := .later }
def MessageCuttingUptoCardSaid : Prop := Claim7.holds Tryd.pinned (.plain (OpenSpec.upto messageCuttingSpec)) messageCuttingUptoCard

/-- THE SECOND FORM's CARD OF 'torrentlaw11.MessageWires'. -/
def messageWiresUptoCard : Claim7 := { stood := { row := messageWiresUptoRow, standIns := [], harness := (true, "c88b01a6a7e19698bd4918b5a869b9f052696ea2c2220d97490365abce7b980f"), looks := false }, kinds := [], alts := [], laidByText := true, laidKinds := [.data], laidTests := true, laidLooks := .later }
def MessageWiresUptoCardSaid : Prop := Claim7.holds Tryd.pinned (.plain (OpenSpec.upto messageWiresSpec)) messageWiresUptoCard
end Rows
end Go.Proofs.YtbnnfpjgjieaeaaDoor
