/-
  DERIVED. GIVEN WITH THE SEED: THE CARDS: each row of YtehgcchhmecknaaDoorRows.lean that lists a variable, with what it lists TIED to the program's text (the seventh form; the later family's looks); each row that meets fmt, with fmt's text TOLD by the authors' own Lean function (tested against real Go, not proved from fmt's source: count such statements apart). THE CARD IS WHAT COUNTS. Prove the row's statement (the work); the ties are given (YtehgcchhmecknaaDoorTie.lean); close each card by the builder's one call (the guide's Derived/Test/ToyasCard.lean, 'card_holds'). Laid BY PROGRAM, IN A SANDBOX (cutbox-door.mjs). By AI agents, Wed Nov 11 2026. No macro, syntax, notation, axiom, sorry.
-/
import Derived.Test.YtehgcchhmecknaaDoorRows
import GoSem.ClaimSeven
namespace Go.Proofs.YtehgcchhmecknaaDoor
namespace Rows

/-- THE TIED CARD OF 'torrentlaw2.BencodeEncodes'. -/
def bencodeEncodesCard : Claim7 := { stood := { row := bencodeEncodesRow, standIns := [], harness := (true, "330050d4e865bfc0d1b709b77d1acabdb9e9609e4985945068ab5d01c3a157c2"), looks := true }, kinds := [], alts := [], laidByText := true, laidKinds := [.data, .data, .data], laidTests := true, laidLooks := .later }
def BencodeEncodesCardSaid : Prop := Claim7.holds Tryd.pinned (.plain (OpenSpec.ofChange bencodeEncodesSpec)) bencodeEncodesCard

/-- THE TIED CARD OF 'torrentlaw2.BencodePrefixes'. -/
def bencodePrefixesCard : Claim7 := { stood := { row := bencodePrefixesRow, standIns := [], harness := (true, "330050d4e865bfc0d1b709b77d1acabdb9e9609e4985945068ab5d01c3a157c2"), looks := true }, kinds := [], alts := [], laidByText := true, laidKinds := [.data, .data, .data, .sentinel, .sentinel], laidTests := true, laidLooks := .later }
def BencodePrefixesCardSaid : Prop := Claim7.holds Tryd.pinned (.plain (OpenSpec.ofChange bencodePrefixesSpec)) bencodePrefixesCard

/-- THE SECOND FORM's CARD OF 'torrentlaw2.BencodeEncodes'. -/
def bencodeEncodesUptoCard : Claim7 := { stood := { row := bencodeEncodesUptoRow, standIns := [], harness := (true, "330050d4e865bfc0d1b709b77d1acabdb9e9609e4985945068ab5d01c3a157c2"), looks := true }, kinds := [], alts := [], laidByText := true, laidKinds := [.data, .data, .data], laidTests := true, laidLooks := .later }
def BencodeEncodesUptoCardSaid : Prop := Claim7.holds Tryd.pinned (.plain (OpenSpec.upto bencodeEncodesSpec)) bencodeEncodesUptoCard

/-- THE SECOND FORM's CARD OF 'torrentlaw2.BencodePrefixes'. -/
def bencodePrefixesUptoCard : Claim7 := { stood := { row := bencodePrefixesUptoRow, standIns := [], harness := (true, "330050d4e865bfc0d1b709b77d1acabdb9e9609e4985945068ab5d01c3a157c2"), looks := true }, kinds := [], alts := [], laidByText := true, laidKinds := [.data, .data, .data, .sentinel, .sentinel], laidTests := true, laidLooks := .later }
def BencodePrefixesUptoCardSaid : Prop := Claim7.holds Tryd.pinned (.plain (OpenSpec.upto bencodePrefixesSpec)) bencodePrefixesUptoCard
end Rows
end Go.Proofs.YtehgcchhmecknaaDoor
