/-
  DERIVED. GIVEN WITH THE SEED: THE CARDS: each row of YtegdlkbilgkfoaaDoorRows.lean that lists a variable, with what it lists TIED to the program's text (the seventh form; the later family's looks); each row that meets fmt, with fmt's text TOLD by the authors' own Lean function (tested against real Go, not proved from fmt's source: count such statements apart). THE CARD IS WHAT COUNTS. Prove the row's statement (the work); the ties are given (YtegdlkbilgkfoaaDoorTie.lean); close each card by the builder's one call (the guide's Derived/Test/ToyasCard.lean, 'card_holds'). Laid BY PROGRAM, IN A SANDBOX (cutbox-door.mjs). By AI agents, Wed Nov 11 2026. No macro, syntax, notation, axiom, sorry.
-/
import Derived.Test.YtegdlkbilgkfoaaDoorRows
import GoSem.ClaimSeven
namespace Go.Proofs.YtegdlkbilgkfoaaDoor
namespace Rows

/-- THE TIED CARD OF 'torrentlaw2.BencodeDecodes'. -/
def bencodeDecodesCard : Claim7 := { stood := { row := bencodeDecodesRow, standIns := [], harness := (true, "bface1180d0effda03fe437ccf2e254a8f356d29cb922e1592e057d552cee95c"), looks := true }, kinds := [], alts := [], laidByText := true, laidKinds := [.data, .data, .data, .sentinel, .sentinel], laidTests := true, laidLooks := .later }
def BencodeDecodesCardSaid : Prop := Claim7.holds Tryd.pinned (.plain (OpenSpec.ofChange bencodeDecodesSpec)) bencodeDecodesCard

/-- THE TIED CARD OF 'torrentlaw2.BencodeCanonical'. -/
def bencodeCanonicalCard : Claim7 := { stood := { row := bencodeCanonicalRow, standIns := [], harness := (true, "bface1180d0effda03fe437ccf2e254a8f356d29cb922e1592e057d552cee95c"), looks := true }, kinds := [], alts := [], laidByText := true, laidKinds := [.data, .data, .data, .sentinel, .sentinel], laidTests := true, laidLooks := .later }
def BencodeCanonicalCardSaid : Prop := Claim7.holds Tryd.pinned (.plain (OpenSpec.ofChange bencodeCanonicalSpec)) bencodeCanonicalCard

/-- THE TIED CARD OF 'torrentlaw2.BencodeBack'. -/
def bencodeBackCard : Claim7 := { stood := { row := bencodeBackRow, standIns := [], harness := (true, "bface1180d0effda03fe437ccf2e254a8f356d29cb922e1592e057d552cee95c"), looks := true }, kinds := [], alts := [], laidByText := true, laidKinds := [.data, .data, .data, .sentinel, .sentinel], laidTests := true, laidLooks := .later }
def BencodeBackCardSaid : Prop := Claim7.holds Tryd.pinned (.plain (OpenSpec.ofChange bencodeBackSpec)) bencodeBackCard

/-- THE TIED CARD OF 'torrentlaw2.BencodeAlone'. -/
def bencodeAloneCard : Claim7 := { stood := { row := bencodeAloneRow, standIns := [], harness := (true, "bface1180d0effda03fe437ccf2e254a8f356d29cb922e1592e057d552cee95c"), looks := true }, kinds := [], alts := [], laidByText := true, laidKinds := [.data, .data, .data, .sentinel, .sentinel], laidTests := true, laidLooks := .later }
def BencodeAloneCardSaid : Prop := Claim7.holds Tryd.pinned (.plain (OpenSpec.ofChange bencodeAloneSpec)) bencodeAloneCard

/-- THE TIED CARD OF 'torrentlaw2.BencodeFaultStays'. -/
def bencodeFaultStaysCard : Claim7 := { stood := { row := bencodeFaultStaysRow, standIns := [], harness := (true, "bface1180d0effda03fe437ccf2e254a8f356d29cb922e1592e057d552cee95c"), looks := true }, kinds := [], alts := [], laidByText := true, laidKinds := [.data, .data, .data, .sentinel, .sentinel], laidTests := true, laidLooks := .later }
def BencodeFaultStaysCardSaid : Prop := Claim7.holds Tryd.pinned (.plain (OpenSpec.ofChange bencodeFaultStaysSpec)) bencodeFaultStaysCard

/-- THE TIED CARD OF 'torrentlaw2.BencodeSetGet'. -/
def bencodeSetGetCard : Claim7 := { stood := { row := bencodeSetGetRow, standIns := [], harness := (true, "bface1180d0effda03fe437ccf2e254a8f356d29cb922e1592e057d552cee95c"), looks := true }, kinds := [], alts := [], laidByText := true, laidKinds := [.data, .data, .data, .sentinel, .sentinel], laidTests := true, laidLooks := .later }
def BencodeSetGetCardSaid : Prop := Claim7.holds Tryd.pinned (.plain (OpenSpec.ofChange bencodeSetGetSpec)) bencodeSetGetCard

/-- THE SECOND FORM's CARD OF 'torrentlaw2.BencodeDecodes'. -/
def bencodeDecodesUptoCard : Claim7 := { stood := { row := bencodeDecodesUptoRow, standIns := [], harness := (true, "bface1180d0effda03fe437ccf2e254a8f356d29cb922e1592e057d552cee95c"), looks := true }, kinds := [], alts := [], laidByText := true, laidKinds := [.data, .data, .data, .sentinel, .sentinel], laidTests := true, laidLooks := .later }
def BencodeDecodesUptoCardSaid : Prop := Claim7.holds Tryd.pinned (.plain (OpenSpec.upto bencodeDecodesSpec)) bencodeDecodesUptoCard

/-- THE SECOND FORM's CARD OF 'torrentlaw2.BencodeCanonical'. -/
def bencodeCanonicalUptoCard : Claim7 := { stood := { row := bencodeCanonicalUptoRow, standIns := [], harness := (true, "bface1180d0effda03fe437ccf2e254a8f356d29cb922e1592e057d552cee95c"), looks := true }, kinds := [], alts := [], laidByText := true, laidKinds := [.data, .data, .data, .sentinel, .sentinel], laidTests := true, laidLooks := .later }
def BencodeCanonicalUptoCardSaid : Prop := Claim7.holds Tryd.pinned (.plain (OpenSpec.upto bencodeCanonicalSpec)) bencodeCanonicalUptoCard

/-- THE SECOND FORM's CARD OF 'torrentlaw2.BencodeBack'. -/
def bencodeBackUptoCard : Claim7 := { stood := { row := bencodeBackUptoRow, standIns := [], harness := (true, "bface1180d0effda03fe437ccf2e254a8f356d29cb922e1592e057d552cee95c"), looks := true }, kinds := [], alts := [], laidByText := true, laidKinds := [.data, .data, .data, .sentinel, .sentinel], laidTests := true, laidLooks := .later }
def BencodeBackUptoCardSaid : Prop := Claim7.holds Tryd.pinned (.plain (OpenSpec.upto bencodeBackSpec)) bencodeBackUptoCard

/-- THE SECOND FORM's CARD OF 'torrentlaw2.BencodeAlone'. -/
def bencodeAloneUptoCard : Claim7 := { stood := { row := bencodeAloneUptoRow, standIns := [], harness := (true, "bface1180d0effda03fe437ccf2e254a8f356d29cb922e1592e057d552cee95c"), looks := true }, kinds := [], alts := [], laidByText := true, laidKinds := [.data, .data, .data, .sentinel, .sentinel], laidTests := true, laidLooks := .later }
def BencodeAloneUptoCardSaid : Prop := Claim7.holds Tryd.pinned (.plain (OpenSpec.upto bencodeAloneSpec)) bencodeAloneUptoCard

/-- THE SECOND FORM's CARD OF 'torrentlaw2.BencodeFaultStays'. -/
def bencodeFaultStaysUptoCard : Claim7 := { stood := { row := bencodeFaultStaysUptoRow, standIns := [], harness := (true, "bface1180d0effda03fe437ccf2e254a8f356d29cb922e1592e057d552cee95c"), looks := true }, kinds := [], alts := [], laidByText := true, laidKinds := [.data, .data, .data, .sentinel, .sentinel], laidTests := true, laidLooks := .later }
def BencodeFaultStaysUptoCardSaid : Prop := Claim7.holds Tryd.pinned (.plain (OpenSpec.upto bencodeFaultStaysSpec)) bencodeFaultStaysUptoCard

/-- THE SECOND FORM's CARD OF 'torrentlaw2.BencodeSetGet'. -/
def bencodeSetGetUptoCard : Claim7 := { stood := { row := bencodeSetGetUptoRow, standIns := [], harness := (true, "bface1180d0effda03fe437ccf2e254a8f356d29cb922e1592e057d552cee95c"), looks := true }, kinds := [], alts := [], laidByText := true, laidKinds := [.data, .data, .data, .sentinel, .sentinel], laidTests := true, laidLooks := .later }
def BencodeSetGetUptoCardSaid : Prop := Claim7.holds Tryd.pinned (.plain (OpenSpec.upto bencodeSetGetSpec)) bencodeSetGetUptoCard
end Rows
end Go.Proofs.YtegdlkbilgkfoaaDoor
