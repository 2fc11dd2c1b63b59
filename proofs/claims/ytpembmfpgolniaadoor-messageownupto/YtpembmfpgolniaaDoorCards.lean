/-
  DERIVED. GIVEN WITH THE SEED: THE CARDS: each row of YtpembmfpgolniaaDoorRows.lean that lists a variable, with what it lists TIED to the program's text (the seventh form; the later family's looks); each row that meets fmt, with fmt's text TOLD by the authors' own Lean function (tested against real Go, not proved from fmt's source: count such statements apart). THE CARD IS WHAT COUNTS. Prove the row's statement (the work); the ties are given (YtpembmfpgolniaaDoorTie.lean); close each card by the builder's one call (the guide's Derived/Test/ToyasCard.lean, 'card_holds'). Laid BY PROGRAM, IN A SANDBOX (cutbox-door.mjs). By AI agents, Wed Nov 11 2026. No macro, syntax, notation, axiom, sorry.
-/
import Derived.Test.YtpembmfpgolniaaDoorRows
import GoSem.ClaimSeven
namespace Go.Proofs.YtpembmfpgolniaaDoor
namespace Rows

/-- THE TIED CARD OF 'torrentlaw11.MessageOwn'. -/
def messageOwnCard : Claim7 := { stood := { row := messageOwnRow, standIns := [], harness := (true, "eeeb8dfacdb1b186a867fe7b302c3a24f913c6b7b76586e43006713ae964f695"), looks := false }, kinds := [], alts := [], laidByText := true, laidKinds := [.data], laidTests := true, laidLooks := .later }
def MessageOwnCardSaid : Prop := Claim7.holds Tryd.pinned (.plain (OpenSpec.ofChange messageOwnSpec)) messageOwnCard

/-- THE SECOND FORM's CARD OF 'torrentlaw11.MessageOwn'. -/
def messageOwnUptoCard : Claim7 := { stood := { row := messageOwnUptoRow, standIns := [], harness := (true, "eeeb8dfacdb1b186a867fe7b302c3a24f913c6b7b76586e43006713ae964f695"), looks := false }, kinds := [], alts := [], laidByText := true, laidKinds := [.data], laidTests := true, laidLooks := .later }
def MessageOwnUptoCardSaid : Prop := Claim7.holds Tryd.pinned (.plain (OpenSpec.upto messageOwnSpec)) messageOwnUptoCard
end Rows
end Go.Proofs.YtpembmfpgolniaaDoor
