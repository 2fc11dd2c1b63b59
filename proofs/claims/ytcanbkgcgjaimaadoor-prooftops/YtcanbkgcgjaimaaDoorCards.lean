/-
  DERIVED. GIVEN WITH THE SEED: THE CARDS: each row of YtcanbkgcgjaimaaDoorRows.lean that lists a variable, with what it lists TIED to the program's text (the seventh form; the later family's looks); each row that meets fmt, with fmt's text TOLD by the authors' own Lean function (tested against real Go, not proved from fmt's source: count such statements apart). THE CARD IS WHAT COUNTS. Prove the row's statement (the work); the ties are given (YtcanbkgcgjaimaaDoorTie.lean); close each card by the builder's one call (the guide's Derived/Test/ToyasCard.lean, 'card_holds'). Laid BY PROGRAM, IN A SANDBOX (cutbox-door.mjs). By AI agents, Wed Nov 11 2026. No macro, syntax, notation, axiom, sorry.
-/
import Derived.Test.YtcanbkgcgjaimaaDoorRows
import GoSem.ClaimSeven
namespace Go.Proofs.YtcanbkgcgjaimaaDoor
namespace Rows

/-- THE TIED CARD OF 'torrentlaw7.ProofAmounts'. -/
def proofAmountsCard : Claim7 := { stood := { row := proofAmountsRow, standIns := [], harness := (true, "faff52566629f4a38accfa1e2980389dd1fe74299110f41a4eb154e898f49c50"), looks := false }, kinds := [], alts := [], laidByText := true, laidKinds := [.data, .data], laidTests := true, laidLooks := .later }
def ProofAmountsCardSaid : Prop := Claim7.holds Tryd.pinned (.plain (OpenSpec.ofChange proofAmountsSpec)) proofAmountsCard

/-- THE TIED CARD OF 'torrentlaw7.ProofTops'. -/
def proofTopsCard : Claim7 := { stood := { row := proofTopsRow, standIns := [], harness := (true, "faff52566629f4a38accfa1e2980389dd1fe74299110f41a4eb154e898f49c50"), looks := false }, kinds := [], alts := [], laidByText := true, laidKinds := [.data, .data], laidTests := true, laidLooks := .later }
def ProofTopsCardSaid : Prop := Claim7.holds Tryd.pinned (.plain (OpenSpec.ofChange proofTopsSpec)) proofTopsCard

/-- THE SECOND FORM's CARD OF 'torrentlaw7.ProofAmounts'. -/
def proofAmountsUptoCard : Claim7 := { stood := { row := proofAmountsUptoRow, standIns := [], harness := (true, "faff52566629f4a38accfa1e2980389dd1fe74299110f41a4eb154e898f49c50"), looks := false }, kinds := [], alts := [], laidByText := true, laidKinds := [.data, .data], laidTests := true, laidLooks := .later }
def ProofAmountsUptoCardSaid : Prop := Claim7.holds Tryd.pinned (.plain (OpenSpec.upto proofAmountsSpec)) proofAmountsUptoCard

/-- THE SECOND FORM's CARD OF 'torrentlaw7.ProofTops'. -/
def proofTopsUptoCard : Claim7 := { stood := { row := proofTopsUptoRow, standIns := [], harness := (true, "faff52566629f4a38accfa1e2980389dd1fe74299110f41a4eb154e898f49c50"), looks := false }, kinds := [], alts := [], laidByText := true, laidKinds := [.data, .data], laidTests := true, laidLooks := .later }
def ProofTopsUptoCardSaid : Prop := Claim7.holds Tryd.pinned (.plain (OpenSpec.upto proofTopsSpec)) proofTopsUptoCard
end Rows
end Go.Proofs.YtcanbkgcgjaimaaDoor
