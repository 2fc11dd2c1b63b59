/-
  NARROWER THAN 'FOR EVERY INPUT', by the rows' own cells (each row's printed sentence says how): BitsetTwoWay: laid · BitsetRuns: laid · BitsetPlaces: laid · BitsetCounts: laid · BitsetAlgebra: laid · BitsetJoins: laid.
  DERIVED. THE GIVEN ROWS OF THIS SEAT. 6 by the template 'for every input the law returns true; each argument reads behind the call as it read before'; 0 by the template 'total and deterministic' (their statements: YtphehachmgfcaabDoorTotals.lean).
  GIVEN WITH THE SEED: the statements are not yours to turn. If you find one false, say at which input.
  Laid BY PROGRAM, IN A SANDBOX (cutbox-rows.mjs): the forced cells as the released guide's own fill.sh prints them over the translation fdd68e3fbc3c71a1… (all of the seat's roots in one cut). By AI agents, Wed Nov 11 2026. No macro, syntax, notation, axiom, sorry.
-/
import Derived.Test.YtphehachmgfcaabDoorChecked
import GoSem.Claim
import GoSem.ClaimJoined
import GoSem.ClaimMapViews
import Derived.JoinedTies
import Derived.KernelRfl
namespace Go.Proofs.YtphehachmgfcaabDoor
/- THE CELL 'sum', in the pinned program and in every row, IS THE sha256 OF THE DUMP (.gsa) THAT YtphehachmgfcaabDoorProg.lean LOADS. Nothing in Lean hashes anything: it is a label: what it is worth is what the hold of that sum in a sandbox is worth. -/
noncomputable def Tryd.pinned : Pinned := { name := "ytphehachmgfcaabdoor", sum := "fdd68e3fbc3c71a148bd6fd7ed8a90e0314170bb748667b707206ad4e2e64033", checked := Tryd.checked }
namespace Rows
def none {H : Type} : Left H := { results := [], args := [] }

/- WHAT THE LISTED PACKAGE-LEVEL VARIABLES READ AS WHEN THE CALL BEGINS. Each datum BY PROGRAM (the guide's laid-datum.mjs) off the statement by which the dump's own 'gosem.cut.vars' lays the variable. In a bare row this is a premise. The card (YtphehachmgfcaabDoorCards.lean) ties it to the program's text. -/
def laid_torrent_bitset_masks {H : Type} : DataW H := .agg [.lit (.int .u8 128), .lit (.int .u8 64), .lit (.int .u8 32), .lit (.int .u8 16), .lit (.int .u8 8), .lit (.int .u8 4), .lit (.int .u8 2), .lit (.int .u8 1)]

/-- 'torrentlaw4.BitsetTwoWay': WHATEVER THE INPUT: true; the input reads as it did. -/
def bitsetTwoWaySpec : ChangeSpec := { name := "bitsetTwoWay", fn := fun _ => fun
  | [d1, d2, d3] => { results := [.lit (.bool true)], args := [d1, d2, d3] }
  | _ => none }
def bitsetTwoWayRow : OpenClaim := { program := "ytphehachmgfcaabdoor", sum := "fdd68e3fbc3c71a148bd6fd7ed8a90e0314170bb748667b707206ad4e2e64033", func := "torrent/torrentlaw4.BitsetTwoWay", spec := "bitsetTwoWay", unfollowed := true, recurses := true, named := ["torrent/bitset.masks"], apart := false, laid := [("torrent/bitset.masks", laid_torrent_bitset_masks)] }
def BitsetTwoWaySaid : Prop := bitsetTwoWayRow.holds Tryd.pinned (OpenSpec.ofChange bitsetTwoWaySpec)

/-- ITS FALSE NEIGHBOUR: 'it returns false'. Refute it at one input. -/
def bitsetTwoWayWrong : ChangeSpec := { name := "bitsetTwoWay", fn := fun _ => fun
  | [d1, d2, d3] => { results := [.lit (.bool false)], args := [d1, d2, d3] }
  | _ => none }
def BitsetTwoWayWrongFalsely : Prop := bitsetTwoWayRow.holds Tryd.pinned (OpenSpec.ofChange bitsetTwoWayWrong)

/-- 'torrentlaw4.BitsetRuns': WHATEVER THE INPUT: true; the input reads as it did. -/
def bitsetRunsSpec : ChangeSpec := { name := "bitsetRuns", fn := fun _ => fun
  | [d1, d2] => { results := [.lit (.bool true)], args := [d1, d2] }
  | _ => none }
def bitsetRunsRow : OpenClaim := { program := "ytphehachmgfcaabdoor", sum := "fdd68e3fbc3c71a148bd6fd7ed8a90e0314170bb748667b707206ad4e2e64033", func := "torrent/torrentlaw4.BitsetRuns", spec := "bitsetRuns", unfollowed := true, recurses := true, named := ["torrent/bitset.masks"], apart := false, laid := [("torrent/bitset.masks", laid_torrent_bitset_masks)] }
def BitsetRunsSaid : Prop := bitsetRunsRow.holds Tryd.pinned (OpenSpec.ofChange bitsetRunsSpec)

/-- ITS FALSE NEIGHBOUR: 'it returns false'. Refute it at one input. -/
def bitsetRunsWrong : ChangeSpec := { name := "bitsetRuns", fn := fun _ => fun
  | [d1, d2] => { results := [.lit (.bool false)], args := [d1, d2] }
  | _ => none }
def BitsetRunsWrongFalsely : Prop := bitsetRunsRow.holds Tryd.pinned (OpenSpec.ofChange bitsetRunsWrong)

/-- 'torrentlaw4.BitsetPlaces': WHATEVER THE INPUT: true; the input reads as it did. -/
def bitsetPlacesSpec : ChangeSpec := { name := "bitsetPlaces", fn := fun _ => fun
  | [d1, d2, d3, d4] => { results := [.lit (.bool true)], args := [d1, d2, d3, d4] }
  | _ => none }
def bitsetPlacesRow : OpenClaim := { program := "ytphehachmgfcaabdoor", sum := "fdd68e3fbc3c71a148bd6fd7ed8a90e0314170bb748667b707206ad4e2e64033", func := "torrent/torrentlaw4.BitsetPlaces", spec := "bitsetPlaces", named := ["torrent/bitset.masks"], apart := false, laid := [("torrent/bitset.masks", laid_torrent_bitset_masks)] }
def BitsetPlacesSaid : Prop := bitsetPlacesRow.holds Tryd.pinned (OpenSpec.ofChange bitsetPlacesSpec)

/-- ITS FALSE NEIGHBOUR: 'it returns false'. Refute it at one input. -/
def bitsetPlacesWrong : ChangeSpec := { name := "bitsetPlaces", fn := fun _ => fun
  | [d1, d2, d3, d4] => { results := [.lit (.bool false)], args := [d1, d2, d3, d4] }
  | _ => none }
def BitsetPlacesWrongFalsely : Prop := bitsetPlacesRow.holds Tryd.pinned (OpenSpec.ofChange bitsetPlacesWrong)

/-- 'torrentlaw4.BitsetCounts': WHATEVER THE INPUT: true; the input reads as it did. -/
def bitsetCountsSpec : ChangeSpec := { name := "bitsetCounts", fn := fun _ => fun
  | [d1, d2] => { results := [.lit (.bool true)], args := [d1, d2] }
  | _ => none }
def bitsetCountsRow : OpenClaim := { program := "ytphehachmgfcaabdoor", sum := "fdd68e3fbc3c71a148bd6fd7ed8a90e0314170bb748667b707206ad4e2e64033", func := "torrent/torrentlaw4.BitsetCounts", spec := "bitsetCounts", unfollowed := true, recurses := true, named := ["torrent/bitset.masks"], apart := false, laid := [("torrent/bitset.masks", laid_torrent_bitset_masks)] }
def BitsetCountsSaid : Prop := bitsetCountsRow.holds Tryd.pinned (OpenSpec.ofChange bitsetCountsSpec)

/-- ITS FALSE NEIGHBOUR: 'it returns false'. Refute it at one input. -/
def bitsetCountsWrong : ChangeSpec := { name := "bitsetCounts", fn := fun _ => fun
  | [d1, d2] => { results := [.lit (.bool false)], args := [d1, d2] }
  | _ => none }
def BitsetCountsWrongFalsely : Prop := bitsetCountsRow.holds Tryd.pinned (OpenSpec.ofChange bitsetCountsWrong)

/-- 'torrentlaw4.BitsetAlgebra': WHATEVER THE INPUT: true; the input reads as it did. -/
def bitsetAlgebraSpec : ChangeSpec := { name := "bitsetAlgebra", fn := fun _ => fun
  | [d1, d2, d3] => { results := [.lit (.bool true)], args := [d1, d2, d3] }
  | _ => none }
def bitsetAlgebraRow : OpenClaim := { program := "ytphehachmgfcaabdoor", sum := "fdd68e3fbc3c71a148bd6fd7ed8a90e0314170bb748667b707206ad4e2e64033", func := "torrent/torrentlaw4.BitsetAlgebra", spec := "bitsetAlgebra", unfollowed := true, recurses := true, named := ["torrent/bitset.masks"], apart := false, laid := [("torrent/bitset.masks", laid_torrent_bitset_masks)] }
def BitsetAlgebraSaid : Prop := bitsetAlgebraRow.holds Tryd.pinned (OpenSpec.ofChange bitsetAlgebraSpec)

/-- ITS FALSE NEIGHBOUR: 'it returns false'. Refute it at one input. -/
def bitsetAlgebraWrong : ChangeSpec := { name := "bitsetAlgebra", fn := fun _ => fun
  | [d1, d2, d3] => { results := [.lit (.bool false)], args := [d1, d2, d3] }
  | _ => none }
def BitsetAlgebraWrongFalsely : Prop := bitsetAlgebraRow.holds Tryd.pinned (OpenSpec.ofChange bitsetAlgebraWrong)

/-- 'torrentlaw4.BitsetJoins': WHATEVER THE INPUT: true; the input reads as it did. -/
def bitsetJoinsSpec : ChangeSpec := { name := "bitsetJoins", fn := fun _ => fun
  | [d1, d2, d3] => { results := [.lit (.bool true)], args := [d1, d2, d3] }
  | _ => none }
def bitsetJoinsRow : OpenClaim := { program := "ytphehachmgfcaabdoor", sum := "fdd68e3fbc3c71a148bd6fd7ed8a90e0314170bb748667b707206ad4e2e64033", func := "torrent/torrentlaw4.BitsetJoins", spec := "bitsetJoins", unfollowed := true, recurses := true, named := ["torrent/bitset.masks"], apart := false, laid := [("torrent/bitset.masks", laid_torrent_bitset_masks)] }
def BitsetJoinsSaid : Prop := bitsetJoinsRow.holds Tryd.pinned (OpenSpec.ofChange bitsetJoinsSpec)

/-- ITS FALSE NEIGHBOUR: 'it returns false'. Refute it at one input. -/
def bitsetJoinsWrong : ChangeSpec := { name := "bitsetJoins", fn := fun _ => fun
  | [d1, d2, d3] => { results := [.lit (.bool false)], args := [d1, d2, d3] }
  | _ => none }
def BitsetJoinsWrongFalsely : Prop := bitsetJoinsRow.holds Tryd.pinned (OpenSpec.ofChange bitsetJoinsWrong)

/- THE SECOND FORM. 'bulk': how many values and letters a reading holds, each counted each time it is reached (what is shared counts as often as it is met; a slice's spare places count too). A statement '..UptoSaid' is the law's where the arguments, and the package variables that the reading takes, are together of bulk at most 1048576: NARROWER than '..Said'. Prove '..Said' where nothing that the law and all that it calls make is longer than what came in: it says more and counts as full. Else prove '..UptoSaid'. A law counts once. -/
mutual
def uptoBulk {H : Type} : DataW H → Nat
  | .lit (.string bytes) => bytes.length + 1
  | .lit _ => 1
  | .nil => 1
  | .ptr d => uptoBulk d + 1
  | .slice elems spare => uptoBulkAll elems + uptoBulkAll spare + 1
  | .agg parts => uptoBulkAll parts + 1
  | .iface _ d => uptoBulk d + 1
  | .map entries => uptoBulkEntries entries + 1
  | .held _ => 1
def uptoBulkAll {H : Type} : List (DataW H) → Nat
  | [] => 0
  | d :: r => uptoBulk d + uptoBulkAll r
def uptoBulkEntries {H : Type} : List (Lit × DataW H) → Nat
  | [] => 0
  | x :: r => uptoBulkEntry x + uptoBulkEntries r
def uptoBulkEntry {H : Type} : Lit × DataW H → Nat
  | (.string bytes, d) => bytes.length + uptoBulk d + 1
  | (_, d) => uptoBulk d + 1
 end
def uptoSmall : (H : Type) → List (DataW H) → Bool := fun _ ds => decide (uptoBulkAll ds ≤ 1048576)
def OpenSpec.upto (s : _root_.Go.ChangeSpec) : _root_.Go.OpenSpec := { _root_.Go.OpenSpec.ofChange s with cond := some uptoSmall }

/-- 'torrentlaw4.BitsetTwoWay', WHERE WHAT IT READS IS OF BULK AT MOST 1048576: true; the input reads as it did. -/
def bitsetTwoWayUptoRow : OpenClaim := { program := "ytphehachmgfcaabdoor", sum := "fdd68e3fbc3c71a148bd6fd7ed8a90e0314170bb748667b707206ad4e2e64033", func := "torrent/torrentlaw4.BitsetTwoWay", spec := "bitsetTwoWay", unfollowed := true, recurses := true, named := ["torrent/bitset.masks"], apart := false, laid := [("torrent/bitset.masks", laid_torrent_bitset_masks)], narrowed := true }
def BitsetTwoWayUptoSaid : Prop := bitsetTwoWayUptoRow.holds Tryd.pinned (OpenSpec.upto bitsetTwoWaySpec)

/-- 'torrentlaw4.BitsetRuns', WHERE WHAT IT READS IS OF BULK AT MOST 1048576: true; the input reads as it did. -/
def bitsetRunsUptoRow : OpenClaim := { program := "ytphehachmgfcaabdoor", sum := "fdd68e3fbc3c71a148bd6fd7ed8a90e0314170bb748667b707206ad4e2e64033", func := "torrent/torrentlaw4.BitsetRuns", spec := "bitsetRuns", unfollowed := true, recurses := true, named := ["torrent/bitset.masks"], apart := false, laid := [("torrent/bitset.masks", laid_torrent_bitset_masks)], narrowed := true }
def BitsetRunsUptoSaid : Prop := bitsetRunsUptoRow.holds Tryd.pinned (OpenSpec.upto bitsetRunsSpec)

/-- 'torrentlaw4.BitsetPlaces', WHERE WHAT IT READS IS OF BULK AT MOST 1048576: true; the input reads as it did. -/
def bitsetPlacesUptoRow : OpenClaim := { program := "ytphehachmgfcaabdoor", sum := "fdd68e3fbc3c71a148bd6fd7ed8a90e0314170bb748667b707206ad4e2e64033", func := "torrent/torrentlaw4.BitsetPlaces", spec := "bitsetPlaces", named := ["torrent/bitset.masks"], apart := false, laid := [("torrent/bitset.masks", laid_torrent_bitset_masks)], narrowed := true }
def BitsetPlacesUptoSaid : Prop := bitsetPlacesUptoRow.holds Tryd.pinned (OpenSpec.upto bitsetPlacesSpec)

/-- 'torrentlaw4.BitsetCounts', WHERE WHAT IT READS IS OF BULK AT MOST 1048576: true; the input reads as it did. -/
def bitsetCountsUptoRow : OpenClaim := { program := "ytphehachmgfcaabdoor", sum := "fdd68e3fbc3c71a148bd6fd7ed8a90e0314170bb748667b707206ad4e2e64033", func := "torrent/torrentlaw4.BitsetCounts", spec := "bitsetCounts", unfollowed := true, recurses := true, named := ["torrent/bitset.masks"], apart := false, laid := [("torrent/bitset.masks", laid_torrent_bitset_masks)], narrowed := true }
def BitsetCountsUptoSaid : Prop := bitsetCountsUptoRow.holds Tryd.pinned (OpenSpec.upto bitsetCountsSpec)

/-- 'torrentlaw4.BitsetAlgebra', WHERE WHAT IT READS IS OF BULK AT MOST 1048576: true; the input reads as it did. -/
def bitsetAlgebraUptoRow : OpenClaim := { program := "ytphehachmgfcaabdoor", sum := "fdd68e3fbc3c71a148bd6fd7ed8a90e0314170bb748667b707206ad4e2e64033", func := "torrent/torrentlaw4.BitsetAlgebra", spec := "bitsetAlgebra", unfollowed := true, recurses := true, named := ["torrent/bitset.masks"], apart := false, laid := [("torrent/bitset.masks", laid_torrent_bitset_masks)], narrowed := true }
def BitsetAlgebraUptoSaid : Prop := bitsetAlgebraUptoRow.holds Tryd.pinned (OpenSpec.upto bitsetAlgebraSpec)

/-- 'torrentlaw4.BitsetJoins', WHERE WHAT IT READS IS OF BULK AT MOST 1048576: true; the input reads as it did. -/
def bitsetJoinsUptoRow : OpenClaim := { program := "ytphehachmgfcaabdoor", sum := "fdd68e3fbc3c71a148bd6fd7ed8a90e0314170bb748667b707206ad4e2e64033", func := "torrent/torrentlaw4.BitsetJoins", spec := "bitsetJoins", unfollowed := true, recurses := true, named := ["torrent/bitset.masks"], apart := false, laid := [("torrent/bitset.masks", laid_torrent_bitset_masks)], narrowed := true }
def BitsetJoinsUptoSaid : Prop := bitsetJoinsUptoRow.holds Tryd.pinned (OpenSpec.upto bitsetJoinsSpec)

end Rows
end Go.Proofs.YtphehachmgfcaabDoor
