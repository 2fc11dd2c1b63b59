/-
  NARROWER THAN 'FOR EVERY INPUT', by the rows' own cells (each row's printed sentence says how): BitsetChecks: laid · BitsetMakes: laid · BitsetOfs: laid · BitsetRunsBack: laid · BitsetNexts: laid · BitsetWalks: laid.
  DERIVED. THE GIVEN ROWS OF THIS SEAT. 6 by the template 'for every input the law returns true; each argument reads behind the call as it read before'; 0 by the template 'total and deterministic' (their statements: YtpojcdepifeniaaDoorTotals.lean).
  GIVEN WITH THE SEED: the statements are not yours to turn. If you find one false, say at which input.
  Laid BY PROGRAM, IN A SANDBOX (cutbox-rows.mjs): the forced cells as the released guide's own fill.sh prints them over the translation 2c2c535eef967f07… (all of the seat's roots in one cut). By AI agents, Wed Nov 11 2026. No macro, syntax, notation, axiom, sorry.
-/
import Derived.Test.YtpojcdepifeniaaDoorChecked
import GoSem.Claim
import GoSem.ClaimJoined
import GoSem.ClaimMapViews
import Derived.JoinedTies
import Derived.KernelRfl
namespace Go.Proofs.YtpojcdepifeniaaDoor
/- THE CELL 'sum', in the pinned program and in every row, IS THE sha256 OF THE DUMP (.gsa) THAT YtpojcdepifeniaaDoorProg.lean LOADS. Nothing in Lean hashes anything: it is a label: what it is worth is what the hold of that sum in a sandbox is worth. -/
noncomputable def Tryd.pinned : Pinned := { name := "ytpojcdepifeniaadoor", sum := "2c2c535eef967f07365ffaf23e949841ede923d5f00b6f62ff75cb1dbafdb901", checked := Tryd.checked }
namespace Rows
def none {H : Type} : Left H := { results := [], args := [] }

/- WHAT THE LISTED PACKAGE-LEVEL VARIABLES READ AS WHEN THE CALL BEGINS. Each datum BY PROGRAM (the guide's laid-datum.mjs) off the statement by which the dump's own 'gosem.cut.vars' lays the variable. In a bare row this is a premise. The card (YtpojcdepifeniaaDoorCards.lean) ties it to the program's text. -/
def laid_torrent_bitset_masks {H : Type} : DataW H := .agg [.lit (.int .u8 128), .lit (.int .u8 64), .lit (.int .u8 32), .lit (.int .u8 16), .lit (.int .u8 8), .lit (.int .u8 4), .lit (.int .u8 2), .lit (.int .u8 1)]

/-- 'torrentlaw4.BitsetChecks': WHATEVER THE INPUT: true; the input reads as it did. -/
def bitsetChecksSpec : ChangeSpec := { name := "bitsetChecks", fn := fun _ => fun
  | [d1, d2] => { results := [.lit (.bool true)], args := [d1, d2] }
  | _ => none }
def bitsetChecksRow : OpenClaim := { program := "ytpojcdepifeniaadoor", sum := "2c2c535eef967f07365ffaf23e949841ede923d5f00b6f62ff75cb1dbafdb901", func := "torrent/torrentlaw4.BitsetChecks", spec := "bitsetChecks", named := ["torrent/bitset.masks"], apart := false, laid := [("torrent/bitset.masks", laid_torrent_bitset_masks)] }
def BitsetChecksSaid : Prop := bitsetChecksRow.holds Tryd.pinned (OpenSpec.ofChange bitsetChecksSpec)

/-- ITS FALSE NEIGHBOUR: 'it returns false'. Refute it at one input. -/
def bitsetChecksWrong : ChangeSpec := { name := "bitsetChecks", fn := fun _ => fun
  | [d1, d2] => { results := [.lit (.bool false)], args := [d1, d2] }
  | _ => none }
def BitsetChecksWrongFalsely : Prop := bitsetChecksRow.holds Tryd.pinned (OpenSpec.ofChange bitsetChecksWrong)

/-- 'torrentlaw4.BitsetMakes': WHATEVER THE INPUT: true; the input reads as it did. -/
def bitsetMakesSpec : ChangeSpec := { name := "bitsetMakes", fn := fun _ => fun
  | [d] => { results := [.lit (.bool true)], args := [d] }
  | _ => none }
def bitsetMakesRow : OpenClaim := { program := "ytpojcdepifeniaadoor", sum := "2c2c535eef967f07365ffaf23e949841ede923d5f00b6f62ff75cb1dbafdb901", func := "torrent/torrentlaw4.BitsetMakes", spec := "bitsetMakes", named := ["torrent/bitset.masks"], apart := false, laid := [("torrent/bitset.masks", laid_torrent_bitset_masks)] }
def BitsetMakesSaid : Prop := bitsetMakesRow.holds Tryd.pinned (OpenSpec.ofChange bitsetMakesSpec)

/-- ITS FALSE NEIGHBOUR: 'it returns false'. Refute it at one input. -/
def bitsetMakesWrong : ChangeSpec := { name := "bitsetMakes", fn := fun _ => fun
  | [d] => { results := [.lit (.bool false)], args := [d] }
  | _ => none }
def BitsetMakesWrongFalsely : Prop := bitsetMakesRow.holds Tryd.pinned (OpenSpec.ofChange bitsetMakesWrong)

/-- 'torrentlaw4.BitsetOfs': WHATEVER THE INPUT: true; the input reads as it did. -/
def bitsetOfsSpec : ChangeSpec := { name := "bitsetOfs", fn := fun _ => fun
  | [d1, d2] => { results := [.lit (.bool true)], args := [d1, d2] }
  | _ => none }
def bitsetOfsRow : OpenClaim := { program := "ytpojcdepifeniaadoor", sum := "2c2c535eef967f07365ffaf23e949841ede923d5f00b6f62ff75cb1dbafdb901", func := "torrent/torrentlaw4.BitsetOfs", spec := "bitsetOfs", named := ["torrent/bitset.masks"], apart := false, laid := [("torrent/bitset.masks", laid_torrent_bitset_masks)] }
def BitsetOfsSaid : Prop := bitsetOfsRow.holds Tryd.pinned (OpenSpec.ofChange bitsetOfsSpec)

/-- ITS FALSE NEIGHBOUR: 'it returns false'. Refute it at one input. -/
def bitsetOfsWrong : ChangeSpec := { name := "bitsetOfs", fn := fun _ => fun
  | [d1, d2] => { results := [.lit (.bool false)], args := [d1, d2] }
  | _ => none }
def BitsetOfsWrongFalsely : Prop := bitsetOfsRow.holds Tryd.pinned (OpenSpec.ofChange bitsetOfsWrong)

/-- 'torrentlaw4.BitsetRunsBack': WHATEVER THE INPUT: true; the input reads as it did. -/
def bitsetRunsBackSpec : ChangeSpec := { name := "bitsetRunsBack", fn := fun _ => fun
  | [d1, d2] => { results := [.lit (.bool true)], args := [d1, d2] }
  | _ => none }
def bitsetRunsBackRow : OpenClaim := { program := "ytpojcdepifeniaadoor", sum := "2c2c535eef967f07365ffaf23e949841ede923d5f00b6f62ff75cb1dbafdb901", func := "torrent/torrentlaw4.BitsetRunsBack", spec := "bitsetRunsBack", unfollowed := true, recurses := true, named := ["torrent/bitset.masks"], apart := false, laid := [("torrent/bitset.masks", laid_torrent_bitset_masks)] }
def BitsetRunsBackSaid : Prop := bitsetRunsBackRow.holds Tryd.pinned (OpenSpec.ofChange bitsetRunsBackSpec)

/-- ITS FALSE NEIGHBOUR: 'it returns false'. Refute it at one input. -/
def bitsetRunsBackWrong : ChangeSpec := { name := "bitsetRunsBack", fn := fun _ => fun
  | [d1, d2] => { results := [.lit (.bool false)], args := [d1, d2] }
  | _ => none }
def BitsetRunsBackWrongFalsely : Prop := bitsetRunsBackRow.holds Tryd.pinned (OpenSpec.ofChange bitsetRunsBackWrong)

/-- 'torrentlaw4.BitsetNexts': WHATEVER THE INPUT: true; the input reads as it did. -/
def bitsetNextsSpec : ChangeSpec := { name := "bitsetNexts", fn := fun _ => fun
  | [d1, d2, d3, d4] => { results := [.lit (.bool true)], args := [d1, d2, d3, d4] }
  | _ => none }
def bitsetNextsRow : OpenClaim := { program := "ytpojcdepifeniaadoor", sum := "2c2c535eef967f07365ffaf23e949841ede923d5f00b6f62ff75cb1dbafdb901", func := "torrent/torrentlaw4.BitsetNexts", spec := "bitsetNexts", named := ["torrent/bitset.masks"], apart := false, laid := [("torrent/bitset.masks", laid_torrent_bitset_masks)] }
def BitsetNextsSaid : Prop := bitsetNextsRow.holds Tryd.pinned (OpenSpec.ofChange bitsetNextsSpec)

/-- ITS FALSE NEIGHBOUR: 'it returns false'. Refute it at one input. -/
def bitsetNextsWrong : ChangeSpec := { name := "bitsetNexts", fn := fun _ => fun
  | [d1, d2, d3, d4] => { results := [.lit (.bool false)], args := [d1, d2, d3, d4] }
  | _ => none }
def BitsetNextsWrongFalsely : Prop := bitsetNextsRow.holds Tryd.pinned (OpenSpec.ofChange bitsetNextsWrong)

/-- 'torrentlaw4.BitsetWalks': WHATEVER THE INPUT: true; the input reads as it did. -/
def bitsetWalksSpec : ChangeSpec := { name := "bitsetWalks", fn := fun _ => fun
  | [d1, d2, d3, d4] => { results := [.lit (.bool true)], args := [d1, d2, d3, d4] }
  | _ => none }
def bitsetWalksRow : OpenClaim := { program := "ytpojcdepifeniaadoor", sum := "2c2c535eef967f07365ffaf23e949841ede923d5f00b6f62ff75cb1dbafdb901", func := "torrent/torrentlaw4.BitsetWalks", spec := "bitsetWalks", unfollowed := true, recurses := true, named := ["torrent/bitset.masks"], apart := false, laid := [("torrent/bitset.masks", laid_torrent_bitset_masks)] }
def BitsetWalksSaid : Prop := bitsetWalksRow.holds Tryd.pinned (OpenSpec.ofChange bitsetWalksSpec)

/-- ITS FALSE NEIGHBOUR: 'it returns false'. Refute it at one input. -/
def bitsetWalksWrong : ChangeSpec := { name := "bitsetWalks", fn := fun _ => fun
  | [d1, d2, d3, d4] => { results := [.lit (.bool false)], args := [d1, d2, d3, d4] }
  | _ => none }
def BitsetWalksWrongFalsely : Prop := bitsetWalksRow.holds Tryd.pinned (OpenSpec.ofChange bitsetWalksWrong)

/- THE SECOND FORM. 'bulk': how many values and letters a reading holds, each counted each time it is reached (what is shared counts as often as it is met; a slice's spare places count too). A statement '..UptoSaid' is the law's where the arguments, and the package variables that the reading takes, are together of bulk at most 1048576: NARROWER than '..Said'. Prove '..Said' where nothing that the law and all that it calls make is longer than what came in: it says more and counts as full. Else prove '..UptoSaid'. A law counts once. -/
mutual
def uptoBulk {H : Type} : DataW H → Nat
  | .lit (.string bytes) => bytes.length + 1
  | .lit _ => 1
  | .nil => 1
  | .ptr d => uptoBulk d + 1
  | .slice elems spare => uptoBulkAll elems + uptoBulkAll spare + 1
  | .agg parts => uptoBulkAll parts + 1
  | .iface _ d => uptoBulk d + 1
  | .map entries => uptoBulkEntries entries + 1
  | .held _ => 1
def uptoBulkAll {H : Type} : List (DataW H) → Nat
  | [] => 0
  | d :: r => uptoBulk d + uptoBulkAll r
def uptoBulkEntries {H : Type} : List (Lit × DataW H) → Nat
  | [] => 0
  | x :: r => uptoBulkEntry x + uptoBulkEntries r
def uptoBulkEntry {H : Type} : Lit × DataW H → Nat
  | (.string bytes, d) => bytes.length + uptoBulk d + 1
  | (_, d) => uptoBulk d + 1
 end
def uptoSmall : (H : Type) → List (DataW H) → Bool := fun _ ds => decide (uptoBulkAll ds ≤ 1048576)
def OpenSpec.upto (s : _root_.Go.ChangeSpec) : _root_.Go.OpenSpec := { _root_.Go.OpenSpec.ofChange s with cond := some uptoSmall }

/-- 'torrentlaw4.BitsetChecks', WHERE WHAT IT READS IS OF BULK AT MOST 1048576: true; the input reads as it did. -/
def bitsetChecksUptoRow : OpenClaim := { program := "ytpojcdepifeniaadoor", sum := "2c2c535eef967f07365ffaf23e949841ede923d5f00b6f62ff75cb1dbafdb901", func := "torrent/torrentlaw4.BitsetChecks", spec := "bitsetChecks", named := ["torrent/bitset.masks"], apart := false, laid := [("torrent/bitset.masks", laid_torrent_bitset_masks)], narrowed := true }
def BitsetChecksUptoSaid : Prop := bitsetChecksUptoRow.holds Tryd.pinned (OpenSpec.upto bitsetChecksSpec)

/-- 'torrentlaw4.BitsetMakes', WHERE WHAT IT READS IS OF BULK AT MOST 1048576: true; the input reads as it did. -/
def bitsetMakesUptoRow : OpenClaim := { program := "ytpojcdepifeniaadoor", sum := "2c2c535eef967f07365ffaf23e949841ede923d5f00b6f62ff75cb1dbafdb901", func := "torrent/torrentlaw4.BitsetMakes", spec := "bitsetMakes", named := ["torrent/bitset.masks"], apart := false, laid := [("torrent/bitset.masks", laid_torrent_bitset_masks)], narrowed := true }
def BitsetMakesUptoSaid : Prop := bitsetMakesUptoRow.holds Tryd.pinned (OpenSpec.upto bitsetMakesSpec)

/-- 'torrentlaw4.BitsetOfs', WHERE WHAT IT READS IS OF BULK AT MOST 1048576: true; the input reads as it did. -/
def bitsetOfsUptoRow : OpenClaim := { program := "ytpojcdepifeniaadoor", sum := "2c2c535eef967f07365ffaf23e949841ede923d5f00b6f62ff75cb1dbafdb901", func := "torrent/torrentlaw4.BitsetOfs", spec := "bitsetOfs", named := ["torrent/bitset.masks"], apart := false, laid := [("torrent/bitset.masks", laid_torrent_bitset_masks)], narrowed := true }
def BitsetOfsUptoSaid : Prop := bitsetOfsUptoRow.holds Tryd.pinned (OpenSpec.upto bitsetOfsSpec)

/-- 'torrentlaw4.BitsetRunsBack', WHERE WHAT IT READS IS OF BULK AT MOST 1048576: true; the input reads as it did. -/
def bitsetRunsBackUptoRow : OpenClaim := { program := "ytpojcdepifeniaadoor", sum := "2c2c535eef967f07365ffaf23e949841ede923d5f00b6f62ff75cb1dbafdb901", func := "torrent/torrentlaw4.BitsetRunsBack", spec := "bitsetRunsBack", unfollowed := true, recurses := true, named := ["torrent/bitset.masks"], apart := false, laid := [("torrent/bitset.masks", laid_torrent_bitset_masks)], narrowed := true }
def BitsetRunsBackUptoSaid : Prop := bitsetRunsBackUptoRow.holds Tryd.pinned (OpenSpec.upto bitsetRunsBackSpec)

/-- 'torrentlaw4.BitsetNexts', WHERE WHAT IT READS IS OF BULK AT MOST 1048576: true; the input reads as it did. -/
def bitsetNextsUptoRow : OpenClaim := { program := "ytpojcdepifeniaadoor", sum := "2c2c535eef967f07365ffaf23e949841ede923d5f00b6f62ff75cb1dbafdb901", func := "torrent/torrentlaw4.BitsetNexts", spec := "bitsetNexts", named := ["torrent/bitset.masks"], apart := false, laid := [("torrent/bitset.masks", laid_torrent_bitset_masks)], narrowed := true }
def BitsetNextsUptoSaid : Prop := bitsetNextsUptoRow.holds Tryd.pinned (OpenSpec.upto bitsetNextsSpec)

/-- 'torrentlaw4.BitsetWalks', WHERE WHAT IT READS IS OF BULK AT MOST 1048576: true; the input reads as it did. -/
def bitsetWalksUptoRow : OpenClaim := { program := "ytpojcdepifeniaadoor", sum := "2c2c535eef967f07365ffaf23e949841ede923d5f00b6f62ff75cb1dbafdb901", func := "torrent/torrentlaw4.BitsetWalks", spec := "bitsetWalks", unfollowed := true, recurses := true, named := ["torrent/bitset.masks"], apart := false, laid := [("torrent/bitset.masks", laid_torrent_bitset_masks)], narrowed := true }
def BitsetWalksUptoSaid : Prop := bitsetWalksUptoRow.holds Tryd.pinned (OpenSpec.upto bitsetWalksSpec)

end Rows
end Go.Proofs.YtpojcdepifeniaaDoor
