/-
  NARROWER THAN 'FOR EVERY INPUT', by the rows' own cells (each row's printed sentence says how): PeerStranger: laid · PeerBreaks: laid · PeerLegal: laid · PeerCutting: laid · PeerTalk: laid · PeerKept: laid.
  DERIVED. THE GIVEN ROWS OF THIS SEAT. 6 by the template 'for every input the law returns true; each argument reads behind the call as it read before'; 0 by the template 'total and deterministic' (their statements: YtnmeohacdbmplaaGreatDoorTotals.lean).
  GIVEN WITH THE SEED: the statements are not yours to turn. If you find one false, say at which input.
  Laid BY PROGRAM, IN A SANDBOX (cutbox-rows.mjs): the forced cells as the released guide's own fill.sh prints them over the translation e6e6410b4d224ed0… (all of the seat's roots in one cut). By AI agents, Wed Nov 11 2026. No macro, syntax, notation, axiom, sorry.
-/
import Derived.Test.YtnmeohacdbmplaaGreatDoorChecked
import GoSem.Claim
import GoSem.ClaimJoined
import GoSem.ClaimMapViews
import Derived.JoinedTies
import Derived.KernelRfl
namespace Go.Proofs.YtnmeohacdbmplaaGreatDoor
/- THE CELL 'sum', in the pinned program and in every row, IS THE sha256 OF THE DUMP (.gsa) THAT YtnmeohacdbmplaaGreatDoorProg.lean LOADS. Nothing in Lean hashes anything: it is a label: what it is worth is what the hold of that sum in a sandbox is worth. -/
noncomputable def Tryz.pinned : Pinned := { name := "ytnmeohacdbmplaagreatdoor", sum := "e6e6410b4d224ed084ce718086fc22a48e5d7179ae4b4ed559420468f8438f29", checked := Tryz.checked }
namespace Rows
def none {H : Type} : Left H := { results := [], args := [] }

/- WHAT THE LISTED PACKAGE-LEVEL VARIABLES READ AS WHEN THE CALL BEGINS. Each datum BY PROGRAM (the guide's laid-datum.mjs) off the statement by which the dump's own 'gosem.cut.vars' lays the variable. In a bare row this is a premise. The card (YtnmeohacdbmplaaGreatDoorCards.lean) ties it to the program's text. -/
def laid_torrent_message_kinds {H : Type} : DataW H := .agg [.agg [.lit (.int .i64 (-1)), .lit (.int .i64 0), .lit (.int .i64 0), .lit (.int .i64 1), .agg [.lit (.int .i64 0), .lit (.int .i64 0), .lit (.int .i64 0), .lit (.int .i64 0), .lit (.int .i64 0), .lit (.int .i64 0), .lit (.int .i64 0)]], .agg [.lit (.int .i64 0), .lit (.int .i64 1), .lit (.int .i64 1), .lit (.int .i64 1), .agg [.lit (.int .i64 1), .lit (.int .i64 0), .lit (.int .i64 0), .lit (.int .i64 0), .lit (.int .i64 0), .lit (.int .i64 0), .lit (.int .i64 0)]], .agg [.lit (.int .i64 1), .lit (.int .i64 1), .lit (.int .i64 1), .lit (.int .i64 1), .agg [.lit (.int .i64 1), .lit (.int .i64 0), .lit (.int .i64 0), .lit (.int .i64 0), .lit (.int .i64 0), .lit (.int .i64 0), .lit (.int .i64 0)]], .agg [.lit (.int .i64 2), .lit (.int .i64 1), .lit (.int .i64 1), .lit (.int .i64 1), .agg [.lit (.int .i64 1), .lit (.int .i64 0), .lit (.int .i64 0), .lit (.int .i64 0), .lit (.int .i64 0), .lit (.int .i64 0), .lit (.int .i64 0)]], .agg [.lit (.int .i64 3), .lit (.int .i64 1), .lit (.int .i64 1), .lit (.int .i64 1), .agg [.lit (.int .i64 1), .lit (.int .i64 0), .lit (.int .i64 0), .lit (.int .i64 0), .lit (.int .i64 0), .lit (.int .i64 0), .lit (.int .i64 0)]], .agg [.lit (.int .i64 4), .lit (.int .i64 5), .lit (.int .i64 5), .lit (.int .i64 1), .agg [.lit (.int .i64 1), .lit (.int .i64 3), .lit (.int .i64 0), .lit (.int .i64 0), .lit (.int .i64 0), .lit (.int .i64 0), .lit (.int .i64 0)]], .agg [.lit (.int .i64 5), .lit (.int .i64 1), .lit (.int .i64 8193), .lit (.int .i64 1), .agg [.lit (.int .i64 1), .lit (.int .i64 10), .lit (.int .i64 0), .lit (.int .i64 0), .lit (.int .i64 0), .lit (.int .i64 0), .lit (.int .i64 0)]], .agg [.lit (.int .i64 6), .lit (.int .i64 13), .lit (.int .i64 13), .lit (.int .i64 1), .agg [.lit (.int .i64 1), .lit (.int .i64 3), .lit (.int .i64 4), .lit (.int .i64 6), .lit (.int .i64 0), .lit (.int .i64 0), .lit (.int .i64 0)]], .agg [.lit (.int .i64 7), .lit (.int .i64 10), .lit (.int .i64 16393), .lit (.int .i64 1), .agg [.lit (.int .i64 1), .lit (.int .i64 3), .lit (.int .i64 4), .lit (.int .i64 10), .lit (.int .i64 0), .lit (.int .i64 0), .lit (.int .i64 0)]], .agg [.lit (.int .i64 8), .lit (.int .i64 13), .lit (.int .i64 13), .lit (.int .i64 1), .agg [.lit (.int .i64 1), .lit (.int .i64 3), .lit (.int .i64 4), .lit (.int .i64 6), .lit (.int .i64 0), .lit (.int .i64 0), .lit (.int .i64 0)]], .agg [.lit (.int .i64 21), .lit (.int .i64 49), .lit (.int .i64 49), .lit (.int .i64 1), .agg [.lit (.int .i64 1), .lit (.int .i64 7), .lit (.int .i64 8), .lit (.int .i64 3), .lit (.int .i64 5), .lit (.int .i64 9), .lit (.int .i64 0)]], .agg [.lit (.int .i64 22), .lit (.int .i64 49), .lit (.int .i64 17969), .lit (.int .i64 32), .agg [.lit (.int .i64 1), .lit (.int .i64 7), .lit (.int .i64 8), .lit (.int .i64 3), .lit (.int .i64 5), .lit (.int .i64 9), .lit (.int .i64 11)]], .agg [.lit (.int .i64 23), .lit (.int .i64 49), .lit (.int .i64 49), .lit (.int .i64 1), .agg [.lit (.int .i64 1), .lit (.int .i64 7), .lit (.int .i64 8), .lit (.int .i64 3), .lit (.int .i64 5), .lit (.int .i64 9), .lit (.int .i64 0)]], .agg [.lit (.int .i64 1000), .lit (.int .i64 1), .lit (.int .i64 32768), .lit (.int .i64 1), .agg [.lit (.int .i64 2), .lit (.int .i64 10), .lit (.int .i64 0), .lit (.int .i64 0), .lit (.int .i64 0), .lit (.int .i64 0), .lit (.int .i64 0)]]]
def laid_torrent_bitset_masks {H : Type} : DataW H := .agg [.lit (.int .u8 128), .lit (.int .u8 64), .lit (.int .u8 32), .lit (.int .u8 16), .lit (.int .u8 8), .lit (.int .u8 4), .lit (.int .u8 2), .lit (.int .u8 1)]

/-- 'torrentlaw17.PeerStranger': WHATEVER THE INPUT: true; the input reads as it did. -/
def peerStrangerSpec : ChangeSpec := { name := "peerStranger", fn := fun _ => fun
  | [d1, d2, d3, d4, d5] => { results := [.lit (.bool true)], args := [d1, d2, d3, d4, d5] }
  | _ => none }
def peerStrangerRow : OpenClaim := { program := "ytnmeohacdbmplaagreatdoor", sum := "e6e6410b4d224ed084ce718086fc22a48e5d7179ae4b4ed559420468f8438f29", func := "torrent/torrentlaw17.PeerStranger", spec := "peerStranger", unfollowed := true, recurses := true, named := ["torrent/message.kinds", "torrent/bitset.masks"], apart := false, laid := [("torrent/message.kinds", laid_torrent_message_kinds), ("torrent/bitset.masks", laid_torrent_bitset_masks)] }
def PeerStrangerSaid : Prop := peerStrangerRow.holds Tryz.pinned (OpenSpec.ofChange peerStrangerSpec)

/-- ITS FALSE NEIGHBOUR: 'it returns false'. Refute it at one input. -/
def peerStrangerWrong : ChangeSpec := { name := "peerStranger", fn := fun _ => fun
  | [d1, d2, d3, d4, d5] => { results := [.lit (.bool false)], args := [d1, d2, d3, d4, d5] }
  | _ => none }
def PeerStrangerWrongFalsely : Prop := peerStrangerRow.holds Tryz.pinned (OpenSpec.ofChange peerStrangerWrong)

/-- 'torrentlaw17.PeerBreaks': WHATEVER THE INPUT: true; the input reads as it did. -/
def peerBreaksSpec : ChangeSpec := { name := "peerBreaks", fn := fun _ => fun
  | [d1, d2, d3, d4, d5, d6] => { results := [.lit (.bool true)], args := [d1, d2, d3, d4, d5, d6] }
  | _ => none }
def peerBreaksRow : OpenClaim := { program := "ytnmeohacdbmplaagreatdoor", sum := "e6e6410b4d224ed084ce718086fc22a48e5d7179ae4b4ed559420468f8438f29", func := "torrent/torrentlaw17.PeerBreaks", spec := "peerBreaks", unfollowed := true, recurses := true, named := ["torrent/message.kinds", "torrent/bitset.masks"], apart := false, laid := [("torrent/message.kinds", laid_torrent_message_kinds), ("torrent/bitset.masks", laid_torrent_bitset_masks)] }
def PeerBreaksSaid : Prop := peerBreaksRow.holds Tryz.pinned (OpenSpec.ofChange peerBreaksSpec)

/-- ITS FALSE NEIGHBOUR: 'it returns false'. Refute it at one input. -/
def peerBreaksWrong : ChangeSpec := { name := "peerBreaks", fn := fun _ => fun
  | [d1, d2, d3, d4, d5, d6] => { results := [.lit (.bool false)], args := [d1, d2, d3, d4, d5, d6] }
  | _ => none }
def PeerBreaksWrongFalsely : Prop := peerBreaksRow.holds Tryz.pinned (OpenSpec.ofChange peerBreaksWrong)

/-- 'torrentlaw17.PeerLegal': WHATEVER THE INPUT: true; the input reads as it did. -/
def peerLegalSpec : ChangeSpec := { name := "peerLegal", fn := fun _ => fun
  | [d1, d2, d3, d4] => { results := [.lit (.bool true)], args := [d1, d2, d3, d4] }
  | _ => none }
def peerLegalRow : OpenClaim := { program := "ytnmeohacdbmplaagreatdoor", sum := "e6e6410b4d224ed084ce718086fc22a48e5d7179ae4b4ed559420468f8438f29", func := "torrent/torrentlaw17.PeerLegal", spec := "peerLegal", unfollowed := true, recurses := true, named := ["torrent/message.kinds", "torrent/bitset.masks"], apart := false, laid := [("torrent/message.kinds", laid_torrent_message_kinds), ("torrent/bitset.masks", laid_torrent_bitset_masks)] }
def PeerLegalSaid : Prop := peerLegalRow.holds Tryz.pinned (OpenSpec.ofChange peerLegalSpec)

/-- ITS FALSE NEIGHBOUR: 'it returns false'. Refute it at one input. -/
def peerLegalWrong : ChangeSpec := { name := "peerLegal", fn := fun _ => fun
  | [d1, d2, d3, d4] => { results := [.lit (.bool false)], args := [d1, d2, d3, d4] }
  | _ => none }
def PeerLegalWrongFalsely : Prop := peerLegalRow.holds Tryz.pinned (OpenSpec.ofChange peerLegalWrong)

/-- 'torrentlaw17.PeerCutting': WHATEVER THE INPUT: true; the input reads as it did. -/
def peerCuttingSpec : ChangeSpec := { name := "peerCutting", fn := fun _ => fun
  | [d1, d2, d3, d4, d5] => { results := [.lit (.bool true)], args := [d1, d2, d3, d4, d5] }
  | _ => none }
def peerCuttingRow : OpenClaim := { program := "ytnmeohacdbmplaagreatdoor", sum := "e6e6410b4d224ed084ce718086fc22a48e5d7179ae4b4ed559420468f8438f29", func := "torrent/torrentlaw17.PeerCutting", spec := "peerCutting", unfollowed := true, recurses := true, named := ["torrent/message.kinds", "torrent/bitset.masks"], apart := false, laid := [("torrent/message.kinds", laid_torrent_message_kinds), ("torrent/bitset.masks", laid_torrent_bitset_masks)] }
def PeerCuttingSaid : Prop := peerCuttingRow.holds Tryz.pinned (OpenSpec.ofChange peerCuttingSpec)

/-- ITS FALSE NEIGHBOUR: 'it returns false'. Refute it at one input. -/
def peerCuttingWrong : ChangeSpec := { name := "peerCutting", fn := fun _ => fun
  | [d1, d2, d3, d4, d5] => { results := [.lit (.bool false)], args := [d1, d2, d3, d4, d5] }
  | _ => none }
def PeerCuttingWrongFalsely : Prop := peerCuttingRow.holds Tryz.pinned (OpenSpec.ofChange peerCuttingWrong)

/-- 'torrentlaw17.PeerTalk': WHATEVER THE INPUT: true; the input reads as it did. -/
def peerTalkSpec : ChangeSpec := { name := "peerTalk", fn := fun _ => fun
  | [d1, d2, d3, d4, d5, d6] => { results := [.lit (.bool true)], args := [d1, d2, d3, d4, d5, d6] }
  | _ => none }
def peerTalkRow : OpenClaim := { program := "ytnmeohacdbmplaagreatdoor", sum := "e6e6410b4d224ed084ce718086fc22a48e5d7179ae4b4ed559420468f8438f29", func := "torrent/torrentlaw17.PeerTalk", spec := "peerTalk", unfollowed := true, recurses := true, named := ["torrent/message.kinds", "torrent/bitset.masks"], apart := false, laid := [("torrent/message.kinds", laid_torrent_message_kinds), ("torrent/bitset.masks", laid_torrent_bitset_masks)] }
def PeerTalkSaid : Prop := peerTalkRow.holds Tryz.pinned (OpenSpec.ofChange peerTalkSpec)

/-- ITS FALSE NEIGHBOUR: 'it returns false'. Refute it at one input. -/
def peerTalkWrong : ChangeSpec := { name := "peerTalk", fn := fun _ => fun
  | [d1, d2, d3, d4, d5, d6] => { results := [.lit (.bool false)], args := [d1, d2, d3, d4, d5, d6] }
  | _ => none }
def PeerTalkWrongFalsely : Prop := peerTalkRow.holds Tryz.pinned (OpenSpec.ofChange peerTalkWrong)

/-- 'torrentlaw17.PeerKept': WHATEVER THE INPUT: true; the input reads as it did. -/
def peerKeptSpec : ChangeSpec := { name := "peerKept", fn := fun _ => fun
  | [d1, d2, d3, d4, d5] => { results := [.lit (.bool true)], args := [d1, d2, d3, d4, d5] }
  | _ => none }
def peerKeptRow : OpenClaim := { program := "ytnmeohacdbmplaagreatdoor", sum := "e6e6410b4d224ed084ce718086fc22a48e5d7179ae4b4ed559420468f8438f29", func := "torrent/torrentlaw17.PeerKept", spec := "peerKept", unfollowed := true, recurses := true, named := ["torrent/message.kinds", "torrent/bitset.masks"], apart := false, laid := [("torrent/message.kinds", laid_torrent_message_kinds), ("torrent/bitset.masks", laid_torrent_bitset_masks)] }
def PeerKeptSaid : Prop := peerKeptRow.holds Tryz.pinned (OpenSpec.ofChange peerKeptSpec)

/-- ITS FALSE NEIGHBOUR: 'it returns false'. Refute it at one input. -/
def peerKeptWrong : ChangeSpec := { name := "peerKept", fn := fun _ => fun
  | [d1, d2, d3, d4, d5] => { results := [.lit (.bool false)], args := [d1, d2, d3, d4, d5] }
  | _ => none }
def PeerKeptWrongFalsely : Prop := peerKeptRow.holds Tryz.pinned (OpenSpec.ofChange peerKeptWrong)

/- THE SECOND FORM. 'bulk': how many values and letters a reading holds, each counted each time it is reached (what is shared counts as often as it is met; a slice's spare places count too). A statement '..UptoSaid' is the law's where the arguments, and the package variables that the reading takes, are together of bulk at most 1048576: NARROWER than '..Said'. Prove '..Said' where nothing that the law and all that it calls make is longer than what came in: it says more and counts as full. Else prove '..UptoSaid'. A law counts once. -/
mutual
def uptoBulk {H : Type} : DataW H → Nat
  | .lit (.string bytes) => bytes.length + 1
  | .lit _ => 1
  | .nil => 1
  | .ptr d => uptoBulk d + 1
  | .slice elems spare => uptoBulkAll elems + uptoBulkAll spare + 1
  | .agg parts => uptoBulkAll parts + 1
  | .iface _ d => uptoBulk d + 1
  | .map entries => uptoBulkEntries entries + 1
  | .held _ => 1
def uptoBulkAll {H : Type} : List (DataW H) → Nat
  | [] => 0
  | d :: r => uptoBulk d + uptoBulkAll r
def uptoBulkEntries {H : Type} : List (Lit × DataW H) → Nat
  | [] => 0
  | x :: r => uptoBulkEntry x + uptoBulkEntries r
def uptoBulkEntry {H : Type} : Lit × DataW H → Nat
  | (.string bytes, d) => bytes.length + uptoBulk d + 1
  | (_, d) => uptoBulk d + 1
 end
def uptoSmall : (H : Type) → List (DataW H) → Bool := fun _ ds => decide (uptoBulkAll ds ≤ 1048576)
def OpenSpec.upto (s : _root_.Go.ChangeSpec) : _root_.Go.OpenSpec := { _root_.Go.OpenSpec.ofChange s with cond := some uptoSmall }

/-- 'torrentlaw17.PeerStranger', WHERE WHAT IT READS IS OF BULK AT MOST 1048576: true; the input reads as it did. -/
def peerStrangerUptoRow : OpenClaim := { program := "ytnmeohacdbmplaagreatdoor", sum := "e6e6410b4d224ed084ce718086fc22a48e5d7179ae4b4ed559420468f8438f29", func := "torrent/torrentlaw17.PeerStranger", spec := "peerStranger", unfollowed := true, recurses := true, named := ["torrent/message.kinds", "torrent/bitset.masks"], apart := false, laid := [("torrent/message.kinds", laid_torrent_message_kinds), ("torrent/bitset.masks", laid_torrent_bitset_masks)], narrowed := true }
def PeerStrangerUptoSaid : Prop := peerStrangerUptoRow.holds Tryz.pinned (OpenSpec.upto peerStrangerSpec)

/-- 'torrentlaw17.PeerBreaks', WHERE WHAT IT READS IS OF BULK AT MOST 1048576: true; the input reads as it did. -/
def peerBreaksUptoRow : OpenClaim := { program := "ytnmeohacdbmplaagreatdoor", sum := "e6e6410b4d224ed084ce718086fc22a48e5d7179ae4b4ed559420468f8438f29", func := "torrent/torrentlaw17.PeerBreaks", spec := "peerBreaks", unfollowed := true, recurses := true, named := ["torrent/message.kinds", "torrent/bitset.masks"], apart := false, laid := [("torrent/message.kinds", laid_torrent_message_kinds), ("torrent/bitset.masks", laid_torrent_bitset_masks)], narrowed := true }
def PeerBreaksUptoSaid : Prop := peerBreaksUptoRow.holds Tryz.pinned (OpenSpec.upto peerBreaksSpec)

/-- 'torrentlaw17.PeerLegal', WHERE WHAT IT READS IS OF BULK AT MOST 1048576: true; the input reads as it did. -/
def peerLegalUptoRow : OpenClaim := { program := "ytnmeohacdbmplaagreatdoor", sum := "e6e6410b4d224ed084ce718086fc22a48e5d7179ae4b4ed559420468f8438f29", func := "torrent/torrentlaw17.PeerLegal", spec := "peerLegal", unfollowed := true, recurses := true, named := ["torrent/message.kinds", "torrent/bitset.masks"], apart := false, laid := [("torrent/message.kinds", laid_torrent_message_kinds), ("torrent/bitset.masks", laid_torrent_bitset_masks)], narrowed := true }
def PeerLegalUptoSaid : Prop := peerLegalUptoRow.holds Tryz.pinned (OpenSpec.upto peerLegalSpec)

/-- 'torrentlaw17.PeerCutting', WHERE WHAT IT READS IS OF BULK AT MOST 1048576: true; the input reads as it did. -/
def peerCuttingUptoRow : OpenClaim := { program := "ytnmeohacdbmplaagreatdoor", sum := "e6e6410b4d224ed084ce718086fc22a48e5d7179ae4b4ed559420468f8438f29", func := "torrent/torrentlaw17.PeerCutting", spec := "peerCutting", unfollowed := true, recurses := true, named := ["torrent/message.kinds", "torrent/bitset.masks"], apart := false, laid := [("torrent/message.kinds", laid_torrent_message_kinds), ("torrent/bitset.masks", laid_torrent_bitset_masks)], narrowed := true }
def PeerCuttingUptoSaid : Prop := peerCuttingUptoRow.holds Tryz.pinned (OpenSpec.upto peerCuttingSpec)

/-- 'torrentlaw17.PeerTalk', WHERE WHAT IT READS IS OF BULK AT MOST 1048576: true; the input reads as it did. -/
def peerTalkUptoRow : OpenClaim := { program := "ytnmeohacdbmplaagreatdoor", sum := "e6e6410b4d224ed084ce718086fc22a48e5d7179ae4b4ed559420468f8438f29", func := "torrent/torrentlaw17.PeerTalk", spec := "peerTalk", unfollowed := true, recurses := true, named := ["torrent/message.kinds", "torrent/bitset.masks"], apart := false, laid := [("torrent/message.kinds", laid_torrent_message_kinds), ("torrent/bitset.masks", laid_torrent_bitset_masks)], narrowed := true }
def PeerTalkUptoSaid : Prop := peerTalkUptoRow.holds Tryz.pinned (OpenSpec.upto peerTalkSpec)

/-- 'torrentlaw17.PeerKept', WHERE WHAT IT READS IS OF BULK AT MOST 1048576: true; the input reads as it did. -/
def peerKeptUptoRow : OpenClaim := { program := "ytnmeohacdbmplaagreatdoor", sum := "e6e6410b4d224ed084ce718086fc22a48e5d7179ae4b4ed559420468f8438f29", func := "torrent/torrentlaw17.PeerKept", spec := "peerKept", unfollowed := true, recurses := true, named := ["torrent/message.kinds", "torrent/bitset.masks"], apart := false, laid := [("torrent/message.kinds", laid_torrent_message_kinds), ("torrent/bitset.masks", laid_torrent_bitset_masks)], narrowed := true }
def PeerKeptUptoSaid : Prop := peerKeptUptoRow.holds Tryz.pinned (OpenSpec.upto peerKeptSpec)

end Rows
end Go.Proofs.YtnmeohacdbmplaaGreatDoor
