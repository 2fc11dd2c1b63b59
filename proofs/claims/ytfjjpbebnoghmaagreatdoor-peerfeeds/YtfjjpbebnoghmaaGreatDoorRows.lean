/-
  NARROWER THAN 'FOR EVERY INPUT', by the rows' own cells (each row's printed sentence says how): PeerFeeds: laid · PeerSays: laid · PeerStates: laid · PeerPlays: laid.
  DERIVED. THE GIVEN ROWS OF THIS SEAT. 4 by the template 'for every input the law returns true; each argument reads behind the call as it read before'; 0 by the template 'total and deterministic' (their statements: YtfjjpbebnoghmaaGreatDoorTotals.lean).
  GIVEN WITH THE SEED: the statements are not yours to turn. If you find one false, say at which input.
  Laid BY PROGRAM, IN A SANDBOX (cutbox-rows.mjs): the forced cells as the released guide's own fill.sh prints them over the translation 2a87d4852e8e897e… (all of the seat's roots in one cut). By AI agents, Wed Nov 11 2026. No macro, syntax, notation, axiom, sorry.
-/
import Derived.Test.YtfjjpbebnoghmaaGreatDoorChecked
import GoSem.Claim
import GoSem.ClaimJoined
import GoSem.ClaimMapViews
import Derived.JoinedTies
import Derived.KernelRfl
namespace Go.Proofs.YtfjjpbebnoghmaaGreatDoor
/- THE CELL 'sum', in the pinned program and in every row, IS THE sha256 OF THE DUMP (.gsa) THAT YtfjjpbebnoghmaaGreatDoorProg.lean LOADS. Nothing in Lean hashes anything: it is a label: what it is worth is what the hold of that sum in a sandbox is worth. -/
noncomputable def Tryz.pinned : Pinned := { name := "ytfjjpbebnoghmaagreatdoor", sum := "2a87d4852e8e897e356af52cfa7b74b9855dfa7b5272d8cb1671d23d03c9f74c", checked := Tryz.checked }
namespace Rows
def none {H : Type} : Left H := { results := [], args := [] }

/- WHAT THE LISTED PACKAGE-LEVEL VARIABLES READ AS WHEN THE CALL BEGINS. Each datum BY PROGRAM (the guide's laid-datum.mjs) off the statement by which the dump's own 'gosem.cut.vars' lays the variable. In a bare row this is a premise. The card (YtfjjpbebnoghmaaGreatDoorCards.lean) ties it to the program's text. -/
def laid_torrent_message_kinds {H : Type} : DataW H := .agg [.agg [.lit (.int .i64 (-1)), .lit (.int .i64 0), .lit (.int .i64 0), .lit (.int .i64 1), .agg [.lit (.int .i64 0), .lit (.int .i64 0), .lit (.int .i64 0), .lit (.int .i64 0), .lit (.int .i64 0), .lit (.int .i64 0), .lit (.int .i64 0)]], .agg [.lit (.int .i64 0), .lit (.int .i64 1), .lit (.int .i64 1), .lit (.int .i64 1), .agg [.lit (.int .i64 1), .lit (.int .i64 0), .lit (.int .i64 0), .lit (.int .i64 0), .lit (.int .i64 0), .lit (.int .i64 0), .lit (.int .i64 0)]], .agg [.lit (.int .i64 1), .lit (.int .i64 1), .lit (.int .i64 1), .lit (.int .i64 1), .agg [.lit (.int .i64 1), .lit (.int .i64 0), .lit (.int .i64 0), .lit (.int .i64 0), .lit (.int .i64 0), .lit (.int .i64 0), .lit (.int .i64 0)]], .agg [.lit (.int .i64 2), .lit (.int .i64 1), .lit (.int .i64 1), .lit (.int .i64 1), .agg [.lit (.int .i64 1), .lit (.int .i64 0), .lit (.int .i64 0), .lit (.int .i64 0), .lit (.int .i64 0), .lit (.int .i64 0), .lit (.int .i64 0)]], .agg [.lit (.int .i64 3), .lit (.int .i64 1), .lit (.int .i64 1), .lit (.int .i64 1), .agg [.lit (.int .i64 1), .lit (.int .i64 0), .lit (.int .i64 0), .lit (.int .i64 0), .lit (.int .i64 0), .lit (.int .i64 0), .lit (.int .i64 0)]], .agg [.lit (.int .i64 4), .lit (.int .i64 5), .lit (.int .i64 5), .lit (.int .i64 1), .agg [.lit (.int .i64 1), .lit (.int .i64 3), .lit (.int .i64 0), .lit (.int .i64 0), .lit (.int .i64 0), .lit (.int .i64 0), .lit (.int .i64 0)]], .agg [.lit (.int .i64 5), .lit (.int .i64 1), .lit (.int .i64 8193), .lit (.int .i64 1), .agg [.lit (.int .i64 1), .lit (.int .i64 10), .lit (.int .i64 0), .lit (.int .i64 0), .lit (.int .i64 0), .lit (.int .i64 0), .lit (.int .i64 0)]], .agg [.lit (.int .i64 6), .lit (.int .i64 13), .lit (.int .i64 13), .lit (.int .i64 1), .agg [.lit (.int .i64 1), .lit (.int .i64 3), .lit (.int .i64 4), .lit (.int .i64 6), .lit (.int .i64 0), .lit (.int .i64 0), .lit (.int .i64 0)]], .agg [.lit (.int .i64 7), .lit (.int .i64 10), .lit (.int .i64 16393), .lit (.int .i64 1), .agg [.lit (.int .i64 1), .lit (.int .i64 3), .lit (.int .i64 4), .lit (.int .i64 10), .lit (.int .i64 0), .lit (.int .i64 0), .lit (.int .i64 0)]], .agg [.lit (.int .i64 8), .lit (.int .i64 13), .lit (.int .i64 13), .lit (.int .i64 1), .agg [.lit (.int .i64 1), .lit (.int .i64 3), .lit (.int .i64 4), .lit (.int .i64 6), .lit (.int .i64 0), .lit (.int .i64 0), .lit (.int .i64 0)]], .agg [.lit (.int .i64 21), .lit (.int .i64 49), .lit (.int .i64 49), .lit (.int .i64 1), .agg [.lit (.int .i64 1), .lit (.int .i64 7), .lit (.int .i64 8), .lit (.int .i64 3), .lit (.int .i64 5), .lit (.int .i64 9), .lit (.int .i64 0)]], .agg [.lit (.int .i64 22), .lit (.int .i64 49), .lit (.int .i64 17969), .lit (.int .i64 32), .agg [.lit (.int .i64 1), .lit (.int .i64 7), .lit (.int .i64 8), .lit (.int .i64 3), .lit (.int .i64 5), .lit (.int .i64 9), .lit (.int .i64 11)]], .agg [.lit (.int .i64 23), .lit (.int .i64 49), .lit (.int .i64 49), .lit (.int .i64 1), .agg [.lit (.int .i64 1), .lit (.int .i64 7), .lit (.int .i64 8), .lit (.int .i64 3), .lit (.int .i64 5), .lit (.int .i64 9), .lit (.int .i64 0)]], .agg [.lit (.int .i64 1000), .lit (.int .i64 1), .lit (.int .i64 32768), .lit (.int .i64 1), .agg [.lit (.int .i64 2), .lit (.int .i64 10), .lit (.int .i64 0), .lit (.int .i64 0), .lit (.int .i64 0), .lit (.int .i64 0), .lit (.int .i64 0)]]]
def laid_torrent_bitset_masks {H : Type} : DataW H := .agg [.lit (.int .u8 128), .lit (.int .u8 64), .lit (.int .u8 32), .lit (.int .u8 16), .lit (.int .u8 8), .lit (.int .u8 4), .lit (.int .u8 2), .lit (.int .u8 1)]

/-- 'torrentlaw17.PeerFeeds': WHATEVER THE INPUT: true; the input reads as it did. -/
def peerFeedsSpec : ChangeSpec := { name := "peerFeeds", fn := fun _ => fun
  | [d1, d2, d3, d4, d5, d6] => { results := [.lit (.bool true)], args := [d1, d2, d3, d4, d5, d6] }
  | _ => none }
def peerFeedsRow : OpenClaim := { program := "ytfjjpbebnoghmaagreatdoor", sum := "2a87d4852e8e897e356af52cfa7b74b9855dfa7b5272d8cb1671d23d03c9f74c", func := "torrent/torrentlaw17.PeerFeeds", spec := "peerFeeds", unfollowed := true, recurses := true, named := ["torrent/message.kinds", "torrent/bitset.masks"], apart := false, laid := [("torrent/message.kinds", laid_torrent_message_kinds), ("torrent/bitset.masks", laid_torrent_bitset_masks)] }
def PeerFeedsSaid : Prop := peerFeedsRow.holds Tryz.pinned (OpenSpec.ofChange peerFeedsSpec)

/-- ITS FALSE NEIGHBOUR: 'it returns false'. Refute it at one input. -/
def peerFeedsWrong : ChangeSpec := { name := "peerFeeds", fn := fun _ => fun
  | [d1, d2, d3, d4, d5, d6] => { results := [.lit (.bool false)], args := [d1, d2, d3, d4, d5, d6] }
  | _ => none }
def PeerFeedsWrongFalsely : Prop := peerFeedsRow.holds Tryz.pinned (OpenSpec.ofChange peerFeedsWrong)

/-- 'torrentlaw17.PeerSays': WHATEVER THE INPUT: true; the input reads as it did. -/
def peerSaysSpec : ChangeSpec := { name := "peerSays", fn := fun _ => fun
  | [d1, d2, d3, d4, d5, d6] => { results := [.lit (.bool true)], args := [d1, d2, d3, d4, d5, d6] }
  | _ => none }
def peerSaysRow : OpenClaim := { program := "ytfjjpbebnoghmaagreatdoor", sum := "2a87d4852e8e897e356af52cfa7b74b9855dfa7b5272d8cb1671d23d03c9f74c", func := "torrent/torrentlaw17.PeerSays", spec := "peerSays", unfollowed := true, recurses := true, named := ["torrent/message.kinds", "torrent/bitset.masks"], apart := false, laid := [("torrent/message.kinds", laid_torrent_message_kinds), ("torrent/bitset.masks", laid_torrent_bitset_masks)] }
def PeerSaysSaid : Prop := peerSaysRow.holds Tryz.pinned (OpenSpec.ofChange peerSaysSpec)

/-- ITS FALSE NEIGHBOUR: 'it returns false'. Refute it at one input. -/
def peerSaysWrong : ChangeSpec := { name := "peerSays", fn := fun _ => fun
  | [d1, d2, d3, d4, d5, d6] => { results := [.lit (.bool false)], args := [d1, d2, d3, d4, d5, d6] }
  | _ => none }
def PeerSaysWrongFalsely : Prop := peerSaysRow.holds Tryz.pinned (OpenSpec.ofChange peerSaysWrong)

/-- 'torrentlaw17.PeerStates': WHATEVER THE INPUT: true; the input reads as it did. -/
def peerStatesSpec : ChangeSpec := { name := "peerStates", fn := fun _ => fun
  | [d1, d2, d3, d4, d5, d6] => { results := [.lit (.bool true)], args := [d1, d2, d3, d4, d5, d6] }
  | _ => none }
def peerStatesRow : OpenClaim := { program := "ytfjjpbebnoghmaagreatdoor", sum := "2a87d4852e8e897e356af52cfa7b74b9855dfa7b5272d8cb1671d23d03c9f74c", func := "torrent/torrentlaw17.PeerStates", spec := "peerStates", unfollowed := true, recurses := true, named := ["torrent/message.kinds", "torrent/bitset.masks"], apart := false, laid := [("torrent/message.kinds", laid_torrent_message_kinds), ("torrent/bitset.masks", laid_torrent_bitset_masks)] }
def PeerStatesSaid : Prop := peerStatesRow.holds Tryz.pinned (OpenSpec.ofChange peerStatesSpec)

/-- ITS FALSE NEIGHBOUR: 'it returns false'. Refute it at one input. -/
def peerStatesWrong : ChangeSpec := { name := "peerStates", fn := fun _ => fun
  | [d1, d2, d3, d4, d5, d6] => { results := [.lit (.bool false)], args := [d1, d2, d3, d4, d5, d6] }
  | _ => none }
def PeerStatesWrongFalsely : Prop := peerStatesRow.holds Tryz.pinned (OpenSpec.ofChange peerStatesWrong)

/-- 'torrentlaw17.PeerPlays': WHATEVER THE INPUT: true; the input reads as it did. -/
def peerPlaysSpec : ChangeSpec := { name := "peerPlays", fn := fun _ => fun
  | [d1, d2, d3, d4, d5, d6] => { results := [.lit (.bool true)], args := [d1, d2, d3, d4, d5, d6] }
  | _ => none }
def peerPlaysRow : OpenClaim := { program := "ytfjjpbebnoghmaagreatdoor", sum := "2a87d4852e8e897e356af52cfa7b74b9855dfa7b5272d8cb1671d23d03c9f74c", func := "torrent/torrentlaw17.PeerPlays", spec := "peerPlays", unfollowed := true, recurses := true, named := ["torrent/message.kinds", "torrent/bitset.masks"], apart := false, laid := [("torrent/message.kinds", laid_torrent_message_kinds), ("torrent/bitset.masks", laid_torrent_bitset_masks)] }
def PeerPlaysSaid : Prop := peerPlaysRow.holds Tryz.pinned (OpenSpec.ofChange peerPlaysSpec)

/-- ITS FALSE NEIGHBOUR: 'it returns false'. Refute it at one input. -/
def peerPlaysWrong : ChangeSpec := { name := "peerPlays", fn := fun _ => fun
  | [d1, d2, d3, d4, d5, d6] => { results := [.lit (.bool false)], args := [d1, d2, d3, d4, d5, d6] }
  | _ => none }
def PeerPlaysWrongFalsely : Prop := peerPlaysRow.holds Tryz.pinned (OpenSpec.ofChange peerPlaysWrong)

/- THE SECOND FORM. 'bulk': how many values and letters a reading holds, each counted each time it is reached (what is shared counts as often as it is met; a slice's spare places count too). A statement '..UptoSaid' is the law's where the arguments, and the package variables that the reading takes, are together of bulk at most 1048576: NARROWER than '..Said'. Prove '..Said' where nothing that the law and all that it calls make is longer than what came in: it says more and counts as full. Else prove '..UptoSaid'. A law counts once. -/
mutual
def uptoBulk {H : Type} : DataW H → Nat
  | .lit (.string bytes) => bytes.length + 1
  | .lit _ => 1
  | .nil => 1
  | .ptr d => uptoBulk d + 1
  | .slice elems spare => uptoBulkAll elems + uptoBulkAll spare + 1
  | .agg parts => uptoBulkAll parts + 1
  | .iface _ d => uptoBulk d + 1
  | .map entries => uptoBulkEntries entries + 1
  | .held _ => 1
def uptoBulkAll {H : Type} : List (DataW H) → Nat
  | [] => 0
  | d :: r => uptoBulk d + uptoBulkAll r
def uptoBulkEntries {H : Type} : List (Lit × DataW H) → Nat
  | [] => 0
  | x :: r => uptoBulkEntry x + uptoBulkEntries r
def uptoBulkEntry {H : Type} : Lit × DataW H → Nat
  | (.string bytes, d) => bytes.length + uptoBulk d + 1
  | (_, d) => uptoBulk d + 1
 end
def uptoSmall : (H : Type) → List (DataW H) → Bool := fun _ ds => decide (uptoBulkAll ds ≤ 1048576)
def OpenSpec.upto (s : _root_.Go.ChangeSpec) : _root_.Go.OpenSpec := { _root_.Go.OpenSpec.ofChange s with cond := some uptoSmall }

/-- 'torrentlaw17.PeerFeeds', WHERE WHAT IT READS IS OF BULK AT MOST 1048576: true; the input reads as it did. -/
def peerFeedsUptoRow : OpenClaim := { program := "ytfjjpbebnoghmaagreatdoor", sum := "2a87d4852e8e897e356af52cfa7b74b9855dfa7b5272d8cb1671d23d03c9f74c", func := "torrent/torrentlaw17.PeerFeeds", spec := "peerFeeds", unfollowed := true, recurses := true, named := ["torrent/message.kinds", "torrent/bitset.masks"], apart := false, laid := [("torrent/message.kinds", laid_torrent_message_kinds), ("torrent/bitset.masks", laid_torrent_bitset_masks)], narrowed := true }
def PeerFeedsUptoSaid : Prop := peerFeedsUptoRow.holds Tryz.pinned (OpenSpec.upto peerFeedsSpec)

/-- 'torrentlaw17.PeerSays', WHERE WHAT IT READS IS OF BULK AT MOST 1048576: true; the input reads as it did. -/
def peerSaysUptoRow : OpenClaim := { program := "ytfjjpbebnoghmaagreatdoor", sum := "2a87d4852e8e897e356af52cfa7b74b9855dfa7b5272d8cb1671d23d03c9f74c", func := "torrent/torrentlaw17.PeerSays", spec := "peerSays", unfollowed := true, recurses := true, named := ["torrent/message.kinds", "torrent/bitset.masks"], apart := false, laid := [("torrent/message.kinds", laid_torrent_message_kinds), ("torrent/bitset.masks", laid_torrent_bitset_masks)], narrowed := true }
def PeerSaysUptoSaid : Prop := peerSaysUptoRow.holds Tryz.pinned (OpenSpec.upto peerSaysSpec)

/-- 'torrentlaw17.PeerStates', WHERE WHAT IT READS IS OF BULK AT MOST 1048576: true; the input reads as it did. -/
def peerStatesUptoRow : OpenClaim := { program := "ytfjjpbebnoghmaagreatdoor", sum := "2a87d4852e8e897e356af52cfa7b74b9855dfa7b5272d8cb1671d23d03c9f74c", func := "torrent/torrentlaw17.PeerStates", spec := "peerStates", unfollowed := true, recurses := true, named := ["torrent/message.kinds", "torrent/bitset.masks"], apart := false, laid := [("torrent/message.kinds", laid_torrent_message_kinds), ("torrent/bitset.masks", laid_torrent_bitset_masks)], narrowed := true }
def PeerStatesUptoSaid : Prop := peerStatesUptoRow.holds Tryz.pinned (OpenSpec.upto peerStatesSpec)

/-- 'torrentlaw17.PeerPlays', WHERE WHAT IT READS IS OF BULK AT MOST 1048576: true; the input reads as it did. -/
def peerPlaysUptoRow : OpenClaim := { program := "ytfjjpbebnoghmaagreatdoor", sum := "2a87d4852e8e897e356af52cfa7b74b9855dfa7b5272d8cb1671d23d03c9f74c", func := "torrent/torrentlaw17.PeerPlays", spec := "peerPlays", unfollowed := true, recurses := true, named := ["torrent/message.kinds", "torrent/bitset.masks"], apart := false, laid := [("torrent/message.kinds", laid_torrent_message_kinds), ("torrent/bitset.masks", laid_torrent_bitset_masks)], narrowed := true }
def PeerPlaysUptoSaid : Prop := peerPlaysUptoRow.holds Tryz.pinned (OpenSpec.upto peerPlaysSpec)

end Rows
end Go.Proofs.YtfjjpbebnoghmaaGreatDoor
