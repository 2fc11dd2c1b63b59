/-
  NARROWER THAN 'FOR EVERY INPUT', by the rows' own cells (each row's printed sentence says how): MessageTwoWay: laid · MessageBack: laid · MessageDecodes: laid · MessageStops: laid · MessageUnwireBack: laid · MessageUnwires: laid.
  DERIVED. THE GIVEN ROWS OF THIS SEAT. 6 by the template 'for every input the law returns true; each argument reads behind the call as it read before'; 0 by the template 'total and deterministic' (their statements: YtkngojddeajelaaDoorTotals.lean).
  GIVEN WITH THE SEED: the statements are not yours to turn. If you find one false, say at which input.
  Laid BY PROGRAM, IN A SANDBOX (cutbox-rows.mjs): the forced cells as the released guide's own fill.sh prints them over the translation 74e3b9dde60937da… (all of the seat's roots in one cut). By AI agents, Wed Nov 11 2026. No macro, syntax, notation, axiom, sorry.
-/
import Derived.Test.YtkngojddeajelaaDoorChecked
import GoSem.Claim
import GoSem.ClaimJoined
import GoSem.ClaimMapViews
import Derived.JoinedTies
import Derived.KernelRfl
namespace Go.Proofs.YtkngojddeajelaaDoor
/- THE CELL 'sum', in the pinned program and in every row, IS THE sha256 OF THE DUMP (.gsa) THAT YtkngojddeajelaaDoorProg.lean LOADS. Nothing in Lean hashes anything: it is a label: what it is worth is what the hold of that sum in a sandbox is worth. -/
noncomputable def Tryd.pinned : Pinned := { name := "ytkngojddeajelaadoor", sum := "74e3b9dde60937dad757acc8beebd036570a2451f4791f0162faf9f5ffee2c2a", checked := Tryd.checked }
namespace Rows
def none {H : Type} : Left H := { results := [], args := [] }

/- WHAT THE LISTED PACKAGE-LEVEL VARIABLES READ AS WHEN THE CALL BEGINS. Each datum BY PROGRAM (the guide's laid-datum.mjs) off the statement by which the dump's own 'gosem.cut.vars' lays the variable. In a bare row this is a premise. The card (YtkngojddeajelaaDoorCards.lean) ties it to the program's text. -/
def laid_torrent_message_kinds {H : Type} : DataW H := .agg [.agg [.lit (.int .i64 (-1)), .lit (.int .i64 0), .lit (.int .i64 0), .lit (.int .i64 1), .agg [.lit (.int .i64 0), .lit (.int .i64 0), .lit (.int .i64 0), .lit (.int .i64 0), .lit (.int .i64 0), .lit (.int .i64 0), .lit (.int .i64 0)]], .agg [.lit (.int .i64 0), .lit (.int .i64 1), .lit (.int .i64 1), .lit (.int .i64 1), .agg [.lit (.int .i64 1), .lit (.int .i64 0), .lit (.int .i64 0), .lit (.int .i64 0), .lit (.int .i64 0), .lit (.int .i64 0), .lit (.int .i64 0)]], .agg [.lit (.int .i64 1), .lit (.int .i64 1), .lit (.int .i64 1), .lit (.int .i64 1), .agg [.lit (.int .i64 1), .lit (.int .i64 0), .lit (.int .i64 0), .lit (.int .i64 0), .lit (.int .i64 0), .lit (.int .i64 0), .lit (.int .i64 0)]], .agg [.lit (.int .i64 2), .lit (.int .i64 1), .lit (.int .i64 1), .lit (.int .i64 1), .agg [.lit (.int .i64 1), .lit (.int .i64 0), .lit (.int .i64 0), .lit (.int .i64 0), .lit (.int .i64 0), .lit (.int .i64 0), .lit (.int .i64 0)]], .agg [.lit (.int .i64 3), .lit (.int .i64 1), .lit (.int .i64 1), .lit (.int .i64 1), .agg [.lit (.int .i64 1), .lit (.int .i64 0), .lit (.int .i64 0), .lit (.int .i64 0), .lit (.int .i64 0), .lit (.int .i64 0), .lit (.int .i64 0)]], .agg [.lit (.int .i64 4), .lit (.int .i64 5), .lit (.int .i64 5), .lit (.int .i64 1), .agg [.lit (.int .i64 1), .lit (.int .i64 3), .lit (.int .i64 0), .lit (.int .i64 0), .lit (.int .i64 0), .lit (.int .i64 0), .lit (.int .i64 0)]], .agg [.lit (.int .i64 5), .lit (.int .i64 1), .lit (.int .i64 8193), .lit (.int .i64 1), .agg [.lit (.int .i64 1), .lit (.int .i64 10), .lit (.int .i64 0), .lit (.int .i64 0), .lit (.int .i64 0), .lit (.int .i64 0), .lit (.int .i64 0)]], .agg [.lit (.int .i64 6), .lit (.int .i64 13), .lit (.int .i64 13), .lit (.int .i64 1), .agg [.lit (.int .i64 1), .lit (.int .i64 3), .lit (.int .i64 4), .lit (.int .i64 6), .lit (.int .i64 0), .lit (.int .i64 0), .lit (.int .i64 0)]], .agg [.lit (.int .i64 7), .lit (.int .i64 10), .lit (.int .i64 16393), .lit (.int .i64 1), .agg [.lit (.int .i64 1), .lit (.int .i64 3), .lit (.int .i64 4), .lit (.int .i64 10), .lit (.int .i64 0), .lit (.int .i64 0), .lit (.int .i64 0)]], .agg [.lit (.int .i64 8), .lit (.int .i64 13), .lit (.int .i64 13), .lit (.int .i64 1), .agg [.lit (.int .i64 1), .lit (.int .i64 3), .lit (.int .i64 4), .lit (.int .i64 6), .lit (.int .i64 0), .lit (.int .i64 0), .lit (.int .i64 0)]], .agg [.lit (.int .i64 21), .lit (.int .i64 49), .lit (.int .i64 49), .lit (.int .i64 1), .agg [.lit (.int .i64 1), .lit (.int .i64 7), .lit (.int .i64 8), .lit (.int .i64 3), .lit (.int .i64 5), .lit (.int .i64 9), .lit (.int .i64 0)]], .agg [.lit (.int .i64 22), .lit (.int .i64 49), .lit (.int .i64 17969), .lit (.int .i64 32), .agg [.lit (.int .i64 1), .lit (.int .i64 7), .lit (.int .i64 8), .lit (.int .i64 3), .lit (.int .i64 5), .lit (.int .i64 9), .lit (.int .i64 11)]], .agg [.lit (.int .i64 23), .lit (.int .i64 49), .lit (.int .i64 49), .lit (.int .i64 1), .agg [.lit (.int .i64 1), .lit (.int .i64 7), .lit (.int .i64 8), .lit (.int .i64 3), .lit (.int .i64 5), .lit (.int .i64 9), .lit (.int .i64 0)]], .agg [.lit (.int .i64 1000), .lit (.int .i64 1), .lit (.int .i64 32768), .lit (.int .i64 1), .agg [.lit (.int .i64 2), .lit (.int .i64 10), .lit (.int .i64 0), .lit (.int .i64 0), .lit (.int .i64 0), .lit (.int .i64 0), .lit (.int .i64 0)]]]

/-- 'torrentlaw11.MessageTwoWay': WHATEVER THE INPUT: true; the input reads as it did. -/
def messageTwoWaySpec : ChangeSpec := { name := "messageTwoWay", fn := fun _ => fun
  | [d] => { results := [.lit (.bool true)], args := [d] }
  | _ => none }
def messageTwoWayRow : OpenClaim := { program := "ytkngojddeajelaadoor", sum := "74e3b9dde60937dad757acc8beebd036570a2451f4791f0162faf9f5ffee2c2a", func := "torrent/torrentlaw11.MessageTwoWay", spec := "messageTwoWay", unfollowed := true, recurses := true, named := ["torrent/message.kinds"], apart := false, laid := [("torrent/message.kinds", laid_torrent_message_kinds)] }
def MessageTwoWaySaid : Prop := messageTwoWayRow.holds Tryd.pinned (OpenSpec.ofChange messageTwoWaySpec)

/-- ITS FALSE NEIGHBOUR: 'it returns false'. Refute it at one input. -/
def messageTwoWayWrong : ChangeSpec := { name := "messageTwoWay", fn := fun _ => fun
  | [d] => { results := [.lit (.bool false)], args := [d] }
  | _ => none }
def MessageTwoWayWrongFalsely : Prop := messageTwoWayRow.holds Tryd.pinned (OpenSpec.ofChange messageTwoWayWrong)

/-- 'torrentlaw11.MessageBack': WHATEVER THE INPUT: true; the input reads as it did. -/
def messageBackSpec : ChangeSpec := { name := "messageBack", fn := fun _ => fun
  | [d] => { results := [.lit (.bool true)], args := [d] }
  | _ => none }
def messageBackRow : OpenClaim := { program := "ytkngojddeajelaadoor", sum := "74e3b9dde60937dad757acc8beebd036570a2451f4791f0162faf9f5ffee2c2a", func := "torrent/torrentlaw11.MessageBack", spec := "messageBack", unfollowed := true, recurses := true, named := ["torrent/message.kinds"], apart := false, laid := [("torrent/message.kinds", laid_torrent_message_kinds)] }
def MessageBackSaid : Prop := messageBackRow.holds Tryd.pinned (OpenSpec.ofChange messageBackSpec)

/-- ITS FALSE NEIGHBOUR: 'it returns false'. Refute it at one input. -/
def messageBackWrong : ChangeSpec := { name := "messageBack", fn := fun _ => fun
  | [d] => { results := [.lit (.bool false)], args := [d] }
  | _ => none }
def MessageBackWrongFalsely : Prop := messageBackRow.holds Tryd.pinned (OpenSpec.ofChange messageBackWrong)

/-- 'torrentlaw11.MessageDecodes': WHATEVER THE INPUT: true; the input reads as it did. -/
def messageDecodesSpec : ChangeSpec := { name := "messageDecodes", fn := fun _ => fun
  | [d] => { results := [.lit (.bool true)], args := [d] }
  | _ => none }
def messageDecodesRow : OpenClaim := { program := "ytkngojddeajelaadoor", sum := "74e3b9dde60937dad757acc8beebd036570a2451f4791f0162faf9f5ffee2c2a", func := "torrent/torrentlaw11.MessageDecodes", spec := "messageDecodes", unfollowed := true, recurses := true, named := ["torrent/message.kinds"], apart := false, laid := [("torrent/message.kinds", laid_torrent_message_kinds)] }
def MessageDecodesSaid : Prop := messageDecodesRow.holds Tryd.pinned (OpenSpec.ofChange messageDecodesSpec)

/-- ITS FALSE NEIGHBOUR: 'it returns false'. Refute it at one input. -/
def messageDecodesWrong : ChangeSpec := { name := "messageDecodes", fn := fun _ => fun
  | [d] => { results := [.lit (.bool false)], args := [d] }
  | _ => none }
def MessageDecodesWrongFalsely : Prop := messageDecodesRow.holds Tryd.pinned (OpenSpec.ofChange messageDecodesWrong)

/-- 'torrentlaw11.MessageStops': WHATEVER THE INPUT: true; the input reads as it did. -/
def messageStopsSpec : ChangeSpec := { name := "messageStops", fn := fun _ => fun
  | [d1, d2, d3] => { results := [.lit (.bool true)], args := [d1, d2, d3] }
  | _ => none }
def messageStopsRow : OpenClaim := { program := "ytkngojddeajelaadoor", sum := "74e3b9dde60937dad757acc8beebd036570a2451f4791f0162faf9f5ffee2c2a", func := "torrent/torrentlaw11.MessageStops", spec := "messageStops", unfollowed := true, recurses := true, named := ["torrent/message.kinds"], apart := false, laid := [("torrent/message.kinds", laid_torrent_message_kinds)] }
def MessageStopsSaid : Prop := messageStopsRow.holds Tryd.pinned (OpenSpec.ofChange messageStopsSpec)

/-- ITS FALSE NEIGHBOUR: 'it returns false'. Refute it at one input. -/
def messageStopsWrong : ChangeSpec := { name := "messageStops", fn := fun _ => fun
  | [d1, d2, d3] => { results := [.lit (.bool false)], args := [d1, d2, d3] }
  | _ => none }
def MessageStopsWrongFalsely : Prop := messageStopsRow.holds Tryd.pinned (OpenSpec.ofChange messageStopsWrong)

/-- 'torrentlaw11.MessageUnwireBack': WHATEVER THE INPUT: true; the input reads as it did. -/
def messageUnwireBackSpec : ChangeSpec := { name := "messageUnwireBack", fn := fun _ => fun
  | [d1, d2] => { results := [.lit (.bool true)], args := [d1, d2] }
  | _ => none }
def messageUnwireBackRow : OpenClaim := { program := "ytkngojddeajelaadoor", sum := "74e3b9dde60937dad757acc8beebd036570a2451f4791f0162faf9f5ffee2c2a", func := "torrent/torrentlaw11.MessageUnwireBack", spec := "messageUnwireBack", unfollowed := true, recurses := true, named := ["torrent/message.kinds"], apart := false, laid := [("torrent/message.kinds", laid_torrent_message_kinds)] }
def MessageUnwireBackSaid : Prop := messageUnwireBackRow.holds Tryd.pinned (OpenSpec.ofChange messageUnwireBackSpec)

/-- ITS FALSE NEIGHBOUR: 'it returns false'. Refute it at one input. -/
def messageUnwireBackWrong : ChangeSpec := { name := "messageUnwireBack", fn := fun _ => fun
  | [d1, d2] => { results := [.lit (.bool false)], args := [d1, d2] }
  | _ => none }
def MessageUnwireBackWrongFalsely : Prop := messageUnwireBackRow.holds Tryd.pinned (OpenSpec.ofChange messageUnwireBackWrong)

/-- 'torrentlaw11.MessageUnwires': WHATEVER THE INPUT: true; the input reads as it did. -/
def messageUnwiresSpec : ChangeSpec := { name := "messageUnwires", fn := fun _ => fun
  | [d] => { results := [.lit (.bool true)], args := [d] }
  | _ => none }
def messageUnwiresRow : OpenClaim := { program := "ytkngojddeajelaadoor", sum := "74e3b9dde60937dad757acc8beebd036570a2451f4791f0162faf9f5ffee2c2a", func := "torrent/torrentlaw11.MessageUnwires", spec := "messageUnwires", unfollowed := true, recurses := true, named := ["torrent/message.kinds"], apart := false, laid := [("torrent/message.kinds", laid_torrent_message_kinds)] }
def MessageUnwiresSaid : Prop := messageUnwiresRow.holds Tryd.pinned (OpenSpec.ofChange messageUnwiresSpec)

/-- ITS FALSE NEIGHBOUR: 'it returns false'. Refute it at one input. -/
def messageUnwiresWrong : ChangeSpec := { name := "messageUnwires", fn := fun _ => fun
  | [d] => { results := [.lit (.bool false)], args := [d] }
  | _ => none }
def MessageUnwiresWrongFalsely : Prop := messageUnwiresRow.holds Tryd.pinned (OpenSpec.ofChange messageUnwiresWrong)

/- THE SECOND FORM. 'bulk': how many values and letters a reading holds, each counted each time it is reached (what is shared counts as often as it is met; a slice's spare places count too). A statement '..UptoSaid' is the law's where the arguments, and the package variables that the reading takes, are together of bulk at most 1048576: NARROWER than '..Said'. Prove '..Said' where nothing that the law and all that it calls make is longer than what came in: it says more and counts as full. Else prove '..UptoSaid'. A law counts once. -/
mutual
def uptoBulk {H : Type} : DataW H → Nat
  | .lit (.string bytes) => bytes.length + 1
  | .lit _ => 1
  | .nil => 1
  | .ptr d => uptoBulk d + 1
  | .slice elems spare => uptoBulkAll elems + uptoBulkAll spare + 1
  | .agg parts => uptoBulkAll parts + 1
  | .iface _ d => uptoBulk d + 1
  | .map entries => uptoBulkEntries entries + 1
  | .held _ => 1
def uptoBulkAll {H : Type} : List (DataW H) → Nat
  | [] => 0
  | d :: r => uptoBulk d + uptoBulkAll r
def uptoBulkEntries {H : Type} : List (Lit × DataW H) → Nat
  | [] => 0
  | x :: r => uptoBulkEntry x + uptoBulkEntries r
def uptoBulkEntry {H : Type} : Lit × DataW H → Nat
  | (.string bytes, d) => bytes.length + uptoBulk d + 1
  | (_, d) => uptoBulk d + 1
 end
def uptoSmall : (H : Type) → List (DataW H) → Bool := fun _ ds => decide (uptoBulkAll ds ≤ 1048576)
def OpenSpec.upto (s : _root_.Go.ChangeSpec) : _root_.Go.OpenSpec := { _root_.Go.OpenSpec.ofChange s with cond := some uptoSmall }

/-- 'torrentlaw11.MessageTwoWay', WHERE WHAT IT READS IS OF BULK AT MOST 1048576: true; the input reads as it did. -/
def messageTwoWayUptoRow : OpenClaim := { program := "ytkngojddeajelaadoor", sum := "74e3b9dde60937dad757acc8beebd036570a2451f4791f0162faf9f5ffee2c2a", func := "torrent/torrentlaw11.MessageTwoWay", spec := "messageTwoWay", unfollowed := true, recurses := true, named := ["torrent/message.kinds"], apart := false, laid := [("torrent/message.kinds", laid_torrent_message_kinds)], narrowed := true }
def MessageTwoWayUptoSaid : Prop := messageTwoWayUptoRow.holds Tryd.pinned (OpenSpec.upto messageTwoWaySpec)

/-- 'torrentlaw11.MessageBack', WHERE WHAT IT READS IS OF BULK AT MOST 1048576: true; the input reads as it did. -/
def messageBackUptoRow : OpenClaim := { program := "ytkngojddeajelaadoor", sum := "74e3b9dde60937dad757acc8beebd036570a2451f4791f0162faf9f5ffee2c2a", func := "torrent/torrentlaw11.MessageBack", spec := "messageBack", unfollowed := true, recurses := true, named := ["torrent/message.kinds"], apart := false, laid := [("torrent/message.kinds", laid_torrent_message_kinds)], narrowed := true }
def MessageBackUptoSaid : Prop := messageBackUptoRow.holds Tryd.pinned (OpenSpec.upto messageBackSpec)

/-- 'torrentlaw11.MessageDecodes', WHERE WHAT IT READS IS OF BULK AT MOST 1048576: true; the input reads as it did. -/
def messageDecodesUptoRow : OpenClaim := { program := "ytkngojddeajelaadoor", sum := "74e3b9dde60937dad757acc8beebd036570a2451f4791f0162faf9f5ffee2c2a", func := "torrent/torrentlaw11.MessageDecodes", spec := "messageDecodes", unfollowed := true, recurses := true, named := ["torrent/message.kinds"], apart := false, laid := [("torrent/message.kinds", laid_torrent_message_kinds)], narrowed := true }
def MessageDecodesUptoSaid : Prop := messageDecodesUptoRow.holds Tryd.pinned (OpenSpec.upto messageDecodesSpec)

/-- 'torrentlaw11.MessageStops', WHERE WHAT IT READS IS OF BULK AT MOST 1048576: true; the input reads as it did. -/
def messageStopsUptoRow : OpenClaim := { program := "ytkngojddeajelaadoor", sum := "74e3b9dde60937dad757acc8beebd036570a2451f4791f0162faf9f5ffee2c2a", func := "torrent/torrentlaw11.MessageStops", spec := "messageStops", unfollowed := true, recurses := true, named := ["torrent/message.kinds"], apart := false, laid := [("torrent/message.kinds", laid_torrent_message_kinds)], narrowed := true }
def MessageStopsUptoSaid : Prop := messageStopsUptoRow.holds Tryd.pinned (OpenSpec.upto messageStopsSpec)

/-- 'torrentlaw11.MessageUnwireBack', WHERE WHAT IT READS IS OF BULK AT MOST 1048576: true; the input reads as it did. -/
def messageUnwireBackUptoRow : OpenClaim := { program := "ytkngojddeajelaadoor", sum := "74e3b9dde60937dad757acc8beebd036570a2451f4791f0162faf9f5ffee2c2a", func := "torrent/torrentlaw11.MessageUnwireBack", spec := "messageUnwireBack", unfollowed := true, recurses := true, named := ["torrent/message.kinds"], apart := false, laid := [("torrent/message.kinds", laid_torrent_message_kinds)], narrowed := true }
def MessageUnwireBackUptoSaid : Prop := messageUnwireBackUptoRow.holds Tryd.pinned (OpenSpec.upto messageUnwireBackSpec)

/-- 'torrentlaw11.MessageUnwires', WHERE WHAT IT READS IS OF BULK AT MOST 1048576: true; the input reads as it did. -/
def messageUnwiresUptoRow : OpenClaim := { program := "ytkngojddeajelaadoor", sum := "74e3b9dde60937dad757acc8beebd036570a2451f4791f0162faf9f5ffee2c2a", func := "torrent/torrentlaw11.MessageUnwires", spec := "messageUnwires", unfollowed := true, recurses := true, named := ["torrent/message.kinds"], apart := false, laid := [("torrent/message.kinds", laid_torrent_message_kinds)], narrowed := true }
def MessageUnwiresUptoSaid : Prop := messageUnwiresUptoRow.holds Tryd.pinned (OpenSpec.upto messageUnwiresSpec)

end Rows
end Go.Proofs.YtkngojddeajelaaDoor
