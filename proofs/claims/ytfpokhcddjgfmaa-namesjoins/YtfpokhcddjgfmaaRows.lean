/-
  No cell of these rows narrows 'for every input' (looked for: loops, veiled, ifaces, maps, wideKeys, modest, calm, conditions, laid).
  DERIVED. THE GIVEN ROWS OF THIS SEAT. 6 by the template 'for every input the law returns true; each argument reads behind the call as it read before'; 0 by the template 'total and deterministic' (their statements: YtfpokhcddjgfmaaTotals.lean).
  GIVEN WITH THE SEED: the statements are not yours to turn. If you find one false, say at which input.
  Laid BY PROGRAM, IN A SANDBOX (cutbox-rows.mjs): the forced cells as the released guide's own fill.sh prints them over the translation df0520d1e08659bb… (all of the seat's roots in one cut). By AI agents, Wed Nov 11 2026. No macro, syntax, notation, axiom, sorry.
-/
import Derived.Test.YtfpokhcddjgfmaaChecked
import GoSem.Claim
import GoSem.ClaimJoined
import GoSem.ClaimMapViews
import Derived.JoinedTies
import Derived.KernelRfl
namespace Go.Proofs.Ytfpokhcddjgfmaa
/- THE CELL 'sum', in the pinned program and in every row, IS THE sha256 OF THE DUMP (.gsa) THAT YtfpokhcddjgfmaaProg.lean LOADS. Nothing in Lean hashes anything: it is a label: what it is worth is what the hold of that sum in a sandbox is worth. -/
noncomputable def Try.pinned : Pinned := { name := "ytfpokhcddjgfmaa", sum := "df0520d1e08659bb40d070753ba14b0e357061e53c39e8c7643dfd86cbabf61f", checked := Try.checked }
namespace Rows
def none {H : Type} : Left H := { results := [], args := [] }

/-- 'torrentlaw5.NamesUtf8s': WHATEVER THE INPUT: true; the input reads as it did. -/
def namesUtf8sSpec : ChangeSpec := { name := "namesUtf8s", fn := fun _ => fun
  | [d] => { results := [.lit (.bool true)], args := [d] }
  | _ => none }
def namesUtf8sRow : OpenClaim := { program := "ytfpokhcddjgfmaa", sum := "df0520d1e08659bb40d070753ba14b0e357061e53c39e8c7643dfd86cbabf61f", func := "torrent/torrentlaw5.NamesUtf8s", spec := "namesUtf8s", plainKeys := false, apart := false }
def NamesUtf8sSaid : Prop := namesUtf8sRow.holds Try.pinned (OpenSpec.ofChange namesUtf8sSpec)

/-- ITS FALSE NEIGHBOUR: 'it returns false'. Refute it at one input. -/
def namesUtf8sWrong : ChangeSpec := { name := "namesUtf8s", fn := fun _ => fun
  | [d] => { results := [.lit (.bool false)], args := [d] }
  | _ => none }
def NamesUtf8sWrongFalsely : Prop := namesUtf8sRow.holds Try.pinned (OpenSpec.ofChange namesUtf8sWrong)

/-- 'torrentlaw5.NamesLesses': WHATEVER THE INPUT: true; the input reads as it did. -/
def namesLessesSpec : ChangeSpec := { name := "namesLesses", fn := fun _ => fun
  | [d1, d2] => { results := [.lit (.bool true)], args := [d1, d2] }
  | _ => none }
def namesLessesRow : OpenClaim := { program := "ytfpokhcddjgfmaa", sum := "df0520d1e08659bb40d070753ba14b0e357061e53c39e8c7643dfd86cbabf61f", func := "torrent/torrentlaw5.NamesLesses", spec := "namesLesses", plainKeys := false, apart := false }
def NamesLessesSaid : Prop := namesLessesRow.holds Try.pinned (OpenSpec.ofChange namesLessesSpec)

/-- ITS FALSE NEIGHBOUR: 'it returns false'. Refute it at one input. -/
def namesLessesWrong : ChangeSpec := { name := "namesLesses", fn := fun _ => fun
  | [d1, d2] => { results := [.lit (.bool false)], args := [d1, d2] }
  | _ => none }
def NamesLessesWrongFalsely : Prop := namesLessesRow.holds Try.pinned (OpenSpec.ofChange namesLessesWrong)

/-- 'torrentlaw5.NamesComponents': WHATEVER THE INPUT: true; the input reads as it did. -/
def namesComponentsSpec : ChangeSpec := { name := "namesComponents", fn := fun _ => fun
  | [d] => { results := [.lit (.bool true)], args := [d] }
  | _ => none }
def namesComponentsRow : OpenClaim := { program := "ytfpokhcddjgfmaa", sum := "df0520d1e08659bb40d070753ba14b0e357061e53c39e8c7643dfd86cbabf61f", func := "torrent/torrentlaw5.NamesComponents", spec := "namesComponents", plainKeys := false, apart := false }
def NamesComponentsSaid : Prop := namesComponentsRow.holds Try.pinned (OpenSpec.ofChange namesComponentsSpec)

/-- ITS FALSE NEIGHBOUR: 'it returns false'. Refute it at one input. -/
def namesComponentsWrong : ChangeSpec := { name := "namesComponents", fn := fun _ => fun
  | [d] => { results := [.lit (.bool false)], args := [d] }
  | _ => none }
def NamesComponentsWrongFalsely : Prop := namesComponentsRow.holds Try.pinned (OpenSpec.ofChange namesComponentsWrong)

/-- 'torrentlaw5.NamesClashes': WHATEVER THE INPUT: true; the input reads as it did. -/
def namesClashesSpec : ChangeSpec := { name := "namesClashes", fn := fun _ => fun
  | [d] => { results := [.lit (.bool true)], args := [d] }
  | _ => none }
def namesClashesRow : OpenClaim := { program := "ytfpokhcddjgfmaa", sum := "df0520d1e08659bb40d070753ba14b0e357061e53c39e8c7643dfd86cbabf61f", func := "torrent/torrentlaw5.NamesClashes", spec := "namesClashes", unfollowed := true, recurses := true, plainKeys := false, apart := false }
def NamesClashesSaid : Prop := namesClashesRow.holds Try.pinned (OpenSpec.ofChange namesClashesSpec)

/-- ITS FALSE NEIGHBOUR: 'it returns false'. Refute it at one input. -/
def namesClashesWrong : ChangeSpec := { name := "namesClashes", fn := fun _ => fun
  | [d] => { results := [.lit (.bool false)], args := [d] }
  | _ => none }
def NamesClashesWrongFalsely : Prop := namesClashesRow.holds Try.pinned (OpenSpec.ofChange namesClashesWrong)

/-- 'torrentlaw5.NamesPaths': WHATEVER THE INPUT: true; the input reads as it did. -/
def namesPathsSpec : ChangeSpec := { name := "namesPaths", fn := fun _ => fun
  | [d] => { results := [.lit (.bool true)], args := [d] }
  | _ => none }
def namesPathsRow : OpenClaim := { program := "ytfpokhcddjgfmaa", sum := "df0520d1e08659bb40d070753ba14b0e357061e53c39e8c7643dfd86cbabf61f", func := "torrent/torrentlaw5.NamesPaths", spec := "namesPaths", plainKeys := false, apart := false }
def NamesPathsSaid : Prop := namesPathsRow.holds Try.pinned (OpenSpec.ofChange namesPathsSpec)

/-- ITS FALSE NEIGHBOUR: 'it returns false'. Refute it at one input. -/
def namesPathsWrong : ChangeSpec := { name := "namesPaths", fn := fun _ => fun
  | [d] => { results := [.lit (.bool false)], args := [d] }
  | _ => none }
def NamesPathsWrongFalsely : Prop := namesPathsRow.holds Try.pinned (OpenSpec.ofChange namesPathsWrong)

/-- 'torrentlaw5.NamesJoins': WHATEVER THE INPUT: true; the input reads as it did. -/
def namesJoinsSpec : ChangeSpec := { name := "namesJoins", fn := fun _ => fun
  | [d] => { results := [.lit (.bool true)], args := [d] }
  | _ => none }
def namesJoinsRow : OpenClaim := { program := "ytfpokhcddjgfmaa", sum := "df0520d1e08659bb40d070753ba14b0e357061e53c39e8c7643dfd86cbabf61f", func := "torrent/torrentlaw5.NamesJoins", spec := "namesJoins", inPlace := ["internal/abi.NoEscape", "internal/bytealg.MakeNoZero"], plainKeys := false, apart := false }
def NamesJoinsSaid : Prop := namesJoinsRow.holds Try.pinned (OpenSpec.ofChange namesJoinsSpec)

/-- ITS FALSE NEIGHBOUR: 'it returns false'. Refute it at one input. -/
def namesJoinsWrong : ChangeSpec := { name := "namesJoins", fn := fun _ => fun
  | [d] => { results := [.lit (.bool false)], args := [d] }
  | _ => none }
def NamesJoinsWrongFalsely : Prop := namesJoinsRow.holds Try.pinned (OpenSpec.ofChange namesJoinsWrong)

/- THE SECOND FORM. 'bulk': how many values and letters a reading holds, each counted each time it is reached (what is shared counts as often as it is met; a slice's spare places count too). A statement '..UptoSaid' is the law's where the arguments, and the package variables that the reading takes, are together of bulk at most 1048576: NARROWER than '..Said'. Prove '..Said' where nothing that the law and all that it calls make is longer than what came in: it says more and counts as full. Else prove '..UptoSaid'. A law counts once. -/
mutual
def uptoBulk {H : Type} : DataW H → Nat
  | .lit (.string bytes) => bytes.length + 1
  | .lit _ => 1
  | .nil => 1
  | .ptr d => uptoBulk d + 1
  | .slice elems spare => uptoBulkAll elems + uptoBulkAll spare + 1
  | .agg parts => uptoBulkAll parts + 1
  | .iface _ d => uptoBulk d + 1
  | .map entries => uptoBulkEntries entries + 1
  | .held _ => 1
def uptoBulkAll {H : Type} : List (DataW H) → Nat
  | [] => 0
  | d :: r => uptoBulk d + uptoBulkAll r
def uptoBulkEntries {H : Type} : List (Lit × DataW H) → Nat
  | [] => 0
  | x :: r => uptoBulkEntry x + uptoBulkEntries r
def uptoBulkEntry {H : Type} : Lit × DataW H → Nat
  | (.string bytes, d) => bytes.length + uptoBulk d + 1
  | (_, d) => uptoBulk d + 1
 end
def uptoSmall : (H : Type) → List (DataW H) → Bool := fun _ ds => decide (uptoBulkAll ds ≤ 1048576)
def OpenSpec.upto (s : _root_.Go.ChangeSpec) : _root_.Go.OpenSpec := { _root_.Go.OpenSpec.ofChange s with cond := some uptoSmall }

/-- 'torrentlaw5.NamesUtf8s', WHERE WHAT IT READS IS OF BULK AT MOST 1048576: true; the input reads as it did. -/
def namesUtf8sUptoRow : OpenClaim := { program := "ytfpokhcddjgfmaa", sum := "df0520d1e08659bb40d070753ba14b0e357061e53c39e8c7643dfd86cbabf61f", func := "torrent/torrentlaw5.NamesUtf8s", spec := "namesUtf8s", plainKeys := false, apart := false, narrowed := true }
def NamesUtf8sUptoSaid : Prop := namesUtf8sUptoRow.holds Try.pinned (OpenSpec.upto namesUtf8sSpec)

/-- 'torrentlaw5.NamesLesses', WHERE WHAT IT READS IS OF BULK AT MOST 1048576: true; the input reads as it did. -/
def namesLessesUptoRow : OpenClaim := { program := "ytfpokhcddjgfmaa", sum := "df0520d1e08659bb40d070753ba14b0e357061e53c39e8c7643dfd86cbabf61f", func := "torrent/torrentlaw5.NamesLesses", spec := "namesLesses", plainKeys := false, apart := false, narrowed := true }
def NamesLessesUptoSaid : Prop := namesLessesUptoRow.holds Try.pinned (OpenSpec.upto namesLessesSpec)

/-- 'torrentlaw5.NamesComponents', WHERE WHAT IT READS IS OF BULK AT MOST 1048576: true; the input reads as it did. -/
def namesComponentsUptoRow : OpenClaim := { program := "ytfpokhcddjgfmaa", sum := "df0520d1e08659bb40d070753ba14b0e357061e53c39e8c7643dfd86cbabf61f", func := "torrent/torrentlaw5.NamesComponents", spec := "namesComponents", plainKeys := false, apart := false, narrowed := true }
def NamesComponentsUptoSaid : Prop := namesComponentsUptoRow.holds Try.pinned (OpenSpec.upto namesComponentsSpec)

/-- 'torrentlaw5.NamesClashes', WHERE WHAT IT READS IS OF BULK AT MOST 1048576: true; the input reads as it did. -/
def namesClashesUptoRow : OpenClaim := { program := "ytfpokhcddjgfmaa", sum := "df0520d1e08659bb40d070753ba14b0e357061e53c39e8c7643dfd86cbabf61f", func := "torrent/torrentlaw5.NamesClashes", spec := "namesClashes", unfollowed := true, recurses := true, plainKeys := false, apart := false, narrowed := true }
def NamesClashesUptoSaid : Prop := namesClashesUptoRow.holds Try.pinned (OpenSpec.upto namesClashesSpec)

/-- 'torrentlaw5.NamesPaths', WHERE WHAT IT READS IS OF BULK AT MOST 1048576: true; the input reads as it did. -/
def namesPathsUptoRow : OpenClaim := { program := "ytfpokhcddjgfmaa", sum := "df0520d1e08659bb40d070753ba14b0e357061e53c39e8c7643dfd86cbabf61f", func := "torrent/torrentlaw5.NamesPaths", spec := "namesPaths", plainKeys := false, apart := false, narrowed := true }
def NamesPathsUptoSaid : Prop := namesPathsUptoRow.holds Try.pinned (OpenSpec.upto namesPathsSpec)

/-- 'torrentlaw5.NamesJoins', WHERE WHAT IT READS IS OF BULK AT MOST 1048576: true; the input reads as it did. -/
def namesJoinsUptoRow : OpenClaim := { program := "ytfpokhcddjgfmaa", sum := "df0520d1e08659bb40d070753ba14b0e357061e53c39e8c7643dfd86cbabf61f", func := "torrent/torrentlaw5.NamesJoins", spec := "namesJoins", inPlace := ["internal/abi.NoEscape", "internal/bytealg.MakeNoZero"], plainKeys := false, apart := false, narrowed := true }
def NamesJoinsUptoSaid : Prop := namesJoinsUptoRow.holds Try.pinned (OpenSpec.upto namesJoinsSpec)

end Rows
end Go.Proofs.Ytfpokhcddjgfmaa
