import Derived.Test.YtfpokhcddjgfmabDoorOpn
import Derived.Deep.DeepHandedRow
import Derived.LaidMore
import Derived.Lay
import Derived.LaidLaws
import Derived.Lib.LaidTab
namespace Go.Proofs.YtfpokhcddjgfmabDoor
open Go.ChangeShapes Go.WideShapes Go.ChangeAt Go.RowKit Go.Deep
theorem bulk_pos {H : Type} : ∀ d : DataW H, 1 ≤ Rows.uptoBulk d
  | .lit (.string b) => by simp [Rows.uptoBulk]
  | .lit (.int _ _) => by simp [Rows.uptoBulk]
  | .lit (.bool _) => by simp [Rows.uptoBulk]
  | .lit (.float _ _) => by simp [Rows.uptoBulk]
  | .lit .nil => by simp [Rows.uptoBulk]
  | .nil => by simp [Rows.uptoBulk]
  | .ptr d => by simp [Rows.uptoBulk]
  | .slice _ _ => by simp [Rows.uptoBulk]
  | .agg _ => by simp [Rows.uptoBulk]
  | .iface _ d => by simp [Rows.uptoBulk]
  | .map _ => by simp [Rows.uptoBulk]
  | .held _ => by simp [Rows.uptoBulk]
theorem bulk_len {H : Type} : ∀ l : List (DataW H), l.length ≤ Rows.uptoBulkAll l
  | [] => by simp [Rows.uptoBulkAll]
  | d :: l => by
    have := bulk_len l
    have := bulk_pos d
    simp [Rows.uptoBulkAll]; omega
section
variable {H : Type} {enc : TypeId × Value → H} {w : World}
/-- a list that was handed in: as openArg, and its length against the bulk, and its shape -/
theorem openArgU {base : Nat} {v : Value} {d : DataW H} {ps : List MemPlace} (hv : Value.okWide Tryd.prog w .any base 22 v)
    (h : DataW.Trod enc Tryd.prog w 0 (fun _ => true) true 22 v d ps) (hw : ∀ q ∈ DataW.weights Tryd.prog 22 d, q ≤ reachBytes) : ∃ l, SR w l v ∧ FL l ∧ l.length ≤ Rows.uptoBulk d ∧ (v = .slice none 0 0 ∨ ∃ ad n c, v = .slice (some ad) n c) := by
  obtain ⟨l, hr, hf⟩ := openArg hv h hw
  refine ⟨l, hr, hf, ?_⟩
  obtain ⟨a, len, cap, rfl⟩ := okWide_slice Tryd.underlying22 hv
  obtain ⟨fuel, hf⟩ := h
  have hf' : DataW.trod enc Tryd.prog w 0 (fun _ => true) true fuel 22 [.slice a len cap] = some (d, ps) := hf
  obtain ⟨a', c', he, _, _⟩ := hr
  cases he
  rcases DataW.trod_slice Tryd.underlying22 hf' with ⟨h0, h1⟩ | ⟨a1, len1, cap1, elems, rest, m, _, h0, h1, _, _, _, hlen, _, _, _⟩
  · simp at h0
    obtain ⟨rfl, rfl, rfl⟩ := h0
    exact ⟨by simp, .inl (by simp)⟩
  · simp at h0 h1
    obtain ⟨rfl, h2, rfl⟩ := h0
    obtain ⟨rfl, _⟩ := h1
    refine ⟨?_, .inr ⟨_, _, _, rfl⟩⟩
    have := bulk_len (elems.map (·.1))
    rw [List.length_map, hlen] at this
    simp only [Rows.uptoBulk]
    omega
end
end Go.Proofs.YtfpokhcddjgfmabDoor
