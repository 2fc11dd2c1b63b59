import Derived.Test.YtinagikfemdmbaaWords
import Derived.Deep.MidRow
namespace Go.Proofs.Ytinagikfemdmbaa
open Go.RowKit
theorem setCells_below {B : Nat} {a : World} (g : Nat) (hg : B ≤ g) : ∀ (vs : List Value) (o : Nat) (w : World), Below B a w → Below B a (w.setCells g o vs)
  | [], _, _, h => h
  | v :: vs, o, w, h => setCells_below g hg vs (o + 1) (w.setCell ⟨g, o, none⟩ v) (h.setCell hg v)
theorem setCells_other (g k : Nat) (hk : k ≠ g) : ∀ (vs : List Value) (o : Nat) (w : World), (w.setCells g o vs).heap[k]? = w.heap[k]?
  | [], _, _ => rfl
  | v :: vs, o, w => (setCells_other g k hk vs (o + 1) (w.setCell ⟨g, o, none⟩ v)).trans (heap_setCell_other w ⟨g, o, none⟩ k v hk)
theorem setCells_row (g : Nat) (t : TypeId) : ∀ (vs : List Value) (pre post : List Value) (w : World), post.length = vs.length →
    w.heap[g]? = some (.cells (pre ++ post).toArray t (0, 0)) → (w.setCells g pre.length vs).heap[g]? = some (.cells (pre ++ vs).toArray t (0, 0))
  | [], pre, post, w, hl, h => by
    have : post = [] := List.length_eq_zero_iff.1 hl
    subst this; exact h
  | v :: vs, pre, [], w, hl, h => by simp at hl
  | v :: vs, pre, p :: post, w, hl, h => by
    have h1 := heap_setCell_same w g pre.length _ t v h
    have e : (pre ++ p :: post).toArray.setIfInBounds pre.length v = ((pre ++ [v]) ++ post).toArray := by simp
    rw [e] at h1
    have h2 := setCells_row g t vs (pre ++ [v]) post (w.setCell ⟨g, pre.length, none⟩ v) (by simpa using hl) h1
    rw [List.append_assoc] at h2
    simpa [World.setCells] using h2
end Go.Proofs.Ytinagikfemdmbaa
