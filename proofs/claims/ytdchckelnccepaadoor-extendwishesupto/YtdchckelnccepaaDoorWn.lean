import Derived.Test.YtdchckelnccepaaDoorCopy
import Derived.Test.YtdchckelnccepaaDoorEqRef
import Derived.Lib.Hide
import Derived.Deep.Cut
import Derived.Deep.RegionHeld3
namespace Go.Proofs.YtdchckelnccepaaDoor
open Go.RowKit Go.Deep
/-- names as they lie -/
def RNs (w : World) (v : Value) (ns : List (ByteArray × Int)) : Prop :=
  ∃ a c, v = .slice a ns.length c ∧ (ns = [] ∨ ∃ g o, a = some ⟨g, o, none⟩ ∧ g < w.heap.size ∧ ∀ i x, ns[i]? = some x → w.cell? ⟨g, o + i * 2, none⟩ = some (.string x.1) ∧ w.cell? ⟨g, o + i * 2 + 1, none⟩ = some (.int .i64 x.2))
theorem RNs.keep {w w' : World} {v : Value} {ns : List (ByteArray × Int)} (h : RNs w v ns) (hb : Below w.heap.size w w') : RNs w' v ns := by
  obtain ⟨a, c, rfl, h⟩ := h
  refine ⟨a, c, rfl, ?_⟩
  rcases h with h | ⟨g, o, h1, h2, h3⟩
  · exact .inl h
  · exact .inr ⟨g, o, h1, Nat.lt_of_lt_of_le h2 hb.size, fun i x hx => ⟨Below.cellS hb (Nat.le_refl _) (h3 i x hx).1, Below.cellS hb (Nat.le_refl _) (h3 i x hx).2⟩⟩
theorem find_at {α : Type} {p : α → Bool} : ∀ (l : List α) (k : Nat) (x : α), l[k]? = some x → p x = true → (∀ j y, j < k → l[j]? = some y → p y = false) → l.find? p = some x
  | [], k, x, h, _, _ => by simp at h
  | a :: l, 0, x, h, hp, _ => by
    simp at h
    subst h
    simp [hp]
  | a :: l, k + 1, x, h, hp, hn => by
    have h0 := hn 0 a (by omega) rfl
    rw [List.find?_cons, h0]
    exact find_at l k x (by simpa using h) hp (fun j y hj hy => hn (j + 1) y (by omega) (by simpa using hy))
theorem find_no {α : Type} {p : α → Bool} (l : List α) (h : ∀ j y, j < l.length → l[j]? = some y → p y = false) : l.find? p = none := by
  rw [List.find?_eq_none]
  intro x hx
  obtain ⟨i, hi, rfl⟩ := List.getElem_of_mem hx
  rw [h i _ hi (List.getElem?_eq_getElem hi)]
  decide
def nuF (ns : List (ByteArray × Int)) (s : ByteArray) : Option (ByteArray × Int) := ns.find? (fun x => x.1.toList == s.toList)
def nuN (ns : List (ByteArray × Int)) (s : ByteArray) : Int := ((nuF ns s).map (·.2)).getD 0
def naF (ns : List (ByteArray × Int)) (i : Int) : Option (ByteArray × Int) := ns.find? (fun x => x.2 == i)
def naS (ns : List (ByteArray × Int)) (i : Int) : ByteArray := ((naF ns i).map (·.1)).getD ⟨#[]⟩
end Go.Proofs.YtdchckelnccepaaDoor
