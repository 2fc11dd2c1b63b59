import Derived.Test.YtkagcefboahgkaaOx
namespace Go.Proofs.Ytkagcefboahgkaa
open Go.RowKit
/-- a list and the list that goes on with it, with where they lie -/
structure PR (w : World) (e : TypeId) (lo hi lo2 hi2 : Nat) (v0 v : Value) (n : Nat) (xs ys : List Value) : Prop where
  new : w.ownsRow 0 e 1 v (n + ys.length) (xs ++ ys)
  old : w.ownsRow 0 e 1 v0 n xs
  b0 : ∀ g, v0.ownBlock = some g → lo ≤ g ∧ g < hi
  b1 : ∀ g, v.ownBlock = some g → (lo ≤ g ∧ g < hi) ∨ (lo2 ≤ g ∧ g < hi2)
theorem PR.fr {w w' : World} {e : TypeId} {lo hi lo2 hi2 : Nat} {v0 v : Value} {n : Nat} {xs ys : List Value} {T : Nat → Prop} (h : PR w e lo hi lo2 hi2 v0 v n xs ys) (f : Fr T w w') (hT : ∀ k, (lo ≤ k ∧ k < hi) ∨ (lo2 ≤ k ∧ k < hi2) → T k) : PR w' e lo hi lo2 hi2 v0 v n xs ys :=
  ⟨ownsRow_fr h.new f (fun g hg => hT g (h.b1 g hg)), ownsRow_fr h.old f (fun g hg => hT g (.inl (h.b0 g hg))), h.b0, h.b1⟩
theorem PR.start {w : World} {e : TypeId} {B : Nat} {v0 : Value} {n : Nat} {xs : List Value} (h : w.ownsRow B e 1 v0 n xs) : PR w e B w.heap.size 0 0 v0 v0 n xs [] :=
  ⟨by simpa using ownsRow_base h (Nat.zero_le _), ownsRow_base h (Nat.zero_le _), fun g hg => World.ownsRow.lt h g hg, fun g hg => .inl (World.ownsRow.lt h g hg)⟩
theorem PR.grow {w w' : World} {e : TypeId} {lo hi : Nat} {v0 v : Value} {n : Nat} {xs ys : List Value} (h : PR w e lo hi 0 0 v0 v0 n xs []) (g : GI w 0 e v0 n xs ys v w') : PR w' e lo hi w.heap.size w'.heap.size v0 v n xs ys ∧ Fr (fun k => ¬ (lo ≤ k ∧ k < hi)) w w' := by
  refine ⟨⟨g.new, g.old, h.b0, fun k hk => ?_⟩, g.fr.mono (fun k _ hn e => hn (h.b0 k e))⟩
  rcases g.at_ with e | e
  · rw [e] at hk; exact .inl (h.b0 k hk)
  · exact .inr ⟨e k hk, (World.ownsRow.lt g.new k hk).2⟩
theorem PR.mark {w : World} {e : TypeId} {lo hi lo2 hi2 : Nat} {v0 v : Value} {n : Nat} {xs ys : List Value} (h : PR w e lo hi lo2 hi2 v0 v n xs ys) (hy : ys.length = 70) : ∃ g cap, v = .slice (some ⟨g, 0, none⟩) (n + 70) cap ∧ ∀ i u, ys[i]? = some u → w.cell? ⟨g, n + i, none⟩ = some u := by
  have hn := h.new
  rw [hy] at hn
  have hx : xs.length = n := by have := h.old.1; simpa using this
  rcases hn.2 with ⟨_, h0⟩ | ⟨g, cap, cur, e1, _, h3, h4, h5, h6, h7⟩
  · omega
  · refine ⟨g, cap, e1, fun i u hu => ?_⟩
    have hi : i < 70 := by have := (List.getElem?_eq_some_iff.1 hu).1; omega
    have : (List.take ((n + 70) * 1) cur.toList)[n + i]? = (xs ++ ys)[n + i]? := by rw [h7]
    rw [List.getElem?_take_of_lt (by omega), Array.getElem?_toList, List.getElem?_append_right (by omega), hx, Nat.add_sub_cancel_left, hu] at this
    rw [cellH h3]
    exact this
theorem PR.ow {w : World} {lo hi lo2 hi2 : Nat} {v0 v : Value} {n : Nat} {l : List UInt8} {ys : List Value} (h : PR w 5 lo hi lo2 hi2 v0 v n (Lib.byteCells l) ys) : OW 0 w v0 l ∧ l.length = n := by
  have hl : l.length = n := by have := h.old.1; rw [bcl_len] at this; simpa using this
  refine ⟨?_, hl⟩
  show w.ownsRow 0 5 1 v0 l.length _
  rw [hl]
  exact h.old
theorem OW.nonempty {B : Nat} {w : World} {v : Value} {l : List UInt8} (h : OW B w v l) (hl : 0 < l.length) : ∃ g cap, v = .slice (some ⟨g, 0, none⟩) l.length cap := by
  rcases h.2 with ⟨_, h0⟩ | ⟨g, cap, cur, e, _⟩
  · omega
  · exact ⟨g, cap, e⟩
theorem mks_at (c i : Nat) (hi : i < 70) (hc : c + i < 256) : (Lib.byteCells (mks c 70))[i]? = some (.int .u8 ((c : Int) + i)) := by
  simp only [Lib.byteCells, mks, List.map_map, List.getElem?_map, List.getElem?_range hi, Option.map_some, Function.comp]
  rw [byte_ofNat (c + i) hc]
  simp
theorem mkI_at (c : Int) (i : Nat) (hi : i < 70) : (mkI c 70)[i]? = some (.int .i64 (c - i)) := by
  simp [mkI, List.getElem?_map, List.getElem?_range hi]
theorem mksl (c : Nat) : (Lib.byteCells (mks c 70)).length = 70 := by rw [bcl_len, mks_len]
/-- numbers are being written over -/
structure Si (w0 : World) (v : Value) (n : Nat) (wr : World) : Prop where
  ow : ∃ xs : List Value, wr.ownsRow 0 3 1 v n xs
  fr : Fr (fun k => v.ownBlock ≠ some k) w0 wr
theorem Si.at {w0 wr : World} {g n cap : Nat} (h : Si w0 (.slice (some ⟨g, 0, none⟩) n cap) n wr) (k : Nat) (hk : k < n) : (∃ x, wr.cell? ⟨g, k, none⟩ = some x) ∧ wr.frozen? ⟨g, k, none⟩ = false ∧ ∀ z : Value, Si w0 (.slice (some ⟨g, 0, none⟩) n cap) n (wr.setCell ⟨g, k, none⟩ z) := by
  obtain ⟨xs, ho⟩ := h.ow
  rcases ho.2 with ⟨e, _⟩ | ⟨g', cap', cur, e, h2, h3, h4, h5, h6, h7⟩
  · cases e
  simp only [Value.slice.injEq, Option.some.injEq, Addr.mk.injEq, true_and] at e
  obtain ⟨⟨rfl, _⟩, rfl⟩ := e
  have hs : cur.size = cap := by simpa using h6
  refine ⟨⟨cur[k]'(by omega), by rw [cellH h3, Array.getElem?_eq_getElem (by omega)]⟩, by simp [World.frozen?, h3], fun z => ⟨⟨(cur.setIfInBounds k z).toList.take (n * 1), ?_⟩, h.fr.setCell g k z (fun _ x => x rfl)⟩⟩
  exact ⟨by rw [List.length_take]; simp; omega, .inr ⟨g, cap, cur.setIfInBounds k z, rfl, Nat.zero_le _, heap_setCell_same wr g k cur 3 z h3, h4, h5, by simpa using h6, rfl⟩⟩
theorem DK.low {w w' : World} {p : Nat} {D : Dk} (h : DK (fun k => k < w.heap.size) w p D) (hb : Below w.heap.size w w') : DK (fun k => k < w.heap.size) w' p D := h.below hb
end Go.Proofs.Ytkagcefboahgkaa
