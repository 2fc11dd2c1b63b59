import Derived.Test.YtfpokhcddjgfmabDoorAw
namespace Go.Proofs.YtfpokhcddjgfmabDoor
open Go.RowKit
theorem ce_inv {s : ByteArray} (h : ce s = 0) : s.size ≠ 0 ∧ s.size ≤ 255 ∧ ua s 0 = -1 ∧ dots s = false ∧ ¬ hasB s s.size := by
  have h0 : ¬ s.size = 0 := fun e => by rw [ce1 e] at h; cases h
  have h1 : ¬ 255 < s.size := fun e => by rw [ce2 e] at h; cases h
  have h2 : ua s 0 = -1 := Classical.byContradiction fun e => by rw [ce3 h0 h1 e] at h; cases h
  have h3 : dots s = false := by
    cases e : dots s with
    | false => rfl
    | true => rw [ce4 h0 h1 h2 e] at h; cases h
  exact ⟨h0, by omega, h2, h3, fun e => by rw [ce5 h0 h1 h2 h3 e] at h; cases h⟩
theorem no_slash {s : ByteArray} (h : ce s = 0) : (47 : UInt8) ∉ s.data.toList := fun hm => by
  obtain ⟨_, _, _, _, hb⟩ := ce_inv h
  obtain ⟨j, hj, he⟩ := List.getElem_of_mem hm
  refine hb ⟨j, by simpa using hj, ?_⟩
  have : bt s j = 47 := by rw [bt_list, List.getElem?_eq_getElem hj, he]; rfl
  rw [this]; rfl
theorem spb_jo {l : List ByteArray} (h : pe l = 0) : spb 16 (jo l) = l := by
  obtain ⟨h0, h1, h2⟩ := pe_ok h
  exact join_spb l 16 (jo l) h0 (by omega) (fun x hx => no_slash (h2 x hx)) rfl
theorem jo_spb (n : Nat) (s : ByteArray) : jo (spb n s) = s := ba_ext' (spb_join n s)
theorem jo_size {l : List ByteArray} (h : pe l = 0) : (jo l).size ≤ 4096 := jo_len h
theorem joinOk {l : List ByteArray} (h : pe l = 0) (hf : FL l) (v : Value) (w : World) (hr : SR w l v) : Calls Tryd.prog 12 #[v] w fun e w' => e = .returned (.tuple #[.string (jo l), .int .i64 0]) ∧ Below w.heap.size w w' := by
  have := join23 l v w hf hr
  rw [h, if_pos rfl] at this
  exact this
theorem joinNo {l : List ByteArray} (h : ¬ pe l = 0) (hf : FL l) (v : Value) (w : World) (hr : SR w l v) : Calls Tryd.prog 12 #[v] w fun e w' => e = .returned (.tuple #[.string ⟨#[]⟩, .int .i64 (pe l)]) ∧ Below w.heap.size w w' := by
  have := join23 l v w hf hr
  rw [if_neg h] at this
  exact this
theorem splitOk {s : ByteArray} (hs : s.size ≤ 140737488351232) (h : pe (spb 16 s) = 0) (w : World) : Calls Tryd.prog 8 #[.string s] w fun e w' => ∃ a c, e = .returned (.tuple #[.slice a (spb 16 s).length c, .int .i64 0]) ∧ SR w' (spb 16 s) (.slice a (spb 16 s).length c) ∧ Below w.heap.size w w' := by
  have := split8 s w hs
  unfold sq at this
  rw [if_pos h, h] at this
  exact this
theorem splitNo {s : ByteArray} (hs : s.size ≤ 140737488351232) (h : ¬ pe (spb 16 s) = 0) (w : World) : Calls Tryd.prog 8 #[.string s] w fun e w' => ∃ c : Option Addr, ∃ d : Nat, e = .returned (.tuple #[.slice c 0 d, .int .i64 (pe (spb 16 s))]) ∧ Below w.heap.size w w' := by
  have := split8 s w hs
  unfold sq at this
  rw [if_neg h] at this
  refine this.mono ?_
  rintro e w' ⟨a, c, rfl, _, hb⟩
  exact ⟨_, _, rfl, hb⟩
theorem splitJo {l : List ByteArray} (h : pe l = 0) (w : World) : Calls Tryd.prog 8 #[.string (jo l)] w fun e w' => ∃ a c, e = .returned (.tuple #[.slice a l.length c, .int .i64 0]) ∧ SR w' l (.slice a l.length c) ∧ Below w.heap.size w w' := by
  have := splitOk (s := jo l) (by have := jo_size h; omega) (by rw [spb_jo h]; exact h) w
  rw [spb_jo h] at this
  exact this
theorem fl_spb {s : ByteArray} (hs : s.size ≤ 140737488351232) : FL (spb 16 s) := ⟨by have := spb_len 16 s; omega, fun x hx => by have := spb_size 16 s x hx; omega⟩
theorem sameL {l : List ByteArray} (hl : l.length * 16 ≤ 140737488351232) (v1 v2 : Value) (w : World) (h1 : SR w l v1) (h2 : SR w l v2) : Calls Tryd.prog 10 #[v1, v2] w fun e w' => e = .returned (.bool true) ∧ ∃ n, w' = w.drewN n := by
  have := same14 v1 v2 _ _ w hl hl h1 h2
  rw [smB_self] at this
  exact this
end Go.Proofs.YtfpokhcddjgfmabDoor
