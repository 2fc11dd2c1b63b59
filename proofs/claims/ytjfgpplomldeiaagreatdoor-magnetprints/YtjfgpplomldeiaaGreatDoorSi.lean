import Derived.Test.YtjfgpplomldeiaaGreatDoorSh
import Derived.Lib.UnsafeStr
namespace Go.Proofs.YtjfgpplomldeiaaGreatDoor
open Go.Shelf Go.RowKit Go.Deep
theorem BD.gr {B b : Nat} {l : List UInt8} {X Y : World} {row : Option Nat} (h : BD B b l X) (hg : X.grownBy Y row) (hr : ∀ r, row = some r → ∃ o : Obj, X.heap[r]? = some o ∧ o.isCells = false) : BD B b l Y := by
  obtain ⟨p, v, hp, h1, h2⟩ := h
  exact ⟨p, v, hp, (cells_gr h1 hg hr).trans h1, own_gr h2 hg hr⟩
theorem freeze_other (w : World) (p : Addr) (n k : Nat) (h : k ≠ p.block) : (w.freeze p n).heap[k]? = w.heap[k]? := by
  unfold World.freeze
  split
  · rfl
  · simp only [Array.getElem?_modify]
    rw [if_neg (fun e => h e.symm)]
theorem KX.freeze {B b : Nat} {w : World} {g n : Nat} (hg : B ≤ g) {cs : Array Value} {t : TypeId} {f : Nat × Nat} (hc : w.heap[g]? = some (.cells cs t f)) : KX B b w (w.freeze ⟨g, 0, none⟩ n) := by
  have h := Lib.below_freeze (Below.refl B w) (p := ⟨g, 0, none⟩) hg n
  exact ⟨h.os, h.tape, h.output, h.size, fun k hk _ _ => h.block k hk, fun k o hk ho => by
    rw [freeze_other _ _ _ _ (fun e => by simp only at e; rw [e, hc] at hk; cases hk; cases ho)]; exact hk⟩
set_option maxHeartbeats 1000000 in
set_option maxRecDepth 100000 in
theorem bStringK (B b : Nat) (l : List UInt8) (w : World) (h : BD B b l w) (h0 : l ≠ []) :
    Calls Tryz.prog 48 #[.pointer (some ⟨b, 0, none⟩)] w fun e w' => e = .returned (.string ⟨l.toArray⟩) ∧ KX B b w w' := by
  obtain ⟨p, v, hp, h1, hown⟩ := h
  have hl0 : l.length ≠ 0 := by simpa using h0
  obtain ⟨g, cap, cur, rfl, hbg, hg, hnc, hcm, hcs, _⟩ : ∃ g cap cur, v = .slice (some ⟨g, 0, none⟩) l.length cap ∧ B ≤ g ∧ w.heap[g]? = some (.cells cur 5 (0, 0)) ∧ l.length ≤ cap ∧ cap ≤ maxLen ∧ cur.size = cap * 1 ∧ cur.toList.take (l.length * 1) = Lib.byteCells l := by
    rcases hown.2 with ⟨_, hz⟩ | ⟨g, cap, cur, hv, r⟩
    · exact absurd hz hl0
    · exact ⟨g, cap, cur, hv, r⟩
  have c1 : w.drew.cell? ⟨b, 1, none⟩ = some (.slice (some ⟨g, 0, none⟩) l.length cap) := by
    have h9 : w.drew.heap[b]? = some (.cells #[p, .slice (some ⟨g, 0, none⟩) l.length cap] 73 (0, 0)) := h1
    simp [World.cell?, h9]
  have hSD := Lib.run_unsafeSliceData_row (P := Tryz.prog) w.drew #[60] 97 ⟨g, 0, none⟩ l.length cap (by omega)
  have hUS := Lib.run_unsafeString_row (P := Tryz.prog) w.drew 97 3 9 5 Tryz.underlying97 (by kernel_rfl) g cur.size (by have hg' : w.drew.heap[g]? = some (.cells cur 5 (0, 0)) := hg; simp [World.shape?, hg']) l h0 (by omega) (by unfold maxLen at hcm; omega) (fun j x hx => hown.cells (g := g) rfl j (.int .u8 x.toNat) (by simp [Lib.byteCells, hx]))
  have HF : Hid (KX B b w (w.drew.freeze ⟨g, 0, none⟩ l.length)) := KX.trans (show KX B b w w.drew from ⟨rfl, rfl, rfl, Nat.le_refl _, fun _ _ _ _ => rfl, fun _ _ hk _ => hk⟩) (KX.freeze (w := w.drew) hbg hg)
  clear hown h1 hp hg hcm hcs
  go_enter Tryz.func48, Tryz.ntmps48
  go_wp2
  go_region
  all_goals (go_wp2; go_ret; exact ⟨rfl, HF.out⟩)
set_option maxHeartbeats 1000000 in
theorem bLen (B b : Nat) (l : List UInt8) (w : World) (h : BD B b l w) :
    Calls Tryz.prog 47 #[.pointer (some ⟨b, 0, none⟩)] w fun e w' => e = .returned (.int .i64 l.length) ∧ w' = w := by
  obtain ⟨p, v, hp, h1, hown⟩ := h
  obtain ⟨ao, cap, rfl⟩ := own_form hown
  have c1 : w.cell? ⟨b, 1, none⟩ = some (.slice ao l.length cap) := by simp [World.cell?, h1]
  clear hown h1 hp
  go_enter Tryz.func47, Tryz.ntmps47
  go_wp2
  go_ret
  exact ⟨rfl, rfl⟩
theorem parameters (k : Lk) (tr pe on mo : Value) (w : World) :
    Calls Tryz.prog 44 #[.agg (lkC k.l k.nm tr pe on mo)] w fun e w' => e = .returned (.func (.func 58) #[] #[.pointer (some ⟨w.heap.size, 0, none⟩)]) ∧ LB w' w.heap.size k.l k.nm tr pe on mo ∧ Below w.heap.size w w' := by
  have LA : Hid (LB (w.alloc (Obj.cells (lkC k.l k.nm tr pe on mo) 28)) w.heap.size k.l k.nm tr pe on mo ∧ Below w.heap.size w (w.alloc (Obj.cells (lkC k.l k.nm tr pe on mo) 28))) := ⟨heap_new _ _, (Below.refl _ _).alloc (Nat.le_refl _) _⟩
  go_enter Tryz.func44, Tryz.ntmps44
  go_upto_region 1 with fail
  generalize (w.alloc (Obj.cells (lkC k.l k.nm tr pe on mo) 28)) = w0 at *
  go_wp2
  go_ret
  exact ⟨rfl, LA.out⟩
theorem KW.of {w0 : World} {g : Nat} {k : Lk} {tr pe on mo : Value} {W : World} (hb : Below w0.heap.size w0 W) (hg : LB W g k.l k.nm tr pe on mo) : KW w0 g k tr pe on mo W := ⟨hb, hg⟩
end Go.Proofs.YtjfgpplomldeiaaGreatDoor
