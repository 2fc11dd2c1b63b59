import Derived.Test.YtkagcefboahgkaaCr
namespace Go.Proofs.Ytkagcefboahgkaa
open Go.RowKit
/-- the 64 bytes of a write -/
def fl (l : List UInt8) : List UInt8 := lf 64 (byt l)
theorem fl_len (l : List UInt8) : (fl l).length = 64 := lf_len _ _
/-- .. the first k of them -/
def fk (l : List UInt8) (k : Nat) : List UInt8 := lf 64 fun i => if i < k then byt l i else 0
theorem fk_len (l : List UInt8) (k : Nat) : (fk l k).length = 64 := lf_len _ _
theorem byt_out (l : List UInt8) (i : Nat) (h : l.length ≤ i) : byt l i = 0 := by unfold byt; rw [List.getD_eq_getElem?_getD, List.getElem?_eq_none h]; rfl
theorem byt_zr (n i : Nat) : byt (zr n) i = 0 := by
  unfold byt zr
  rw [List.getD_eq_getElem?_getD, List.getElem?_replicate]
  split <;> rfl
theorem fk_zero (l : List UInt8) : fk l 0 = zr 64 := by
  apply byt_ext (by rw [fk_len, zr_len])
  intro i hi
  rw [fk_len] at hi
  rw [byt_zr]
  unfold fk
  rw [lf_byt _ _ _ hi]
  simp
theorem fk_full (l : List UInt8) (k : Nat) (h : k = l.length ∨ k = 64) : fk l k = fl l := by
  apply lf_congr
  intro i hi
  rcases h with rfl | rfl
  · split
    · rfl
    · exact (byt_out l i (by omega)).symm
  · rw [if_pos hi]
theorem fk_set (l : List UInt8) (k : Nat) (hk : k < 64) : (bc (fk l k)).setIfInBounds k (.int .u8 ((byt l k).toNat : Int)) = bc (fk l (k + 1)) := by
  apply Array.ext'
  apply List.ext_getElem?
  intro i
  simp only [Array.toList_setIfInBounds, bc_list, Lib.byteCells, List.getElem?_set, List.length_map, fk_len, List.getElem?_map]
  by_cases hik : k = i
  · subst hik
    rw [if_pos rfl, if_pos hk]
    have : (fk l (k + 1))[k]? = some (byt l k) := by
      rw [List.getElem?_eq_getElem (by rw [fk_len]; exact hk)]
      have := lf_byt 64 (fun i => if i < k + 1 then byt l i else 0) k hk
      rw [getD_byt _ _ (by rw [lf_len]; exact hk)] at this
      rw [if_pos (by omega)] at this
      exact congrArg some this
    rw [this]
    rfl
  · rw [if_neg hik]
    by_cases hi : i < 64
    · have e1 : (fk l k)[i]? = (fk l (k + 1))[i]? := by
        rw [List.getElem?_eq_getElem (by rw [fk_len]; exact hi), List.getElem?_eq_getElem (by rw [fk_len]; exact hi)]
        have h1 := lf_byt 64 (fun i => if i < k then byt l i else 0) i hi
        have h2 := lf_byt 64 (fun i => if i < k + 1 then byt l i else 0) i hi
        rw [getD_byt _ _ (by rw [lf_len]; exact hi)] at h1 h2
        have h3 : (if i < k then byt l i else 0) = (if i < k + 1 then byt l i else 0) := by
          by_cases h : i < k
          · rw [if_pos h, if_pos (by omega)]
          · rw [if_neg h, if_neg (by omega)]
        exact congrArg some (h1.trans (h3.trans h2.symm))
      rw [e1]
    · rw [List.getElem?_eq_none (by rw [fk_len]; omega), List.getElem?_eq_none (by rw [fk_len]; omega)]
theorem infoA : (Try.prog.info? 68).map (fun i => (i.zero, i.size, i.bytes)) = some (some (.agg (bc (zr 64))), 64, 64) := by kernel_rfl
theorem zeroA (u : World) : (zeroValue 68).run Try.prog u = .ok (.agg (bc (zr 64))) u := by
  obtain ⟨i, hi, hz, _⟩ := info_parts infoA
  simp [zeroValue, typeInfo, hi, hz]
/-- the box of the 64 bytes under way -/
def FB (w : World) (l : List UInt8) (k : Nat) (wr : World) : Prop := wr.heap[w.heap.size]? = some (.cells (bc (fk l k)) 68 (0, 0)) ∧ Below w.heap.size w wr
/-- 64 bytes in a box were answered -/
def FulE (w : World) (l : List UInt8) (e : Ending) (w' : World) : Prop := ∃ g, e = .returned (.slice (some ⟨g, 0, none⟩) 64 64) ∧ w.heap.size ≤ g ∧ RB w' (.slice (some ⟨g, 0, none⟩) 64 64) (fl l) ∧ Below w.heap.size w w'
theorem FB.set {w wr : World} {l : List UInt8} {k : Nat} (h : FB w l k wr) (hk : k < 64) : FB w l (k + 1) (wr.setCell ⟨w.heap.size, k, none⟩ (.int .u8 ((byt l k).toNat : Int))) := by
  refine ⟨?_, h.2.setCell (Nat.le_refl _) _⟩
  rw [setCell_eq_setRow wr _ _ _ _ _ _ h.1, heapSetRow _ _ _ _ _ h.1, fk_set l k hk]
theorem FB.done {w wr : World} {l : List UInt8} {k : Nat} (h : FB w l k wr) (hk : k = l.length ∨ k = 64) : FulE w l (.returned (.slice (some ⟨w.heap.size, 0, none⟩) 64 64)) wr := by
  refine ⟨_, rfl, Nat.le_refl _, ?_, h.2⟩
  have hg := h.1
  rw [fk_full l k hk] at hg
  have := rb_at (w := wr) (g := w.heap.size) (o := 0) (c := 64) (l := fl l) (by rw [fl_len]; omega) (Array.getElem?_eq_some_iff.1 hg).1 (fun i hi => by rw [Nat.zero_add]; exact cell_bc hg i hi)
  rwa [fl_len] at this
set_option maxHeartbeats 1000000 in
theorem full (v : Value) (l : List UInt8) (w : World) (hr : RB w v l) (hl : l.length ≤ 140737488351232) : Calls Try.prog 12 #[v] w (FulE w l) := by
  have HR : Hid (RB w v l) := hr
  obtain ⟨a, c, rfl, _, _⟩ := hr
  have hz := zeroA
  have H0 : Hid (FB w l 0 (w.alloc (.cells (bc (zr 64)) 68))) := ⟨by rw [fk_zero]; exact heapNew _ _, (Below.refl _ _).alloc (Nat.le_refl _) _⟩
  generalize bc (zr 64) = bz at *
  generalize hn : l.length = n at *
  have HN : Hid (l.length = n) := hn
  clear hn
  go_enter Try.func12, Try.ntmps12
  go_wp2
  go_loopw [4] (fun i wr => ∃ k : Nat, k ≤ n ∧ k ≤ 64 ∧ i = .int .i64 k ∧ Hid (FB w l k wr)) (fun i _ => 64 - (intOf i).toNat)
  case atStart => exact ⟨0, Nat.zero_le _, by omega, rfl, H0⟩
  case round =>
    clear H0 hz
    obtain ⟨k, hk, hk64, rfl, H⟩ := hrel
    by_cases hlt : k < n
    · by_cases h64 : k < 64
      · have hq1 : decide (k < n) = true := decide_eq_true hlt
        obtain ⟨g, o, rfl, hcell⟩ : ∃ g o, a = some ⟨g, o, none⟩ ∧ wr.cell? ⟨g, o + k, none⟩ = some (.int .u8 ((byt l k).toNat : Int)) := by
          obtain ⟨a', c', e, _, h⟩ := HR.out.keep H.out.2
          simp only [Value.slice.injEq] at e
          rcases h with h0 | ⟨g, o, e2, _, h⟩
          · have := HN.out; rw [h0] at this; simp at this; omega
          · exact ⟨g, o, by rw [e.1, e2], h k (by rw [HN.out]; exact hlt)⟩
        have hc2 : wr.cell? ⟨w.heap.size, k, none⟩ = some (.int .u8 ((byt (fk l k) k).toNat : Int)) := cell_bc H.out.1 k (by rw [fk_len]; exact h64)
        have hf2 : wr.frozen? ⟨w.heap.size, k, none⟩ = false := by simp [World.frozen?, H.out.1]
        have H2 := Lib.hid (H.out.set h64)
        generalize ((byt l k).toNat : Int) = x at *
        generalize ((byt (fk l k) k).toNat : Int) = y at *
        clear H
        go_wp2
        go_roundw
        case rel => exact ⟨k + 1, by omega, by omega, by go_num, H2⟩
        case measure => (simp [intOf]; omega)
      · have hk6 : k = 64 := by omega
        subst hk6
        have HD := Lib.hid (H.out.done (.inr rfl))
        clear H
        go_wp2
        go_ret
        exact HD.out
    · have hkn : k = n := by omega
      have HD := Lib.hid (H.out.done (.inl (hkn.trans HN.out.symm)))
      clear H
      go_wp2
      go_ret
      exact HD.out
end Go.Proofs.Ytkagcefboahgkaa
