import Derived.Test.YtglknmelcianjaaRe2
import Derived.OrdersHeld
import Derived.Deep.Cut
import Derived.Deep.CutRange
import Derived.Deep.RegionHeld3
namespace Go.Proofs.Ytglknmelcianjaa
open Go.RowKit
theorem OW.at {B : Nat} {w : World} {g n cap : Nat} {l : List UInt8} (h : OW B w (.slice (some ⟨g, 0, none⟩) n cap) l) (k : Nat) (hk : k < l.length) : w.cell? ⟨g, k, none⟩ = some (.int .u8 ((byt l k).toNat : Int)) ∧ w.frozen? ⟨g, k, none⟩ = false := by
  constructor
  · obtain ⟨a', c', e, _, hh⟩ := h.rb
    simp only [Value.slice.injEq] at e
    obtain ⟨rfl, _, _⟩ := e
    rcases hh with hh | ⟨g', o', e', _, hh⟩
    · subst hh; simp at hk
    simp only [Option.some.injEq, Addr.mk.injEq] at e'
    obtain ⟨rfl, rfl, _⟩ := e'
    have := hh k hk
    rwa [Nat.zero_add] at this
  · rcases h.2 with ⟨e, _⟩ | ⟨g', cap', cur, e, _, h3, _⟩
    · cases e
    · cases e
      simp [World.frozen?, h3]
theorem OW.put {B : Nat} {w : World} {g n cap : Nat} {l : List UInt8} (h : OW B w (.slice (some ⟨g, 0, none⟩) n cap) l) (k : Nat) (c : UInt8) : OW B (w.setCell ⟨g, k, none⟩ (.int .u8 (c.toNat : Int))) (.slice (some ⟨g, 0, none⟩) n cap) (l.set k c) := by
  rcases h.2 with ⟨e, _⟩ | ⟨g', cap', cur, e, h2, h3, h4, h5, h6, h7⟩
  · cases e
  simp only [Value.slice.injEq, Option.some.injEq, Addr.mk.injEq] at e
  obtain ⟨⟨rfl, _⟩, rfl, rfl⟩ := e
  refine ⟨by simp [Lib.byteCells], .inr ⟨g, cap, cur.setIfInBounds k (.int .u8 (c.toNat : Int)), by rw [List.length_set], h2, heap_setCell_same w g k cur 5 _ h3, by rw [List.length_set]; exact h4, h5, by simpa using h6, ?_⟩⟩
  rw [List.length_set, Array.toList_setIfInBounds, List.take_set, h7]
  simp [Lib.byteCells, List.map_set]

/-- one more byte of a part put in -/
theorem sp_step (l : List UInt8) (o : Nat) (d : List UInt8) (k : Nat) (hk : k < d.length) (h : o + d.length ≤ l.length) : (sp l o (d.take k)).set (o + k) (byt d k) = sp l o (d.take (k + 1)) := by
  have t1 : (d.take k).length = k := by rw [List.length_take]; omega
  have t2 : (d.take (k + 1)).length = k + 1 := by rw [List.length_take]; omega
  have e1 := sp_len l o (d.take k) (by omega)
  have e2 := sp_len l o (d.take (k + 1)) (by omega)
  apply byt_ext (by rw [List.length_set, e1, e2])
  intro i hi
  rw [List.length_set, e1] at hi
  rw [sp_byt _ _ _ (by omega), t2]
  have hset : byt ((sp l o (d.take k)).set (o + k) (byt d k)) i = if o + k = i then byt d k else byt (sp l o (d.take k)) i := by
    unfold byt
    rw [List.getD_eq_getElem?_getD, List.getElem?_set, List.getD_eq_getElem?_getD]
    by_cases e : o + k = i
    · rw [if_pos e, if_pos (by rw [e1]; omega), if_pos e]
      simp
    · rw [if_neg e, if_neg e]
      simp [List.getD_eq_getElem?_getD]
  rw [hset, sp_byt _ _ _ (by omega), t1]
  by_cases e : o + k = i
  · rw [if_pos e, if_pos (by omega), show i - o = k by omega]
    unfold byt
    simp only [List.getD_eq_getElem?_getD]
    rw [List.getElem?_take_of_lt (by omega)]
  · rw [if_neg e]
    by_cases h2 : o ≤ i ∧ i < o + k
    · rw [if_pos h2, if_pos (by omega)]
      unfold byt
      simp only [List.getD_eq_getElem?_getD]
      rw [List.getElem?_take_of_lt (by omega), List.getElem?_take_of_lt (by omega)]
    · rw [if_neg h2, if_neg (by omega)]
theorem sp_zero (l : List UInt8) (o : Nat) (d : List UInt8) : sp l o (d.take 0) = l := by simp [sp]
/-- what the laying keeps -/
structure LY (w : World) (lb cap at_ : Nat) (l d : List UInt8) (k : Nat) (wr : World) : Prop where
  ow : OW 0 wr (.slice (some ⟨lb, 0, none⟩) l.length cap) (sp l (64 * at_) (d.take k))
  fr : Fr (fun k => k ≠ lb) w wr
set_option maxHeartbeats 2000000 in
set_option maxRecDepth 100000 in
theorem layT (w : World) (q lb cap at_ : Nat) (l d : List UInt8) (dv : Value) (dead : Bool) (n : Nat) (c0 : w.cell? ⟨q, 0, none⟩ = some (.slice (some ⟨lb, 0, none⟩) l.length cap)) (hq : q ≠ lb) (hql : q < w.heap.size) (ho : OW 0 w (.slice (some ⟨lb, 0, none⟩) l.length cap) l) (hd : OW 0 w dv d) (hdl : d.length = 64) (hdb : ∀ g, dv.ownBlock = some g → g ≠ lb) (hs : 64 * at_ + 64 ≤ l.length) (hl : l.length ≤ 4194304) (hn : n ≤ 64) :
    Calls Try.prog 46 #[.pointer (some ⟨q, 0, none⟩), .agg #[.int .i64 (at_ : Int), dv, .bool dead], .int .i64 (n : Int)] w fun e w' => e = .returned (.tuple #[]) ∧ OW 0 w' (.slice (some ⟨lb, 0, none⟩) l.length cap) (sp l (64 * at_) (d.take n)) ∧ Fr (fun k => k ≠ lb) w w' := by
  have b0 : Below w.heap.size w (w.alloc (.cells #[.int .i64 (at_ : Int), dv, .bool dead] 64)) := (Below.refl _ _).alloc (Nat.le_refl _) _
  have hlb := (ownsRow_lt ho lb rfl).1
  have HLY : Hid (LY w lb cap at_ l d 0 (w.alloc (.cells #[.int .i64 (at_ : Int), dv, .bool dead] 64))) := ⟨by rw [sp_zero]; exact ho.grow b0, Fr.of_below b0⟩
  obtain ⟨dg, dc, rfl⟩ : ∃ dg dc, dv = .slice (some ⟨dg, 0, none⟩) 64 dc := by
    rcases hd.2 with ⟨_, h0⟩ | ⟨dg, dc, cur, e, _⟩
    · omega
    · exact ⟨dg, dc, by rw [e, hdl]⟩
  have hdg : dg ≠ lb := hdb dg rfl
  have hbx := heapNew w (.cells #[.int .i64 (at_ : Int), .slice (some ⟨dg, 0, none⟩) 64 dc, .bool dead] 64)
  have hdlt := (ownsRow_lt hd dg rfl).1
  -- what is read stands whatever becomes of lb
  have HC : Hid (∀ wr, Fr (fun k => k ≠ lb) w wr → wr.heap[w.heap.size]? = some (.cells #[.int .i64 (at_ : Int), .slice (some ⟨dg, 0, none⟩) 64 dc, .bool dead] 64 (0, 0)) → ∀ k, k < 64 → wr.cell? ⟨q, 0, none⟩ = some (.slice (some ⟨lb, 0, none⟩) l.length cap) ∧ wr.cell? ⟨w.heap.size, 0, none⟩ = some (.int .i64 (at_ : Int)) ∧ wr.cell? ⟨w.heap.size, 1, none⟩ = some (.slice (some ⟨dg, 0, none⟩) 64 dc) ∧ wr.cell? ⟨dg, k, none⟩ = some (.int .u8 ((byt d k).toNat : Int))) := fun wr f hb k hk => by
    refine ⟨(World.cell?_of_block (w := w) (f.block q hql hq)).trans c0, by simp [World.cell?, hb], by simp [World.cell?, hb], ?_⟩
    exact (World.cell?_of_block (w := w) (f.block dg hdlt hdg)).trans (OW.at (n := 64) hd k (by omega)).1
  have HW0 : Hid ((w.alloc (.cells #[.int .i64 (at_ : Int), .slice (some ⟨dg, 0, none⟩) 64 dc, .bool dead] 64)).heap[w.heap.size]? = some (.cells #[.int .i64 (at_ : Int), .slice (some ⟨dg, 0, none⟩) 64 dc, .bool dead] 64 (0, 0))) := hbx
  have HLB := Lib.hid hlb
  have HDL := Lib.hid hdl
  have HS := Lib.hid hs
  generalize hll : l.length = ll at *
  have HLL := Lib.hid hll
  clear b0 ho hd hdb hbx hdlt hll c0
  go_enter Try.func46, Try.ntmps46
  go_wp2_with fail
  go_loopw [6] (fun t wr => ∃ k : Nat, k ≤ n ∧ t = .int .i64 k ∧ Hid (LY w lb cap at_ l d k wr ∧ wr.heap[w.heap.size]? = some (.cells #[.int .i64 (at_ : Int), .slice (some ⟨dg, 0, none⟩) 64 dc, .bool dead] 64 (0, 0)))) (fun t _ => n - (intOf t).toNat)
  case atStart => exact ⟨0, Nat.zero_le _, rfl, ⟨HLY.out, HW0.out⟩⟩
  case round =>
    obtain ⟨k, hk, rfl, H⟩ := hrel
    by_cases hlt : k < n
    · have hk64 : k < 64 := by omega
      obtain ⟨k0, k1, k2, k3⟩ := HC.out wr H.out.1.fr H.out.2 k hk64
      obtain ⟨yv, hyv⟩ : ∃ y : Int, y = ((byt d k).toNat : Int) := ⟨_, rfl⟩
      rw [← hyv] at k3
      have HY := Lib.hid hyv
      have ow1 := H.out.1.ow
      rw [HLL.out] at ow1
      have hspl : (sp l (64 * at_) (d.take k)).length = ll := by
        rw [sp_len _ _ _ (by rw [List.length_take, HDL.out, HLL.out]; have := HS.out; omega), HLL.out]
      obtain ⟨AK, hAK⟩ : ∃ a : Nat, a = at_ * 64 + k := ⟨_, rfl⟩
      have hfz := (OW.at (n := ll) ow1 (AK) (by rw [hspl]; have := HS.out; omega))
      obtain ⟨cv, hcv⟩ : ∃ v : Value, v = .int .u8 ((byt (sp l (64 * at_) (d.take k)) (AK)).toNat : Int) := ⟨_, rfl⟩
      have hst1 := hfz.1
      rw [← hcv] at hst1
      have hst1d : wr.drew.cell? ⟨lb, AK, none⟩ = some cv := hst1
      have hfzd : wr.drew.frozen? ⟨lb, AK, none⟩ = false := hfz.2
      have hgb : w.heap.size ≠ lb := by have := HLB.out; omega
      have HSt : Hid (wr.cell? ⟨q, 0, none⟩ = some (.slice (some ⟨lb, 0, none⟩) ll cap) ∧ wr.cell? ⟨w.heap.size, 0, none⟩ = some (.int .i64 (at_ : Int)) ∧ wr.cell? ⟨w.heap.size, 1, none⟩ = some (.slice (some ⟨dg, 0, none⟩) 64 dc) ∧ wr.cell? ⟨dg, k, none⟩ = some (.int .u8 yv)) := ⟨k0, k1, k2, k3⟩
      have HNx : Hid (LY w lb cap at_ l d (k + 1) ((wr.setCell ⟨lb, AK, none⟩ (.int .u8 yv)).drew) ∧ ((wr.setCell ⟨lb, AK, none⟩ (.int .u8 yv)).drew).heap[w.heap.size]? = some (.cells #[.int .i64 (at_ : Int), .slice (some ⟨dg, 0, none⟩) 64 dc, .bool dead] 64 (0, 0))) := by
        refine ⟨⟨?_, (H.out.1.fr.setCell lb _ _ (fun _ e => e rfl)).drew 1⟩, (setCell_other hgb).trans H.out.2⟩
        rw [← sp_step l (64 * at_) d k (by rw [HDL.out]; exact hk64) (by rw [HDL.out, HLL.out]; exact HS.out), HY.out, hAK, show at_ * 64 + k = 64 * at_ + k by omega]
        exact OW.put H.out.1.ow _ _
      have HSt2 : Hid ((wr.setCell ⟨lb, AK, none⟩ (.int .u8 yv)).cell? ⟨q, 0, none⟩ = some (.slice (some ⟨lb, 0, none⟩) ll cap) ∧ (wr.setCell ⟨lb, AK, none⟩ (.int .u8 yv)).cell? ⟨w.heap.size, 0, none⟩ = some (.int .i64 (at_ : Int)) ∧ (wr.setCell ⟨lb, AK, none⟩ (.int .u8 yv)).cell? ⟨w.heap.size, 1, none⟩ = some (.slice (some ⟨dg, 0, none⟩) 64 dc) ∧ (wr.setCell ⟨lb, AK, none⟩ (.int .u8 yv)).cell? ⟨dg, k, none⟩ = some (.int .u8 yv)) :=
        ⟨(World.cell?_of_block (w := wr) (setCell_other hq)).trans k0, (World.cell?_of_block (w := wr) (setCell_other hgb)).trans k1, (World.cell?_of_block (w := wr) (setCell_other hgb)).trans k2, (World.cell?_of_block (w := wr) (setCell_other hdg)).trans k3⟩
      obtain ⟨a64, ha64⟩ : ∃ a : Int, a = ((at_ * 64 : Nat) : Int) := ⟨_, rfl⟩
      have hm1 : IntKind.i64.wrap ((at_ : Int) * 64) = a64 := by
        rw [ha64, show (at_ : Int) * 64 = ((at_ * 64 : Nat) : Int) by omega]
        exact IntWalk.i64_in _ (by have := HS.out; omega)
      have hm2 : IntKind.i64.wrap (a64 + (k : Int)) = (AK : Int) := by
        rw [ha64, show ((at_ * 64 : Nat) : Int) + (k : Int) = (AK : Int) by omega]
        exact IntWalk.i64_in _ (by have := HS.out; omega)
      have hlo : AK < ll := by have := HS.out; omega
      clear ow1 hspl hfz hcv hyv k0 k1 k2 k3 hst1 ha64 hAK
      go_upto_region 4 with fail
      refine wp_region_held_drew (S := fun x => x.cell? ⟨q, 0, none⟩ = some (.slice (some ⟨lb, 0, none⟩) ll cap) ∧ x.cell? ⟨w.heap.size, 0, none⟩ = some (.int .i64 (at_ : Int)) ∧ x.cell? ⟨w.heap.size, 1, none⟩ = some (.slice (some ⟨dg, 0, none⟩) 64 dc) ∧ x.cell? ⟨dg, k, none⟩ = some (.int .u8 yv)) (by kernel_rfl) (HSt.out) (fun hHeld => ?_)
      refine wpAnyH_take (i := 0) (v := .pointer (some ⟨q, 0, none⟩)) rfl (by kernel_rfl) (by kernel_rfl) (by kernel_rfl) (fun _ _ _ h => h) (Or.inl ⟨by rfl, fun w hw => by go_simp⟩) hHeld ?_
      simp only [Act.put, List.getElem_toArray, List.getElem_cons_zero, List.setIfInBounds_toArray, List.set_cons_zero, List.set_cons_succ]
      refine wpAnyH_take (i := 1) (v := .pointer (some ⟨q, 0, none⟩)) rfl (by kernel_rfl) (by kernel_rfl) (by kernel_rfl) (fun _ _ _ h => h) (Or.inl ⟨by rfl, fun w hw => by go_simp⟩) hHeld ?_
      simp only [Act.put, List.getElem_toArray, List.getElem_cons_zero, List.getElem_cons_succ, List.setIfInBounds_toArray, List.set_cons_zero, List.set_cons_succ]
      refine wpAnyH_take (i := 2) (v := .pointer (some ⟨q, 0, none⟩)) rfl (by kernel_rfl) (by kernel_rfl) (by kernel_rfl) (fun _ _ _ h => h) (Or.inl ⟨by rfl, fun w hw => by go_simp⟩) hHeld ?_
      simp only [Act.put, List.getElem_toArray, List.getElem_cons_zero, List.getElem_cons_succ, List.setIfInBounds_toArray, List.set_cons_zero, List.set_cons_succ]
      refine wpAnyH_take (i := 3) (v := .slice (some ⟨lb, 0, none⟩) ll cap) rfl (by kernel_rfl) (by kernel_rfl) (by kernel_rfl) (fun _ _ _ h => h) (Or.inl ⟨by rfl, fun w hw => by have hq1 := hw.1; have hq2 := hw.2.1; have hq3 := hw.2.2.1; have hq4 := hw.2.2.2; go_simp⟩) hHeld ?_
      simp only [Act.put, List.getElem_toArray, List.getElem_cons_zero, List.getElem_cons_succ, List.setIfInBounds_toArray, List.set_cons_zero, List.set_cons_succ]
      refine wpAnyH_take (i := 4) (v := .pointer (some ⟨w.heap.size, 0, none⟩)) rfl (by kernel_rfl) (by kernel_rfl) (by kernel_rfl) (fun _ _ _ h => h) (Or.inl ⟨by rfl, fun w hw => by go_simp⟩) hHeld ?_
      simp only [Act.put, List.getElem_toArray, List.getElem_cons_zero, List.getElem_cons_succ, List.setIfInBounds_toArray, List.set_cons_zero, List.set_cons_succ]
      refine wpAnyH_take (i := 5) (v := .int .i64 (at_ : Int)) rfl (by kernel_rfl) (by kernel_rfl) (by kernel_rfl) (fun _ _ _ h => h) (Or.inl ⟨by rfl, fun w hw => by have hq1 := hw.1; have hq2 := hw.2.1; have hq3 := hw.2.2.1; have hq4 := hw.2.2.2; go_simp⟩) hHeld ?_
      simp only [Act.put, List.getElem_toArray, List.getElem_cons_zero, List.getElem_cons_succ, List.setIfInBounds_toArray, List.set_cons_zero, List.set_cons_succ]
      refine wpAnyH_take (i := 6) (v := .int .i64 a64) rfl (by kernel_rfl) (by kernel_rfl) (by kernel_rfl) (fun _ _ _ h => h) (Or.inl ⟨by rfl, fun w hw => by go_simp⟩) hHeld ?_
      simp only [Act.put, List.getElem_toArray, List.getElem_cons_zero, List.getElem_cons_succ, List.setIfInBounds_toArray, List.set_cons_zero, List.set_cons_succ]
      refine wpAnyH_take (i := 7) (v := .int .i64 (k : Int)) rfl (by kernel_rfl) (by kernel_rfl) (by kernel_rfl) (fun _ _ _ h => h) (Or.inl ⟨by rfl, fun w hw => by go_simp⟩) hHeld ?_
      simp only [Act.put, List.getElem_toArray, List.getElem_cons_zero, List.getElem_cons_succ, List.setIfInBounds_toArray, List.set_cons_zero, List.set_cons_succ]
      refine wpAnyH_take (i := 8) (v := .int .i64 (AK : Int)) rfl (by kernel_rfl) (by kernel_rfl) (by kernel_rfl) (fun _ _ _ h => h) (Or.inl ⟨by rfl, fun w hw => by go_simp⟩) hHeld ?_
      simp only [Act.put, List.getElem_toArray, List.getElem_cons_zero, List.getElem_cons_succ, List.setIfInBounds_toArray, List.set_cons_zero, List.set_cons_succ]
      refine wpAnyH_take (i := 9) (v := .pointer (some ⟨w.heap.size, 1, none⟩)) rfl (by kernel_rfl) (by kernel_rfl) (by kernel_rfl) (fun _ _ _ h => h) (Or.inl ⟨by rfl, fun w hw => by go_simp⟩) hHeld ?_
      simp only [Act.put, List.getElem_toArray, List.getElem_cons_zero, List.getElem_cons_succ, List.setIfInBounds_toArray, List.set_cons_zero, List.set_cons_succ]
      refine wpAnyH_take (i := 10) (v := .slice (some ⟨dg, 0, none⟩) 64 dc) rfl (by kernel_rfl) (by kernel_rfl) (by kernel_rfl) (fun _ _ _ h => h) (Or.inl ⟨by rfl, fun w hw => by have hq1 := hw.1; have hq2 := hw.2.1; have hq3 := hw.2.2.1; have hq4 := hw.2.2.2; go_simp⟩) hHeld ?_
      simp only [Act.put, List.getElem_toArray, List.getElem_cons_zero, List.getElem_cons_succ, List.setIfInBounds_toArray, List.set_cons_zero, List.set_cons_succ]
      refine wpAnyH_take (i := 11) (v := .int .i64 (k : Int)) rfl (by kernel_rfl) (by kernel_rfl) (by kernel_rfl) (fun _ _ _ h => h) (Or.inl ⟨by rfl, fun w hw => by go_simp⟩) hHeld ?_
      simp only [Act.put, List.getElem_toArray, List.getElem_cons_zero, List.getElem_cons_succ, List.setIfInBounds_toArray, List.set_cons_zero, List.set_cons_succ]
      refine wpAnyH_take (i := 12) (v := .pointer (some ⟨dg, k, none⟩)) rfl (by kernel_rfl) (by kernel_rfl) (by kernel_rfl) (fun _ _ _ h => h) (Or.inl ⟨by rfl, fun w hw => by go_simp; intro hh; omega⟩) hHeld ?_
      simp only [Act.put, List.getElem_toArray, List.getElem_cons_zero, List.getElem_cons_succ, List.setIfInBounds_toArray, List.set_cons_zero, List.set_cons_succ]
      refine wpAnyH_take (i := 13) (v := .int .u8 yv) rfl (by kernel_rfl) (by kernel_rfl) (by kernel_rfl) (fun _ _ _ h => h) (Or.inl ⟨by rfl, fun w hw => by have hq1 := hw.1; have hq2 := hw.2.1; have hq3 := hw.2.2.1; have hq4 := hw.2.2.2; go_simp⟩) hHeld ?_
      simp only [Act.put, List.getElem_toArray, List.getElem_cons_zero, List.getElem_cons_succ, List.setIfInBounds_toArray, List.set_cons_zero, List.set_cons_succ]
      refine wpAnyH_take (i := 14) (v := .pointer (some ⟨lb, AK, none⟩)) rfl (by kernel_rfl) (by kernel_rfl) (by kernel_rfl) (fun _ _ _ h => h) (Or.inl ⟨by rfl, fun w hw => by go_simp⟩) hHeld ?_
      simp only [Act.put, List.getElem_toArray, List.getElem_cons_zero, List.getElem_cons_succ, List.setIfInBounds_toArray, List.set_cons_zero, List.set_cons_succ]
      refine wpAnyH_ready (rs := [15]) (by kernel_rfl) (by simp) ?_
      refine AllReadyH.cons (o := _) rfl (fun K hK => ?_) AllReadyH.nil
      go_simp
      refine hK.out _ _ HSt2.out (fun hHeld => ?_)
      clear hK K
      refine wpAnyH_done (by kernel_rfl) ?_ _
      clear hHeld
      have hm3 : IntKind.i64.wrap ((k : Int) + 1) = ((k + 1 : Nat) : Int) := IntWalk.i64_in _ (by omega)
      clear HSt HSt2 H hst1d hfzd hm1 hm2
      go_wp2
      exact ⟨⟨k + 1, hlt, rfl, HNx⟩, by simp [intOf]; omega⟩
    · have hnk : n = k := by omega
      subst hnk
      have HE : Hid (OW 0 wr (.slice (some ⟨lb, 0, none⟩) ll cap) (sp l (64 * at_) (d.take n)) ∧ Fr (fun k => k ≠ lb) w wr) := ⟨by have := H.out.1.ow; rw [HLL.out] at this; exact this, H.out.1.fr⟩
      clear H
      go_wp2
      go_end0
      exact ⟨rfl, HE.out.1, HE.out.2⟩
end Go.Proofs.Ytglknmelcianjaa
