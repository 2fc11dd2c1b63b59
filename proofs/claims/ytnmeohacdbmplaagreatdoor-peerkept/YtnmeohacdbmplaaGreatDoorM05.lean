import Derived.Test.YtnmeohacdbmplaaGreatDoorM03
import Derived.Test.YtnmeohacdbmplaaGreatDoorM04
namespace Go.Proofs.YtnmeohacdbmplaaGreatDoor
open Go.RowKit
/-- a number's lowest byte -/
def ub (x : Int) : UInt8 := UInt8.ofNat (x % 256).toNat
theorem ub_val (x : Int) : ((ub x).toNat : Int) = x % 256 := by
  unfold ub
  rw [UInt8.toNat_ofNat']
  omega
/-- what field c lays down -/
def lay (c : Nat) (m : Mv) (D hb : List UInt8) : List UInt8 :=
  match c with
  | 1 => [ub m.k]
  | 2 => [ub m.i]
  | 3 => be4 m.i.toNat
  | 4 => be4 m.b.toNat
  | 5 => be4 m.l.toNat
  | 6 => be4 m.l.toNat
  | 7 => m.r
  | 8 => be4 m.ba.toNat
  | 9 => be4 m.pr.toNat
  | 10 => D
  | 11 => hb
  | _ => []
theorem rb_new {w : World} {l : List UInt8} {n : Nat} (hn : l.length = n) : RB (w.alloc (.cells (bc l) 5)) (.slice (some ⟨w.heap.size, 0, none⟩) n n) l := by
  subst hn
  refine ⟨_, _, rfl, Nat.le_refl _, .inr ⟨w.heap.size, 0, rfl, by simp, fun i hi => ?_⟩⟩
  rw [Nat.zero_add]
  exact cell_bc (heapNew w _) i hi
theorem ub_cells (x : Int) : #[Value.int .u8 (x % 256)] = bc [ub x] := by
  simp [bc, Lib.byteCells, ub_val]
theorem be4_cells (n : Nat) : #[Value.int .u8 ((n : Int) / 16777216 % 256), Value.int .u8 ((n : Int) / 65536 % 256), Value.int .u8 ((n : Int) / 256 % 256), Value.int .u8 ((n : Int) % 256)] = bc (be4 n) := by
  have h1 := u8v (n / 16777216)
  have h2 := u8v (n / 65536)
  have h3 := u8v (n / 256)
  have h4 := u8v n
  simp only [bc, Lib.byteCells, be4, List.map_cons, List.map_nil, h1, h2, h3, h4]
  congr 1
theorem be4_cells' (n : Nat) (hn : n ≤ 4294967295) : #[Value.int .u8 ((n : Int) / 16777216), Value.int .u8 ((n : Int) / 65536 % 256), Value.int .u8 ((n : Int) / 256 % 256), Value.int .u8 ((n : Int) % 256)] = bc (be4 n) := by
  rw [← be4_cells, show (n : Int) / 16777216 % 256 = (n : Int) / 16777216 by omega]
/-- what a call that lays field c down does -/
def LYR (B : Nat) (w w' : World) (e : Ending) (l : List UInt8) : Prop := ∃ v', e = .returned v' ∧ OW B w' v' l ∧ Below B w w'
set_option maxHeartbeats 1000000 in
theorem k2T (w : World) (g B : Nat) (m : Mv) (v : Value) (l : List UInt8) (hm : MB w g m) (ho : OW B w v l) (hB : B ≤ w.heap.size) (hl : l.length ≤ 100000000) :
    Calls Tryz.prog 96 #[v, ptr g] w fun e w' => LYR B w w' e (l ++ [ub m.k]) := by
  have c0 := hm.c0
  have HB := ub_cells m.k
  have HO : Hid (OW B (w.alloc (.cells (bc [ub m.k]) 5)) v l ∧ RB (w.alloc (.cells (bc [ub m.k]) 5)) (.slice (some ⟨w.heap.size, 0, none⟩) 1 1) [ub m.k] ∧ B ≤ (w.alloc (.cells (bc [ub m.k]) 5)).heap.size ∧ l.length + [ub m.k].length ≤ 140737488351232 ∧ Below B w (w.alloc (.cells (bc [ub m.k]) 5))) := ⟨ho.alloc _, rb_new rfl, by simp; omega, by simp; omega, (Below.refl _ _).alloc hB _⟩
  obtain ⟨a, c, rfl⟩ := ho.form
  rw [← HB] at HO
  clear hm ho HB
  go_enter Tryz.func96, Tryz.ntmps96
  go_wp2_with (at_builtin; refine append_bytes rfl _ _ rfl rfl HO.out.1 rfl HO.out.2.1 HO.out.2.2.1 HO.out.2.2.2.1 ?_; intro v' w1 hown' hb1)
  have HE : Hid (OW B w1 v' (l ++ [ub m.k]) ∧ Below B w w1) := ⟨hown', HO.out.2.2.2.2.trans hb1⟩
  clear hown' hb1
  go_wp2
  go_ret
  exact ⟨_, rfl, HE.out⟩
set_option maxHeartbeats 1000000 in
theorem o2T (w : World) (g B : Nat) (m : Mv) (v : Value) (l : List UInt8) (hm : MB w g m) (ho : OW B w v l) (hB : B ≤ w.heap.size) (hl : l.length ≤ 100000000) :
    Calls Tryz.prog 101 #[v, ptr g] w fun e w' => LYR B w w' e (l ++ [ub m.i]) := by
  have c0 := hm.c1
  have HB := ub_cells m.i
  have HO : Hid (OW B (w.alloc (.cells (bc [ub m.i]) 5)) v l ∧ RB (w.alloc (.cells (bc [ub m.i]) 5)) (.slice (some ⟨w.heap.size, 0, none⟩) 1 1) [ub m.i] ∧ B ≤ (w.alloc (.cells (bc [ub m.i]) 5)).heap.size ∧ l.length + [ub m.i].length ≤ 140737488351232 ∧ Below B w (w.alloc (.cells (bc [ub m.i]) 5))) := ⟨ho.alloc _, rb_new rfl, by simp; omega, by simp; omega, (Below.refl _ _).alloc hB _⟩
  obtain ⟨a, c, rfl⟩ := ho.form
  rw [← HB] at HO
  clear hm ho HB
  go_enter Tryz.func101, Tryz.ntmps101
  go_wp2_with (at_builtin; refine append_bytes rfl _ _ rfl rfl HO.out.1 rfl HO.out.2.1 HO.out.2.2.1 HO.out.2.2.2.1 ?_; intro v' w1 hown' hb1)
  have HE : Hid (OW B w1 v' (l ++ [ub m.i]) ∧ Below B w w1) := ⟨hown', HO.out.2.2.2.2.trans hb1⟩
  clear hown' hb1
  go_wp2
  go_ret
  exact ⟨_, rfl, HE.out⟩
set_option maxHeartbeats 1000000 in
theorem layNumberT (w : World) (B n : Nat) (v : Value) (l : List UInt8) (hn : n ≤ 4294967295) (ho : OW B w v l) (hB : B ≤ w.heap.size) (hl : l.length ≤ 100000000) :
    Calls Tryz.prog 107 #[v, .int .i64 (n : Int)] w fun e w' => LYR B w w' e (l ++ be4 n) := by
  have HB := be4_cells' n hn
  have HO : Hid (OW B (w.alloc (.cells (bc (be4 n)) 5)) v l ∧ RB (w.alloc (.cells (bc (be4 n)) 5)) (.slice (some ⟨w.heap.size, 0, none⟩) 4 4) (be4 n) ∧ B ≤ (w.alloc (.cells (bc (be4 n)) 5)).heap.size ∧ l.length + (be4 n).length ≤ 140737488351232 ∧ Below B w (w.alloc (.cells (bc (be4 n)) 5))) := ⟨ho.alloc _, rb_new rfl, by simp; omega, by rw [be4_len]; omega, (Below.refl _ _).alloc hB _⟩
  obtain ⟨a, c, rfl⟩ := ho.form
  rw [← HB] at HO
  clear ho HB
  go_enter Tryz.func107, Tryz.ntmps107
  go_wp2_with (at_builtin; refine append_bytes rfl _ _ rfl rfl HO.out.1 rfl HO.out.2.1 HO.out.2.2.1 HO.out.2.2.2.1 ?_; intro v' w1 hown' hb1)
  have HE : Hid (OW B w1 v' (l ++ be4 n) ∧ Below B w w1) := ⟨hown', HO.out.2.2.2.2.trans hb1⟩
  clear hown' hb1
  go_wp2
  go_ret
  exact ⟨_, rfl, HE.out⟩
set_option maxHeartbeats 1000000 in
theorem n2T (w : World) (g p f j B : Nat) (x : Int) (v : Value) (l : List UInt8) (hp : w.cell? ⟨p, 0, none⟩ = some (fnv f)) (he : EN f) (hf : OFC f j) (h1 : w.cell? ⟨g, j, none⟩ = some (.int .i64 x)) (hx : 0 ≤ x ∧ x ≤ 4294967295) (ho : OW B w v l) (hB : B ≤ w.heap.size) (hl : l.length ≤ 100000000) :
    Calls Tryz.prog 106 #[v, ptr g, ptr p] w fun e w' => LYR B w w' e (l ++ be4 x.toNat) := by
  have HF : Hid (OFC f j) := hf
  have HN : Hid (Calls Tryz.prog 107 #[v, .int .i64 x] w fun e w' => LYR B w w' e (l ++ be4 x.toNat)) := by
    have := layNumberT w B x.toNat v l (by omega) ho hB hl
    rw [show ((x.toNat : Nat) : Int) = x by omega] at this
    exact this
  obtain ⟨a, c, rfl⟩ := ho.form
  clear hf ho
  go_enter Tryz.func106, Tryz.ntmps106
  go_wp2_with fail
  refine (HF.out w g).mono ?_
  rintro e w1 ⟨rfl, rfl⟩
  go_wp2_with fail
  refine HN.out.mono ?_
  rintro e w2 ⟨v', rfl, o2, b2⟩
  have HE : Hid (OW B w2 v' (l ++ be4 x.toNat) ∧ Below B w1 w2) := ⟨o2, b2⟩
  clear o2 b2
  go_wp2
  go_ret
  exact ⟨_, rfl, HE.out⟩
theorem MB.rb {w : World} {g : Nat} {m : Mv} (h : MB w g m) (ok : m.ok) : RB w (.slice (some ⟨g, 5, none⟩) 32 32) m.r := by
  refine ⟨_, 32, by rw [ok.r], by rw [ok.r]; exact Nat.le_refl _, .inr ⟨g, 5, rfl, h.lt, fun i hi => ?_⟩⟩
  exact h.root i _ (bcl_get m.r i hi)
set_option maxHeartbeats 1000000 in
theorem r2T (w : World) (g B : Nat) (m : Mv) (ok : m.ok) (v : Value) (l : List UInt8) (hm : MB w g m) (ho : OW B w v l) (hB : B ≤ w.heap.size) (hl : l.length ≤ 100000000) :
    Calls Tryz.prog 113 #[v, ptr g] w fun e w' => LYR B w w' e (l ++ m.r) := by
  have HO : Hid (OW B w v l ∧ RB w (.slice (some ⟨g, 5, none⟩) 32 32) m.r ∧ B ≤ w.heap.size ∧ l.length + m.r.length ≤ 140737488351232) := ⟨ho, hm.rb ok, hB, by rw [ok.r]; omega⟩
  obtain ⟨a, c, rfl⟩ := ho.form
  clear hm ho
  go_enter Tryz.func113, Tryz.ntmps113
  go_wp2_with (at_builtin; refine append_bytes rfl _ _ rfl rfl HO.out.1 rfl HO.out.2.1 HO.out.2.2.1 HO.out.2.2.2 ?_; intro v' w1 hown' hb1)
  have HE : Hid (OW B w1 v' (l ++ m.r) ∧ Below B w w1) := ⟨hown', hb1⟩
  clear hown' hb1
  go_wp2
  go_ret
  exact ⟨_, rfl, HE.out⟩
set_option maxHeartbeats 1000000 in
theorem d2T (w : World) (g B : Nat) (m : Mv) (v : Value) (l D : List UInt8) (hm : MB w g m) (hd : RB w m.d D) (ho : OW B w v l) (hB : B ≤ w.heap.size) (hl : l.length + D.length ≤ 140737488351232) :
    Calls Tryz.prog 117 #[v, ptr g] w fun e w' => LYR B w w' e (l ++ D) := by
  have HO : Hid (OW B w v l ∧ RB w m.d D ∧ B ≤ w.heap.size ∧ l.length + D.length ≤ 140737488351232) := ⟨ho, hd, hB, hl⟩
  obtain ⟨a, c, rfl⟩ := ho.form
  obtain ⟨a2, c2, e2, _⟩ := hd
  have c4 := hm.c4
  rw [e2] at c4 HO
  clear hm ho
  go_enter Tryz.func117, Tryz.ntmps117
  go_wp2_with (at_builtin; refine append_bytes rfl _ _ rfl rfl HO.out.1 rfl HO.out.2.1 HO.out.2.2.1 HO.out.2.2.2 ?_; intro v' w1 hown' hb1)
  have HE : Hid (OW B w1 v' (l ++ D) ∧ Below B w w1) := ⟨hown', hb1⟩
  clear hown' hb1
  go_wp2
  go_ret
  exact ⟨_, rfl, HE.out⟩
abbrev z32a : Array Value := #[Value.int .u8 0, Value.int .u8 0, Value.int .u8 0, Value.int .u8 0, Value.int .u8 0, Value.int .u8 0, Value.int .u8 0, Value.int .u8 0, Value.int .u8 0, Value.int .u8 0, Value.int .u8 0, Value.int .u8 0, Value.int .u8 0, Value.int .u8 0, Value.int .u8 0, Value.int .u8 0, Value.int .u8 0, Value.int .u8 0, Value.int .u8 0, Value.int .u8 0, Value.int .u8 0, Value.int .u8 0, Value.int .u8 0, Value.int .u8 0, Value.int .u8 0, Value.int .u8 0, Value.int .u8 0, Value.int .u8 0, Value.int .u8 0, Value.int .u8 0, Value.int .u8 0, Value.int .u8 0]
theorem be4len (n : Nat) : (be4 n).length = 4 := rfl
set_option maxHeartbeats 2000000 in
set_option maxRecDepth 100000 in
theorem layHashesT (W w : World) (g : Nat) (m : Mv) (ok : m.ok) (v : Value) (l hb : List UInt8) (hm : MB W g m) (hh : RH W m.h hb) (hW : Below W.heap.size W w) (ho : OW W.heap.size w v l) (hl : l.length + hb.length ≤ 140737488351232) :
    Calls Tryz.prog 121 #[v, ptr g] w fun e w' => LYR W.heap.size w w' e (l ++ hb) := by
  have c39 := (hm.below hW).c39 ok
  obtain ⟨ah, nh, ch, eh, lh, _, _⟩ := id hh
  rw [eh] at c39
  have HH : Hid (RH W m.h hb ∧ m.h = .slice ah nh ch ∧ hb.length = nh * 32 ∧ l.length + hb.length ≤ 140737488351232 ∧ Below W.heap.size W w) := ⟨hh, eh, lh, hl, hW⟩
  have HO : Hid (OW W.heap.size w v l) := ho
  obtain ⟨a, c, rfl⟩ := ho.form
  have hnh : nh * 32 ≤ 140737488351232 := by omega
  clear hm hh eh lh ho hW
  go_enter Tryz.func121, Tryz.ntmps121
  go_wp2
  go_loopw [0, 12] (fun u t wr => ∃ k : Nat, k ≤ nh ∧ t = .int .i64 k ∧ Hid (OW W.heap.size wr u (l ++ hb.take (k * 32)) ∧ Below W.heap.size w wr)) (fun _ t _ => nh - (intOf t).toNat)
  case atStart => exact ⟨0, by omega, rfl, by simpa using HO.out, Below.refl _ _⟩
  case round =>
    obtain ⟨k, hk, rfl, hI⟩ := hrel
    by_cases hlt : k < nh
    · obtain ⟨G, o, rfl, hG, r1, l1⟩ := RH.cut HH.out.1 HH.out.2.1 k hlt
      have hWr : Below W.heap.size W wr := HH.out.2.2.2.2.trans hI.out.2
      have r2 : wr.rangeAt G (o + k * 32) (Lib.byteCells ((hb.drop (k * 32)).take 32)) := fun j y hj => (hWr.cell (p := ⟨G, o + k * 32 + j, none⟩) hG).trans (r1 j y hj)
      have hih : (Tryz.prog.info? 25).map (·.size) = some (Lib.byteCells ((hb.drop (k * 32)).take 32)).length := by rw [bcl_len, l1]; exact info_hash
      have hih2 : (Tryz.prog.info? 25).map (·.size) = some (bc ((hb.drop (k * 32)).take 32)).size := by rw [bc_size, l1]; exact info_hash
      have hone := bc_one ((hb.drop (k * 32)).take 32)
      have hz : z32a.size = (bc ((hb.drop (k * 32)).take 32)).size := by rw [bc_size, l1]; rfl
      have hg0 := heapNew wr (.cells z32a 25)
      have bX : Below wr.heap.size wr ((wr.alloc (.cells z32a 25)).setRow wr.heap.size (bc ((hb.drop (k * 32)).take 32))) := belowSetRow ((Below.refl _ _).alloc (Nat.le_refl _) _) (Nat.le_refl _) _
      have hs := hWr.size
      have HX : Hid (OW W.heap.size ((wr.alloc (.cells z32a 25)).setRow wr.heap.size (bc ((hb.drop (k * 32)).take 32))) u0 (l ++ hb.take (k * 32)) ∧ RB ((wr.alloc (.cells z32a 25)).setRow wr.heap.size (bc ((hb.drop (k * 32)).take 32))) (.slice (some ⟨wr.heap.size, 0, none⟩) 32 32) ((hb.drop (k * 32)).take 32) ∧ W.heap.size ≤ ((wr.alloc (.cells z32a 25)).setRow wr.heap.size (bc ((hb.drop (k * 32)).take 32))).heap.size ∧ (l ++ hb.take (k * 32)).length + ((hb.drop (k * 32)).take 32).length ≤ 140737488351232 ∧ Below W.heap.size w ((wr.alloc (.cells z32a 25)).setRow wr.heap.size (bc ((hb.drop (k * 32)).take 32)))) := by
        refine ⟨hI.out.1.grow bX, ⟨_, 32, by rw [l1], by rw [l1]; exact Nat.le_refl _, .inr ⟨wr.heap.size, 0, rfl, by simp [World.setRow], fun i hi => ?_⟩⟩, by simp [World.setRow]; omega, ?_, hI.out.2.trans (bX.mono hs)⟩
        · rw [Nat.zero_add]; exact cell_bc (heapSetRow _ _ _ _ _ hg0) i hi
        · rw [l1, List.length_append, List.length_take]
          have h1 := HH.out.2.2.1
          have h2 := HH.out.2.2.2.1
          omega
      have HT : Hid (hb.take ((k + 1) * 32) = hb.take (k * 32) ++ (hb.drop (k * 32)).take 32) := take_hash hb k
      obtain ⟨ua, uc, rfl⟩ := hI.out.1.form
      clear hI r1 bX hs hWr
      generalize (hb.drop (k * 32)).take 32 = h32 at *
      generalize hL : l ++ hb.take (k * 32) = L at *
      have HL : Hid (l ++ hb.take (k * 32) = L) := hL
      clear hL
      go_wp2_with (first | (refine wpList_load_mid rfl 25 _ rfl G (o + k * 32) rfl _ _ r2 Tryz.underlying25 rfl hih ?_) | (refine wpList_store_row rfl 25 _ _ rfl wr.heap.size (bc h32) rfl rfl 25 z32a hg0 hih2 hz hone ?_) | (at_builtin; refine append_bytes rfl _ _ rfl rfl HX.out.1 rfl HX.out.2.1 HX.out.2.2.1 HX.out.2.2.2.1 ?_; intro v' w1 hown' hb1))
      refine ⟨⟨k + 1, by omega, by go_num, ?_, HX.out.2.2.2.2.trans hb1⟩, by simp [intOf]; omega⟩
      rw [HT.out, ← List.append_assoc, HL.out]
      exact hown'
    · have HE : Hid (OW W.heap.size wr u0 (l ++ hb) ∧ Below W.heap.size w wr) := by
        have h1 := hI.out.1
        rw [List.take_of_length_le (by have := HH.out.2.2.1; omega)] at h1
        exact ⟨h1, hI.out.2⟩
      go_wp2
      go_ret
      exact ⟨_, rfl, HE.out⟩
/-- what a call that lays field c down does -/
def LYC (w : World) (c f : Nat) (caps : Array Value) : Prop := ∀ (W : World) (g : Nat) (m : Mv) (D hb : List UInt8) (v : Value) (l : List UInt8), MB W g m → MM W m D hb → lk c m = true → Below W.heap.size W w → OW W.heap.size w v l → l.length ≤ 100000000 → D.length ≤ 1000000 → hb.length ≤ 1000000 → Calls Tryz.prog f (#[v, ptr g] ++ caps) w fun e w' => LYR W.heap.size w w' e (l ++ lay c m D hb)
theorem rng_of {lo hi x : Int} (h : rng lo hi x = true) : lo ≤ x ∧ x ≤ hi := of_decide_eq_true h
theorem FLD.lay {w : World} {c : Nat} {v0 v1 v2 v3 v4 : Value} (h : FLD w c [v0, v1, v2, v3, v4]) : ∃ f caps, v1 = clo f caps ∧ EN f ∧ LYC w c f caps := by
  unfold FLD at h
  split at h
  · cases h
    refine ⟨_, _, rfl, en_k2, fun W g m D hb v l hm hM hk hW ho hl hD hH => ?_⟩
    exact k2T w g W.heap.size m v l (hm.below hW) ho hW.size hl
  · cases h
    refine ⟨_, _, rfl, en_o2, fun W g m D hb v l hm hM hk hW ho hl hD hH => ?_⟩
    exact o2T w g W.heap.size m v l (hm.below hW) ho hW.size hl
  · obtain ⟨p, q, s, e, hp, hq, hs⟩ := h.cells
    cases e
    refine ⟨_, _, rfl, en_n2, fun W g m D hb v l hm hM hk hW ho hl hD hH => ?_⟩
    exact n2T w g p 86 1 W.heap.size m.i v l hp en_of1 of1C ((hm.below hW).c1) (by have h := rng_of hk; exact h) ho hW.size hl
  · obtain ⟨p, q, s, e, hp, hq, hs⟩ := h.cells
    cases e
    refine ⟨_, _, rfl, en_n2, fun W g m D hb v l hm hM hk hW ho hl hD hH => ?_⟩
    exact n2T w g p 87 2 W.heap.size m.b v l hp en_of2 of2C ((hm.below hW).c2) (by have h := rng_of hk; exact h) ho hW.size hl
  · obtain ⟨p, q, s, e, hp, hq, hs⟩ := h.cells
    cases e
    refine ⟨_, _, rfl, en_n2, fun W g m D hb v l hm hM hk hW ho hl hD hH => ?_⟩
    exact n2T w g p 88 3 W.heap.size m.l v l hp en_of3 of3C ((hm.below hW).c3) (by have h := rng_of hk; exact h) ho hW.size hl
  · obtain ⟨p, q, s, e, hp, hq, hs⟩ := h.cells
    cases e
    refine ⟨_, _, rfl, en_n2, fun W g m D hb v l hm hM hk hW ho hl hD hH => ?_⟩
    exact n2T w g p 89 3 W.heap.size m.l v l hp en_of4 of4C ((hm.below hW).c3) (by have h := rng_of hk; omega) ho hW.size hl
  · cases h
    refine ⟨_, _, rfl, en_r2, fun W g m D hb v l hm hM hk hW ho hl hD hH => ?_⟩
    exact r2T w g W.heap.size m hM.ok v l (hm.below hW) ho hW.size hl
  · obtain ⟨p, q, s, e, hp, hq, hs⟩ := h.cells
    cases e
    refine ⟨_, _, rfl, en_n2, fun W g m D hb v l hm hM hk hW ho hl hD hH => ?_⟩
    exact n2T w g p 91 37 W.heap.size m.ba v l hp en_of5 of5C ((hm.below hW).c37 hM.ok) (by have h := rng_of hk; exact h) ho hW.size hl
  · obtain ⟨p, q, s, e, hp, hq, hs⟩ := h.cells
    cases e
    refine ⟨_, _, rfl, en_n2, fun W g m D hb v l hm hM hk hW ho hl hD hH => ?_⟩
    exact n2T w g p 92 38 W.heap.size m.pr v l hp en_of6 of6C ((hm.below hW).c38 hM.ok) (by have h := rng_of hk; exact h) ho hW.size hl
  · cases h
    refine ⟨_, _, rfl, en_d2, fun W g m D hb v l hm hM hk hW ho hl hD hH => ?_⟩
    exact d2T w g W.heap.size m v l D (hm.below hW) (hM.d.keep hW) ho hW.size (by omega)
  · cases h
    refine ⟨_, _, rfl, en_layHashes, fun W g m D hb v l hm hM hk hW ho hl hD hH => ?_⟩
    exact layHashesT W w g m hM.ok v l hb hm hM.h hW ho (by omega)
  · exact absurd h id
end Go.Proofs.YtnmeohacdbmplaaGreatDoor
namespace Go.Proofs.YtnmeohacdbmplaaGreatDoor
open Go.RowKit
/-- the body of a message with these fields -/
def lays (cs : List Nat) (m : Mv) (D hb : List UInt8) : List UInt8 := (cs.map fun c => lay c m D hb).flatten
/-- what Encode writes -/
def encB (m : Mv) (D hb : List UInt8) : List UInt8 :=
  if valE m = 0 then (match rowFor m.k with | some r => lays r.cs m D hb | none => []) else []
theorem val_small (m : Mv) (h : valE m = 0) : sln m.d ≤ 32767 ∧ sln m.h ≤ 560 := by
  rw [← ref_val] at h
  unfold refE at h
  split at h
  · simp at h
  · split at h
    · simp at h
    · rename_i h1 h2
      split at h
      · split at h
        · simp at h
        · rename_i h3 h4
          have h2' : fR m = false := by simpa using h2
          have h4' : szb m (sln m.d) (sln m.h) = false := by simpa using h4
          simp [fR, fc4, fc6] at h2'
          simp [szb] at h4'
          generalize sln m.d = nd at *
          generalize sln m.h = nh at *
          obtain ⟨⟨⟨_, h24⟩, _⟩, h26⟩ := h2'
          obtain ⟨⟨⟨q5, q7⟩, q9⟩, q22⟩ := h4'
          constructor
          · by_cases hn : 0 < nd
            · have := h24 hn
              by_cases k5 : m.k = 5
              · have := q5 k5; omega
              · by_cases k7 : m.k = 7
                · have := q7 k7; omega
                · have := q9 (this k5 k7); omega
            · omega
          · by_cases hn : 0 < nh
            · have := q22 (h26 hn); omega
            · omega
      · simp at h
theorem rws_mo : ∀ r ∈ rws, r.mo ≤ 32768 ∧ 0 ≤ r.mo := by decide
theorem fit_le {r : Kr} {n : Int} (h : r.fit n = true) : n ≤ r.mo := by
  unfold Kr.fit at h
  simp at h
  exact h.1.2
theorem lay_le (c : Nat) (m : Mv) (ok : m.ok) (D hb : List UInt8) (hD : D.length ≤ 1000000) (hH : hb.length ≤ 1000000) : (lay c m D hb).length ≤ 1000000 := by
  unfold lay
  split <;> first | (simp [be4]; done) | (rw [ok.r]; omega) | assumption | simp
theorem lays_le (cs : List Nat) (m : Mv) (ok : m.ok) (D hb : List UInt8) (hD : D.length ≤ 1000000) (hH : hb.length ≤ 1000000) : (lays cs m D hb).length ≤ cs.length * 1000000 := by
  induction cs with
  | nil => simp [lays]
  | cons c l ih =>
    have := lay_le c m ok D hb hD hH
    have e : lays (c :: l) m D hb = lay c m D hb ++ lays l m D hb := rfl
    rw [e, List.length_append, List.length_cons, Nat.succ_mul]
    omega
theorem lays_snoc (cs : List Nat) (c : Nat) (m : Mv) (D hb : List UInt8) : lays (cs ++ [c]) m D hb = lays cs m D hb ++ lay c m D hb := by
  simp [lays]
set_option maxHeartbeats 2000000 in
set_option maxRecDepth 100000 in
theorem encodeT (w : World) (m : Mv) (D HBB : List UInt8) (hm : MM w m D HBB) (hk : KT w) :
    Calls Tryz.prog 80 #[.agg m.cs] w fun e w' => ∃ v, e = .returned (.tuple #[v, .int .i64 (valE m)]) ∧ OW w.heap.size w' v (encB m D HBB) ∧ Below w.heap.size w w' := by
  have b0 : Below w.heap.size w (w.alloc (.cells m.cs 47)) := (Below.refl _ _).alloc (Nat.le_refl _) _
  have HA : Hid (KT (w.alloc (.cells m.cs 47)) ∧ MB (w.alloc (.cells m.cs 47)) w.heap.size m ∧ MM (w.alloc (.cells m.cs 47)) m D HBB ∧ Below w.heap.size w (w.alloc (.cells m.cs 47)) ∧ w.heap.size < (w.alloc (.cells m.cs 47)).heap.size) := ⟨hk.below b0 hk.pos, heapNew w _, hm.keep b0, b0, by simp⟩
  have hc := HA.out.2.1.cells
  have him := info_msg hm.ok
  have HS : Hid (MM w m D HBB) := hm
  clear b0 hk hm
  go_enter Tryz.func80, Tryz.ntmps80
  go_wp2_with (first | (refine wpList_load_row rfl 47 _ rfl w.heap.size rfl 47 m.cs (0, 0) _ hc Tryz.underlying47 rfl him ?_))
  generalize w.alloc (.cells m.cs 47) = w0 at *
  refine (checkedT w0 m HS.out.ok HA.out.1 HS.out.big.1 HS.out.big.2).mono ?_
  rintro e w1 ⟨v, rfl, hv, b1⟩
  have HB : Hid (MB w1 w.heap.size m ∧ MM w1 m D HBB ∧ Below w.heap.size w w1 ∧ w.heap.size < w1.heap.size) := ⟨HA.out.2.1.below b1, HA.out.2.2.1.keep b1, HA.out.2.2.2.1.trans (b1.mono (Nat.le_of_lt HA.out.2.2.2.2)), Nat.lt_of_lt_of_le HA.out.2.2.2.2 b1.size⟩
  clear b1 hc HA him
  by_cases h0 : valE m = 0
  · obtain ⟨r, hr, hfs, hlk, hfit, _⟩ := hv h0
    have hsm := val_small m h0
    have hmem := (rowFor_mem hr).1
    have hmo := rws_mo r hmem
    have hfl := fit_le hfit
    have hcs : r.cs.length ≤ 7 := (rws_all r hmem).2.2.2.2.2
    have HR : Hid (encB m D HBB = lays r.cs m D HBB ∧ valE m = 0 ∧ lks r.cs m = true ∧ FS w1 v r.cs ∧ D.length ≤ 1000000 ∧ HBB.length ≤ 1000000 ∧ r.cs.length ≤ 7) := by
      refine ⟨by unfold encB; rw [if_pos h0, hr], h0, hlk, hfs, ?_, ?_, hcs⟩
      · have := HS.out.sd; omega
      · have := HS.out.sh; omega
    have hsz : szs r.cs m ≤ 32768 := by omega
    obtain ⟨va, vc, rfl, _⟩ := id hfs
    rw [h0]
    clear hv h0 hfs hlk hfit hr hmem hmo hfl hsm
    go_wp2_with fail
    refine (sizeT w1 _ r.cs w.heap.size m HB.out.1 HS.out.ok HR.out.2.2.2.1 (by omega) HS.out.big.1 HS.out.big.2).mono ?_
    rintro e w2 ⟨rfl, b2⟩
    have HC : Hid (MB w2 w.heap.size m ∧ MM w2 m D HBB ∧ Below w.heap.size w w2 ∧ w.heap.size < w2.heap.size ∧ FS w2 (.slice va r.cs.length vc) r.cs) := ⟨HB.out.1.below b2, HB.out.2.1.keep b2, HB.out.2.2.1.trans (b2.mono (Nat.le_of_lt HB.out.2.2.2)), Nat.lt_of_lt_of_le HB.out.2.2.2 b2.size, HR.out.2.2.2.1.below b2⟩
    clear b2 HB
    generalize szs r.cs m = S at *
    have hmk : ∀ u : World, (Instr.makeSlice 31 (.int .i64 0) (.int .i64 (S : Int))).run Tryz.prog u = .ok (.slice (some ⟨u.heap.size, 0, none⟩) 0 S) (u.alloc (.cells (madeCells #[.int .u8 0] S) 5)) := fun u => by
      obtain ⟨i0, hi, hz0, hz1, hz2⟩ := info_parts info5
      have h := run_make (P := Tryz.prog) u 31 5 i0 (.int .u8 0) Tryz.underlying31 hi hz0 .i64 .i64 0 (S : Int) (by omega) (by omega) (by rw [hz2]; omega) (by omega)
      simpa [hz1, Value.cells] using h
    go_wp2
    have HD : Hid (OW w2.heap.size (w2.alloc (.cells (madeCells #[.int .u8 0] S) 5)) (.slice (some ⟨w2.heap.size, 0, none⟩) 0 S) [] ∧ Below w2.heap.size w2 (w2.alloc (.cells (madeCells #[.int .u8 0] S) 5))) := ⟨World.ownsRow_made w2 _ S (Nat.le_refl _) (by unfold maxLen; omega) (by simp [size_madeCells]), (Below.refl _ _).alloc (Nat.le_refl _) _⟩
    generalize w2.alloc (.cells (madeCells #[.int .u8 0] S) 5) = w3 at *
    generalize hln : r.cs.length = len at *
    have HN : Hid (r.cs.length = len) := hln
    clear hln hmk
    generalize m.cs = mcs at *
    go_loopw [6, 22] (fun u t wr => ∃ n : Nat, n ≤ len ∧ t = .int .i64 n ∧ Hid (OW w2.heap.size wr u (lays (r.cs.take n) m D HBB) ∧ Below w2.heap.size w2 wr)) (fun _ t _ => len - (intOf t).toNat)
    case atStart => exact ⟨0, by omega, rfl, HD.out⟩
    case round =>
      obtain ⟨n, hn, rfl, hI⟩ := hrel
      by_cases hlt : n < len
      · have hl2 : n < r.cs.length := by rw [HN.out]; exact hlt
        have hx : r.cs[n]? = some r.cs[n] := List.getElem?_eq_getElem hl2
        generalize r.cs[n] = c at hx
        obtain ⟨a', cap', e', hfa⟩ := HC.out.2.2.2.2
        simp only [Value.slice.injEq] at e'
        obtain ⟨rfl, -, rfl⟩ := e'
        rcases hfa with h | ⟨G, cur, rfl, hG, hfa⟩
        · rw [h] at hl2; simp at hl2
        obtain ⟨vs, hv, hr⟩ := hfa n c hx
        obtain ⟨v0, v1, v2, v3, v4, rfl⟩ := hv.len
        have hGlt := (Array.getElem?_eq_some_iff.1 hG).1
        have hb := hI.out.2
        have hr' : wr.rangeAt G (n * 5) [v0, v1, v2, v3, v4] := fun j y hj => (hb.cell (p := ⟨G, n * 5 + j, none⟩) hGlt).trans (hr j y hj)
        have hi5 : (Tryz.prog.info? 144).map (·.size) = some [v0, v1, v2, v3, v4].length := info_field
        have hi5' : (Tryz.prog.info? 144).map (·.size) = some ([v0, v1, v2, v3, v4] : List Value).toArray.size := info_field
        have hone : ([v0, v1, v2, v3, v4] : List Value).toArray.all (·.oneCell') = true := hv.one
        have hb2 : Below w2.heap.size w2 (bxw wr [v0, v1, v2, v3, v4]) := hb.trans ((bxw_below _ _).mono hb.size)
        have ho2 := hI.out.1.grow (bxw_below wr [v0, v1, v2, v3, v4])
        have hv2 : FLD (bxw wr [v0, v1, v2, v3, v4]) c [v0, v1, v2, v3, v4] := hv.below hb2
        obtain ⟨f, caps, rfl, he, hc⟩ := hv2.lay
        have hlkc : lk c m = true := by
          have := HR.out.2.2.1
          unfold lks at this
          exact List.all_eq_true.1 this c (List.mem_of_getElem? hx)
        have hll : (lays (r.cs.take n) m D HBB).length ≤ 100000000 := by
          have h1 := lays_le (r.cs.take n) m HS.out.ok D HBB HR.out.2.2.2.2.1 HR.out.2.2.2.2.2.1
          have h2 : (r.cs.take n).length ≤ 7 := by rw [List.length_take]; have := HR.out.2.2.2.2.2.2; omega
          have h3 := Nat.mul_le_mul_right 1000000 h2
          omega
        have HX : Hid (Calls Tryz.prog f (#[u6, ptr w.heap.size] ++ caps) (bxw wr [v0, clo f caps, v2, v3, v4]) (fun e w' => LYR w2.heap.size (bxw wr [v0, clo f caps, v2, v3, v4]) w' e (lays (r.cs.take n) m D HBB ++ lay c m D HBB)) ∧ Below w2.heap.size w2 (bxw wr [v0, clo f caps, v2, v3, v4])) :=
          ⟨hc w2 w.heap.size m D HBB u6 _ HC.out.1 HC.out.2.1 hlkc hb2 ho2 hll HR.out.2.2.2.2.1 HR.out.2.2.2.2.2.1, hb2⟩
        have h3 : (bxw wr [v0, clo f caps, v2, v3, v4]).cell? ⟨wr.heap.size, 1, none⟩ = some (clo f caps) := rangeOf (bxw_heap _ _) 1 _ rfl
        have hg0 := heapNew wr (.cells nil5 144)
        obtain ⟨ua, uc, rfl⟩ := hI.out.1.form
        have HT : Hid (lays (r.cs.take (n + 1)) m D HBB = lays (r.cs.take n) m D HBB ++ lay c m D HBB) := by
          unfold Hid
          rw [← lays_snoc]
          congr 1
          rw [List.take_add_one, hx]; rfl
        clear hc hb2 hv2 hv hr hfa hb ho2 hI hll hlkc
        generalize hLL : lays (r.cs.take n) m D HBB = LL at *
        go_wp2_with (first | (refine wpList_load_mid rfl 144 _ rfl G (n * 5) rfl _ _ hr' Tryz.underlying144 rfl hi5 ?_) | (refine wpList_store_row rfl 144 _ _ rfl wr.heap.size _ rfl rfl 144 nil5 hg0 hi5' rfl hone ?_))
        refine HX.out.1.mono ?_
        rintro e w4 ⟨v', rfl, o4, b4⟩
        have HE : Hid (OW w2.heap.size w4 v' (lays (r.cs.take (n + 1)) m D HBB) ∧ Below w2.heap.size w2 w4) := ⟨by rw [HT.out]; exact o4, HX.out.2.trans b4⟩
        clear o4 b4 HX h3 hg0 hr'
        go_wp2
        exact ⟨⟨n + 1, by omega, by go_num, HE.out⟩, by simp [intOf]; omega⟩
      · have HE : Hid (OW w.heap.size wr u6 (encB m D HBB) ∧ Below w.heap.size w wr) := by
          have h1 := hI.out.1
          rw [List.take_of_length_le (by have := HN.out; omega)] at h1
          rw [HR.out.1]
          exact ⟨h1.mono (Nat.le_of_lt HC.out.2.2.2.1), HC.out.2.2.1.trans (hI.out.2.mono (Nat.le_of_lt HC.out.2.2.2.1))⟩
        go_wp2
        go_ret2
        exact ⟨_, by rw [HR.out.2.1]; rfl, HE.out⟩
  · have HE : Hid (encB m D HBB = []) := by unfold Hid encB; rw [if_neg h0]
    obtain ⟨ve, hve⟩ : ∃ ve, valE m = ve := ⟨_, rfl⟩
    rw [hve] at h0 ⊢
    have HVE : Hid (valE m = ve) := hve
    clear hv hve
    go_wp2
    go_ret2
    exact ⟨_, by rw [HVE.out]; rfl, by rw [HE.out]; exact World.ownsRow_nil _ _ _ _, HB.out.2.2.1⟩
end Go.Proofs.YtnmeohacdbmplaaGreatDoor
namespace Go.Proofs.YtnmeohacdbmplaaGreatDoor
open Go.RowKit
/-- a message of a kind, with nothing in it -/
def zmk (k : Int) : Mv := { zm with k := k }
/-- what is taken off a body by a row's fields -/
def decR (r : Kr) (l : List UInt8) : Ds := Ds.tks r.cs ⟨zmk r.k, [], [], l⟩
/-- what is wrong with a body -/
def decE (l : List UInt8) : Int :=
  if 32768 < l.length then 111 else
  match rowFor (kindB l) with
  | none => 110
  | some r => if r.fit (l.length : Int) then (if lks r.cs (decR r l).m then 0 else 112) else 111
/-- what a body reads as -/
def decS (l : List UInt8) : Ds :=
  if decE l = 0 then (match rowFor (kindB l) with | some r => decR r l | none => ⟨zm, [], [], []⟩) else ⟨zm, [], [], []⟩
theorem upd_r (c : Nat) (m : Mv) (l : List UInt8) (h : m.r.length = 32) (hn : nds c l) : (upd c m l).r.length = 32 := by
  unfold upd
  split <;> first | exact h | (unfold nds at hn; simp at hn ⊢; omega)
theorem tks_r (cs : List Nat) (s : Ds) (h : s.m.r.length = 32) (hn : NDS cs s.l) : (Ds.tks cs s).m.r.length = 32 := by
  induction cs generalizing s with
  | nil => exact h
  | cons c cs ih => exact ih (Ds.tk c s) (upd_r c s.m s.l h hn.1) hn.2
theorem tks_snoc (cs : List Nat) (c : Nat) (s : Ds) : Ds.tks (cs ++ [c]) s = Ds.tk c (Ds.tks cs s) := by
  unfold Ds.tks; rw [List.foldl_append]; rfl
theorem upd_dh (c : Nat) (m : Mv) (l : List UInt8) (d h d' h' : Value) : ({ upd c { m with d := d, h := h } l with d := d', h := h' } : Mv) = { upd c m l with d := d', h := h' } := by
  unfold upd
  split <;> rfl
theorem lks_same (cs : List Nat) (m : Mv) (d h : Value) : lks cs { m with d := d, h := h } = lks cs m := by
  simp only [lks, lk_same]
theorem be4_nm4 (l : List UInt8) (h : 4 ≤ l.length) : be4 (nm4 l) = l.take 4 := by
  match l, h with
  | a :: b :: c :: d :: l, _ =>
    have h0 := UInt8.toNat_lt a
    have h1 := UInt8.toNat_lt b
    have h2 := UInt8.toNat_lt c
    have h3 := UInt8.toNat_lt d
    have e : nm4 (a :: b :: c :: d :: l) = ((a.toNat * 256 + b.toNat) * 256 + c.toNat) * 256 + d.toNat := rfl
    rw [e]
    unfold be4
    simp only [List.take_succ_cons, List.take_zero, List.cons.injEq, and_true]
    refine ⟨?_, ?_, ?_, ?_⟩
    all_goals (apply UInt8.toNat_inj.1; rw [UInt8.toNat_ofNat']; omega)
theorem nm4_lt (l : List UInt8) : nm4 l ≤ 4294967295 := by
  have h0 := UInt8.toNat_lt (byt l 0)
  have h1 := UInt8.toNat_lt (byt l 1)
  have h2 := UInt8.toNat_lt (byt l 2)
  have h3 := UInt8.toNat_lt (byt l 3)
  unfold nm4
  omega
theorem nm4_be4 (n : Nat) (h : n ≤ 4294967295) (l : List UInt8) : nm4 (be4 n ++ l) = n := by
  have e : nm4 (be4 n ++ l) = (((UInt8.ofNat (n / 16777216)).toNat * 256 + (UInt8.ofNat (n / 65536)).toNat) * 256 + (UInt8.ofNat (n / 256)).toNat) * 256 + (UInt8.ofNat n).toNat := rfl
  rw [e]
  simp only [UInt8.toNat_ofNat']
  omega
theorem drop_be4 (n : Nat) (l : List UInt8) : (be4 n ++ l).drop 4 = l := rfl
theorem ub_byt (y : UInt8) : ub (y.toNat : Int) = y := by
  unfold ub
  apply UInt8.toNat_inj.1
  rw [UInt8.toNat_ofNat']
  have := UInt8.toNat_lt y
  omega
end Go.Proofs.YtnmeohacdbmplaaGreatDoor
namespace Go.Proofs.YtnmeohacdbmplaaGreatDoor
open Go.RowKit
/-- is that a length of a body with that first byte -/
def szdB (k n : Int) : Bool :=
  if 64 ≤ k then decide (n ≤ 32768) else if k ≤ 3 then n == 1 else if k = 4 then n == 5 else if k = 5 then decide (n ≤ 8193) else if k = 7 then (decide (10 ≤ n) && decide (n ≤ 16393)) else if asksB k then n == 13 else if k = 22 then (decide (49 ≤ n) && decide (n ≤ 17969) && (n - 49) % 32 == 0) else n == 49
end Go.Proofs.YtnmeohacdbmplaaGreatDoor
