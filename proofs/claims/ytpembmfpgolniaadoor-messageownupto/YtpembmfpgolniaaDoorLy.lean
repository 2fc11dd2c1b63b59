import Derived.Test.YtpembmfpgolniaaDoorVa
namespace Go.Proofs.YtpembmfpgolniaaDoor
open Go.RowKit
/-- a number's lowest byte -/
def ub (x : Int) : UInt8 := UInt8.ofNat (x % 256).toNat
theorem ub_val (x : Int) : ((ub x).toNat : Int) = x % 256 := by
  unfold ub
  rw [UInt8.toNat_ofNat']
  omega
/-- what field c lays down -/
def lay (c : Nat) (m : Mv) (D hb : List UInt8) : List UInt8 :=
  match c with
  | 1 => [ub m.k]
  | 2 => [ub m.i]
  | 3 => be4 m.i.toNat
  | 4 => be4 m.b.toNat
  | 5 => be4 m.l.toNat
  | 6 => be4 m.l.toNat
  | 7 => m.r
  | 8 => be4 m.ba.toNat
  | 9 => be4 m.pr.toNat
  | 10 => D
  | 11 => hb
  | _ => []
theorem rb_new {w : World} {l : List UInt8} {n : Nat} (hn : l.length = n) : RB (w.alloc (.cells (bc l) 5)) (.slice (some ⟨w.heap.size, 0, none⟩) n n) l := by
  subst hn
  refine ⟨_, _, rfl, Nat.le_refl _, .inr ⟨w.heap.size, 0, rfl, by simp, fun i hi => ?_⟩⟩
  rw [Nat.zero_add]
  exact cell_bc (heapNew w _) i hi
theorem ub_cells (x : Int) : #[Value.int .u8 (x % 256)] = bc [ub x] := by
  simp [bc, Lib.byteCells, ub_val]
theorem be4_cells (n : Nat) : #[Value.int .u8 ((n : Int) / 16777216 % 256), Value.int .u8 ((n : Int) / 65536 % 256), Value.int .u8 ((n : Int) / 256 % 256), Value.int .u8 ((n : Int) % 256)] = bc (be4 n) := by
  have h1 := u8v (n / 16777216)
  have h2 := u8v (n / 65536)
  have h3 := u8v (n / 256)
  have h4 := u8v n
  simp only [bc, Lib.byteCells, be4, List.map_cons, List.map_nil, h1, h2, h3, h4]
  congr 1
theorem be4_cells' (n : Nat) (hn : n ≤ 4294967295) : #[Value.int .u8 ((n : Int) / 16777216), Value.int .u8 ((n : Int) / 65536 % 256), Value.int .u8 ((n : Int) / 256 % 256), Value.int .u8 ((n : Int) % 256)] = bc (be4 n) := by
  rw [← be4_cells, show (n : Int) / 16777216 % 256 = (n : Int) / 16777216 by omega]
/-- what a call that lays field c down does -/
def LYR (B : Nat) (w w' : World) (e : Ending) (l : List UInt8) : Prop := ∃ v', e = .returned v' ∧ OW B w' v' l ∧ Below B w w'
set_option maxHeartbeats 1000000 in
theorem k2T (w : World) (g B : Nat) (m : Mv) (v : Value) (l : List UInt8) (hm : MB w g m) (ho : OW B w v l) (hB : B ≤ w.heap.size) (hl : l.length ≤ 100000000) :
    Calls Tryd.prog 50 #[v, ptr g] w fun e w' => LYR B w w' e (l ++ [ub m.k]) := by
  have c0 := hm.c0
  have HB := ub_cells m.k
  have HO : Hid (OW B (w.alloc (.cells (bc [ub m.k]) 5)) v l ∧ RB (w.alloc (.cells (bc [ub m.k]) 5)) (.slice (some ⟨w.heap.size, 0, none⟩) 1 1) [ub m.k] ∧ B ≤ (w.alloc (.cells (bc [ub m.k]) 5)).heap.size ∧ l.length + [ub m.k].length ≤ 140737488351232 ∧ Below B w (w.alloc (.cells (bc [ub m.k]) 5))) := ⟨ho.alloc _, rb_new rfl, by simp; omega, by simp; omega, (Below.refl _ _).alloc hB _⟩
  obtain ⟨a, c, rfl⟩ := ho.form
  rw [← HB] at HO
  clear hm ho HB
  go_enter Tryd.func50, Tryd.ntmps50
  go_wp2_with (at_builtin; refine append_bytes rfl _ _ rfl rfl HO.out.1 rfl HO.out.2.1 HO.out.2.2.1 HO.out.2.2.2.1 ?_; intro v' w1 hown' hb1)
  have HE : Hid (OW B w1 v' (l ++ [ub m.k]) ∧ Below B w w1) := ⟨hown', HO.out.2.2.2.2.trans hb1⟩
  clear hown' hb1
  go_wp2
  go_ret
  exact ⟨_, rfl, HE.out⟩
set_option maxHeartbeats 1000000 in
theorem o2T (w : World) (g B : Nat) (m : Mv) (v : Value) (l : List UInt8) (hm : MB w g m) (ho : OW B w v l) (hB : B ≤ w.heap.size) (hl : l.length ≤ 100000000) :
    Calls Tryd.prog 55 #[v, ptr g] w fun e w' => LYR B w w' e (l ++ [ub m.i]) := by
  have c0 := hm.c1
  have HB := ub_cells m.i
  have HO : Hid (OW B (w.alloc (.cells (bc [ub m.i]) 5)) v l ∧ RB (w.alloc (.cells (bc [ub m.i]) 5)) (.slice (some ⟨w.heap.size, 0, none⟩) 1 1) [ub m.i] ∧ B ≤ (w.alloc (.cells (bc [ub m.i]) 5)).heap.size ∧ l.length + [ub m.i].length ≤ 140737488351232 ∧ Below B w (w.alloc (.cells (bc [ub m.i]) 5))) := ⟨ho.alloc _, rb_new rfl, by simp; omega, by simp; omega, (Below.refl _ _).alloc hB _⟩
  obtain ⟨a, c, rfl⟩ := ho.form
  rw [← HB] at HO
  clear hm ho HB
  go_enter Tryd.func55, Tryd.ntmps55
  go_wp2_with (at_builtin; refine append_bytes rfl _ _ rfl rfl HO.out.1 rfl HO.out.2.1 HO.out.2.2.1 HO.out.2.2.2.1 ?_; intro v' w1 hown' hb1)
  have HE : Hid (OW B w1 v' (l ++ [ub m.i]) ∧ Below B w w1) := ⟨hown', HO.out.2.2.2.2.trans hb1⟩
  clear hown' hb1
  go_wp2
  go_ret
  exact ⟨_, rfl, HE.out⟩
set_option maxHeartbeats 1000000 in
theorem layNumberT (w : World) (B n : Nat) (v : Value) (l : List UInt8) (hn : n ≤ 4294967295) (ho : OW B w v l) (hB : B ≤ w.heap.size) (hl : l.length ≤ 100000000) :
    Calls Tryd.prog 61 #[v, .int .i64 (n : Int)] w fun e w' => LYR B w w' e (l ++ be4 n) := by
  have HB := be4_cells' n hn
  have HO : Hid (OW B (w.alloc (.cells (bc (be4 n)) 5)) v l ∧ RB (w.alloc (.cells (bc (be4 n)) 5)) (.slice (some ⟨w.heap.size, 0, none⟩) 4 4) (be4 n) ∧ B ≤ (w.alloc (.cells (bc (be4 n)) 5)).heap.size ∧ l.length + (be4 n).length ≤ 140737488351232 ∧ Below B w (w.alloc (.cells (bc (be4 n)) 5))) := ⟨ho.alloc _, rb_new rfl, by simp; omega, by rw [be4_len]; omega, (Below.refl _ _).alloc hB _⟩
  obtain ⟨a, c, rfl⟩ := ho.form
  rw [← HB] at HO
  clear ho HB
  go_enter Tryd.func61, Tryd.ntmps61
  go_wp2_with (at_builtin; refine append_bytes rfl _ _ rfl rfl HO.out.1 rfl HO.out.2.1 HO.out.2.2.1 HO.out.2.2.2.1 ?_; intro v' w1 hown' hb1)
  have HE : Hid (OW B w1 v' (l ++ be4 n) ∧ Below B w w1) := ⟨hown', HO.out.2.2.2.2.trans hb1⟩
  clear hown' hb1
  go_wp2
  go_ret
  exact ⟨_, rfl, HE.out⟩
set_option maxHeartbeats 1000000 in
theorem n2T (w : World) (g p f j B : Nat) (x : Int) (v : Value) (l : List UInt8) (hp : w.cell? ⟨p, 0, none⟩ = some (fnv f)) (he : EN f) (hf : OFC f j) (h1 : w.cell? ⟨g, j, none⟩ = some (.int .i64 x)) (hx : 0 ≤ x ∧ x ≤ 4294967295) (ho : OW B w v l) (hB : B ≤ w.heap.size) (hl : l.length ≤ 100000000) :
    Calls Tryd.prog 60 #[v, ptr g, ptr p] w fun e w' => LYR B w w' e (l ++ be4 x.toNat) := by
  have HF : Hid (OFC f j) := hf
  have HN : Hid (Calls Tryd.prog 61 #[v, .int .i64 x] w fun e w' => LYR B w w' e (l ++ be4 x.toNat)) := by
    have := layNumberT w B x.toNat v l (by omega) ho hB hl
    rw [show ((x.toNat : Nat) : Int) = x by omega] at this
    exact this
  obtain ⟨a, c, rfl⟩ := ho.form
  clear hf ho
  go_enter Tryd.func60, Tryd.ntmps60
  go_wp2_with fail
  refine (HF.out w g).mono ?_
  rintro e w1 ⟨rfl, rfl⟩
  go_wp2_with fail
  refine HN.out.mono ?_
  rintro e w2 ⟨v', rfl, o2, b2⟩
  have HE : Hid (OW B w2 v' (l ++ be4 x.toNat) ∧ Below B w1 w2) := ⟨o2, b2⟩
  clear o2 b2
  go_wp2
  go_ret
  exact ⟨_, rfl, HE.out⟩
theorem MB.rb {w : World} {g : Nat} {m : Mv} (h : MB w g m) (ok : m.ok) : RB w (.slice (some ⟨g, 5, none⟩) 32 32) m.r := by
  refine ⟨_, 32, by rw [ok.r], by rw [ok.r]; exact Nat.le_refl _, .inr ⟨g, 5, rfl, h.lt, fun i hi => ?_⟩⟩
  exact h.root i _ (bcl_get m.r i hi)
set_option maxHeartbeats 1000000 in
theorem r2T (w : World) (g B : Nat) (m : Mv) (ok : m.ok) (v : Value) (l : List UInt8) (hm : MB w g m) (ho : OW B w v l) (hB : B ≤ w.heap.size) (hl : l.length ≤ 100000000) :
    Calls Tryd.prog 67 #[v, ptr g] w fun e w' => LYR B w w' e (l ++ m.r) := by
  have HO : Hid (OW B w v l ∧ RB w (.slice (some ⟨g, 5, none⟩) 32 32) m.r ∧ B ≤ w.heap.size ∧ l.length + m.r.length ≤ 140737488351232) := ⟨ho, hm.rb ok, hB, by rw [ok.r]; omega⟩
  obtain ⟨a, c, rfl⟩ := ho.form
  clear hm ho
  go_enter Tryd.func67, Tryd.ntmps67
  go_wp2_with (at_builtin; refine append_bytes rfl _ _ rfl rfl HO.out.1 rfl HO.out.2.1 HO.out.2.2.1 HO.out.2.2.2 ?_; intro v' w1 hown' hb1)
  have HE : Hid (OW B w1 v' (l ++ m.r) ∧ Below B w w1) := ⟨hown', hb1⟩
  clear hown' hb1
  go_wp2
  go_ret
  exact ⟨_, rfl, HE.out⟩
set_option maxHeartbeats 1000000 in
theorem d2T (w : World) (g B : Nat) (m : Mv) (v : Value) (l D : List UInt8) (hm : MB w g m) (hd : RB w m.d D) (ho : OW B w v l) (hB : B ≤ w.heap.size) (hl : l.length + D.length ≤ 140737488351232) :
    Calls Tryd.prog 71 #[v, ptr g] w fun e w' => LYR B w w' e (l ++ D) := by
  have HO : Hid (OW B w v l ∧ RB w m.d D ∧ B ≤ w.heap.size ∧ l.length + D.length ≤ 140737488351232) := ⟨ho, hd, hB, hl⟩
  obtain ⟨a, c, rfl⟩ := ho.form
  obtain ⟨a2, c2, e2, _⟩ := hd
  have c4 := hm.c4
  rw [e2] at c4 HO
  clear hm ho
  go_enter Tryd.func71, Tryd.ntmps71
  go_wp2_with (at_builtin; refine append_bytes rfl _ _ rfl rfl HO.out.1 rfl HO.out.2.1 HO.out.2.2.1 HO.out.2.2.2 ?_; intro v' w1 hown' hb1)
  have HE : Hid (OW B w1 v' (l ++ D) ∧ Below B w w1) := ⟨hown', hb1⟩
  clear hown' hb1
  go_wp2
  go_ret
  exact ⟨_, rfl, HE.out⟩
abbrev z32a : Array Value := #[Value.int .u8 0, Value.int .u8 0, Value.int .u8 0, Value.int .u8 0, Value.int .u8 0, Value.int .u8 0, Value.int .u8 0, Value.int .u8 0, Value.int .u8 0, Value.int .u8 0, Value.int .u8 0, Value.int .u8 0, Value.int .u8 0, Value.int .u8 0, Value.int .u8 0, Value.int .u8 0, Value.int .u8 0, Value.int .u8 0, Value.int .u8 0, Value.int .u8 0, Value.int .u8 0, Value.int .u8 0, Value.int .u8 0, Value.int .u8 0, Value.int .u8 0, Value.int .u8 0, Value.int .u8 0, Value.int .u8 0, Value.int .u8 0, Value.int .u8 0, Value.int .u8 0, Value.int .u8 0]
theorem take_hash (hb : List UInt8) (k : Nat) : hb.take ((k + 1) * 32) = hb.take (k * 32) ++ (hb.drop (k * 32)).take 32 := by
  rw [show (k + 1) * 32 = k * 32 + 32 by omega, List.take_add]
theorem be4len (n : Nat) : (be4 n).length = 4 := rfl
set_option maxHeartbeats 2000000 in
set_option maxRecDepth 100000 in
theorem layHashesT (W w : World) (g : Nat) (m : Mv) (ok : m.ok) (v : Value) (l hb : List UInt8) (hm : MB W g m) (hh : RH W m.h hb) (hW : Below W.heap.size W w) (ho : OW W.heap.size w v l) (hl : l.length + hb.length ≤ 140737488351232) :
    Calls Tryd.prog 75 #[v, ptr g] w fun e w' => LYR W.heap.size w w' e (l ++ hb) := by
  have c39 := (hm.below hW).c39 ok
  obtain ⟨ah, nh, ch, eh, lh, _, _⟩ := id hh
  rw [eh] at c39
  have HH : Hid (RH W m.h hb ∧ m.h = .slice ah nh ch ∧ hb.length = nh * 32 ∧ l.length + hb.length ≤ 140737488351232 ∧ Below W.heap.size W w) := ⟨hh, eh, lh, hl, hW⟩
  have HO : Hid (OW W.heap.size w v l) := ho
  obtain ⟨a, c, rfl⟩ := ho.form
  have hnh : nh * 32 ≤ 140737488351232 := by omega
  clear hm hh eh lh ho hW
  go_enter Tryd.func75, Tryd.ntmps75
  go_wp2
  go_loopw [0, 12] (fun u t wr => ∃ k : Nat, k ≤ nh ∧ t = .int .i64 k ∧ Hid (OW W.heap.size wr u (l ++ hb.take (k * 32)) ∧ Below W.heap.size w wr)) (fun _ t _ => nh - (intOf t).toNat)
  case atStart => exact ⟨0, by omega, rfl, by simpa using HO.out, Below.refl _ _⟩
  case round =>
    obtain ⟨k, hk, rfl, hI⟩ := hrel
    by_cases hlt : k < nh
    · obtain ⟨G, o, rfl, hG, r1, l1⟩ := RH.cut HH.out.1 HH.out.2.1 k hlt
      have hWr : Below W.heap.size W wr := HH.out.2.2.2.2.trans hI.out.2
      have r2 : wr.rangeAt G (o + k * 32) (Lib.byteCells ((hb.drop (k * 32)).take 32)) := fun j y hj => (hWr.cell (p := ⟨G, o + k * 32 + j, none⟩) hG).trans (r1 j y hj)
      have hih : (Tryd.prog.info? 24).map (·.size) = some (Lib.byteCells ((hb.drop (k * 32)).take 32)).length := by rw [bcl_len, l1]; exact info_hash
      have hih2 : (Tryd.prog.info? 24).map (·.size) = some (bc ((hb.drop (k * 32)).take 32)).size := by rw [bc_size, l1]; exact info_hash
      have hone := bc_one ((hb.drop (k * 32)).take 32)
      have hz : z32a.size = (bc ((hb.drop (k * 32)).take 32)).size := by rw [bc_size, l1]; rfl
      have hg0 := heapNew wr (.cells z32a 24)
      have bX : Below wr.heap.size wr ((wr.alloc (.cells z32a 24)).setRow wr.heap.size (bc ((hb.drop (k * 32)).take 32))) := belowSetRow ((Below.refl _ _).alloc (Nat.le_refl _) _) (Nat.le_refl _) _
      have hs := hWr.size
      have HX : Hid (OW W.heap.size ((wr.alloc (.cells z32a 24)).setRow wr.heap.size (bc ((hb.drop (k * 32)).take 32))) u0 (l ++ hb.take (k * 32)) ∧ RB ((wr.alloc (.cells z32a 24)).setRow wr.heap.size (bc ((hb.drop (k * 32)).take 32))) (.slice (some ⟨wr.heap.size, 0, none⟩) 32 32) ((hb.drop (k * 32)).take 32) ∧ W.heap.size ≤ ((wr.alloc (.cells z32a 24)).setRow wr.heap.size (bc ((hb.drop (k * 32)).take 32))).heap.size ∧ (l ++ hb.take (k * 32)).length + ((hb.drop (k * 32)).take 32).length ≤ 140737488351232 ∧ Below W.heap.size w ((wr.alloc (.cells z32a 24)).setRow wr.heap.size (bc ((hb.drop (k * 32)).take 32)))) := by
        refine ⟨hI.out.1.grow bX, ⟨_, 32, by rw [l1], by rw [l1]; exact Nat.le_refl _, .inr ⟨wr.heap.size, 0, rfl, by simp [World.setRow], fun i hi => ?_⟩⟩, by simp [World.setRow]; omega, ?_, hI.out.2.trans (bX.mono hs)⟩
        · rw [Nat.zero_add]; exact cell_bc (heapSetRow _ _ _ _ _ hg0) i hi
        · rw [l1, List.length_append, List.length_take]
          have h1 := HH.out.2.2.1
          have h2 := HH.out.2.2.2.1
          omega
      have HT : Hid (hb.take ((k + 1) * 32) = hb.take (k * 32) ++ (hb.drop (k * 32)).take 32) := take_hash hb k
      obtain ⟨ua, uc, rfl⟩ := hI.out.1.form
      clear hI r1 bX hs hWr
      generalize (hb.drop (k * 32)).take 32 = h32 at *
      generalize hL : l ++ hb.take (k * 32) = L at *
      have HL : Hid (l ++ hb.take (k * 32) = L) := hL
      clear hL
      go_wp2_with (first | (refine wpList_load_mid rfl 24 _ rfl G (o + k * 32) rfl _ _ r2 Tryd.underlying24 rfl hih ?_) | (refine wpList_store_row rfl 24 _ _ rfl wr.heap.size (bc h32) rfl rfl 24 z32a hg0 hih2 hz hone ?_) | (at_builtin; refine append_bytes rfl _ _ rfl rfl HX.out.1 rfl HX.out.2.1 HX.out.2.2.1 HX.out.2.2.2.1 ?_; intro v' w1 hown' hb1))
      refine ⟨⟨k + 1, by omega, by go_num, ?_, HX.out.2.2.2.2.trans hb1⟩, by simp [intOf]; omega⟩
      rw [HT.out, ← List.append_assoc, HL.out]
      exact hown'
    · have HE : Hid (OW W.heap.size wr u0 (l ++ hb) ∧ Below W.heap.size w wr) := by
        have h1 := hI.out.1
        rw [List.take_of_length_le (by have := HH.out.2.2.1; omega)] at h1
        exact ⟨h1, hI.out.2⟩
      go_wp2
      go_ret
      exact ⟨_, rfl, HE.out⟩
/-- what a call that lays field c down does -/
def LYC (w : World) (c f : Nat) (caps : Array Value) : Prop := ∀ (W : World) (g : Nat) (m : Mv) (D hb : List UInt8) (v : Value) (l : List UInt8), MB W g m → MM W m D hb → lk c m = true → Below W.heap.size W w → OW W.heap.size w v l → l.length ≤ 100000000 → D.length ≤ 1000000 → hb.length ≤ 1000000 → Calls Tryd.prog f (#[v, ptr g] ++ caps) w fun e w' => LYR W.heap.size w w' e (l ++ lay c m D hb)
theorem rng_of {lo hi x : Int} (h : rng lo hi x = true) : lo ≤ x ∧ x ≤ hi := of_decide_eq_true h
theorem FLD.lay {w : World} {c : Nat} {v0 v1 v2 v3 v4 : Value} (h : FLD w c [v0, v1, v2, v3, v4]) : ∃ f caps, v1 = clo f caps ∧ EN f ∧ LYC w c f caps := by
  unfold FLD at h
  split at h
  · cases h
    refine ⟨_, _, rfl, en_k2, fun W g m D hb v l hm hM hk hW ho hl hD hH => ?_⟩
    exact k2T w g W.heap.size m v l (hm.below hW) ho hW.size hl
  · cases h
    refine ⟨_, _, rfl, en_o2, fun W g m D hb v l hm hM hk hW ho hl hD hH => ?_⟩
    exact o2T w g W.heap.size m v l (hm.below hW) ho hW.size hl
  · obtain ⟨p, q, s, e, hp, hq, hs⟩ := h.cells
    cases e
    refine ⟨_, _, rfl, en_n2, fun W g m D hb v l hm hM hk hW ho hl hD hH => ?_⟩
    exact n2T w g p 34 1 W.heap.size m.i v l hp en_of1 of1C ((hm.below hW).c1) (by have h := rng_of hk; exact h) ho hW.size hl
  · obtain ⟨p, q, s, e, hp, hq, hs⟩ := h.cells
    cases e
    refine ⟨_, _, rfl, en_n2, fun W g m D hb v l hm hM hk hW ho hl hD hH => ?_⟩
    exact n2T w g p 35 2 W.heap.size m.b v l hp en_of2 of2C ((hm.below hW).c2) (by have h := rng_of hk; exact h) ho hW.size hl
  · obtain ⟨p, q, s, e, hp, hq, hs⟩ := h.cells
    cases e
    refine ⟨_, _, rfl, en_n2, fun W g m D hb v l hm hM hk hW ho hl hD hH => ?_⟩
    exact n2T w g p 36 3 W.heap.size m.l v l hp en_of3 of3C ((hm.below hW).c3) (by have h := rng_of hk; exact h) ho hW.size hl
  · obtain ⟨p, q, s, e, hp, hq, hs⟩ := h.cells
    cases e
    refine ⟨_, _, rfl, en_n2, fun W g m D hb v l hm hM hk hW ho hl hD hH => ?_⟩
    exact n2T w g p 37 3 W.heap.size m.l v l hp en_of4 of4C ((hm.below hW).c3) (by have h := rng_of hk; omega) ho hW.size hl
  · cases h
    refine ⟨_, _, rfl, en_r2, fun W g m D hb v l hm hM hk hW ho hl hD hH => ?_⟩
    exact r2T w g W.heap.size m hM.ok v l (hm.below hW) ho hW.size hl
  · obtain ⟨p, q, s, e, hp, hq, hs⟩ := h.cells
    cases e
    refine ⟨_, _, rfl, en_n2, fun W g m D hb v l hm hM hk hW ho hl hD hH => ?_⟩
    exact n2T w g p 39 37 W.heap.size m.ba v l hp en_of5 of5C ((hm.below hW).c37 hM.ok) (by have h := rng_of hk; exact h) ho hW.size hl
  · obtain ⟨p, q, s, e, hp, hq, hs⟩ := h.cells
    cases e
    refine ⟨_, _, rfl, en_n2, fun W g m D hb v l hm hM hk hW ho hl hD hH => ?_⟩
    exact n2T w g p 40 38 W.heap.size m.pr v l hp en_of6 of6C ((hm.below hW).c38 hM.ok) (by have h := rng_of hk; exact h) ho hW.size hl
  · cases h
    refine ⟨_, _, rfl, en_d2, fun W g m D hb v l hm hM hk hW ho hl hD hH => ?_⟩
    exact d2T w g W.heap.size m v l D (hm.below hW) (hM.d.keep hW) ho hW.size (by omega)
  · cases h
    refine ⟨_, _, rfl, en_layHashes, fun W g m D hb v l hm hM hk hW ho hl hD hH => ?_⟩
    exact layHashesT W w g m hM.ok v l hb hm hM.h hW ho (by omega)
  · exact absurd h id
end Go.Proofs.YtpembmfpgolniaaDoor
