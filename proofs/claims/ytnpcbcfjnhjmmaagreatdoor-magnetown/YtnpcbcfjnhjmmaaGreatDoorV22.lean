import Derived.Test.YtnpcbcfjnhjmmaaGreatDoorV21
namespace Go.Proofs.YtnpcbcfjnhjmmaaGreatDoor
open Go.Shelf Go.RowKit Go.Deep
attribute [local go_sem] Oper.semAt_some
/-- the blocks that a reading keeps -/
def KQ (H g : Nat) (k : Nat) : Prop := k = H ∨ k = H + 1 ∨ k = H + 1 + 1 ∨ k = g ∨ k = g + 1
theorem LO.gr {B : Nat} {W W' : World} {row : Option Nat} {p : Ps} {tr pe on mo : Value} (h : LO B W p tr pe on mo) (hg : W.grownBy W' row) (hr : ∀ r, row = some r → ∃ o : Obj, W.heap[r]? = some o ∧ o.isCells = false) : LO B W' p tr pe on mo :=
  ⟨own_gr h.o1 hg hr, own_gr h.o2 hg hr, own_gr h.o3 hg hr, own_gr h.o4 hg hr, h.d1, h.d2, h.d3, h.d4, h.d5, h.d6⟩
theorem RDg.gr {K : Nat → Prop} {B b : Nat} {w W W' : World} {row : Option Nat} {p : Ps} {t2 p2 o2 m2 : Value} {ah : Nat} (h : RDg K B b w W p t2 p2 o2 m2 ah) (hB : B ≤ w.heap.size) (hg : W.grownBy W' row) (hr : ∀ r, row = some r → w.heap.size ≤ r ∧ ∃ o : Obj, W.heap[r]? = some o ∧ o.isCells = false) : RDg K B b w W' p t2 p2 o2 m2 ah := by
  obtain ⟨h1, h2, h3, h4, h5, h6, h7⟩ := h
  have hr' : ∀ r, row = some r → ∃ o : Obj, W.heap[r]? = some o ∧ o.isCells = false := fun r e => (hr r e).2
  have hs := h1.size
  refine ⟨h1.grown hg (by omega) (fun k e => by have := (hr k e).1; omega), (cells_gr h2 hg hr').trans h2, h3.gr hg hr', h4, h5, h6, fun g hk => ?_⟩
  obtain ⟨k1, k2, k3, k4⟩ := h7 g hk
  exact ⟨k1, k2, (hg.block g (by omega) (fun e => by have := (hr g e.symm).1; omega)).trans k3, k4⟩
/-- the largest set of blocks that a round keeps -/
def KM (b : Nat) (W : World) (t2 p2 o2 m2 : Value) (k : Nat) : Prop := k ≠ b ∧ k < W.heap.size ∧ NoB k t2 p2 o2 m2
theorem RDg.rebase {K : Nat → Prop} {B b : Nat} {w W : World} {p : Ps} {t2 p2 o2 m2 : Value} {ah : Nat} (h : RDg K B b w W p t2 p2 o2 m2 ah) : RDg (KM b W t2 p2 o2 m2) B b W W p t2 p2 o2 m2 ah :=
  ⟨Below.refl _ _, h.2.1, h.2.2.1, h.2.2.2.1, h.2.2.2.2.1, h.2.2.2.2.2.1, fun _ hg => ⟨hg.1, hg.2.1, rfl, hg.2.2⟩⟩
theorem RDg.back {K : Nat → Prop} {B b : Nat} {w W W' : World} {p p' : Ps} {t2 p2 o2 m2 t3 p3 o3 m3 : Value} {ah ah' : Nat} (h : RDg K B b w W p t2 p2 o2 m2 ah) (h' : RDg (KM b W t2 p2 o2 m2) B b W W' p' t3 p3 o3 m3 ah') : RDg K B b w W' p' t3 p3 o3 m3 ah' :=
  ⟨h.1.trans h'.1, h'.2.1, h'.2.2.1, h'.2.2.2.1, h'.2.2.2.2.1, h'.2.2.2.2.2.1, fun g hg => by
    obtain ⟨k1, k2, k3, k4⟩ := h.2.2.2.2.2.2 g hg
    have hs := h.1.size
    obtain ⟨m1, m2', m3', m4⟩ := h'.2.2.2.2.2.2 g ⟨k1, by omega, k4⟩
    exact ⟨k1, k2, m3'.trans k3, m4⟩⟩
theorem RDg.keeps {K : Nat → Prop} {B b : Nat} {w W W' : World} {p p' : Ps} {t2 p2 o2 m2 t3 p3 o3 m3 : Value} {ah ah' : Nat} (h : RDg K B b w W p t2 p2 o2 m2 ah) (h' : RDg (KM b W t2 p2 o2 m2) B b W W' p' t3 p3 o3 m3 ah') : KeepsOthers W W' := by
  refine ⟨h'.1.size, fun k o hk ho => ?_⟩
  have hcell : ∀ {e sz n : Nat} {v : Value} {xs : List Value}, W.ownsRow B e sz v n xs → v.ownBlock ≠ some k := fun {e sz n v xs} hr e' => by
    rcases hr.2 with ⟨rfl, _⟩ | ⟨g', cap, cur, rfl, _, h3, _⟩
    · simp [Value.ownBlock] at e'
    · obtain rfl : g' = k := by simpa [Value.ownBlock] using e'
      rw [h3] at hk; cases hk; cases ho
  have hb : k ≠ b := fun e => by
    subst e
    have h9 : W.heap[k]? = some (.cells _ 62 (0, 0)) := h.2.1
    rw [h9] at hk; cases hk; cases ho
  exact ((h'.2.2.2.2.2.2 k ⟨hb, (Array.getElem?_eq_some_iff.1 hk).1, hcell h.2.2.1.o1, hcell h.2.2.1.o2, hcell h.2.2.1.o3, hcell h.2.2.1.o4⟩).2.2.1).trans hk
theorem LR.range {w : World} {b : Nat} {l : List UInt8} {nm : ByteArray} {tr pe on mo : Value} {ah : Nat} (h : LR w b l nm tr pe on mo ah) : w.rangeAt b 0 (Lib.byteCells l ++ [.string nm, tr, pe, on, mo]) := fun j v hj => by
  have h0 : w.heap[b]? = some (.cells (rdC l nm tr pe on mo ah) 62 (0, 0)) := h
  rw [Nat.zero_add]
  simp only [World.cell?, h0]
  unfold rdC
  simp only [List.getElem?_toArray]
  have hj2 : j < (Lib.byteCells l ++ [.string nm, tr, pe, on, mo]).length := (List.getElem?_eq_some_iff.1 hj).1
  have e : (Lib.byteCells l ++ [.string nm, tr, pe, on, mo, .int .i64 (ah : Int)]) = (Lib.byteCells l ++ [.string nm, tr, pe, on, mo]) ++ [.int .i64 (ah : Int)] := by simp
  rw [e, List.getElem?_append_left hj2]
  simpa using hj
theorem KeepsOthers.setRow {W : World} {g : Nat} {cs : Array Value} {t : TypeId} {f : Nat × Nat} (h : W.heap[g]? = some (.cells cs t f)) (ds : Array Value) : KeepsOthers W (W.setRow g ds) :=
  ⟨by simp, fun k o hk ho => by
    rw [setRow_other _ _ _ _ (fun e => by subst e; rw [h] at hk; cases hk; cases ho)]; exact hk⟩
theorem PAn.put {H : Nat} {w wr : World} (h : PAn H w wr) (cs : Array Value) (v1 v2 : Value) : Boxed (wr.setRow H cs) (H + 1) 3 (.int .i64 0) ∧ Boxed ((wr.setRow H cs).setCell ⟨H + 1, 0, none⟩ v1) (H + 1 + 1) 31 (.int .i64 0) ∧ (((wr.setRow H cs).setCell ⟨H + 1, 0, none⟩ v1).setCell ⟨H + 1 + 1, 0, none⟩ v2).heap[H]? = some (.cells cs 28 (0, 0)) ∧ Boxed (((wr.setRow H cs).setCell ⟨H + 1, 0, none⟩ v1).setCell ⟨H + 1 + 1, 0, none⟩ v2) (H + 1) 3 v1 ∧ Boxed (((wr.setRow H cs).setCell ⟨H + 1, 0, none⟩ v1).setCell ⟨H + 1 + 1, 0, none⟩ v2) (H + 1 + 1) 31 v2 ∧ Below H w (((wr.setRow H cs).setCell ⟨H + 1, 0, none⟩ v1).setCell ⟨H + 1 + 1, 0, none⟩ v2) ∧ ∀ k, k ≠ H → k ≠ H + 1 → k ≠ H + 1 + 1 → (((wr.setRow H cs).setCell ⟨H + 1, 0, none⟩ v1).setCell ⟨H + 1 + 1, 0, none⟩ v2).heap[k]? = wr.heap[k]? := by
  obtain ⟨h1, h2, h3, h4⟩ := h
  have a1 : Boxed (wr.setRow H cs) (H + 1) 3 (.int .i64 0) := (setRow_other _ _ _ _ (by omega)).trans h3
  have a2 : Boxed (wr.setRow H cs) (H + 1 + 1) 31 (.int .i64 0) := (setRow_other _ _ _ _ (by omega)).trans h4
  have a0 : (wr.setRow H cs).heap[H]? = some (.cells cs 28 (0, 0)) := setRow_heap wr H _ _ _ _ h2
  refine ⟨a1, a2.other (by omega) _, ?_, (a1.set _).other (by omega) _, (a2.other (by omega) _).set _, ((below_setRow h1 (Nat.le_refl _) _).setCell (p := ⟨H + 1, 0, none⟩) (Nat.le_succ _) _).setCell (p := ⟨H + 1 + 1, 0, none⟩) (by show H ≤ H + 1 + 1; omega) _, fun k n1 n2 n3 => ?_⟩
  · rw [Below.heap_setCell _ _ _ _ (by show H ≠ H + 1 + 1; omega), Below.heap_setCell _ _ _ _ (by show H ≠ H + 1; omega)]
    exact a0
  · rw [Below.heap_setCell _ _ _ _ (by show k ≠ H + 1 + 1; exact n3), Below.heap_setCell _ _ _ _ (by show k ≠ H + 1; exact n2), setRow_other _ _ _ _ n1]
theorem RDg.pan {H g b : Nat} {w w2 W : World} {p : Ps} {t2 p2 o2 m2 : Value} {ah : Nat} (h : RDg (KQ H g) H b w2 W p t2 p2 o2 m2 ah) (hs : LB w2 H (List.replicate 32 (0 : UInt8)) ⟨#[]⟩ (.slice none 0 0) (.slice none 0 0) (.slice none 0 0) (.slice none 0 0) ∧ Boxed w2 (H + 1) 3 (.int .i64 0) ∧ Boxed w2 (H + 1 + 1) 31 (.int .i64 0) ∧ Below H w w2) : PAn H w W :=
  ⟨hs.2.2.2.trans h.1, (h.2.2.2.2.2.2 H (.inl rfl)).2.2.1.trans hs.1, (h.2.2.2.2.2.2 (H + 1) (.inr (.inl rfl))).2.2.1.trans hs.2.1, (h.2.2.2.2.2.2 (H + 1 + 1) (.inr (.inr (.inl rfl)))).2.2.1.trans hs.2.2.1⟩
set_option maxRecDepth 100000 in
set_option maxHeartbeats 4000000 in
theorem parse_yes (s : ByteArray) (w : World) (hs : s.size ≤ 4096) (hpf : Lib.hasPrefix s.data.toList [109, 97, 103, 110, 101, 116, 58, 63] = true) (hT : TG w) (hBT : BT w) :
    Calls Tryz.prog 6 #[.string s] w fun e w' => RP w.heap.size w (pgM s) e w' := by
  refine (callsIn_wide (n := 6)).1 ?_
  have P0 := Lib.hid (pa_new w)
  have h8 : 8 ≤ s.size := by
    have h9 := hp_len hpf
    have h7 : s.data.toList.length = s.size := by simp
    rw [h7] at h9
    exact h9
  have hts : (s.extract 8 s.size).size = s.size - 8 := by rw [ByteArray.size_extract]; omega
  have HC : Hid (∀ u, Calls Tryz.prog 21 #[.string s, .string { data := #[109, 97, 103, 110, 101, 116, 58, 63] }] u fun e w' => e = .returned (.tuple #[.string (s.extract 8 s.size), .bool true]) ∧ w' = u) := fun u => by
    have h9 := cutPrefix7 s { data := #[109, 97, 103, 110, 101, 116, 58, 63] } u
    have e1 : cpB s { data := #[109, 97, 103, 110, 101, 116, 58, 63] } = s.extract 8 s.size := by unfold cpB; exact if_pos hpf
    have e2 : Lib.hasPrefix s.data.toList (ByteArray.data { data := #[109, 97, 103, 110, 101, 116, 58, 63] }).toList = true := hpf
    rw [e1, e2] at h9
    exact h9
  have HT : Hid (∀ u, Below w.heap.size w u → TG u ∧ BT u) := fun u hu => ⟨hT.below hu, hBT.keep hu⟩
  have HQ : Hid (pgM s = match (prS (pieces (s.extract 8 s.size) 38)).2.2 with | some q => (zP, q.1, q.2) | none => ((prS (pieces (s.extract 8 s.size) 38)).1, 0, 0)) := rfl
  generalize pgM s = q at *
  generalize s.extract 8 s.size = tx at *
  have htx : tx.size ≤ 4088 := by omega
  have hd : decide ((4096 : Int) < (s.size : Int)) = false := decide_eq_false (by omega)
  clear hpf hT hBT
  refine callsIn_of_wp_marks Tryz.func6 rfl trivial ?_ rfl
  simp only [Tryz.ntmps6, List.size_toArray, List.length_cons, List.length_nil, Nat.reduceAdd, Nat.reduceSub, Array.replicate_succ, Array.replicate_zero, List.push_toArray, List.append_toArray, List.nil_append, List.cons_append]
  gi_wp2
  refine ⟨trivial, ?_⟩
  generalize (((w.alloc (Obj.cells #[.int .u8 0, .int .u8 0, .int .u8 0, .int .u8 0, .int .u8 0, .int .u8 0, .int .u8 0, .int .u8 0, .int .u8 0, .int .u8 0, .int .u8 0, .int .u8 0, .int .u8 0, .int .u8 0, .int .u8 0, .int .u8 0, .int .u8 0, .int .u8 0, .int .u8 0, .int .u8 0, .int .u8 0, .int .u8 0, .int .u8 0, .int .u8 0, .int .u8 0, .int .u8 0, .int .u8 0, .int .u8 0, .int .u8 0, .int .u8 0, .int .u8 0, .int .u8 0, .string { data := #[] }, .slice none 0 0, .slice none 0 0, .slice none 0 0, .slice none 0 0] 28)).alloc (Obj.cells #[.int .i64 0] 3)).alloc (Obj.cells #[.int .i64 0] 31)) = w0 at *
  obtain ⟨H, hH⟩ : ∃ H, w.heap.size = H := ⟨_, rfl⟩
  rw [hH] at P0 HT ⊢
  have HH : Hid (w.heap.size = H) := hH
  clear hH
  refine (callsIn_wide.2 (HC.out w0)).mono ?_
  rintro e w1 ⟨rfl, rfl⟩
  clear HC
  have JR : Hid (LR (w1.alloc (Obj.cells #[.int .u8 0, .int .u8 0, .int .u8 0, .int .u8 0, .int .u8 0, .int .u8 0, .int .u8 0, .int .u8 0, .int .u8 0, .int .u8 0, .int .u8 0, .int .u8 0, .int .u8 0, .int .u8 0, .int .u8 0, .int .u8 0, .int .u8 0, .int .u8 0, .int .u8 0, .int .u8 0, .int .u8 0, .int .u8 0, .int .u8 0, .int .u8 0, .int .u8 0, .int .u8 0, .int .u8 0, .int .u8 0, .int .u8 0, .int .u8 0, .int .u8 0, .int .u8 0, .string { data := #[] }, .slice none 0 0, .slice none 0 0, .slice none 0 0, .slice none 0 0, .int .i64 0] 62)) w1.heap.size (List.replicate 32 (0 : UInt8)) ⟨#[]⟩ (.slice none 0 0) (.slice none 0 0) (.slice none 0 0) (.slice none 0 0) 0) := heap_new _ _
  have ba : Below w1.heap.size w1 (w1.alloc (Obj.cells #[.int .u8 0, .int .u8 0, .int .u8 0, .int .u8 0, .int .u8 0, .int .u8 0, .int .u8 0, .int .u8 0, .int .u8 0, .int .u8 0, .int .u8 0, .int .u8 0, .int .u8 0, .int .u8 0, .int .u8 0, .int .u8 0, .int .u8 0, .int .u8 0, .int .u8 0, .int .u8 0, .int .u8 0, .int .u8 0, .int .u8 0, .int .u8 0, .int .u8 0, .int .u8 0, .int .u8 0, .int .u8 0, .int .u8 0, .int .u8 0, .int .u8 0, .int .u8 0, .string { data := #[] }, .slice none 0 0, .slice none 0 0, .slice none 0 0, .slice none 0 0, .int .i64 0] 62)) := (Below.refl _ _).alloc (Nat.le_refl _) _
  have BA := Lib.hid ba
  clear ba
  gi_wp2
  refine ⟨trivial, ?_⟩
  generalize hwB : w1.alloc (Obj.cells #[.int .u8 0, .int .u8 0, .int .u8 0, .int .u8 0, .int .u8 0, .int .u8 0, .int .u8 0, .int .u8 0, .int .u8 0, .int .u8 0, .int .u8 0, .int .u8 0, .int .u8 0, .int .u8 0, .int .u8 0, .int .u8 0, .int .u8 0, .int .u8 0, .int .u8 0, .int .u8 0, .int .u8 0, .int .u8 0, .int .u8 0, .int .u8 0, .int .u8 0, .int .u8 0, .int .u8 0, .int .u8 0, .int .u8 0, .int .u8 0, .int .u8 0, .int .u8 0, .string { data := #[] }, .slice none 0 0, .slice none 0 0, .slice none 0 0, .slice none 0 0, .int .i64 0] 62) = wB at *
  obtain ⟨p1, p2, p3, p4⟩ := P0.out
  have hs1 : H + 1 + 1 < w1.heap.size := p4.lt
  have hsB : wB.heap.size = w1.heap.size + 1 := by rw [← hwB]; simp
  have r2 : LB wB H (List.replicate 32 (0 : UInt8)) ⟨#[]⟩ (.slice none 0 0) (.slice none 0 0) (.slice none 0 0) (.slice none 0 0) := p2.keep (BA.out.block H (by omega))
  have r3 : Boxed wB (H + 1) 3 (.int .i64 0) := (BA.out.block (H + 1) (by omega)).trans p3
  have r4 : Boxed wB (H + 1 + 1) 31 (.int .i64 0) := (BA.out.block (H + 1 + 1) (by omega)).trans p4
  have r1 : Below H w wB := p1.trans (BA.out.mono (by omega))
  obtain ⟨b, hb⟩ : ∃ b, w1.heap.size = b := ⟨_, rfl⟩
  rw [hb] at JR hsB hs1 ⊢
  clear p1 p2 p3 p4 P0 BA hwB hb
  refine (callsIn_wide.2 (parts8 tx 38 wB)).mono ?_
  rintro e w2 ⟨r, rfl, ⟨g, rfl, hg1, hg2, hc1, hc2⟩, hb2⟩
  have k1 : Below H w w2 := r1.trans (hb2.mono (by omega))
  have k2 : LB w2 H (List.replicate 32 (0 : UInt8)) ⟨#[]⟩ (.slice none 0 0) (.slice none 0 0) (.slice none 0 0) (.slice none 0 0) := r2.keep (hb2.block H (by omega))
  have k3 : Boxed w2 (H + 1) 3 (.int .i64 0) := (hb2.block (H + 1) (by omega)).trans r3
  have k4 : Boxed w2 (H + 1 + 1) 31 (.int .i64 0) := (hb2.block (H + 1 + 1) (by omega)).trans r4
  have k5 : LR w2 b (List.replicate 32 (0 : UInt8)) ⟨#[]⟩ (.slice none 0 0) (.slice none 0 0) (.slice none 0 0) (.slice none 0 0) 0 := JR.out.keep (hb2.block b (by omega))
  have hsz : H ≤ w2.heap.size := by omega
  have HS2 : Hid (LB w2 H (List.replicate 32 (0 : UInt8)) ⟨#[]⟩ (.slice none 0 0) (.slice none 0 0) (.slice none 0 0) (.slice none 0 0) ∧ Boxed w2 (H + 1) 3 (.int .i64 0) ∧ Boxed w2 (H + 1 + 1) 31 (.int .i64 0) ∧ Below H w w2) := ⟨k2, k3, k4, k1⟩
  have J0 : RDg (KQ H g) H b w2 w2 zP (.slice none 0 0) (.slice none 0 0) (.slice none 0 0) (.slice none 0 0) 0 := ⟨Below.refl _ _, k5, LO.nil _ _ _, by simp [NoB, Value.ownBlock], by omega, by simp [zP], fun k hk => ⟨by unfold KQ at hk; omega, by unfold KQ at hk; omega, rfl, by simp [NoB, Value.ownBlock]⟩⟩
  clear r1 r2 r3 r4 k2 k3 k4 k5 JR hb2 k1
  gi_wp2
  refine wpIn_rangeFunc_ownF rfl (by omega) (gf := 35) (lb := #[.pointer (some ⟨g, 0, none⟩), .pointer (some ⟨g + 1, 0, none⟩)]) rfl trivial (enters_of Tryz.func35 (by kernel_rfl) rfl)
    (iter15_stops 5 (by omega) g tx 38 (by omega) 4096 (by omega) w2 hg2 hc1 hc2) KP.trans (KP.put hg2) (Below.refl _ _) (fun _ => rfl)
    (fun pre W => (prS pre).2.2 = none ∧ ∃ t2 p2 o2 m2, RDg (KQ H g) H b w2 W (prS pre).1 t2 p2 o2 m2 (prS pre).2.1)
    (fun c pre W => c = .ret ∧ ∃ x, (prS pre).2.2 = some x ∧ LB W H (List.replicate 32 (0 : UInt8)) ⟨#[]⟩ (.slice none 0 0) (.slice none 0 0) (.slice none 0 0) (.slice none 0 0) ∧ Boxed W (H + 1) 3 (.int .i64 x.1) ∧ Boxed W (H + 1 + 1) 31 (.int .i64 x.2) ∧ Below H w W)
    (fun pre X Y row hs hg hr => by
      obtain ⟨h1, t2, p2, o2, m2, h2⟩ := hs
      exact ⟨h1, t2, p2, o2, m2, h2.gr hsz hg hr⟩)
    (fun c pre X Y row hs hg hr => by
      obtain ⟨h0, x, h1, h2, h3, h4, h5⟩ := hs
      have hr' : ∀ r, row = some r → ∃ o : Obj, X.heap[r]? = some o ∧ o.isCells = false := fun r e => (hr r e).2
      exact ⟨h0, x, h1, (cells_gr h2 hg hr').trans h2, boxed_gr h3 hg hr', boxed_gr h4 hg hr', h5.grown hg (by have := h5.size; rw [HH.out] at this; exact this) (fun k e => by have := (hr k e).1; omega)⟩)
    ⟨rfl, _, _, _, _, J0⟩
    (fun x => { tmps := #[.string s, undef, .pointer (some ⟨H, 0, none⟩), .pointer (some ⟨H + 1, 0, none⟩), .pointer (some ⟨H + 1 + 1, 0, none⟩), .string tx, .bool true, .pointer (some ⟨b, 0, none⟩), .int .i64 (x.1.1 : Int), .string x.1.2, undef, undef, .string s, .int .i64 (s.size : Int), .bool false, undef, .tuple #[.string tx, .bool true], .string s, .tuple #[.string tx, .bool true], .string tx, .bool true, .bool true, .bool false, undef, .string tx, .func (.func 35) #[] #[.pointer (some ⟨g, 0, none⟩), .pointer (some ⟨g + 1, 0, none⟩)], .int .i64 (x.1.1 : Int), .string x.1.2, undef, undef, undef, undef, undef, undef, undef, undef, undef, undef, undef, undef, undef, undef, undef], defers := [] }) ?assign ?body ?done ?stop
  case assign =>
    intro lp x W K hK
    gi_wp2
    exact hK
  case body =>
    rintro lp pre x W ⟨hno, t2, p2, o2, m2, J⟩ hlt
    have hln := prS_len pre.length pre rfl
    have hPx := x.2
    have HTK := Lib.hid (take3 (KM b W t2 p2 o2 m2) H b (prS pre).1 t2 p2 o2 m2 (prS pre).2.1 x.1.2 W W J.rebase hPx.2 ⟨by omega, by omega, by omega⟩ hln.2 (fun u hu => HT.out u ((HS2.out.2.2.2.trans J.1).trans hu)) (by have := J.1.size; omega))
    have hat := tkR_at (prS pre).1 (prS pre).2.1 x.1.2 hPx.2
    have HN := Lib.hid ((prS_snoc pre x).trans (stQ_no _ hno x))
    have HJ := Lib.hid J
    clear J hno hln
    generalize prS pre = st at *
    generalize tkR st.1 st.2.1 x.1.2 = tq at *
    obtain ⟨tp, ta, tat, te⟩ := tq
    simp only at hat
    by_cases hte : te = 0
    · subst hte
      gi_wp2_with (refine ⟨trivial, ?_⟩; gi_at_call 23; refine (CallsIn.inRound lp (callsIn_wide.2 HTK.out)).mono ?_; clear HTK; rintro e w3 ⟨rfl, t3, p3, o3, m3, J3⟩)
      refine ⟨HJ.out.keeps J3, ⟨J3.1.size, fun k hk hkl => ?_⟩, by rw [HN.out]; rfl, t3, p3, o3, m3, by rw [HN.out]; exact HJ.out.back J3⟩
      have h7 := HJ.out.2.2.2.2.2.2 k (by unfold KQ; omega)
      exact (J3.2.2.2.2.2.2 k ⟨h7.1, hkl, h7.2.2.2⟩).2.2.1
    · have hw1 : IntKind.i64.wrap (8 + (x.1.1 : Int)) = 8 + (x.1.1 : Int) := by simp [IntKind.wrap, IntKind.bits, IntKind.signed]; omega
      have hw2 : IntKind.i64.wrap (8 + (x.1.1 : Int) + tat) = 8 + (x.1.1 : Int) + tat := by simp [IntKind.wrap, IntKind.bits, IntKind.signed]; omega
      gi_wp2_with (first
        | (refine ⟨trivial, ?_⟩; gi_at_call 23; refine (CallsIn.inRound lp (callsIn_wide.2 HTK.out)).mono ?_; clear HTK; rintro e w3 ⟨rfl, t3, p3, o3, m3, J3⟩; (
            have hP := (HJ.out.back J3).pan HS2.out
            have hF := hP.put (lkC (List.replicate 32 (0 : UInt8)) ⟨#[]⟩ (.slice none 0 0) (.slice none 0 0) (.slice none 0 0) (.slice none 0 0)) (.int .i64 (8 + (x.1.1 : Int) + tat)) (.int .i64 te)
            have hZer := hP.2.1
            obtain ⟨W9, hW9⟩ : ∃ W9, w3.setRow H (lkC (List.replicate 32 (0 : UInt8)) ⟨#[]⟩ (.slice none 0 0) (.slice none 0 0) (.slice none 0 0) (.slice none 0 0)) = W9 := ⟨_, rfl⟩
            rw [hW9] at hF
            have c1 := hF.1.cell
            have f1 := hF.1.frozen
            have c2 := hF.2.1.cell
            have f2 := hF.2.1.frozen))
        | (refine wpListIn_store_row rfl 28 _ _ rfl H (lkC (List.replicate 32 (0 : UInt8)) ⟨#[]⟩ (.slice none 0 0) (.slice none 0 0) (.slice none 0 0) (.slice none 0 0)) rfl rfl 28 _ hZer (infoLk (by simp)) rfl lkC_one ?_; rw [hW9]; clear hZer))
      refine ⟨?_, rfl, (8 + (x.1.1 : Int) + tat, te), by rw [HN.out]; exact if_neg hte, hF.2.2.1, hF.2.2.2.1, hF.2.2.2.2.1, hF.2.2.2.2.2.1⟩
      refine (HJ.out.keeps J3).trans ?_
      rw [← hW9]
      exact ((KeepsOthers.setRow hP.2.1 _).trans (KeepsOthers.setCell _ _ _)).trans (KeepsOthers.setCell _ _ _)
  case done =>
    rintro D ys W hD rfl ⟨hno, t2, p2, o2, m2, J⟩ hK
    have HE : Hid (q = ((prS (pieces tx 38)).1, 0, 0)) := by rw [HQ.out, hno]; rfl
    have hP := J.pan HS2.out
    generalize prS (pieces tx 38) = st at *
    obtain ⟨pp, pa, po⟩ := st
    simp only at J HE
    obtain ⟨ta, tc, rfl⟩ := ownForm J.2.2.1.o1
    obtain ⟨pa', pc, rfl⟩ := ownForm J.2.2.1.o2
    obtain ⟨oa, oc, rfl⟩ := ownForm J.2.2.1.o3
    obtain ⟨ma, mc, rfl⟩ := ownForm J.2.2.1.o4
    have hRg := J.2.1.range
    have hZer := hP.2.1
    have hF := hP.put (lkC pp.h pp.nm (.slice ta pp.ts.length tc) (.slice pa' pp.ps.length pc) (.slice oa pp.rs.length oc) (.slice ma pp.mo.length mc)) (.int .i64 0) (.int .i64 0)
    obtain ⟨W9, hW9⟩ : ∃ W9, W.setRow H (lkC pp.h pp.nm (.slice ta pp.ts.length tc) (.slice pa' pp.ps.length pc) (.slice oa pp.rs.length oc) (.slice ma pp.mo.length mc)) = W9 := ⟨_, rfl⟩
    rw [hW9] at hF
    have c1 := hF.1.cell
    have f1 := hF.1.frozen
    have c2 := hF.2.1.cell
    have f2 := hF.2.1.frozen
    have hh32 := J.2.2.2.2.2.1
    have hiL := infoLk (nm := pp.nm) (tr := .slice ta pp.ts.length tc) (pe := .slice pa' pp.ps.length pc) (on := .slice oa pp.rs.length oc) (mo := .slice ma pp.mo.length mc) hh32
    have HJ := Lib.hid J
    clear HQ hno J
    gi_wp2_with (first
      | (refine wpListIn_load_mid rfl 28 _ rfl b 0 rfl (Lib.byteCells pp.h ++ [.string pp.nm, .slice ta pp.ts.length tc, .slice pa' pp.ps.length pc, .slice oa pp.rs.length oc, .slice ma pp.mo.length mc]) _ hRg Tryz.underlying28 rfl (by simpa [lkC] using hiL) ?_)
      | (refine wpListIn_store_row rfl 28 _ _ rfl H (lkC pp.h pp.nm (.slice ta pp.ts.length tc) (.slice pa' pp.ps.length pc) (.slice oa pp.rs.length oc) (.slice ma pp.mo.length mc)) rfl rfl 28 _ hZer hiL (by rw [lkC_size hh32, lkC_size (by simp)]) lkC_one ?_; rw [hW9]; clear hZer))
    rw [← hW9] at hF ⊢
    have hlo := HJ.out.2.2.1.keep (fun k hn => hF.2.2.2.2.2.2 k (fun e => hn (e ▸ (HJ.out.2.2.2.2.2.2 H (.inl rfl)).2.2.2)) (fun e => hn (e ▸ (HJ.out.2.2.2.2.2.2 (H + 1) (.inr (.inl rfl))).2.2.2)) (fun e => hn (e ▸ (HJ.out.2.2.2.2.2.2 (H + 1 + 1) (.inr (.inr (.inl rfl)))).2.2.2)))
    have hK' := (hF.2.2.2.2.2.2 D (by omega) (by omega) (by omega)).trans hK
    generalize ((W.setRow H (lkC pp.h pp.nm (.slice ta pp.ts.length tc) (.slice pa' pp.ps.length pc) (.slice oa pp.rs.length oc) (.slice ma pp.mo.length mc))).setCell ⟨H + 1, 0, none⟩ (.int .i64 0)).setCell ⟨H + 1 + 1, 0, none⟩ (.int .i64 0) = WF at *
    have hgp := grownBy_putObj' WF D (.deferred none)
    have hgr : ∀ r, some D = some r → ∃ o : Obj, WF.heap[r]? = some o ∧ o.isCells = false := fun r e => by cases e; exact ⟨_, hK', rfl⟩
    refine ⟨by simp, .inl ⟨_, _, rfl, run_takeDeferred hK', ?_⟩⟩
    refine ⟨_, results_r3 Tryz.results6 _ _ H (H + 1) (H + 1 + 1) 28 3 31 _ (0, 0) _ _ _ rfl rfl rfl ((cells_gr hF.2.2.1 hgp hgr).trans hF.2.2.1) (boxed_gr hF.2.2.2.1 hgp hgr) (boxed_gr hF.2.2.2.2.1 hgp hgr) rfl Tryz.underlying28 hiL isAgg3 isAgg29, ?_⟩
    have hBf := hF.2.2.2.2.2.1
    exact rp_of HH.out HE.out ⟨hlo.gr hgp hgr, hBf.grown hgp (by have := hBf.size; rw [HH.out] at this; exact this) (fun k e => by cases e; omega)⟩
  case stop =>
    rintro D c pre W hD hpre ⟨rfl, x, hx, hb0, hb1, hb2, hB⟩ hK
    have HE : Hid (q = (zP, x.1, x.2)) := by rw [HQ.out, prS_pre hpre hx]; rfl
    gi_wp2
    have hgp := grownBy_putObj' W D (.deferred none)
    have hgr : ∀ r, some D = some r → ∃ o : Obj, W.heap[r]? = some o ∧ o.isCells = false := fun r e => by cases e; exact ⟨_, hK, rfl⟩
    refine ⟨by simp, .inl ⟨_, _, rfl, run_takeDeferred hK, ?_⟩⟩
    refine ⟨_, results_r3 Tryz.results6 _ _ H (H + 1) (H + 1 + 1) 28 3 31 _ (0, 0) _ _ _ rfl rfl rfl ((cells_gr hb0 hgp hgr).trans hb0) (boxed_gr hb1 hgp hgr) (boxed_gr hb2 hgp hgr) rfl Tryz.underlying28 (infoLk (by simp)) isAgg3 isAgg29, ?_⟩
    exact rp_zero HH.out HE.out (hB.grown hgp (by have := hB.size; rw [HH.out] at this; exact this) (fun k e => by cases e; omega))
theorem parse4 (s : ByteArray) (w : World) (hT : TG w) (hBT : BT w) : Calls Tryz.prog 6 #[.string s] w fun e w' => RP w.heap.size w (pgR s) e w' := by
  by_cases h1 : 4096 < s.size
  · exact parse_no s w (.inl h1)
  · cases h2 : Lib.hasPrefix s.data.toList [109, 97, 103, 110, 101, 116, 58, 63] with
    | false => exact parse_no s w (.inr h2)
    | true =>
      have e : pgR s = pgM s := by unfold pgR; rw [if_neg h1, if_neg (by rw [h2]; decide)]
      rw [e]
      exact parse_yes s w (by omega) h2 hT hBT
end Go.Proofs.YtnpcbcfjnhjmmaaGreatDoor
