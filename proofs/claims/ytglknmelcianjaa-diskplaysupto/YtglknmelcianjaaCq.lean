import Derived.Test.YtglknmelcianjaaCs
import Derived.Deep.RegionHeld3
namespace Go.Proofs.Ytglknmelcianjaa
open Go.RowKit
section
variable {S : Nat → Prop} {w : World} {p : Nat} {D : Dk}
set_option maxHeartbeats 4000000 in
set_option maxRecDepth 100000 in
theorem copy (h : DK S w p D) (hn : D.ws.length ≤ 1073741824) : Calls Try.prog 10 #[.pointer (some ⟨p, 0, none⟩)] w fun e w' => ∃ q, e = .returned (.pointer (some ⟨q, 0, none⟩)) ∧ DK (fun k => w.heap.size ≤ k) w' q D ∧ Below w.heap.size w w' := by
  have HD : Hid (DK S w p D) := h
  have HGD : Hid (Gd D) := h.gd
  have HP : Hid (p < w.heap.size) := by obtain ⟨_, _, _, _, _, _, h⟩ := h; exact (Array.getElem?_eq_some_iff.1 h.blk).1
  have HC : Hid (∀ u : World, Below w.heap.size w u → u.cell? ⟨p, 3, none⟩ = some (.bool D.fu.isSome) ∧ u.cell? ⟨p, 4, none⟩ = some (.int .i64 (D.fu.getD 0))) := fun u hu => by
    obtain ⟨_, _, _, _, _, _, h⟩ := h.below hu
    exact ⟨h.c3, h.c4⟩
  clear h
  go_enter Try.func10, Try.ntmps10
  go_wp2_with fail
  refine (durable HD.out).mono ?_
  rintro e w1 ⟨v1, rfl, ho, hb1⟩
  obtain ⟨lb, cap, e1⟩ : ∃ g c, v1 = .slice (some ⟨g, 0, none⟩) D.last.length c := by
    rcases ho.2 with ⟨_, h0⟩ | ⟨g, c, _, h1, _⟩
    · have := HGD.out.pos; omega
    · exact ⟨g, c, h1⟩
  subst e1
  have hlb : w.heap.size ≤ lb := by
    rcases ho.2 with ⟨e, _⟩ | ⟨g, c, _, e, h1, _⟩
    · cases e
    · simp only [Value.slice.injEq, Option.some.injEq, Addr.mk.injEq] at e
      omega
  have HH := Lib.hid (holding w1 lb cap D.last (ho.mono (Nat.zero_le _)) ⟨HGD.out.mul, HGD.out.pos, HGD.out.max, fun x hx => by simp at hx, fun k hk => by cases hk⟩)
  have B1 : Hid (Below w.heap.size w w1 ∧ w.heap.size ≤ lb) := ⟨hb1, hlb⟩
  clear ho hb1 hlb
  go_wp2_with fail
  refine HH.out.mono ?_
  rintro e w2 ⟨q, rfl, hq, hd2, hb2⟩
  have D2 : Hid (DK (fun k => w.heap.size ≤ k) w2 q ⟨D.last, [], none⟩ ∧ Below w.heap.size w w2 ∧ w1.heap.size ≤ q) := ⟨hd2.sub (fun k _ hk => by have h1 := B1.out.1.size; have h2 := B1.out.2; rcases hk with h | h <;> omega), B1.out.1.trans (hb2.mono B1.out.1.size), hq⟩
  clear hd2 hb2 hq HH
  go_wp2_with fail
  have hh2 : w2.cell? ⟨p, 3, none⟩ = some (.bool D.fu.isSome) ∧ w2.cell? ⟨p, 4, none⟩ = some (.int .i64 (D.fu.getD 0)) := HC.out w2 D2.out.2.1
  refine wp_region_held_drew (S := fun u => u.cell? ⟨p, 3, none⟩ = some (.bool D.fu.isSome) ∧ u.cell? ⟨p, 4, none⟩ = some (.int .i64 (D.fu.getD 0))) (by kernel_rfl) (hh2) (fun hHeld => ?_)
  refine wpAnyH_take (i := 0) (v := .pointer (some ⟨q, 0, none⟩)) rfl (by kernel_rfl) (by kernel_rfl) (by kernel_rfl) (fun _ _ _ h => h) (Or.inl ⟨by rfl, fun w hw => by go_simp⟩) hHeld ?_
  simp only [Act.put, List.getElem_toArray, List.getElem_cons_zero, List.setIfInBounds_toArray, List.set_cons_zero, List.set_cons_succ]
  refine wpAnyH_take (i := 1) (v := .pointer (some ⟨q, 0, none⟩)) rfl (by kernel_rfl) (by kernel_rfl) (by kernel_rfl) (fun _ _ _ h => h) (Or.inl ⟨by rfl, fun w hw => by go_simp⟩) hHeld ?_
  simp only [Act.put, List.getElem_toArray, List.getElem_cons_zero, List.getElem_cons_succ, List.setIfInBounds_toArray, List.set_cons_zero, List.set_cons_succ]
  refine wpAnyH_take (i := 2) (v := .pointer (some ⟨p, 0, none⟩)) rfl (by kernel_rfl) (by kernel_rfl) (by kernel_rfl) (fun _ _ _ h => h) (Or.inl ⟨by rfl, fun w hw => by go_simp⟩) hHeld ?_
  simp only [Act.put, List.getElem_toArray, List.getElem_cons_zero, List.getElem_cons_succ, List.setIfInBounds_toArray, List.set_cons_zero, List.set_cons_succ]
  refine wpAnyH_take (i := 4) (v := .pointer (some ⟨p, 0, none⟩)) rfl (by kernel_rfl) (by kernel_rfl) (by kernel_rfl) (fun _ _ _ h => h) (Or.inl ⟨by rfl, fun w hw => by go_simp⟩) hHeld ?_
  simp only [Act.put, List.getElem_toArray, List.getElem_cons_zero, List.getElem_cons_succ, List.setIfInBounds_toArray, List.set_cons_zero, List.set_cons_succ]
  refine wpAnyH_take (i := 5) (v := .pointer (some ⟨p, 0, none⟩)) rfl (by kernel_rfl) (by kernel_rfl) (by kernel_rfl) (fun _ _ _ h => h) (Or.inl ⟨by rfl, fun w hw => by go_simp⟩) hHeld ?_
  simp only [Act.put, List.getElem_toArray, List.getElem_cons_zero, List.getElem_cons_succ, List.setIfInBounds_toArray, List.set_cons_zero, List.set_cons_succ]
  refine wpAnyH_take (i := 6) (v := .pointer (some ⟨p, 3, none⟩)) rfl (by kernel_rfl) (by kernel_rfl) (by kernel_rfl) (fun _ _ _ h => h) (Or.inl ⟨by rfl, fun w hw => by go_simp⟩) hHeld ?_
  simp only [Act.put, List.getElem_toArray, List.getElem_cons_zero, List.getElem_cons_succ, List.setIfInBounds_toArray, List.set_cons_zero, List.set_cons_succ]
  refine wpAnyH_take (i := 7) (v := .agg #[.bool D.fu.isSome, .int .i64 (D.fu.getD 0)]) rfl (by kernel_rfl) (by kernel_rfl) (by kernel_rfl) (fun _ _ _ h => h) (Or.inl ⟨by rfl, fun w hw => by have hw1 : w.cell? ⟨p, 3, none⟩ = _ := hw.1; have hw2 : w.cell? ⟨p, 4, none⟩ = _ := hw.2; go_simp⟩) hHeld ?_
  simp only [Act.put, List.getElem_toArray, List.getElem_cons_zero, List.getElem_cons_succ, List.setIfInBounds_toArray, List.set_cons_zero, List.set_cons_succ]
  refine wpAnyH_ready (rs := [3]) (by kernel_rfl) (by simp) ?_
  refine AllReadyH.cons (o := _) rfl (fun K hK => ?_) AllReadyH.nil
  go_simp
  refine (pending ((HD.out.below D2.out.2.1).below (belowDrew w2 1)) hn).mono ?_
  rintro e w3 ⟨v3, rfl, ho, hb3'⟩
  have hb3 : Below w2.heap.size w2 w3 := (belowDrew w2 1).trans hb3'
  have D3 : Hid (DK (fun k => w.heap.size ≤ k) w3 q ⟨D.last, [], none⟩ ∧ Below w.heap.size w w3 ∧ w3.ownsRow w2.heap.size 3 1 v3 D.ws.length (D.ws.map fun x => Value.int .i64 x.at_)) := ⟨D2.out.1.below hb3, D2.out.2.1.trans (hb3.mono D2.out.2.1.size), ho⟩
  have hh3 := HC.out w3 D3.out.2.1
  have hqz : w.heap.size ≤ q := by have h1 := D2.out.2.2; have h2 := B1.out.1.size; omega
  have HW2 : Hid (w.heap.size ≤ w2.heap.size) := D2.out.2.1.size
  obtain ⟨va, vc, ev⟩ := ownsRow_form ho
  subst ev
  clear ho hb3 hb3' D2 hh2
  go_wp2_with fail
  refine hK.out _ _ hh3 (fun hHeld => ?_)
  clear hK K
  refine wpAnyH_take (i := 8) (v := .pointer (some ⟨q, 0, none⟩)) rfl (by kernel_rfl) (by kernel_rfl) (by kernel_rfl) (fun _ _ _ h => h) (Or.inl ⟨by rfl, fun w hw => by go_simp⟩) hHeld ?_
  simp only [Act.put, List.getElem_toArray, List.getElem_cons_zero, List.getElem_cons_succ, List.setIfInBounds_toArray, List.set_cons_zero, List.set_cons_succ]
  refine wpAnyH_take (i := 9) (v := .pointer (some ⟨q, 2, none⟩)) rfl (by kernel_rfl) (by kernel_rfl) (by kernel_rfl) (fun _ _ _ h => h) (Or.inl ⟨by rfl, fun w hw => by go_simp⟩) hHeld ?_
  simp only [Act.put, List.getElem_toArray, List.getElem_cons_zero, List.getElem_cons_succ, List.setIfInBounds_toArray, List.set_cons_zero, List.set_cons_succ]
  obtain ⟨lq, cq, mq, oq, Mq, Lq, hq⟩ := D3.out.1
  have HB := Lib.hid hq.blk
  have q2 := hq.c2
  have q2f := hq.frz 2
  have HQD := Lib.hid hq
  have HNE : Hid (p ≠ q) := by have := HP.out; show p ≠ q; omega
  have HH4 : Hid ((w3.setCell ⟨q, 2, none⟩ (.slice va D.ws.length vc)).heap[q]? = some (.cells #[.slice (some ⟨lq, 0, none⟩) D.last.length cq, .map (some mq), .slice va D.ws.length vc, .bool false, .int .i64 0] 55 (0, 0))) := by
    show (w3.setCell ⟨q, 2, none⟩ (.slice va D.ws.length vc)).heap[q]? = _
    rw [setCell_eq_setRow w3 q _ _ _ _ _ hq.blk]
    exact heapSetRow _ _ _ _ _ hq.blk
  have hh4 : (w3.setCell ⟨q, 2, none⟩ (.slice va D.ws.length vc)).cell? ⟨p, 3, none⟩ = some (.bool D.fu.isSome) ∧ (w3.setCell ⟨q, 2, none⟩ (.slice va D.ws.length vc)).cell? ⟨p, 4, none⟩ = some (.int .i64 (D.fu.getD 0)) := ⟨(World.cell?_of_block (w := w3) (setCell_other HNE.out)).trans hh3.1, (World.cell?_of_block (w := w3) (setCell_other HNE.out)).trans hh3.2⟩
  clear hq
  refine wpAnyH_ready (rs := [10]) (by kernel_rfl) (by simp) ?_
  refine AllReadyH.cons (o := _) rfl (fun K hK => ?_) AllReadyH.nil
  go_simp
  refine hK.out _ _ hh4 (fun hHeld => ?_)
  clear hK K q2 q2f
  refine wpAnyH_take (i := 11) (v := .pointer (some ⟨q, 0, none⟩)) rfl (by kernel_rfl) (by kernel_rfl) (by kernel_rfl) (fun _ _ _ h => h) (Or.inl ⟨by rfl, fun w hw => by go_simp⟩) hHeld ?_
  simp only [Act.put, List.getElem_toArray, List.getElem_cons_zero, List.getElem_cons_succ, List.setIfInBounds_toArray, List.set_cons_zero, List.set_cons_succ]
  refine wpAnyH_take (i := 12) (v := .pointer (some ⟨q, 3, none⟩)) rfl (by kernel_rfl) (by kernel_rfl) (by kernel_rfl) (fun _ _ _ h => h) (Or.inl ⟨by rfl, fun w hw => by go_simp⟩) hHeld ?_
  simp only [Act.put, List.getElem_toArray, List.getElem_cons_zero, List.getElem_cons_succ, List.setIfInBounds_toArray, List.set_cons_zero, List.set_cons_succ]
  have HF4 : Hid (Fr (fun k => k ≠ q) w3 (w3.setCell ⟨q, 2, none⟩ (.slice va D.ws.length vc))) := setCell_fr _ _ _ _
  generalize World.setCell w3 ⟨q, 2, none⟩ (.slice va D.ws.length vc) = w4 at *
  have q3 : w4.cell? ⟨q, 3, none⟩ = some (.bool false) := by simp [World.cell?, HH4.out]
  have q4 : w4.cell? ⟨q, 4, none⟩ = some (.int .i64 0) := by simp [World.cell?, HH4.out]
  have q3f : w4.frozen? ⟨q, 3, none⟩ = false := by simp [World.frozen?, HH4.out]
  have q4f : w4.frozen? ⟨q, 4, none⟩ = false := by simp [World.frozen?, HH4.out]
  refine wpAnyH_ready (rs := [13]) (by kernel_rfl) (by simp) ?_
  refine AllReadyH.cons (o := _) rfl (fun K hK => ?_) AllReadyH.nil
  go_simp
  have HH5 : Hid (((w4.setCell ⟨q, 3, none⟩ (.bool D.fu.isSome)).setCell ⟨q, 4, none⟩ (.int .i64 (D.fu.getD 0))).heap[q]? = some (.cells #[.slice (some ⟨lq, 0, none⟩) D.last.length cq, .map (some mq), .slice va D.ws.length vc, .bool D.fu.isSome, .int .i64 (D.fu.getD 0)] 55 (0, 0))) := by
    have h1 : (w4.setCell ⟨q, 3, none⟩ (.bool D.fu.isSome)).heap[q]? = some (.cells #[.slice (some ⟨lq, 0, none⟩) D.last.length cq, .map (some mq), .slice va D.ws.length vc, .bool D.fu.isSome, .int .i64 0] 55 (0, 0)) := by
      rw [setCell_eq_setRow w4 q _ _ _ _ _ HH4.out]
      exact heapSetRow _ _ _ _ _ HH4.out
    show ((w4.setCell ⟨q, 3, none⟩ (.bool D.fu.isSome)).setCell ⟨q, 4, none⟩ (.int .i64 (D.fu.getD 0))).heap[q]? = _
    rw [setCell_eq_setRow _ q _ _ _ _ _ h1]
    exact heapSetRow _ _ _ _ _ h1
  have HF5 : Hid (Fr (fun k => k ≠ q) w3 ((w4.setCell ⟨q, 3, none⟩ (.bool D.fu.isSome)).setCell ⟨q, 4, none⟩ (.int .i64 (D.fu.getD 0)))) := (HF4.out.setCell q 3 _ (fun _ h => h rfl)).setCell q 4 _ (fun _ h => h rfl)
  have hh5 : ((w4.setCell ⟨q, 3, none⟩ (.bool D.fu.isSome)).setCell ⟨q, 4, none⟩ (.int .i64 (D.fu.getD 0))).cell? ⟨p, 3, none⟩ = some (.bool D.fu.isSome) ∧ ((w4.setCell ⟨q, 3, none⟩ (.bool D.fu.isSome)).setCell ⟨q, 4, none⟩ (.int .i64 (D.fu.getD 0))).cell? ⟨p, 4, none⟩ = some (.int .i64 (D.fu.getD 0)) := ⟨(World.cell?_of_block (w := w3) (HF5.out.block p (by have h1 := HP.out; have h2 := D3.out.2.1.size; omega) HNE.out)).trans hh3.1, (World.cell?_of_block (w := w3) (HF5.out.block p (by have h1 := HP.out; have h2 := D3.out.2.1.size; omega) HNE.out)).trans hh3.2⟩
  refine hK.out _ _ hh5 (fun hHeld => ?_)
  clear hK K q3 q4 q3f q4f
  refine wpAnyH_done (by kernel_rfl) ?_ _
  generalize World.setCell (w4.setCell ⟨q, 3, none⟩ (.bool D.fu.isSome)) ⟨q, 4, none⟩ (.int .i64 (D.fu.getD 0)) = w5 at *
  have B5 : Hid (Below w.heap.size w w5) := by
    have h1 := D3.out.2.1
    have h2 := HF5.out
    have h3 := h1.size
    exact ⟨h2.os.trans h1.os, h2.tape.trans h1.tape, h2.output.trans h1.output, Nat.le_trans h3 h2.size, fun k hk => (h2.block k (by omega) (by omega)).trans (h1.block k hk)⟩
  have HDP : Hid (DP (fun k => w.heap.size ≤ k) w5 q lq cq mq 0 (.slice va D.ws.length vc) (.slice va D.ws.length vc) Mq Lq (fun s => lv s 0 []) D.last (D.ws.map (·.at_)) D.fu) := by
    refine HQD.out.dp.hand ?_ (fun g hg => ?_) HH5.out HF5.out
    · rw [List.length_map, List.map_map]; exact ownsRow_base D3.out.2.2 (Nat.zero_le _)
    · have h1 := HW2.out
      rcases D3.out.2.2.2 with ⟨e, _⟩ | ⟨g', _, _, e, h2, _⟩
      · rw [e] at hg; simp [Value.ownBlock] at hg
      · rw [e] at hg; simp [Value.ownBlock] at hg; omega
  obtain ⟨lb0, cap0, mb, ov0, M, L, h0w⟩ := HD.out
  have h0 := h0w.fr (Fr.of_below B5.out)
  have HLV : Hid (∀ (u : World) (s : Nat), Below w.heap.size w u → OL u (L s) (lv s 0 D.ws) ∧ (lv s 0 D.ws = [] → L s = .slice none 0 0)) := fun u s hu => ⟨(h0w.fr (Fr.of_below hu)).liv s, h0w.nol s⟩
  have HMB : Hid (mb < w.heap.size ∧ w.heap.size ≤ w5.heap.size ∧ ∀ s, (lv s 0 D.ws).length ≤ 1073741824) := ⟨h0w.map.lt, B5.out.size, fun s => Nat.le_trans (lv_len s D.ws 0) hn⟩
  clear h0w
  have c1 := h0.c1
  have HM : Hid (MK M L D.ws) := h0.mks
  have HO : Hid (w5.ownsMap Try.prog 3 idR mb D.ws.length M) := h0.map
  have HDI := Lib.hid h0
  have HS : Hid (∀ w0 : World, w0.ranges Try.prog 3 idR mb w5.heap.size D.ws.length M (Maps.has M) (Maps.size M) → w5.grownBy w0 none → CR w q lq mq cq w5.heap.size mb (.slice va D.ws.length vc) M D (Maps.has M) (Maps.size M) w0) := fun w0 h1 h2 => CR.start HDI.out HQD.out HDP.out B5.out h1 h2
  have HG : Hid (∀ s d, nw s D.ws = some d → 64 * s + 64 ≤ D.last.length ∧ d.length = 64 ∧ (L s).oneCell' = true) := fun s d hn => by
    have := HGD.out.nw hn
    exact ⟨this.1, this.2, h0.one s⟩
  have hzS := zeroS
  have hz65 : zs.size = 65 := rfl
  clear h0 hHeld hh3 hh4 hh5 HQD HDP HH4 HH5 HF4 HF5 D3 HW2 HB HC HD
  generalize zs = z at *
  go_wp2_with (first | (at_range; refine wpList_range_own _ rfl _ 51 rfl 3 59 K3 underMap idR mb D.ws.length M rfl HO.out ?_; intro w0 hrg0 hg0 hs0))
  go_frame
  have H0 := Lib.hid (HS.out w0 hrg0 hg0)
  clear hrg0 hg0 hs0 HS HO c1
  go_loopw [4] (fun _ wr => ∃ left cnt, Hid (CR w q lq mq cq w5.heap.size mb (.slice va D.ws.length vc) M D left cnt wr)) (fun _ wr => wr.rangeLeft mb w5.heap.size)
  case atStart => exact ⟨_, _, H0⟩
  case round =>
    clear H0 w0
    obtain ⟨left, cnt, H⟩ := hrel
    go_wp2_with (first | (at_next; refine next_disk HM.out rfl _ rfl mb w5.heap.size D.ws.length left cnt rfl H.out.rg ?_ ?_))
    · intro hl0
      have HE : Hid (DK (fun k => w.heap.size ≤ k) wr q D ∧ Below w.heap.size w wr) := ⟨H.out.done hl0 HGD.out, H.out.f⟩
      clear hl0 H
      go_wp2_with fail
      go_ret
      exact ⟨_, rfl, HE.out.1, HE.out.2⟩
    · intro s d cs0 w7 cnt2 hcs0 hn' hleft hrg hlt hg7 hsz7 hen
      obtain ⟨q1, q2, q3⟩ := HG.out s d hn'
      have HNX : Hid (w7.ranges Try.prog 3 idR mb w5.heap.size D.ws.length M (fun z => left z && !z.sameKey (ky s)) cnt2 ∧ wr.grownBy w7 (some w5.heap.size) ∧ cnt2 < cnt ∧ nw s D.ws = some d ∧ d.length = 64 ∧ 64 * s + 64 ≤ D.last.length) := ⟨hrg, hg7, hlt, hn', q2, q1⟩
      have B7 : Hid (Below w.heap.size w w7) := by
        have h1 := H.out.f
        have h2 := HMB.out.2.1
        exact ⟨hg7.os.trans h1.os, hg7.tape.trans h1.tape, hg7.output.trans h1.output, Nat.le_trans h1.size hg7.size, fun k hk => (hg7.block k (Nat.lt_of_lt_of_le hk h1.size) (fun e => by injection e with e; omega)).trans (h1.block k hk)⟩
      have hone := sc_one d (L s) q3
      have hsz := sc_size d (L s) q2
      have HBX : Hid (∀ w8 : World, w8 = (w7.alloc (.cells z 59)).setRow w7.heap.size (bc d ++ #[L s]) → Below w7.heap.size w7 w8 ∧ w8.heap[w7.heap.size]? = some (.cells (bc d ++ #[L s]) 59 (0, 0)) ∧ w8.cell? ⟨w7.heap.size, 64, none⟩ = some (L s)) := fun w8 h8 => by
        subst h8
        have hbx : ((w7.alloc (.cells z 59)).setRow w7.heap.size (bc d ++ #[L s])).heap[w7.heap.size]? = some (.cells (bc d ++ #[L s]) 59 (0, 0)) := heapSetRow _ _ _ _ _ (heapNew w7 _)
        refine ⟨belowSetRow ((Below.refl _ _).alloc (Nat.le_refl _) _) (Nat.le_refl _) _, hbx, ?_⟩
        simp only [World.cell?, hbx]
        rw [Array.getElem?_append_right (by rw [bc_size, q2]; exact Nat.le_refl _), bc_size, q2]
        rfl
      have hcs1 : bc d ++ #[L s] = cs0 := by rw [hcs0]; simp
      rw [hcs1] at hone hsz
      have HX := Lib.hid (HBX.out _ rfl)
      have b64 := HX.out.2.2
      rw [hcs1] at b64
      have HX1 : Hid (∀ w8 : World, w8 = (w7.alloc (.cells z 59)).setRow w7.heap.size cs0 → Below w7.heap.size w7 w8 ∧ w8.heap[w7.heap.size]? = some (.cells (bc d ++ #[L s]) 59 (0, 0))) := fun w8 h8 => by rw [← hcs1] at h8; exact ⟨(HBX.out w8 h8).1, (HBX.out w8 h8).2.1⟩
      have HLS := Lib.hid (HLV.out _ s (B7.out.trans (HX.out.1.mono B7.out.size)))
      rw [hcs1] at HLS
      clear hn' hrg hg7 hsz7 hlt hcs0 HBX HX hcs1
      generalize hLs : L s = Ls at *
      go_wp2_with (first | (refine wpList_store_row rfl 59 _ _ rfl w7.heap.size cs0 rfl rfl 59 z (heapNew w7 _) (by rw [hsz]; exact sizeS) (by rw [hz65, hsz]) hone ?_))
      generalize hw8 : World.setRow (World.alloc _ _) _ cs0 = w8 at *
      have HX := Lib.hid (HX1.out w8 rfl)
      clear HX1 hw8 hen
      refine (cloneL _ (lv s 0 D.ws) w8 HLS.out.1 HLS.out.2 (HMB.out.2.2 s)).mono ?_
      rintro e w9 ⟨v', rfl, ho9, hv9, b9⟩
      obtain ⟨c64, f64, nm, M2, L2, n1, cs, n3, n4, n5⟩ := H.out.clone HMB.out.1 HNX.out.1 HNX.out.2.1 HX.out.1 HX.out.2 b9 ho9 HNX.out.2.2.2.2.1 HMB.out.2.1
      have HCS : Hid (CS w q lq mq cq w5.heap.size mb w7.heap.size (.slice va D.ws.length vc) v' M D left s nm d M2 L2 cnt2 (w9.setCell ⟨w7.heap.size, 64, none⟩ v') ∧ nm + cnt ≤ D.ws.length) := ⟨cs, n1⟩
      have HN3 := Lib.hid n3
      have HN4 := Lib.hid n4
      have HN5 := Lib.hid n5
      have HV : Hid (lv s 0 D.ws = [] → v' = .slice none 0 0) := hv9
      obtain ⟨ya, yc, ey⟩ := ownsRow_form ho9
      generalize (lv s 0 D.ws).length = yn at *
      subst ey
      clear cs n1 n3 n4 n5 hv9 ho9 b9 HX HLS b64
      go_wp2_with fail
      generalize World.setCell w9 ⟨w7.heap.size, 64, none⟩ (.slice ya yn yc) = wH at *
      have hsx : (bc d ++ #[Value.slice ya yn yc]).size = 65 := sc_size d _ HNX.out.2.2.2.2.1
      have HBXX := Lib.hid HCS.out.1.bx
      generalize hcx : bc d ++ #[Value.slice ya yn yc] = cx at *
      have HCX : Hid (bc d ++ #[Value.slice ya yn yc] = cx) := hcx
      clear hcx c64 f64
      have hs26 : s ≤ 4194304 := by have h1 := HNX.out.2.2.2.2.2; have h2 := HGD.out.max; omega
      refine wp_region_held_drew (S := fun u => u.cell? ⟨q, 1, none⟩ = some (.map (some mq)) ∧ u.rangeAt w7.heap.size 0 cx.toList) (by kernel_rfl) (⟨HCS.out.1.dp.c1, range_row HBXX.out⟩) (fun hHeld => ?_)
      refine wpAnyH_take (i := 0) (v := .pointer (some ⟨q, 0, none⟩)) rfl (by kernel_rfl) (by kernel_rfl) (by kernel_rfl) (fun _ _ _ h => h) (Or.inl ⟨by rfl, fun w hw => by go_simp⟩) hHeld ?_
      simp only [Act.put, List.getElem_toArray, List.getElem_cons_zero, List.setIfInBounds_toArray, List.set_cons_zero, List.set_cons_succ]
      refine wpAnyH_take (i := 1) (v := .pointer (some ⟨q, 0, none⟩)) rfl (by kernel_rfl) (by kernel_rfl) (by kernel_rfl) (fun _ _ _ h => h) (Or.inl ⟨by rfl, fun w hw => by go_simp⟩) hHeld ?_
      simp only [Act.put, List.getElem_toArray, List.getElem_cons_zero, List.getElem_cons_succ, List.setIfInBounds_toArray, List.set_cons_zero, List.set_cons_succ]
      refine wpAnyH_take (i := 2) (v := .pointer (some ⟨q, 1, none⟩)) rfl (by kernel_rfl) (by kernel_rfl) (by kernel_rfl) (fun _ _ _ h => h) (Or.inl ⟨by rfl, fun w hw => by go_simp⟩) hHeld ?_
      simp only [Act.put, List.getElem_toArray, List.getElem_cons_zero, List.getElem_cons_succ, List.setIfInBounds_toArray, List.set_cons_zero, List.set_cons_succ]
      refine wpAnyH_take (i := 3) (v := .map (some mq)) rfl (by kernel_rfl) (by kernel_rfl) (by kernel_rfl) (fun _ _ _ h => h) (Or.inl ⟨by rfl, fun w hw => by have hw2 : w.cell? ⟨q, 1, none⟩ = _ := hw.1; go_simp⟩) hHeld ?_
      simp only [Act.put, List.getElem_toArray, List.getElem_cons_zero, List.getElem_cons_succ, List.setIfInBounds_toArray, List.set_cons_zero, List.set_cons_succ]
      refine wpAnyH_take (i := 4) (v := .int .i64 s) rfl (by kernel_rfl) (by kernel_rfl) (by kernel_rfl) (fun _ _ _ h => h) (Or.inl ⟨by rfl, fun w hw => by go_simp⟩) hHeld ?_
      simp only [Act.put, List.getElem_toArray, List.getElem_cons_zero, List.getElem_cons_succ, List.setIfInBounds_toArray, List.set_cons_zero, List.set_cons_succ]
      refine wpAnyH_take (i := 5) (v := _) rfl (by kernel_rfl) (by kernel_rfl) (by kernel_rfl) (fun _ _ _ h => h) (yieldsIf_load_mid (by rfl) _ _ rfl _ _ rfl _ _ (fun _ h => h.2) Try.underlying59 rfl (by rw [Array.length_toList, hsx]; exact sizeS)) hHeld ?_
      simp only [Act.put, List.getElem_toArray, List.getElem_cons_zero, List.getElem_cons_succ, List.setIfInBounds_toArray, List.set_cons_zero, List.set_cons_succ, Array.toArray_toList]
      refine wpAnyH_ready (rs := [6]) (by kernel_rfl) (by simp) ?_
      refine AllReadyH.cons (o := _) rfl (fun K hK => ?_) AllReadyH.nil
      obtain ⟨wI, hrun, hmI, hgI⟩ := (show wH.drew.ownsMap Try.prog 3 idR mq nm M2 from HCS.out.1.dp.map.drew).update K3 underMap (by have := HCS.out.2; unfold maxLen; omega) (key3 s (by omega)) (val := .agg cx) (d := .held (.agg cx)) (ps := []) rfl
      go_simp
      have HN : Hid (CR w q lq mq cq w5.heap.size mb (.slice va D.ws.length vc) M D (fun z => left z && !z.sameKey (ky s)) cnt2 wI) := by
        refine HCS.out.1.put HCS.out.2 HNX.out.2.2.1 HNX.out.2.2.2.1 HMB.out.1 HN3.out HN4.out HN5.out HV.out ?_ ⟨hgI.os, hgI.tape, hgI.output, hgI.size, hgI.block⟩
        unfold secV
        rw [HCX.out]
        exact hmI
      have hhI : wI.cell? ⟨q, 1, none⟩ = some (.map (some mq)) ∧ wI.rangeAt w7.heap.size 0 cx.toList := by
        obtain ⟨_, _, _, _, hdp, _⟩ := HN.out.cp
        refine ⟨hdp.c1, range_row ((hgI.block _ (Array.getElem?_eq_some_iff.1 HBXX.out).1 (fun e => ?_)).trans HBXX.out)⟩
        injection e with e
        exact HCS.out.1.dp.sm.2 e.symm
      have HLT : Hid (cnt2 < cnt) := HNX.out.2.2.1
      clear hmI hgI hrun
      refine hK.out _ _ hhI (fun hHeld => ?_)
      clear hK K
      refine wpAnyH_done (by kernel_rfl) ?_ _
      clear hHeld hhI HCS HN3 HN4 HN5 HV HNX HBXX
      go_wp2_with fail
      go_roundw
      case rel => exact ⟨_, _, HN⟩
      case measure => (rw [HN.out.rg.left_eq, H.out.rg.left_eq]; exact HLT.out)
end
end Go.Proofs.Ytglknmelcianjaa
