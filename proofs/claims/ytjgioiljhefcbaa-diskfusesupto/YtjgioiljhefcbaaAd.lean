import Derived.Test.YtjgioiljhefcbaaFz
import Derived.Deep.RegionHeld3
namespace Go.Proofs.Ytjgioiljhefcbaa
open Go.RowKit
/-- a disk that is acted upon -/
def AS (w : World) (p : Nat) (D0 : Dk) (xs : List Av) (k : Nat) (wr : World) : Prop := DK (fun b => w.heap.size ≤ b) wr p (acts D0 (xs.take k)) ∧ Below w.heap.size w wr
def ActE (w : World) (D0 : Dk) (xs : List Av) (e : Ending) (w' : World) : Prop := ∃ p, e = .returned (.pointer (some ⟨p, 0, none⟩)) ∧ DK (fun b => w.heap.size ≤ b) w' p (acts D0 xs) ∧ Below w.heap.size w w'
theorem act_write {w wr w2 w3 : World} {p k s : Nat} {D D' : Dk} {ul : List UInt8} {xs : List Av} (h : DK (fun b => w.heap.size ≤ b) wr p D ∧ Below w.heap.size w wr) (hb : Below wr.heap.size wr w2) (ht : acts D' (xs.take (k + 1)) = ⟨D.last, D.ws ++ [⟨s, fl ul, blownF D.fu⟩], burnt D.fu⟩)
    (hd : DK (fun b => w.heap.size ≤ b ∨ w2.heap.size ≤ b) w3 p ⟨D.last, D.ws ++ [⟨s, fl ul, blownF D.fu⟩], burnt D.fu⟩) (hf : Fr (fun b => ¬ w.heap.size ≤ b) w2 w3) : AS w p D' xs (k + 1) w3 := by
  have h1 := h.2.size
  have h2 := hb.size
  refine ⟨?_, ?_⟩
  · rw [ht]
    exact hd.sub (fun b _ hb => hb.elim id (fun h => by omega))
  · have b2 : Below w.heap.size w w2 := h.2.trans (hb.mono h1)
    exact ⟨hf.os.trans b2.os, hf.tape.trans b2.tape, hf.output.trans b2.output, Nat.le_trans b2.size hf.size, fun b hb => (hf.block b (by omega) (by omega)).trans (b2.block b hb)⟩
theorem act_sync {w wr : World} {p : Nat} {D : Dk} (h : DK (fun b => w.heap.size ≤ b) wr p D ∧ Below w.heap.size w wr) : Calls Try.prog 27 #[.pointer (some ⟨p, 0, none⟩)] wr fun e w' => e = .returned (.int .i64 0) ∧ DK (fun b => w.heap.size ≤ b) w' p (if blownF D.fu then D else ⟨img D.last D.ws, [], burnt D.fu⟩) ∧ Below w.heap.size w w' := by
  have h1 := h.2.size
  cases hb : blownF D.fu with
  | true =>
    refine (sync_blown h.1 hb).mono ?_
    rintro e w' ⟨rfl, hb⟩
    exact ⟨rfl, h.1.below hb, h.2.trans (hb.mono h1)⟩
  | false =>
    refine (sync_live h.1 hb).mono ?_
    rintro e w' ⟨rfl, hd, hf⟩
    exact ⟨rfl, hd, ⟨hf.os.trans h.2.os, hf.tape.trans h.2.tape, hf.output.trans h.2.output, Nat.le_trans h1 hf.size, fun b hb => (hf.block b (by omega) (by omega)).trans (h.2.block b hb)⟩⟩
set_option maxHeartbeats 4000000 in
set_option maxRecDepth 100000 in
theorem acted_no (iv v : Value) (l : List UInt8) (xs : List Av)  (w : World) (hi : RB w iv l) (h1 : l.length % 64 = 0) (h2 : 64 ≤ l.length) (h3 : l.length ≤ 4194304) (hr : RAv w v xs) (hl : xs.length ≤ 1048576) (hin : ∀ x ∈ xs, Fits l.length x) :
    Calls Try.prog 30 #[iv, v, .int .i64 (-1)] w (ActE w ⟨l, [], none⟩ xs) := by
  have HLD := Lib.hid (load_ok iv l w hi h1 h2 h3)
  have HR : Hid (RAv w v xs) := hr
  have HIN : Hid (∀ x ∈ xs, Fits l.length x) := hin
  obtain ⟨a, c, rfl, _, _⟩ := hr.1
  obtain ⟨ia, ic, rfl, _, _⟩ := hi
  clear hr hin
  generalize hil : l.length = il at *
  have HIL : Hid (l.length = il) := hil
  clear hil
  generalize hln : xs.length = ln at *
  have HLN : Hid (xs.length = ln) := hln
  clear hln
  go_enter Try.func30, Try.ntmps30
  go_wp2_with fail
  refine HLD.out.mono ?_
  rintro e w1 ⟨p, rfl, _, hd, hb⟩
  have H0 : Hid (AS w p ⟨l, [], none⟩ xs 0 w1) := ⟨hd, hb⟩
  clear hd hb HLD
  obtain ⟨D0, hD0⟩ : ∃ D0 : Dk, D0 = ⟨l, [], none⟩ := ⟨_, rfl⟩
  have HDE : Hid (D0 = ⟨l, [], none⟩) := hD0
  rw [← hD0] at H0
  clear hD0
  have HFI : Hid (D0.last.length = il ∧ D0.ws.length = 0) := by rw [HDE.out]; exact ⟨HIL.out, rfl⟩
  go_wp2_with fail
  go_loopw [10] (fun i wr => ∃ k : Nat, k ≤ ln ∧ i = .int .i64 k ∧ Hid (AS w p D0 xs k wr)) (fun i _ => ln - (intOf i).toNat)
  case atStart => exact ⟨0, Nat.zero_le _, rfl, H0⟩
  case round =>
    clear H0
    obtain ⟨k, hk, rfl, H⟩ := hrel
    by_cases hlt : k < ln
    · obtain ⟨x, hx⟩ : ∃ x, xs[k]? = some x := ⟨xs[k]'(by rw [HLN.out]; exact hlt), List.getElem?_eq_getElem _⟩
      obtain ⟨g, o, rfl, hgw, hc1, hc2, hc3⟩ : ∃ g o, a = some ⟨g, o, none⟩ ∧ g < w.heap.size ∧ wr.cell? ⟨g, o + k * 3, none⟩ = some (.bool x.sy) ∧ wr.cell? ⟨g, o + k * 3 + 1, none⟩ = some (.int .i64 x.u.at_) ∧ wr.cell? ⟨g, o + k * 3 + 2, none⟩ = some x.u.dv := by
        obtain ⟨⟨a', c', e, _, h⟩, _⟩ := HR.out
        simp only [Value.slice.injEq] at e
        rcases h with h0 | ⟨g, o, e2, hg, h⟩
        · rw [h0] at hx; simp at hx
        · have hh := h k x hx
          exact ⟨g, o, by rw [e.1, e2], hg, (H.out.2.cell (p := ⟨g, o + k * 3, none⟩) hg).trans hh.1, (H.out.2.cell (p := ⟨g, o + k * 3 + 1, none⟩) hg).trans hh.2.1, (H.out.2.cell (p := ⟨g, o + k * 3 + 2, none⟩) hg).trans hh.2.2⟩
      have hgr : g < wr.heap.size := Nat.lt_of_lt_of_le hgw H.out.2.size
      have hxm := List.mem_of_getElem? hx
      have hfit := HIN.out x hxm
      have hrb0 := (HR.out.2 x hxm).1.keep H.out.2
      have HUL0 := (HR.out.2 x hxm).2
      have HT0 : acts D0 (xs.take (k + 1)) = act1 (acts D0 (xs.take k)) x := by
        obtain ⟨h1, h2⟩ := List.getElem?_eq_some_iff.1 hx
        rw [List.take_succ_eq_append_getElem h1, acts_snoc, h2]
      have HWL : Hid ((acts D0 (xs.take k)).ws.length < 1073741824) := by
        have h1 := acts_ws (xs.take k) D0
        have h2 := List.length_take_le k xs
        have h3 := HFI.out.2
        show (acts D0 (xs.take k)).ws.length < _
        omega
      have HLL : Hid ((acts D0 (xs.take k)).last.length = il) := (acts_len _ _).trans HFI.out.1
      have HH : Hid (DK (fun b => w.heap.size ≤ b) wr p (acts D0 (xs.take k)) ∧ Below w.heap.size w wr) := H.out
      generalize acts D0 (xs.take k) = D at *
      obtain ⟨sy, ua, ud, ul⟩ := x
      cases sy with
      | true =>
        have HN0 : Hid (acts D0 (xs.take (k + 1)) = if blownF D.fu then D else ⟨img D.last D.ws, [], burnt D.fu⟩) := HT0
        clear HT0 hrb0 HUL0 hxm hx H
        dsimp only at *
        go_wp2_with fail
        refine (act_sync HH.out).mono ?_
        rintro e w2 ⟨rfl, hd2, hb2⟩
        have HN : Hid (AS w p D0 xs (k + 1) w2) := ⟨by rw [HN0.out]; exact hd2, hb2⟩
        clear hd2 hb2 HH
        go_wp2_with fail
        go_roundw
        case rel => exact ⟨k + 1, by omega, by go_num, HN⟩
        case measure => (simp [intOf]; omega)
      | false =>
        have hin0 : 0 ≤ ua ∧ 64 * ua + 64 ≤ (il : Int) := by
          rcases hfit with h | h
          · cases h
          · exact h
        clear hfit
        dsimp only at *
        obtain ⟨hu0, hu1⟩ := hin0
        obtain ⟨s, rfl⟩ : ∃ s : Nat, ua = s := ⟨ua.toNat, by omega⟩
        have HT : Hid (acts D0 (xs.take (k + 1)) = ⟨D.last, D.ws ++ [⟨s, fl ul, blownF D.fu⟩], burnt D.fu⟩) := HT0
        have HUL : Hid (ul.length ≤ 140737488351232) := HUL0
        obtain ⟨da, dc, e, _⟩ := id hrb0
        obtain ⟨dn, hdn⟩ : ∃ dn, ul.length = dn := ⟨_, rfl⟩
        rw [hdn] at e
        subst e
        have HRB : Hid (RB wr.drew (.slice da dn dc) ul) := hrb0.keep (belowDrew wr 1)
        have HS64 : Hid (64 * s + 64 ≤ D.last.length) := by show 64 * s + 64 ≤ D.last.length; rw [HLL.out]; omega
        clear HT0 hrb0 HUL0 hxm hx H hdn
        go_wp2_with fail
        refine wp_region_held_drew (S := fun u => u.cell? ⟨g, o + k * 3 + 1, none⟩ = some (.int .i64 s) ∧ u.cell? ⟨g, o + k * 3 + 2, none⟩ = some (.slice da dn dc)) (by kernel_rfl) (⟨hc2, hc3⟩) (fun hHeld => ?_)
        refine wpAnyH_take (i := 0) (v := .pointer (some ⟨p, 0, none⟩)) rfl (by kernel_rfl) (by kernel_rfl) (by kernel_rfl) (fun _ _ _ h => h) (Or.inl ⟨by rfl, fun w hw => by go_simp⟩) hHeld ?_
        simp only [Act.put, List.getElem_toArray, List.getElem_cons_zero, List.setIfInBounds_toArray, List.set_cons_zero, List.set_cons_succ]
        refine wpAnyH_take (i := 1) (v := .slice (some ⟨g, o, none⟩) ln c) rfl (by kernel_rfl) (by kernel_rfl) (by kernel_rfl) (fun _ _ _ h => h) (Or.inl ⟨by rfl, fun w hw => by go_simp⟩) hHeld ?_
        simp only [Act.put, List.getElem_toArray, List.getElem_cons_zero, List.getElem_cons_succ, List.setIfInBounds_toArray, List.set_cons_zero, List.set_cons_succ]
        refine wpAnyH_take (i := 2) (v := .int .i64 k) rfl (by kernel_rfl) (by kernel_rfl) (by kernel_rfl) (fun _ _ _ h => h) (Or.inl ⟨by rfl, fun w hw => by go_simp⟩) hHeld ?_
        simp only [Act.put, List.getElem_toArray, List.getElem_cons_zero, List.getElem_cons_succ, List.setIfInBounds_toArray, List.set_cons_zero, List.set_cons_succ]
        refine wpAnyH_take (i := 3) (v := .pointer (some ⟨g, o + k * 3, none⟩)) rfl (by kernel_rfl) (by kernel_rfl) (by kernel_rfl) (fun _ _ _ h => h) (Or.inl ⟨by rfl, fun w hw => by go_simp⟩) hHeld ?_
        simp only [Act.put, List.getElem_toArray, List.getElem_cons_zero, List.getElem_cons_succ, List.setIfInBounds_toArray, List.set_cons_zero, List.set_cons_succ]
        refine wpAnyH_take (i := 4) (v := .pointer (some ⟨g, o + k * 3 + 1, none⟩)) rfl (by kernel_rfl) (by kernel_rfl) (by kernel_rfl) (fun _ _ _ h => h) (Or.inl ⟨by rfl, fun w hw => by go_simp⟩) hHeld ?_
        simp only [Act.put, List.getElem_toArray, List.getElem_cons_zero, List.getElem_cons_succ, List.setIfInBounds_toArray, List.set_cons_zero, List.set_cons_succ]
        refine wpAnyH_take (i := 5) (v := .pointer (some ⟨g, o + k * 3 + 1, none⟩)) rfl (by kernel_rfl) (by kernel_rfl) (by kernel_rfl) (fun _ _ _ h => h) (Or.inl ⟨by rfl, fun w hw => by go_simp⟩) hHeld ?_
        simp only [Act.put, List.getElem_toArray, List.getElem_cons_zero, List.getElem_cons_succ, List.setIfInBounds_toArray, List.set_cons_zero, List.set_cons_succ]
        refine wpAnyH_take (i := 6) (v := .int .i64 s) rfl (by kernel_rfl) (by kernel_rfl) (by kernel_rfl) (fun _ _ _ h => h) (Or.inl ⟨by rfl, fun w hw => by have hw2 : w.cell? ⟨g, o + k * 3 + 1, none⟩ = _ := hw.1; go_simp⟩) hHeld ?_
        simp only [Act.put, List.getElem_toArray, List.getElem_cons_zero, List.getElem_cons_succ, List.setIfInBounds_toArray, List.set_cons_zero, List.set_cons_succ]
        refine wpAnyH_take (i := 7) (v := .slice (some ⟨g, o, none⟩) ln c) rfl (by kernel_rfl) (by kernel_rfl) (by kernel_rfl) (fun _ _ _ h => h) (Or.inl ⟨by rfl, fun w hw => by go_simp⟩) hHeld ?_
        simp only [Act.put, List.getElem_toArray, List.getElem_cons_zero, List.getElem_cons_succ, List.setIfInBounds_toArray, List.set_cons_zero, List.set_cons_succ]
        refine wpAnyH_take (i := 8) (v := .int .i64 k) rfl (by kernel_rfl) (by kernel_rfl) (by kernel_rfl) (fun _ _ _ h => h) (Or.inl ⟨by rfl, fun w hw => by go_simp⟩) hHeld ?_
        simp only [Act.put, List.getElem_toArray, List.getElem_cons_zero, List.getElem_cons_succ, List.setIfInBounds_toArray, List.set_cons_zero, List.set_cons_succ]
        refine wpAnyH_take (i := 9) (v := .pointer (some ⟨g, o + k * 3, none⟩)) rfl (by kernel_rfl) (by kernel_rfl) (by kernel_rfl) (fun _ _ _ h => h) (Or.inl ⟨by rfl, fun w hw => by go_simp⟩) hHeld ?_
        simp only [Act.put, List.getElem_toArray, List.getElem_cons_zero, List.getElem_cons_succ, List.setIfInBounds_toArray, List.set_cons_zero, List.set_cons_succ]
        refine wpAnyH_take (i := 10) (v := .pointer (some ⟨g, o + k * 3 + 1, none⟩)) rfl (by kernel_rfl) (by kernel_rfl) (by kernel_rfl) (fun _ _ _ h => h) (Or.inl ⟨by rfl, fun w hw => by go_simp⟩) hHeld ?_
        simp only [Act.put, List.getElem_toArray, List.getElem_cons_zero, List.getElem_cons_succ, List.setIfInBounds_toArray, List.set_cons_zero, List.set_cons_succ]
        refine wpAnyH_take (i := 11) (v := .pointer (some ⟨g, o + k * 3 + 2, none⟩)) rfl (by kernel_rfl) (by kernel_rfl) (by kernel_rfl) (fun _ _ _ h => h) (Or.inl ⟨by rfl, fun w hw => by go_simp⟩) hHeld ?_
        simp only [Act.put, List.getElem_toArray, List.getElem_cons_zero, List.getElem_cons_succ, List.setIfInBounds_toArray, List.set_cons_zero, List.set_cons_succ]
        refine wpAnyH_take (i := 12) (v := .slice da dn dc) rfl (by kernel_rfl) (by kernel_rfl) (by kernel_rfl) (fun _ _ _ h => h) (Or.inl ⟨by rfl, fun w hw => by have hw2 : w.cell? ⟨g, o + k * 3 + 2, none⟩ = _ := hw.2; go_simp⟩) hHeld ?_
        simp only [Act.put, List.getElem_toArray, List.getElem_cons_zero, List.getElem_cons_succ, List.setIfInBounds_toArray, List.set_cons_zero, List.set_cons_succ]
        refine wpAnyH_ready (rs := [13]) (by kernel_rfl) (by simp) ?_
        refine AllReadyH.cons (o := _) rfl (fun K hK => ?_) AllReadyH.nil
        go_simp
        refine (full _ ul wr.drew HRB.out HUL.out).mono ?_
        rintro e w2 ⟨gb, rfl, hgb, hrb, hb2⟩
        have HB2 : Hid (RB w2 (.slice (some ⟨gb, 0, none⟩) 64 64) (fl ul) ∧ Below wr.heap.size wr w2) := ⟨hrb, ⟨hb2.os, hb2.tape, hb2.output, hb2.size, hb2.block⟩⟩
        have hh2 : w2.cell? ⟨g, o + k * 3 + 1, none⟩ = some (.int .i64 s) ∧ w2.cell? ⟨g, o + k * 3 + 2, none⟩ = some (.slice da dn dc) := ⟨(hb2.cell (p := ⟨g, o + k * 3 + 1, none⟩) hgr).trans hc2, (hb2.cell (p := ⟨g, o + k * 3 + 2, none⟩) hgr).trans hc3⟩
        clear hrb hb2 hgb
        go_wp2_with fail
        refine hK.out _ _ hh2 (fun hHeld => ?_)
        clear hK K
        refine wpAnyH_ready (rs := [14]) (by kernel_rfl) (by simp) ?_
        refine AllReadyH.cons (o := _) rfl (fun K hK => ?_) AllReadyH.nil
        go_simp
        refine (write (HH.out.1.below HB2.out.2) s HS64.out _ (fl ul) HB2.out.1 (fl_len _) HWL.out).mono ?_
        rintro e w3 ⟨rfl, hd3, hf3⟩
        have H3 := Lib.hid (act_write HH.out HB2.out.2 HT.out hd3 hf3)
        have hh3 : w3.cell? ⟨g, o + k * 3 + 1, none⟩ = some (.int .i64 s) ∧ w3.cell? ⟨g, o + k * 3 + 2, none⟩ = some (.slice da dn dc) := ⟨(World.cell?_of_block (w := w2) (hf3.block g (Nat.lt_of_lt_of_le hgr HB2.out.2.size) (fun h => by omega))).trans hh2.1, (World.cell?_of_block (w := w2) (hf3.block g (Nat.lt_of_lt_of_le hgr HB2.out.2.size) (fun h => by omega))).trans hh2.2⟩
        clear hd3 hf3 hh2
        go_wp2_with fail
        refine hK.out _ _ hh3 (fun hHeld => ?_)
        clear hK K
        refine wpAnyH_ready (rs := [15]) (by kernel_rfl) (by simp) ?_
        refine AllReadyH.cons (o := _) rfl (fun K hK => ?_) AllReadyH.nil
        go_simp
        refine hK.out _ _ hHeld (fun hHeld => ?_)
        clear hK K
        refine wpAnyH_done (by kernel_rfl) ?_ _
        clear hHeld hh3 HB2
        go_wp2_with fail
        go_roundw
        case rel => exact ⟨k + 1, by omega, by go_num, H3⟩
        case measure => (simp [intOf]; omega)
    · have hkn : k = xs.length := by rw [HLN.out]; omega
      have HE : Hid (AS w p D0 xs xs.length wr) := by rw [← hkn]; exact H.out
      have HE2 : Hid (DK (fun b => w.heap.size ≤ b) wr p (acts D0 xs) ∧ Below w.heap.size w wr) := by
        have h := HE.out
        unfold AS at h
        rw [List.take_length] at h
        exact h
      clear H hkn HE
      go_wp2_with fail
      go_ret
      exact ⟨_, rfl, by rw [← HDE.out]; exact HE2.out.1, HE2.out.2⟩
set_option maxHeartbeats 4000000 in
set_option maxRecDepth 100000 in
theorem acted_fuse (iv v : Value) (l : List UInt8) (xs : List Av) (n : Nat) (hn : n ≤ 9223372036854775807) (w : World) (hi : RB w iv l) (h1 : l.length % 64 = 0) (h2 : 64 ≤ l.length) (h3 : l.length ≤ 4194304) (hr : RAv w v xs) (hl : xs.length ≤ 1048576) (hin : ∀ x ∈ xs, Fits l.length x) :
    Calls Try.prog 30 #[iv, v, .int .i64 n] w (ActE w ⟨l, [], some n⟩ xs) := by
  have HLD := Lib.hid (load_ok iv l w hi h1 h2 h3)
  have HR : Hid (RAv w v xs) := hr
  have HIN : Hid (∀ x ∈ xs, Fits l.length x) := hin
  obtain ⟨a, c, rfl, _, _⟩ := hr.1
  obtain ⟨ia, ic, rfl, _, _⟩ := hi
  clear hr hin
  generalize hil : l.length = il at *
  have HIL : Hid (l.length = il) := hil
  clear hil
  generalize hln : xs.length = ln at *
  have HLN : Hid (xs.length = ln) := hln
  clear hln
  go_enter Try.func30, Try.ntmps30
  go_wp2_with fail
  refine HLD.out.mono ?_
  rintro e w1 ⟨p, rfl, _, hd, hb⟩
  have H00 : Hid (DK (fun b => w.heap.size ≤ b) w1 p ⟨l, [], none⟩ ∧ Below w.heap.size w w1) := ⟨hd, hb⟩
  clear hd hb HLD
  go_wp2_with fail
  refine (fuse_ok H00.out.1 rfl n hn).mono ?_
  rintro e w2 ⟨rfl, hd, hf⟩
  have H0 : Hid (AS w p ⟨l, [], some n⟩ xs 0 w2) := by
    have h1 := H00.out.2.size
    exact ⟨hd, ⟨hf.os.trans H00.out.2.os, hf.tape.trans H00.out.2.tape, hf.output.trans H00.out.2.output, Nat.le_trans h1 hf.size, fun b hb => (hf.block b (by omega) (by omega)).trans (H00.out.2.block b hb)⟩⟩
  clear hd hf H00
  obtain ⟨D0, hD0⟩ : ∃ D0 : Dk, D0 = ⟨l, [], some n⟩ := ⟨_, rfl⟩
  have HDE : Hid (D0 = ⟨l, [], some n⟩) := hD0
  rw [← hD0] at H0
  clear hD0
  have HFI : Hid (D0.last.length = il ∧ D0.ws.length = 0) := by rw [HDE.out]; exact ⟨HIL.out, rfl⟩
  go_wp2_with fail
  go_loopw [10] (fun i wr => ∃ k : Nat, k ≤ ln ∧ i = .int .i64 k ∧ Hid (AS w p D0 xs k wr)) (fun i _ => ln - (intOf i).toNat)
  case atStart => exact ⟨0, Nat.zero_le _, rfl, H0⟩
  case round =>
    clear H0
    obtain ⟨k, hk, rfl, H⟩ := hrel
    by_cases hlt : k < ln
    · obtain ⟨x, hx⟩ : ∃ x, xs[k]? = some x := ⟨xs[k]'(by rw [HLN.out]; exact hlt), List.getElem?_eq_getElem _⟩
      obtain ⟨g, o, rfl, hgw, hc1, hc2, hc3⟩ : ∃ g o, a = some ⟨g, o, none⟩ ∧ g < w.heap.size ∧ wr.cell? ⟨g, o + k * 3, none⟩ = some (.bool x.sy) ∧ wr.cell? ⟨g, o + k * 3 + 1, none⟩ = some (.int .i64 x.u.at_) ∧ wr.cell? ⟨g, o + k * 3 + 2, none⟩ = some x.u.dv := by
        obtain ⟨⟨a', c', e, _, h⟩, _⟩ := HR.out
        simp only [Value.slice.injEq] at e
        rcases h with h0 | ⟨g, o, e2, hg, h⟩
        · rw [h0] at hx; simp at hx
        · have hh := h k x hx
          exact ⟨g, o, by rw [e.1, e2], hg, (H.out.2.cell (p := ⟨g, o + k * 3, none⟩) hg).trans hh.1, (H.out.2.cell (p := ⟨g, o + k * 3 + 1, none⟩) hg).trans hh.2.1, (H.out.2.cell (p := ⟨g, o + k * 3 + 2, none⟩) hg).trans hh.2.2⟩
      have hgr : g < wr.heap.size := Nat.lt_of_lt_of_le hgw H.out.2.size
      have hxm := List.mem_of_getElem? hx
      have hfit := HIN.out x hxm
      have hrb0 := (HR.out.2 x hxm).1.keep H.out.2
      have HUL0 := (HR.out.2 x hxm).2
      have HT0 : acts D0 (xs.take (k + 1)) = act1 (acts D0 (xs.take k)) x := by
        obtain ⟨h1, h2⟩ := List.getElem?_eq_some_iff.1 hx
        rw [List.take_succ_eq_append_getElem h1, acts_snoc, h2]
      have HWL : Hid ((acts D0 (xs.take k)).ws.length < 1073741824) := by
        have h1 := acts_ws (xs.take k) D0
        have h2 := List.length_take_le k xs
        have h3 := HFI.out.2
        show (acts D0 (xs.take k)).ws.length < _
        omega
      have HLL : Hid ((acts D0 (xs.take k)).last.length = il) := (acts_len _ _).trans HFI.out.1
      have HH : Hid (DK (fun b => w.heap.size ≤ b) wr p (acts D0 (xs.take k)) ∧ Below w.heap.size w wr) := H.out
      generalize acts D0 (xs.take k) = D at *
      obtain ⟨sy, ua, ud, ul⟩ := x
      cases sy with
      | true =>
        have HN0 : Hid (acts D0 (xs.take (k + 1)) = if blownF D.fu then D else ⟨img D.last D.ws, [], burnt D.fu⟩) := HT0
        clear HT0 hrb0 HUL0 hxm hx H
        dsimp only at *
        go_wp2_with fail
        refine (act_sync HH.out).mono ?_
        rintro e w2 ⟨rfl, hd2, hb2⟩
        have HN : Hid (AS w p D0 xs (k + 1) w2) := ⟨by rw [HN0.out]; exact hd2, hb2⟩
        clear hd2 hb2 HH
        go_wp2_with fail
        go_roundw
        case rel => exact ⟨k + 1, by omega, by go_num, HN⟩
        case measure => (simp [intOf]; omega)
      | false =>
        have hin0 : 0 ≤ ua ∧ 64 * ua + 64 ≤ (il : Int) := by
          rcases hfit with h | h
          · cases h
          · exact h
        clear hfit
        dsimp only at *
        obtain ⟨hu0, hu1⟩ := hin0
        obtain ⟨s, rfl⟩ : ∃ s : Nat, ua = s := ⟨ua.toNat, by omega⟩
        have HT : Hid (acts D0 (xs.take (k + 1)) = ⟨D.last, D.ws ++ [⟨s, fl ul, blownF D.fu⟩], burnt D.fu⟩) := HT0
        have HUL : Hid (ul.length ≤ 140737488351232) := HUL0
        obtain ⟨da, dc, e, _⟩ := id hrb0
        obtain ⟨dn, hdn⟩ : ∃ dn, ul.length = dn := ⟨_, rfl⟩
        rw [hdn] at e
        subst e
        have HRB : Hid (RB wr.drew (.slice da dn dc) ul) := hrb0.keep (belowDrew wr 1)
        have HS64 : Hid (64 * s + 64 ≤ D.last.length) := by show 64 * s + 64 ≤ D.last.length; rw [HLL.out]; omega
        clear HT0 hrb0 HUL0 hxm hx H hdn
        go_wp2_with fail
        refine wp_region_held_drew (S := fun u => u.cell? ⟨g, o + k * 3 + 1, none⟩ = some (.int .i64 s) ∧ u.cell? ⟨g, o + k * 3 + 2, none⟩ = some (.slice da dn dc)) (by kernel_rfl) (⟨hc2, hc3⟩) (fun hHeld => ?_)
        refine wpAnyH_take (i := 0) (v := .pointer (some ⟨p, 0, none⟩)) rfl (by kernel_rfl) (by kernel_rfl) (by kernel_rfl) (fun _ _ _ h => h) (Or.inl ⟨by rfl, fun w hw => by go_simp⟩) hHeld ?_
        simp only [Act.put, List.getElem_toArray, List.getElem_cons_zero, List.setIfInBounds_toArray, List.set_cons_zero, List.set_cons_succ]
        refine wpAnyH_take (i := 1) (v := .slice (some ⟨g, o, none⟩) ln c) rfl (by kernel_rfl) (by kernel_rfl) (by kernel_rfl) (fun _ _ _ h => h) (Or.inl ⟨by rfl, fun w hw => by go_simp⟩) hHeld ?_
        simp only [Act.put, List.getElem_toArray, List.getElem_cons_zero, List.getElem_cons_succ, List.setIfInBounds_toArray, List.set_cons_zero, List.set_cons_succ]
        refine wpAnyH_take (i := 2) (v := .int .i64 k) rfl (by kernel_rfl) (by kernel_rfl) (by kernel_rfl) (fun _ _ _ h => h) (Or.inl ⟨by rfl, fun w hw => by go_simp⟩) hHeld ?_
        simp only [Act.put, List.getElem_toArray, List.getElem_cons_zero, List.getElem_cons_succ, List.setIfInBounds_toArray, List.set_cons_zero, List.set_cons_succ]
        refine wpAnyH_take (i := 3) (v := .pointer (some ⟨g, o + k * 3, none⟩)) rfl (by kernel_rfl) (by kernel_rfl) (by kernel_rfl) (fun _ _ _ h => h) (Or.inl ⟨by rfl, fun w hw => by go_simp⟩) hHeld ?_
        simp only [Act.put, List.getElem_toArray, List.getElem_cons_zero, List.getElem_cons_succ, List.setIfInBounds_toArray, List.set_cons_zero, List.set_cons_succ]
        refine wpAnyH_take (i := 4) (v := .pointer (some ⟨g, o + k * 3 + 1, none⟩)) rfl (by kernel_rfl) (by kernel_rfl) (by kernel_rfl) (fun _ _ _ h => h) (Or.inl ⟨by rfl, fun w hw => by go_simp⟩) hHeld ?_
        simp only [Act.put, List.getElem_toArray, List.getElem_cons_zero, List.getElem_cons_succ, List.setIfInBounds_toArray, List.set_cons_zero, List.set_cons_succ]
        refine wpAnyH_take (i := 5) (v := .pointer (some ⟨g, o + k * 3 + 1, none⟩)) rfl (by kernel_rfl) (by kernel_rfl) (by kernel_rfl) (fun _ _ _ h => h) (Or.inl ⟨by rfl, fun w hw => by go_simp⟩) hHeld ?_
        simp only [Act.put, List.getElem_toArray, List.getElem_cons_zero, List.getElem_cons_succ, List.setIfInBounds_toArray, List.set_cons_zero, List.set_cons_succ]
        refine wpAnyH_take (i := 6) (v := .int .i64 s) rfl (by kernel_rfl) (by kernel_rfl) (by kernel_rfl) (fun _ _ _ h => h) (Or.inl ⟨by rfl, fun w hw => by have hw2 : w.cell? ⟨g, o + k * 3 + 1, none⟩ = _ := hw.1; go_simp⟩) hHeld ?_
        simp only [Act.put, List.getElem_toArray, List.getElem_cons_zero, List.getElem_cons_succ, List.setIfInBounds_toArray, List.set_cons_zero, List.set_cons_succ]
        refine wpAnyH_take (i := 7) (v := .slice (some ⟨g, o, none⟩) ln c) rfl (by kernel_rfl) (by kernel_rfl) (by kernel_rfl) (fun _ _ _ h => h) (Or.inl ⟨by rfl, fun w hw => by go_simp⟩) hHeld ?_
        simp only [Act.put, List.getElem_toArray, List.getElem_cons_zero, List.getElem_cons_succ, List.setIfInBounds_toArray, List.set_cons_zero, List.set_cons_succ]
        refine wpAnyH_take (i := 8) (v := .int .i64 k) rfl (by kernel_rfl) (by kernel_rfl) (by kernel_rfl) (fun _ _ _ h => h) (Or.inl ⟨by rfl, fun w hw => by go_simp⟩) hHeld ?_
        simp only [Act.put, List.getElem_toArray, List.getElem_cons_zero, List.getElem_cons_succ, List.setIfInBounds_toArray, List.set_cons_zero, List.set_cons_succ]
        refine wpAnyH_take (i := 9) (v := .pointer (some ⟨g, o + k * 3, none⟩)) rfl (by kernel_rfl) (by kernel_rfl) (by kernel_rfl) (fun _ _ _ h => h) (Or.inl ⟨by rfl, fun w hw => by go_simp⟩) hHeld ?_
        simp only [Act.put, List.getElem_toArray, List.getElem_cons_zero, List.getElem_cons_succ, List.setIfInBounds_toArray, List.set_cons_zero, List.set_cons_succ]
        refine wpAnyH_take (i := 10) (v := .pointer (some ⟨g, o + k * 3 + 1, none⟩)) rfl (by kernel_rfl) (by kernel_rfl) (by kernel_rfl) (fun _ _ _ h => h) (Or.inl ⟨by rfl, fun w hw => by go_simp⟩) hHeld ?_
        simp only [Act.put, List.getElem_toArray, List.getElem_cons_zero, List.getElem_cons_succ, List.setIfInBounds_toArray, List.set_cons_zero, List.set_cons_succ]
        refine wpAnyH_take (i := 11) (v := .pointer (some ⟨g, o + k * 3 + 2, none⟩)) rfl (by kernel_rfl) (by kernel_rfl) (by kernel_rfl) (fun _ _ _ h => h) (Or.inl ⟨by rfl, fun w hw => by go_simp⟩) hHeld ?_
        simp only [Act.put, List.getElem_toArray, List.getElem_cons_zero, List.getElem_cons_succ, List.setIfInBounds_toArray, List.set_cons_zero, List.set_cons_succ]
        refine wpAnyH_take (i := 12) (v := .slice da dn dc) rfl (by kernel_rfl) (by kernel_rfl) (by kernel_rfl) (fun _ _ _ h => h) (Or.inl ⟨by rfl, fun w hw => by have hw2 : w.cell? ⟨g, o + k * 3 + 2, none⟩ = _ := hw.2; go_simp⟩) hHeld ?_
        simp only [Act.put, List.getElem_toArray, List.getElem_cons_zero, List.getElem_cons_succ, List.setIfInBounds_toArray, List.set_cons_zero, List.set_cons_succ]
        refine wpAnyH_ready (rs := [13]) (by kernel_rfl) (by simp) ?_
        refine AllReadyH.cons (o := _) rfl (fun K hK => ?_) AllReadyH.nil
        go_simp
        refine (full _ ul wr.drew HRB.out HUL.out).mono ?_
        rintro e w2 ⟨gb, rfl, hgb, hrb, hb2⟩
        have HB2 : Hid (RB w2 (.slice (some ⟨gb, 0, none⟩) 64 64) (fl ul) ∧ Below wr.heap.size wr w2) := ⟨hrb, ⟨hb2.os, hb2.tape, hb2.output, hb2.size, hb2.block⟩⟩
        have hh2 : w2.cell? ⟨g, o + k * 3 + 1, none⟩ = some (.int .i64 s) ∧ w2.cell? ⟨g, o + k * 3 + 2, none⟩ = some (.slice da dn dc) := ⟨(hb2.cell (p := ⟨g, o + k * 3 + 1, none⟩) hgr).trans hc2, (hb2.cell (p := ⟨g, o + k * 3 + 2, none⟩) hgr).trans hc3⟩
        clear hrb hb2 hgb
        go_wp2_with fail
        refine hK.out _ _ hh2 (fun hHeld => ?_)
        clear hK K
        refine wpAnyH_ready (rs := [14]) (by kernel_rfl) (by simp) ?_
        refine AllReadyH.cons (o := _) rfl (fun K hK => ?_) AllReadyH.nil
        go_simp
        refine (write (HH.out.1.below HB2.out.2) s HS64.out _ (fl ul) HB2.out.1 (fl_len _) HWL.out).mono ?_
        rintro e w3 ⟨rfl, hd3, hf3⟩
        have H3 := Lib.hid (act_write HH.out HB2.out.2 HT.out hd3 hf3)
        have hh3 : w3.cell? ⟨g, o + k * 3 + 1, none⟩ = some (.int .i64 s) ∧ w3.cell? ⟨g, o + k * 3 + 2, none⟩ = some (.slice da dn dc) := ⟨(World.cell?_of_block (w := w2) (hf3.block g (Nat.lt_of_lt_of_le hgr HB2.out.2.size) (fun h => by omega))).trans hh2.1, (World.cell?_of_block (w := w2) (hf3.block g (Nat.lt_of_lt_of_le hgr HB2.out.2.size) (fun h => by omega))).trans hh2.2⟩
        clear hd3 hf3 hh2
        go_wp2_with fail
        refine hK.out _ _ hh3 (fun hHeld => ?_)
        clear hK K
        refine wpAnyH_ready (rs := [15]) (by kernel_rfl) (by simp) ?_
        refine AllReadyH.cons (o := _) rfl (fun K hK => ?_) AllReadyH.nil
        go_simp
        refine hK.out _ _ hHeld (fun hHeld => ?_)
        clear hK K
        refine wpAnyH_done (by kernel_rfl) ?_ _
        clear hHeld hh3 HB2
        go_wp2_with fail
        go_roundw
        case rel => exact ⟨k + 1, by omega, by go_num, H3⟩
        case measure => (simp [intOf]; omega)
    · have hkn : k = xs.length := by rw [HLN.out]; omega
      have HE : Hid (AS w p D0 xs xs.length wr) := by rw [← hkn]; exact H.out
      have HE2 : Hid (DK (fun b => w.heap.size ≤ b) wr p (acts D0 xs) ∧ Below w.heap.size w wr) := by
        have h := HE.out
        unfold AS at h
        rw [List.take_length] at h
        exact h
      clear H hkn HE
      go_wp2_with fail
      go_ret
      exact ⟨_, rfl, by rw [← HDE.out]; exact HE2.out.1, HE2.out.2⟩
end Go.Proofs.Ytjgioiljhefcbaa
