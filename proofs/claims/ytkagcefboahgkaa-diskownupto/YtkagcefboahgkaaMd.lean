import Derived.Test.YtkagcefboahgkaaIn
import Derived.Deep.RegionHeld3
namespace Go.Proofs.Ytkagcefboahgkaa
open Go.RowKit
/-- the write as the disk has it -/
def mkW (u : Wv) : Wt := ⟨u.at_.toNat, fl u.dl, false⟩
/-- a disk being made -/
def MS (w : World) (p : Nat) (l : List UInt8) (us : List Wv) (k : Nat) (wr : World) : Prop := DK (fun b => w.heap.size ≤ b) wr p ⟨l, (us.take k).map mkW, none⟩ ∧ Below w.heap.size w wr
/-- a disk was made -/
def MadE (w : World) (l : List UInt8) (us : List Wv) (e : Ending) (w' : World) : Prop := ∃ p, e = .returned (.pointer (some ⟨p, 0, none⟩)) ∧ DK (fun b => w.heap.size ≤ b) w' p ⟨l, us.map mkW, none⟩ ∧ Below w.heap.size w w'
theorem made_step {w wr w2 w3 : World} {p k s : Nat} {l ul : List UInt8} {us : List Wv} (h : MS w p l us k wr) (hb : Below wr.heap.size wr w2) (ht : (us.take (k + 1)).map mkW = (us.take k).map mkW ++ [⟨s, fl ul, false⟩])
    (hd : DK (fun b => w.heap.size ≤ b ∨ w2.heap.size ≤ b) w3 p ⟨l, (us.take k).map mkW ++ [⟨s, fl ul, blownF none⟩], burnt none⟩) (hf : Fr (fun b => ¬ w.heap.size ≤ b) w2 w3) : MS w p l us (k + 1) w3 := by
  have h1 := h.2.size
  have h2 := hb.size
  refine ⟨?_, ?_⟩
  · rw [ht]
    exact hd.sub (fun b _ hb => hb.elim id (fun h => by omega))
  · have b2 : Below w.heap.size w w2 := h.2.trans (hb.mono h1)
    exact ⟨hf.os.trans b2.os, hf.tape.trans b2.tape, hf.output.trans b2.output, Nat.le_trans b2.size hf.size, fun b hb => (hf.block b (by omega) (by omega)).trans (b2.block b hb)⟩
set_option maxHeartbeats 4000000 in
set_option maxRecDepth 100000 in
theorem made (iv v : Value) (l : List UInt8) (us : List Wv) (w : World) (hi : RB w iv l) (h1 : l.length % 64 = 0) (h2 : 64 ≤ l.length) (h3 : l.length ≤ 4194304) (hr : RWv w v us) (hl : us.length ≤ 1048576) (hin : ∀ u ∈ us, 0 ≤ u.at_ ∧ 64 * u.at_ + 64 ≤ l.length) :
    Calls Try.prog 14 #[iv, v] w (MadE w l us) := by
  have HLD := Lib.hid (load_ok iv l w hi h1 h2 h3)
  have HR : Hid (RWv w v us) := hr
  have HIN : Hid (∀ u ∈ us, 0 ≤ u.at_ ∧ 64 * u.at_ + 64 ≤ l.length) := hin
  obtain ⟨a, c, rfl, _, _⟩ := hr.1
  obtain ⟨ia, ic, rfl, _, _⟩ := hi
  clear hr hin
  generalize hil : l.length = il at *
  have HIL : Hid (l.length = il) := hil
  clear hil
  generalize hln : us.length = ln at *
  have HLN : Hid (us.length = ln) := hln
  clear hln
  go_enter Try.func14, Try.ntmps14
  go_wp2_with fail
  refine HLD.out.mono ?_
  rintro e w1 ⟨p, rfl, _, hd, hb⟩
  have H0 : Hid (MS w p l us 0 w1) := ⟨hd, hb⟩
  clear hd hb HLD
  go_wp2_with fail
  go_loopw [7] (fun i wr => ∃ k : Nat, k ≤ ln ∧ i = .int .i64 k ∧ Hid (MS w p l us k wr)) (fun i _ => ln - (intOf i).toNat)
  case atStart => exact ⟨0, Nat.zero_le _, rfl, H0⟩
  case round =>
    clear H0
    obtain ⟨k, hk, rfl, H⟩ := hrel
    by_cases hlt : k < ln
    · obtain ⟨u, hu⟩ : ∃ u, us[k]? = some u := ⟨us[k]'(by rw [HLN.out]; exact hlt), List.getElem?_eq_getElem _⟩
      obtain ⟨g, o, rfl, hgw, hc1, hc2⟩ : ∃ g o, a = some ⟨g, o, none⟩ ∧ g < w.heap.size ∧ wr.cell? ⟨g, o + k * 2, none⟩ = some (.int .i64 u.at_) ∧ wr.cell? ⟨g, o + k * 2 + 1, none⟩ = some u.dv := by
        obtain ⟨⟨a', c', e, _, h⟩, _⟩ := HR.out
        simp only [Value.slice.injEq] at e
        rcases h with h0 | ⟨g, o, e2, hg, h⟩
        · rw [h0] at hu; simp at hu
        · have hh := h k u hu
          exact ⟨g, o, by rw [e.1, e2], hg, (H.out.2.cell (p := ⟨g, o + k * 2, none⟩) hg).trans hh.1, (H.out.2.cell (p := ⟨g, o + k * 2 + 1, none⟩) hg).trans hh.2⟩
      have hgr : g < wr.heap.size := Nat.lt_of_lt_of_le hgw H.out.2.size
      have hum := List.mem_of_getElem? hu
      obtain ⟨hu0, hu1⟩ := HIN.out u hum
      have hrb0 := (HR.out.2 u hum).1.keep H.out.2
      have HUL0 := (HR.out.2 u hum).2
      have HT0 : (us.take (k + 1)).map mkW = (us.take k).map mkW ++ [mkW u] := by
        obtain ⟨h1, h2⟩ := List.getElem?_eq_some_iff.1 hu
        rw [List.take_succ_eq_append_getElem h1, List.map_append, h2]
        rfl
      obtain ⟨ua, ud, ul⟩ := u
      dsimp only at *
      obtain ⟨s, rfl⟩ : ∃ s : Nat, ua = s := ⟨ua.toNat, by omega⟩
      have HT : Hid ((us.take (k + 1)).map mkW = (us.take k).map mkW ++ [⟨s, fl ul, false⟩]) := by
        show (us.take (k + 1)).map mkW = _
        rw [HT0]
        rfl
      have HUL : Hid (ul.length ≤ 140737488351232) := HUL0
      obtain ⟨da, dc, e, _⟩ := id hrb0
      obtain ⟨dn, hdn⟩ : ∃ dn, ul.length = dn := ⟨_, rfl⟩
      rw [hdn] at e
      subst e
      have HRB : Hid (RB wr.drew (.slice da dn dc) ul) := hrb0.keep (belowDrew wr 1)
      have HS64 : Hid (64 * s + 64 ≤ l.length) := by show 64 * s + 64 ≤ l.length; rw [HIL.out]; omega
      have HWL : Hid (((us.take k).map mkW).length < 1073741824) := by
        show ((us.take k).map mkW).length < 1073741824
        rw [List.length_map, List.length_take]; omega
      clear hu hum hu0 hu1 hrb0 HUL0 HT0 hdn
      go_wp2_with fail
      refine wp_region_held_drew (S := fun u => u.cell? ⟨g, o + k * 2, none⟩ = some (.int .i64 s) ∧ u.cell? ⟨g, o + k * 2 + 1, none⟩ = some (.slice da dn dc)) (by kernel_rfl) (⟨hc1, hc2⟩) (fun hHeld => ?_)
      refine wpAnyH_take (i := 0) (v := .pointer (some ⟨p, 0, none⟩)) rfl (by kernel_rfl) (by kernel_rfl) (by kernel_rfl) (fun _ _ _ h => h) (Or.inl ⟨by rfl, fun w hw => by go_simp⟩) hHeld ?_
      simp only [Act.put, List.getElem_toArray, List.getElem_cons_zero, List.setIfInBounds_toArray, List.set_cons_zero, List.set_cons_succ]
      refine wpAnyH_take (i := 1) (v := .slice (some ⟨g, o, none⟩) ln c) rfl (by kernel_rfl) (by kernel_rfl) (by kernel_rfl) (fun _ _ _ h => h) (Or.inl ⟨by rfl, fun w hw => by go_simp⟩) hHeld ?_
      simp only [Act.put, List.getElem_toArray, List.getElem_cons_zero, List.getElem_cons_succ, List.setIfInBounds_toArray, List.set_cons_zero, List.set_cons_succ]
      refine wpAnyH_take (i := 2) (v := .int .i64 k) rfl (by kernel_rfl) (by kernel_rfl) (by kernel_rfl) (fun _ _ _ h => h) (Or.inl ⟨by rfl, fun w hw => by go_simp⟩) hHeld ?_
      simp only [Act.put, List.getElem_toArray, List.getElem_cons_zero, List.getElem_cons_succ, List.setIfInBounds_toArray, List.set_cons_zero, List.set_cons_succ]
      refine wpAnyH_take (i := 3) (v := .pointer (some ⟨g, o + k * 2, none⟩)) rfl (by kernel_rfl) (by kernel_rfl) (by kernel_rfl) (fun _ _ _ h => h) (Or.inl ⟨by rfl, fun w hw => by go_simp⟩) hHeld ?_
      simp only [Act.put, List.getElem_toArray, List.getElem_cons_zero, List.getElem_cons_succ, List.setIfInBounds_toArray, List.set_cons_zero, List.set_cons_succ]
      refine wpAnyH_take (i := 4) (v := .pointer (some ⟨g, o + k * 2, none⟩)) rfl (by kernel_rfl) (by kernel_rfl) (by kernel_rfl) (fun _ _ _ h => h) (Or.inl ⟨by rfl, fun w hw => by go_simp⟩) hHeld ?_
      simp only [Act.put, List.getElem_toArray, List.getElem_cons_zero, List.getElem_cons_succ, List.setIfInBounds_toArray, List.set_cons_zero, List.set_cons_succ]
      refine wpAnyH_take (i := 5) (v := .int .i64 s) rfl (by kernel_rfl) (by kernel_rfl) (by kernel_rfl) (fun _ _ _ h => h) (Or.inl ⟨by rfl, fun w hw => by have hw2 : w.cell? ⟨g, o + k * 2, none⟩ = _ := hw.1; go_simp⟩) hHeld ?_
      simp only [Act.put, List.getElem_toArray, List.getElem_cons_zero, List.getElem_cons_succ, List.setIfInBounds_toArray, List.set_cons_zero, List.set_cons_succ]
      refine wpAnyH_take (i := 6) (v := .slice (some ⟨g, o, none⟩) ln c) rfl (by kernel_rfl) (by kernel_rfl) (by kernel_rfl) (fun _ _ _ h => h) (Or.inl ⟨by rfl, fun w hw => by go_simp⟩) hHeld ?_
      simp only [Act.put, List.getElem_toArray, List.getElem_cons_zero, List.getElem_cons_succ, List.setIfInBounds_toArray, List.set_cons_zero, List.set_cons_succ]
      refine wpAnyH_take (i := 7) (v := .int .i64 k) rfl (by kernel_rfl) (by kernel_rfl) (by kernel_rfl) (fun _ _ _ h => h) (Or.inl ⟨by rfl, fun w hw => by go_simp⟩) hHeld ?_
      simp only [Act.put, List.getElem_toArray, List.getElem_cons_zero, List.getElem_cons_succ, List.setIfInBounds_toArray, List.set_cons_zero, List.set_cons_succ]
      refine wpAnyH_take (i := 8) (v := .pointer (some ⟨g, o + k * 2, none⟩)) rfl (by kernel_rfl) (by kernel_rfl) (by kernel_rfl) (fun _ _ _ h => h) (Or.inl ⟨by rfl, fun w hw => by go_simp⟩) hHeld ?_
      simp only [Act.put, List.getElem_toArray, List.getElem_cons_zero, List.getElem_cons_succ, List.setIfInBounds_toArray, List.set_cons_zero, List.set_cons_succ]
      refine wpAnyH_take (i := 9) (v := .pointer (some ⟨g, o + k * 2 + 1, none⟩)) rfl (by kernel_rfl) (by kernel_rfl) (by kernel_rfl) (fun _ _ _ h => h) (Or.inl ⟨by rfl, fun w hw => by go_simp⟩) hHeld ?_
      simp only [Act.put, List.getElem_toArray, List.getElem_cons_zero, List.getElem_cons_succ, List.setIfInBounds_toArray, List.set_cons_zero, List.set_cons_succ]
      refine wpAnyH_take (i := 10) (v := .slice da dn dc) rfl (by kernel_rfl) (by kernel_rfl) (by kernel_rfl) (fun _ _ _ h => h) (Or.inl ⟨by rfl, fun w hw => by have hw2 : w.cell? ⟨g, o + k * 2 + 1, none⟩ = _ := hw.2; go_simp⟩) hHeld ?_
      simp only [Act.put, List.getElem_toArray, List.getElem_cons_zero, List.getElem_cons_succ, List.setIfInBounds_toArray, List.set_cons_zero, List.set_cons_succ]
      refine wpAnyH_ready (rs := [11]) (by kernel_rfl) (by simp) ?_
      refine AllReadyH.cons (o := _) rfl (fun K hK => ?_) AllReadyH.nil
      go_simp
      refine (full _ ul wr.drew HRB.out HUL.out).mono ?_
      rintro e w2 ⟨gb, rfl, hgb, hrb, hb2⟩
      have HB2 : Hid (RB w2 (.slice (some ⟨gb, 0, none⟩) 64 64) (fl ul) ∧ Below wr.heap.size wr w2) := ⟨hrb, ⟨hb2.os, hb2.tape, hb2.output, hb2.size, hb2.block⟩⟩
      have hh2 : w2.cell? ⟨g, o + k * 2, none⟩ = some (.int .i64 s) ∧ w2.cell? ⟨g, o + k * 2 + 1, none⟩ = some (.slice da dn dc) := ⟨(hb2.cell (p := ⟨g, o + k * 2, none⟩) hgr).trans hc1, (hb2.cell (p := ⟨g, o + k * 2 + 1, none⟩) hgr).trans hc2⟩
      clear hrb hb2 hgb
      go_wp2_with fail
      refine hK.out _ _ hh2 (fun hHeld => ?_)
      clear hK K
      refine wpAnyH_ready (rs := [12]) (by kernel_rfl) (by simp) ?_
      refine AllReadyH.cons (o := _) rfl (fun K hK => ?_) AllReadyH.nil
      go_simp
      refine (write (H.out.1.below HB2.out.2) s HS64.out _ (fl ul) HB2.out.1 (fl_len _) HWL.out).mono ?_
      rintro e w3 ⟨rfl, hd3, hf3⟩
      have H3 := Lib.hid (made_step H.out HB2.out.2 HT.out hd3 hf3)
      have hh3 : w3.cell? ⟨g, o + k * 2, none⟩ = some (.int .i64 s) ∧ w3.cell? ⟨g, o + k * 2 + 1, none⟩ = some (.slice da dn dc) := ⟨(World.cell?_of_block (w := w2) (hf3.block g (Nat.lt_of_lt_of_le hgr HB2.out.2.size) (fun h => by omega))).trans hh2.1, (World.cell?_of_block (w := w2) (hf3.block g (Nat.lt_of_lt_of_le hgr HB2.out.2.size) (fun h => by omega))).trans hh2.2⟩
      clear hd3 hf3 hh2
      go_wp2_with fail
      refine hK.out _ _ hh3 (fun hHeld => ?_)
      clear hK K
      refine wpAnyH_ready (rs := [13]) (by kernel_rfl) (by simp) ?_
      refine AllReadyH.cons (o := _) rfl (fun K hK => ?_) AllReadyH.nil
      go_simp
      refine hK.out _ _ hHeld (fun hHeld => ?_)
      clear hK K
      refine wpAnyH_done (by kernel_rfl) ?_ _
      clear hHeld hh3 HB2
      go_wp2_with fail
      go_roundw
      case rel => exact ⟨k + 1, by omega, by go_num, H3⟩
      case measure => (simp [intOf]; omega)
    · have hkn : k = us.length := by rw [HLN.out]; omega
      have HE : Hid (MadE w l us (.returned (.pointer (some ⟨p, 0, none⟩))) wr) := ⟨p, rfl, by have := H.out.1; rw [hkn, List.take_length] at this; exact this, H.out.2⟩
      clear H hkn
      go_wp2_with fail
      go_ret
      exact HE.out
end Go.Proofs.Ytkagcefboahgkaa
