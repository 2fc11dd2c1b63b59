import Derived.Test.YtnmeohacdbmplaaGreatDoorM15
import Derived.Test.YtnmeohacdbmplaaGreatDoorM17
import Derived.Test.YtnmeohacdbmplaaGreatDoorM12
import Derived.Test.YtnmeohacdbmplaaGreatDoorM06
namespace Go.Proofs.YtnmeohacdbmplaaGreatDoor
open Go.RowKit
/-- what the peer has behind a message -/
def HN (w w' : World) (n : Nat) (P : Pv) (H : List UInt8) (m : Mv) (D : List UInt8) (hv : Value) (H' : List UInt8) : Prop :=
  (m.k = 4 ∧ ((Bs.gB (n : Int) H m.i = true ∧ hv = P.hs ∧ H' = H) ∨ (Bs.gB (n : Int) H m.i = false ∧ Bs.PU (n : Int) H m.i true H' ∧ OW w.heap.size w' hv H'))) ∨
  (m.k = 5 ∧ H' = D ∧ OW w.heap.size w' hv D) ∨ (m.k ≠ 4 ∧ m.k ≠ 5 ∧ hv = P.hs ∧ H' = H)
/-- the connection behind a message -/
def Pv.took (P : Pv) (hv : Value) (k : Int) : Pv := { P with hs := hv, ic := (sy k P.ic P.ii P.ib).1, ii := (sy k P.ic P.ii P.ib).2.1, ib := (sy k P.ic P.ii P.ib).2.2 }
theorem OW.frame {B g : Nat} {w w' : World} {v : Value} {l : List UInt8} (h : OW B w v l) (hg : g < B) (hf : Fm.Fr (fun k => k ≠ g) w w') : OW B w' v l := by
  refine ⟨h.1, ?_⟩
  rcases h.2 with h1 | ⟨q, cap, cur, h1, h2, h3, h4⟩
  · exact .inl h1
  · exact .inr ⟨q, cap, cur, h1, h2, (hf.block q (Array.getElem?_eq_some_iff.1 h3).1 (by omega)).trans h3, h4⟩
theorem frT {S : Nat → Prop} {a b c : World} (h1 : Fm.Fr S a b) (h2 : Fm.Fr S b c) : Fm.Fr S a c := h1.trans h2 (fun _ _ h => h)
set_option maxHeartbeats 2000000 in
set_option maxRecDepth 100000 in
theorem takeT (w : World) (g : Nat) (P : Pv) (L : List Int) (h : PL w g P L) (H : List UInt8) (hr : RB w P.hs H) (hH : H.length ≤ 140737488351232) (m : Mv) (D : List UInt8) (hd : RB w m.d D) (hD : D.length ≤ 140737488351232) (hmt : Bs.MT w) (i0 : -9223372036854775808 ≤ m.i) (i1 : m.i ≤ 9223372036854775807) :
    Calls Tryz.prog 63 #[.pointer (some ⟨g, 0, none⟩), .agg m.cs] w fun e w' => e = .returned (.tuple #[]) ∧ ∃ hv H', PK w' g (P.took hv m.k) ∧ HN w w' L.length P H m D hv H' ∧ Fm.Fr (fun k => k ≠ g) w w' := by
  obtain ⟨da, dc, hda, _⟩ := id hd
  have hb : MB (w.alloc (.cells m.cs 47)) w.heap.size m := heapNew w (.cells m.cs 47)
  have HB : Hid (Below w.heap.size w (w.alloc (.cells m.cs 47))) := (Below.refl _ _).alloc (Nat.le_refl _) _
  have HS0 : Hid (MB (w.alloc (.cells m.cs 47)) w.heap.size m) := hb
  have hgl := h.pk.lt
  have HP0 : Hid (PL (w.alloc (.cells m.cs 47)) g P L) := h.below HB.out
  have c0 := hb.c0
  have c1 := hb.c1
  have c4 := hb.cell 4 (show m.ls[4]? = some m.d from rfl)
  have hsz : (w.alloc (.cells m.cs 47)).heap.size = w.heap.size + 1 := by show (w.heap.push _).size = _; simp
  rw [hda] at c4
  by_cases k4 : m.k = 4
  · have HGn : Hid (Calls Tryz.prog 78 #[.pointer (some ⟨g, 0, none⟩), .int .i64 m.i] (w.alloc (.cells m.cs 47)) fun e w' => e = .returned (.tuple #[]) ∧ ∃ hv H', PK w' g { P with hs := hv } ∧ ((Bs.gB (L.length : Int) H m.i = true ∧ hv = P.hs ∧ H' = H) ∨ (Bs.gB (L.length : Int) H m.i = false ∧ Bs.PU (L.length : Int) H m.i true H' ∧ OW (w.alloc (.cells m.cs 47)).heap.size w' hv H')) ∧ Fm.Fr (fun k => k ≠ g) (w.alloc (.cells m.cs 47)) w') := by
      obtain ⟨la, lc, e, _⟩ := h.rz
      exact gainT _ g P HP0.out.pk L la lc e h.ok.1 H (hr.keep HB.out) hH (hmt.keep HB.out) m.i i0 i1
    have hkk := k4
    rw [k4] at c0
    clear h hr hd hmt hb
    go_enter Tryz.func63, Tryz.ntmps63
    go_wp2_with fail
    refine HGn.out.mono ?_
    rintro e w1 ⟨rfl, hv, H', k1, hn, f1⟩
    have HM1 : MB w1 w.heap.size m := (f1.block w.heap.size (by omega) (by omega)).trans HS0.out
    have HMM := Lib.hid HM1
    have HK1 := Lib.hid k1
    have HN1 := Lib.hid hn
    have HF1 := Lib.hid f1
    clear HM1 k1 hn f1 HGn c0 c1 c4 HS0
    go_upto_region 6 with fail
    refine wp_region_held_drew (S := fun u => MB u w.heap.size m) (by kernel_rfl) (HMM.out.below (belowDrew w1 1)) (fun hHeld => ?_)
    refine wpAnyH_take (i := 0) (v := .pointer (some ⟨g, 0, none⟩)) rfl (by kernel_rfl) (by kernel_rfl) (by kernel_rfl) (fun _ _ _ h => h) (Or.inl ⟨by rfl, fun w hw => by go_simp⟩) hHeld ?_
    simp only [Act.put, List.getElem_toArray, List.getElem_cons_zero, List.setIfInBounds_toArray, List.set_cons_zero, List.set_cons_succ]
    refine wpAnyH_take (i := 1) (v := .pointer (some ⟨g, 0, none⟩)) rfl (by kernel_rfl) (by kernel_rfl) (by kernel_rfl) (fun _ _ _ h => h) (Or.inl ⟨by rfl, fun w hw => by go_simp⟩) hHeld ?_
    simp only [Act.put, List.getElem_toArray, List.getElem_cons_zero, List.getElem_cons_succ, List.setIfInBounds_toArray, List.set_cons_zero, List.set_cons_succ]
    refine wpAnyH_take (i := 2) (v := .pointer (some ⟨g, 28, none⟩)) rfl (by kernel_rfl) (by kernel_rfl) (by kernel_rfl) (fun _ _ _ h => h) (Or.inl ⟨by rfl, fun w hw => by go_simp⟩) hHeld ?_
    simp only [Act.put, List.getElem_toArray, List.getElem_cons_zero, List.getElem_cons_succ, List.setIfInBounds_toArray, List.set_cons_zero, List.set_cons_succ]
    refine wpAnyH_take (i := 3) (v := .pointer (some ⟨w.heap.size, 0, none⟩)) rfl (by kernel_rfl) (by kernel_rfl) (by kernel_rfl) (fun _ _ _ h => h) (Or.inl ⟨by rfl, fun w hw => by go_simp⟩) hHeld ?_
    simp only [Act.put, List.getElem_toArray, List.getElem_cons_zero, List.getElem_cons_succ, List.setIfInBounds_toArray, List.set_cons_zero, List.set_cons_succ]
    refine wpAnyH_take (i := 4) (v := .int .i64 4) rfl (by kernel_rfl) (by kernel_rfl) (by kernel_rfl) (fun _ _ _ h => h) (Or.inl ⟨by rfl, fun w hw => by have hq := hw.c0; rw [hkk] at hq; go_simp⟩) hHeld ?_
    simp only [Act.put, List.getElem_toArray, List.getElem_cons_zero, List.getElem_cons_succ, List.setIfInBounds_toArray, List.set_cons_zero, List.set_cons_succ]
    refine wpAnyH_ready (rs := [5]) (by kernel_rfl) (by simp) ?_
    refine AllReadyH.cons (o := _) rfl (fun K hK => ?_) AllReadyH.nil
    go_simp
    refine (saysI w1.drew g _ (HK1.out.keep rfl) 4).mono ?_
    rintro e w9 ⟨rfl, k9, f9⟩
    have HF : Hid _ := And.intro k9 f9
    have hm9 : MB w9 w.heap.size m := (f9.block w.heap.size (HMM.out.lt) (by omega)).trans HMM.out
    clear k9 f9
    go_wp2_with fail
    refine hK.out _ _ hm9 (fun hHeld => ?_)
    clear hK K
    refine wpAnyH_done (by kernel_rfl) ?_ _
    clear hHeld
    go_wp2
    go_end0
    refine ⟨rfl, hv, H', by have := HF.out.1; rw [hkk]; exact this, .inl ⟨hkk, ?_⟩, ?_⟩
    · rcases HN1.out with h1 | ⟨h1, h2, h3⟩
      · exact .inl h1
      · exact .inr ⟨h1, h2, OW.frame (h3.mono (by omega)) hgl (frT (Fm.Fr.of_below (belowDrew w1 1)) HF.out.2)⟩
    · exact frT (Fm.Fr.of_below HB.out) (frT HF1.out (frT (Fm.Fr.of_below (belowDrew w1 1)) HF.out.2))
  by_cases k5 : m.k = 5
  · have HCl : Hid (Calls Tryz.prog 42 #[.slice da D.length dc] (w.alloc (.cells m.cs 47)) fun e w' => ∃ v', e = .returned v' ∧ Bs.OW (w.alloc (.cells m.cs 47)).heap.size w' v' D ∧ Below (w.alloc (.cells m.cs 47)).heap.size (w.alloc (.cells m.cs 47)) w') := by
      have h9 := Bs.clone34 m.d D (w.alloc (.cells m.cs 47)) (bsRB (hd.keep HB.out)) hD
      rw [hda] at h9
      exact h9
    have q4 : (m.k == 4) = false := by simp [k4]
    have hkk := k5
    rw [k5] at c0 q4
    clear h hr hd hmt hb
    go_enter Tryz.func63, Tryz.ntmps63
    go_wp2_with fail
    refine HCl.out.mono ?_
    rintro e w1 ⟨v1, rfl, o1, b1⟩
    obtain ⟨a1, c1', rfl⟩ := (bsOW o1).form
    have K1 := HP0.out.pk.keep (b1.block g (by omega))
    have c31 := K1.cells.2.2.2.2.2
    have f31 := K1.fr 31
    have HMM0 := Lib.hid (HS0.out.below b1)
    have HK2 : Hid (PK (w1.setCell ⟨g, 31, none⟩ (.slice a1 D.length c1')) g { P with hs := .slice a1 D.length c1' }) := K1.set 11 _ _ rfl rfl
    have HF2 : Hid (Fm.Fr (fun k => k ≠ g) (w.alloc (.cells m.cs 47)) (w1.setCell ⟨g, 31, none⟩ (.slice a1 D.length c1'))) := (Fm.Fr.of_below b1).setCell g 31 _ (fun h => h rfl)
    have HO2 : Hid (OW w.heap.size (w1.setCell ⟨g, 31, none⟩ (.slice a1 D.length c1')) (.slice a1 D.length c1') D) := OW.setOther ((bsOW o1).mono (by omega)) hgl _ _
    have HM2 : Hid (MB (w1.setCell ⟨g, 31, none⟩ (.slice a1 D.length c1')) w.heap.size m) := (Below.heap_setCell w1 ⟨g, 31, none⟩ _ w.heap.size (by show w.heap.size ≠ g; omega)).trans HMM0.out
    clear o1 b1 K1 HMM0 HCl
    go_upto_region 6 with fail
    obtain ⟨w2, hw2⟩ : ∃ u, u = w1.setCell ⟨g, 31, none⟩ (.slice a1 D.length c1') := ⟨_, rfl⟩
    rw [← hw2] at HK2 HF2 HO2 HM2 ⊢
    clear hw2 c31 f31 c0 c1 c4 HS0
    refine wp_region_held_drew (S := fun u => MB u w.heap.size m) (by kernel_rfl) (HM2.out.below (belowDrew w2 1)) (fun hHeld => ?_)
    refine wpAnyH_take (i := 0) (v := .pointer (some ⟨g, 0, none⟩)) rfl (by kernel_rfl) (by kernel_rfl) (by kernel_rfl) (fun _ _ _ h => h) (Or.inl ⟨by rfl, fun w hw => by go_simp⟩) hHeld ?_
    simp only [Act.put, List.getElem_toArray, List.getElem_cons_zero, List.setIfInBounds_toArray, List.set_cons_zero, List.set_cons_succ]
    refine wpAnyH_take (i := 1) (v := .pointer (some ⟨g, 0, none⟩)) rfl (by kernel_rfl) (by kernel_rfl) (by kernel_rfl) (fun _ _ _ h => h) (Or.inl ⟨by rfl, fun w hw => by go_simp⟩) hHeld ?_
    simp only [Act.put, List.getElem_toArray, List.getElem_cons_zero, List.getElem_cons_succ, List.setIfInBounds_toArray, List.set_cons_zero, List.set_cons_succ]
    refine wpAnyH_take (i := 2) (v := .pointer (some ⟨g, 28, none⟩)) rfl (by kernel_rfl) (by kernel_rfl) (by kernel_rfl) (fun _ _ _ h => h) (Or.inl ⟨by rfl, fun w hw => by go_simp⟩) hHeld ?_
    simp only [Act.put, List.getElem_toArray, List.getElem_cons_zero, List.getElem_cons_succ, List.setIfInBounds_toArray, List.set_cons_zero, List.set_cons_succ]
    refine wpAnyH_take (i := 3) (v := .pointer (some ⟨w.heap.size, 0, none⟩)) rfl (by kernel_rfl) (by kernel_rfl) (by kernel_rfl) (fun _ _ _ h => h) (Or.inl ⟨by rfl, fun w hw => by go_simp⟩) hHeld ?_
    simp only [Act.put, List.getElem_toArray, List.getElem_cons_zero, List.getElem_cons_succ, List.setIfInBounds_toArray, List.set_cons_zero, List.set_cons_succ]
    refine wpAnyH_take (i := 4) (v := .int .i64 5) rfl (by kernel_rfl) (by kernel_rfl) (by kernel_rfl) (fun _ _ _ h => h) (Or.inl ⟨by rfl, fun w hw => by have hq := hw.c0; rw [hkk] at hq; go_simp⟩) hHeld ?_
    simp only [Act.put, List.getElem_toArray, List.getElem_cons_zero, List.getElem_cons_succ, List.setIfInBounds_toArray, List.set_cons_zero, List.set_cons_succ]
    refine wpAnyH_ready (rs := [5]) (by kernel_rfl) (by simp) ?_
    refine AllReadyH.cons (o := _) rfl (fun K hK => ?_) AllReadyH.nil
    go_simp
    refine (saysI w2.drew g _ (HK2.out.keep rfl) 5).mono ?_
    rintro e w9 ⟨rfl, k9, f9⟩
    have HF : Hid _ := And.intro k9 f9
    have hm9 : MB w9 w.heap.size m := (f9.block w.heap.size (HM2.out.lt) (by omega)).trans HM2.out
    clear k9 f9
    go_wp2_with fail
    refine hK.out _ _ hm9 (fun hHeld => ?_)
    clear hK K
    refine wpAnyH_done (by kernel_rfl) ?_ _
    clear hHeld
    go_wp2
    go_end0
    exact ⟨rfl, _, D, by have := HF.out.1; rw [hkk]; exact this, .inr (.inl ⟨hkk, rfl, OW.frame HO2.out hgl (frT (Fm.Fr.of_below (belowDrew w2 1)) HF.out.2)⟩), frT (Fm.Fr.of_below HB.out) (frT HF2.out (frT (Fm.Fr.of_below (belowDrew w2 1)) HF.out.2))⟩
  · have q4 : (m.k == 4) = false := by simp [k4]
    have q5 : (m.k == 5) = false := by simp [k5]
    have HKK : Hid (m.k ≠ 4 ∧ m.k ≠ 5) := ⟨k4, k5⟩
    clear h hr hd hmt hb k4 k5
    go_enter Tryz.func63, Tryz.ntmps63
    go_upto_region 6 with fail
    refine wp_region_held_drew (S := fun u => MB u w.heap.size m) (by kernel_rfl) (HS0.out.below (belowDrew (w.alloc (.cells m.cs 47)) 1)) (fun hHeld => ?_)
    refine wpAnyH_take (i := 0) (v := .pointer (some ⟨g, 0, none⟩)) rfl (by kernel_rfl) (by kernel_rfl) (by kernel_rfl) (fun _ _ _ h => h) (Or.inl ⟨by rfl, fun w hw => by go_simp⟩) hHeld ?_
    simp only [Act.put, List.getElem_toArray, List.getElem_cons_zero, List.setIfInBounds_toArray, List.set_cons_zero, List.set_cons_succ]
    refine wpAnyH_take (i := 1) (v := .pointer (some ⟨g, 0, none⟩)) rfl (by kernel_rfl) (by kernel_rfl) (by kernel_rfl) (fun _ _ _ h => h) (Or.inl ⟨by rfl, fun w hw => by go_simp⟩) hHeld ?_
    simp only [Act.put, List.getElem_toArray, List.getElem_cons_zero, List.getElem_cons_succ, List.setIfInBounds_toArray, List.set_cons_zero, List.set_cons_succ]
    refine wpAnyH_take (i := 2) (v := .pointer (some ⟨g, 28, none⟩)) rfl (by kernel_rfl) (by kernel_rfl) (by kernel_rfl) (fun _ _ _ h => h) (Or.inl ⟨by rfl, fun w hw => by go_simp⟩) hHeld ?_
    simp only [Act.put, List.getElem_toArray, List.getElem_cons_zero, List.getElem_cons_succ, List.setIfInBounds_toArray, List.set_cons_zero, List.set_cons_succ]
    refine wpAnyH_take (i := 3) (v := .pointer (some ⟨w.heap.size, 0, none⟩)) rfl (by kernel_rfl) (by kernel_rfl) (by kernel_rfl) (fun _ _ _ h => h) (Or.inl ⟨by rfl, fun w hw => by go_simp⟩) hHeld ?_
    simp only [Act.put, List.getElem_toArray, List.getElem_cons_zero, List.getElem_cons_succ, List.setIfInBounds_toArray, List.set_cons_zero, List.set_cons_succ]
    refine wpAnyH_take (i := 4) (v := .int .i64 m.k) rfl (by kernel_rfl) (by kernel_rfl) (by kernel_rfl) (fun _ _ _ h => h) (Or.inl ⟨by rfl, fun w hw => by have hq := hw.c0; go_simp⟩) hHeld ?_
    simp only [Act.put, List.getElem_toArray, List.getElem_cons_zero, List.getElem_cons_succ, List.setIfInBounds_toArray, List.set_cons_zero, List.set_cons_succ]
    refine wpAnyH_ready (rs := [5]) (by kernel_rfl) (by simp) ?_
    refine AllReadyH.cons (o := _) rfl (fun K hK => ?_) AllReadyH.nil
    go_simp
    refine (saysI (w.alloc (.cells m.cs 47)).drew g _ (HP0.out.pk.keep rfl) m.k).mono ?_
    rintro e w9 ⟨rfl, k9, f9⟩
    have HF : Hid _ := And.intro k9 f9
    have hm9 : MB w9 w.heap.size m := (f9.block w.heap.size (HS0.out.lt) (by omega)).trans HS0.out
    clear k9 f9
    go_wp2_with fail
    refine hK.out _ _ hm9 (fun hHeld => ?_)
    clear hK K
    refine wpAnyH_done (by kernel_rfl) ?_ _
    clear hHeld
    go_wp2
    go_end0
    exact ⟨rfl, P.hs, H, HF.out.1, .inr (.inr ⟨HKK.out.1, HKK.out.2, rfl, rfl⟩), frT (Fm.Fr.of_below HB.out) (frT (Fm.Fr.of_below (belowDrew _ 1)) HF.out.2)⟩
end Go.Proofs.YtnmeohacdbmplaaGreatDoor
namespace Go.Proofs.YtnmeohacdbmplaaGreatDoor
open Go.RowKit
/-- a message whose lists the call owns -/
structure OMg (B : Nat) (w : World) (x : Mg) : Prop where
  ok : x.m.ok
  d : OW B w x.m.d x.D
  h : OH B w x.m.h x.hb
  dl : x.D.length ≤ 32768
  hl : x.hb.length ≤ 32768
theorem OMg.mm {B : Nat} {w : World} {x : Mg} (h : OMg B w x) : MM w x.m x.D x.hb := ⟨h.ok, h.d.rb, h.h.rh, by have := h.dl; omega, by have := h.hl; omega⟩
/-- a list of messages that the call owns -/
def OMS (B : Nat) (w : World) (v : Value) (ms : List Mg) : Prop := w.ownsRow B 47 40 v ms.length (ms.flatMap fun x => x.m.ls) ∧ ∀ x ∈ ms, OMg B w x
theorem OMS.nil (B : Nat) (w : World) : OMS B w (.slice none 0 0) [] := ⟨World.ownsRow_nil _ _ _ _, by simp⟩
theorem ok_ls {m : Mv} (h : m.ok) : m.ls.length = 40 := by have := h.size; unfold Mv.cs at this; simpa using this
theorem flat40 (ms : List Mg) (h : ∀ x ∈ ms, x.m.ls.length = 40) (i : Nat) (x : Mg) (hi : ms[i]? = some x) (j : Nat) (hj : j < 40) : (ms.flatMap fun x => x.m.ls)[i * 40 + j]? = x.m.ls[j]? := by
  induction ms generalizing i with
  | nil => simp at hi
  | cons y l ih =>
    have hy : y.m.ls.length = 40 := h y (by simp)
    cases i with
    | zero =>
      simp at hi; subst hi
      rw [List.flatMap_cons, Nat.zero_mul, Nat.zero_add, List.getElem?_append_left (by omega)]
    | succ i =>
      rw [List.flatMap_cons, List.getElem?_append_right (by omega), hy, show (i + 1) * 40 + j - 40 = i * 40 + j by omega]
      exact ih (fun z hz => h z (by simp [hz])) i (by simpa using hi)
theorem OMS.rms {B : Nat} {w : World} {v : Value} {ms : List Mg} (h : OMS B w v ms) : RMS w v ms := by
  have h40 : ∀ x ∈ ms, x.m.ls.length = 40 := fun x hx => ok_ls (h.2 x hx).ok
  have h' := h.1
  rcases h.1.2 with ⟨rfl, h0⟩ | ⟨g, cap, cur, rfl, _, hg, hle, _⟩
  · exact ⟨none, 0, by rw [h0], by omega, .inl (List.length_eq_zero_iff.1 h0), fun x hx => (h.2 x hx).mm⟩
  · refine ⟨_, cap, rfl, hle, .inr ⟨g, 0, rfl, (Array.getElem?_eq_some_iff.1 hg).1, fun i x hx j u hu => ?_⟩, fun x hx => (h.2 x hx).mm⟩
    have hj : j < 40 := by
      have := (List.getElem?_eq_some_iff.1 hu).1
      rw [h40 x (List.mem_of_getElem? hx)] at this
      exact this
    have hi : i < ms.length := (List.getElem?_eq_some_iff.1 hx).1
    have := World.ownsRow.cellAt h' (i * 40 + j) (by omega)
    rw [Nat.zero_add, this, flat40 ms h40 i x hx j hj, hu]
theorem OMS.form {B : Nat} {w : World} {v : Value} {ms : List Mg} (h : OMS B w v ms) : ∃ a c, v = .slice a ms.length c := by
  obtain ⟨a, c, e, _⟩ := h.rms
  exact ⟨a, c, e⟩
theorem OMg.grow {B : Nat} {w w' : World} {x : Mg} (h : OMg B w x) (hb : Below w.heap.size w w') : OMg B w' x := ⟨h.ok, h.d.grow hb, h.h.grow hb, h.dl, h.hl⟩
theorem OMg.mono {B B' : Nat} {w : World} {x : Mg} (h : OMg B w x) (hb : B' ≤ B) : OMg B' w x := by
  refine ⟨h.ok, h.d.mono hb, ?_, h.dl, h.hl⟩
  obtain ⟨n, e, h1⟩ := h.h
  exact ⟨n, e, ownsRow_mono h1 hb⟩
theorem OMS.grow {B : Nat} {w w' : World} {v : Value} {ms : List Mg} (h : OMS B w v ms) (hb : Below w.heap.size w w') : OMS B w' v ms := by
  refine ⟨⟨h.1.1, ?_⟩, fun x hx => (h.2 x hx).grow hb⟩
  rcases h.1.2 with h1 | ⟨g, cap, cur, h1, h2, h3, h4⟩
  · exact .inl h1
  · exact .inr ⟨g, cap, cur, h1, h2, (hb.block g (Array.getElem?_eq_some_iff.1 h3).1).trans h3, h4⟩
/-- rows of bytes and of hashes are kept by what keeps all but messages' blocks -/
theorem OMg.rows {B : Nat} {w w' : World} {x : Mg} (h : OMg B w x) (hr : ∀ (k : Nat) (cs : Array Value) (t : TypeId), w.heap[k]? = some (.cells cs t (0, 0)) → t ≠ 47 → w'.heap[k]? = some (.cells cs t (0, 0))) : OMg B w' x := by
  refine ⟨h.ok, ⟨h.d.1, ?_⟩, ?_, h.dl, h.hl⟩
  · rcases h.d.2 with h1 | ⟨k, cap, cur, h1, h2, h3, h4⟩
    · exact .inl h1
    · exact .inr ⟨k, cap, cur, h1, h2, hr _ _ _ h3 (by decide), h4⟩
  · obtain ⟨n, e, hh⟩ := h.h
    refine ⟨n, e, hh.1, ?_⟩
    rcases hh.2 with h1 | ⟨k, cap, cur, h1, h2, h3, h4⟩
    · exact .inl h1
    · exact .inr ⟨k, cap, cur, h1, h2, hr _ _ _ h3 (by decide), h4⟩
theorem build_msg {ops : Array Oper} {rest : List Oper} {o : Oper} {a : Act} {w : World} {Q : Exit → Act → World → Prop} (hg : o.guard = none) (x : Operand) (ho : o.op = .buildSlice 68 1 #[(0, x)]) (cs : Array Value) (hv : a.eval x = .agg cs) (hl : cs.size = 40)
    (h : wpList Tryz.prog ops Q rest (a.put o.dst (.slice (some ⟨w.heap.size, 0, none⟩) 1 1)) (w.alloc (.cells cs 47))) : wpList Tryz.prog ops Q (o :: rest) a w := by
  obtain ⟨i0, hi, hz0, hz1, hz2⟩ := info_parts info_msgP
  refine wpList_buildSlice hg 68 47 1 _ ho cs i0 _ Tryz.underlying68 hi hz0 (by rw [hz1]; decide) (by rw [hz1]; decide) ?_ h
  rw [hz1]
  have e : (#[(0, x)].map fun (i, y) => (i, a.eval y)).toList = [(0, .agg cs)] := by simp [hv]
  rw [e]
  exact fillN 40 cs hl _ (by rw [Array.size_map, Array.size_range])
/-- one more message joins a list of messages -/
theorem append_msg {ops : Array Oper} {rest : List Oper} {o : Oper} {a : Act} {Q : Exit → Act → World → Prop} {w : World} {B : Nat} {sv : Value} {ms : List Mg} (hgd : o.guard = none) (s x : Operand)
    (ho : o.op = .call { callee := .builtin .append, args := #[s, x], argTypes := #[68, 68] }) (hs : a.eval s = sv) (hown : OMS B w sv ms) (b : Nat) (y : Mg) (hx : a.eval x = .slice (some ⟨b, 0, none⟩) 1 1)
    (hc : w.heap[b]? = some (.cells y.m.cs 47 (0, 0))) (hy : OMg B w y) (hB : B ≤ w.heap.size) (hlim : ms.length < 1073741824)
    (h : ∀ v' w', OMS B w' v' (ms ++ [y]) → Below B w w' → (∀ (k : Nat) (cs : Array Value) (t : TypeId), w.heap[k]? = some (.cells cs t (0, 0)) → t ≠ 47 → w'.heap[k]? = some (.cells cs t (0, 0))) → wpList Tryz.prog ops Q rest (a.put o.dst v') w') : wpList Tryz.prog ops Q (o :: rest) a w := by
  obtain ⟨i0, hi, hz0, hz1, hz2⟩ := info_parts info_msgP
  have hy40 := ok_ls hy.ok
  refine wpList_append_own w hgd s x 68 ho B 47 i0 _ 40 128 Tryz.underlying68 hi hz0 hz1 hz2 rfl (by omega) sv ms.length (ms.flatMap fun x => x.m.ls) hs hown.1 ⟨b, 0, none⟩ 1 1 y.m.ls hx (by rw [hy40]) (fun j u hu => ?_) (fun u hu => ?_) (by unfold maxLen; omega) (by omega) hB (fun v' w' h1 h2 _ => ?_)
  · rw [Addr.add_mid, Nat.zero_add]
    simp only [World.cell?, hc]
    simpa [Mv.cs] using hu
  · exact Array.all_eq_true_iff_forall_mem.1 hy.ok.one u (by simpa [Mv.cs] using hu)
  · have hrow : ∀ (k : Nat) (cs : Array Value) (t : TypeId), w.heap[k]? = some (.cells cs t (0, 0)) → t ≠ 47 → w'.heap[k]? = some (.cells cs t (0, 0)) := fun k cs t hk ht => by
      refine (h2.block k (Array.getElem?_eq_some_iff.1 hk).1 fun e' => ?_).trans hk
      rcases hown.1.2 with ⟨rfl, _⟩ | ⟨g, cap, cur, rfl, _, hg, _⟩
      · simp [Value.ownBlock] at e'
      · simp [Value.ownBlock] at e'
        subst e'
        rw [hk] at hg
        simp at hg
        exact ht hg.2
    refine h v' w' ⟨?_, fun z hz => ?_⟩ ((Below.refl B w).grown h2 hB (fun k hk => (World.ownsRow.lt hown.1 k hk).1)) hrow
    · rw [List.flatMap_append, List.length_append]
      simpa using h1
    · rcases List.mem_append.1 hz with hz | hz
      · exact (hown.2 z hz).rows hrow
      · simp at hz; subst hz; exact hy.rows hrow
theorem ownsRow_rows {B : Nat} {w w' : World} {e n : Nat} {size : Nat} {v : Value} {us : List Value} (he : e ≠ 47) (h : w.ownsRow B e size v n us) (hr : ∀ (k : Nat) (cs : Array Value) (t : TypeId), w.heap[k]? = some (.cells cs t (0, 0)) → t ≠ 47 → w'.heap[k]? = some (.cells cs t (0, 0))) : w'.ownsRow B e size v n us := by
  refine ⟨h.1, ?_⟩
  rcases h.2 with h1 | ⟨k, cap, cur, h1, h2, h3, h4⟩
  · exact .inl h1
  · exact .inr ⟨k, cap, cur, h1, h2, hr _ _ _ h3 he, h4⟩
theorem OR.rows {B : Nat} {w w' : World} {v : Value} {bs : List (List UInt8)} (h : Fm.OR B w v bs) (hr : ∀ (k : Nat) (cs : Array Value) (t : TypeId), w.heap[k]? = some (.cells cs t (0, 0)) → t ≠ 47 → w'.heap[k]? = some (.cells cs t (0, 0))) : Fm.OR B w' v bs := by
  obtain ⟨us, h1, h2, h3⟩ := h
  exact ⟨us, h1, ownsRow_rows (by decide) h2 hr, fun i hi => ownsRow_rows (by decide) (h3 i hi) hr⟩
theorem OR.grow {B : Nat} {w w' : World} {v : Value} {bs : List (List UInt8)} (h : Fm.OR B w v bs) (hb : Below w.heap.size w w') : Fm.OR B w' v bs := h.keep fun k _ hk => hb.block k hk
theorem OR.of_ob {B : Nat} {w : World} {v : Value} {bs : List (List UInt8)} (h : Fm.OB B (fun g => B ≤ g) w v bs) (hl : ∀ b ∈ bs, b.length ≤ 32768) : Fm.OR B w v bs := by
  obtain ⟨us, h1, h2, h3⟩ := h
  refine ⟨us, h1, h2, fun i hi => ?_⟩
  obtain ⟨g, hg, e, hh⟩ := h3 i hi
  rw [e]
  have hm : (bs.getD i []) ∈ bs := by rw [List.getD_eq_getElem?_getD, List.getElem?_eq_getElem hi]; exact List.getElem_mem hi
  have := hl _ hm
  exact OW.of_block (l := bs.getD i []) hg hh rfl (List.take_length ..) (Nat.le_refl _) (by unfold maxLen; omega)
end Go.Proofs.YtnmeohacdbmplaaGreatDoor
namespace Go.Proofs.YtnmeohacdbmplaaGreatDoor
open Go.RowKit
/-- the bodies ahead of the first that is no message -/
def gds (bs : List (List UInt8)) : List (List UInt8) := bs.takeWhile fun b => decE b == 0
/-- what ends the reading -/
def unwE (bs : List (List UInt8)) (er : Int) : Int :=
  match bs.drop (gds bs).length with
  | [] => er
  | b :: _ => decE b
/-- what a body reads as, with its lists in memory -/
def mgOf (b : List UInt8) (d h : Value) : Mg := ⟨{ (decS b).m with d := d, h := h }, (decS b).D, (decS b).hb⟩
/-- these messages are what these bodies read as -/
def MsOf (ms : List Mg) (bs : List (List UInt8)) : Prop := ms.length = bs.length ∧ ∀ (i : Nat) x b, ms[i]? = some x → bs[i]? = some b → ∃ d h, x = mgOf b d h
theorem MsOf.snoc {ms : List Mg} {bs : List (List UInt8)} (h : MsOf ms bs) (b : List UInt8) (d h' : Value) : MsOf (ms ++ [mgOf b d h']) (bs ++ [b]) := by
  refine ⟨by simp [h.1], fun i x c hx hc => ?_⟩
  by_cases hi : i < ms.length
  · rw [List.getElem?_append_left hi] at hx
    rw [List.getElem?_append_left (by rw [← h.1]; exact hi)] at hc
    exact h.2 i x c hx hc
  · rw [List.getElem?_append_right (by omega)] at hx
    rw [List.getElem?_append_right (by rw [← h.1]; omega), ← h.1] at hc
    have h0 : i - ms.length = 0 := by
      have := (List.getElem?_eq_some_iff.1 hx).1
      simp at this
      omega
    rw [h0] at hx hc
    simp at hx hc
    subst hx hc
    exact ⟨d, h', rfl⟩
theorem gds_all {bs : List (List UInt8)} (h : ∀ (i : Nat) b, bs[i]? = some b → decE b = 0) : gds bs = bs := by
  induction bs with
  | nil => rfl
  | cons c bs ih =>
    have h0 := h 0 c rfl
    have h1 := ih (fun i b hb => h (i + 1) b (by simpa using hb))
    unfold gds at h1 ⊢
    rw [List.takeWhile_cons, if_pos (by simpa using h0), h1]
theorem gds_stop {bs : List (List UInt8)} {n : Nat} {b : List UInt8} (hb : bs[n]? = some b) (h : ∀ (i : Nat) c, i < n → bs[i]? = some c → decE c = 0) (h0 : decE b ≠ 0) : gds bs = bs.take n := by
  induction bs generalizing n with
  | nil => simp at hb
  | cons c bs ih =>
    cases n with
    | zero =>
      simp at hb
      subst hb
      unfold gds
      simp [h0]
    | succ n =>
      have hc := h 0 c (by omega) rfl
      unfold gds at ih ⊢
      rw [List.takeWhile_cons, if_pos (by simpa using hc), List.take_succ_cons]
      congr 1
      exact ih (by simpa using hb) (fun i d hi hd => h (i + 1) d (by omega) (by simpa using hd))
theorem unwE_all {bs : List (List UInt8)} {er : Int} (h : gds bs = bs) : unwE bs er = er := by
  unfold unwE
  rw [h, List.drop_length]
theorem unwE_stop {bs : List (List UInt8)} {er : Int} {n : Nat} {b : List UInt8} (hb : bs[n]? = some b) (h : gds bs = bs.take n) : unwE bs er = decE b := by
  unfold unwE
  have hn := (List.getElem?_eq_some_iff.1 hb).1
  rw [h, List.length_take, Nat.min_eq_left (by omega), List.drop_eq_getElem_cons hn]
  have e := (List.getElem?_eq_some_iff.1 hb).2
  rw [e]
/-- the messages told -/
def UNX (w w' : World) (v : Value) (ms : List Mg) (gs : List (List UInt8)) : Prop := OMS w.heap.size w' v ms ∧ MsOf ms gs ∧ Below w.heap.size w w'
/-- what Unwire answers -/
def UNR (w w' : World) (e : Ending) (bs : List (List UInt8)) (er : Int) : Prop :=
  ∃ v ms, e = .returned (.tuple #[v, .int .i64 (Fm.sz (gds bs) : Nat), .int .i64 (unwE bs er)]) ∧ OMS w.heap.size w' v ms ∧ MsOf ms (gds bs) ∧ Below w.heap.size w w'
/-- what its loop keeps -/
structure UIN (w wr : World) (bv u : Value) (bs : List (List UInt8)) (n : Nat) (ms : List Mg) : Prop where
  o : OMS w.heap.size wr u ms
  m : MsOf ms (bs.take n)
  g : ∀ (i : Nat) c, i < n → bs[i]? = some c → decE c = 0
  b : Below w.heap.size w wr
  r : Fm.OR w.heap.size wr bv bs
theorem decS_len (l : List UInt8) : (decS l).D.length ≤ 32768 ∧ (decS l).hb.length ≤ 32768 := by
  unfold decS
  by_cases hE : decE l = 0
  · rw [if_pos hE]
    unfold decE at hE
    split at hE
    · omega
    · rename_i h1
      cases hr : rowFor (kindB l) with
      | none => rw [hr] at hE; simp at hE
      | some r =>
        simp only
        have key : ∀ (cs : List Nat) (s : Ds), s.l.length ≤ 32768 → s.D.length ≤ 32768 → s.hb.length ≤ 32768 → (Ds.tks cs s).D.length ≤ 32768 ∧ (Ds.tks cs s).hb.length ≤ 32768 := by
          intro cs
          induction cs with
          | nil => intro s _ h2 h3; exact ⟨h2, h3⟩
          | cons c cs ih =>
            intro s h1 h2 h3
            refine ih (Ds.tk c s) (Nat.le_trans (rst_le c s.l) h1) ?_ ?_
            · show (dD c s.l s.D).length ≤ _
              unfold dD; split <;> assumption
            · show (dH c s.l s.hb).length ≤ _
              unfold dH; split <;> assumption
        exact key r.cs ⟨zmk r.k, [], [], l⟩ (by simp only; omega) (by simp) (by simp)
  · rw [if_neg hE]
    exact ⟨by simp, by simp⟩
theorem OMg.of_dec {B : Nat} {w w' : World} {l : List UInt8} {d h : Value} (hB : B ≤ w.heap.size) (hd : OW w.heap.size w' d (decS l).D) (hh : OH w.heap.size w' h (decS l).hb) : OMg B w' (mgOf l d h) := by
  have hm := MM.of_dec hd hh
  have hl := decS_len l
  obtain ⟨n, e, h1⟩ := hh
  exact ⟨hm.ok, hd.mono hB, ⟨n, e, ownsRow_mono h1 hB⟩, hl.1, hl.2⟩
theorem sz_ge (bs : List (List UInt8)) : bs.length ≤ Fm.sz bs := by
  induction bs with
  | nil => simp
  | cons b bs ih => rw [Fm.sz_cons, List.length_cons]; omega
theorem UIN.next {w wr w5 : World} {bv u v5 : Value} {bs : List (List UInt8)} {n : Nat} {ms ms' : List Mg} {b : List UInt8} (h : UIN w wr bv u bs n ms) (hm : MsOf ms' (bs.take (n + 1))) (ho : OMS w.heap.size w5 v5 ms') (h5 : Below w.heap.size w w5) (hb : bs[n]? = some b) (h0 : decE b = 0) (hrow : Fm.OR w.heap.size w5 bv bs) : UIN w w5 bv v5 bs (n + 1) ms' :=
  ⟨ho, hm, fun i c hi hc => by
    rcases Nat.lt_or_ge i n with h' | h'
    · exact h.g i c h' hc
    · obtain rfl : i = n := by omega
      rw [hb] at hc
      cases hc
      exact h0, h5, hrow⟩
end Go.Proofs.YtnmeohacdbmplaaGreatDoor
namespace Go.Proofs.YtnmeohacdbmplaaGreatDoor
open Go.RowKit
theorem OR.cellAt {B : Nat} {w : World} {g o n c : Nat} {bs : List (List UInt8)} (h : Fm.OR B w (.slice (some ⟨g, o, none⟩) n c) bs) : ∃ cur, w.heap[g]? = some (.cells cur 31 (0, 0)) := by
  obtain ⟨us, _, h2, _⟩ := h
  rcases h2.2 with ⟨h1, _⟩ | ⟨k, cap, cur, h1, _, h3, _⟩
  · simp at h1
  · simp only [Value.slice.injEq, Option.some.injEq, Addr.mk.injEq] at h1
    obtain ⟨⟨rfl, -⟩, -⟩ := h1
    exact ⟨cur, h3⟩
end Go.Proofs.YtnmeohacdbmplaaGreatDoor
namespace Go.Proofs.YtnmeohacdbmplaaGreatDoor
open Go.RowKit
/-- the same messages, their lists elsewhere in memory -/
def MsEq (ms ns : List Mg) : Prop := ns.length = ms.length ∧ ∀ (i : Nat) x y, ms[i]? = some x → ns[i]? = some y → y.D = x.D ∧ y.hb = x.hb ∧ y.m = { x.m with d := y.m.d, h := y.m.h }
theorem MsOf.eq {ms ns : List Mg} {bs : List (List UInt8)} (h1 : MsOf ms bs) (h2 : MsOf ns bs) : MsEq ms ns := by
  refine ⟨h2.1.trans h1.1.symm, fun i x y hx hy => ?_⟩
  have hi : i < bs.length := by rw [← h1.1]; exact (List.getElem?_eq_some_iff.1 hx).1
  obtain ⟨d, h, rfl⟩ := h1.2 i x _ hx (List.getElem?_eq_getElem hi)
  obtain ⟨d', h', rfl⟩ := h2.2 i y _ hy (List.getElem?_eq_getElem hi)
  exact ⟨rfl, rfl, rfl⟩
end Go.Proofs.YtnmeohacdbmplaaGreatDoor
namespace Go.Proofs.YtnmeohacdbmplaaGreatDoor
open Go.RowKit
theorem foldl_off (off : Nat) : ∀ (xs : List Value) (k : Nat) (cs : Array Value), off + k + xs.length ≤ cs.size →
    ((xs.zipIdx k).foldl (fun (cs : Array Value) (p : Value × Nat) => cs.setIfInBounds (off + p.2) p.1) cs).toList = cs.toList.take (off + k) ++ xs ++ cs.toList.drop (off + k + xs.length)
  | [], k, cs, _ => by simp
  | x :: xs, k, cs, h => by
    simp only [List.zipIdx_cons, List.foldl_cons, List.length_cons] at h ⊢
    rw [foldl_off off xs (k + 1) (cs.setIfInBounds (off + k) x) (by rw [Array.size_setIfInBounds]; omega), Array.toList_setIfInBounds]
    have e := list_seg_step cs.toList (off + k) x xs (by have q : cs.toList.length = cs.size := Array.length_toList; omega)
    simpa [Nat.add_assoc] using e
/-- an event -/
structure Ev where
  hello : Bool
  peer : List UInt8
  x : Mg
def Ev.ls (e : Ev) : List Value := .bool e.hello :: (Lib.byteCells e.peer ++ e.x.m.ls)
def z61 : Array Value := (Value.bool false :: (List.replicate 20 (Value.int .u8 0) ++ zm.ls)).toArray
theorem built49 (parts : List (Nat × Value)) : Tryz.prog.built 49 parts = Instr.fill (([(0, 1), (1, 20), (21, 40)] : List (Nat × Nat)).toArray[·]?) z61 parts := by kernel_rfl
theorem builtM (m : Mv) (ok : m.ok) : Tryz.prog.built 49 [(2, .agg m.cs)] = some (Ev.ls ⟨false, zr 20, ⟨m, [], []⟩⟩).toArray := by
  rw [built49]
  have hc : (Value.agg m.cs).cells = m.cs := rfl
  unfold Instr.fill
  simp only [hc, ok.size]
  rw [show (([(0, 1), (1, 20), (21, 40)] : List (Nat × Nat)).toArray[2]?) = some (21, 40) from rfl]
  simp only
  rw [if_neg (by simp [show z61.size = 61 from rfl])]
  unfold Instr.fill
  congr 1
  apply Array.ext'
  rw [← Array.foldl_toList, Array.toList_zipIdx]
  have := foldl_off 21 m.cs.toList 0 z61 (by rw [Array.length_toList, ok.size]; decide)
  rw [this, Array.length_toList, ok.size]
  have e1 : z61.toList.take (21 + 0) = Value.bool false :: List.replicate 20 (Value.int .u8 0) := rfl
  have e2 : z61.toList.drop (21 + 0 + 40) = [] := rfl
  rw [e1, e2, List.append_nil]
  rfl
theorem builtH (pr : List UInt8) (hl : pr.length = 20) : Tryz.prog.built 49 [(0, .bool true), (1, .agg (bc pr))] = some (Ev.ls ⟨true, pr, ⟨zm, [], []⟩⟩).toArray := by
  rw [built49]
  have hc : (Value.agg (bc pr)).cells = bc pr := rfl
  have hz : (bc pr).size = 20 := by rw [bc_size, hl]
  unfold Instr.fill
  rw [show (([(0, 1), (1, 20), (21, 40)] : List (Nat × Nat)).toArray[0]?) = some (0, 1) from rfl]
  simp only
  rw [if_neg (by simp [show z61.size = 61 from rfl, Value.cells])]
  unfold Instr.fill
  rw [show (([(0, 1), (1, 20), (21, 40)] : List (Nat × Nat)).toArray[1]?) = some (1, 20) from rfl]
  simp only [hc, hz]
  rw [if_neg (by simp [show z61.size = 61 from rfl, Value.cells])]
  unfold Instr.fill
  congr 1
  apply Array.ext'
  rw [← Array.foldl_toList, Array.toList_zipIdx]
  have := foldl_off 1 (bc pr).toList 0 (z61.setIfInBounds (0 + 0) (.bool true)) (by rw [Array.length_toList, hz]; decide)
  have e0 : ((Value.bool true).cells.zipIdx.foldl (fun (cs : Array Value) (p : Value × Nat) => cs.setIfInBounds (0 + p.2) p.1) z61) = z61.setIfInBounds (0 + 0) (.bool true) := rfl
  rw [e0, this, Array.length_toList, hz]
  have e1 : (z61.setIfInBounds (0 + 0) (.bool true)).toList.take (1 + 0) = [Value.bool true] := rfl
  have e2 : (z61.setIfInBounds (0 + 0) (.bool true)).toList.drop (1 + 0 + 20) = zm.ls := rfl
  rw [e1, e2, bc_list]
  rfl
theorem info_evP : (Tryz.prog.info? 49).map (fun i => (i.zero, i.size, i.bytes)) = some (some (.agg z61), 61, 152) := by kernel_rfl
/-- an event whose lists the call owns -/
structure OEv (B : Nat) (w : World) (e : Ev) : Prop where
  pr : e.peer.length = 20
  mg : OMg B w e.x
theorem Ev.len {B : Nat} {w : World} {e : Ev} (h : OEv B w e) : e.ls.length = 61 := by
  unfold Ev.ls
  rw [List.length_cons, List.length_append, bcl_len, h.pr, ok_ls h.mg.ok]
theorem Ev.one {B : Nat} {w : World} {e : Ev} (h : OEv B w e) : ∀ u ∈ e.ls, u.oneCell' = true := fun u hu => by
  unfold Ev.ls at hu
  rcases List.mem_cons.1 hu with rfl | hu
  · rfl
  rcases List.mem_append.1 hu with hu | hu
  · exact Lib.byteCells_one _ u hu
  · exact Array.all_eq_true_iff_forall_mem.1 h.mg.ok.one u (by simpa [Mv.cs] using hu)
/-- a list of events that the call owns -/
def EVS (B : Nat) (w : World) (v : Value) (es : List Ev) : Prop := w.ownsRow B 49 61 v es.length (es.flatMap Ev.ls) ∧ ∀ e ∈ es, OEv B w e
theorem EVS.nil (B : Nat) (w : World) : EVS B w (.slice none 0 0) [] := ⟨World.ownsRow_nil _ _ _ _, fun _ h => by cases h⟩
theorem EVS.form {B : Nat} {w : World} {v : Value} {es : List Ev} (h : EVS B w v es) : ∃ a c, v = .slice a es.length c := by
  rcases h.1.2 with ⟨h1, h2⟩ | ⟨g, cap, cur, h1, _⟩
  · exact ⟨none, 0, by rw [h1, h2]⟩
  · exact ⟨_, _, h1⟩
theorem ownsRow_fr {B : Nat} {w w' : World} {e n size : Nat} {v : Value} {us : List Value} (h : w.ownsRow B e size v n us) (hk : ∀ k, B ≤ k → k < w.heap.size → w'.heap[k]? = w.heap[k]?) : w'.ownsRow B e size v n us := by
  refine ⟨h.1, ?_⟩
  rcases h.2 with h1 | ⟨g, cap, cur, h1, h2, h3, h4⟩
  · exact .inl h1
  · exact .inr ⟨g, cap, cur, h1, h2, (hk g h2 (Array.getElem?_eq_some_iff.1 h3).1).trans h3, h4⟩
theorem OMg.fr {B : Nat} {w w' : World} {x : Mg} (h : OMg B w x) (hk : ∀ k, B ≤ k → k < w.heap.size → w'.heap[k]? = w.heap[k]?) : OMg B w' x := by
  refine ⟨h.ok, ownsRow_fr h.d hk, ?_, h.dl, h.hl⟩
  obtain ⟨n, e, hh⟩ := h.h
  exact ⟨n, e, ownsRow_fr hh hk⟩
/-- the events stand where no block from B on turns -/
theorem EVS.fr {B : Nat} {w w' : World} {v : Value} {es : List Ev} (h : EVS B w v es) (hk : ∀ k, B ≤ k → k < w.heap.size → w'.heap[k]? = w.heap[k]?) : EVS B w' v es :=
  ⟨ownsRow_fr h.1 hk, fun e he => ⟨(h.2 e he).pr, (h.2 e he).mg.fr hk⟩⟩
theorem build_ev {ops : Array Oper} {rest : List Oper} {o : Oper} {a : Act} {w : World} {Q : Exit → Act → World → Prop} (hg : o.guard = none) (x : Operand) (ho : o.op = .buildSlice 39 1 #[(0, x)]) (cs : Array Value) (hv : a.eval x = .agg cs) (hl : cs.size = 61)
    (h : wpList Tryz.prog ops Q rest (a.put o.dst (.slice (some ⟨w.heap.size, 0, none⟩) 1 1)) (w.alloc (.cells cs 49))) : wpList Tryz.prog ops Q (o :: rest) a w := by
  obtain ⟨i0, hi, hz0, hz1, hz2⟩ := info_parts info_evP
  refine wpList_buildSlice hg 39 49 1 _ ho cs i0 _ Tryz.underlying39 hi hz0 (by rw [hz1]; decide) (by rw [hz1]; decide) ?_ h
  rw [hz1]
  have e : (#[(0, x)].map fun (i, y) => (i, a.eval y)).toList = [(0, .agg cs)] := by simp [hv]
  rw [e]
  exact fillN 61 cs hl _ (by rw [Array.size_map, Array.size_range])
/-- one more event joins a list of events -/
theorem append_ev {ops : Array Oper} {rest : List Oper} {o : Oper} {a : Act} {Q : Exit → Act → World → Prop} {w : World} {B : Nat} {sv : Value} {es : List Ev} (hgd : o.guard = none) (s x : Operand)
    (ho : o.op = .call { callee := .builtin .append, args := #[s, x], argTypes := #[39, 39] }) (hs : a.eval s = sv) (hown : EVS B w sv es) (b : Nat) (y : Ev) (hx : a.eval x = .slice (some ⟨b, 0, none⟩) 1 1)
    (hc : w.heap[b]? = some (.cells y.ls.toArray 49 (0, 0))) (hy : OEv B w y) (hB : B ≤ w.heap.size) (hlim : es.length < 107374182)
    (h : ∀ v' w', EVS B w' v' (es ++ [y]) → Below B w w' → (∀ k, k < w.heap.size → (∀ cs f, w.heap[k]? ≠ some (.cells cs 49 f)) → w'.heap[k]? = w.heap[k]?) → w'.os = w.os ∧ w'.tape = w.tape ∧ w'.output = w.output ∧ w.heap.size ≤ w'.heap.size → wpList Tryz.prog ops Q rest (a.put o.dst v') w') : wpList Tryz.prog ops Q (o :: rest) a w := by
  obtain ⟨i0, hi, hz0, hz1, hz2⟩ := info_parts info_evP
  have hy61 := Ev.len hy
  refine wpList_append_own w hgd s x 39 ho B 49 i0 _ 61 152 Tryz.underlying39 hi hz0 hz1 hz2 rfl (by omega) sv es.length (es.flatMap Ev.ls) hs hown.1 ⟨b, 0, none⟩ 1 1 y.ls hx (by rw [hy61]) (fun j u hu => ?_) (fun u hu => Ev.one hy u hu) (by unfold maxLen; omega) (by omega) hB (fun v' w' h1 h2 _ => ?_)
  · rw [Addr.add_mid, Nat.zero_add]
    simp only [World.cell?, hc]
    simpa using hu
  · have hrow : ∀ (k : Nat) (cs : Array Value) (t : TypeId), w.heap[k]? = some (.cells cs t (0, 0)) → t ≠ 49 → w'.heap[k]? = some (.cells cs t (0, 0)) := fun k cs t hk ht => by
      refine (h2.block k (Array.getElem?_eq_some_iff.1 hk).1 fun e' => ?_).trans hk
      rcases hown.1.2 with ⟨rfl, _⟩ | ⟨g, cap, cur, rfl, _, hg, _⟩
      · simp [Value.ownBlock] at e'
      · simp [Value.ownBlock] at e'
        subst e'
        rw [hk] at hg
        simp at hg
        exact ht hg.2
    have hmg : ∀ z, OMg B w z → OMg B w' z := fun z hz => by
      refine ⟨hz.ok, ⟨hz.d.1, ?_⟩, ?_, hz.dl, hz.hl⟩
      · rcases hz.d.2 with h1 | ⟨k, cap, cur, h1, h2, h3, h4⟩
        · exact .inl h1
        · exact .inr ⟨k, cap, cur, h1, h2, hrow _ _ _ h3 (by decide), h4⟩
      · obtain ⟨n, e, hh⟩ := hz.h
        refine ⟨n, e, hh.1, ?_⟩
        rcases hh.2 with h1 | ⟨k, cap, cur, h1, h2, h3, h4⟩
        · exact .inl h1
        · exact .inr ⟨k, cap, cur, h1, h2, hrow _ _ _ h3 (by decide), h4⟩
    have hstr : ∀ k, k < w.heap.size → (∀ cs f, w.heap[k]? ≠ some (.cells cs 49 f)) → w'.heap[k]? = w.heap[k]? := fun k hk hne => by
      refine h2.block k hk fun e' => ?_
      rcases hown.1.2 with ⟨rfl, _⟩ | ⟨g, cap, cur, rfl, _, hg, _⟩
      · simp [Value.ownBlock] at e'
      · simp [Value.ownBlock] at e'
        subst e'
        exact hne _ _ hg
    have hbl := (Below.refl B w).grown h2 hB (fun k hk => (World.ownsRow.lt hown.1 k hk).1)
    refine h v' w' ⟨?_, fun z hz => ?_⟩ hbl hstr ⟨hbl.os, hbl.tape, hbl.output, hbl.size⟩
    · rw [List.flatMap_append, List.length_append]
      simpa using h1
    · rcases List.mem_append.1 hz with hz | hz
      · exact ⟨(hown.2 z hz).pr, hmg _ (hown.2 z hz).mg⟩
      · simp at hz; subst hz; exact ⟨hy.pr, hmg _ hy.mg⟩
end Go.Proofs.YtnmeohacdbmplaaGreatDoor
