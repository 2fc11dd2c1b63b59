import Derived.Test.YtoiehkpmemmldaaDoorBe
namespace Go.Proofs.YtoiehkpmemmldaaDoor
open Go.RowKit
theorem info29 : (Tryd.prog.info? 29).map (fun i => (i.zero, i.size, i.bytes)) = some (some (.slice none 0 0), 1, 24) := by kernel_rfl
set_option maxHeartbeats 16000000 in
set_option maxRecDepth 100000 in
theorem own5 (pv pathsv : Value) (s : ByteArray) (p : List ByteArray) (L : List (List ByteArray)) (w : World) (hp : SR w p pv) (hL : PR w L pathsv) (hs : s.size ≤ 1048576) (hpn : p.length ≤ 1048576) (hpM : ∀ x ∈ p, x.size ≤ 1048576) (hn : L.length + tot L ≤ 1048576) (hM : ∀ l ∈ L, ∀ x ∈ l, x.size ≤ 1048576) :
    Calls Tryd.prog 5 #[pv, .string s, pathsv] w fun e w' => e = .returned (.bool true) ∧ Below w.heap.size w w' := by
  obtain ⟨i9, hi9, x0, x1, x2⟩ := info_parts info9
  obtain ⟨i3, hi3, y0, y1, y2⟩ := info_parts info3
  obtain ⟨i29, hi29, z0, z1, z2⟩ := info_parts info29
  have HI : Hid ((Tryd.prog.info? 9 = some i9 ∧ i9.zero = some (.string ByteArray.empty) ∧ i9.size = 1 ∧ i9.bytes = 16) ∧ (Tryd.prog.info? 3 = some i3 ∧ i3.zero = some (.int .i64 0) ∧ i3.size = 1 ∧ i3.bytes = 8) ∧ (Tryd.prog.info? 29 = some i29 ∧ i29.zero = some (.slice none 0 0) ∧ i29.size = 1 ∧ i29.bytes = 24)) := ⟨⟨hi9, x0, x1, x2⟩, ⟨hi3, y0, y1, y2⟩, hi29, z0, z1, z2⟩
  clear hi9 x0 x1 x2 hi3 y0 y1 y2 hi29 z0 z1 z2
  have HP : Hid (SR w p pv ∧ PR w L pathsv ∧ (∀ x ∈ p, x.size ≤ 1048576) ∧ L.length + tot L ≤ 1048576 ∧ ∀ l ∈ L, ∀ x ∈ l, x.size ≤ 1048576) := ⟨hp, hL, hpM, hn, hM⟩
  obtain ⟨pa, pc, hpv, hp_⟩ := hp
  subst hpv
  obtain ⟨la0, lc0, hLv, hL_⟩ := hL
  subst hLv
  clear hp_ hL_ hpM hM
  generalize hpl : p.length = pn at *
  generalize hll : L.length = n at *
  have hn1 : n ≤ 1048576 := by omega
  have HN : Hid (p.length = pn ∧ L.length = n ∧ n + tot L ≤ 1048576) := ⟨hpl, hll, hn⟩
  clear hpl hll hn
  go_enter Tryd.func5, Tryd.ntmps5
  go_wp2_with fail
  refine (awake11 w).mono ?_
  rintro e w1 ⟨rfl, b1⟩
  have S1 : Hid (Below w.heap.size w w1) := b1
  clear b1
  go_wp2_with fail
  go_loopw [8, 9] (fun x t wr => ∃ (k : Nat) (aa : Option Addr) (ac : Nat) (vs : List Value), k ≤ n ∧ x = .slice aa k ac ∧ t = .int .i64 k ∧ Hid (IB w1.heap.size wr (.slice aa k ac) k vs (L.take k) ∧ Below w1.heap.size w1 wr)) (fun _ t _ => n - (intOf t).toNat)
  case atStart => exact ⟨0, none, 0, [], Nat.zero_le _, rfl, rfl, IB.nil _ _, Below.refl _ _⟩
  case round =>
    obtain ⟨k, aa, ac, vs, hk, rfl, rfl, H⟩ := hrel
    by_cases hlt : k < n
    · have hb0 : Below w.heap.size w wr := S1.out.trans (H.out.2.mono S1.out.size)
      have hkL : k < L.length := by rw [HN.out.2.1]; exact hlt
      obtain ⟨bp, op, hlae, hbp, x, k1, k2⟩ := (HP.out.2.1.keep hb0).cellAt hkL
      subst hlae
      obtain ⟨xa, xc, hxv, hx_⟩ := id k2
      subst hxv
      have hml : (la L k).length ≤ 1048576 := by
        have h1 := mem_tot L (la L k) (la_mem hkL)
        have := HN.out.2.2
        omega
      obtain ⟨ml, hmle⟩ : ∃ ml, ml = (la L k).length := ⟨_, rfl⟩
      have HX : Hid (SR wr (la L k) (.slice xa ml xc) ∧ (la L k).length = ml) := ⟨by rw [hmle]; exact k2, hmle.symm⟩
      rw [← hmle] at k1 hml
      clear k2 hx_ hmle hb0
      obtain ⟨w2, hw2⟩ : ∃ y, y = wr := ⟨_, rfl⟩
      subst hw2
      have hstep : ∀ (v3 : Value) (w3 : World), w3.ownsRow w2.heap.size 9 1 v3 (0 + ml) ([] ++ (la L k).map Value.string) → w2.grownBy w3 none → Hid (OS w2.heap.size w3 v3 (la L k) ∧ Below w2.heap.size w2 w3) := fun v3 w3 h1 h2 => ⟨by
        unfold OS; rw [HX.out.2]; simpa using h1, ⟨h2.os, h2.tape, h2.output, h2.size, fun q hq => h2.block q hq (by simp)⟩⟩
      have hst2 : ∀ (v3 : Value) (w3 : World), (OS w2.heap.size w3 v3 (la L k) ∧ Below w2.heap.size w2 w3) → Hid ((w3.alloc (.cells #[.string ⟨#[115, 112, 97, 114, 101]⟩] 9)).ownsRow w2.heap.size 9 1 v3 ml ((la L k).map Value.string) ∧ w2.heap.size ≤ (w3.alloc (.cells #[.string ⟨#[115, 112, 97, 114, 101]⟩] 9)).heap.size) := fun v3 w3 h => ⟨by
        have := h.1.grow (al_bel w3 (.cells #[.string ⟨#[115, 112, 97, 114, 101]⟩] 9))
        unfold OS at this; rwa [HX.out.2] at this, Nat.le_trans h.2.size (by simp)⟩
      have hst3 : ∀ (a3 : Option Addr) (c3 : Nat) (w3 : World) (v4 : Value) (w4 : World), (OS w2.heap.size w3 (.slice a3 ml c3) (la L k) ∧ Below w2.heap.size w2 w3) → ((w3.alloc (.cells #[.string ⟨#[115, 112, 97, 114, 101]⟩] 9)).ownsRow w2.heap.size 9 1 (.slice a3 ml c3) ml ((la L k).map Value.string) ∧ w2.heap.size ≤ (w3.alloc (.cells #[.string ⟨#[115, 112, 97, 114, 101]⟩] 9)).heap.size) → w4.ownsRow w2.heap.size 9 1 v4 (ml + 1) ((la L k).map Value.string ++ [.string ⟨#[115, 112, 97, 114, 101]⟩]) → (w3.alloc (.cells #[.string ⟨#[115, 112, 97, 114, 101]⟩] 9)).grownBy w4 (Value.slice a3 ml c3).ownBlock →
          ∃ g c, v4 = .slice (some ⟨g, 0, none⟩) (ml + 1) c ∧ Hid (Piece w2.heap.size w4 (.slice (some ⟨g, 0, none⟩) ml c) (la L k) ∧ Below w2.heap.size w2 w4 ∧ ml + 1 ≤ c) := fun a3 c3 w3 v4 w4 h3 h3' q1 q2 => by
        obtain ⟨g4, c4, rfl⟩ : ∃ g c, v4 = .slice (some ⟨g, 0, none⟩) (ml + 1) c := by
          rcases q1.2 with ⟨_, h0⟩ | ⟨g, cap, cur, e, _⟩
          · omega
          · exact ⟨g, cap, e⟩
        have hpc : Piece w2.heap.size w4 (.slice (some ⟨g4, 0, none⟩) ml c4) (la L k) := ⟨g4, c4, by rw [HX.out.2], by
          unfold OS
          rw [List.length_append, HX.out.2, List.map_append]
          exact q1⟩
        refine ⟨g4, c4, rfl, hpc, ?_, by have := hpc.cap.2.1; omega⟩
        have b3 := h3.2.trans ((al_bel w3 (.cells #[.string ⟨#[115, 112, 97, 114, 101]⟩] 9)).mono h3.2.size)
        exact b3.grown q2 b3.size (fun q hq => (World.ownsRow.lt h3.1 q hq).1)
      have hst4 : ∀ (g4 c4 : Nat) (w4 : World), (Piece w2.heap.size w4 (.slice (some ⟨g4, 0, none⟩) ml c4) (la L k) ∧ Below w2.heap.size w2 w4 ∧ ml + 1 ≤ c4) → Hid (IB w1.heap.size (w4.alloc (.cells #[.slice (some ⟨g4, 0, none⟩) ml c4] 29)) (.slice aa k ac) k vs (L.take k) ∧ Below w2.heap.size w2 (w4.alloc (.cells #[.slice (some ⟨g4, 0, none⟩) ml c4] 29)) ∧ w1.heap.size ≤ (w4.alloc (.cells #[.slice (some ⟨g4, 0, none⟩) ml c4] 29)).heap.size) := fun g4 c4 w4 h => by
        have b := h.2.1.trans ((al_bel w4 (.cells #[.slice (some ⟨g4, 0, none⟩) ml c4] 29)).mono h.2.1.size)
        exact ⟨H.out.1.below b, b, Nat.le_trans H.out.2.size b.size⟩
      have hst5 : ∀ (g4 c4 : Nat) (w4 : World) (v5 : Value) (w5 : World), (Piece w2.heap.size w4 (.slice (some ⟨g4, 0, none⟩) ml c4) (la L k) ∧ Below w2.heap.size w2 w4 ∧ ml + 1 ≤ c4) → w5.ownsRow w1.heap.size 29 1 v5 (k + 1) (vs ++ [.slice (some ⟨g4, 0, none⟩) ml c4]) → (w4.alloc (.cells #[.slice (some ⟨g4, 0, none⟩) ml c4] 29)).grownBy w5 (Value.slice aa k ac).ownBlock → Hid (IB w1.heap.size w5 v5 (k + 1) (vs ++ [.slice (some ⟨g4, 0, none⟩) ml c4]) (L.take (k + 1)) ∧ Below w1.heap.size w1 w5) := fun g4 c4 w4 v5 w5 h q1 q2 => by
        have bA := al_bel w4 (.cells #[.slice (some ⟨g4, 0, none⟩) ml c4] 29)
        have b := h.2.1.trans (bA.mono h.2.1.size)
        refine ⟨?_, ?_⟩
        · rw [la_take hkL]
          exact H.out.1.add b H.out.2.size (h.1.fr (S := fun _ => True) (Fr.of_below bA) (fun _ _ => trivial)) q1 q2
        · have b2 : Below w1.heap.size w1 (w4.alloc (.cells #[.slice (some ⟨g4, 0, none⟩) ml c4] 29)) := H.out.2.trans (b.mono H.out.2.size)
          exact b2.grown q2 b2.size (fun q hq => (World.ownsRow.lt H.out.1.row q hq).1)
      go_wp2_with (first
        | (at_builtin; refine append_read (B := w2.heap.size) (us := (la L k).map Value.string) i9 _ 16 rfl _ _ rfl Tryd.underlying29 HI.out.1.1 HI.out.1.2.1 HI.out.1.2.2.1 HI.out.1.2.2.2 rfl rfl (World.ownsRow_nil _ _ _ _) rfl (by rw [List.length_map]; exact HX.out.2) HX.out.1.cells.2 (strs_one _) (Nat.le_refl _) (by unfold maxLen; omega) (by omega) ?_; intro v3 w3 q1 q2; obtain ⟨a3, c3, hv3⟩ := ownsRow_form q1; have H3 := hstep v3 w3 q1 q2; rw [Nat.zero_add] at hv3; subst hv3; have H3' := hst2 _ w3 H3.out; clear q1 q2 hstep)
        | (at_builtin; refine wpList_append_own _ rfl _ _ 29 rfl w2.heap.size 9 i9 _ 1 16 Tryd.underlying29 HI.out.1.1 HI.out.1.2.1 HI.out.1.2.2.1 HI.out.1.2.2.2 rfl (by omega) _ ml ((la L k).map Value.string) rfl H3'.out.1 ⟨w3.heap.size, 0, none⟩ 1 1 [.string ⟨#[115, 112, 97, 114, 101]⟩] rfl rfl (cell_one_new _ _ _) (by simp [Value.oneCell']) (by unfold maxLen; omega) (by omega) H3'.out.2 ?_; intro v4 w4 q1 q2 _; have H4 := hst3 a3 c3 w3 v4 w4 H3.out H3'.out q1 q2; obtain ⟨g4, c4, hv4, H4'⟩ := H4; subst hv4; have k4 : w4.cell? ⟨bp, op + k, none⟩ = some (.slice xa ml xc) := (H4'.out.2.1.cell (p := ⟨bp, op + k, none⟩) hbp).trans k1; have hc4 := H4'.out.2.2; have H5 := hst4 g4 c4 w4 H4'.out; clear q1 q2 hst2 hst3 H3 H3')
        | (at_builtin; refine wpList_append_own _ rfl _ _ 22 rfl w1.heap.size 29 i29 _ 1 24 Tryd.underlying22 HI.out.2.2.1 HI.out.2.2.2.1 HI.out.2.2.2.2.1 HI.out.2.2.2.2.2 rfl (by omega) _ k vs rfl H5.out.1.row ⟨w4.heap.size, 0, none⟩ 1 1 [.slice (some ⟨g4, 0, none⟩) ml c4] rfl rfl (cell_one_new _ _ _) (by simp [Value.oneCell']) (by unfold maxLen; omega) (by omega) H5.out.2.2 ?_; intro v5 w5 q1 q2 _; obtain ⟨a5, c5, hv5⟩ := ownsRow_form q1; subst hv5; have H6 := hst5 g4 c4 w4 (.slice a5 (k + 1) c5) w5 H4'.out q1 q2; clear q1 q2 H5 hst4 hst5 k4))
      exact ⟨⟨k + 1, a5, c5, _, by omega, rfl, by go_num, H6⟩, by simp [intOf]; omega⟩
    · obtain rfl : k = n := by omega
      obtain ⟨w2, hw2⟩ : ∃ y, y = wr := ⟨_, rfl⟩
      subst hw2
      have HL : L.take k = L := List.take_of_length_le (by rw [HN.out.2.1]; exact Nat.le_refl _)
      have H1 : Hid (IB w1.heap.size w2 (.slice aa k ac) k vs L ∧ Below w1.heap.size w1 w2) := ⟨by have := H.out.1; rwa [HL] at this, H.out.2⟩
      clear H HL hk hlt
      have hst1 : Hid (IB w1.heap.size ((w2.alloc (.cells #[.string ⟨#[115, 112, 97, 114, 101]⟩] 9)).alloc (.cells #[.slice (some ⟨w2.heap.size, 0, none⟩) 1 1] 29)) (.slice aa k ac) k vs L ∧ w1.heap.size ≤ ((w2.alloc (.cells #[.string ⟨#[115, 112, 97, 114, 101]⟩] 9)).alloc (.cells #[.slice (some ⟨w2.heap.size, 0, none⟩) 1 1] 29)).heap.size) := by
        have b1 := al_bel w2 (.cells #[.string ⟨#[115, 112, 97, 114, 101]⟩] 9)
        have b2 := al_bel (w2.alloc (.cells #[.string ⟨#[115, 112, 97, 114, 101]⟩] 9)) (.cells #[.slice (some ⟨w2.heap.size, 0, none⟩) 1 1] 29)
        have b := b1.trans (b2.mono b1.size)
        exact ⟨H1.out.1.below b, Nat.le_trans H1.out.2.size b.size⟩
      have hco : ∀ (j : Nat) (u : Value), ([.slice (some ⟨w2.heap.size, 0, none⟩) 1 1] : List Value)[j]? = some u → ((w2.alloc (.cells #[.string ⟨#[115, 112, 97, 114, 101]⟩] 9)).alloc (.cells #[.slice (some ⟨w2.heap.size, 0, none⟩) 1 1] 29)).cell? ((⟨w2.heap.size + 1, 0, none⟩ : Addr).add j) = some u := by
        have h := cell_one_new (w2.alloc (.cells #[.string ⟨#[115, 112, 97, 114, 101]⟩] 9)) (.slice (some ⟨w2.heap.size, 0, none⟩) 1 1) 29
        have e : (w2.alloc (.cells #[.string ⟨#[115, 112, 97, 114, 101]⟩] 9)).heap.size = w2.heap.size + 1 := by simp
        rw [e] at h
        exact h
      have hst2 : ∀ (v3 : Value) (w3 : World), w3.ownsRow w1.heap.size 29 1 v3 (k + 1) (vs ++ [.slice (some ⟨w2.heap.size, 0, none⟩) 1 1]) → ((w2.alloc (.cells #[.string ⟨#[115, 112, 97, 114, 101]⟩] 9)).alloc (.cells #[.slice (some ⟨w2.heap.size, 0, none⟩) 1 1] 29)).grownBy w3 (Value.slice aa k ac).ownBlock → ∃ gi cap, v3 = .slice (some ⟨gi, 0, none⟩) (k + 1) cap ∧ Hid (IN w1.heap.size w3 gi cap w2.heap.size k vs L ∧ Below w1.heap.size w1 w3 ∧ k + 1 ≤ cap) := fun v3 w3 q1 q2 => by
        obtain ⟨gi, cap, rfl⟩ : ∃ g c, v3 = .slice (some ⟨g, 0, none⟩) (k + 1) c := by
          rcases q1.2 with ⟨_, h0⟩ | ⟨g, cap, cur, e, _⟩
          · omega
          · exact ⟨g, cap, e⟩
        have b1 := al_bel w2 (.cells #[.string ⟨#[115, 112, 97, 114, 101]⟩] 9)
        have b2 := al_bel (w2.alloc (.cells #[.string ⟨#[115, 112, 97, 114, 101]⟩] 9)) (.cells #[.slice (some ⟨w2.heap.size, 0, none⟩) 1 1] 29)
        have b := b1.trans (b2.mono b1.size)
        have hIN : IN w1.heap.size w3 gi cap w2.heap.size k vs L := IN.of H1.out.1 b H1.out.2.size (by
          rw [heapOld _ _ _ (by simp)]
          exact heapNew w2 _) (Nat.le_refl _) q1 q2
        refine ⟨gi, cap, rfl, hIN, ?_, hIN.cap⟩
        have b3 := H1.out.2.trans (b.mono H1.out.2.size)
        exact b3.grown q2 b3.size (fun q hq => (World.ownsRow.lt H1.out.1.row q hq).1)
      go_wp2_with (first
        | (at_builtin; refine wpList_append_own _ rfl _ _ 22 rfl w1.heap.size 29 i29 _ 1 24 Tryd.underlying22 HI.out.2.2.1 HI.out.2.2.2.1 HI.out.2.2.2.2.1 HI.out.2.2.2.2.2 rfl (by omega) _ k vs rfl hst1.out.1.row ⟨w2.heap.size + 1, 0, none⟩ 1 1 [.slice (some ⟨w2.heap.size, 0, none⟩) 1 1] rfl rfl hco (by simp [Value.oneCell']) (by unfold maxLen; omega) (by omega) hst1.out.2 ?_; intro v3 w3 q1 q2 _; obtain ⟨gi, cap, hv3, H3⟩ := hst2 v3 w3 q1 q2; subst hv3; have hcap := H3.out.2.2; clear q1 q2 hst1 hst2))
      obtain ⟨gl, hgl⟩ : ∃ x, x = w2.heap.size := ⟨_, rfl⟩
      have HB3 : Hid (Bag w1 w3 [INI w1.heap.size gi cap gl k vs L]) := (Bag.nil w1).add H3.out.2.1 _ (by rw [hgl]; exact INI.ok H3.out.1)
      obtain ⟨n, hnk⟩ : ∃ n, n = k := ⟨_, rfl⟩
      rw [← hnk] at HB3 hcap ⊢
      rw [← hnk] at HP HN hn1
      clear H3 H1 hgl hnk
      obtain ⟨sl, hsl⟩ : ∃ x, x = sq s := ⟨_, rfl⟩
      have hsl2 : sl.length ≤ 17 := by rw [hsl]; unfold sq; have := spb_len 16 s; split <;> simp <;> omega
      have HSP : Hid (∀ w', Calls Tryd.prog 13 #[.string s] w' fun e w2 => ∃ a c, e = .returned (.tuple #[.slice a sl.length c, .int .i64 (pe (spb 16 s))]) ∧ OS w'.heap.size w2 (.slice a sl.length c) sl ∧ Below w'.heap.size w' w2) := fun w' => by rw [hsl]; exact splitO s w' (by omega)
      generalize pe (spb 16 s) = sz at *
      clear hsl
      have HNUM : Hid (∀ (z : Int) (w : World), Calls Tryd.prog 8 #[.int .i64 z] w fun e w' => e = .returned (.int .i64 z) ∧ w = w') := fun z w => (num13 z w).mono (fun _ _ h => ⟨h.1, h.2.symm⟩)
      have HPF : Hid (PF L) := pf_of (M := 1048576) (by rw [HN.out.2.1]; have := HN.out.2.2; omega) (fun j hj q hq => HP.out.2.2.2.2 (la L j) (la_mem hj) _ (sa_mem hq)) (by omega)
      go_wp2_with fail
      refine (HSP.out w3).mono ?_
      rintro e w4 ⟨a4, c4, rfl, o4, b4⟩
      have HB4 : Hid (Bag w1 w4 [PI w1.heap.size 9 (.slice a4 sl.length c4) sl.length (sl.map .string) (.slice a4 sl.length c4) 0 [], INI w1.heap.size gi cap gl n vs L]) := HB3.out.addP b4 o4
      clear o4 b4 HB3
      go_wp2_with fail
      refine (HSP.out w4).mono ?_
      rintro e w5 ⟨a5, c5, rfl, o5, b5⟩
      have HB5 : Hid (Bag w1 w5 [PI w1.heap.size 9 (.slice a5 sl.length c5) sl.length (sl.map .string) (.slice a5 sl.length c5) 0 [], PI w1.heap.size 9 (.slice a4 sl.length c4) sl.length (sl.map .string) (.slice a4 sl.length c4) 0 [], INI w1.heap.size gi cap gl n vs L]) := HB4.out.addP b5 o5
      clear o5 b5 HB4
      go_wp2_with fail
      refine (orderO _ L w5 HPF.out (show IN w1.heap.size _ gi cap gl n vs L from (HB5.out.ok (INI w1.heap.size gi cap gl n vs L) (by simp)).a).pr).mono ?_
      rintro e w6 ⟨a6, c6, z6, ol, rfl, k1, k2, k3, k4, k5, b6⟩
      have HO1 : Hid (OE L z6 ∧ (z6 = 0 → SP L ol) ∧ (z6 ≠ 0 → ol = []) ∧ ol.length ≤ 4096) := ⟨k1, k3, k4, k5⟩
      have hol : ol.length ≤ 4096 := k5
      have HB6 : Hid (Bag w1 w6 [PI w1.heap.size 3 (.slice a6 ol.length c6) ol.length (ol.map fun x : Nat => Value.int .i64 (x : Int)) (.slice a6 ol.length c6) 0 [], PI w1.heap.size 9 (.slice a5 sl.length c5) sl.length (sl.map .string) (.slice a5 sl.length c5) 0 [], PI w1.heap.size 9 (.slice a4 sl.length c4) sl.length (sl.map .string) (.slice a4 sl.length c4) 0 [], INI w1.heap.size gi cap gl n vs L]) := HB5.out.addP b6 k2
      clear k1 k2 k3 k4 k5 b6 HB5
      go_wp2_with fail
      refine (orderO _ L w6 HPF.out (show IN w1.heap.size _ gi cap gl n vs L from (HB6.out.ok (INI w1.heap.size gi cap gl n vs L) (by simp)).a).pr).mono ?_
      rintro e w7 ⟨a7, c7, z7, ol2, rfl, k1, k2, k3, k4, k5, b7⟩
      obtain ⟨rfl, rfl⟩ := oo_same HO1.out.1 k1 HO1.out.2.1 HO1.out.2.2.1 k3 k4
      have HB7 : Hid (Bag w1 w7 [PI w1.heap.size 3 (.slice a7 ol.length c7) ol.length (ol.map fun x : Nat => Value.int .i64 (x : Int)) (.slice a7 ol.length c7) 0 [], PI w1.heap.size 3 (.slice a6 ol.length c6) ol.length (ol.map fun x : Nat => Value.int .i64 (x : Int)) (.slice a6 ol.length c6) 0 [], PI w1.heap.size 9 (.slice a5 sl.length c5) sl.length (sl.map .string) (.slice a5 sl.length c5) 0 [], PI w1.heap.size 9 (.slice a4 sl.length c4) sl.length (sl.map .string) (.slice a4 sl.length c4) 0 [], INI w1.heap.size gi cap gl n vs L]) := HB6.out.addP b7 k2
      clear k1 k2 k3 k4 k5 b7 HB6
      have HS : Hid (Calls Tryd.prog 14 #[.slice a4 sl.length c4, .slice a5 sl.length c5] w7 fun e w' => e = .returned (.bool true) ∧ ∃ n, w' = w7.drewN n) := by
        have := same14 _ _ sl sl w7 (by omega) (by omega) (OS.sr (show OS w1.heap.size _ (.slice a4 sl.length c4) sl from (HB7.out.ok (PI w1.heap.size 9 (.slice a4 sl.length c4) sl.length (sl.map .string) (.slice a4 sl.length c4) 0 []) (by simp)).a.1)) (OS.sr (show OS w1.heap.size _ (.slice a5 sl.length c5) sl from (HB7.out.ok (PI w1.heap.size 9 (.slice a5 sl.length c5) sl.length (sl.map .string) (.slice a5 sl.length c5) 0 []) (by simp)).a.1))
        rwa [smB_self] at this
      go_wp2_with (go_at_call 8; refine (HNUM.out _ _).mono ?_; rintro e wx ⟨rfl, rfl⟩)
      refine HS.out.mono ?_
      rintro e wx ⟨rfl, nq, rfl⟩
      have HB8 : Hid (Bag w1 (w7.drewN nq) [PI w1.heap.size 3 (.slice a7 ol.length c7) ol.length (ol.map fun x : Nat => Value.int .i64 (x : Int)) (.slice a7 ol.length c7) 0 [], PI w1.heap.size 3 (.slice a6 ol.length c6) ol.length (ol.map fun x : Nat => Value.int .i64 (x : Int)) (.slice a6 ol.length c6) 0 [], PI w1.heap.size 9 (.slice a5 sl.length c5) sl.length (sl.map .string) (.slice a5 sl.length c5) 0 [], PI w1.heap.size 9 (.slice a4 sl.length c4) sl.length (sl.map .string) (.slice a4 sl.length c4) 0 [], INI w1.heap.size gi cap gl n vs L]) := HB7.out.below (drN _ _)
      generalize w7.drewN nq = w8 at *
      clear HB7 HS
      go_wp2_with fail
      refine (sameInts15 _ _ ol w8 HO1.out.2.2.2 (OI.ir (show OI w1.heap.size _ (.slice a6 ol.length c6) ol from (HB8.out.ok (PI w1.heap.size 3 (.slice a6 ol.length c6) ol.length (ol.map fun x : Nat => Value.int .i64 (x : Int)) (.slice a6 ol.length c6) 0 []) (by simp)).a.1)) (OI.ir (show OI w1.heap.size _ (.slice a7 ol.length c7) ol from (HB8.out.ok (PI w1.heap.size 3 (.slice a7 ol.length c7) ol.length (ol.map fun x : Nat => Value.int .i64 (x : Int)) (.slice a7 ol.length c7) 0 []) (by simp)).a.1))).mono ?_
      rintro e wx ⟨rfl, nq, rfl⟩
      have HB9 : Hid (Bag w1 (w8.drewN nq) [PI w1.heap.size 3 (.slice a7 ol.length c7) ol.length (ol.map fun x : Nat => Value.int .i64 (x : Int)) (.slice a7 ol.length c7) 0 [], PI w1.heap.size 3 (.slice a6 ol.length c6) ol.length (ol.map fun x : Nat => Value.int .i64 (x : Int)) (.slice a6 ol.length c6) 0 [], PI w1.heap.size 9 (.slice a5 sl.length c5) sl.length (sl.map .string) (.slice a5 sl.length c5) 0 [], PI w1.heap.size 9 (.slice a4 sl.length c4) sl.length (sl.map .string) (.slice a4 sl.length c4) 0 [], INI w1.heap.size gi cap gl n vs L]) := HB8.out.below (drN _ _)
      generalize w8.drewN nq = w9 at *
      clear HB8
      go_wp2_with (first | (at_builtin; refine append_read (B := w9.heap.size) (us := sl.map Value.string) i9 _ 16 rfl _ _ rfl Tryd.underlying29 HI.out.1.1 HI.out.1.2.1 HI.out.1.2.2.1 HI.out.1.2.2.2 rfl rfl (World.ownsRow_nil _ _ _ _) rfl (by rw [List.length_map]) (SR.cells (OS.sr (show OS w1.heap.size _ (.slice a4 sl.length c4) sl from (HB9.out.ok (PI w1.heap.size 9 (.slice a4 sl.length c4) sl.length (sl.map .string) (.slice a4 sl.length c4) 0 []) (by simp)).a.1))).2 (strs_one _) (Nat.le_refl _) (by unfold maxLen; omega) (by omega) ?_; intro v10 w10 q1 q2; rw [Nat.zero_add, List.nil_append] at q1; obtain ⟨a10, c10, hv10⟩ := ownsRow_form q1; subst hv10; have HB10 : Hid (Bag w1 w10 [LIt w1.heap.size 9 (.slice a10 sl.length c10) sl.length (sl.map .string), PI w1.heap.size 3 (.slice a7 ol.length c7) ol.length (ol.map fun x : Nat => Value.int .i64 (x : Int)) (.slice a7 ol.length c7) 0 [], PI w1.heap.size 3 (.slice a6 ol.length c6) ol.length (ol.map fun x : Nat => Value.int .i64 (x : Int)) (.slice a6 ol.length c6) 0 [], PI w1.heap.size 9 (.slice a5 sl.length c5) sl.length (sl.map .string) (.slice a5 sl.length c5) 0 [], PI w1.heap.size 9 (.slice a4 sl.length c4) sl.length (sl.map .string) (.slice a4 sl.length c4) 0 [], INI w1.heap.size gi cap gl n vs L]) := HB9.out.addL (ofGrown q2) q1; clear q1 q2 HB9) | (at_builtin; refine append_read (B := w10.heap.size) (us := ol.map fun x : Nat => Value.int .i64 (x : Int)) i3 _ 8 rfl _ _ rfl Tryd.underlying31 HI.out.2.1.1 HI.out.2.1.2.1 HI.out.2.1.2.2.1 HI.out.2.1.2.2.2 rfl rfl (World.ownsRow_nil _ _ _ _) rfl (by rw [List.length_map]) (IR.cells (OI.ir (show OI w1.heap.size _ (.slice a6 ol.length c6) ol from (HB10.out.ok (PI w1.heap.size 3 (.slice a6 ol.length c6) ol.length (ol.map fun x : Nat => Value.int .i64 (x : Int)) (.slice a6 ol.length c6) 0 []) (by simp)).a.1))).2 (ints_one _) (Nat.le_refl _) (by unfold maxLen; omega) (by omega) ?_; intro v11 w11 q1 q2; rw [Nat.zero_add, List.nil_append] at q1; obtain ⟨a11, c11, hv11⟩ := ownsRow_form q1; subst hv11; have HB11 : Hid (Bag w1 w11 [LIt w1.heap.size 3 (.slice a11 ol.length c11) ol.length (ol.map fun x : Nat => Value.int .i64 (x : Int)), LIt w1.heap.size 9 (.slice a10 sl.length c10) sl.length (sl.map .string), PI w1.heap.size 3 (.slice a7 ol.length c7) ol.length (ol.map fun x : Nat => Value.int .i64 (x : Int)) (.slice a7 ol.length c7) 0 [], PI w1.heap.size 3 (.slice a6 ol.length c6) ol.length (ol.map fun x : Nat => Value.int .i64 (x : Int)) (.slice a6 ol.length c6) 0 [], PI w1.heap.size 9 (.slice a5 sl.length c5) sl.length (sl.map .string) (.slice a5 sl.length c5) 0 [], PI w1.heap.size 9 (.slice a4 sl.length c4) sl.length (sl.map .string) (.slice a4 sl.length c4) 0 [], INI w1.heap.size gi cap gl n vs L]) := HB10.out.addL (ofGrown q2) q1; clear q1 q2 HB10) | (at_builtin; refine append_PI [LIt w1.heap.size 3 (.slice a11 ol.length c11) ol.length (ol.map fun x : Nat => Value.int .i64 (x : Int)), LIt w1.heap.size 9 (.slice a10 sl.length c10) sl.length (sl.map .string), PI w1.heap.size 3 (.slice a7 ol.length c7) ol.length (ol.map fun x : Nat => Value.int .i64 (x : Int)) (.slice a7 ol.length c7) 0 [], PI w1.heap.size 3 (.slice a6 ol.length c6) ol.length (ol.map fun x : Nat => Value.int .i64 (x : Int)) (.slice a6 ol.length c6) 0 [], PI w1.heap.size 9 (.slice a5 sl.length c5) sl.length (sl.map .string) (.slice a5 sl.length c5) 0 []] [INI w1.heap.size gi cap gl n vs L] i9 _ 16 rfl _ _ rfl Tryd.underlying29 HI.out.1.1 HI.out.1.2.1 HI.out.1.2.2.1 HI.out.1.2.2.2 rfl rfl (HB11.out.below (al_bel _ _)) w11.heap.size (Value.string ⟨#[120, 49]⟩) rfl (cellNew _ _ _) rfl (by unfold maxLen; omega) (by omega) ?_; intro fa0 fc0 fw0 hb'; have fH0 : Hid (Bag w1 fw0 [LIt w1.heap.size 3 (.slice a11 ol.length c11) ol.length (ol.map fun x : Nat => Value.int .i64 (x : Int)), LIt w1.heap.size 9 (.slice a10 sl.length c10) sl.length (sl.map .string), PI w1.heap.size 3 (.slice a7 ol.length c7) ol.length (ol.map fun x : Nat => Value.int .i64 (x : Int)) (.slice a7 ol.length c7) 0 [], PI w1.heap.size 3 (.slice a6 ol.length c6) ol.length (ol.map fun x : Nat => Value.int .i64 (x : Int)) (.slice a6 ol.length c6) 0 [], PI w1.heap.size 9 (.slice a5 sl.length c5) sl.length (sl.map .string) (.slice a5 sl.length c5) 0 [], PI w1.heap.size 9 (.slice a4 sl.length c4) sl.length (sl.map .string) (.slice fa0 (sl.length + 1) fc0) (1) (List.replicate (1) (Value.string ⟨#[120, 49]⟩)), INI w1.heap.size gi cap gl n vs L]) := hb'; clear hb' HB11) | (at_builtin; refine append_PI [LIt w1.heap.size 3 (.slice a11 ol.length c11) ol.length (ol.map fun x : Nat => Value.int .i64 (x : Int)), LIt w1.heap.size 9 (.slice a10 sl.length c10) sl.length (sl.map .string), PI w1.heap.size 3 (.slice a7 ol.length c7) ol.length (ol.map fun x : Nat => Value.int .i64 (x : Int)) (.slice a7 ol.length c7) 0 [], PI w1.heap.size 3 (.slice a6 ol.length c6) ol.length (ol.map fun x : Nat => Value.int .i64 (x : Int)) (.slice a6 ol.length c6) 0 []] [PI w1.heap.size 9 (.slice a4 sl.length c4) sl.length (sl.map .string) (.slice fa0 (sl.length + 1) fc0) (1) (List.replicate (1) (Value.string ⟨#[120, 49]⟩)), INI w1.heap.size gi cap gl n vs L] i9 _ 16 rfl _ _ rfl Tryd.underlying29 HI.out.1.1 HI.out.1.2.1 HI.out.1.2.2.1 HI.out.1.2.2.2 rfl rfl (fH0.out.below (al_bel _ _)) fw0.heap.size (Value.string ⟨#[120, 50]⟩) rfl (cellNew _ _ _) rfl (by unfold maxLen; omega) (by omega) ?_; intro fa1 fc1 fw1 hb'; have fH1 : Hid (Bag w1 fw1 [LIt w1.heap.size 3 (.slice a11 ol.length c11) ol.length (ol.map fun x : Nat => Value.int .i64 (x : Int)), LIt w1.heap.size 9 (.slice a10 sl.length c10) sl.length (sl.map .string), PI w1.heap.size 3 (.slice a7 ol.length c7) ol.length (ol.map fun x : Nat => Value.int .i64 (x : Int)) (.slice a7 ol.length c7) 0 [], PI w1.heap.size 3 (.slice a6 ol.length c6) ol.length (ol.map fun x : Nat => Value.int .i64 (x : Int)) (.slice a6 ol.length c6) 0 [], PI w1.heap.size 9 (.slice a5 sl.length c5) sl.length (sl.map .string) (.slice fa1 (sl.length + 1) fc1) (1) (List.replicate (1) (Value.string ⟨#[120, 50]⟩)), PI w1.heap.size 9 (.slice a4 sl.length c4) sl.length (sl.map .string) (.slice fa0 (sl.length + 1) fc0) (1) (List.replicate (1) (Value.string ⟨#[120, 49]⟩)), INI w1.heap.size gi cap gl n vs L]) := hb'; clear hb' fH0) | (at_builtin; refine append_PI [LIt w1.heap.size 3 (.slice a11 ol.length c11) ol.length (ol.map fun x : Nat => Value.int .i64 (x : Int)), LIt w1.heap.size 9 (.slice a10 sl.length c10) sl.length (sl.map .string), PI w1.heap.size 3 (.slice a7 ol.length c7) ol.length (ol.map fun x : Nat => Value.int .i64 (x : Int)) (.slice a7 ol.length c7) 0 []] [PI w1.heap.size 9 (.slice a5 sl.length c5) sl.length (sl.map .string) (.slice fa1 (sl.length + 1) fc1) (1) (List.replicate (1) (Value.string ⟨#[120, 50]⟩)), PI w1.heap.size 9 (.slice a4 sl.length c4) sl.length (sl.map .string) (.slice fa0 (sl.length + 1) fc0) (1) (List.replicate (1) (Value.string ⟨#[120, 49]⟩)), INI w1.heap.size gi cap gl n vs L] i3 _ 8 rfl _ _ rfl Tryd.underlying31 HI.out.2.1.1 HI.out.2.1.2.1 HI.out.2.1.2.2.1 HI.out.2.1.2.2.2 rfl rfl (fH1.out.below (al_bel _ _)) fw1.heap.size (Value.int .i64 (-1)) rfl (cellNew _ _ _) rfl (by unfold maxLen; omega) (by omega) ?_; intro fa2 fc2 fw2 hb'; have fH2 : Hid (Bag w1 fw2 [LIt w1.heap.size 3 (.slice a11 ol.length c11) ol.length (ol.map fun x : Nat => Value.int .i64 (x : Int)), LIt w1.heap.size 9 (.slice a10 sl.length c10) sl.length (sl.map .string), PI w1.heap.size 3 (.slice a7 ol.length c7) ol.length (ol.map fun x : Nat => Value.int .i64 (x : Int)) (.slice a7 ol.length c7) 0 [], PI w1.heap.size 3 (.slice a6 ol.length c6) ol.length (ol.map fun x : Nat => Value.int .i64 (x : Int)) (.slice fa2 (ol.length + 1) fc2) (1) (List.replicate (1) (Value.int .i64 (-1))), PI w1.heap.size 9 (.slice a5 sl.length c5) sl.length (sl.map .string) (.slice fa1 (sl.length + 1) fc1) (1) (List.replicate (1) (Value.string ⟨#[120, 50]⟩)), PI w1.heap.size 9 (.slice a4 sl.length c4) sl.length (sl.map .string) (.slice fa0 (sl.length + 1) fc0) (1) (List.replicate (1) (Value.string ⟨#[120, 49]⟩)), INI w1.heap.size gi cap gl n vs L]) := hb'; clear hb' fH1) | (at_builtin; refine append_PI [LIt w1.heap.size 3 (.slice a11 ol.length c11) ol.length (ol.map fun x : Nat => Value.int .i64 (x : Int)), LIt w1.heap.size 9 (.slice a10 sl.length c10) sl.length (sl.map .string)] [PI w1.heap.size 3 (.slice a6 ol.length c6) ol.length (ol.map fun x : Nat => Value.int .i64 (x : Int)) (.slice fa2 (ol.length + 1) fc2) (1) (List.replicate (1) (Value.int .i64 (-1))), PI w1.heap.size 9 (.slice a5 sl.length c5) sl.length (sl.map .string) (.slice fa1 (sl.length + 1) fc1) (1) (List.replicate (1) (Value.string ⟨#[120, 50]⟩)), PI w1.heap.size 9 (.slice a4 sl.length c4) sl.length (sl.map .string) (.slice fa0 (sl.length + 1) fc0) (1) (List.replicate (1) (Value.string ⟨#[120, 49]⟩)), INI w1.heap.size gi cap gl n vs L] i3 _ 8 rfl _ _ rfl Tryd.underlying31 HI.out.2.1.1 HI.out.2.1.2.1 HI.out.2.1.2.2.1 HI.out.2.1.2.2.2 rfl rfl (fH2.out.below (al_bel _ _)) fw2.heap.size (Value.int .i64 (-2)) rfl (cellNew _ _ _) rfl (by unfold maxLen; omega) (by omega) ?_; intro fa3 fc3 fw3 hb'; have fH3 : Hid (Bag w1 fw3 [LIt w1.heap.size 3 (.slice a11 ol.length c11) ol.length (ol.map fun x : Nat => Value.int .i64 (x : Int)), LIt w1.heap.size 9 (.slice a10 sl.length c10) sl.length (sl.map .string), PI w1.heap.size 3 (.slice a7 ol.length c7) ol.length (ol.map fun x : Nat => Value.int .i64 (x : Int)) (.slice fa3 (ol.length + 1) fc3) (1) (List.replicate (1) (Value.int .i64 (-2))), PI w1.heap.size 3 (.slice a6 ol.length c6) ol.length (ol.map fun x : Nat => Value.int .i64 (x : Int)) (.slice fa2 (ol.length + 1) fc2) (1) (List.replicate (1) (Value.int .i64 (-1))), PI w1.heap.size 9 (.slice a5 sl.length c5) sl.length (sl.map .string) (.slice fa1 (sl.length + 1) fc1) (1) (List.replicate (1) (Value.string ⟨#[120, 50]⟩)), PI w1.heap.size 9 (.slice a4 sl.length c4) sl.length (sl.map .string) (.slice fa0 (sl.length + 1) fc0) (1) (List.replicate (1) (Value.string ⟨#[120, 49]⟩)), INI w1.heap.size gi cap gl n vs L]) := hb'; clear hb' fH2))
      go_loopw [21, 22, 23, 24, 25] (fun v1 v2 v3 v4 t wr => ∃ (k m q : Nat) (A1 : Option Addr) (C1 : Nat) (A2 : Option Addr) (C2 : Nat) (A3 : Option Addr) (C3 : Nat) (A4 : Option Addr) (C4 : Nat), k ≤ 70 ∧ v1 = .slice A1 m C1 ∧ v2 = .slice A2 m C2 ∧ v3 = .slice A3 q C3 ∧ v4 = .slice A4 q C4 ∧ t = .int .i64 k ∧ Hid (m = sl.length + k ∧ q = ol.length + k ∧ Bag w1 wr [LIt w1.heap.size 3 (.slice a11 ol.length c11) ol.length (ol.map fun x : Nat => Value.int .i64 (x : Int)), LIt w1.heap.size 9 (.slice a10 sl.length c10) sl.length (sl.map .string), PI w1.heap.size 3 (.slice a7 ol.length c7) ol.length (ol.map fun x : Nat => Value.int .i64 (x : Int)) (.slice A4 q C4) (k) (List.replicate (k) (Value.int .i64 (-2))), PI w1.heap.size 3 (.slice a6 ol.length c6) ol.length (ol.map fun x : Nat => Value.int .i64 (x : Int)) (.slice A3 q C3) (k) (List.replicate (k) (Value.int .i64 (-1))), PI w1.heap.size 9 (.slice a5 sl.length c5) sl.length (sl.map .string) (.slice A2 m C2) (k) (List.replicate (k) (Value.string ⟨#[120, 50]⟩)), PI w1.heap.size 9 (.slice a4 sl.length c4) sl.length (sl.map .string) (.slice A1 m C1) (k) (List.replicate (k) (Value.string ⟨#[120, 49]⟩)), INI w1.heap.size gi cap gl n vs L])) (fun _ _ _ _ t _ => 70 - (intOf t).toNat)
      case atStart => exact ⟨1, _, _, _, _, _, _, _, _, _, _, by omega, rfl, rfl, rfl, rfl, rfl, rfl, rfl, fH3.out⟩
      case round =>
        clear fH3
        obtain ⟨k, m, q, A1, C1, A2, C2, A3, C3, A4, C4, hk, rfl, rfl, rfl, rfl, rfl, H⟩ := hrel
        by_cases hlt : k < 70
        · have HK : Hid (Bag w1 wr [LIt w1.heap.size 3 (.slice a11 ol.length c11) ol.length (ol.map fun x : Nat => Value.int .i64 (x : Int)), LIt w1.heap.size 9 (.slice a10 sl.length c10) sl.length (sl.map .string), PI w1.heap.size 3 (.slice a7 ol.length c7) ol.length (ol.map fun x : Nat => Value.int .i64 (x : Int)) (.slice A4 q C4) (k) (List.replicate (k) (Value.int .i64 (-2))), PI w1.heap.size 3 (.slice a6 ol.length c6) ol.length (ol.map fun x : Nat => Value.int .i64 (x : Int)) (.slice A3 q C3) (k) (List.replicate (k) (Value.int .i64 (-1))), PI w1.heap.size 9 (.slice a5 sl.length c5) sl.length (sl.map .string) (.slice A2 m C2) (k) (List.replicate (k) (Value.string ⟨#[120, 50]⟩)), PI w1.heap.size 9 (.slice a4 sl.length c4) sl.length (sl.map .string) (.slice A1 m C1) (k) (List.replicate (k) (Value.string ⟨#[120, 49]⟩)), INI w1.heap.size gi cap gl n vs L]) := H.out.2.2
          clear H
          go_wp2_with (first | (at_builtin; refine append_PI [LIt w1.heap.size 3 (.slice a11 ol.length c11) ol.length (ol.map fun x : Nat => Value.int .i64 (x : Int)), LIt w1.heap.size 9 (.slice a10 sl.length c10) sl.length (sl.map .string), PI w1.heap.size 3 (.slice a7 ol.length c7) ol.length (ol.map fun x : Nat => Value.int .i64 (x : Int)) (.slice A4 q C4) (k) (List.replicate (k) (Value.int .i64 (-2))), PI w1.heap.size 3 (.slice a6 ol.length c6) ol.length (ol.map fun x : Nat => Value.int .i64 (x : Int)) (.slice A3 q C3) (k) (List.replicate (k) (Value.int .i64 (-1))), PI w1.heap.size 9 (.slice a5 sl.length c5) sl.length (sl.map .string) (.slice A2 m C2) (k) (List.replicate (k) (Value.string ⟨#[120, 50]⟩))] [INI w1.heap.size gi cap gl n vs L] i9 _ 16 rfl _ _ rfl Tryd.underlying29 HI.out.1.1 HI.out.1.2.1 HI.out.1.2.2.1 HI.out.1.2.2.2 rfl rfl (HK.out.below (al_bel _ _)) wr.heap.size (Value.string ⟨#[120, 49]⟩) rfl (cellNew _ _ _) rfl (by unfold maxLen; omega) (by omega) ?_; intro ga0 gc0 gw0 hb'; rw [← List.replicate_succ'] at hb'; have gH0 : Hid (Bag w1 gw0 [LIt w1.heap.size 3 (.slice a11 ol.length c11) ol.length (ol.map fun x : Nat => Value.int .i64 (x : Int)), LIt w1.heap.size 9 (.slice a10 sl.length c10) sl.length (sl.map .string), PI w1.heap.size 3 (.slice a7 ol.length c7) ol.length (ol.map fun x : Nat => Value.int .i64 (x : Int)) (.slice A4 q C4) (k) (List.replicate (k) (Value.int .i64 (-2))), PI w1.heap.size 3 (.slice a6 ol.length c6) ol.length (ol.map fun x : Nat => Value.int .i64 (x : Int)) (.slice A3 q C3) (k) (List.replicate (k) (Value.int .i64 (-1))), PI w1.heap.size 9 (.slice a5 sl.length c5) sl.length (sl.map .string) (.slice A2 m C2) (k) (List.replicate (k) (Value.string ⟨#[120, 50]⟩)), PI w1.heap.size 9 (.slice a4 sl.length c4) sl.length (sl.map .string) (.slice ga0 (sl.length + k + 1) gc0) (k + 1) (List.replicate (k + 1) (Value.string ⟨#[120, 49]⟩)), INI w1.heap.size gi cap gl n vs L]) := hb'; clear hb' HK) | (at_builtin; refine append_PI [LIt w1.heap.size 3 (.slice a11 ol.length c11) ol.length (ol.map fun x : Nat => Value.int .i64 (x : Int)), LIt w1.heap.size 9 (.slice a10 sl.length c10) sl.length (sl.map .string), PI w1.heap.size 3 (.slice a7 ol.length c7) ol.length (ol.map fun x : Nat => Value.int .i64 (x : Int)) (.slice A4 q C4) (k) (List.replicate (k) (Value.int .i64 (-2))), PI w1.heap.size 3 (.slice a6 ol.length c6) ol.length (ol.map fun x : Nat => Value.int .i64 (x : Int)) (.slice A3 q C3) (k) (List.replicate (k) (Value.int .i64 (-1)))] [PI w1.heap.size 9 (.slice a4 sl.length c4) sl.length (sl.map .string) (.slice ga0 (sl.length + k + 1) gc0) (k + 1) (List.replicate (k + 1) (Value.string ⟨#[120, 49]⟩)), INI w1.heap.size gi cap gl n vs L] i9 _ 16 rfl _ _ rfl Tryd.underlying29 HI.out.1.1 HI.out.1.2.1 HI.out.1.2.2.1 HI.out.1.2.2.2 rfl rfl (gH0.out.below (al_bel _ _)) gw0.heap.size (Value.string ⟨#[120, 50]⟩) rfl (cellNew _ _ _) rfl (by unfold maxLen; omega) (by omega) ?_; intro ga1 gc1 gw1 hb'; rw [← List.replicate_succ'] at hb'; have gH1 : Hid (Bag w1 gw1 [LIt w1.heap.size 3 (.slice a11 ol.length c11) ol.length (ol.map fun x : Nat => Value.int .i64 (x : Int)), LIt w1.heap.size 9 (.slice a10 sl.length c10) sl.length (sl.map .string), PI w1.heap.size 3 (.slice a7 ol.length c7) ol.length (ol.map fun x : Nat => Value.int .i64 (x : Int)) (.slice A4 q C4) (k) (List.replicate (k) (Value.int .i64 (-2))), PI w1.heap.size 3 (.slice a6 ol.length c6) ol.length (ol.map fun x : Nat => Value.int .i64 (x : Int)) (.slice A3 q C3) (k) (List.replicate (k) (Value.int .i64 (-1))), PI w1.heap.size 9 (.slice a5 sl.length c5) sl.length (sl.map .string) (.slice ga1 (sl.length + k + 1) gc1) (k + 1) (List.replicate (k + 1) (Value.string ⟨#[120, 50]⟩)), PI w1.heap.size 9 (.slice a4 sl.length c4) sl.length (sl.map .string) (.slice ga0 (sl.length + k + 1) gc0) (k + 1) (List.replicate (k + 1) (Value.string ⟨#[120, 49]⟩)), INI w1.heap.size gi cap gl n vs L]) := hb'; clear hb' gH0) | (at_builtin; refine append_PI [LIt w1.heap.size 3 (.slice a11 ol.length c11) ol.length (ol.map fun x : Nat => Value.int .i64 (x : Int)), LIt w1.heap.size 9 (.slice a10 sl.length c10) sl.length (sl.map .string), PI w1.heap.size 3 (.slice a7 ol.length c7) ol.length (ol.map fun x : Nat => Value.int .i64 (x : Int)) (.slice A4 q C4) (k) (List.replicate (k) (Value.int .i64 (-2)))] [PI w1.heap.size 9 (.slice a5 sl.length c5) sl.length (sl.map .string) (.slice ga1 (sl.length + k + 1) gc1) (k + 1) (List.replicate (k + 1) (Value.string ⟨#[120, 50]⟩)), PI w1.heap.size 9 (.slice a4 sl.length c4) sl.length (sl.map .string) (.slice ga0 (sl.length + k + 1) gc0) (k + 1) (List.replicate (k + 1) (Value.string ⟨#[120, 49]⟩)), INI w1.heap.size gi cap gl n vs L] i3 _ 8 rfl _ _ rfl Tryd.underlying31 HI.out.2.1.1 HI.out.2.1.2.1 HI.out.2.1.2.2.1 HI.out.2.1.2.2.2 rfl rfl (gH1.out.below (al_bel _ _)) gw1.heap.size (Value.int .i64 (-1)) rfl (cellNew _ _ _) rfl (by unfold maxLen; omega) (by omega) ?_; intro ga2 gc2 gw2 hb'; rw [← List.replicate_succ'] at hb'; have gH2 : Hid (Bag w1 gw2 [LIt w1.heap.size 3 (.slice a11 ol.length c11) ol.length (ol.map fun x : Nat => Value.int .i64 (x : Int)), LIt w1.heap.size 9 (.slice a10 sl.length c10) sl.length (sl.map .string), PI w1.heap.size 3 (.slice a7 ol.length c7) ol.length (ol.map fun x : Nat => Value.int .i64 (x : Int)) (.slice A4 q C4) (k) (List.replicate (k) (Value.int .i64 (-2))), PI w1.heap.size 3 (.slice a6 ol.length c6) ol.length (ol.map fun x : Nat => Value.int .i64 (x : Int)) (.slice ga2 (ol.length + k + 1) gc2) (k + 1) (List.replicate (k + 1) (Value.int .i64 (-1))), PI w1.heap.size 9 (.slice a5 sl.length c5) sl.length (sl.map .string) (.slice ga1 (sl.length + k + 1) gc1) (k + 1) (List.replicate (k + 1) (Value.string ⟨#[120, 50]⟩)), PI w1.heap.size 9 (.slice a4 sl.length c4) sl.length (sl.map .string) (.slice ga0 (sl.length + k + 1) gc0) (k + 1) (List.replicate (k + 1) (Value.string ⟨#[120, 49]⟩)), INI w1.heap.size gi cap gl n vs L]) := hb'; clear hb' gH1) | (at_builtin; refine append_PI [LIt w1.heap.size 3 (.slice a11 ol.length c11) ol.length (ol.map fun x : Nat => Value.int .i64 (x : Int)), LIt w1.heap.size 9 (.slice a10 sl.length c10) sl.length (sl.map .string)] [PI w1.heap.size 3 (.slice a6 ol.length c6) ol.length (ol.map fun x : Nat => Value.int .i64 (x : Int)) (.slice ga2 (ol.length + k + 1) gc2) (k + 1) (List.replicate (k + 1) (Value.int .i64 (-1))), PI w1.heap.size 9 (.slice a5 sl.length c5) sl.length (sl.map .string) (.slice ga1 (sl.length + k + 1) gc1) (k + 1) (List.replicate (k + 1) (Value.string ⟨#[120, 50]⟩)), PI w1.heap.size 9 (.slice a4 sl.length c4) sl.length (sl.map .string) (.slice ga0 (sl.length + k + 1) gc0) (k + 1) (List.replicate (k + 1) (Value.string ⟨#[120, 49]⟩)), INI w1.heap.size gi cap gl n vs L] i3 _ 8 rfl _ _ rfl Tryd.underlying31 HI.out.2.1.1 HI.out.2.1.2.1 HI.out.2.1.2.2.1 HI.out.2.1.2.2.2 rfl rfl (gH2.out.below (al_bel _ _)) gw2.heap.size (Value.int .i64 (-2)) rfl (cellNew _ _ _) rfl (by unfold maxLen; omega) (by omega) ?_; intro ga3 gc3 gw3 hb'; rw [← List.replicate_succ'] at hb'; have gH3 : Hid (Bag w1 gw3 [LIt w1.heap.size 3 (.slice a11 ol.length c11) ol.length (ol.map fun x : Nat => Value.int .i64 (x : Int)), LIt w1.heap.size 9 (.slice a10 sl.length c10) sl.length (sl.map .string), PI w1.heap.size 3 (.slice a7 ol.length c7) ol.length (ol.map fun x : Nat => Value.int .i64 (x : Int)) (.slice ga3 (ol.length + k + 1) gc3) (k + 1) (List.replicate (k + 1) (Value.int .i64 (-2))), PI w1.heap.size 3 (.slice a6 ol.length c6) ol.length (ol.map fun x : Nat => Value.int .i64 (x : Int)) (.slice ga2 (ol.length + k + 1) gc2) (k + 1) (List.replicate (k + 1) (Value.int .i64 (-1))), PI w1.heap.size 9 (.slice a5 sl.length c5) sl.length (sl.map .string) (.slice ga1 (sl.length + k + 1) gc1) (k + 1) (List.replicate (k + 1) (Value.string ⟨#[120, 50]⟩)), PI w1.heap.size 9 (.slice a4 sl.length c4) sl.length (sl.map .string) (.slice ga0 (sl.length + k + 1) gc0) (k + 1) (List.replicate (k + 1) (Value.string ⟨#[120, 49]⟩)), INI w1.heap.size gi cap gl n vs L]) := hb'; clear hb' gH2))
          exact ⟨⟨k + 1, _, _, _, _, _, _, _, _, _, _, by omega, rfl, rfl, rfl, rfl, by go_num, rfl, rfl, gH3.out⟩, by simp [intOf]; omega⟩
        · obtain rfl : k = 70 := by omega
          obtain ⟨w12, hw12⟩ : ∃ x, x = wr := ⟨_, rfl⟩
          subst hw12
          have HB12 : Hid (Bag w1 w12 [LIt w1.heap.size 3 (.slice a11 ol.length c11) ol.length (ol.map fun x : Nat => Value.int .i64 (x : Int)), LIt w1.heap.size 9 (.slice a10 sl.length c10) sl.length (sl.map .string), PI w1.heap.size 3 (.slice a7 ol.length c7) ol.length (ol.map fun x : Nat => Value.int .i64 (x : Int)) (.slice A4 q C4) (70) (List.replicate (70) (Value.int .i64 (-2))), PI w1.heap.size 3 (.slice a6 ol.length c6) ol.length (ol.map fun x : Nat => Value.int .i64 (x : Int)) (.slice A3 q C3) (70) (List.replicate (70) (Value.int .i64 (-1))), PI w1.heap.size 9 (.slice a5 sl.length c5) sl.length (sl.map .string) (.slice A2 m C2) (70) (List.replicate (70) (Value.string ⟨#[120, 50]⟩)), PI w1.heap.size 9 (.slice a4 sl.length c4) sl.length (sl.map .string) (.slice A1 m C1) (70) (List.replicate (70) (Value.string ⟨#[120, 49]⟩)), INI w1.heap.size gi cap gl n vs L] ∧ m = sl.length + 70 ∧ q = ol.length + 70) := ⟨H.out.2.2, H.out.1, H.out.2.1⟩
          clear H hk hlt
          go_wp2
          go_loopw [26] (fun t wr => ∃ (k : Nat) (xs : List Value), k ≤ sl.length ∧ t = .int .i64 k ∧ Hid (Bag w1 wr [LIt w1.heap.size 3 (.slice a11 ol.length c11) ol.length (ol.map fun x : Nat => Value.int .i64 (x : Int)), LIt w1.heap.size 9 (.slice a10 sl.length c10) sl.length (sl.map .string), PI w1.heap.size 3 (.slice a7 ol.length c7) ol.length (ol.map fun x : Nat => Value.int .i64 (x : Int)) (.slice A4 q C4) (70) (List.replicate (70) (Value.int .i64 (-2))), PI w1.heap.size 3 (.slice a6 ol.length c6) ol.length (ol.map fun x : Nat => Value.int .i64 (x : Int)) (.slice A3 q C3) (70) (List.replicate (70) (Value.int .i64 (-1))), PI w1.heap.size 9 (.slice a5 sl.length c5) sl.length xs (.slice A2 m C2) (70) (List.replicate (70) (Value.string ⟨#[120, 50]⟩)), PI w1.heap.size 9 (.slice a4 sl.length c4) sl.length (sl.map .string) (.slice A1 m C1) (70) (List.replicate (70) (Value.string ⟨#[120, 49]⟩)), INI w1.heap.size gi cap gl n vs L])) (fun t _ => sl.length - (intOf t).toNat)
          case atStart => exact ⟨0, _, Nat.zero_le _, rfl, HB12.out.1⟩
          case round =>
            obtain ⟨k, xs, hk, rfl, H⟩ := hrel
            by_cases hlt : k < sl.length
            · obtain ⟨g, x, hga, q1, q2, q3⟩ := PI.set (ls := [LIt w1.heap.size 3 (.slice a11 ol.length c11) ol.length (ol.map fun x : Nat => Value.int .i64 (x : Int)), LIt w1.heap.size 9 (.slice a10 sl.length c10) sl.length (sl.map .string), PI w1.heap.size 3 (.slice a7 ol.length c7) ol.length (ol.map fun x : Nat => Value.int .i64 (x : Int)) (.slice A4 q C4) (70) (List.replicate (70) (Value.int .i64 (-2))), PI w1.heap.size 3 (.slice a6 ol.length c6) ol.length (ol.map fun x : Nat => Value.int .i64 (x : Int)) (.slice A3 q C3) (70) (List.replicate (70) (Value.int .i64 (-1)))]) (rs := [PI w1.heap.size 9 (.slice a4 sl.length c4) sl.length (sl.map .string) (.slice A1 m C1) (70) (List.replicate (70) (Value.string ⟨#[120, 49]⟩)), INI w1.heap.size gi cap gl n vs L]) H.out k hlt
              have HN := q3 (.string ⟨#[115, 112, 111, 105, 108, 116]⟩)
              subst hga
              have HX : Hid (Bag w1 (wr.setCell ⟨g, k, none⟩ (.string ⟨#[115, 112, 111, 105, 108, 116]⟩)) [LIt w1.heap.size 3 (.slice a11 ol.length c11) ol.length (ol.map fun x : Nat => Value.int .i64 (x : Int)), LIt w1.heap.size 9 (.slice a10 sl.length c10) sl.length (sl.map .string), PI w1.heap.size 3 (.slice a7 ol.length c7) ol.length (ol.map fun x : Nat => Value.int .i64 (x : Int)) (.slice A4 q C4) (70) (List.replicate (70) (Value.int .i64 (-2))), PI w1.heap.size 3 (.slice a6 ol.length c6) ol.length (ol.map fun x : Nat => Value.int .i64 (x : Int)) (.slice A3 q C3) (70) (List.replicate (70) (Value.int .i64 (-1))), PI w1.heap.size 9 (.slice (some ⟨g, 0, none⟩) sl.length c5) sl.length (xs.set k (.string ⟨#[115, 112, 111, 105, 108, 116]⟩)) (.slice A2 m C2) (70) (List.replicate (70) (Value.string ⟨#[120, 50]⟩)), PI w1.heap.size 9 (.slice a4 sl.length c4) sl.length (sl.map .string) (.slice A1 m C1) (70) (List.replicate (70) (Value.string ⟨#[120, 49]⟩)), INI w1.heap.size gi cap gl n vs L]) := HN
              clear HN q3 H HB12
              go_wp2
              exact ⟨⟨k + 1, _, by omega, by go_num, HX⟩, by simp [intOf]; omega⟩
            · obtain rfl : k = sl.length := by omega
              obtain ⟨w13, hw13⟩ : ∃ x, x = wr := ⟨_, rfl⟩
              subst hw13
              have HB13 : Hid (Bag w1 w13 [LIt w1.heap.size 3 (.slice a11 ol.length c11) ol.length (ol.map fun x : Nat => Value.int .i64 (x : Int)), LIt w1.heap.size 9 (.slice a10 sl.length c10) sl.length (sl.map .string), PI w1.heap.size 3 (.slice a7 ol.length c7) ol.length (ol.map fun x : Nat => Value.int .i64 (x : Int)) (.slice A4 q C4) (70) (List.replicate (70) (Value.int .i64 (-2))), PI w1.heap.size 3 (.slice a6 ol.length c6) ol.length (ol.map fun x : Nat => Value.int .i64 (x : Int)) (.slice A3 q C3) (70) (List.replicate (70) (Value.int .i64 (-1))), PI w1.heap.size 9 (.slice a5 sl.length c5) sl.length xs (.slice A2 m C2) (70) (List.replicate (70) (Value.string ⟨#[120, 50]⟩)), PI w1.heap.size 9 (.slice a4 sl.length c4) sl.length (sl.map .string) (.slice A1 m C1) (70) (List.replicate (70) (Value.string ⟨#[120, 49]⟩)), INI w1.heap.size gi cap gl n vs L] ∧ m = sl.length + 70 ∧ q = ol.length + 70) := ⟨H.out, HB12.out.2⟩
              clear H hk hlt HB12
              go_wp2
              go_loopw [27] (fun t wr => ∃ (k : Nat) (ys : List Value), k ≤ ol.length ∧ t = .int .i64 k ∧ Hid (Bag w1 wr [LIt w1.heap.size 3 (.slice a11 ol.length c11) ol.length (ol.map fun x : Nat => Value.int .i64 (x : Int)), LIt w1.heap.size 9 (.slice a10 sl.length c10) sl.length (sl.map .string), PI w1.heap.size 3 (.slice a7 ol.length c7) ol.length ys (.slice A4 q C4) (70) (List.replicate (70) (Value.int .i64 (-2))), PI w1.heap.size 3 (.slice a6 ol.length c6) ol.length (ol.map fun x : Nat => Value.int .i64 (x : Int)) (.slice A3 q C3) (70) (List.replicate (70) (Value.int .i64 (-1))), PI w1.heap.size 9 (.slice a5 sl.length c5) sl.length xs (.slice A2 m C2) (70) (List.replicate (70) (Value.string ⟨#[120, 50]⟩)), PI w1.heap.size 9 (.slice a4 sl.length c4) sl.length (sl.map .string) (.slice A1 m C1) (70) (List.replicate (70) (Value.string ⟨#[120, 49]⟩)), INI w1.heap.size gi cap gl n vs L])) (fun t _ => ol.length - (intOf t).toNat)
              case atStart => exact ⟨0, _, Nat.zero_le _, rfl, HB13.out.1⟩
              case round =>
                obtain ⟨k, ys, hk, rfl, H⟩ := hrel
                by_cases hlt : k < ol.length
                · obtain ⟨g, x, hga, q1, q2, q3⟩ := PI.set (ls := [LIt w1.heap.size 3 (.slice a11 ol.length c11) ol.length (ol.map fun x : Nat => Value.int .i64 (x : Int)), LIt w1.heap.size 9 (.slice a10 sl.length c10) sl.length (sl.map .string)]) (rs := [PI w1.heap.size 3 (.slice a6 ol.length c6) ol.length (ol.map fun x : Nat => Value.int .i64 (x : Int)) (.slice A3 q C3) (70) (List.replicate (70) (Value.int .i64 (-1))), PI w1.heap.size 9 (.slice a5 sl.length c5) sl.length xs (.slice A2 m C2) (70) (List.replicate (70) (Value.string ⟨#[120, 50]⟩)), PI w1.heap.size 9 (.slice a4 sl.length c4) sl.length (sl.map .string) (.slice A1 m C1) (70) (List.replicate (70) (Value.string ⟨#[120, 49]⟩)), INI w1.heap.size gi cap gl n vs L]) H.out k hlt
                  have HN := q3 (.int .i64 (-7))
                  subst hga
                  have HX : Hid (Bag w1 (wr.setCell ⟨g, k, none⟩ (.int .i64 (-7))) [LIt w1.heap.size 3 (.slice a11 ol.length c11) ol.length (ol.map fun x : Nat => Value.int .i64 (x : Int)), LIt w1.heap.size 9 (.slice a10 sl.length c10) sl.length (sl.map .string), PI w1.heap.size 3 (.slice (some ⟨g, 0, none⟩) ol.length c7) ol.length (ys.set k (.int .i64 (-7))) (.slice A4 q C4) (70) (List.replicate (70) (Value.int .i64 (-2))), PI w1.heap.size 3 (.slice a6 ol.length c6) ol.length (ol.map fun x : Nat => Value.int .i64 (x : Int)) (.slice A3 q C3) (70) (List.replicate (70) (Value.int .i64 (-1))), PI w1.heap.size 9 (.slice a5 sl.length c5) sl.length xs (.slice A2 m C2) (70) (List.replicate (70) (Value.string ⟨#[120, 50]⟩)), PI w1.heap.size 9 (.slice a4 sl.length c4) sl.length (sl.map .string) (.slice A1 m C1) (70) (List.replicate (70) (Value.string ⟨#[120, 49]⟩)), INI w1.heap.size gi cap gl n vs L]) := HN
                  clear HN q3 H HB13
                  go_wp2
                  exact ⟨⟨k + 1, _, by omega, by go_num, HX⟩, by simp [intOf]; omega⟩
                · obtain rfl : k = ol.length := by omega
                  obtain ⟨w14, hw14⟩ : ∃ x, x = wr := ⟨_, rfl⟩
                  subst hw14
                  have HB14 : Hid (Bag w1 w14 [LIt w1.heap.size 3 (.slice a11 ol.length c11) ol.length (ol.map fun x : Nat => Value.int .i64 (x : Int)), LIt w1.heap.size 9 (.slice a10 sl.length c10) sl.length (sl.map .string), PI w1.heap.size 3 (.slice a7 ol.length c7) ol.length ys (.slice A4 q C4) (70) (List.replicate (70) (Value.int .i64 (-2))), PI w1.heap.size 3 (.slice a6 ol.length c6) ol.length (ol.map fun x : Nat => Value.int .i64 (x : Int)) (.slice A3 q C3) (70) (List.replicate (70) (Value.int .i64 (-1))), PI w1.heap.size 9 (.slice a5 sl.length c5) sl.length xs (.slice A2 m C2) (70) (List.replicate (70) (Value.string ⟨#[120, 50]⟩)), PI w1.heap.size 9 (.slice a4 sl.length c4) sl.length (sl.map .string) (.slice A1 m C1) (70) (List.replicate (70) (Value.string ⟨#[120, 49]⟩)), INI w1.heap.size gi cap gl n vs L] ∧ m = sl.length + 70 ∧ q = ol.length + 70) := ⟨H.out, HB13.out.2⟩
                  clear H hk hlt HB13
                  go_wp2_with fail
                  refine (HSP.out w14).mono ?_
                  rintro e w15 ⟨a15, c15, rfl, o15, b15⟩
                  have HB15 : Hid (Bag w1 w15 [LIt w1.heap.size 3 (.slice a11 ol.length c11) ol.length (ol.map fun x : Nat => Value.int .i64 (x : Int)), LIt w1.heap.size 9 (.slice a10 sl.length c10) sl.length (sl.map .string), PI w1.heap.size 3 (.slice a7 ol.length c7) ol.length ys (.slice A4 q C4) (70) (List.replicate (70) (Value.int .i64 (-2))), PI w1.heap.size 3 (.slice a6 ol.length c6) ol.length (ol.map fun x : Nat => Value.int .i64 (x : Int)) (.slice A3 q C3) (70) (List.replicate (70) (Value.int .i64 (-1))), PI w1.heap.size 9 (.slice a5 sl.length c5) sl.length xs (.slice A2 m C2) (70) (List.replicate (70) (Value.string ⟨#[120, 50]⟩)), PI w1.heap.size 9 (.slice a4 sl.length c4) sl.length (sl.map .string) (.slice A1 m C1) (70) (List.replicate (70) (Value.string ⟨#[120, 49]⟩)), INI w1.heap.size gi cap gl n vs L] ∧ SR w15 sl (.slice a15 sl.length c15) ∧ m = sl.length + 70 ∧ q = ol.length + 70) := ⟨HB14.out.1.below b15, o15.sr, HB14.out.2⟩
                  clear o15 b15 HB14
                  go_wp2_with fail
                  refine (orderO _ L w15 HPF.out (show IN w1.heap.size _ gi cap gl n vs L from (HB15.out.1.ok (INI w1.heap.size gi cap gl n vs L) (by simp)).a).pr).mono ?_
                  rintro e w16 ⟨a16, c16, z16, ol2, rfl, k1, k2, k3, k4, k5, b16⟩
                  obtain ⟨rfl, rfl⟩ := oo_same HO1.out.1 k1 HO1.out.2.1 HO1.out.2.2.1 k3 k4
                  have HB16 : Hid (Bag w1 w16 [LIt w1.heap.size 3 (.slice a11 ol.length c11) ol.length (ol.map fun x : Nat => Value.int .i64 (x : Int)), LIt w1.heap.size 9 (.slice a10 sl.length c10) sl.length (sl.map .string), PI w1.heap.size 3 (.slice a7 ol.length c7) ol.length ys (.slice A4 q C4) (70) (List.replicate (70) (Value.int .i64 (-2))), PI w1.heap.size 3 (.slice a6 ol.length c6) ol.length (ol.map fun x : Nat => Value.int .i64 (x : Int)) (.slice A3 q C3) (70) (List.replicate (70) (Value.int .i64 (-1))), PI w1.heap.size 9 (.slice a5 sl.length c5) sl.length xs (.slice A2 m C2) (70) (List.replicate (70) (Value.string ⟨#[120, 50]⟩)), PI w1.heap.size 9 (.slice a4 sl.length c4) sl.length (sl.map .string) (.slice A1 m C1) (70) (List.replicate (70) (Value.string ⟨#[120, 49]⟩)), INI w1.heap.size gi cap gl n vs L] ∧ SR w16 sl (.slice a15 sl.length c15) ∧ IR w16 ol (.slice a16 ol.length c16) ∧ m = sl.length + 70 ∧ q = ol.length + 70) := ⟨HB15.out.1.below b16, HB15.out.2.1.keep b16, k2.ir, HB15.out.2.2⟩
                  clear k1 k2 k3 k4 k5 b16 HB15
                  go_wp2_with fail
                  refine (clash6 _ L w16 HPF.out (show IN w1.heap.size _ gi cap gl n vs L from (HB16.out.1.ok (INI w1.heap.size gi cap gl n vs L) (by simp)).a).pr).mono ?_
                  rintro e w17 ⟨ci, cj, cz, rfl, k1, b17⟩
                  have HB17 : Hid (Bag w1 w17 [LIt w1.heap.size 3 (.slice a11 ol.length c11) ol.length (ol.map fun x : Nat => Value.int .i64 (x : Int)), LIt w1.heap.size 9 (.slice a10 sl.length c10) sl.length (sl.map .string), PI w1.heap.size 3 (.slice a7 ol.length c7) ol.length ys (.slice A4 q C4) (70) (List.replicate (70) (Value.int .i64 (-2))), PI w1.heap.size 3 (.slice a6 ol.length c6) ol.length (ol.map fun x : Nat => Value.int .i64 (x : Int)) (.slice A3 q C3) (70) (List.replicate (70) (Value.int .i64 (-1))), PI w1.heap.size 9 (.slice a5 sl.length c5) sl.length xs (.slice A2 m C2) (70) (List.replicate (70) (Value.string ⟨#[120, 50]⟩)), PI w1.heap.size 9 (.slice a4 sl.length c4) sl.length (sl.map .string) (.slice A1 m C1) (70) (List.replicate (70) (Value.string ⟨#[120, 49]⟩)), INI w1.heap.size gi cap gl n vs L] ∧ SR w17 sl (.slice a15 sl.length c15) ∧ IR w17 ol (.slice a16 ol.length c16) ∧ m = sl.length + 70 ∧ q = ol.length + 70) := ⟨HB16.out.1.below b17, HB16.out.2.1.keep b17, HB16.out.2.2.1.keep b17, HB16.out.2.2.2⟩
                  clear k1 b17 HB16
                  have hbw17 : Below w.heap.size w w17 := S1.out.trans (HB17.out.1.bel.mono S1.out.size)
                  have HPS : Hid (SR w17 p (.slice pa pn pc)) := HP.out.1.keep hbw17
                  clear hbw17
                  have hq1 : ∀ (v3 : Value) (w3 : World), w3.ownsRow w17.heap.size 9 1 v3 (0 + pn) ([] ++ p.map Value.string) → w17.grownBy w3 none → Hid (OS w17.heap.size w3 v3 p ∧ Below w17.heap.size w17 w3) ∧ Hid ((w3.alloc (.cells #[.string ⟨#[115, 112, 97, 114, 101]⟩] 9)).ownsRow w17.heap.size 9 1 v3 pn (p.map Value.string) ∧ w17.heap.size ≤ (w3.alloc (.cells #[.string ⟨#[115, 112, 97, 114, 101]⟩] 9)).heap.size) := fun v3 w3 h1 h2 => by
                    have ho : OS w17.heap.size w3 v3 p := by unfold OS; rw [HN.out.1]; simpa using h1
                    have hb : Below w17.heap.size w17 w3 := ofGrown h2
                    refine ⟨⟨ho, hb⟩, ?_, Nat.le_trans hb.size (by simp)⟩
                    have := ho.grow (al_bel w3 (.cells #[.string ⟨#[115, 112, 97, 114, 101]⟩] 9))
                    unfold OS at this; rwa [HN.out.1] at this
                  have hq2 : ∀ (v3 : Value) (w3 : World) (v4 : Value) (w4 : World), (OS w17.heap.size w3 v3 p ∧ Below w17.heap.size w17 w3) → w4.ownsRow w17.heap.size 9 1 v4 (pn + 1) (p.map Value.string ++ [.string ⟨#[115, 112, 97, 114, 101]⟩]) → (w3.alloc (.cells #[.string ⟨#[115, 112, 97, 114, 101]⟩] 9)).grownBy w4 v3.ownBlock → ∃ g c, v4 = .slice (some ⟨g, 0, none⟩) (pn + 1) c ∧ Hid (Piece w17.heap.size w4 (.slice (some ⟨g, 0, none⟩) pn c) p ∧ Below w17.heap.size w17 w4 ∧ pn + 1 ≤ c) := fun v3 w3 v4 w4 h3 q1 q2 => by
                    obtain ⟨g4, c4, rfl⟩ : ∃ g c, v4 = .slice (some ⟨g, 0, none⟩) (pn + 1) c := by
                      rcases q1.2 with ⟨_, h0⟩ | ⟨g, cap, cur, e, _⟩
                      · omega
                      · exact ⟨g, cap, e⟩
                    have hpc : Piece w17.heap.size w4 (.slice (some ⟨g4, 0, none⟩) pn c4) p := ⟨g4, c4, by rw [HN.out.1], by
                      unfold OS
                      rw [List.length_append, HN.out.1, List.map_append]
                      exact q1⟩
                    refine ⟨g4, c4, rfl, hpc, ?_, by have := hpc.cap.2.1; omega⟩
                    have b3 := h3.2.trans ((al_bel w3 (.cells #[.string ⟨#[115, 112, 97, 114, 101]⟩] 9)).mono h3.2.size)
                    exact b3.grown q2 b3.size (fun q hq => (World.ownsRow.lt h3.1 q hq).1)
                  go_wp2_with (first | (at_builtin; refine append_read (B := w17.heap.size) (us := p.map Value.string) i9 _ 16 rfl _ _ rfl Tryd.underlying29 HI.out.1.1 HI.out.1.2.1 HI.out.1.2.2.1 HI.out.1.2.2.2 rfl rfl (World.ownsRow_nil _ _ _ _) rfl (by rw [List.length_map]; exact HN.out.1) HPS.out.cells.2 (strs_one _) (Nat.le_refl _) (by unfold maxLen; omega) (by omega) ?_; intro v18 w18 q1 q2; obtain ⟨a18, c18, hv18⟩ := ownsRow_form q1; have HQ1 := hq1 v18 w18 q1 q2; rw [Nat.zero_add] at hv18; subst hv18; clear q1 q2 hq1) | (at_builtin; refine wpList_append_own _ rfl _ _ 29 rfl w17.heap.size 9 i9 _ 1 16 Tryd.underlying29 HI.out.1.1 HI.out.1.2.1 HI.out.1.2.2.1 HI.out.1.2.2.2 rfl (by omega) _ pn (p.map Value.string) rfl HQ1.2.out.1 ⟨w18.heap.size, 0, none⟩ 1 1 [.string ⟨#[115, 112, 97, 114, 101]⟩] rfl rfl (cell_one_new _ _ _) (by simp [Value.oneCell']) (by unfold maxLen; omega) (by omega) HQ1.2.out.2 ?_; intro v19 w19 q1 q2 _; obtain ⟨gp, pc2, hv19, HQ2⟩ := hq2 _ w18 v19 w19 HQ1.1.out q1 q2; subst hv19; have hpc2 := HQ2.out.2.2; clear q1 q2 hq2 HQ1))
                  have HFP : Hid (FL p) := ⟨by rw [HN.out.1]; omega, fun x hx => by have := HP.out.2.2.1 x hx; omega⟩
                  have HDI : Hid (∀ q, inS gi gl vs q → q ≠ gp) := fun q hq e => by
                    have h1 := ((show IN w1.heap.size w17 gi cap gl n vs L from (HB17.out.1.ok (INI w1.heap.size gi cap gl n vs L) (by simp)).a).lt q hq).2
                    have h2 := (HQ2.out.1.blk gp rfl).1.1
                    omega
                  have HB19 : Hid (Bag w1 w19 [LIt w1.heap.size 3 (.slice a11 ol.length c11) ol.length (ol.map fun x : Nat => Value.int .i64 (x : Int)), LIt w1.heap.size 9 (.slice a10 sl.length c10) sl.length (sl.map .string), PI w1.heap.size 3 (.slice a7 ol.length c7) ol.length ys (.slice A4 q C4) (70) (List.replicate (70) (Value.int .i64 (-2))), PI w1.heap.size 3 (.slice a6 ol.length c6) ol.length (ol.map fun x : Nat => Value.int .i64 (x : Int)) (.slice A3 q C3) (70) (List.replicate (70) (Value.int .i64 (-1))), PI w1.heap.size 9 (.slice a5 sl.length c5) sl.length xs (.slice A2 m C2) (70) (List.replicate (70) (Value.string ⟨#[120, 50]⟩)), PI w1.heap.size 9 (.slice a4 sl.length c4) sl.length (sl.map .string) (.slice A1 m C1) (70) (List.replicate (70) (Value.string ⟨#[120, 49]⟩)), INI w1.heap.size gi cap gl n vs L] ∧ SR w19 sl (.slice a15 sl.length c15) ∧ IR w19 ol (.slice a16 ol.length c16) ∧ m = sl.length + 70 ∧ q = ol.length + 70 ∧ Piece w17.heap.size w19 (.slice (some ⟨gp, 0, none⟩) pn pc2) p) := ⟨HB17.out.1.below HQ2.out.2.1, HB17.out.2.1.keep HQ2.out.2.1, HB17.out.2.2.1.keep HQ2.out.2.1, HB17.out.2.2.2.1, HB17.out.2.2.2.2, HQ2.out.1⟩
                  have HB18 : Hid (w1.heap.size ≤ w17.heap.size) := HB17.out.1.bel.size
                  clear HB17 HQ2 HPS
                  refine (join23 p _ w19 HFP.out HB19.out.2.2.2.2.2.sr).mono ?_
                  rintro e w20 ⟨rfl, b20⟩
                  have HB20 : Hid (Bag w1 w20 [LIt w1.heap.size 3 (.slice a11 ol.length c11) ol.length (ol.map fun x : Nat => Value.int .i64 (x : Int)), LIt w1.heap.size 9 (.slice a10 sl.length c10) sl.length (sl.map .string), PI w1.heap.size 3 (.slice a7 ol.length c7) ol.length ys (.slice A4 q C4) (70) (List.replicate (70) (Value.int .i64 (-2))), PI w1.heap.size 3 (.slice a6 ol.length c6) ol.length (ol.map fun x : Nat => Value.int .i64 (x : Int)) (.slice A3 q C3) (70) (List.replicate (70) (Value.int .i64 (-1))), PI w1.heap.size 9 (.slice a5 sl.length c5) sl.length xs (.slice A2 m C2) (70) (List.replicate (70) (Value.string ⟨#[120, 50]⟩)), PI w1.heap.size 9 (.slice a4 sl.length c4) sl.length (sl.map .string) (.slice A1 m C1) (70) (List.replicate (70) (Value.string ⟨#[120, 49]⟩)), INI w1.heap.size gi cap gl n vs L] ∧ SR w20 sl (.slice a15 sl.length c15) ∧ IR w20 ol (.slice a16 ol.length c16) ∧ m = sl.length + 70 ∧ q = ol.length + 70 ∧ Piece w17.heap.size w20 (.slice (some ⟨gp, 0, none⟩) pn pc2) p) := ⟨HB19.out.1.below b20, HB19.out.2.1.keep b20, HB19.out.2.2.1.keep b20, HB19.out.2.2.2.1, HB19.out.2.2.2.2.1, HB19.out.2.2.2.2.2.fr (S := fun _ => True) (Fr.of_below b20) (fun _ _ => trivial)⟩
                  clear HB19
                  clear b20
                  generalize (if pe p = 0 then jo p else (⟨#[]⟩ : ByteArray)) = js at *
                  generalize hpz : pe p = pz at *
                  go_wp2_with fail
                  refine (path21 _ p w20 HFP.out HB20.out.2.2.2.2.2.sr).mono ?_
                  rw [hpz]
                  rintro e w21 ⟨rfl, b21⟩
                  clear hpz
                  have HB21 : Hid (Bag w1 w21 [LIt w1.heap.size 3 (.slice a11 ol.length c11) ol.length (ol.map fun x : Nat => Value.int .i64 (x : Int)), LIt w1.heap.size 9 (.slice a10 sl.length c10) sl.length (sl.map .string), PI w1.heap.size 3 (.slice a7 ol.length c7) ol.length ys (.slice A4 q C4) (70) (List.replicate (70) (Value.int .i64 (-2))), PI w1.heap.size 3 (.slice a6 ol.length c6) ol.length (ol.map fun x : Nat => Value.int .i64 (x : Int)) (.slice A3 q C3) (70) (List.replicate (70) (Value.int .i64 (-1))), PI w1.heap.size 9 (.slice a5 sl.length c5) sl.length xs (.slice A2 m C2) (70) (List.replicate (70) (Value.string ⟨#[120, 50]⟩)), PI w1.heap.size 9 (.slice a4 sl.length c4) sl.length (sl.map .string) (.slice A1 m C1) (70) (List.replicate (70) (Value.string ⟨#[120, 49]⟩)), INI w1.heap.size gi cap gl n vs L] ∧ SR w21 sl (.slice a15 sl.length c15) ∧ IR w21 ol (.slice a16 ol.length c16) ∧ m = sl.length + 70 ∧ q = ol.length + 70 ∧ Piece w17.heap.size w21 (.slice (some ⟨gp, 0, none⟩) pn pc2) p) := ⟨HB20.out.1.below b21, HB20.out.2.1.keep b21, HB20.out.2.2.1.keep b21, HB20.out.2.2.2.1, HB20.out.2.2.2.2.1, HB20.out.2.2.2.2.2.fr (S := fun _ => True) (Fr.of_below b21) (fun _ _ => trivial)⟩
                  clear HB20
                  clear b21
                  go_wp2_with fail
                  have HLE : Hid (Calls Tryd.prog 12 #[.slice (some ⟨gp, 0, none⟩) pn pc2, .slice a10 sl.length c10] w21 fun e w' => e = .returned (.bool (lx p sl)) ∧ w21 = w') := (less12 _ _ p sl w21 (by rw [HN.out.1]; omega) (by omega) HB21.out.2.2.2.2.2.sr (OS.sr (show OS w1.heap.size w21 (.slice a10 sl.length c10) sl from (HB21.out.1.ok (LIt w1.heap.size 9 (.slice a10 sl.length c10) sl.length (sl.map .string)) (by simp)).a))).mono (fun _ _ h => ⟨h.1, h.2.symm⟩)
                  generalize lx p sl = lb at *
                  refine HLE.out.mono ?_
                  rintro e wx ⟨rfl, rfl⟩
                  clear HLE
                  have hbw21 : Below w.heap.size w w21 := S1.out.trans (HB21.out.1.bel.mono S1.out.size)
                  have HSM : Hid (Calls Tryd.prog 14 #[.slice (some ⟨gp, 0, none⟩) pn pc2, .slice pa pn pc] w21 fun e w' => e = .returned (.bool true) ∧ ∃ n, w' = w21.drewN n) := by
                    have := same14 _ _ p p w21 (by rw [HN.out.1]; omega) (by rw [HN.out.1]; omega) HB21.out.2.2.2.2.2.sr (HP.out.1.keep hbw21)
                    rwa [smB_self] at this
                  clear hbw21
                  go_wp2_with fail
                  refine HSM.out.mono ?_
                  rintro e wx ⟨rfl, nq, rfl⟩
                  have b22 := drN w21 nq
                  generalize w21.drewN nq = w22 at *
                  have HB22 : Hid (Bag w1 w22 [LIt w1.heap.size 3 (.slice a11 ol.length c11) ol.length (ol.map fun x : Nat => Value.int .i64 (x : Int)), LIt w1.heap.size 9 (.slice a10 sl.length c10) sl.length (sl.map .string), PI w1.heap.size 3 (.slice a7 ol.length c7) ol.length ys (.slice A4 q C4) (70) (List.replicate (70) (Value.int .i64 (-2))), PI w1.heap.size 3 (.slice a6 ol.length c6) ol.length (ol.map fun x : Nat => Value.int .i64 (x : Int)) (.slice A3 q C3) (70) (List.replicate (70) (Value.int .i64 (-1))), PI w1.heap.size 9 (.slice a5 sl.length c5) sl.length xs (.slice A2 m C2) (70) (List.replicate (70) (Value.string ⟨#[120, 50]⟩)), PI w1.heap.size 9 (.slice a4 sl.length c4) sl.length (sl.map .string) (.slice A1 m C1) (70) (List.replicate (70) (Value.string ⟨#[120, 49]⟩)), INI w1.heap.size gi cap gl n vs L] ∧ SR w22 sl (.slice a15 sl.length c15) ∧ IR w22 ol (.slice a16 ol.length c16) ∧ m = sl.length + 70 ∧ q = ol.length + 70 ∧ Piece w17.heap.size w22 (.slice (some ⟨gp, 0, none⟩) pn pc2) p) := ⟨HB21.out.1.below b22, HB21.out.2.1.keep b22, HB21.out.2.2.1.keep b22, HB21.out.2.2.2.1, HB21.out.2.2.2.2.1, HB21.out.2.2.2.2.2.fr (S := fun _ => True) (Fr.of_below b22) (fun _ _ => trivial)⟩
                  clear HB21
                  clear b22 HSM
                  have hcq : w22.cell? ⟨gp, pn, none⟩ = some (.string ⟨#[115, 112, 97, 114, 101]⟩) := by
                    obtain ⟨e1, _, e3⟩ := HB22.out.2.2.2.2.2.cap
                    have := e3 pn (by omega)
                    rwa [getD_last p spS ByteArray.empty pn (by omega)] at this
                  have hcl := (show IN w1.heap.size w22 gi cap gl n vs L from (HB22.out.1.ok (INI w1.heap.size gi cap gl n vs L) (by simp)).a).cellLast
                  obtain ⟨hcl1, hcl2'⟩ := hcl
                  have hcl2 : w22.cell? ⟨gl, 0, none⟩ = some (.string ⟨#[115, 112, 97, 114, 101]⟩) := hcl2'
                  clear hcl2'
                  go_wp2_with fail
                  clear hcq hcl1 hcl2
                  go_loopw [34] (fun t wr => ∃ (k nq : Nat), k ≤ n ∧ t = .int .i64 k ∧ wr = w22.drewN nq) (fun t _ => n - (intOf t).toNat)
                  case atStart => exact ⟨0, 0, Nat.zero_le _, rfl, rfl⟩
                  case round =>
                    obtain ⟨k, nq, hk, rfl, hw⟩ := hrel
                    by_cases hlt : k < n
                    · have hIN := show IN w1.heap.size w22 gi cap gl n vs L from (HB22.out.1.ok (INI w1.heap.size gi cap gl n vs L) (by simp)).a
                      have hbw22 : Below w.heap.size w w22 := S1.out.trans (HB22.out.1.bel.mono S1.out.size)
                      have hkL : k < L.length := by rw [HN.out.2.1]; exact hlt
                      have hc0 := hIN.cell k hlt
                      have hpk := hIN.each k hlt
                      obtain ⟨gk, ck, hvk, hok⟩ := id hpk
                      rw [hvk] at hc0 hpk
                      obtain ⟨_, hcap2, hcell2⟩ := hpk.cap
                      have hsp := hcell2 (la L k).length (Nat.le_refl _)
                      rw [getD_last (la L k) spS ByteArray.empty _ rfl] at hsp
                      obtain ⟨bp, op, hlae, hbp, x, k1, k2⟩ := (HP.out.2.1.keep hbw22).cellAt hkL
                      subst hlae
                      obtain ⟨xa, xc, hxv, hx_⟩ := id k2
                      subst hxv
                      have hml : (la L k).length ≤ 1048576 := by
                        have h1 := mem_tot L (la L k) (la_mem hkL)
                        have := HN.out.2.2
                        omega
                      have SMs : Hid (∀ nn : Nat, Calls Tryd.prog 14 #[.slice (some ⟨gk, 0, none⟩) (la L k).length ck, .slice xa (la L k).length xc] (wr.drewN nn) fun e w' => e = .returned (.bool true) ∧ ∃ m, w' = wr.drewN m) := fun nn => by
                        subst hw
                        have h := same14 _ _ (la L k) (la L k) ((w22.drewN nq).drewN nn) (by omega) (by omega) ((hpk.sr.keep (drN _ _)).keep (drN _ _)) ((k2.keep (drN _ _)).keep (drN _ _))
                        rw [smB_self] at h
                        refine h.mono ?_
                        rintro e w' ⟨rfl, m, rfl⟩
                        exact ⟨rfl, nn + m, drewN2 _ _ _⟩
                      have q1 : wr.cell? ⟨gi, k, none⟩ = some (.slice (some ⟨gk, 0, none⟩) (la L k).length ck) := by rw [hw]; exact hc0
                      have q2 : wr.cell? ⟨bp, op + k, none⟩ = some (.slice xa (la L k).length xc) := by rw [hw]; exact k1
                      have q3 : wr.cell? ⟨gk, (la L k).length, none⟩ = some (.string ⟨#[115, 112, 97, 114, 101]⟩) := by rw [hw]; exact hsp
                      have HWW : Hid (wr = w22.drewN nq) := hw
                      clear hw hIN hbw22 hc0 hpk hok hvk hcell2 hsp k1 k2 hx_ hbp hkL
                      generalize (la L k).length = ml at *
                      have hz1 : (ml : Int) < (ml : Int) + 1 := by omega
                      go_wp2_with fail
                      have hwr : IntKind.i64.wrap ((ml : Int) + 1) = (ml : Int) + 1 := IntWalk.i64_in _ (by omega)
                      have hck : ml + 1 ≤ ck := hcap2
                      go_quiet ((go_at_call 14; exact SMs.out _))
                      go_wp2
                      exact ⟨⟨k + 1, _, by omega, by go_num, by rw [HWW.out]; exact drewN2 _ _ _⟩, by simp [intOf]; omega⟩
                    · obtain rfl : k = n := by omega
                      have HBZ : Hid (Bag w1 wr [LIt w1.heap.size 3 (.slice a11 ol.length c11) ol.length (ol.map fun x : Nat => Value.int .i64 (x : Int)), LIt w1.heap.size 9 (.slice a10 sl.length c10) sl.length (sl.map .string), PI w1.heap.size 3 (.slice a7 ol.length c7) ol.length ys (.slice A4 q C4) (70) (List.replicate (70) (Value.int .i64 (-2))), PI w1.heap.size 3 (.slice a6 ol.length c6) ol.length (ol.map fun x : Nat => Value.int .i64 (x : Int)) (.slice A3 q C3) (70) (List.replicate (70) (Value.int .i64 (-1))), PI w1.heap.size 9 (.slice a5 sl.length c5) sl.length xs (.slice A2 m C2) (70) (List.replicate (70) (Value.string ⟨#[120, 50]⟩)), PI w1.heap.size 9 (.slice a4 sl.length c4) sl.length (sl.map .string) (.slice A1 m C1) (70) (List.replicate (70) (Value.string ⟨#[120, 49]⟩)), INI w1.heap.size gi cap gl k vs L] ∧ SR wr sl (.slice a15 sl.length c15) ∧ IR wr ol (.slice a16 ol.length c16) ∧ m = sl.length + 70 ∧ q = ol.length + 70 ∧ Piece w17.heap.size wr (.slice (some ⟨gp, 0, none⟩) pn pc2) p) := by
                        have bd := drN w22 nq
                        rw [hw]
                        exact ⟨HB22.out.1.below bd, HB22.out.2.1.keep bd, HB22.out.2.2.1.keep bd, HB22.out.2.2.2.1, HB22.out.2.2.2.2.1, HB22.out.2.2.2.2.2.fr (S := fun _ => True) (Fr.of_below bd) (fun _ _ => trivial)⟩
                      obtain ⟨w23, hw23⟩ : ∃ x, x = wr := ⟨_, rfl⟩
                      subst hw23
                      clear hw hk hlt HB22
                      go_wp2_with fail
                      obtain ⟨g1, hg1, t1⟩ := PI.tail (HBZ.out.1.ok (PI w1.heap.size 9 (.slice a4 sl.length c4) sl.length (sl.map .string) (.slice A1 m C1) (70) (List.replicate (70) (Value.string ⟨#[120, 49]⟩))) (by simp)).a (by omega)
                      obtain ⟨g2, hg2, t2⟩ := PI.tail (HBZ.out.1.ok (PI w1.heap.size 9 (.slice a5 sl.length c5) sl.length xs (.slice A2 m C2) (70) (List.replicate (70) (Value.string ⟨#[120, 50]⟩))) (by simp)).a (by omega)
                      obtain ⟨g3, hg3, t3⟩ := PI.tail (HBZ.out.1.ok (PI w1.heap.size 3 (.slice a6 ol.length c6) ol.length (ol.map fun x : Nat => Value.int .i64 (x : Int)) (.slice A3 q C3) (70) (List.replicate (70) (Value.int .i64 (-1)))) (by simp)).a (by omega)
                      obtain ⟨g4, hg4, t4⟩ := PI.tail (HBZ.out.1.ok (PI w1.heap.size 3 (.slice a7 ol.length c7) ol.length ys (.slice A4 q C4) (70) (List.replicate (70) (Value.int .i64 (-2)))) (by simp)).a (by omega)
                      have HTT : Hid ((∀ j, j < 70 → w23.cell? ⟨g1, sl.length + j, none⟩ = some (Value.string ⟨#[120, 49]⟩)) ∧ (∀ j, j < 70 → w23.cell? ⟨g2, sl.length + j, none⟩ = some (Value.string ⟨#[120, 50]⟩)) ∧ (∀ j, j < 70 → w23.cell? ⟨g3, ol.length + j, none⟩ = some (Value.int .i64 (-1))) ∧ (∀ j, j < 70 → w23.cell? ⟨g4, ol.length + j, none⟩ = some (Value.int .i64 (-2)))) := ⟨t1, t2, t3, t4⟩
                      have hm70 : m = sl.length + 70 := HBZ.out.2.2.2.1
                      have hq70 : q = ol.length + 70 := HBZ.out.2.2.2.2.1
                      obtain ⟨N, hN⟩ : ∃ N, N = k := ⟨_, rfl⟩
                      clear t1 t2 t3 t4
                      subst hg1 hg2 hg3 hg4 hm70 hq70
                      go_loopw [35] (fun t wr => ∃ (j nq : Nat), j ≤ 70 ∧ t = .int .i64 j ∧ wr = w23.drewN nq) (fun t _ => 70 - (intOf t).toNat)
                      case atStart => exact ⟨0, 0, Nat.zero_le _, rfl, rfl⟩
                      case round =>
                        obtain ⟨j, nq, hj, rfl, hw⟩ := hrel
                        by_cases hlt : j < 70
                        · have q1 : wr.cell? ⟨g1, sl.length + j, none⟩ = some (Value.string ⟨#[120, 49]⟩) := by rw [hw]; exact HTT.out.1 j hlt
                          have q2 : wr.cell? ⟨g2, sl.length + j, none⟩ = some (Value.string ⟨#[120, 50]⟩) := by rw [hw]; exact HTT.out.2.1 j hlt
                          have q3 : wr.cell? ⟨g3, ol.length + j, none⟩ = some (Value.int .i64 (-1)) := by rw [hw]; exact HTT.out.2.2.1 j hlt
                          have q4 : wr.cell? ⟨g4, ol.length + j, none⟩ = some (Value.int .i64 (-2)) := by rw [hw]; exact HTT.out.2.2.2 j hlt
                          have HWW : Hid (wr = w23.drewN nq) := hw
                          have z1 : (sl.length : Int) + (j : Int) < (sl.length : Int) + 70 := by omega
                          have z2 : (ol.length : Int) + (j : Int) < (ol.length : Int) + 70 := by omega
                          have y1 : IntKind.i64.wrap ((sl.length : Int) + (j : Int)) = (sl.length : Int) + (j : Int) := IntWalk.i64_in _ (by omega)
                          have y2 : IntKind.i64.wrap ((ol.length : Int) + (j : Int)) = (ol.length : Int) + (j : Int) := IntWalk.i64_in _ (by omega)
                          clear hw HTT HBZ hN
                          go_wp2_with fail
                          exact ⟨⟨j + 1, nq, by omega, by go_num, HWW.out⟩, by simp [intOf]; omega⟩
                        · obtain rfl : j = 70 := by omega
                          have HZZ : Hid (Bag w1 wr [LIt w1.heap.size 3 (.slice a11 ol.length c11) ol.length (ol.map fun x : Nat => Value.int .i64 (x : Int)), LIt w1.heap.size 9 (.slice a10 sl.length c10) sl.length (sl.map .string), PI w1.heap.size 3 (.slice a7 ol.length c7) ol.length ys (.slice (some ⟨g4, 0, none⟩) (ol.length + 70) C4) (70) (List.replicate (70) (Value.int .i64 (-2))), PI w1.heap.size 3 (.slice a6 ol.length c6) ol.length (ol.map fun x : Nat => Value.int .i64 (x : Int)) (.slice (some ⟨g3, 0, none⟩) (ol.length + 70) C3) (70) (List.replicate (70) (Value.int .i64 (-1))), PI w1.heap.size 9 (.slice a5 sl.length c5) sl.length xs (.slice (some ⟨g2, 0, none⟩) (sl.length + 70) C2) (70) (List.replicate (70) (Value.string ⟨#[120, 50]⟩)), PI w1.heap.size 9 (.slice a4 sl.length c4) sl.length (sl.map .string) (.slice (some ⟨g1, 0, none⟩) (sl.length + 70) C1) (70) (List.replicate (70) (Value.string ⟨#[120, 49]⟩)), INI w1.heap.size gi cap gl k vs L] ∧ SR wr sl (.slice a15 sl.length c15) ∧ IR wr ol (.slice a16 ol.length c16) ∧ Piece w17.heap.size wr (.slice (some ⟨gp, 0, none⟩) pn pc2) p) := by
                            have bd := drN w23 nq
                            rw [hw]
                            exact ⟨HBZ.out.1.below bd, HBZ.out.2.1.keep bd, HBZ.out.2.2.1.keep bd, HBZ.out.2.2.2.2.2.fr (S := fun _ => True) (Fr.of_below bd) (fun _ _ => trivial)⟩
                          obtain ⟨w24, hw24⟩ : ∃ x, x = wr := ⟨_, rfl⟩
                          subst hw24
                          clear hw hj hlt HTT HBZ hN N
                          go_wp2_with fail
                          refine (show Calls Tryd.prog 14 _ w24 (fun e w' => e = .returned (.bool true) ∧ ∃ n, w' = w24.drewN n) from by have h := same14 _ _ sl sl w24 (by omega) (by omega) (OS.sr (show OS w1.heap.size w24 (.slice a4 sl.length c4) sl from (HZZ.out.1.ok (PI w1.heap.size 9 (.slice a4 sl.length c4) sl.length (sl.map .string) (.slice (some ⟨g1, 0, none⟩) (sl.length + 70) C1) (70) (List.replicate (70) (Value.string ⟨#[120, 49]⟩))) (by simp)).a.1)) (OS.sr (show OS w1.heap.size w24 (.slice a10 sl.length c10) sl from (HZZ.out.1.ok (LIt w1.heap.size 9 (.slice a10 sl.length c10) sl.length (sl.map .string)) (by simp)).a)); rw [smB_self] at h; exact h).mono ?_
                          rintro e wx ⟨rfl, nq0, rfl⟩
                          have bd0 := drN w24 nq0
                          generalize w24.drewN nq0 = w25 at *
                          have HZ25 : Hid (Bag w1 w25 [LIt w1.heap.size 3 (.slice a11 ol.length c11) ol.length (ol.map fun x : Nat => Value.int .i64 (x : Int)), LIt w1.heap.size 9 (.slice a10 sl.length c10) sl.length (sl.map .string), PI w1.heap.size 3 (.slice a7 ol.length c7) ol.length ys (.slice (some ⟨g4, 0, none⟩) (ol.length + 70) C4) (70) (List.replicate (70) (Value.int .i64 (-2))), PI w1.heap.size 3 (.slice a6 ol.length c6) ol.length (ol.map fun x : Nat => Value.int .i64 (x : Int)) (.slice (some ⟨g3, 0, none⟩) (ol.length + 70) C3) (70) (List.replicate (70) (Value.int .i64 (-1))), PI w1.heap.size 9 (.slice a5 sl.length c5) sl.length xs (.slice (some ⟨g2, 0, none⟩) (sl.length + 70) C2) (70) (List.replicate (70) (Value.string ⟨#[120, 50]⟩)), PI w1.heap.size 9 (.slice a4 sl.length c4) sl.length (sl.map .string) (.slice (some ⟨g1, 0, none⟩) (sl.length + 70) C1) (70) (List.replicate (70) (Value.string ⟨#[120, 49]⟩)), INI w1.heap.size gi cap gl k vs L] ∧ SR w25 sl (.slice a15 sl.length c15) ∧ IR w25 ol (.slice a16 ol.length c16) ∧ Piece w17.heap.size w25 (.slice (some ⟨gp, 0, none⟩) pn pc2) p) := ⟨HZZ.out.1.below bd0, HZZ.out.2.1.keep bd0, HZZ.out.2.2.1.keep bd0, HZZ.out.2.2.2.fr (S := fun _ => True) (Fr.of_below bd0) (fun _ _ => trivial)⟩
                          clear HZZ bd0
                          go_wp2_with fail
                          refine (show Calls Tryd.prog 14 _ w25 (fun e w' => e = .returned (.bool true) ∧ ∃ n, w' = w25.drewN n) from by have h := same14 _ _ sl sl w25 (by omega) (by omega) HZ25.out.2.1 (OS.sr (show OS w1.heap.size w25 (.slice a10 sl.length c10) sl from (HZ25.out.1.ok (LIt w1.heap.size 9 (.slice a10 sl.length c10) sl.length (sl.map .string)) (by simp)).a)); rw [smB_self] at h; exact h).mono ?_
                          rintro e wx ⟨rfl, nq1, rfl⟩
                          have bd1 := drN w25 nq1
                          generalize w25.drewN nq1 = w26 at *
                          have HZ26 : Hid (Bag w1 w26 [LIt w1.heap.size 3 (.slice a11 ol.length c11) ol.length (ol.map fun x : Nat => Value.int .i64 (x : Int)), LIt w1.heap.size 9 (.slice a10 sl.length c10) sl.length (sl.map .string), PI w1.heap.size 3 (.slice a7 ol.length c7) ol.length ys (.slice (some ⟨g4, 0, none⟩) (ol.length + 70) C4) (70) (List.replicate (70) (Value.int .i64 (-2))), PI w1.heap.size 3 (.slice a6 ol.length c6) ol.length (ol.map fun x : Nat => Value.int .i64 (x : Int)) (.slice (some ⟨g3, 0, none⟩) (ol.length + 70) C3) (70) (List.replicate (70) (Value.int .i64 (-1))), PI w1.heap.size 9 (.slice a5 sl.length c5) sl.length xs (.slice (some ⟨g2, 0, none⟩) (sl.length + 70) C2) (70) (List.replicate (70) (Value.string ⟨#[120, 50]⟩)), PI w1.heap.size 9 (.slice a4 sl.length c4) sl.length (sl.map .string) (.slice (some ⟨g1, 0, none⟩) (sl.length + 70) C1) (70) (List.replicate (70) (Value.string ⟨#[120, 49]⟩)), INI w1.heap.size gi cap gl k vs L] ∧ SR w26 sl (.slice a15 sl.length c15) ∧ IR w26 ol (.slice a16 ol.length c16) ∧ Piece w17.heap.size w26 (.slice (some ⟨gp, 0, none⟩) pn pc2) p) := ⟨HZ25.out.1.below bd1, HZ25.out.2.1.keep bd1, HZ25.out.2.2.1.keep bd1, HZ25.out.2.2.2.fr (S := fun _ => True) (Fr.of_below bd1) (fun _ _ => trivial)⟩
                          clear HZ25 bd1
                          go_wp2_with fail
                          refine (sameInts15 _ _ ol w26 HO1.out.2.2.2 (OI.ir (show OI w1.heap.size w26 (.slice a6 ol.length c6) ol from (HZ26.out.1.ok (PI w1.heap.size 3 (.slice a6 ol.length c6) ol.length (ol.map fun x : Nat => Value.int .i64 (x : Int)) (.slice (some ⟨g3, 0, none⟩) (ol.length + 70) C3) (70) (List.replicate (70) (Value.int .i64 (-1)))) (by simp)).a.1)) (OI.ir (show OI w1.heap.size w26 (.slice a11 ol.length c11) ol from (HZ26.out.1.ok (LIt w1.heap.size 3 (.slice a11 ol.length c11) ol.length (ol.map fun x : Nat => Value.int .i64 (x : Int))) (by simp)).a))).mono ?_
                          rintro e wx ⟨rfl, nq2, rfl⟩
                          have bd2 := drN w26 nq2
                          generalize w26.drewN nq2 = w27 at *
                          have HZ27 : Hid (Bag w1 w27 [LIt w1.heap.size 3 (.slice a11 ol.length c11) ol.length (ol.map fun x : Nat => Value.int .i64 (x : Int)), LIt w1.heap.size 9 (.slice a10 sl.length c10) sl.length (sl.map .string), PI w1.heap.size 3 (.slice a7 ol.length c7) ol.length ys (.slice (some ⟨g4, 0, none⟩) (ol.length + 70) C4) (70) (List.replicate (70) (Value.int .i64 (-2))), PI w1.heap.size 3 (.slice a6 ol.length c6) ol.length (ol.map fun x : Nat => Value.int .i64 (x : Int)) (.slice (some ⟨g3, 0, none⟩) (ol.length + 70) C3) (70) (List.replicate (70) (Value.int .i64 (-1))), PI w1.heap.size 9 (.slice a5 sl.length c5) sl.length xs (.slice (some ⟨g2, 0, none⟩) (sl.length + 70) C2) (70) (List.replicate (70) (Value.string ⟨#[120, 50]⟩)), PI w1.heap.size 9 (.slice a4 sl.length c4) sl.length (sl.map .string) (.slice (some ⟨g1, 0, none⟩) (sl.length + 70) C1) (70) (List.replicate (70) (Value.string ⟨#[120, 49]⟩)), INI w1.heap.size gi cap gl k vs L] ∧ SR w27 sl (.slice a15 sl.length c15) ∧ IR w27 ol (.slice a16 ol.length c16) ∧ Piece w17.heap.size w27 (.slice (some ⟨gp, 0, none⟩) pn pc2) p) := ⟨HZ26.out.1.below bd2, HZ26.out.2.1.keep bd2, HZ26.out.2.2.1.keep bd2, HZ26.out.2.2.2.fr (S := fun _ => True) (Fr.of_below bd2) (fun _ _ => trivial)⟩
                          clear HZ26 bd2
                          go_wp2_with fail
                          refine (sameInts15 _ _ ol w27 HO1.out.2.2.2 HZ27.out.2.2.1 (OI.ir (show OI w1.heap.size w27 (.slice a11 ol.length c11) ol from (HZ27.out.1.ok (LIt w1.heap.size 3 (.slice a11 ol.length c11) ol.length (ol.map fun x : Nat => Value.int .i64 (x : Int))) (by simp)).a))).mono ?_
                          rintro e wx ⟨rfl, nq3, rfl⟩
                          have bd3 := drN w27 nq3
                          generalize w27.drewN nq3 = w28 at *
                          have HZ28 : Hid (Bag w1 w28 [LIt w1.heap.size 3 (.slice a11 ol.length c11) ol.length (ol.map fun x : Nat => Value.int .i64 (x : Int)), LIt w1.heap.size 9 (.slice a10 sl.length c10) sl.length (sl.map .string), PI w1.heap.size 3 (.slice a7 ol.length c7) ol.length ys (.slice (some ⟨g4, 0, none⟩) (ol.length + 70) C4) (70) (List.replicate (70) (Value.int .i64 (-2))), PI w1.heap.size 3 (.slice a6 ol.length c6) ol.length (ol.map fun x : Nat => Value.int .i64 (x : Int)) (.slice (some ⟨g3, 0, none⟩) (ol.length + 70) C3) (70) (List.replicate (70) (Value.int .i64 (-1))), PI w1.heap.size 9 (.slice a5 sl.length c5) sl.length xs (.slice (some ⟨g2, 0, none⟩) (sl.length + 70) C2) (70) (List.replicate (70) (Value.string ⟨#[120, 50]⟩)), PI w1.heap.size 9 (.slice a4 sl.length c4) sl.length (sl.map .string) (.slice (some ⟨g1, 0, none⟩) (sl.length + 70) C1) (70) (List.replicate (70) (Value.string ⟨#[120, 49]⟩)), INI w1.heap.size gi cap gl k vs L] ∧ SR w28 sl (.slice a15 sl.length c15) ∧ IR w28 ol (.slice a16 ol.length c16) ∧ Piece w17.heap.size w28 (.slice (some ⟨gp, 0, none⟩) pn pc2) p) := ⟨HZ27.out.1.below bd3, HZ27.out.2.1.keep bd3, HZ27.out.2.2.1.keep bd3, HZ27.out.2.2.2.fr (S := fun _ => True) (Fr.of_below bd3) (fun _ _ => trivial)⟩
                          clear HZ27 bd3
                          have HAN : Hid (Calls Tryd.prog 17 #[.slice (some ⟨gi, 0, none⟩) k cap, .slice (some ⟨gp, 0, none⟩) pn pc2] w28 fun e w' => e = .returned (.bool true) ∧ Below w1.heap.size w28 w') := anew17 orderO w1.heap.size gi cap gl k vs L gp pc2 pn p w28 HZ28.out.1.bel.size (show IN w1.heap.size w28 gi cap gl k vs L from (HZ28.out.1.ok (INI w1.heap.size gi cap gl k vs L) (by simp)).a) (HZ28.out.2.2.2.base HB18.out) HDI.out HN.out.2.2 (fun j q hq => by
                              have hj : j < L.length := by
                                rcases Nat.lt_or_ge j L.length with h | h
                                · exact h
                                · have e0 : la L j = [] := by show L.getD j [] = []; rw [List.getD_eq_getElem?_getD, List.getElem?_eq_none h]; rfl
                                  rw [e0] at hq; simp at hq
                              exact HP.out.2.2.2.2 (la L j) (la_mem hj) _ (sa_mem hq)) hpn (fun q hq => HP.out.2.2.1 _ (sa_mem hq))
                          have HBW : Hid (Below w.heap.size w w28 ∧ w.heap.size ≤ w1.heap.size) := ⟨S1.out.trans (HZ28.out.1.bel.mono S1.out.size), S1.out.size⟩
                          clear HZ28
                          go_wp2_with fail
                          refine HAN.out.mono ?_
                          rintro e wz ⟨rfl, bz⟩
                          have HBF : Hid (Below w.heap.size w wz) := HBW.out.1.trans (bz.mono HBW.out.2)
                          clear bz HAN HBW
                          go_wp2_with fail
                          go_ret
                          exact ⟨rfl, HBF.out⟩
end Go.Proofs.YtoiehkpmemmldaaDoor
