import Derived.Test.YtjhnkdhbjpddcaaDoorGb
namespace Go.Proofs.YtjhnkdhbjpddcaaDoor
open Go.RowKit
set_option maxHeartbeats 4000000 in
set_option maxRecDepth 100000 in
theorem apart (v : Value) (B : Nat) (vs : List Value) (L : List (List UInt8)) (w : World) (h : OL B w v vs L) (hB : B ≤ w.heap.size) (hn : L.length ≤ 134217728) (hl : ∀ j, (L.getD j []).length ≤ 1048576) :
    Calls Tryd.prog 12 #[v] w fun e w' => e = .returned (.bool true) ∧ Fr (fun k => ¬ bks vs k) w w' := by
  obtain ⟨i1, hi1, hy0, hy1, hy2⟩ := info_parts info22
  obtain ⟨i5, hi5, hz0, hz1, hz2⟩ := info_parts info5
  obtain ⟨a, c, rfl⟩ := h.form
  have HI : Hid (AP w B (.slice a L.length c) vs L L w ∧ mkd L 0) := ⟨⟨rfl, fun _ => rfl, h, Fr.refl _ _⟩, fun j hj => absurd hj (Nat.not_lt_zero _)⟩
  have HL : Hid (∀ j, (L.getD j []).length ≤ 1048576) := hl
  have HS : Hid (B ≤ w.heap.size) := hB
  have HY : Hid ((Tryd.prog.info? 22 = some i1 ∧ i1.zero = some (.slice none 0 0) ∧ i1.size = 1 ∧ i1.bytes = 24) ∧ (Tryd.prog.info? 5 = some i5 ∧ i5.zero = some (.int .u8 0) ∧ i5.size = 1 ∧ i5.bytes = 1)) := ⟨⟨hi1, hy0, hy1, hy2⟩, hi5, hz0, hz1, hz2⟩
  clear h hB hl hi1 hy0 hy1 hy2 hi5 hz0 hz1 hz2
  generalize hnn : L.length = n at *
  have HN : Hid (L.length = n) := hnn
  clear hnn
  go_enter Tryd.func12, Tryd.ntmps12
  go_wp2
  go_loopw [3] (fun t wr => ∃ (i : Nat) (L' : List (List UInt8)), i ≤ n ∧ t = .int .i64 i ∧ Hid (AP w B (.slice a n c) vs L L' wr ∧ mkd L' i)) (fun t _ => n - (intOf t).toNat)
  case atStart => exact ⟨0, L, Nat.zero_le _, rfl, HI⟩
  case round =>
    clear HI
    obtain ⟨i, L', hi, rfl, H⟩ := hrel
    by_cases hlt : i < n
    · have hli := HL.out i
      generalize hm : (L.getD i []).length = m at *
      go_wp2
      go_loopw [4] (fun t wr => ∃ (k : Nat) (L2 : List (List UInt8)), k ≤ m ∧ t = .int .i64 k ∧ Hid (AP w B (.slice a n c) vs L L2 wr ∧ mkd L2 i ∧ ∀ t, t < k → byt (L2.getD i []) t = UInt8.ofNat (7 * i + t))) (fun t _ => m - (intOf t).toNat)
      case atStart => exact ⟨0, L', Nat.zero_le _, rfl, H.out.1, H.out.2, fun t ht => absurd ht (Nat.not_lt_zero _)⟩
      case round =>
        clear H
        obtain ⟨k, L2, hk, rfl, H2⟩ := hrel
        obtain ⟨g0, ai, ci, hae, hcell, hvi⟩ : ∃ g0 ai ci, a = some ⟨g0, 0, none⟩ ∧ wr.cell? ⟨g0, i, none⟩ = some (.slice ai m ci) ∧ vs.getD i nv = .slice ai m ci := by
          obtain ⟨g0, ai, ci, e, hc, hv⟩ := H2.out.1.ob.cell i (by rw [H2.out.1.len, HN.out]; exact hlt)
          rw [H2.out.1.lens, hm] at hc hv
          exact ⟨g0, ai, ci, e, hc, hv⟩
        subst hae
        by_cases hkl : k < m
        · obtain ⟨g, x, rfl, e4, e5, L3, e6⟩ := H2.out.1.step i k (by rw [HN.out]; exact hlt) (by rw [hm]; exact hkl) H2.out.2.1 H2.out.2.2 hvi
          have H3 : Hid (AP w B (.slice (some ⟨g0, 0, none⟩) n c) vs L L3 (wr.setCell ⟨g, k, none⟩ (.int .u8 ((7 * (i : Int) + (k : Int)) % 256))) ∧ mkd L3 i ∧ ∀ t, t < k + 1 → byt (L3.getD i []) t = UInt8.ofNat (7 * i + t)) := e6
          clear e6 H2 hvi
          go_wp2
          exact ⟨⟨k + 1, L3, by omega, by go_num, H3⟩, by simp [intOf]; omega⟩
        · obtain rfl : k = m := by omega
          have H3 : Hid (AP w B (.slice (some ⟨g0, 0, none⟩) n c) vs L L2 wr ∧ mkd L2 (i + 1)) := ⟨H2.out.1, fun j hj t ht => by
            by_cases hji : j = i
            · subst hji
              exact H2.out.2.2 t (by rw [H2.out.1.lens, hm] at ht; exact ht)
            · exact H2.out.2.1 j (by omega) t ht⟩
          clear H2 hvi
          go_wp2
          exact ⟨⟨i + 1, L2, by omega, by go_num, H3⟩, by simp [intOf]; omega⟩
    · obtain rfl : i = n := by omega
      obtain ⟨w1, hw1⟩ : ∃ x, x = wr := ⟨_, rfl⟩
      subst hw1
      have hsz := H.out.1.fr.size
      have H1 : Hid (MO w1 B (.slice a i c) vs L' (.slice none 0 0) 0 [] w1 ∧ Fr (fun k => ¬ bks vs k) w w1 ∧ L'.length = i ∧ mkd L' i ∧ (∀ j, (L'.getD j []).length ≤ 1048576) ∧ B ≤ w1.heap.size) := ⟨MO.start H.out.1.ob, H.out.1.fr, H.out.1.len.trans HN.out, H.out.2, fun j => by rw [H.out.1.lens]; exact HL.out j, Nat.le_trans HS.out hsz⟩
      clear H HL HN HS hsz hlt hi
      go_wp2
      go_loopw [5, 6] (fun mv t w3 => ∃ (j : Nat) (ms : List Value) (ma : Option Addr) (mc : Nat), j ≤ i ∧ t = .int .i64 j ∧ mv = .slice ma j mc ∧ Hid (MO w1 B (.slice a i c) vs L' (.slice ma j mc) j ms w3)) (fun _ t _ => i - (intOf t).toNat)
      case atStart => exact ⟨0, [], none, 0, Nat.zero_le _, rfl, rfl, H1.out.1⟩
      case round =>
        obtain ⟨j, ms, ma, mc, hj, rfl, rfl, HM⟩ := hrel
        obtain ⟨w3, hw3⟩ : ∃ x, x = wr := ⟨_, rfl⟩
        subst hw3
        by_cases hlt : j < i
        · go_wp2
          go_loopw [7, 8] (fun mv t w4 => ∃ (k : Nat) (ka : Option Addr) (kc : Nat), k ≤ 70 ∧ t = .int .i64 k ∧ mv = .slice ka k kc ∧ Hid (OW w3.heap.size w4 (.slice ka k kc) (mk2 j k) ∧ Below w3.heap.size w3 w4)) (fun _ t _ => 70 - (intOf t).toNat)
          case atStart => exact ⟨0, none, 0, by omega, rfl, rfl, World.ownsRow_nil _ _ _ _, Below.refl _ _⟩
          case round =>
            obtain ⟨k, ka, kc, hk, rfl, rfl, HK⟩ := hrel
            by_cases hkl : k < 70
            · have hcn : (wr.alloc (.cells #[.int .u8 ((100 + (j : Int) + 5 * (k : Int)) % 256)] 5)).cell? ⟨wr.heap.size, 0, none⟩ = some (.int .u8 ((UInt8.ofNat (100 + j + 5 * k)).toNat : Int)) := by
                rw [cellNew, u8v]
                congr 2
              have HA : Hid (OW w3.heap.size (wr.alloc (.cells #[.int .u8 ((100 + (j : Int) + 5 * (k : Int)) % 256)] 5)) (.slice ka k kc) (mk2 j k) ∧ Below w3.heap.size w3 (wr.alloc (.cells #[.int .u8 ((100 + (j : Int) + 5 * (k : Int)) % 256)] 5))) := ⟨HK.out.1.alloc _, HK.out.2.alloc HK.out.2.size _⟩
              have hlk : (mk2 j k).length < 140737488351232 := by rw [mk2_len]; omega
              clear HK HM
              go_wp2_with (first | (at_builtin; refine append_byte rfl _ _ rfl rfl HA.out.1 wr.heap.size _ rfl hcn HA.out.2.size hlk ?_; intro v' w' q1 q2; rw [← mk2_succ] at q1; have HB : Hid (OW w3.heap.size w' v' (mk2 j (k + 1)) ∧ Below w3.heap.size w3 w') := ⟨q1, HA.out.2.trans q2⟩; obtain ⟨va, vc, hv⟩ := q1.form; rw [mk2_len] at hv; subst hv; clear q1 q2 HA hcn))
              exact ⟨⟨k + 1, va, vc, by omega, by go_num, rfl, HB⟩, by simp [intOf]; omega⟩
            · obtain rfl : k = 70 := by omega
              obtain ⟨w4, hw4⟩ : ∃ x, x = wr := ⟨_, rfl⟩
              subst hw4
              have HO : Hid (MO w1 B (.slice a i c) vs L' (.slice ma j mc) j ms w4) := HM.out.below HK.out.2
              have hjl : j < L'.length := by rw [H1.out.2.2.1]; exact hlt
              obtain ⟨g0, ai, ci, rfl, hcell, hvj⟩ := HO.out.ob.cell j hjl
              have hml := H1.out.2.2.2.2.1 j
              obtain ⟨kg, rfl, hkc⟩ : ∃ kg, ka = some ⟨kg, 0, none⟩ ∧ ∀ q, q < 70 → w4.cell? ⟨kg, q, none⟩ = some (.int .u8 ((byt (mk2 j 70) q).toNat : Int)) := by
                obtain ⟨kg, e, _⟩ := HK.out.1.at 0 (by omega)
                refine ⟨kg, e, fun q hq => ?_⟩
                obtain ⟨kg', e', _, h3, _⟩ := HK.out.1.at q hq
                rw [e] at e'
                cases e'
                exact h3
              have HU : Hid (w4.ownsRow B 5 1 (.slice ai (L'.getD j []).length ci) (L'.getD j []).length (Lib.byteCells (L'.getD j [])) ∧ (∀ q u, (Lib.byteCells (mk2 j 70))[q]? = some u → w4.cell? ((⟨kg, 0, none⟩ : Addr).add q) = some u) ∧ B ≤ w4.heap.size) := by
                refine ⟨?_, fun q u hu => ?_, Nat.le_trans H1.out.2.2.2.2.2 HO.out.fr.size⟩
                · have := HO.out.ob.each j hjl
                  rw [hvj] at this
                  exact this
                · have hq : q < 70 := by
                    have := (List.getElem?_eq_some_iff.1 hu).1
                    rwa [bcl_len, mk2_len] at this
                  rw [addr0, hkc q hq, getD_byt _ q (by rw [mk2_len]; exact hq)]
                  simpa [Lib.byteCells, List.getElem?_eq_getElem (show q < (mk2 j 70).length by rw [mk2_len]; exact hq)] using hu
              have HX : Hid (∀ (zv : Value) (w5 : World), w5.ownsRow B 5 1 zv ((L'.getD j []).length + 70) (Lib.byteCells (L'.getD j []) ++ Lib.byteCells (mk2 j 70)) → KeepsL 5 1 (.slice ai (L'.getD j []).length ci) (L'.getD j []).length w4 w5 → w4.grownBy w5 (Value.slice ai (L'.getD j []).length ci).ownBlock → (zv.ownBlock = (Value.slice ai (L'.getD j []).length ci).ownBlock ∨ ∀ g, zv.ownBlock = some g → w4.heap.size ≤ g) →
                  (MO w1 B (.slice (some ⟨g0, 0, none⟩) i c) vs L' (.slice ma j mc) j ms (w5.alloc (.cells #[zv] 22)) ∧ OW B (w5.alloc (.cells #[zv] 22)) zv (L'.getD j [] ++ mk2 j 70) ∧ (zv.ownBlock = (vs.getD j nv).ownBlock ∨ ∀ g, zv.ownBlock = some g → w1.heap.size ≤ g)) ∧ ∃ za zn zc, zv = .slice za zn zc) := fun zv w5 r1 r2 r3 r4 => by
                rw [← hvj] at r2 r3 r4
                have ro : OW B w5 zv (L'.getD j [] ++ mk2 j 70) := by
                  unfold OW
                  rw [bcl_append, List.length_append, mk2_len]
                  exact r1
                obtain ⟨t1, t2, t3⟩ := HO.out.grow hjl zv ro r2 r3 r4
                have bA : Below w5.heap.size w5 (w5.alloc (.cells #[zv] 22)) := (Below.refl _ _).alloc (Nat.le_refl _) _
                obtain ⟨za, zc, e⟩ := t2.form
                exact ⟨⟨t1.below bA, t2.grow bA, t3⟩, za, _, zc, e⟩
              have HV : Hid (w1.heap.size ≤ w4.heap.size ∧ ms.length = j) := ⟨HO.out.fr.size, HO.out.len⟩
              clear HM HK HO hvj hkc
              generalize hlj : (L'.getD j []).length = m at *
              have hul : (Lib.byteCells (mk2 j 70)).length = 70 * 1 := by rw [bcl_len, mk2_len]
              go_wp2_with (first
                | (at_builtin; refine append_bothL i5 _ 1 rfl _ _ rfl Tryd.underlying22 HY.out.2.1 HY.out.2.2.1 HY.out.2.2.2.1 HY.out.2.2.2.2 rfl (by omega) (by omega) rfl HU.out.1 ⟨kg, 0, none⟩ _ rfl hul HU.out.2.1 (Lib.byteCells_one _) HU.out.2.2 (by unfold maxLen; omega) (by omega) ?_; intro zv w5 r1 r2 r3 r4; have HZ0 := HX.out zv w5 r1 r2 r3 r4; obtain ⟨HZ1, za, zn, zc, rfl⟩ := HZ0; have HZ : Hid (MO w1 B (.slice (some ⟨g0, 0, none⟩) i c) vs L' (.slice ma j mc) j ms (w5.alloc (.cells #[.slice za zn zc] 22)) ∧ OW B (w5.alloc (.cells #[.slice za zn zc] 22)) (.slice za zn zc) (L'.getD j [] ++ mk2 j 70) ∧ ((Value.slice za zn zc).ownBlock = (vs.getD j nv).ownBlock ∨ ∀ g, (Value.slice za zn zc).ownBlock = some g → w1.heap.size ≤ g)) := HZ1; clear r1 r2 r3 r4 HX HU HZ1)
                | (at_builtin; refine wpList_append_own _ rfl _ _ 34 rfl w1.heap.size 22 i1 _ 1 24 Tryd.underlying34 HY.out.1.1 HY.out.1.2.1 HY.out.1.2.2.1 HY.out.1.2.2.2 rfl (by omega) _ j ms rfl HZ.out.1.row ⟨w5.heap.size, 0, none⟩ 1 1 [.slice za zn zc] rfl rfl (cell_one_new _ _ _) (by simp [Value.oneCell']) (by unfold maxLen; omega) (by omega) HZ.out.1.fr.size ?_; intro v' w6 s1 s2 _; have HW : Hid (MO w1 B (.slice (some ⟨g0, 0, none⟩) i c) vs L' v' (j + 1) (ms ++ [.slice za zn zc]) w6) := HZ.out.1.next HZ.out.2.1 HZ.out.2.2 s1 s2; obtain ⟨va, vc, hv⟩ := ownsRow_form s1; subst hv; clear s1 s2 HZ))
              exact ⟨⟨j + 1, _, va, vc, by omega, by go_num, rfl, HW⟩, by simp [intOf]; omega⟩
        · obtain rfl : j = i := by omega
          have H5 : Hid (MO w1 B (.slice a j c) vs L' (.slice ma j mc) j ms w3 ∧ L'.length = j ∧ mkd L' j ∧ (∀ j, (L'.getD j []).length ≤ 1048576) ∧ Fr (fun k => ¬ bks vs k) w w3) :=
            ⟨HM.out, H1.out.2.2.1, H1.out.2.2.2.1, H1.out.2.2.2.2.1, H1.out.2.1.trans HM.out.fr (fun _ _ x => x)⟩
          clear H1 HM hlt hj
          go_wp2
          go_loopw [9] (fun t wr => ∃ (i nq : Nat), i ≤ j ∧ t = .int .i64 i ∧ wr = w3.drewN nq) (fun t _ => j - (intOf t).toNat)
          case atStart => exact ⟨0, 0, Nat.zero_le _, rfl, rfl⟩
          case round =>
            obtain ⟨i, nq, hi, rfl, hw⟩ := hrel
            by_cases hlt : i < j
            · obtain ⟨g0, ai, ci, rfl, hcell, hvi⟩ := H5.out.1.ob.cell i (by rw [H5.out.2.1]; exact hlt)
              have oi := H5.out.1.ob.each i (by rw [H5.out.2.1]; exact hlt)
              rw [hvi] at oi
              have hml := H5.out.2.2.2.1 i
              have omi := H5.out.1.each i hlt
              obtain ⟨gm, rfl, hmc⟩ : ∃ gm, ma = some ⟨gm, 0, none⟩ ∧ w3.cell? ⟨gm, i, none⟩ = some (ms.getD i nv) := by
                have hr := H5.out.1.row
                rcases hr.2 with ⟨_, h2⟩ | ⟨g, cap, cur, h1, _⟩
                · omega
                · simp only [Value.slice.injEq] at h1
                  obtain ⟨rfl, _, rfl⟩ := h1
                  refine ⟨g, rfl, ?_⟩
                  have := World.ownsRow.cellAt hr i (by omega)
                  rw [this]
                  have hi' : i < ms.length := by rw [H5.out.1.len]; exact hlt
                  simp [List.getD, List.getElem?_eq_getElem hi']
              obtain ⟨ua, uc, eu⟩ := omi.form
              rw [eu] at hmc omi
              rw [List.length_append, mk2_len] at hmc omi
              obtain ⟨ug, rfl, _⟩ := omi.at 0 (by omega)
              generalize hm : (L'.getD i []).length = m at *
              have HA : Hid (∀ k nq, k < m → ∃ ag, ai = some ⟨ag, 0, none⟩ ∧ (w3.drewN nq).cell? ⟨ag, k, none⟩ = some (.int .u8 ((7 * (i : Int) + (k : Int)) % 256))) := fun k nq hk => by
                obtain ⟨ag, e, _, h1, _⟩ := oi.at k hk
                have h2 := H5.out.2.2.1 i hlt k (by omega)
                rw [h2, u8v] at h1
                exact ⟨ag, e, by simpa using h1⟩
              have HB : Hid (∀ k nq, k < 70 → (w3.drewN nq).cell? ⟨ug, m + k, none⟩ = some (.int .u8 ((100 + (i : Int) + 5 * (k : Int)) % 256))) := fun k nq hk => by
                obtain ⟨ag, e, _, h1, _⟩ := omi.at (m + k) (by omega)
                cases e
                rw [byt_right _ _ _ (by omega), hm, Nat.add_sub_cancel_left, byt_mk2 i 70 k hk, u8v] at h1
                simpa using h1
              have hc0 : ∀ nq, (w3.drewN nq).cell? ⟨g0, i, none⟩ = some (.slice ai m ci) := fun nq => hcell
              have hc1 : ∀ nq, (w3.drewN nq).cell? ⟨gm, i, none⟩ = some (.slice (some ⟨ug, 0, none⟩) (m + 70) uc) := fun nq => hmc
              have hm2 : m ≤ 1048576 := hml
              subst hw
              have q0 := hc0 nq
              clear hcell hmc hml hm oi omi hvi eu
              go_wp2
              go_loopw [11] (fun t wr => ∃ (k nq : Nat), k ≤ m ∧ t = .int .i64 k ∧ wr = w3.drewN nq) (fun t _ => m - (intOf t).toNat)
              case atStart => exact ⟨0, _, Nat.zero_le _, rfl, rfl⟩
              case round =>
                clear q0
                obtain ⟨k, nq, hk, rfl, hw⟩ := hrel
                by_cases hkl : k < m
                · have q0 := hc0 nq
                  obtain ⟨ag, rfl, q1⟩ := HA.out k nq hkl
                  rw [← hw] at q0 q1
                  have HW : Hid (wr = w3.drewN nq) := hw
                  clear hw hc0 hc1
                  go_wp2
                  exact ⟨⟨k + 1, nq, by omega, by go_num, HW.out⟩, by simp [intOf]; omega⟩
                · have HW : Hid (wr = w3.drewN nq) := hw
                  clear hw hc0
                  go_wp2
                  go_loopw [12] (fun t wr => ∃ (k nq : Nat), k ≤ 70 ∧ t = .int .i64 k ∧ wr = w3.drewN nq) (fun t _ => 70 - (intOf t).toNat)
                  case atStart => exact ⟨0, _, Nat.zero_le _, rfl, HW.out⟩
                  case round =>
                    clear HW
                    obtain ⟨k, nq, hk, rfl, hw⟩ := hrel
                    by_cases hkl : k < 70
                    · have q0 := hc1 nq
                      have q1 := HB.out k nq hkl
                      rw [← hw] at q0 q1
                      have HW : Hid (wr = w3.drewN nq) := hw
                      clear hw hc1
                      go_wp2
                      exact ⟨⟨k + 1, nq, by omega, by go_num, HW.out⟩, by simp [intOf]; omega⟩
                    · have HW : Hid (wr = w3.drewN nq) := hw
                      clear hw hc1
                      go_wp2
                      exact ⟨⟨i + 1, nq, by omega, by go_num, HW.out⟩, by simp [intOf]; omega⟩
            · obtain rfl : i = j := by omega
              have HE : Hid (Fr (fun k => ¬ bks vs k) w wr) := by rw [hw]; exact H5.out.2.2.2.2.trans (Fr.of_below (belowDrew _ _)) (fun _ _ x => x)
              clear H5 hw
              go_wp2
              go_ret
              exact ⟨rfl, HE.out⟩
end Go.Proofs.YtjhnkdhbjpddcaaDoor
