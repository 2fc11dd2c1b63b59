import Derived.Test.YtoiehkpmemmldaaDoorOp9
import Derived.Test.YtoiehkpmemmldaaDoorBc
namespace Go.Proofs.YtoiehkpmemmldaaDoor
open Go.RowKit
theorem oi_of {w : World} {g n B : Nat} {l : List Nat} (h : IR w l (.slice (some ⟨g, 0, none⟩) n n)) (hb : BXn w g l.length) (hl : l.length = n) (hn : n ≤ 4096) (hB : B ≤ g) : OI B w (.slice (some ⟨g, 0, none⟩) n n) l := by
  subst hl
  obtain ⟨cs, hc, hs⟩ := hb
  refine ⟨by simp, .inr ⟨g, l.length, cs, rfl, hB, hc, Nat.le_refl _, by unfold maxLen; omega, by omega, ?_⟩⟩
  rw [Nat.mul_one, List.take_of_length_le (by simp; omega)]
  refine List.ext_getElem (by simp [hs]) (fun i h1 h2 => ?_)
  have hi : i < l.length := by simpa using h2
  obtain ⟨b, o, e, _, hcell⟩ := h.cellAt (k := i) hi
  simp only [Option.some.injEq, Addr.mk.injEq, and_true] at e
  obtain ⟨rfl, rfl⟩ := e
  rw [Nat.zero_add, cellH hc] at hcell
  have hi2 : i < cs.size := by omega
  rw [Array.getElem?_eq_getElem hi2] at hcell
  simp only [Option.some.injEq] at hcell
  simp only [Array.getElem_toList, List.getElem_map]
  rw [hcell]
  simp [List.getD, List.getElem?_eq_getElem hi]
set_option maxHeartbeats 2000000 in
theorem orderO (v : Value) (L : List (List ByteArray)) (w : World) (hf : PF L) (h1 : PR w L v) :
    Calls Tryd.prog 10 #[v] w (OO L w) := by
  have H1 : Hid (PR w L v) := h1
  have HF : Hid (PF L) := hf
  have hl := hf.1
  obtain ⟨a1, c1, rfl, _, _⟩ := h1
  clear hf
  generalize hn : L.length = n at *
  have HN : Hid (L.length = n) := hn
  clear hn
  have HB0 : Hid (Below w.heap.size w (w.alloc (.cells #[.slice a1 n c1] 22)) ∧ B2 (w.alloc (.cells #[.slice a1 n c1] 22)) w.heap.size (.slice a1 n c1)) := ⟨(Below.refl _ _).alloc (Nat.le_refl _) _, B2.made _ _⟩
  by_cases hbig : 4096 < n
  · have HE : Hid (OE L 58) := .inl ⟨by rw [HN.out]; exact hbig, rfl⟩
    go_enter Tryd.func10, Tryd.ntmps10
    go_wp2
    exact bodyPost_ret (v := .tuple #[.slice none 0 0, .int .i64 58]) (by simp [results, Tryd.results10, go_sem]) rfl ⟨none, 0, 58, [], rfl, HE.out, World.ownsRow_nil _ _ _ _, by omega, fun _ => rfl, by simp, HB0.out.1⟩
  have hn4 : n ≤ 4096 := by omega
  clear hl
  go_enter Tryd.func10, Tryd.ntmps10
  go_wp2
  go_loopw [17] (fun i wr => ∃ k : Nat, k ≤ n ∧ i = .int .i64 k ∧ Hid (Below w.heap.size w wr ∧ B2 wr w.heap.size (.slice a1 n c1) ∧ pes (L.drop k) = pes L)) (fun i _ => n - (intOf i).toNat)
  case atStart => exact ⟨0, Nat.zero_le _, rfl, HB0.out.1, HB0.out.2, rfl⟩
  case round =>
    obtain ⟨k, hk, rfl, HB⟩ := hrel
    by_cases hlt : k < n
    · have hkl : k < L.length := by have := HN.out; omega
      obtain ⟨b1, o1, rfl, hb1, x, k1, k2⟩ := (H1.out.keep HB.out.1).cellAt hkl
      by_cases hz : pe (la L k) = 0
      · have HP : Hid (pes (L.drop (k + 1)) = pes L) := (pes_ok hkl hz).symm.trans HB.out.2.2
        go_wp2_with fail
        refine (path21 x (la L k) _ (HF.out.la hkl) k2).mono ?_
        rw [hz]
        rintro e w2 ⟨rfl, hb2⟩
        have HB2 : Hid (Below w.heap.size w w2 ∧ B2 w2 w.heap.size (.slice (some ⟨b1, o1, none⟩) n c1) ∧ pes (L.drop (k + 1)) = pes L) := ⟨HB.out.1.trans (hb2.mono HB.out.1.size), HB.out.2.1.keep hb2, HP.out⟩
        clear hb2 k1 k2 HB
        go_wp2
        exact ⟨⟨k + 1, by omega, by go_num, HB2⟩, by simp [intOf]; omega⟩
      · have HP : Hid (OE L (pe (la L k))) := by
          have e := HB.out.2.2
          rw [pes_bad hkl hz] at e
          exact .inr (.inl ⟨by rw [HN.out]; exact hn4, by rw [← e]; exact hz, e⟩)
        have hzb : (pe (la L k) == 0) = false := by simp [hz]
        go_wp2_with fail
        refine (path21 x (la L k) _ (HF.out.la hkl) k2).mono ?_
        rintro e w2 ⟨rfl, hb2⟩
        have HB2 : Hid (Below w.heap.size w w2) := HB.out.1.trans (hb2.mono HB.out.1.size)
        have HZ : Hid (pe (la L k) ≠ 0) := hz
        clear hb2 k1 k2 HB hz
        generalize pe (la L k) = z at *
        go_wp2
        exact bodyPost_ret (v := .tuple #[.slice none 0 0, .int .i64 z]) (by simp [results, Tryd.results10, go_sem]) rfl ⟨none, 0, z, [], rfl, HP.out, World.ownsRow_nil _ _ _ _, fun h => absurd h HZ.out, fun _ => rfl, by simp, HB2.out⟩
    · obtain rfl : k = n := by omega
      have HP : Hid (pes L = 0) := by have := HB.out.2.2; rw [List.drop_of_length_le (by rw [HN.out]; omega)] at this; exact this.symm
      have HB1 : Hid (Below w.heap.size w wr ∧ B2 wr w.heap.size (.slice a1 k c1)) := ⟨HB.out.1, HB.out.2.1⟩
      have hbx := HB1.out.2.cell
      clear HB
      go_wp2_with fail
      refine (clash6 _ L _ HF.out (H1.out.keep HB1.out.1)).mono ?_
      rintro e w3 ⟨i, j, z, rfl, hz, hb3⟩
      have HE : Hid (OE L z) := .inr (.inr ⟨by rw [HN.out]; exact hn4, HP.out, i, j, hz⟩)
      have HB2 : Hid (Below w.heap.size w w3 ∧ B2 w3 w.heap.size (.slice a1 k c1)) := ⟨HB1.out.1.trans (hb3.mono HB1.out.1.size), HB1.out.2.keep hb3⟩
      clear hz HB1 hb3 hbx
      have hbx := HB2.out.2.cell
      by_cases hz0 : z = 0
      · subst hz0
        have HND : Hid (ND L) := HE.out.nd.2
        have hmk := make29 k hn4
        have hw3 : w.heap.size < w3.heap.size := (Array.getElem?_eq_some_iff.1 HB2.out.2).1
        go_wp2
        have HR0 : Hid (RI (w3.alloc (.cells (madeCells #[.int .i64 0] k) 3)) w3.heap.size (fil k 0)) := by rw [fil_zero]; exact RI.made w3 k
        clear hmk
        go_loopw [41] (fun i wr => ∃ (m : Nat), m ≤ k ∧ i = .int .i64 m ∧ Hid (RI wr w3.heap.size (fil k m) ∧ Below w3.heap.size w3 wr)) (fun i _ => k - (intOf i).toNat)
        case atStart => exact ⟨0, Nat.zero_le _, rfl, HR0.out, (Below.refl _ _).alloc (Nat.le_refl _) _⟩
        case round =>
          obtain ⟨m, hm, rfl, HX⟩ := hrel
          by_cases hmk : m < k
          · obtain ⟨f1, f2⟩ := HX.out.1.facts (k := m) (by rw [fil_len]; exact hmk)
            have HX2 : Hid (RI (wr.setCell ⟨w3.heap.size, m, none⟩ (.int .i64 (m : Int))) w3.heap.size (fil k (m + 1)) ∧ Below w3.heap.size w3 (wr.setCell ⟨w3.heap.size, m, none⟩ (.int .i64 (m : Int)))) :=
              ⟨by have := HX.out.1.set m m; rwa [fil_step] at this, HX.out.2.setCell (Nat.le_refl _) _⟩
            clear HX
            go_wp2
            exact ⟨⟨m + 1, by omega, by go_num, HX2⟩, by simp [intOf]; omega⟩
          · obtain rfl : m = k := by omega
            have HRR : Hid (RI wr w3.heap.size (List.range L.length)) := by rw [HN.out, ← fil_all]; exact HX.out.1
            have HB3 : Hid (Below w.heap.size w wr ∧ B2 wr w.heap.size (.slice a1 m c1) ∧ Below w3.heap.size w3 wr) := ⟨HB2.out.1.trans (HX.out.2.mono HB2.out.1.size), HB2.out.2.keep HX.out.2, HX.out.2⟩
            have HS := sorted20 (.slice a1 m c1) L w3.heap.size w.heap.size wr HF.out (by rw [HN.out]; exact hn4) HND.out HB3.out.2.1 (H1.out.keep HB3.out.1) HRR.out hw3 (fun W hW => H1.out.keep (HB3.out.1.trans (hW.mono (by omega))))
            rw [HN.out] at HS
            clear HX HRR
            go_wp2_with fail
            refine HS.mono ?_
            rintro e w4 ⟨rfl, l, hsp, hir, hb4, hbx4⟩
            have HIR : Hid (IR w4 l (.slice (some ⟨w3.heap.size, 0, none⟩) m m)) := hir
            have HK : Hid (SP L l) := hsp
            have hll : l.length = m := by rw [hsp.len, HN.out]
            have HOI : Hid (OI w.heap.size w4 (.slice (some ⟨w3.heap.size, 0, none⟩) m m) l) := oi_of hir (by rw [hll]; exact hbx4) hll (by omega) (Nat.le_of_lt hw3)
            have HB4 : Hid (Below w.heap.size w w4) := HB3.out.1.trans (hb4.mono (by omega))
            clear hsp hir hb4 HS HB3 hbx4
            go_wp2
            exact bodyPost_ret (v := .tuple #[.slice (some ⟨w3.heap.size, 0, none⟩) m m, .int .i64 0]) (by simp [results, Tryd.results10, go_sem]) rfl ⟨some ⟨w3.heap.size, 0, none⟩, m, 0, l, by rw [hll], HE.out, by rw [hll]; exact HOI.out, fun _ => HK.out, fun h => absurd rfl h, by omega, HB4.out⟩
      · have hzb : (z == 0) = false := by simp [hz0]
        have HZ : Hid (z ≠ 0) := hz0
        clear hz0
        go_wp2
        exact bodyPost_ret (v := .tuple #[.slice none 0 0, .int .i64 z]) (by simp [results, Tryd.results10, go_sem]) rfl ⟨none, 0, z, [], rfl, HE.out, World.ownsRow_nil _ _ _ _, fun h => absurd h HZ.out, fun _ => rfl, by simp, HB2.out.1⟩
end Go.Proofs.YtoiehkpmemmldaaDoor
