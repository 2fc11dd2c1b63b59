import Derived.Test.YtkkmifgnkpjkdaaOd
import Derived.Test.YtkkmifgnkpjkdaaCr
import Derived.Laws.OwnMore
namespace Go.Proofs.Ytkkmifgnkpjkdaa
open Go.RowKit
theorem info3 : (Try.prog.info? 3).map (fun i => (i.zero, i.size, i.bytes)) = some (some (.int .i64 0), 1, 8) := by kernel_rfl
theorem make29 (n : Nat) (hn : n ≤ 4096) (u : World) : (Instr.makeSlice 29 (.int .i64 (n : Int)) (.int .i64 (n : Int))).run Try.prog u = .ok (.slice (some ⟨u.heap.size, 0, none⟩) n n) (u.alloc (.cells (madeCells #[.int .i64 0] n) 3)) := by
  obtain ⟨i0, hi, hz0, hz1, hz2⟩ := info_parts info3
  have h := run_make (P := Try.prog) u 29 3 i0 (.int .i64 0) Try.underlying29 hi hz0 .i64 .i64 (n : Int) (n : Int) (by omega) (by omega) (by rw [hz2]; omega) (by omega)
  simpa [hz1, Value.cells] using h
theorem RI.made (w : World) (n : Nat) : RI (w.alloc (.cells (madeCells #[.int .i64 0] n) 3)) w.heap.size (List.replicate n 0) := by
  unfold RI
  rw [(MapKept.heap_alloc w _).1]
  congr 2
  apply Array.ext'
  rw [toList_madeCells_one]
  simp
def cnt (L : List (List ByteArray)) (k j : Nat) : Nat := (List.range j).countP (fun i => lx (la L i) (la L k))
theorem cnt_step (L : List (List ByteArray)) (k j : Nat) : cnt L k (j + 1) = cnt L k j + if lx (la L j) (la L k) = true then 1 else 0 := by
  unfold cnt; rw [List.range_succ, List.countP_append]; simp [List.countP_cons]
theorem cnt_le (L : List (List ByteArray)) (k j : Nat) : cnt L k j ≤ j := by
  have : cnt L k j ≤ (List.range j).length := List.countP_le_length
  simpa using this
/-- the row of the reference behind k rounds -/
def RX (L : List (List ByteArray)) (k : Nat) (l : List Nat) : Prop := l.length = L.length ∧ ∀ i, i < k → l.getD (rk L i) 0 = i
theorem RX.step {L : List (List ByteArray)} {k : Nat} {l : List Nat} (h : RX L k l) (hn : ND L) (hk : k < L.length) : RX L (k + 1) (l.set (rk L k) k) := by
  refine ⟨by simp [h.1], fun i hi => ?_⟩
  have hr := rk_lt hk
  by_cases e : i = k
  · subst e
    simp [List.getD_eq_getElem?_getD, h.1, hr]
  · have hne : rk L k ≠ rk L i := fun h' => e (rk_inj hn (by omega) hk h'.symm)
    have := h.2 i (by omega)
    rw [List.getD_eq_getElem?_getD] at this ⊢
    rw [List.getElem?_set_ne hne]
    exact this
/-- what Order answers -/
def OA (L : List (List ByteArray)) (Sp : List Nat → Prop) (w : World) (e : Ending) (w' : World) : Prop :=
  ∃ (v : Value) (z : Int) (l : List Nat), e = .returned (.tuple #[v, .int .i64 z]) ∧ OE L z ∧ IR w' l v ∧ (z = 0 → Sp l) ∧ (z ≠ 0 → l = []) ∧ l.length ≤ 4096 ∧ Below w.heap.size w w'
set_option maxHeartbeats 2000000 in
theorem order10 (v : Value) (L : List (List ByteArray)) (w : World) (hf : PF L) (h1 : PR w L v) :
    Calls Try.prog 10 #[v] w (OA L (RK L) w) := by
  have H1 : Hid (PR w L v) := h1
  have HF : Hid (PF L) := hf
  have hl := hf.1
  obtain ⟨a1, c1, rfl, _, _⟩ := h1
  clear hf
  generalize hn : L.length = n at *
  have HN : Hid (L.length = n) := hn
  clear hn
  by_cases hbig : 4096 < n
  · have HE : Hid (OE L 58) := .inl ⟨by rw [HN.out]; exact hbig, rfl⟩
    go_enter Try.func10, Try.ntmps10
    go_wp2
    exact bodyPost_ret (v := .tuple #[.slice none 0 0, .int .i64 58]) (by simp [results, Try.results10, go_sem]) rfl ⟨_, 58, [], rfl, HE.out, IR.nil _, by omega, fun _ => rfl, by simp, Below.refl _ _⟩
  have hn4 : n ≤ 4096 := by omega
  clear hl
  go_enter Try.func10, Try.ntmps10
  go_wp2
  go_loopw [4] (fun i wr => ∃ k : Nat, k ≤ n ∧ i = .int .i64 k ∧ Hid (Below w.heap.size w wr ∧ pes (L.drop k) = pes L)) (fun i _ => n - (intOf i).toNat)
  case atStart => exact ⟨0, Nat.zero_le _, rfl, Below.refl _ _, rfl⟩
  case round =>
    obtain ⟨k, hk, rfl, HB⟩ := hrel
    by_cases hlt : k < n
    · have hkl : k < L.length := by have := HN.out; omega
      obtain ⟨b1, o1, rfl, hb1, x, k1, k2⟩ := (H1.out.keep HB.out.1).cellAt hkl
      by_cases hz : pe (la L k) = 0
      · have HP : Hid (pes (L.drop (k + 1)) = pes L) := (pes_ok hkl hz).symm.trans HB.out.2
        go_wp2_with fail
        refine (path22 x (la L k) _ (HF.out.la hkl) k2).mono ?_
        rw [hz]
        rintro e w2 ⟨rfl, hb2⟩
        have HB2 : Hid (Below w.heap.size w w2 ∧ pes (L.drop (k + 1)) = pes L) := ⟨HB.out.1.trans (hb2.mono HB.out.1.size), HP.out⟩
        clear hb2 k1 k2 HB
        go_wp2
        exact ⟨⟨k + 1, by omega, by go_num, HB2⟩, by simp [intOf]; omega⟩
      · have HP : Hid (OE L (pe (la L k))) := by
          have e := HB.out.2
          rw [pes_bad hkl hz] at e
          exact .inr (.inl ⟨by rw [HN.out]; exact hn4, by rw [← e]; exact hz, e⟩)
        have hzb : (pe (la L k) == 0) = false := by simp [hz]
        go_wp2_with fail
        refine (path22 x (la L k) _ (HF.out.la hkl) k2).mono ?_
        rintro e w2 ⟨rfl, hb2⟩
        have HB2 : Hid (Below w.heap.size w w2) := HB.out.1.trans (hb2.mono HB.out.1.size)
        have HZ : Hid (pe (la L k) ≠ 0) := hz
        clear hb2 k1 k2 HB hz
        generalize pe (la L k) = z at *
        go_wp2
        exact bodyPost_ret (v := .tuple #[.slice none 0 0, .int .i64 z]) (by simp [results, Try.results10, go_sem]) rfl ⟨_, z, [], rfl, HP.out, IR.nil _, fun h => absurd h HZ.out, fun _ => rfl, by simp, HB2.out⟩
    · obtain rfl : k = n := by omega
      have HP : Hid (pes L = 0) := by have := HB.out.2; rw [List.drop_of_length_le (by rw [HN.out]; omega)] at this; exact this.symm
      have HB1 : Hid (Below w.heap.size w wr) := HB.out.1
      clear HB
      go_wp2_with fail
      refine (clash7 _ L _ HF.out (H1.out.keep HB1.out)).mono ?_
      rintro e w2 ⟨i, j, z, rfl, hz, nd, rfl⟩
      have HE : Hid (OE L z) := .inr (.inr ⟨by rw [HN.out]; exact hn4, HP.out, i, j, hz⟩)
      have HB2 : Hid (Below w.heap.size w (wr.drewN nd)) := HB1.out.trans ((drB _ _).mono HB1.out.size)
      clear hz HB1
      generalize wr.drewN nd = w3 at *
      by_cases hz0 : z = 0
      · subst hz0
        have HND : Hid (ND L) := HE.out.nd.2
        have hmk := make29 k hn4
        go_wp2
        have HR0 : Hid (RI (w3.alloc (.cells (madeCells #[.int .i64 0] k) 3)) w3.heap.size (List.replicate k 0)) := RI.made w3 k
        clear hmk
        go_loopw [10] (fun i wr => ∃ (m : Nat) (l : List Nat), m ≤ k ∧ i = .int .i64 m ∧ Hid (RX L m l ∧ RI wr w3.heap.size l ∧ Below w3.heap.size w3 wr)) (fun i _ => k - (intOf i).toNat)
        case atStart => exact ⟨0, _, Nat.zero_le _, rfl, ⟨by simp [HN.out], fun i hi => by omega⟩, HR0.out, (Below.refl _ _).alloc (Nat.le_refl _) _⟩
        case round =>
          obtain ⟨m, l, hm, rfl, HX⟩ := hrel
          by_cases hmk : m < k
          · have hml : m < L.length := by rw [HN.out]; exact hmk
            have HPR : Hid (PR wr L (.slice a1 k c1)) := H1.out.keep (HB2.out.trans (HX.out.2.2.mono HB2.out.size))
            go_wp2
            go_loopw [11, 12] (fun c j wq => ∃ (jj nq : Nat), jj ≤ k ∧ j = .int .i64 jj ∧ c = .int .i64 (cnt L m jj : Nat) ∧ wq = wr.drewN nq) (fun _ j _ => k - (intOf j).toNat)
            case atStart => exact ⟨0, 0, Nat.zero_le _, rfl, rfl, rfl⟩
            case round =>
              obtain ⟨jj, nq, hjj, rfl, rfl, rfl⟩ := hrel
              by_cases hjk : jj < k
              · have hjl : jj < L.length := by rw [HN.out]; exact hjk
                obtain ⟨b1, o1, rfl, _, x, k1, k2⟩ := HPR.out.cellAt hjl
                obtain ⟨b2, o2, he, _, y, g1, g2⟩ := HPR.out.cellAt hml
                simp at he
                obtain ⟨rfl, rfl⟩ := he
                have HC : Hid (∀ nn, Calls Try.prog 24 #[x, y] ((wr.drewN nq).drewN nn) fun e w' => e = .returned (.bool (lx (la L jj) (la L m))) ∧ ∃ n, w' = ((wr.drewN nq).drewN nn).drewN n) := fun nn => by
                  rw [dr2]
                  exact less13 x y _ _ _ (HF.out.la hjl).1 (HF.out.la hml).1 (k2.keep (drB _ _)) (g2.keep (drB _ _))
                have k1' : (wr.drewN nq).cell? ⟨b1, o1 + jj, none⟩ = some x := k1
                have g1' : (wr.drewN nq).cell? ⟨b1, o1 + m, none⟩ = some y := g1
                have HW : Hid (∀ n2, ∃ n, (wr.drewN nq).drewN n2 = wr.drewN n) := fun n2 => ⟨_, dr2 _ _ _⟩
                have HS : Hid (cnt L m (jj + 1) = cnt L m jj + if lx (la L jj) (la L m) = true then 1 else 0) := cnt_step _ _ _
                have hcl := cnt_le L m jj
                clear k1 g1 k2 g2 HPR
                generalize wr.drewN nq = wq at HC k1' g1' HW ⊢
                generalize cnt L m jj = ct at *
                cases hlx : lx (la L jj) (la L m)
                · have HS' : Hid (cnt L m (jj + 1) = ct) := by show _ = _; have := HS.out; rw [hlx] at this; simpa using this
                  rw [hlx] at HC
                  clear HS hlx
                  go_wp2
                  go_quiet ((go_at_call 24; exact Calls.quiet_of (HC.out _)))
                  go_wp2
                  obtain ⟨n9, h9⟩ := HW.out _
                  exact ⟨⟨jj + 1, n9, by omega, by go_num, by rw [HS'.out], h9⟩, by simp [intOf]; omega⟩
                · have HS' : Hid (cnt L m (jj + 1) = ct + 1) := by show _ = _; have := HS.out; rw [hlx] at this; simpa using this
                  rw [hlx] at HC
                  clear HS hlx
                  go_wp2
                  go_quiet ((go_at_call 24; exact Calls.quiet_of (HC.out _)))
                  go_wp2
                  obtain ⟨n9, h9⟩ := HW.out _
                  exact ⟨⟨jj + 1, n9, by omega, by go_num, by rw [HS'.out]; go_num, h9⟩, by simp [intOf]; omega⟩
              · obtain rfl : jj = k := by omega
                have hrk : cnt L m jj = rk L m := by unfold cnt rk; rw [HN.out]
                rw [hrk]
                have hrl : rk L m < jj := by have := rk_lt hml; rwa [HN.out] at this
                have HX2 : Hid (RX L (m + 1) (l.set (rk L m) m)) := HX.out.1.step HND.out hml
                have hll : l.length = jj := by rw [HX.out.1.1, HN.out]
                have HI : Hid (RI (wr.drewN nq) w3.heap.size l ∧ Below w3.heap.size w3 (wr.drewN nq)) := ⟨HX.out.2.1, HX.out.2.2.trans ((drB _ _).mono HX.out.2.2.size)⟩
                clear hrk HPR HX
                generalize wr.drewN nq = wq at *
                obtain ⟨f1, f2⟩ := HI.out.1.facts (k := rk L m) (by omega)
                generalize rk L m = r at *
                go_wp2
                exact ⟨⟨m + 1, l.set r m, by omega, by go_num, HX2.out, HI.out.1.set r m, HI.out.2.setCell (Nat.le_refl _) _⟩, by simp [intOf]; omega⟩
          · obtain rfl : m = k := by omega
            have hll : l.length = m := by rw [HX.out.1.1, HN.out]
            have HIR : Hid (IR wr l (.slice (some ⟨w3.heap.size, 0, none⟩) m m)) := by have := HX.out.2.1.ir m; rw [hll] at this; exact this
            have HK : Hid (RK L l) := ⟨HX.out.1.1, by rw [HN.out]; exact HX.out.1.2⟩
            have HB3 : Hid (Below w.heap.size w wr) := HB2.out.trans (HX.out.2.2.mono HB2.out.size)
            clear HX
            go_wp2
            exact bodyPost_ret (v := .tuple #[.slice (some ⟨w3.heap.size, 0, none⟩) m m, .int .i64 0]) (by simp [results, Try.results10, go_sem]) rfl ⟨_, 0, l, rfl, HE.out, HIR.out, fun _ => HK.out, fun h => absurd rfl h, by omega, HB3.out⟩
      · have hzb : (z == 0) = false := by simp [hz0]
        have HZ : Hid (z ≠ 0) := hz0
        clear hz0
        go_wp2
        exact bodyPost_ret (v := .tuple #[.slice none 0 0, .int .i64 z]) (by simp [results, Try.results10, go_sem]) rfl ⟨_, z, [], rfl, HE.out, IR.nil _, fun h => absurd h HZ.out, fun _ => rfl, by simp, HB2.out⟩
end Go.Proofs.Ytkkmifgnkpjkdaa
