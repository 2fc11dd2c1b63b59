import Derived.Test.YtkkmifgnkpjkdaaDoorOp0
import Derived.Test.YtkkmifgnkpjkdaaDoorCp
namespace Go.Proofs.YtkkmifgnkpjkdaaDoor
open Go.RowKit
def allp (L : List (List ByteArray)) (k : Nat) : Bool := (L.take k).all (fun l => pe l == 0)
theorem allp_step {L : List (List ByteArray)} {k : Nat} (h : k < L.length) : allp L (k + 1) = (allp L k && (pe (la L k) == 0)) := by
  unfold allp; rw [la_take h]; simp
theorem pes_all : ∀ L : List (List ByteArray), pes L = 0 ↔ L.all (fun l => pe l == 0) = true
  | [] => by simp [pes]
  | l :: L => by
    have ih := pes_all L
    rw [pes]
    by_cases h : pe l = 0
    · rw [if_pos h, ih]; simp [h]
    · rw [if_neg h]; simp [h]
theorem allp_all (L : List (List ByteArray)) : allp L L.length = true ↔ pes L = 0 := by unfold allp; rw [List.take_length, pes_all]
/-- there is an order just if .. -/
theorem good_iff {L : List (List ByteArray)} {z z2 : Int} {i j : Nat} (h : OE L z) (hc : CL L i j z2) : z = 0 ↔ z2 = 0 ∧ L.length ≤ 4096 ∧ allp L L.length = true := by
  rw [allp_all]
  rcases h with ⟨a, h⟩ | ⟨a, b, h⟩ | ⟨a, b, i', j', h⟩
  · constructor
    · omega
    · omega
  · constructor
    · intro h0; exact absurd (h.symm.trans h0) b
    · intro h0; exact absurd h0.2.2 b
  · have e := (h.unique hc).2.2
    subst e
    exact ⟨fun h0 => ⟨h0, a, b⟩, fun h0 => h0.1⟩
set_option maxHeartbeats 2000000 in
set_option maxRecDepth 100000 in
theorem rises4 (AWK : ∀ w, Calls Tryd.prog 6 #[] w fun e w' => e = .returned (.bool true) ∧ Below w.heap.size w w') (v : Value) (L : List (List ByteArray)) (w : World) (hf : PF L) (h1 : PR w L v) :
    Calls Tryd.prog 4 #[v] w fun e w' => e = .returned (.bool true) ∧ Below w.heap.size w w' := by
  have H1 : Hid (PR w L v) := h1
  have HF : Hid (PF L) := hf
  have hl := hf.1
  obtain ⟨a1, c1, rfl, _, _⟩ := h1
  clear hf
  generalize hk : L.length = k at *
  have HK : Hid (L.length = k) := hk
  clear hk
  go_enter Tryd.func4, Tryd.ntmps4
  go_wp2_with fail
  refine (AWK _).mono ?_
  rintro e w1 ⟨rfl, hb1⟩
  have B1 : Hid (PR w1 L (.slice a1 k c1) ∧ Below w.heap.size w w1) := ⟨H1.out.keep hb1, hb1⟩
  clear hb1 AWK
  go_wp2_with fail
  refine (order9 _ L _ HF.out B1.out.1).mono ?_
  rintro e w2 ⟨x, z, l, rfl, hz, hir, hs, hne, h4, hb2⟩
  have B2 : Hid (PR w2 L (.slice a1 k c1) ∧ Below w.heap.size w w2 ∧ IR w2 l x) := ⟨B1.out.1.keep hb2, B1.out.2.trans (hb2.mono B1.out.2.size), hir⟩
  have HS : Hid ((z = 0 → SP L l) ∧ (z ≠ 0 → l = [])) := ⟨hs, hne⟩
  have HZ : Hid (OE L z) := hz
  obtain ⟨xa, xc, rfl, _⟩ := hir
  generalize hln : l.length = ln at *
  have HLN : Hid (l.length = ln) := hln
  clear hln hb2 B1 hs hne hz
  go_wp2_with fail
  refine (clash6 _ L _ HF.out B2.out.1).mono ?_
  rintro e w3 ⟨i, j, z2, rfl, hz2, hb3⟩
  have B3 : Hid (PR w3 L (.slice a1 k c1) ∧ Below w.heap.size w w3 ∧ IR w3 l (.slice xa ln xc)) := ⟨B2.out.1.keep hb3, B2.out.2.1.trans (hb3.mono B2.out.2.1.size), B2.out.2.2.keep hb3⟩
  have HG : Hid (z = 0 ↔ z2 = 0 ∧ L.length ≤ 4096 ∧ allp L L.length = true) := good_iff HZ.out hz2
  clear hz2 hb3 B2 HZ
  by_cases hg : z2 = 0 ∧ k ≤ 4096
  · obtain ⟨rfl, hk4⟩ := hg
    have HG2 : Hid (z = 0 ↔ allp L k = true) := by show _ ↔ _; have := HG.out; rw [HK.out] at this; simpa [hk4] using this
    clear HG
    go_wp2
    go_loopw [9, 10] (fun g t wr => ∃ (m : Nat), m ≤ k ∧ t = .int .i64 m ∧ g = .bool (allp L m) ∧ Hid (PR wr L (.slice a1 k c1) ∧ Below w.heap.size w wr ∧ IR wr l (.slice xa ln xc))) (fun _ t _ => k - (intOf t).toNat)
    case atStart => exact ⟨0, Nat.zero_le _, rfl, by rw [decide_eq_true (by omega)]; rfl, B3⟩
    case round =>
      obtain ⟨m, hm, rfl, rfl, HB⟩ := hrel
      by_cases hlt : m < k
      · have hml : m < L.length := by rw [HK.out]; exact hlt
        obtain ⟨b1, o1, rfl, _, y, k1, k2⟩ := HB.out.1.cellAt hml
        have HP : Hid (Calls Tryd.prog 11 #[y] wr fun e w' => e = .returned (.int .i64 (pe (la L m))) ∧ Below wr.heap.size wr w') := path21 y _ _ (HF.out.la hml) k2
        have HA : Hid (allp L (m + 1) = (allp L m && (pe (la L m) == 0))) := allp_step hml
        clear k2
        generalize pe (la L m) = pz at *
        cases ha : allp L m
        · have HA' : Hid (allp L (m + 1) = false) := by have := HA.out; rw [ha] at this; exact this
          clear HA
          go_wp2_with fail
          refine HP.out.mono ?_
          rintro e w5 ⟨rfl, hb5⟩
          have HB5 : Hid (PR w5 L (.slice (some ⟨b1, o1, none⟩) k c1) ∧ Below w.heap.size w w5 ∧ IR w5 l (.slice xa ln xc)) := ⟨HB.out.1.keep hb5, HB.out.2.1.trans (hb5.mono HB.out.2.1.size), HB.out.2.2.keep hb5⟩
          clear hb5 HB k1 HP
          go_wp2
          refine ⟨⟨_, _, _, _, _, _, _, _, _, _, _, _, _, _, _, _, _, _, _, _, ⟨m + 1, by omega, ?_, ?_, HB5⟩, rfl⟩, ?_⟩
          · go_num
          · rw [HA'.out]
          · simp [intOf]; omega
        · have HA' : Hid (allp L (m + 1) = (pz == 0)) := by have := HA.out; rw [ha, Bool.true_and] at this; exact this
          clear HA
          go_wp2_with fail
          refine HP.out.mono ?_
          rintro e w5 ⟨rfl, hb5⟩
          have HB5 : Hid (PR w5 L (.slice (some ⟨b1, o1, none⟩) k c1) ∧ Below w.heap.size w w5 ∧ IR w5 l (.slice xa ln xc)) := ⟨HB.out.1.keep hb5, HB.out.2.1.trans (hb5.mono HB.out.2.1.size), HB.out.2.2.keep hb5⟩
          clear hb5 HB k1 HP
          go_wp2
          refine ⟨⟨_, _, _, _, _, _, _, _, _, _, _, _, _, _, _, _, _, _, _, _, ⟨m + 1, by omega, ?_, ?_, HB5⟩, rfl⟩, ?_⟩
          · go_num
          · rw [HA'.out]
          · simp [intOf]; omega
      · obtain rfl : m = k := by omega
        by_cases hz0 : z = 0
        · have ha : allp L m = true := HG2.out.1 hz0
          subst hz0
          have HSP : Hid (SP L l) := HS.out.1 rfl
          obtain rfl : ln = m := by rw [← HLN.out, HSP.out.len, HK.out]
          clear HG2 HS
          rw [ha]
          clear ha
          go_wp2
          go_loopw [12] (fun t wq => ∃ (p nq : Nat), p ≤ ln ∧ t = .int .i64 p ∧ wq = wr.drewN nq) (fun t _ => ln - (intOf t).toNat)
          case atStart => exact ⟨0, 0, Nat.zero_le _, rfl, rfl⟩
          case round =>
            obtain ⟨p, nq, hp, rfl, rfl⟩ := hrel
            by_cases hpl : p < ln
            · have hpL : p < L.length := by rw [HK.out]; exact hpl
              have hlo := HSP.out.low hpL
              obtain ⟨bi, oi, rfl, _, i1⟩ := HB.out.2.2.cellAt (k := p) (by rw [HLN.out]; exact hpl)
              obtain ⟨b1, o1, rfl, _, y, k1, k2⟩ := HB.out.1.cellAt hlo
              have hlo' : l.getD p 0 < ln := by rw [← HK.out]; exact hlo
              by_cases hp0 : p = 0
              · subst hp0
                rw [Nat.add_zero] at i1
                clear k2 k1 hlo hpL
                generalize l.getD 0 0 = r at *
                go_wp2
                refine ⟨⟨_, _, _, _, _, _, _, _, _, _, _, _, _, _, _, _, _, _, _, _, _, _, _, _, _, _, _, _, _, _, _, _, _, _, _, _, _, _, _, _, _, _, _, ⟨0 + 1, nq, by omega, ?_, rfl⟩, rfl⟩, ?_⟩
                · go_num
                · simp [intOf]; omega
              · have hpL2 : p - 1 < L.length := by omega
                have hlo2 := HSP.out.low hpL2
                have hris := HSP.out.2 (p - 1) p (by omega) hpL
                obtain ⟨bi', oi', he, _, i2⟩ := HB.out.2.2.cellAt (k := p - 1) (by rw [HLN.out]; omega)
                simp at he
                obtain ⟨rfl, rfl⟩ := he
                obtain ⟨b1', o1', he, _, x, g1, g2⟩ := HB.out.1.cellAt hlo2
                simp at he
                obtain ⟨rfl, rfl⟩ := he
                have hlo2' : l.getD (p - 1) 0 < ln := by rw [← HK.out]; exact hlo2
                have HC : Hid (∀ nn, Calls Tryd.prog 12 #[x, y] ((wr.drewN nq).drewN nn) fun e w' => e = .returned (.bool true) ∧ w' = (wr.drewN nq).drewN nn) := fun nn => by
                  rw [dr2, ← hris]
                  exact less12 x y _ _ _ (HF.out.la hlo2).1 (HF.out.la hlo).1 (g2.keep (drB _ _)) (k2.keep (drB _ _))
                have hpw : IntKind.i64.wrap ((p : Int) - 1) = ((p - 1 : Nat) : Int) := by
                  rw [show (p : Int) - 1 = ((p - 1 : Nat) : Int) by omega]; simp [IntKind.wrap, IntKind.bits, IntKind.signed]; omega
                have hpl2 : p - 1 < ln := by omega
                have hpp : 0 < p := by omega
                have k1' : (wr.drewN nq).cell? ⟨b1, o1 + l.getD p 0, none⟩ = some y := k1
                have g1' : (wr.drewN nq).cell? ⟨b1, o1 + l.getD (p - 1) 0, none⟩ = some x := g1
                have i1' : (wr.drewN nq).cell? ⟨bi, oi + p, none⟩ = some (.int .i64 ((l.getD p 0 : Nat) : Int)) := i1
                have i2' : (wr.drewN nq).cell? ⟨bi, oi + (p - 1), none⟩ = some (.int .i64 ((l.getD (p - 1) 0 : Nat) : Int)) := i2
                have HW : Hid (∀ n2, ∃ n, (wr.drewN nq).drewN n2 = wr.drewN n) := fun n2 => ⟨_, dr2 _ _ _⟩
                clear k1 g1 i1 i2 k2 g2 hris hlo hlo2 hpL hpL2
                generalize wr.drewN nq = wq at HC k1' g1' i1' i2' HW ⊢
                generalize l.getD p 0 = r at *
                generalize l.getD (p - 1) 0 = r2 at *
                go_wp2
                go_quiet ((go_at_call 12; exact Calls.quiet_of_same (HC.out _)))
                go_wp2
                obtain ⟨n9, h9⟩ := HW.out _
                refine ⟨⟨_, _, _, _, _, _, _, _, _, _, _, _, _, _, _, _, _, _, _, _, _, _, _, _, _, _, _, _, _, _, _, _, _, _, _, _, _, _, _, _, _, _, _, ⟨p + 1, n9, by omega, ?_, h9⟩, rfl⟩, ?_⟩
                · go_num
                · simp [intOf]; omega
            · obtain rfl : p = ln := by omega
              go_wp2
              go_ret
              exact ⟨rfl, HB.out.2.1.trans ((drB _ _).mono HB.out.2.1.size)⟩
        · have ha : allp L m = false := by cases h : allp L m with | false => rfl | true => exact absurd (HG2.out.2 h) hz0
          have hl0 : ln = 0 := by rw [← HLN.out, HS.out.2 hz0]; rfl
          have hzb : (z == 0) = false := by simp [hz0]
          subst hl0
          rw [ha]
          clear ha hz0 HG2
          go_wp2
          go_ret
          exact ⟨rfl, HB.out.2.1⟩
  · have hz0 : ¬ z = 0 := fun h => hg (by have := HG.out.1 h; rw [HK.out] at this; exact ⟨this.1, this.2.1⟩)
    have hzb : (z == 0) = false := by simp [hz0]
    have hl0 : ln = 0 := by rw [← HLN.out, HS.out.2 hz0]; rfl
    subst hl0
    clear HG HS hz0
    by_cases h2 : z2 = 0
    · have hk4 : ¬ k ≤ 4096 := fun h => hg ⟨h2, h⟩
      subst h2
      clear hg
      go_wp2
      go_loopw [9, 10] (fun g t wr => ∃ (m : Nat), m ≤ k ∧ t = .int .i64 m ∧ g = .bool false ∧ Hid (PR wr L (.slice a1 k c1) ∧ Below w.heap.size w wr)) (fun _ t _ => k - (intOf t).toNat)
      case atStart => exact ⟨0, Nat.zero_le _, rfl, by rw [decide_eq_false (by omega)], B3.out.1, B3.out.2.1⟩
      case round =>
        obtain ⟨m, hm, rfl, rfl, HB⟩ := hrel
        by_cases hlt : m < k
        · have hml : m < L.length := by rw [HK.out]; exact hlt
          obtain ⟨b1, o1, rfl, _, y, k1, k2⟩ := HB.out.1.cellAt hml
          have HP : Hid (Calls Tryd.prog 11 #[y] wr fun e w' => e = .returned (.int .i64 (pe (la L m))) ∧ Below wr.heap.size wr w') := path21 y _ _ (HF.out.la hml) k2
          clear k2
          generalize pe (la L m) = pz at *
          go_wp2_with fail
          refine HP.out.mono ?_
          rintro e w5 ⟨rfl, hb5⟩
          have HB5 : Hid (PR w5 L (.slice (some ⟨b1, o1, none⟩) k c1) ∧ Below w.heap.size w w5) := ⟨HB.out.1.keep hb5, HB.out.2.trans (hb5.mono HB.out.2.size)⟩
          clear hb5 HB k1 HP
          go_wp2
          refine ⟨⟨_, _, _, _, _, _, _, _, _, _, _, _, _, _, _, _, _, _, _, _, ⟨m + 1, by omega, ?_, rfl, HB5⟩, rfl⟩, ?_⟩
          · go_num
          · simp [intOf]; omega
        · obtain rfl : m = k := by omega
          go_wp2
          go_ret
          exact ⟨rfl, HB.out.2⟩
    · have h2b : (z2 == 0) = false := by simp [h2]
      clear hg h2
      go_wp2
      go_loopw [9, 10] (fun g t wr => ∃ (m : Nat), m ≤ k ∧ t = .int .i64 m ∧ g = .bool false ∧ Hid (PR wr L (.slice a1 k c1) ∧ Below w.heap.size w wr)) (fun _ t _ => k - (intOf t).toNat)
      case atStart => exact ⟨0, Nat.zero_le _, rfl, rfl, B3.out.1, B3.out.2.1⟩
      case round =>
        obtain ⟨m, hm, rfl, rfl, HB⟩ := hrel
        by_cases hlt : m < k
        · have hml : m < L.length := by rw [HK.out]; exact hlt
          obtain ⟨b1, o1, rfl, _, y, k1, k2⟩ := HB.out.1.cellAt hml
          have HP : Hid (Calls Tryd.prog 11 #[y] wr fun e w' => e = .returned (.int .i64 (pe (la L m))) ∧ Below wr.heap.size wr w') := path21 y _ _ (HF.out.la hml) k2
          clear k2
          generalize pe (la L m) = pz at *
          go_wp2_with fail
          refine HP.out.mono ?_
          rintro e w5 ⟨rfl, hb5⟩
          have HB5 : Hid (PR w5 L (.slice (some ⟨b1, o1, none⟩) k c1) ∧ Below w.heap.size w w5) := ⟨HB.out.1.keep hb5, HB.out.2.trans (hb5.mono HB.out.2.size)⟩
          clear hb5 HB k1 HP
          go_wp2
          refine ⟨⟨_, _, _, _, _, _, _, _, _, _, _, _, _, _, _, _, _, _, _, _, ⟨m + 1, by omega, ?_, rfl, HB5⟩, rfl⟩, ?_⟩
          · go_num
          · simp [intOf]; omega
        · obtain rfl : m = k := by omega
          go_wp2
          go_ret
          exact ⟨rfl, HB.out.2⟩
end Go.Proofs.YtkkmifgnkpjkdaaDoor
