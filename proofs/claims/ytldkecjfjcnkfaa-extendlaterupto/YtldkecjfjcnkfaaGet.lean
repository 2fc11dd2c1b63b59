import Derived.Lib.Hide
import Derived.Test.YtldkecjfjcnkfaaGetRef
namespace Go.Proofs.Ytldkecjfjcnkfaa
open Go.RowKit Go.Deep
theorem GInv.keep {H : Nat} {w wr w' : World} {u : T} {x y : Value} (h : GInv H w wr u x y) (hS : w.heap.size = H) (hb : Below wr.heap.size wr w') : GInv H w w' u x y := by
  obtain ⟨h1, h2, h3, h4, h5⟩ := h
  exact ⟨h1.trans (hb.mono (hS ▸ h1.size)), h2.keep (hb.block _ h2.lt), h3.keep (hb.block _ h3.lt), RV.move (fun _ h _ => h) hb.size (fun b _ hl => hb.block b hl) _ _ _ h4, h5⟩
theorem less_irr : ∀ x : List UInt8, Op.bytesLess x x = false
  | [] => rfl
  | a :: x => by
    simp only [Op.bytesLess, less_irr x, Bool.and_false, Bool.or_false]
    exact decide_eq_false (fun hc => by have := UInt8.lt_iff_toNat_lt.1 hc; omega)
/-- the search finds what the reference finds -/
theorem find_of_at {ky : Nat → ByteArray} {dn at' : Nat} {key : ByteArray} {f : Bool} (hri : Rise ky dn) (ha : At ky dn key at') (hf : f = true ↔ at' < dn ∧ (ky at').toList = key.toList) :
    (f = true → findK ky key dn = some at') ∧ (f = false → findK ky key dn = none) := by
  obtain ⟨h1, h2, h3⟩ := ha
  have low : ∀ q, q < at' → ¬ (ky q).toList = key.toList := fun q hq he => by
    have := h2 q hq
    rw [he, less_irr] at this
    cases this
  constructor
  · intro h
    obtain ⟨a1, a2⟩ := hf.1 h
    exact findK_stop a1 low a2
  · intro h
    refine findK_none fun q hq he => ?_
    by_cases e1 : q < at'
    · exact low q e1 he
    · by_cases e2 : q = at'
      · subst e2
        have := hf.2 ⟨hq, he⟩
        rw [this] at h; cases h
      · have := h3 at' (Nat.le_refl _) (by omega)
        rw [← he, hri at' q (by omega) hq] at this
        cases this
theorem small_of {k n : Int} {s : ByteArray} {ln dn : Nat} {l dv : Nat → T} {ky : Nat → ByteArray} (h : (T.mk k n s ln l dn ky dv).small) {i : Nat} (hi : i < dn) : (dv i).small := h.2.2.2 i hi
set_option maxHeartbeats 4000000 in
theorem get16 (t : T) (x y pv : Value) (p : Nat → ByteArray) (np : Nat) (w : World) (hok : t.ok) (hsm : t.small) (hr : RV (fun _ => True) w t x y) (hp : RP w p np pv) (hnp : np ≤ 140737488351232) :
    Calls Try.prog 47 #[vv t x y, pv] w fun e w' => ∃ x' y', e = .returned (.tuple #[vv (getS t p np).1 x' y', .int .i64 (getS t p np).2]) ∧ RV (fun b => w.heap.size ≤ b) w' (getS t p np).1 x' y' ∧ Below w.heap.size w w' ∧ capd x' ∧ capd y' := by
  obtain ⟨⟨xa, xn, xc, rfl⟩, ⟨ya, yn, yc, rfl⟩⟩ := hr.slices
  obtain ⟨a, ca, rfl, hp⟩ := hp
  have HP : Hid (np = 0 ∨ ∃ b o, a = some ⟨b, o, none⟩ ∧ b < w.heap.size ∧ ∀ i, i < np → w.cell? ⟨b, o + i, none⟩ = some (.string (p i))) := hp
  have HR : Hid (RV (fun _ => True) w t (.slice xa xn xc) (.slice ya yn yc)) := hr
  have HO : Hid t.ok := hok
  have HM : Hid t.small := hsm
  have HB : Hid (Below w.heap.size w ((w.alloc (Obj.cells #[.int .i64 t.k, .int .i64 t.n, .string t.s, .slice xa xn xc, .slice ya yn yc] 56)).alloc (Obj.cells #[.int .i64 0, .int .i64 0, .string { data := #[] }, .slice .none 0 0, .slice .none 0 0] 56))) := ((Below.refl _ _).alloc (Nat.le_refl _) _).alloc (by simp) _
  clear hp hr hok hsm
  have HG : Hid (getS t p np = if wk t 0 ≠ 0 then (zeroT, wk t 0) else match walkP t p np with | none => (zeroT, 28) | some u => (u, 0)) := rfl
  generalize getS t p np = G at *
  unfold vv
  go_enter Try.func47, Try.ntmps47
  go_wp2_with fail
  have o1 : obj ((w.alloc (Obj.cells #[.int .i64 t.k, .int .i64 t.n, .string t.s, .slice xa xn xc, .slice ya yn yc] 56)).alloc (Obj.cells #[.int .i64 0, .int .i64 0, .string { data := #[] }, .slice .none 0 0, .slice .none 0 0] 56)) w.heap.size (.int .i64 t.k) (.int .i64 t.n) (.string t.s) (.slice xa xn xc) (.slice ya yn yc) := (Below.heap_alloc _ _ _ (by simp)).trans (heap_new _ _)
  have o2 : obj ((w.alloc (Obj.cells #[.int .i64 t.k, .int .i64 t.n, .string t.s, .slice xa xn xc, .slice ya yn yc] 56)).alloc (Obj.cells #[.int .i64 0, .int .i64 0, .string { data := #[] }, .slice .none 0 0, .slice .none 0 0] 56)) (w.heap.size + 1) (.int .i64 0) (.int .i64 0) (.string { data := #[] }) (.slice .none 0 0) (.slice .none 0 0) := by
    have := heap_new (w.alloc (Obj.cells #[.int .i64 t.k, .int .i64 t.n, .string t.s, .slice xa xn xc, .slice ya yn yc] 56)) (Obj.cells #[.int .i64 0, .int .i64 0, .string { data := #[] }, .slice .none 0 0, .slice .none 0 0] 56)
    simpa [obj] using this
  refine (valid12 t _ _ _ HO.out (Below.rv HB.out (Nat.le_refl _) HR.out)).mono ?_
  rintro e w1 ⟨rfl, hb1⟩
  have B1 : Hid (Below w.heap.size w w1) := HB.out.trans (hb1.mono (by simp; omega))
  replace o1 := o1.keep (hb1.block _ o1.lt)
  replace o2 := o2.keep (hb1.block _ o2.lt)
  clear hb1 HB
  have HV : Hid (RV (fun b => b < w.heap.size) w1 t (.slice xa xn xc) (.slice ya yn yc)) := RV.lift B1.out.size (fun b hb => B1.out.block b hb) (fun _ h => h) _ _ _ HR.out
  generalize hvb : w.heap.size = H at *
  have HS : Hid (w.heap.size = H) := hvb
  clear hvb HR
  have hVT : Hid (wk t 0 = 0 → VT t) := fun h => vt_of_wk t 0 h
  generalize wk t 0 = q at *
  obtain ⟨c0, c1, c2, c3, c4⟩ := o2.cells
  have z0 := o2.frozen 0
  have z1 := o2.frozen 1
  have z2 := o2.frozen 2
  have z3 := o2.frozen 3
  have z4 := o2.frozen 4
  by_cases hq : q = 0
  case neg =>
    have hG : G = (zeroT, q) := HG.out.trans (if_pos hq)
    subst hG
    have O2 : Hid (obj w1 (H + 1) (.int .i64 0) (.int .i64 0) (.string { data := #[] }) (.slice .none 0 0) (.slice .none 0 0)) := o2
    have hq' : (q != 0) = true := by simpa using hq
    clear HG hVT o1 o2 hq
    go_wp2
    refine bodyPost_ret (v := .tuple #[.agg #[.int .i64 0, .int .i64 0, .string { data := #[] }, .slice .none 0 0, .slice .none 0 0], .int .i64 q]) (results_cell2 Try.results47 _ _ (H + 1) _ rfl (((((O2.out.set0 _).set1 _).set2 _).set3 _).set4 _) rfl) rfl ⟨_, _, rfl, ⟨⟨_, _, rfl, .inl rfl⟩, ⟨_, _, rfl, .inl rfl⟩⟩, ?_, capd_nil, capd_nil⟩
    have hbs := besides5 w1 (H + 1) (.int .i64 0) (.int .i64 0) (.string { data := #[] }) (.slice .none 0 0) (.slice .none 0 0)
    have h0 := B1.out
    rw [HS.out]
    exact ⟨hbs.os.trans h0.os, hbs.tape.trans h0.tape, hbs.output.trans h0.output, Nat.le_trans h0.size hbs.size, fun r hr => (hbs.block r (by have := h0.size; have := HS.out; omega) (by omega)).trans (h0.block r hr)⟩
  case pos =>
    have HGI : Hid (GInv H w w1 t (.slice xa xn xc) (.slice ya yn yc)) := ⟨B1.out, o1, o2, HV.out, HO.out, hVT.out hq⟩
    have HG2 : Hid (G = match walkP t p np with | none => (zeroT, 28) | some u => (u, 0)) := HG.out.trans (if_neg (by simp [hq]))
    clear HG hVT o1 o2 HV HO c0 c1 c2 c3 c4 z0 z1 z2 z3 z4
    subst hq
    go_wp2
    go_loopw [19] (fun i wr => ∃ (j : Nat) (u : T) (xx yy : Value), j ≤ np ∧ i = .int .i64 j ∧ Hid (walkP t p j = some u) ∧ Hid (GInv H w wr u xx yy) ∧ Hid u.small) (fun i _ => np - (intOf i).toNat)
    case atStart => exact ⟨0, t, _, _, Nat.zero_le _, rfl, rfl, HGI, HM⟩
    case round =>
      clear HGI B1
      obtain ⟨j, u, xx, yy, hj, rfl, hwk, hinv, hus⟩ := hrel
      obtain ⟨⟨xa1, xn1, xc1, rfl⟩, ⟨ya1, yn1, yc1, rfl⟩⟩ := hinv.out.2.2.2.1.slices
      by_cases hlt : j < np
      · rcases HP.out with h | ⟨b, o, rfl, hbl, hP⟩
        · omega
        have hpk := Below.cellS hinv.out.1 (Nat.le_of_eq HS.out) (hP j hlt)
        have j0 : (0 : Int) ≤ (j : Int) := by omega
        have j1 : (j : Int) < (np : Int) := by omega
        obtain ⟨_, _, _, _, e4⟩ := hinv.out.2.1.cells
        cases u with
        | no => exact (hinv.out.2.2.2.1).elim
        | mk uk un us uln ul udn uky udv =>
        have hudn : udn ≤ 140737488351232 := hinv.out.2.2.2.2.1.2.2.1
        have HRi : Hid (Rise uky udn) := rise_of_good fun i hi => (hinv.out.2.2.2.2.2.2.2 i hi).1
        have HRD : Hid (RD (fun _ => True) wr udn uky udv (.slice ya1 yn1 yc1)) := RD.keep (fun _ _ => trivial) (Nat.le_refl _) (fun _ _ _ => rfl) hinv.out.2.2.2.1.2
        clear hP hbl
        go_wp2_with fail
        refine (search25 udn uky udv _ (p j) wr HRD.out HRi.out hudn).mono ?_
        rintro e w2 ⟨at', f, rfl, hat, hff, hb2⟩
        obtain ⟨hfk1, hfk2⟩ := find_of_at HRi.out hat hff
        have hinv2 : Hid (GInv H w w2 (.mk uk un us uln ul udn uky udv) (.slice xa1 xn1 xc1) (.slice ya1 yn1 yc1)) := hinv.out.keep HS.out hb2
        have hatd : f = true → at' < udn := fun h => (hff.1 h).1
        clear hinv hb2 hat hff HRi HRD hpk e4
        cases f with
        | false =>
          have hn1 : walkP t p (j + 1) = none := by
            show (walkP t p j).bind _ = none
            rw [hwk.out]
            show (findK uky (p j) udn).map udv = none
            rw [hfk2 rfl]; rfl
          have hG : G = (zeroT, 28) := by rw [HG2.out, walkP_none hn1 (by omega)]
          subst hG
          clear HG2 hn1 hfk1 hfk2 hatd
          have O2 : Hid (obj w2 (H + 1) (.int .i64 0) (.int .i64 0) (.string { data := #[] }) (.slice .none 0 0) (.slice .none 0 0)) := hinv2.out.2.2.1
          have BB : Hid (Below H w w2) := hinv2.out.1
          obtain ⟨c0, c1, c2, c3, c4⟩ := O2.out.cells
          have z0 := O2.out.frozen 0
          have z1 := O2.out.frozen 1
          have z2 := O2.out.frozen 2
          have z3 := O2.out.frozen 3
          have z4 := O2.out.frozen 4
          go_wp2
          refine bodyPost_ret (v := .tuple #[.agg #[.int .i64 0, .int .i64 0, .string { data := #[] }, .slice .none 0 0, .slice .none 0 0], .int .i64 28]) (results_cell2 Try.results47 _ _ (H + 1) _ rfl (((((O2.out.set0 _).set1 _).set2 _).set3 _).set4 _) rfl) rfl ⟨_, _, rfl, ⟨⟨_, _, rfl, .inl rfl⟩, ⟨_, _, rfl, .inl rfl⟩⟩, ?_, capd_nil, capd_nil⟩
          have hbs := besides5 w2 (H + 1) (.int .i64 0) (.int .i64 0) (.string { data := #[] }) (.slice .none 0 0) (.slice .none 0 0)
          have h0 := BB.out
          rw [HS.out]
          exact ⟨hbs.os.trans h0.os, hbs.tape.trans h0.tape, hbs.output.trans h0.output, Nat.le_trans h0.size hbs.size, fun r hr => (hbs.block r (by have := h0.size; have := HS.out; omega) (by omega)).trans (h0.block r hr)⟩
        | true =>
          have hi1 : at' < udn := hatd rfl
          have hn1 : Hid (walkP t p (j + 1) = some (udv at')) := by
            show (walkP t p j).bind _ = _
            rw [hwk.out]
            show (findK uky (p j) udn).map udv = _
            rw [hfk1 rfl]; rfl
          obtain ⟨hRL, hRD⟩ := hinv2.out.2.2.2.1
          obtain ⟨a1, ca1, ha1, hD1⟩ := hRD
          cases ha1
          rcases hD1 with h | ⟨b1, o1, rfl, hS1, hbl1, hD1⟩
          · omega
          obtain ⟨X, Y, hv, g0, g1, g2, g3, g4, g5⟩ := hD1 at' hi1
          obtain ⟨⟨xa2, xn2, xc2, rfl⟩, ⟨ya2, yn2, yc2, rfl⟩⟩ := hv.slices
          obtain ⟨c0, c1, c2, c3, c4⟩ := hinv2.out.2.1.cells
          have z0 := hinv2.out.2.1.frozen 0
          have z1 := hinv2.out.2.1.frozen 1
          have z2 := hinv2.out.2.1.frozen 2
          have z3 := hinv2.out.2.1.frozen 3
          have z4 := hinv2.out.2.1.frozen 4
          have HN : Hid (GInv H w (set5 w2 H 0 (.int .i64 (udv at').k) (.int .i64 (udv at').n) (.string (udv at').s) (.slice xa2 xn2 xc2) (.slice ya2 yn2 yc2)) (udv at') (.slice xa2 xn2 xc2) (.slice ya2 yn2 yc2)) := hinv2.out.step rfl hv (ok_of hinv2.out.2.2.2.2.1 hi1) (hinv2.out.2.2.2.2.2.2.2 at' hi1).2
          have HU : Hid (udv at').small := small_of hus.out hi1
          have i0 : (0 : Int) ≤ (at' : Int) := by omega
          have i2 : (at' : Int) < (yn1 : Int) := by omega
          clear hfk1 hfk2 hatd hinv2 hRL hD1 hv hbl1
          go_wp2
          go_roundw
          case rel => exact ⟨j + 1, udv at', _, _, by omega, by go_num, hn1, HN, HU⟩
          case measure => simp [intOf]; omega
      · obtain rfl : j = np := by omega
        have hG : G = (u, 0) := by rw [HG2.out, hwk.out]
        subst hG
        clear HG2
        obtain ⟨e0, e1, e2, e3, e4⟩ := hinv.out.2.1.cells
        go_wp2_with fail
        refine (nodeOf27 u _ _ wr hinv.out.2.2.2.2.1 hus.out hinv.out.2.2.2.2.2 (RV.move (fun _ _ _ => trivial) (Nat.le_refl _) (fun _ _ _ => rfl) _ _ _ hinv.out.2.2.2.1)).mono ?_
        rintro e w2 ⟨nv, rfl, hrn, hb2⟩
        have I2 : Hid (GInv H w w2 u (.slice xa1 xn1 xc1) (.slice ya1 yn1 yc1)) := hinv.out.keep HS.out hb2
        clear hinv e0 e1 e2 e3 e4
        go_wp2_with fail
        refine (plain28 u nv _ w2 hus.out I2.out.2.2.2.2.2 hrn).mono ?_
        rintro e w3 ⟨x3, y3, rfl, hr3, hb3, hcd⟩
        obtain ⟨⟨xa3, xn3, xc3, rfl⟩, ⟨ya3, yn3, yc3, rfl⟩⟩ := hr3.slices
        have HCD := Lib.hid hcd
        clear hcd
        have I3 : Hid (GInv H w w3 u (.slice xa1 xn1 xc1) (.slice ya1 yn1 yc1)) := I2.out.keep HS.out hb3
        have HR3 : Hid (RV (fun b => w2.heap.size ≤ b) w3 u (.slice xa3 xn3 xc3) (.slice ya3 yn3 yc3)) := hr3
        have hlt2 : H + 1 < w2.heap.size := I2.out.2.2.1.lt
        obtain ⟨c0, c1, c2, c3, c4⟩ := I3.out.2.2.1.cells
        have z0 := I3.out.2.2.1.frozen 0
        have z1 := I3.out.2.2.1.frozen 1
        have z2 := I3.out.2.2.1.frozen 2
        have z3 := I3.out.2.2.1.frozen 3
        have z4 := I3.out.2.2.1.frozen 4
        clear hr3 hb3 hrn hb2 I2
        unfold vv
        go_wp2
        have hbs := besides5 w3 (H + 1) (.int .i64 u.k) (.int .i64 u.n) (.string u.s) (.slice xa3 xn3 xc3) (.slice ya3 yn3 yc3)
        refine bodyPost_ret (v := .tuple #[.agg #[.int .i64 u.k, .int .i64 u.n, .string u.s, .slice xa3 xn3 xc3, .slice ya3 yn3 yc3], .int .i64 0]) (results_cell2 Try.results47 _ _ (H + 1) _ rfl (((((I3.out.2.2.1.set0 _).set1 _).set2 _).set3 _).set4 _) rfl) rfl ⟨_, _, rfl, ?_, ?_, HCD.out⟩
        · exact RV.move (fun b hb _ => (show w.heap.size ≤ b by have h9 := HS.out; have h8 : w2.heap.size ≤ b := hb; omega)) hbs.size (fun r hr hl => hbs.block r hl (by have h8 : w2.heap.size ≤ r := hr; omega)) _ _ _ HR3.out
        · have h0 := I3.out.1
          rw [HS.out]
          exact ⟨hbs.os.trans h0.os, hbs.tape.trans h0.tape, hbs.output.trans h0.output, Nat.le_trans h0.size hbs.size, fun r hr => (hbs.block r (by have := h0.size; have := HS.out; omega) (by omega)).trans (h0.block r hr)⟩
end Go.Proofs.Ytldkecjfjcnkfaa
