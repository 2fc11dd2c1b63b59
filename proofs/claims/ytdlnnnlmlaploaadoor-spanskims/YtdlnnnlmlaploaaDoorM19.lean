import Derived.Test.YtdlnnnlmlaploaaDoorM18
namespace Go.Proofs.YtdlnnnlmlaploaaDoor
open Go.RowKit Go.Deep
def ZC (t : T) : Prop := ∀ (x y : Value) (w : World), RV (fun _ => True) w t x y → t.rng → VT t → TB w.heap.size w → (txt t).length ≤ 1048576 →
  Calls Tryd.prog 45 #[vv t x y] w fun e w' => e = .returned (.int .i64 (txt t).length) ∧ Below w.heap.size w w'
theorem wtx_size (s : ByteArray) : s.size + 1 ≤ (wtx s).length := by
  unfold wtx
  rw [List.length_append, List.length_cons]
  have : s.data.toList.length = s.size := Array.length_toList
  omega
set_option maxRecDepth 10000 in
set_option maxHeartbeats 4000000 in
theorem size45 (t : T) : ZC t := by
  induction t with
  | no => intro x y w h; exact h.elim
  | mk k n s ln l dn ky dv il id =>
    intro x y w hr hrng hvt hT hlim
    obtain ⟨⟨xa, xn, xc, rfl⟩, ⟨ya, yn, yc, rfl⟩⟩ := hr.slices
    obtain ⟨r1, r2, r3, r4, r5, r6⟩ := hrng
    obtain ⟨o1, o2, o3, o4, o5, o6⟩ : 1 ≤ k ∧ k ≤ 4 ∧ (k = 1 ∨ n = 0) ∧ (k = 2 ∨ s.toList = []) ∧ (k = 3 ∨ ln = 0) ∧ (k = 4 ∨ dn = 0) := of_decide_eq_true hvt.1
    have b0 : Below w.heap.size w (w.alloc (Obj.cells #[.int .i64 k, .int .i64 n, .string s, .slice xa xn xc, .slice ya yn yc] 60)) := (Below.refl _ _).alloc (Nat.le_refl _) _
    show Calls Tryd.prog 45 #[.agg #[.int .i64 k, .int .i64 n, .string s, .slice xa xn xc, .slice ya yn yc]] w _
    by_cases hk1 : k = 1
    · subst hk1
      have e : Hid (txt (.mk 1 n s ln l dn ky dv) = 105 :: (Lib.itoa n ++ [101])) := rfl
      have hlen := itoa_len r1 r2
      have hz : (({ data := (Lib.itoa n).toArray } : ByteArray)).size = (Lib.itoa n).length := List.size_toArray
      have C := itoa25 n r1 r2 _ (tb_up (hT.on b0) b0.size)
      have B0 := Lib.hid b0
      clear hr il id r5 r6 hlim hvt b0 o3 o4 o5 o6
      go_enter Tryd.func45, Tryd.ntmps45
      go_wp2_with fail
      refine C.mono ?_
      rintro e2 w2 ⟨rfl, hb2⟩
      go_wp2
      go_ret
      exact ⟨by rw [e.out]; simp; omega, B0.out.trans (hb2.mono B0.out.size)⟩
    by_cases hk2 : k = 2
    · subst hk2
      have e : Hid (txt (.mk 2 n s ln l dn ky dv) = wtx s) := rfl
      have hsz : s.size ≤ 1048576 := by have h1 := wtx_size s; rw [e.out] at hlim; omega
      have C := strSize46 s _ (tb_up (hT.on b0) b0.size) hsz
      have B0 := Lib.hid b0
      clear hr il id r5 r6 hlim hvt b0 o3 o4 o5 o6
      go_enter Tryd.func45, Tryd.ntmps45
      go_wp2_with fail
      refine C.mono ?_
      rintro e2 w2 ⟨rfl, hb2⟩
      go_wp2
      go_ret
      exact ⟨by rw [e.out]; rfl, B0.out.trans (hb2.mono B0.out.size)⟩
    have hk1' : (k == 1) = false := by simpa using hk1
    have hk2' : (k == 2) = false := by simpa using hk2
    obtain ⟨hL, hD⟩ := hr
    by_cases hk3 : k = 3
    · subst hk3
      obtain ⟨a, ca, ha, hL⟩ := hL
      obtain ⟨rfl, rfl, rfl⟩ : a = xa ∧ ln = xn ∧ ca = xc := by cases ha; exact ⟨rfl, rfl, rfl⟩
      clear ha
      have EL : Hid ((txt (.mk 3 n s ln l dn ky dv)).length = 2 + (catN (fun i => txt (l i)) ln).length) := by
        show _ = _
        have e : txt (.mk 3 n s ln l dn ky dv) = 108 :: (catN (fun i => txt (l i)) ln ++ [101]) := rfl
        rw [e]; simp; omega
      have HC : Hid ((∀ i, ZC (l i)) ∧ (∀ i, i < ln → (l i).rng) ∧ (∀ i, i < ln → VT (l i)) ∧ (ln = 0 ∨ ∃ b o, a = some ⟨b, o, none⟩ ∧ True ∧ b < w.heap.size ∧ ∀ i, i < ln → ∃ x' y', RV (fun _ => True) w (l i) x' y' ∧ five w b (o + i * 5) (l i) x' y')) := ⟨il, r5, hvt.2.1, hL⟩
      have HL2 : Hid (2 + (catN (fun i => txt (l i)) ln).length ≤ 1048576) := by rw [← EL.out]; exact hlim
      have HB0 : Hid (Below w.heap.size w (w.alloc (Obj.cells #[.int .i64 3, .int .i64 n, .string s, .slice a ln ca, .slice ya yn yc] 60)) ∧ obj (w.alloc (Obj.cells #[.int .i64 3, .int .i64 n, .string s, .slice a ln ca, .slice ya yn yc] 60)) w.heap.size (.int .i64 3) (.int .i64 n) (.string s) (.slice a ln ca) (.slice ya yn yc)) := ⟨b0, heap_new _ _⟩
      clear il id r5 r6 hvt hlim hL hD hk1 hk2 o3 o4 o5 o6 b0
      go_enter Tryd.func45, Tryd.ntmps45
      go_wp2
      generalize (w.alloc (Obj.cells #[.int .i64 3, .int .i64 n, .string s, .slice a ln ca, .slice ya yn yc] 60)) = w0 at *
      generalize hvb : w.heap.size = vb at *
      have HVB := Lib.hid hvb
      clear hvb
      go_loopw [3, 4] (fun c i wr => ∃ j : Nat, j ≤ ln ∧ i = .int .i64 j ∧ c = .int .i64 ((2 + (catN (fun i => txt (l i)) j).length : Nat) : Int) ∧ Hid (Below vb w wr ∧ obj wr vb (.int .i64 3) (.int .i64 n) (.string s) (.slice a ln ca) (.slice ya yn yc))) (fun _ i _ => ln - (intOf i).toNat)
      case atStart => exact ⟨0, Nat.zero_le _, rfl, rfl, HB0.out⟩
      case round =>
        clear HB0
        obtain ⟨j, hj, rfl, rfl, HO⟩ := hrel
        obtain ⟨_, _, _, cl, _⟩ := HO.out.2.cells
        by_cases hlt : j < ln
        · obtain ⟨il, r5, hvl, hL⟩ := HC.out
          rcases hL with h | ⟨b, o, rfl, _, hb, hL⟩
          · omega
          obtain ⟨x1, y1, hv, g1, g2, g3, g4, g5⟩ := hL j hlt
          have hle : (catN (fun i => txt (l i)) j).length + (txt (l j)).length ≤ (catN (fun i => txt (l i)) ln).length := catN_le hlt
          obtain ⟨hbw, hx⟩ := HO.out
          have hk := hbw.block b hb
          replace g1 := (World.cell?_of_block (w := w) hk).trans g1
          replace g2 := (World.cell?_of_block (w := w) hk).trans g2
          replace g3 := (World.cell?_of_block (w := w) hk).trans g3
          replace g4 := (World.cell?_of_block (w := w) hk).trans g4
          replace g5 := (World.cell?_of_block (w := w) hk).trans g5
          have hv' := Below.rv hbw (Nat.le_of_eq HVB.out) hv
          obtain ⟨⟨xa1, xn1, xc1, rfl⟩, ⟨ya1, yn1, yc1, rfl⟩⟩ := hv.slices
          have hl2 := HL2.out
          have HX := Lib.hid (il j _ _ _ hv' (r5 j hlt) (hvl j hlt) (tb_up (hT.on hbw) (by have := hbw.size; have := HVB.out; omega)) (by omega))
          have e2 : (catN (fun i => txt (l i)) (j + 1)).length = (catN (fun i => txt (l i)) j).length + (txt (l j)).length := List.length_append
          have HM := Lib.hid (And.intro e2 (And.intro hbw hx))
          have j0 : (0 : Int) ≤ (j : Int) := by omega
          have j1 : (j : Int) < (ln : Int) := by omega
          generalize hC1 : (catN (fun i => txt (l i)) j).length = c1 at *
          generalize hC2 : (txt (l j)).length = c2 at *
          have m1 : c1 + c2 ≤ 1048576 := by omega
          clear il r5 hvl hL hv hv' hle hbw hx hk HO e2 hl2 hC1 hC2
          go_wp2_with fail
          refine HX.out.mono ?_
          rintro e w2 ⟨rfl, q2⟩
          have HN : Hid (Below vb w w2 ∧ obj w2 vb (.int .i64 3) (.int .i64 n) (.string s) (.slice (some ⟨b, o, none⟩) ln ca) (.slice ya yn yc)) := by
            obtain ⟨z1, z3, z4⟩ := HM.out
            exact ⟨z3.trans (q2.mono (by have := z3.size; have := HVB.out; omega)), z4.keep (q2.block _ z4.lt)⟩
          clear q2 HX g1 g2 g3 g4 g5 cl
          go_wp2
          go_roundw
          case rel => exact ⟨j + 1, by omega, by go_num, by rw [HM.out.1]; go_num, HN⟩
          case measure => simp [intOf]; omega
        · obtain rfl : j = ln := by omega
          have HP : Hid (Below vb w _) := HO.out.1
          clear HO
          generalize hC1 : (2 + (catN (fun i => txt (l i)) j).length) = c1 at *
          go_wp2
          go_ret
          exact ⟨by rw [EL.out]; rfl, by rw [HVB.out]; exact HP.out⟩
    · have hk4 : k = 4 := by clear hL hD il id; omega
      subst hk4
      obtain ⟨a', ca', ha, hD⟩ := hD
      obtain ⟨rfl, rfl, rfl⟩ : a' = ya ∧ dn = yn ∧ ca' = yc := by cases ha; exact ⟨rfl, rfl, rfl⟩
      clear ha
      have EL : Hid ((txt (.mk 4 n s ln l dn ky dv)).length = 2 + (catN (fun i => wtx (ky i) ++ txt (dv i)) dn).length) := by
        show _ = _
        have e : txt (.mk 4 n s ln l dn ky dv) = 100 :: (catN (fun i => wtx (ky i) ++ txt (dv i)) dn ++ [101]) := rfl
        rw [e]; simp; omega
      have HD : Hid ((∀ i, ZC (dv i)) ∧ (∀ i, i < dn → (dv i).rng) ∧ (∀ i, i < dn → VT (dv i)) ∧ (dn = 0 ∨ ∃ b o, a' = some ⟨b, o, none⟩ ∧ True ∧ b < w.heap.size ∧ ∀ i, i < dn → ∃ x' y', RV (fun _ => True) w (dv i) x' y' ∧ w.cell? ⟨b, o + i * 6, none⟩ = some (.string (ky i)) ∧ five w b (o + i * 6 + 1) (dv i) x' y')) := ⟨id, r6, fun i hi => (hvt.2.2 i hi).2, hD⟩
      have HL2 : Hid (2 + (catN (fun i => wtx (ky i) ++ txt (dv i)) dn).length ≤ 1048576) := by rw [← EL.out]; exact hlim
      have HB0 : Hid (Below w.heap.size w (w.alloc (Obj.cells #[.int .i64 4, .int .i64 n, .string s, .slice xa xn xc, .slice a' dn ca'] 60)) ∧ obj (w.alloc (Obj.cells #[.int .i64 4, .int .i64 n, .string s, .slice xa xn xc, .slice a' dn ca'] 60)) w.heap.size (.int .i64 4) (.int .i64 n) (.string s) (.slice xa xn xc) (.slice a' dn ca')) := ⟨b0, heap_new _ _⟩
      clear il id r5 r6 hvt hlim hL hD hk1 hk2 hk3 o3 o4 o5 o6 b0
      go_enter Tryd.func45, Tryd.ntmps45
      go_wp2
      generalize (w.alloc (Obj.cells #[.int .i64 4, .int .i64 n, .string s, .slice xa xn xc, .slice a' dn ca'] 60)) = w0 at *
      generalize hvb : w.heap.size = vb at *
      have HVB := Lib.hid hvb
      clear hvb
      go_loopw [5, 6] (fun c i wr => ∃ j : Nat, j ≤ dn ∧ i = .int .i64 j ∧ c = .int .i64 ((2 + (catN (fun i => wtx (ky i) ++ txt (dv i)) j).length : Nat) : Int) ∧ Hid (Below vb w wr ∧ obj wr vb (.int .i64 4) (.int .i64 n) (.string s) (.slice xa xn xc) (.slice a' dn ca'))) (fun _ i _ => dn - (intOf i).toNat)
      case atStart => exact ⟨0, Nat.zero_le _, rfl, rfl, HB0.out⟩
      case round =>
        clear HB0
        obtain ⟨j2, hj, rfl, rfl, HO⟩ := hrel
        by_cases hlt : j2 < dn
        · obtain ⟨il, r5, hvl, hL⟩ := HD.out
          rcases hL with h | ⟨b, o, rfl, _, hb, hL⟩
          · omega
          obtain ⟨x1, y1, hv, g0, g1, g2, g3, g4, g5⟩ := hL j2 hlt
          have hle : (catN (fun i => wtx (ky i) ++ txt (dv i)) j2).length + (wtx (ky j2) ++ txt (dv j2)).length ≤ (catN (fun i => wtx (ky i) ++ txt (dv i)) dn).length := catN_le (f := fun i => wtx (ky i) ++ txt (dv i)) hlt
          have hl2 : (wtx (ky j2) ++ txt (dv j2)).length = (wtx (ky j2)).length + (txt (dv j2)).length := List.length_append
          obtain ⟨hbw, hx⟩ := HO.out
          have hle2 := HL2.out
          obtain ⟨⟨xa1, xn1, xc1, rfl⟩, ⟨ya1, yn1, yc1, rfl⟩⟩ := hv.slices
          have hcell : ∀ wq, Below vb w wq → obj wq vb (.int .i64 4) (.int .i64 n) (.string s) (.slice xa xn xc) (.slice (some ⟨b, o, none⟩) dn ca') → wq.cell? ⟨vb, 4, none⟩ = some (.slice (some ⟨b, o, none⟩) dn ca') ∧ wq.cell? ⟨b, o + j2 * 6, none⟩ = some (.string (ky j2)) ∧ wq.cell? ⟨b, o + j2 * 6 + 1, none⟩ = some (.int .i64 (dv j2).k) ∧ wq.cell? ⟨b, o + j2 * 6 + 1 + 1, none⟩ = some (.int .i64 (dv j2).n) ∧ wq.cell? ⟨b, o + j2 * 6 + 1 + 2, none⟩ = some (.string (dv j2).s) ∧ wq.cell? ⟨b, o + j2 * 6 + 1 + 3, none⟩ = some (.slice xa1 xn1 xc1) ∧ wq.cell? ⟨b, o + j2 * 6 + 1 + 4, none⟩ = some (.slice ya1 yn1 yc1) := fun wq hq hxq => by
            have hk := hq.block b (HVB.out ▸ hb)
            exact ⟨hxq.cells.2.2.2.2, (World.cell?_of_block (w := w) hk).trans g0, (World.cell?_of_block (w := w) hk).trans g1, (World.cell?_of_block (w := w) hk).trans g2, (World.cell?_of_block (w := w) hk).trans g3, (World.cell?_of_block (w := w) hk).trans g4, (World.cell?_of_block (w := w) hk).trans g5⟩
          have hks : (ky j2).size ≤ 1048576 := by have := wtx_size (ky j2); omega
          have HC1 : Hid (∀ w', w'.heap = wr.heap → w'.os = wr.os → w'.tape = wr.tape → w'.output = wr.output → Calls Tryd.prog 46 #[.int .i64 (ky j2).size] w' fun e wq => e = .returned (.int .i64 (wtx (ky j2)).length) ∧ (wq.cell? ⟨vb, 4, none⟩ = some (.slice (some ⟨b, o, none⟩) dn ca') ∧ wq.cell? ⟨b, o + j2 * 6, none⟩ = some (.string (ky j2)) ∧ wq.cell? ⟨b, o + j2 * 6 + 1, none⟩ = some (.int .i64 (dv j2).k) ∧ wq.cell? ⟨b, o + j2 * 6 + 1 + 1, none⟩ = some (.int .i64 (dv j2).n) ∧ wq.cell? ⟨b, o + j2 * 6 + 1 + 2, none⟩ = some (.string (dv j2).s) ∧ wq.cell? ⟨b, o + j2 * 6 + 1 + 3, none⟩ = some (.slice xa1 xn1 xc1) ∧ wq.cell? ⟨b, o + j2 * 6 + 1 + 4, none⟩ = some (.slice ya1 yn1 yc1)) ∧
              Hid (Calls Tryd.prog 45 #[.agg #[.int .i64 (dv j2).k, .int .i64 (dv j2).n, .string (dv j2).s, .slice xa1 xn1 xc1, .slice ya1 yn1 yc1]] wq fun e wz => e = .returned (.int .i64 (txt (dv j2)).length) ∧ (wz.cell? ⟨vb, 4, none⟩ = some (.slice (some ⟨b, o, none⟩) dn ca') ∧ wz.cell? ⟨b, o + j2 * 6, none⟩ = some (.string (ky j2)) ∧ wz.cell? ⟨b, o + j2 * 6 + 1, none⟩ = some (.int .i64 (dv j2).k) ∧ wz.cell? ⟨b, o + j2 * 6 + 1 + 1, none⟩ = some (.int .i64 (dv j2).n) ∧ wz.cell? ⟨b, o + j2 * 6 + 1 + 2, none⟩ = some (.string (dv j2).s) ∧ wz.cell? ⟨b, o + j2 * 6 + 1 + 3, none⟩ = some (.slice xa1 xn1 xc1) ∧ wz.cell? ⟨b, o + j2 * 6 + 1 + 4, none⟩ = some (.slice ya1 yn1 yc1)) ∧ Hid (Below vb w wz ∧ obj wz vb (.int .i64 4) (.int .i64 n) (.string s) (.slice xa xn xc) (.slice (some ⟨b, o, none⟩) dn ca')))) := by
            intro w' hh h1 h2 h3
            have hbw' : Below wr.heap.size wr w' := ⟨h1, h2, h3, by rw [hh]; exact Nat.le_refl _, fun q _ => by rw [hh]⟩
            have hvw : vb ≤ wr.heap.size := by have := hbw.size; have := HVB.out; omega
            have hbq0 := hbw.trans (hbw'.mono hvw)
            refine (strSize46 (ky j2) w' (tb_up (hT.on hbq0) (by have := hbw'.size; omega)) hks).mono ?_
            rintro e wq ⟨rfl, hb2⟩
            have hbq := hbq0.trans (hb2.mono (by have := hbw'.size; omega))
            have hxq := (hx.keep (hbw'.block _ hx.lt)).keep (hb2.block _ (Nat.lt_of_lt_of_le hx.lt hbw'.size))
            refine ⟨rfl, hcell wq hbq hxq, ?_⟩
            refine Lib.hid ((il j2 _ _ wq (Below.rv hbq (Nat.le_of_eq HVB.out) hv) (r5 j2 hlt) (hvl j2 hlt) (tb_up (hT.on hbq) (by have := hbw'.size; have := hb2.size; omega)) (by omega)).mono ?_)
            rintro e wz ⟨rfl, hb3⟩
            have hbz := hbq.trans (hb3.mono (by have := hbw'.size; have := hb2.size; omega))
            have hxz := hxq.keep (hb3.block _ hxq.lt)
            exact ⟨rfl, hcell wz hbz hxz, hbz, hxz⟩
          have hcr := hcell _ hbw hx
          have e2 : (catN (fun i => wtx (ky i) ++ txt (dv i)) (j2 + 1)).length = (catN (fun i => wtx (ky i) ++ txt (dv i)) j2).length + ((wtx (ky j2)).length + (txt (dv j2)).length) := List.length_append.trans (by rw [hl2])
          have HM := Lib.hid e2
          generalize hC1 : (catN (fun i => wtx (ky i) ++ txt (dv i)) j2).length = c1 at *
          generalize hC2 : (wtx (ky j2)).length = c2 at *
          generalize hC3 : (txt (dv j2)).length = c3 at *
          have m1 : c1 + (c2 + c3) ≤ 1048574 := by omega
          have hksz := Lib.hid hks
          have j0 : (0 : Int) ≤ (j2 : Int) := by omega
          have j1 : (j2 : Int) < (dn : Int) := by omega
          obtain ⟨k0, k1, k2, k3, k4, k5, k6⟩ := hcr
          clear il r5 hvl hL hv hle hle2 hbw hx HO hcell hl2 g0 g1 g2 g3 g4 g5 e2 hC1 hC2 hC3
          go_wp2_with fail
          go_region_held3 (fun w' => w'.cell? ⟨vb, 4, none⟩ = some (.slice (some ⟨b, o, none⟩) dn ca') ∧ w'.cell? ⟨b, o + j2 * 6, none⟩ = some (.string (ky j2)) ∧ w'.cell? ⟨b, o + j2 * 6 + 1, none⟩ = some (.int .i64 (dv j2).k) ∧ w'.cell? ⟨b, o + j2 * 6 + 1 + 1, none⟩ = some (.int .i64 (dv j2).n) ∧ w'.cell? ⟨b, o + j2 * 6 + 1 + 2, none⟩ = some (.string (dv j2).s) ∧ w'.cell? ⟨b, o + j2 * 6 + 1 + 3, none⟩ = some (.slice xa1 xn1 xc1) ∧ w'.cell? ⟨b, o + j2 * 6 + 1 + 4, none⟩ = some (.slice ya1 yn1 yc1))
            (first | (with_reducible exact ⟨z0, z1, z2, z3, z4, z5, z6⟩) | (with_reducible exact ⟨q0, q1, q2, q3, q4, q5, q6⟩) | (exact ⟨k0, k1, k2, k3, k4, k5, k6⟩))
            (first | (go_at_call 46; refine (HC1.out wr.drew rfl rfl rfl rfl).mono ?_; rintro e wq ⟨rfl, ⟨q0, q1, q2, q3, q4, q5, q6⟩, HX⟩) | (go_at_call 45; refine HX.out.mono ?_; rintro e wz ⟨rfl, ⟨z0, z1, z2, z3, z4, z5, z6⟩, HN⟩))
          clear k0 k1 k2 k3 k4 k5 k6 q0 q1 q2 q3 q4 q5 q6 z0 z1 z2 z3 z4 z5 z6 HC1 HX
          go_wp2
          go_roundw
          case rel =>
            have ew1 : IntKind.i64.wrap (2 + (c1 : Int) + (c2 : Int)) = 2 + (c1 : Int) + (c2 : Int) := IntWalk.i64_in _ (by omega)
            have ew2 : IntKind.i64.wrap (2 + (c1 : Int) + (c2 : Int) + (c3 : Int)) = 2 + (c1 : Int) + (c2 : Int) + (c3 : Int) := IntWalk.i64_in _ (by omega)
            refine ⟨j2 + 1, by omega, by go_num, ?_, HN⟩
            rw [HM.out]
            congr 1
            rw [ew1, ew2]
            omega
          case measure => simp [intOf]; omega
        · obtain rfl : j2 = dn := by omega
          obtain ⟨_, _, _, _, cd⟩ := HO.out.2.cells
          have HP : Hid (Below vb w _) := HO.out.1
          clear HO
          generalize hC1 : (2 + (catN (fun i => wtx (ky i) ++ txt (dv i)) j2).length) = c1 at *
          go_wp2
          go_ret
          exact ⟨by rw [EL.out]; rfl, by rw [HVB.out]; exact HP.out⟩
end Go.Proofs.YtdlnnnlmlaploaaDoor
namespace Go.Proofs.YtdlnnnlmlaploaaDoor
open Go.RowKit Go.Deep
/-! ### The reference's walk: plain lists, and its frame -/
theorem txt_ge {k n : Int} {s : ByteArray} {ln : Nat} {l : Nat → T} {dn : Nat} {ky : Nat → ByteArray} {dv : Nat → T} (h : VT (.mk k n s ln l dn ky dv)) :
    1 + (catN (fun i => txt (l i)) ln).length + (catN (fun i => wtx (ky i) ++ txt (dv i)) dn).length ≤ (txt (.mk k n s ln l dn ky dv)).length := by
  obtain ⟨o1, o2, o3, o4, o5, o6⟩ : 1 ≤ k ∧ k ≤ 4 ∧ (k = 1 ∨ n = 0) ∧ (k = 2 ∨ s.toList = []) ∧ (k = 3 ∨ ln = 0) ∧ (k = 4 ∨ dn = 0) := of_decide_eq_true h.1
  by_cases hk1 : k = 1
  · obtain rfl : ln = 0 := by omega
    obtain rfl : dn = 0 := by omega
    have e : txt (.mk k n s 0 l 0 ky dv) = 105 :: (Lib.itoa n ++ [101]) := if_pos hk1
    rw [e]; simp [catN]
  by_cases hk2 : k = 2
  · obtain rfl : ln = 0 := by omega
    obtain rfl : dn = 0 := by omega
    have e : txt (.mk k n s 0 l 0 ky dv) = wtx s := (if_neg hk1).trans (if_pos hk2)
    have := wtx_size s
    rw [e]; simp [catN]; omega
  by_cases hk3 : k = 3
  · obtain rfl : dn = 0 := by omega
    have e : txt (.mk k n s ln l 0 ky dv) = 108 :: (catN (fun i => txt (l i)) ln ++ [101]) := (if_neg hk1).trans ((if_neg hk2).trans (if_pos hk3))
    rw [e]; simp [catN]; omega
  · obtain rfl : ln = 0 := by omega
    have e : txt (.mk k n s 0 l dn ky dv) = 100 :: (catN (fun i => wtx (ky i) ++ txt (dv i)) dn ++ [101]) := (if_neg hk1).trans ((if_neg hk2).trans (if_neg hk3))
    rw [e]; simp [catN]; omega
theorem kids_len {g : Nat → Nat → List Sp} {c : Nat → List UInt8} : ∀ {n : Nat}, (∀ i m, i < n → (g i m).length ≤ (c i).length) → (kids g n).length ≤ (catN c n).length
  | 0, _ => Nat.le_refl _
  | n + 1, h => by
    show (kids g n ++ g n _).length ≤ (catN c n ++ c n).length
    rw [List.length_append, List.length_append]
    have := kids_len (n := n) (fun i m hi => h i m (by omega))
    have := h n (kids g n).length (by omega)
    omega
theorem walk_len : ∀ (t : T) (here : Nat) (sp : Sp), VT t → (walkT t here sp).length ≤ (txt t).length := by
  intro t
  induction t with
  | no => intro _ _ _; exact Nat.le_refl _
  | mk k n s ln l dn ky dv il id =>
    intro here sp h
    have hg := txt_ge h
    unfold walkT
    rw [List.length_cons, List.length_append]
    have h1 := kids_len (g := fun i m => walkT (l i) (here + 1 + m) { fr := sp.fr + 1 + (catN (fun i => txt (l i)) i).length, dep := sp.dep + 1, up := here, nth := i }) (c := fun i => txt (l i)) (n := ln) (fun i m hi => il i _ _ (h.2.1 i hi))
    have h2 := kids_len (g := fun i m => walkT (dv i) (here + 1 + (kids (fun i m => walkT (l i) (here + 1 + m) { fr := sp.fr + 1 + (catN (fun i => txt (l i)) i).length, dep := sp.dep + 1, up := here, nth := i }) ln).length + m)
         { fr := sp.fr + 1 + (catN (fun i => txt (l i)) ln).length + (catN (fun i => wtx (ky i) ++ txt (dv i)) i).length + (wtx (ky i)).length, dep := sp.dep + 1, up := here, nth := i, key := ky i }) (c := fun i => wtx (ky i) ++ txt (dv i)) (n := dn) (fun i m hi => by
      have := id i (here + 1 + (kids (fun i m => walkT (l i) (here + 1 + m) { fr := sp.fr + 1 + (catN (fun i => txt (l i)) i).length, dep := sp.dep + 1, up := here, nth := i }) ln).length + m) { fr := sp.fr + 1 + (catN (fun i => txt (l i)) ln).length + (catN (fun i => wtx (ky i) ++ txt (dv i)) i).length + (wtx (ky i)).length, dep := sp.dep + 1, up := here, nth := i, key := ky i } (h.2.2 i hi).2
      rw [List.length_append]
      omega)
    omega
/-- a row has grown: nothing else that was there has changed -/
structure NR (lv lv' : Value) (w w' : World) : Prop where
  os : w'.os = w.os
  tape : w'.tape = w.tape
  output : w'.output = w.output
  size : w.heap.size ≤ w'.heap.size
  block : ∀ k, k < w.heap.size → lv.ownBlock ≠ some k → w'.heap[k]? = w.heap[k]?
  own : lv'.ownBlock = lv.ownBlock ∨ ∃ g, lv'.ownBlock = some g ∧ w.heap.size ≤ g
theorem NR.refl (lv : Value) (w : World) : NR lv lv w w := ⟨rfl, rfl, rfl, Nat.le_refl _, fun _ _ _ => rfl, .inl rfl⟩
theorem NR.trans {lv lv1 lv2 : Value} {w w1 w2 : World} (h : NR lv lv1 w w1) (g : NR lv1 lv2 w1 w2) : NR lv lv2 w w2 where
  os := g.os.trans h.os
  tape := g.tape.trans h.tape
  output := g.output.trans h.output
  size := Nat.le_trans h.size g.size
  block := fun k hk hn => (g.block k (Nat.lt_of_lt_of_le hk h.size) (fun e => by
    rcases h.own with e1 | ⟨x, e1, hx⟩
    · exact hn (e1 ▸ e)
    · rw [e1] at e; injection e with e; omega)).trans (h.block k hk hn)
  own := by
    have hs := h.size
    rcases g.own with e | ⟨x, e, hx⟩
    · rw [e]; exact h.own
    · exact .inr ⟨x, e, by omega⟩
theorem NR.of_below {lv : Value} {w w' : World} (h : Below w.heap.size w w') : NR lv lv w w' := ⟨h.os, h.tape, h.output, h.size, fun k hk _ => h.block k hk, .inl rfl⟩
theorem NR.below {B k : Nat} {us : List Value} {lv lv' : Value} {w w' : World} (h : NR lv lv' w w') (ho : w.ownsRow B 45 7 lv k us) (hB : B ≤ w.heap.size) : Below B w w' :=
  ⟨h.os, h.tape, h.output, h.size, fun x hx => h.block x (by omega) (fun e => by have := (own_lt ho e).1; omega)⟩
/-- a span's cells -/
abbrev Sp.cs (s : Sp) : Array Value := #[.int .i64 s.kind, .int .i64 s.fr, .int .i64 s.to, .int .i64 s.dep, .int .i64 s.up, .int .i64 s.nth, .string s.key]
def KC (t : T) : Prop := ∀ (x y : Value) (w : World) (B here : Nat) (lv : Value) (us : List Value) (sp : Sp), RV (fun k => k < B) w t x y → t.rng → VT t → TB B w → sp.fr + (txt t).length ≤ 1048576 → sp.dep + (txt t).length ≤ 1048577 → here + (txt t).length ≤ 1048577 → w.ownsRow B 45 7 lv here us → B ≤ w.heap.size →
  Calls Tryd.prog 29 #[lv, vv t x y, .agg (Sp.cs sp)] w fun e w' => ∃ lv', e = .returned lv' ∧ w'.ownsRow B 45 7 lv' (here + (walkT t here sp).length) (us ++ spW ((walkT t here sp).map Sp.v)) ∧ NR lv lv' w w'
end Go.Proofs.YtdlnnnlmlaploaaDoor
