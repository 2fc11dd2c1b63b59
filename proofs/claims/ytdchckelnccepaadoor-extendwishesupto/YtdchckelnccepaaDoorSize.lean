import Derived.Test.YtdchckelnccepaaDoorZA
namespace Go.Proofs.YtdchckelnccepaaDoor
open Go.RowKit Go.Deep
/-- the size, or something beyond the bound -/
def SZ (m len : Nat) : Prop := m ≤ len ∧ (m = len ∨ 1048576 < m)
def SC16 (t : T) : Prop := ∀ (x y : Value) (w : World), RV (fun _ => True) w t x y → t.ok → t.rng → VT t → TB w.heap.size w → (txt t).length ≤ 80000000000000 →
  Calls Tryd.prog 29 #[vv t x y] w fun e w' => ∃ m : Nat, e = .returned (.int .i64 m) ∧ SZ m (txt t).length ∧ Below w.heap.size w w'
set_option maxRecDepth 10000 in
set_option maxHeartbeats 4000000 in
theorem size16 (t : T) : SC16 t := by
  induction t with
  | no => intro x y w h; exact h.elim
  | mk k n s ln l dn ky dv il id =>
    intro x y w hr hok hrng hvt hT hlim
    obtain ⟨⟨xa, xn, xc, rfl⟩, ⟨ya, yn, yc, rfl⟩⟩ := hr.slices
    obtain ⟨r1, r2, r3, r4, r5, r6⟩ := hrng
    obtain ⟨ok1, ok2, ok3, ok4, ok5⟩ := hok
    by_cases hk1 : k = 1
    · subst hk1
      have e : txt (.mk 1 n s ln l dn ky dv) = 105 :: (Lib.itoa n ++ [101]) := rfl
      have hlen := Lib.itoa_length_le n r1 r2
      have hz : (({ data := (Lib.itoa n).toArray } : ByteArray)).size = (Lib.itoa n).length := List.size_toArray
      rw [e]
      clear hr il id r5 r6 ok4 ok5 e hlim hvt
      show Calls Tryd.prog 29 #[.agg #[.int .i64 1, .int .i64 n, .string s, .slice xa xn xc, .slice ya yn yc]] w _
      go_enter Tryd.func29, Tryd.ntmps29
      go_wp2_with fail
      refine (itoa25 n r1 r2 _ (tb_up (hT.on ((Below.refl _ _).alloc (Nat.le_refl _) _)) (by simp))).mono ?_
      rintro e w2 ⟨rfl, hb2⟩
      go_wp2
      go_ret
      exact ⟨(Lib.itoa n).length + 2, by show Ending.returned (Value.int .i64 (2 + ((Lib.itoa n).length : Int))) = _; congr 2; omega, by simp [SZ], ((Below.refl _ _).alloc (Nat.le_refl _) _).trans (hb2.mono (by simp))⟩
    by_cases hk2 : k = 2
    · subst hk2
      have e : txt (.mk 2 n s ln l dn ky dv) = wtx s := rfl
      rw [e]
      clear hr il id r5 r6 ok4 ok5 e hlim hvt
      show Calls Tryd.prog 29 #[.agg #[.int .i64 2, .int .i64 n, .string s, .slice xa xn xc, .slice ya yn yc]] w _
      go_enter Tryd.func29, Tryd.ntmps29
      go_wp2_with fail
      refine (wordSize26 s _ (tb_up (hT.on ((Below.refl _ _).alloc (Nat.le_refl _) _)) (by simp)) ok1).mono ?_
      rintro e w2 ⟨rfl, hb2⟩
      go_wp2
      go_ret
      exact ⟨(wtx s).length, rfl, ⟨Nat.le_refl _, .inl rfl⟩, ((Below.refl _ _).alloc (Nat.le_refl _) _).trans (hb2.mono (by simp))⟩
    have hk1' : (k == 1) = false := by simpa using hk1
    have hk2' : (k == 2) = false := by simpa using hk2
    show Calls Tryd.prog 29 #[.agg #[.int .i64 k, .int .i64 n, .string s, .slice xa xn xc, .slice ya yn yc]] w _
    have HLN : Hid ((txt (.mk k n s ln l dn ky dv)).length = 2 + (catN (fun i => txt (l i)) ln).length + (catN (fun i => wtx (ky i) ++ txt (dv i)) dn).length) := by
      refine Lib.hid ?_
      obtain ⟨o1, o2, o3, o4, o5, o6⟩ : 1 ≤ k ∧ k ≤ 4 ∧ (k = 1 ∨ n = 0) ∧ (k = 2 ∨ s.toList = []) ∧ (k = 3 ∨ ln = 0) ∧ (k = 4 ∨ dn = 0) := of_decide_eq_true hvt.1
      by_cases hk3 : k = 3
      · obtain rfl : dn = 0 := by omega
        have e : txt (.mk k n s ln l 0 ky dv) = 108 :: (catN (fun i => txt (l i)) ln ++ [101]) := (if_neg hk1).trans ((if_neg hk2).trans (if_pos hk3))
        rw [e]; simp [catN]; omega
      · obtain rfl : ln = 0 := by omega
        have e : txt (.mk k n s 0 l dn ky dv) = 100 :: (catN (fun i => wtx (ky i) ++ txt (dv i)) dn ++ [101]) := (if_neg hk1).trans ((if_neg hk2).trans (if_neg hk3))
        rw [e]; simp [catN]; omega
    obtain ⟨hL, hD⟩ := hr
    obtain ⟨a, ca, ha, hL⟩ := hL
    obtain ⟨rfl, rfl, rfl⟩ : a = xa ∧ ln = xn ∧ ca = xc := by cases ha; exact ⟨rfl, rfl, rfl⟩
    clear ha
    obtain ⟨a', ca', ha, hD⟩ := hD
    obtain ⟨rfl, rfl, rfl⟩ : a' = ya ∧ dn = yn ∧ ca' = yc := by cases ha; exact ⟨rfl, rfl, rfl⟩
    clear ha
    have HC : Hid ((∀ i, SC16 (l i)) ∧ (∀ i, i < ln → (l i).ok) ∧ (∀ i, i < ln → (l i).rng) ∧ (∀ i, i < ln → VT (l i)) ∧ (ln = 0 ∨ ∃ b o, a = some ⟨b, o, none⟩ ∧ True ∧ b < w.heap.size ∧ ∀ i, i < ln → ∃ x' y', RV (fun _ => True) w (l i) x' y' ∧ five w b (o + i * 5) (l i) x' y')) := ⟨il, ok4, r5, hvt.2.1, hL⟩
    have HD : Hid ((∀ i, SC16 (dv i)) ∧ (∀ i, i < dn → (ky i).size ≤ 140737488351232 ∧ (dv i).ok) ∧ (∀ i, i < dn → (dv i).rng) ∧ (∀ i, i < dn → VT (dv i)) ∧ (dn = 0 ∨ ∃ b o, a' = some ⟨b, o, none⟩ ∧ True ∧ b < w.heap.size ∧ ∀ i, i < dn → ∃ x' y', RV (fun _ => True) w (dv i) x' y' ∧ w.cell? ⟨b, o + i * 6, none⟩ = some (.string (ky i)) ∧ five w b (o + i * 6 + 1) (dv i) x' y')) := ⟨id, ok5, r6, fun i hi => (hvt.2.2 i hi).2, hD⟩
    have hlim2 : 2 + (catN (fun i => txt (l i)) ln).length + (catN (fun i => wtx (ky i) ++ txt (dv i)) dn).length ≤ 80000000000000 := HLN.out ▸ hlim
    have HL2 := Lib.hid hlim2
    clear il id ok4 ok5 r5 r6 hvt hlim hL hD hlim2 hk1 hk2
    go_enter Tryd.func29, Tryd.ntmps29
    go_wp2
    have HB0 : Hid (Below w.heap.size w (w.alloc (Obj.cells #[.int .i64 k, .int .i64 n, .string s, .slice a ln ca, .slice a' dn ca'] 41)) ∧ obj (w.alloc (Obj.cells #[.int .i64 k, .int .i64 n, .string s, .slice a ln ca, .slice a' dn ca'] 41)) w.heap.size (.int .i64 k) (.int .i64 n) (.string s) (.slice a ln ca) (.slice a' dn ca')) := ⟨(Below.refl _ _).alloc (Nat.le_refl _) _, heap_new _ _⟩
    generalize (w.alloc (Obj.cells #[.int .i64 k, .int .i64 n, .string s, .slice a ln ca, .slice a' dn ca'] 41)) = w0 at *
    generalize hvb : w.heap.size = vb at *
    have HVB := Lib.hid hvb
    clear hvb
    go_loopw [3, 4] (fun c i wr => ∃ (j m : Nat), j ≤ ln ∧ i = .int .i64 j ∧ c = .int .i64 m ∧ Hid (SZ m (2 + (catN (fun i => txt (l i)) j).length) ∧ Below vb w wr ∧ obj wr vb (.int .i64 k) (.int .i64 n) (.string s) (.slice a ln ca) (.slice a' dn ca'))) (fun _ i _ => ln - (intOf i).toNat)
    case atStart => exact ⟨0, 2, Nat.zero_le _, rfl, rfl, ⟨Nat.le_refl _, .inl rfl⟩, HB0.out⟩
    case round =>
      clear HB0
      obtain ⟨j, m, hj, rfl, rfl, HO⟩ := hrel
      obtain ⟨_, _, _, cl, cd⟩ := HO.out.2.2.cells
      by_cases hlt : j < ln ∧ m ≤ 1048576
      · obtain ⟨hlt, hm⟩ := hlt
        obtain ⟨il, ok4, r5, hvl, hL⟩ := HC.out
        rcases hL with h | ⟨b, o, rfl, _, hb, hL⟩
        · omega
        obtain ⟨x1, y1, hv, g1, g2, g3, g4, g5⟩ := hL j hlt
        have hle : (catN (fun i => txt (l i)) j).length + (txt (l j)).length ≤ (catN (fun i => txt (l i)) ln).length := catN_le hlt
        obtain ⟨hsz, hbw, hx⟩ := HO.out
        have hk := hbw.block b hb
        replace g1 := (World.cell?_of_block (w := w) hk).trans g1
        replace g2 := (World.cell?_of_block (w := w) hk).trans g2
        replace g3 := (World.cell?_of_block (w := w) hk).trans g3
        replace g4 := (World.cell?_of_block (w := w) hk).trans g4
        replace g5 := (World.cell?_of_block (w := w) hk).trans g5
        have hv' := Below.rv hbw (Nat.le_of_eq HVB.out) hv
        obtain ⟨⟨xa1, xn1, xc1, rfl⟩, ⟨ya1, yn1, yc1, rfl⟩⟩ := hv.slices
        have hlj : (txt (l j)).length ≤ 80000000000000 := by have := HL2.out; omega
        have HX := Lib.hid (il j _ _ _ hv' (ok4 j hlt) (r5 j hlt) (hvl j hlt) (tb_up (hT.on hbw) (by have := hbw.size; have := HVB.out; omega)) hlj)
        have hm2 : m = 2 + (catN (fun i => txt (l i)) j).length := by rcases hsz.2 with h | h <;> omega
        have HM := Lib.hid (And.intro hm2 (And.intro hlj (And.intro hbw hx)))
        have j0 : (0 : Int) ≤ (j : Int) := by omega
        have j1 : (j : Int) < (ln : Int) := by omega
        have m1 : (m : Int) ≤ 1048576 := by omega
        clear il ok4 r5 hvl hL hv hv' hle hbw hx hk HO hm2 hsz
        go_wp2_with fail
        refine HX.out.mono ?_
        rintro e w2 ⟨m2, rfl, q1, q2⟩
        have hq := q1.1
        have HN : Hid (SZ (m + m2) (2 + (catN (fun i => txt (l i)) (j + 1)).length) ∧ Below vb w w2 ∧ obj w2 vb (.int .i64 k) (.int .i64 n) (.string s) (.slice (some ⟨b, o, none⟩) ln ca) (.slice a' dn ca')) := by
          obtain ⟨z1, z2, z3, z4⟩ := HM.out
          have e2 : (catN (fun i => txt (l i)) (j + 1)).length = (catN (fun i => txt (l i)) j).length + (txt (l j)).length := List.length_append
          refine ⟨⟨by rw [e2]; omega, ?_⟩, z3.trans (q2.mono (by have := z3.size; have := HVB.out; omega)), z4.keep (q2.block _ z4.lt)⟩
          rcases q1.2 with h | h
          · exact .inl (by rw [e2]; omega)
          · exact .inr (by omega)
        have hm3 : (m2 : Int) ≤ 80000000000000 := by have := HM.out.2.1; omega
        clear HM q1 q2 HX g1 g2 g3 g4 g5 cl cd
        go_wp2
        go_roundw
        case rel => exact ⟨j + 1, m + m2, by omega, by go_num, by go_num, HN⟩
        case measure => simp [intOf]; omega
      · have HE : Hid (SZ m (2 + (catN (fun i => txt (l i)) ln).length)) := by
          obtain ⟨h1, h2⟩ := HO.out.1
          by_cases e : j = ln
          · subst e; exact ⟨h1, h2⟩
          · have hle : (catN (fun i => txt (l i)) j).length + (txt (l j)).length ≤ (catN (fun i => txt (l i)) ln).length := catN_le (show j < ln by omega)
            exact ⟨by omega, .inr (by omega)⟩
        have HP : Hid (Below vb w _ ∧ obj _ vb (.int .i64 k) (.int .i64 n) (.string s) (.slice a ln ca) (.slice a' dn ca')) := HO.out.2
        have HG : Hid (((j : Int) < (ln : Int) ∧ ¬ ((m : Int) ≤ 1048576)) ∨ ¬ ((j : Int) < (ln : Int))) := by
          refine Lib.hid ?_
          by_cases h : j < ln
          · exact .inl ⟨by omega, by omega⟩
          · exact .inr (by omega)
        clear HO hlt
        rcases HG.out with ⟨g1, g2⟩ | g1
        all_goals
          clear HG
          go_wp2
          clear cl
          go_loopw [3, 5] (fun c i wr => ∃ (j m : Nat), j ≤ dn ∧ i = .int .i64 j ∧ c = .int .i64 m ∧ Hid (SZ m (2 + (catN (fun i => txt (l i)) ln).length + (catN (fun i => wtx (ky i) ++ txt (dv i)) j).length) ∧ Below vb w wr ∧ obj wr vb (.int .i64 k) (.int .i64 n) (.string s) (.slice a ln ca) (.slice a' dn ca'))) (fun _ i _ => dn - (intOf i).toNat)
          case atStart => exact ⟨0, m, Nat.zero_le _, rfl, rfl, by simpa [catN] using HE.out, HP.out⟩
          case round =>
            clear HP HE cd
            obtain ⟨j2, m2, hj2, rfl, rfl, HO⟩ := hrel
            obtain ⟨_, _, _, _, cd⟩ := HO.out.2.2.cells
            by_cases hlt : j2 < dn ∧ m2 ≤ 1048576
            · obtain ⟨hlt, hm⟩ := hlt
              obtain ⟨il, ok4, r5, hvl, hL⟩ := HD.out
              rcases hL with h | ⟨b, o, rfl, _, hb, hL⟩
              · omega
              obtain ⟨x1, y1, hv, g0, g1, g2, g3, g4, g5⟩ := hL j2 hlt
              have hle : (catN (fun i => wtx (ky i) ++ txt (dv i)) j2).length + (wtx (ky j2) ++ txt (dv j2)).length ≤ (catN (fun i => wtx (ky i) ++ txt (dv i)) dn).length := catN_le (f := fun i => wtx (ky i) ++ txt (dv i)) hlt
              have hl2 : (wtx (ky j2) ++ txt (dv j2)).length = (wtx (ky j2)).length + (txt (dv j2)).length := List.length_append
              obtain ⟨hsz, hbw, hx⟩ := HO.out
              have hle2 := HL2.out
              obtain ⟨⟨xa1, xn1, xc1, rfl⟩, ⟨ya1, yn1, yc1, rfl⟩⟩ := hv.slices
              have hm2 : m2 = 2 + (catN (fun i => txt (l i)) ln).length + (catN (fun i => wtx (ky i) ++ txt (dv i)) j2).length := by rcases hsz.2 with h | h <;> omega
              have hcell : ∀ wq, Below vb w wq → obj wq vb (.int .i64 k) (.int .i64 n) (.string s) (.slice a ln ca) (.slice (some ⟨b, o, none⟩) dn ca') → wq.cell? ⟨vb, 4, none⟩ = some (.slice (some ⟨b, o, none⟩) dn ca') ∧ wq.cell? ⟨b, o + j2 * 6, none⟩ = some (.string (ky j2)) ∧ wq.cell? ⟨b, o + j2 * 6 + 1, none⟩ = some (.int .i64 (dv j2).k) ∧ wq.cell? ⟨b, o + j2 * 6 + 1 + 1, none⟩ = some (.int .i64 (dv j2).n) ∧ wq.cell? ⟨b, o + j2 * 6 + 1 + 2, none⟩ = some (.string (dv j2).s) ∧ wq.cell? ⟨b, o + j2 * 6 + 1 + 3, none⟩ = some (.slice xa1 xn1 xc1) ∧ wq.cell? ⟨b, o + j2 * 6 + 1 + 4, none⟩ = some (.slice ya1 yn1 yc1) := fun wq hq hxq => by
                have hk := hq.block b (HVB.out ▸ hb)
                exact ⟨hxq.cells.2.2.2.2, (World.cell?_of_block (w := w) hk).trans g0, (World.cell?_of_block (w := w) hk).trans g1, (World.cell?_of_block (w := w) hk).trans g2, (World.cell?_of_block (w := w) hk).trans g3, (World.cell?_of_block (w := w) hk).trans g4, (World.cell?_of_block (w := w) hk).trans g5⟩
              have HC1 : Hid (∀ w', w'.heap = wr.heap → w'.os = wr.os → w'.tape = wr.tape → w'.output = wr.output → Calls Tryd.prog 46 #[.string (ky j2)] w' fun e wq => e = .returned (.int .i64 (wtx (ky j2)).length) ∧ (wq.cell? ⟨vb, 4, none⟩ = some (.slice (some ⟨b, o, none⟩) dn ca') ∧ wq.cell? ⟨b, o + j2 * 6, none⟩ = some (.string (ky j2)) ∧ wq.cell? ⟨b, o + j2 * 6 + 1, none⟩ = some (.int .i64 (dv j2).k) ∧ wq.cell? ⟨b, o + j2 * 6 + 1 + 1, none⟩ = some (.int .i64 (dv j2).n) ∧ wq.cell? ⟨b, o + j2 * 6 + 1 + 2, none⟩ = some (.string (dv j2).s) ∧ wq.cell? ⟨b, o + j2 * 6 + 1 + 3, none⟩ = some (.slice xa1 xn1 xc1) ∧ wq.cell? ⟨b, o + j2 * 6 + 1 + 4, none⟩ = some (.slice ya1 yn1 yc1)) ∧
                  Hid (Calls Tryd.prog 29 #[.agg #[.int .i64 (dv j2).k, .int .i64 (dv j2).n, .string (dv j2).s, .slice xa1 xn1 xc1, .slice ya1 yn1 yc1]] wq fun e wz => ∃ m3 : Nat, e = .returned (.int .i64 m3) ∧ (wz.cell? ⟨vb, 4, none⟩ = some (.slice (some ⟨b, o, none⟩) dn ca') ∧ wz.cell? ⟨b, o + j2 * 6, none⟩ = some (.string (ky j2)) ∧ wz.cell? ⟨b, o + j2 * 6 + 1, none⟩ = some (.int .i64 (dv j2).k) ∧ wz.cell? ⟨b, o + j2 * 6 + 1 + 1, none⟩ = some (.int .i64 (dv j2).n) ∧ wz.cell? ⟨b, o + j2 * 6 + 1 + 2, none⟩ = some (.string (dv j2).s) ∧ wz.cell? ⟨b, o + j2 * 6 + 1 + 3, none⟩ = some (.slice xa1 xn1 xc1) ∧ wz.cell? ⟨b, o + j2 * 6 + 1 + 4, none⟩ = some (.slice ya1 yn1 yc1)) ∧ (m3 : Int) ≤ 80000000000000 ∧ Hid (SZ (m2 + ((wtx (ky j2)).length + m3)) (2 + (catN (fun i => txt (l i)) ln).length + (catN (fun i => wtx (ky i) ++ txt (dv i)) (j2 + 1)).length) ∧ Below vb w wz ∧ obj wz vb (.int .i64 k) (.int .i64 n) (.string s) (.slice a ln ca) (.slice (some ⟨b, o, none⟩) dn ca')))) := by
                intro w' hh h1 h2 h3
                have hbw' : Below wr.heap.size wr w' := ⟨h1, h2, h3, by rw [hh]; exact Nat.le_refl _, fun q _ => by rw [hh]⟩
                have hvw : vb ≤ wr.heap.size := by have := hbw.size; have := HVB.out; omega
                have hbq0 := hbw.trans (hbw'.mono hvw)
                refine (wordSize26 (ky j2) w' (tb_up (hT.on hbq0) (by have := hbw'.size; omega)) (ok4 j2 hlt).1).mono ?_
                rintro e wq ⟨rfl, hb2⟩
                have hbq := hbq0.trans (hb2.mono (by have := hbw'.size; omega))
                have hxq := (hx.keep (hbw'.block _ hx.lt)).keep (hb2.block _ (Nat.lt_of_lt_of_le hx.lt hbw'.size))
                refine ⟨rfl, hcell wq hbq hxq, ?_⟩
                refine Lib.hid ((il j2 _ _ wq (Below.rv hbq (Nat.le_of_eq HVB.out) hv) (ok4 j2 hlt).2 (r5 j2 hlt) (hvl j2 hlt) (tb_up (hT.on hbq) (by have := hbw'.size; have := hb2.size; omega)) (by omega)).mono ?_)
                rintro e wz ⟨m3, rfl, hs3, hb3⟩
                have hbz := hbq.trans (hb3.mono (by have := hbw'.size; have := hb2.size; omega))
                have hxz := hxq.keep (hb3.block _ hxq.lt)
                have e2 : (catN (fun i => wtx (ky i) ++ txt (dv i)) (j2 + 1)).length = (catN (fun i => wtx (ky i) ++ txt (dv i)) j2).length + ((wtx (ky j2)).length + (txt (dv j2)).length) := List.length_append.trans (by rw [hl2])
                have hs31 := hs3.1
                refine ⟨m3, rfl, hcell wz hbz hxz, by omega, ⟨by rw [e2]; omega, ?_⟩, hbz, hxz⟩
                rcases hs3.2 with h | h
                · exact .inl (by rw [e2]; omega)
                · exact .inr (by omega)
              have hcr := hcell _ hbw hx
              have hwl : ((wtx (ky j2)).length : Int) ≤ 80000000000000 := by omega
              have j0 : (0 : Int) ≤ (j2 : Int) := by omega
              have j1 : (j2 : Int) < (dn : Int) := by omega
              have m1 : (m2 : Int) ≤ 1048576 := by omega
              obtain ⟨k0, k1, k2, k3, k4, k5, k6⟩ := hcr
              clear il ok4 r5 hvl hL hv hle hle2 hbw hx HO hm2 hsz hcell hl2 g0 g1 g2 g3 g4 g5 cd
              go_wp2_with fail
              go_region_held3 (fun w' => w'.cell? ⟨vb, 4, none⟩ = some (.slice (some ⟨b, o, none⟩) dn ca') ∧ w'.cell? ⟨b, o + j2 * 6, none⟩ = some (.string (ky j2)) ∧ w'.cell? ⟨b, o + j2 * 6 + 1, none⟩ = some (.int .i64 (dv j2).k) ∧ w'.cell? ⟨b, o + j2 * 6 + 1 + 1, none⟩ = some (.int .i64 (dv j2).n) ∧ w'.cell? ⟨b, o + j2 * 6 + 1 + 2, none⟩ = some (.string (dv j2).s) ∧ w'.cell? ⟨b, o + j2 * 6 + 1 + 3, none⟩ = some (.slice xa1 xn1 xc1) ∧ w'.cell? ⟨b, o + j2 * 6 + 1 + 4, none⟩ = some (.slice ya1 yn1 yc1))
                (first | (with_reducible exact ⟨z0, z1, z2, z3, z4, z5, z6⟩) | (with_reducible exact ⟨q0, q1, q2, q3, q4, q5, q6⟩) | (exact ⟨k0, k1, k2, k3, k4, k5, k6⟩))
                (first | (go_at_call 46; refine (HC1.out wr.drew rfl rfl rfl rfl).mono ?_; rintro e wq ⟨rfl, ⟨q0, q1, q2, q3, q4, q5, q6⟩, HX⟩) | (go_at_call 29; refine HX.out.mono ?_; rintro e wz ⟨m3, rfl, ⟨z0, z1, z2, z3, z4, z5, z6⟩, hm3, HN⟩))
              clear k0 k1 k2 k3 k4 k5 k6 q0 q1 q2 q3 q4 q5 q6 z0 z1 z2 z3 z4 z5 z6 HC1 HX
              go_wp2
              go_roundw
              case rel =>
                have ew1 : IntKind.i64.wrap (((wtx (ky j2)).length : Int) + (m3 : Int)) = ((wtx (ky j2)).length : Int) + (m3 : Int) := IntWalk.i64_in _ (by omega)
                have ew2 : IntKind.i64.wrap ((m2 : Int) + (((wtx (ky j2)).length : Int) + (m3 : Int))) = (m2 : Int) + (((wtx (ky j2)).length : Int) + (m3 : Int)) := IntWalk.i64_in _ (by omega)
                exact ⟨j2 + 1, m2 + ((wtx (ky j2)).length + m3), by omega, by go_num, by first | (rw [ew1, ew2]; congr 1) | (congr 1; rw [ew1, ew2]; omega) | go_num, HN⟩
              case measure => simp [intOf]; omega
            · have HE : Hid (SZ m2 (2 + (catN (fun i => txt (l i)) ln).length + (catN (fun i => wtx (ky i) ++ txt (dv i)) dn).length)) := by
                obtain ⟨h1, h2⟩ := HO.out.1
                by_cases e : j2 = dn
                · subst e; exact ⟨h1, h2⟩
                · have hle : (catN (fun i => wtx (ky i) ++ txt (dv i)) j2).length + (wtx (ky j2) ++ txt (dv j2)).length ≤ (catN (fun i => wtx (ky i) ++ txt (dv i)) dn).length := catN_le (f := fun i => wtx (ky i) ++ txt (dv i)) (show j2 < dn by omega)
                  exact ⟨by omega, .inr (by omega)⟩
              have HP : Hid (Below vb w wr) := HO.out.2.1
              have HG : Hid (((j2 : Int) < (dn : Int) ∧ ¬ ((m2 : Int) ≤ 1048576)) ∨ ¬ ((j2 : Int) < (dn : Int))) := by
                refine Lib.hid ?_
                by_cases h : j2 < dn
                · exact .inl ⟨by omega, by omega⟩
                · exact .inr (by omega)
              clear HO hlt
              rcases HG.out with ⟨g1, g2⟩ | g1
              all_goals
                clear HG
                go_wp2
                go_ret
                exact ⟨m2, rfl, by rw [HLN.out]; exact HE.out, by rw [HVB.out]; exact HP.out⟩
end Go.Proofs.YtdchckelnccepaaDoor
