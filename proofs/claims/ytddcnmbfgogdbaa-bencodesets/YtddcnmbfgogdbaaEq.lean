import Derived.Test.YtddcnmbfgogdbaaEqRef
namespace Go.Proofs.Ytddcnmbfgogdbaa
open Go.RowKit Go.Deep
set_option maxHeartbeats 4000000 in
theorem eqf19 (ln ln' : Nat) (l l' : Nat → T) (x x2 : Value) (w : World) (ih : ∀ i t2, EC 9 (l i) t2) (ok2 : ln ≤ 140737488351232) (ok2' : ln' ≤ 140737488351232) (ok4 : ∀ i, i < ln → (l i).ok) (ok4' : ∀ i, i < ln' → (l' i).ok)
    (hL : RL (fun _ => True) w ln l x) (hL2 : RL (fun _ => True) w ln' l' x2) :
    Calls Try.prog 19 #[x, x2, .func (Fn.func 9) #[] #[]] w fun e w' => e = .returned (.bool (decide (ln = ln') && allB (fun i => eqT (l i) (l' i)) ln)) ∧ Below w.heap.size w w' := by
  obtain ⟨a, ca, rfl, hL⟩ := hL
  obtain ⟨a2, ca2, rfl, hL2⟩ := hL2
  generalize hRR : (decide (ln = ln') && allB (fun i => eqT (l i) (l' i)) ln) = R
  by_cases hln : ln = ln'
  case neg =>
    have hR : R = false := by rw [← hRR, decide_eq_false hln, Bool.false_and]
    clear hRR ih ok4 ok4' hL hL2
    subst hR
    have hln' : ((ln : Int) != (ln' : Int)) = true := by simp; omega
    go_enter Try.func19, Try.ntmps19
    go_wp2
    go_ret
    exact ⟨rfl, Below.refl _ _⟩
  case pos =>
    subst hln
    have HR2 : Hid (R = allB (fun i => eqT (l i) (l' i)) ln) := by
      show R = _
      rw [← hRR, decide_eq_true rfl, Bool.true_and]
    clear hRR
    have HI : Hid ((∀ i t2, EC 9 (l i) t2) ∧ (∀ i, i < ln → (l i).ok ∧ (l' i).ok) ∧
        (ln = 0 ∨ ∃ b o, a = some ⟨b, o, none⟩ ∧ True ∧ b < w.heap.size ∧ ∀ i, i < ln → ∃ x' y', RV (fun _ => True) w (l i) x' y' ∧ five w b (o + i * 5) (l i) x' y') ∧
        (ln = 0 ∨ ∃ b o, a2 = some ⟨b, o, none⟩ ∧ True ∧ b < w.heap.size ∧ ∀ i, i < ln → ∃ x' y', RV (fun _ => True) w (l' i) x' y' ∧ five w b (o + i * 5) (l' i) x' y')) := ⟨ih, fun i hi => ⟨ok4 i hi, ok4' i hi⟩, hL, hL2⟩
    clear ih ok4 ok4' hL hL2
    go_enter Try.func19, Try.ntmps19
    go_wp2
    go_loopw [17] (fun i wr => ∃ j : Nat, j ≤ ln ∧ i = .int .i64 j ∧ Hid (Below w.heap.size w wr) ∧ Hid (allB (fun i => eqT (l i) (l' i)) j = true)) (fun i _ => ln - (intOf i).toNat)
    case atStart => exact ⟨0, Nat.zero_le _, rfl, Below.refl _ _, rfl⟩
    case round =>
      obtain ⟨j, hj, rfl, hw, hz⟩ := hrel
      by_cases hlt : j < ln
      · obtain ⟨il, ok4, hL, hL2⟩ := HI.out
        rcases hL with h | ⟨b, o, rfl, _, hbl, hL⟩
        · omega
        rcases hL2 with h | ⟨b2, o2, rfl, _, hbl2, hL2⟩
        · omega
        obtain ⟨x1, y1, hv, g1, g2, g3, g4, g5⟩ := hL j hlt
        obtain ⟨x2, y2, hv2, p1, p2, p3, p4, p5⟩ := hL2 j hlt
        have hle : w.heap.size ≤ w.heap.size := Nat.le_refl _
        replace g1 := Below.cellS hw.out hle g1
        replace g2 := Below.cellS hw.out hle g2
        replace g3 := Below.cellS hw.out hle g3
        replace g4 := Below.cellS hw.out hle g4
        replace g5 := Below.cellS hw.out hle g5
        replace p1 := fun ob => cell_alloc_old (o := ob) (Below.cellS hw.out hle p1)
        replace p2 := fun ob => cell_alloc_old (o := ob) (Below.cellS hw.out hle p2)
        replace p3 := fun ob => cell_alloc_old (o := ob) (Below.cellS hw.out hle p3)
        replace p4 := fun ob => cell_alloc_old (o := ob) (Below.cellS hw.out hle p4)
        replace p5 := fun ob => cell_alloc_old (o := ob) (Below.cellS hw.out hle p5)
        obtain ⟨⟨xa, xn, xc, rfl⟩, ⟨ya, yn, yc, rfl⟩⟩ := hv.slices
        obtain ⟨⟨xa2, xn2, xc2, rfl⟩, ⟨ya2, yn2, yc2, rfl⟩⟩ := hv2.slices
        have HC : Hid (∀ w', Below wr.heap.size wr w' → Calls Try.prog 9 #[vv (l j) (.slice xa xn xc) (.slice ya yn yc), vv (l' j) (.slice xa2 xn2 xc2) (.slice ya2 yn2 yc2)] w' fun e w'' => e = .returned (.bool (eqT (l j) (l' j))) ∧ Below w.heap.size w w'') := by
          intro w' hb'
          have hw' := hw.out.trans (hb'.mono hw.out.size)
          refine (il j _ _ _ _ _ w' (ok4 j hlt).1 (ok4 j hlt).2 (Below.rv hw' hle hv) (Below.rv hw' hle hv2)).mono ?_
          rintro e w'' ⟨rfl, hb''⟩
          exact ⟨rfl, hw'.trans (hb''.mono hw'.size)⟩
        have HG : Hid (eqT (l j) (l' j) = true → allB (fun i => eqT (l i) (l' i)) (j + 1) = true) := fun h => allB_go hz.out h
        have HF : Hid (eqT (l j) (l' j) = false → R = false) := fun h => by rw [HR2.out, allB_stop (f := fun i => eqT (l i) (l' i)) hlt h]
        have HBB : Hid (Below wr.heap.size wr ((wr.alloc (Obj.cells #[.int .i64 (l j).k, .int .i64 (l j).n, .string (l j).s, .slice xa xn xc, .slice ya yn yc] 25)).alloc (Obj.cells #[.int .i64 (l' j).k, .int .i64 (l' j).n, .string (l' j).s, .slice xa2 xn2 xc2, .slice ya2 yn2 yc2] 25))) := ((Below.refl _ _).alloc (Nat.le_refl _) _).alloc (by simp) _
        clear il ok4 hL hL2 hv hv2 hbl hbl2 hle hz
        generalize eqT (l j) (l' j) = q at *
        go_wp2_with fail
        refine (HC.out _ HBB.out).mono ?_
        rintro e w2 ⟨rfl, hb2⟩
        have hw2 : Hid (Below w.heap.size w w2) := hb2
        clear HC HBB hb2 g1 g2 g3 g4 g5 p1 p2 p3 p4 p5
        cases q with
        | true =>
          have HG2 : Hid _ := HG.out rfl
          clear HG HF
          go_wp2
          go_roundw
          case rel => exact ⟨j + 1, by omega, by go_num, hw2, HG2.out⟩
          case measure => simp [intOf]; omega
        | false =>
          have hR : R = false := HF.out rfl
          clear HG HF HR2
          subst hR
          go_wp2
          go_ret
          exact ⟨rfl, hw2.out⟩
      · obtain rfl : j = ln := by omega
        have hR : R = true := HR2.out.trans hz.out
        clear HR2 hz
        subst hR
        go_wp2
        go_ret
        exact ⟨rfl, hw.out⟩
/-- the pair itself: six cells -/
def pp (s : ByteArray) (t : T) (x y : Value) : Value := .agg #[.string s, .int .i64 t.k, .int .i64 t.n, .string t.s, x, y]
set_option maxHeartbeats 1000000 in
theorem pairs21 (s s' : ByteArray) (t t2 : T) (x y x2 y2 : Value) (w : World) (ih : EC 9 t t2) (hok : t.ok) (hok2 : t2.ok) (hr : RV (fun _ => True) w t x y) (hr2 : RV (fun _ => True) w t2 x2 y2) :
    Calls Try.prog 21 #[pp s t x y, pp s' t2 x2 y2] w fun e w' => e = .returned (.bool (s.toList == s'.toList && eqT t t2)) ∧ Below w.heap.size w w' := by
  have HB : Hid (Below w.heap.size w ((w.alloc (Obj.cells #[.string s, .int .i64 t.k, .int .i64 t.n, .string t.s, x, y] 42)).alloc (Obj.cells #[.string s', .int .i64 t2.k, .int .i64 t2.n, .string t2.s, x2, y2] 42))) := ((Below.refl _ _).alloc (Nat.le_refl _) _).alloc (by simp) _
  have HC : Hid (∀ w', Below w.heap.size w w' → Calls Try.prog 9 #[vv t x y, vv t2 x2 y2] w' fun e w'' => e = .returned (.bool (eqT t t2)) ∧ Below w.heap.size w w'') := by
    intro w' hb'
    refine (ih _ _ _ _ w' hok hok2 (Below.rv hb' (Nat.le_refl _) hr) (Below.rv hb' (Nat.le_refl _) hr2)).mono ?_
    rintro e w'' ⟨rfl, hb''⟩
    exact ⟨rfl, hb'.trans (hb''.mono hb'.size)⟩
  clear ih hok hok2 hr hr2
  unfold pp
  generalize eqT t t2 = q at *
  by_cases hs : s.toList = s'.toList
  · have hs' : (s.toList == s'.toList) = true := by simpa using hs
    rw [hs', Bool.true_and]
    go_enter Try.func21, Try.ntmps21
    go_wp2_with fail
    refine (HC.out _ HB.out).mono ?_
    rintro e w2 ⟨rfl, hb2⟩
    go_wp2
    go_ret
    exact ⟨rfl, hb2⟩
  · have hs' : (s.toList == s'.toList) = false := by simpa using hs
    rw [hs', Bool.false_and]
    go_enter Try.func21, Try.ntmps21
    go_wp2
    go_ret
    exact ⟨rfl, HB.out⟩
set_option maxHeartbeats 4000000 in
theorem eqf20 (ln ln' : Nat) (ky ky' : Nat → ByteArray) (l l' : Nat → T) (x x2 : Value) (w : World) (ih : ∀ i t2, EC 9 (l i) t2) (ok2 : ln ≤ 140737488351232) (ok2' : ln' ≤ 140737488351232) (ok4 : ∀ i, i < ln → (l i).ok) (ok4' : ∀ i, i < ln' → (l' i).ok)
    (hL : RD (fun _ => True) w ln ky l x) (hL2 : RD (fun _ => True) w ln' ky' l' x2) :
    Calls Try.prog 20 #[x, x2, .func (Fn.func 21) #[] #[]] w fun e w' => e = .returned (.bool (decide (ln = ln') && allB (fun i => (ky i).toList == (ky' i).toList && eqT (l i) (l' i)) ln)) ∧ Below w.heap.size w w' := by
  obtain ⟨a, ca, rfl, hL⟩ := hL
  obtain ⟨a2, ca2, rfl, hL2⟩ := hL2
  generalize hRR : (decide (ln = ln') && allB (fun i => (ky i).toList == (ky' i).toList && eqT (l i) (l' i)) ln) = R
  by_cases hln : ln = ln'
  case neg =>
    have hR : R = false := by rw [← hRR, decide_eq_false hln, Bool.false_and]
    clear hRR ih ok4 ok4' hL hL2
    subst hR
    have hln' : ((ln : Int) != (ln' : Int)) = true := by simp; omega
    go_enter Try.func20, Try.ntmps20
    go_wp2
    go_ret
    exact ⟨rfl, Below.refl _ _⟩
  case pos =>
    subst hln
    have HR2 : Hid (R = allB (fun i => (ky i).toList == (ky' i).toList && eqT (l i) (l' i)) ln) := by
      show R = _
      rw [← hRR, decide_eq_true rfl, Bool.true_and]
    clear hRR
    have HI : Hid ((∀ i t2, EC 9 (l i) t2) ∧ (∀ i, i < ln → (l i).ok ∧ (l' i).ok) ∧
        (ln = 0 ∨ ∃ b o, a = some ⟨b, o, none⟩ ∧ True ∧ b < w.heap.size ∧ ∀ i, i < ln → ∃ x' y', RV (fun _ => True) w (l i) x' y' ∧ w.cell? ⟨b, o + i * 6, none⟩ = some (.string (ky i)) ∧ five w b (o + i * 6 + 1) (l i) x' y') ∧
        (ln = 0 ∨ ∃ b o, a2 = some ⟨b, o, none⟩ ∧ True ∧ b < w.heap.size ∧ ∀ i, i < ln → ∃ x' y', RV (fun _ => True) w (l' i) x' y' ∧ w.cell? ⟨b, o + i * 6, none⟩ = some (.string (ky' i)) ∧ five w b (o + i * 6 + 1) (l' i) x' y')) := ⟨ih, fun i hi => ⟨ok4 i hi, ok4' i hi⟩, hL, hL2⟩
    clear ih ok4 ok4' hL hL2
    go_enter Try.func20, Try.ntmps20
    go_wp2
    go_loopw [17] (fun i wr => ∃ j : Nat, j ≤ ln ∧ i = .int .i64 j ∧ Hid (Below w.heap.size w wr) ∧ Hid (allB (fun i => (ky i).toList == (ky' i).toList && eqT (l i) (l' i)) j = true)) (fun i _ => ln - (intOf i).toNat)
    case atStart => exact ⟨0, Nat.zero_le _, rfl, Below.refl _ _, rfl⟩
    case round =>
      obtain ⟨j, hj, rfl, hw, hz⟩ := hrel
      by_cases hlt : j < ln
      · obtain ⟨il, ok4, hL, hL2⟩ := HI.out
        rcases hL with h | ⟨b, o, rfl, _, hbl, hL⟩
        · omega
        rcases hL2 with h | ⟨b2, o2, rfl, _, hbl2, hL2⟩
        · omega
        obtain ⟨x1, y1, hv, g0, g1, g2, g3, g4, g5⟩ := hL j hlt
        obtain ⟨x2, y2, hv2, p0, p1, p2, p3, p4, p5⟩ := hL2 j hlt
        have hle : w.heap.size ≤ w.heap.size := Nat.le_refl _
        replace g0 := Below.cellS hw.out hle g0
        replace g1 := Below.cellS hw.out hle g1
        replace g2 := Below.cellS hw.out hle g2
        replace g3 := Below.cellS hw.out hle g3
        replace g4 := Below.cellS hw.out hle g4
        replace g5 := Below.cellS hw.out hle g5
        replace p0 := fun ob => cell_alloc_old (o := ob) (Below.cellS hw.out hle p0)
        replace p1 := fun ob => cell_alloc_old (o := ob) (Below.cellS hw.out hle p1)
        replace p2 := fun ob => cell_alloc_old (o := ob) (Below.cellS hw.out hle p2)
        replace p3 := fun ob => cell_alloc_old (o := ob) (Below.cellS hw.out hle p3)
        replace p4 := fun ob => cell_alloc_old (o := ob) (Below.cellS hw.out hle p4)
        replace p5 := fun ob => cell_alloc_old (o := ob) (Below.cellS hw.out hle p5)
        obtain ⟨⟨xa, xn, xc, rfl⟩, ⟨ya, yn, yc, rfl⟩⟩ := hv.slices
        obtain ⟨⟨xa2, xn2, xc2, rfl⟩, ⟨ya2, yn2, yc2, rfl⟩⟩ := hv2.slices
        have HC : Hid (∀ w', Below wr.heap.size wr w' → Calls Try.prog 21 #[pp (ky j) (l j) (.slice xa xn xc) (.slice ya yn yc), pp (ky' j) (l' j) (.slice xa2 xn2 xc2) (.slice ya2 yn2 yc2)] w' fun e w'' => e = .returned (.bool ((ky j).toList == (ky' j).toList && eqT (l j) (l' j))) ∧ Below w.heap.size w w'') := by
          intro w' hb'
          have hw' := hw.out.trans (hb'.mono hw.out.size)
          refine (pairs21 (ky j) (ky' j) _ _ _ _ _ _ w' (il j _) (ok4 j hlt).1 (ok4 j hlt).2 (Below.rv hw' hle hv) (Below.rv hw' hle hv2)).mono ?_
          rintro e w'' ⟨rfl, hb''⟩
          exact ⟨rfl, hw'.trans (hb''.mono hw'.size)⟩
        have HG : Hid (((ky j).toList == (ky' j).toList && eqT (l j) (l' j)) = true → allB (fun i => (ky i).toList == (ky' i).toList && eqT (l i) (l' i)) (j + 1) = true) := fun h => allB_go hz.out h
        have HF : Hid (((ky j).toList == (ky' j).toList && eqT (l j) (l' j)) = false → R = false) := fun h => by rw [HR2.out, allB_stop (f := fun i => (ky i).toList == (ky' i).toList && eqT (l i) (l' i)) hlt h]
        have HBB : Hid (Below wr.heap.size wr ((wr.alloc (Obj.cells #[.string (ky j), .int .i64 (l j).k, .int .i64 (l j).n, .string (l j).s, .slice xa xn xc, .slice ya yn yc] 42)).alloc (Obj.cells #[.string (ky' j), .int .i64 (l' j).k, .int .i64 (l' j).n, .string (l' j).s, .slice xa2 xn2 xc2, .slice ya2 yn2 yc2] 42))) := ((Below.refl _ _).alloc (Nat.le_refl _) _).alloc (by simp) _
        clear il ok4 hL hL2 hv hv2 hbl hbl2 hle hz
        generalize ((ky j).toList == (ky' j).toList && eqT (l j) (l' j)) = q at *
        go_wp2_with fail
        refine (HC.out _ HBB.out).mono ?_
        rintro e w2 ⟨rfl, hb2⟩
        have hw2 : Hid (Below w.heap.size w w2) := hb2
        clear HC HBB hb2 g0 p0 g1 g2 g3 g4 g5 p1 p2 p3 p4 p5
        cases q with
        | true =>
          have HG2 : Hid _ := HG.out rfl
          clear HG HF
          go_wp2
          go_roundw
          case rel => exact ⟨j + 1, by omega, by go_num, hw2, HG2.out⟩
          case measure => simp [intOf]; omega
        | false =>
          have hR : R = false := HF.out rfl
          clear HG HF HR2
          subst hR
          go_wp2
          go_ret
          exact ⟨rfl, hw2.out⟩
      · obtain rfl : j = ln := by omega
        have hR : R = true := HR2.out.trans hz.out
        clear HR2 hz
        subst hR
        go_wp2
        go_ret
        exact ⟨rfl, hw.out⟩
set_option maxHeartbeats 4000000 in
theorem equal9 (t : T) : ∀ t2, EC 9 t t2 := by
  induction t with
  | no => intro t2 x y x2 y2 w _ _ h; exact h.elim
  | mk k n s ln l dn ky dv il id =>
    intro t2 x y x2 y2 w hok hok2 hr hr2
    cases t2 with
    | no => exact hr2.elim
    | mk k' n' s' ln' l' dn' ky' dv' =>
    obtain ⟨ok1, ok2, ok3, ok4, ok5⟩ := hok
    obtain ⟨ok1', ok2', ok3', ok4', ok5'⟩ := hok2
    obtain ⟨hL, hD⟩ := hr
    obtain ⟨hL2, hD2⟩ := hr2
    show Calls Try.prog 9 #[.agg #[.int .i64 k, .int .i64 n, .string s, x, y], .agg #[.int .i64 k', .int .i64 n', .string s', x2, y2]] w _
    have HB : Hid (Below w.heap.size w ((w.alloc (Obj.cells #[.int .i64 k, .int .i64 n, .string s, x, y] 25)).alloc (Obj.cells #[.int .i64 k', .int .i64 n', .string s', x2, y2] 25))) := ((Below.refl _ _).alloc (Nat.le_refl _) _).alloc (by simp) _
    have HR : Hid (eqT (.mk k n s ln l dn ky dv) (.mk k' n' s' ln' l' dn' ky' dv') = (decide (k = k' ∧ n = n' ∧ s.toList = s'.toList ∧ ln = ln' ∧ dn = dn') && (allB (fun i => eqT (l i) (l' i)) ln && allB (fun i => (ky i).toList == (ky' i).toList && eqT (dv i) (dv' i)) dn))) := by
      show eqT _ _ = _
      simp only [eqT]
    generalize eqT (.mk k n s ln l dn ky dv) (.mk k' n' s' ln' l' dn' ky' dv') = R at *
    by_cases h3 : k = k' ∧ n = n' ∧ s.toList = s'.toList
    case neg =>
      have hR : R = false := by rw [HR.out, decide_eq_false (fun h => h3 ⟨h.1, h.2.1, h.2.2.1⟩), Bool.false_and]
      have HN : Hid (¬ (k = k' ∧ n = n' ∧ s.toList = s'.toList)) := h3
      clear HR h3 hL hD hL2 hD2 il id ok4 ok5 ok4' ok5'
      subst hR
      go_enter Try.func9, Try.ntmps9
      go_wp2_with fail
      all_goals first
        | (go_ret
           exact ⟨rfl, ((Below.refl _ _).alloc (Nat.le_refl _) _).alloc (by simp) _⟩)
        | (exfalso
           exact HN.out ⟨by assumption, by assumption, by assumption⟩)
    case pos =>
      obtain ⟨rfl, rfl, hst⟩ := h3
      have HI : Hid ((∀ w', Below w.heap.size w w' → Calls Try.prog 19 #[x, x2, .func (Fn.func 9) #[] #[]] w' fun e w'' => e = .returned (.bool (decide (ln = ln') && allB (fun i => eqT (l i) (l' i)) ln)) ∧ Below w'.heap.size w' w'') ∧
          (∀ w', Below w.heap.size w w' → Calls Try.prog 20 #[y, y2, .func (Fn.func 21) #[] #[]] w' fun e w'' => e = .returned (.bool (decide (dn = dn') && allB (fun i => (ky i).toList == (ky' i).toList && eqT (dv i) (dv' i)) dn)) ∧ Below w'.heap.size w' w'')) :=
        ⟨fun w' hb => eqf19 ln ln' l l' x x2 w' il ok2 ok2' ok4 ok4' (RL.keep (fun _ h => h) hb.size (fun b _ hl => hb.block b hl) hL) (RL.keep (fun _ h => h) hb.size (fun b _ hl => hb.block b hl) hL2),
         fun w' hb => eqf20 dn dn' ky ky' dv dv' y y2 w' id ok3 ok3' (fun i hi => (ok5 i hi).2) (fun i hi => (ok5' i hi).2) (RD.keep (fun _ h => h) hb.size (fun b _ hl => hb.block b hl) hD) (RD.keep (fun _ h => h) hb.size (fun b _ hl => hb.block b hl) hD2)⟩
      have HR2 : Hid (R = ((decide (ln = ln') && allB (fun i => eqT (l i) (l' i)) ln) && (decide (dn = dn') && allB (fun i => (ky i).toList == (ky' i).toList && eqT (dv i) (dv' i)) dn))) := by
        show R = _
        rw [HR.out]
        by_cases h1 : ln = ln' <;> by_cases h2 : dn = dn' <;> simp [h1, h2, hst]
      clear HR il id ok4 ok5 ok4' ok5' hL hD hL2 hD2
      have hst' : (s.toList == s'.toList) = true := by simpa using hst
      generalize (decide (ln = ln') && allB (fun i => eqT (l i) (l' i)) ln) = q1 at *
      generalize (decide (dn = dn') && allB (fun i => (ky i).toList == (ky' i).toList && eqT (dv i) (dv' i)) dn) = q2 at *
      go_enter Try.func9, Try.ntmps9
      go_wp2_with fail
      refine (HI.out.1 _ HB.out).mono ?_
      rintro e w1 ⟨rfl, hb1⟩
      have e4 : w1.cell? ⟨w.heap.size, 4, none⟩ = some y := Below.cellS hb1 (Nat.le_refl _) (by go_simp)
      have f4 : w1.cell? ⟨w.heap.size + 1, 4, none⟩ = some y2 := Below.cellS hb1 (Nat.le_refl _) (by go_simp)
      have B1 : Hid (Below w.heap.size w w1) := HB.out.trans (hb1.mono (by simp; omega))
      clear hb1
      cases q1 with
      | false =>
        have hR : R = false := by rw [HR2.out, Bool.false_and]
        clear HR2 HI
        subst hR
        go_wp2
        go_ret
        exact ⟨rfl, B1.out⟩
      | true =>
        have hR : R = q2 := by rw [HR2.out, Bool.true_and]
        clear HR2
        subst hR
        go_wp2_with fail
        refine (HI.out.2 _ B1.out).mono ?_
        rintro e w2 ⟨rfl, hb2⟩
        go_wp2
        go_ret
        exact ⟨rfl, B1.out.trans (hb2.mono B1.out.size)⟩
end Go.Proofs.Ytddcnmbfgogdbaa
