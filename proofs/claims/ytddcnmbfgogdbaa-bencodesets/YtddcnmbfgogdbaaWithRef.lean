import Derived.Test.YtddcnmbfgogdbaaWithT
import Derived.Test.YtddcnmbfgogdbaaGetRef
namespace Go.Proofs.Ytddcnmbfgogdbaa
open Go.RowKit Go.Deep
theorem Fd.unique {ky : Nat → ByteArray} {dn a1 a2 : Nat} {key : ByteArray} {f1 f2 : Bool} (h1 : Fd ky dn key a1 f1) (h2 : Fd ky dn key a2 f2) : a1 = a2 ∧ f1 = f2 := by
  have one : ∀ a b, At ky dn key a → At ky dn key b → ¬ a < b := fun a b ha hb hlt => by
    have e1 := hb.2.1 a hlt
    have e2 := ha.2.2 a (Nat.le_refl _) (by have := hb.1; omega)
    rw [e1] at e2; cases e2
  have e : a1 = a2 := by
    have n1 := one a1 a2 h1.1 h2.1
    have n2 := one a2 a1 h2.1 h1.1
    omega
  subst e
  refine ⟨rfl, ?_⟩
  have := h1.2.trans h2.2.symm
  cases f1 <;> cases f2 <;> simp_all
/-- what With answers -/
def WS (t : T) (key : ByteArray) (x : T) (u : T) (er : Int) : Prop :=
  (wk t 0 ≠ 0 ∧ u = zeroT ∧ er = wk t 0) ∨ (wk t 0 = 0 ∧ t.k ≠ 4 ∧ u = zeroT ∧ er = 28) ∨ (wk t 0 = 0 ∧ t.k = 4 ∧ wk x 0 ≠ 0 ∧ u = zeroT ∧ er = wk x 0) ∨
  (wk t 0 = 0 ∧ t.k = 4 ∧ wk x 0 = 0 ∧ wk x 1 ≠ 0 ∧ u = zeroT ∧ er = wk x 1) ∨
  (wk t 0 = 0 ∧ t.k = 4 ∧ wk x 0 = 0 ∧ wk x 1 = 0 ∧ er = 0 ∧ ∃ n s ln l dn ky dv at' f, t = .mk 4 n s ln l dn ky dv ∧ Fd ky dn key at' f ∧ u = withT dn ky dv key x at' f)
theorem WS.unique {t : T} {key : ByteArray} {x u u' : T} {er er' : Int} (h : WS t key x u er) (h' : WS t key x u' er') : u = u' ∧ er = er' := by
  rcases h with ⟨a1, rfl, rfl⟩ | ⟨a1, a2, rfl, rfl⟩ | ⟨a1, a2, a3, rfl, rfl⟩ | ⟨a1, a2, a3, a4, rfl, rfl⟩ | ⟨a1, a2, a3, a4, rfl, n, s, ln, l, dn, ky, dv, at1, f1, rfl, hf, rfl⟩ <;>
  rcases h' with ⟨b1, rfl, rfl⟩ | ⟨b1, b2, rfl, rfl⟩ | ⟨b1, b2, b3, rfl, rfl⟩ | ⟨b1, b2, b3, b4, rfl, rfl⟩ | ⟨b1, b2, b3, b4, rfl, n', s', ln', l', dn', ky', dv', at2, f2, ht, hf', rfl⟩ <;>
  first
    | exact ⟨rfl, rfl⟩
    | exact absurd b1 a1
    | exact absurd a1 b1
    | exact absurd b2 a2
    | exact absurd a2 b2
    | exact absurd b3 a3
    | exact absurd a3 b3
    | exact absurd b4 a4
    | exact absurd a4 b4
    | (cases ht
       obtain ⟨rfl, rfl⟩ := hf.unique hf'
       exact ⟨rfl, rfl⟩)
/-- the place of a key, and whether it stands there -/
theorem exists_fd (ky : Nat → ByteArray) (dn : Nat) (key : ByteArray) (hri : Rise ky dn) : ∃ at' f, Fd ky dn key at' f := by
  have : ∃ at', At ky dn key at' := by
    induction dn with
    | zero => exact ⟨0, Nat.le_refl _, fun p hp => absurd hp (Nat.not_lt_zero _), fun p _ hp => absurd hp (Nat.not_lt_zero _)⟩
    | succ n ih =>
      obtain ⟨a, h1, h2, h3⟩ := ih (fun p q hpq hq => hri p q hpq (by omega))
      by_cases e : a = n
      · cases hc : Op.bytesLess (ky n).toList key.toList with
        | true => exact ⟨n + 1, Nat.le_refl _, at_low hri (by omega) hc, fun p h1 h2 => by omega⟩
        | false => exact ⟨n, by omega, e ▸ h2, at_high hri hc⟩
      · refine ⟨a, by omega, h2, fun p hp1 hp2 => at_high hri (h3 a (Nat.le_refl _) (by omega)) p hp1 hp2⟩
  obtain ⟨a, ha⟩ := this
  by_cases h : a < dn ∧ (ky a).toList = key.toList
  · exact ⟨a, true, ha, by simp [h]⟩
  · exact ⟨a, false, ha, by simp; intro h1 h2; exact h ⟨h1, h2⟩⟩
/-- the new row of pairs so far -/
def DR (H : Nat) (w wr : World) (kk : Nat → ByteArray) (vv' : Nat → T) (m : Nat) (lv : Value) : Prop :=
  ∃ X Y, wr.ownsRow (H + 3) 42 6 lv m (rowD kk vv' X Y m) ∧ ∀ i, i < m → RV (fun b => b < H) w (vv' i) (X i) (Y i)
theorem DR.rd {H : Nat} {w wr : World} {kk : Nat → ByteArray} {vv' : Nat → T} {m : Nat} {lv : Value} (h : DR H w wr kk vv' m lv) (hb : Below H w wr) : RD (fun b => b ≠ H + 1 + 1) wr m kk vv' lv := by
  obtain ⟨X, Y, hown, hel⟩ := h
  rcases hown.2 with ⟨rfl, rfl⟩ | ⟨g, cap, cur, rfl, hg1, hg2, _⟩
  · exact ⟨_, _, rfl, .inl rfl⟩
  have hg : g < wr.heap.size := (Array.getElem?_eq_some_iff.1 hg2).1
  refine ⟨_, _, rfl, .inr ⟨g, 0, rfl, (by omega), hg, fun i hi => ⟨X i, Y i, RV.move (fun b hb' _ => (by omega)) hb.size (fun b hb' hl => hb.block b hb') _ _ _ (hel i hi), ?_⟩⟩⟩
  have c : ∀ r, r < 6 → wr.cell? ⟨g, i * 6 + r, none⟩ = (.string (kk i) :: cv (vv' i) (X i) (Y i))[r]? := fun r hr => by
    rw [hown.cellAt (i * 6 + r) (by omega), rowD_get _ _ _ _ _ _ hr _ hi]
  have c0 := c 0 (by omega)
  have c1 := c 1 (by omega)
  have c2 := c 2 (by omega)
  have c3 := c 3 (by omega)
  have c4 := c 4 (by omega)
  have c5 := c 5 (by omega)
  simp only [cv, Nat.add_zero] at c0 c1 c2 c3 c4 c5
  simp only [Nat.zero_add]
  exact ⟨c0, c1, c2, c3, c4, c5⟩
theorem DR.form {H : Nat} {w wr : World} {kk : Nat → ByteArray} {vv' : Nat → T} {m : Nat} {lv : Value} (h : DR H w wr kk vv' m lv) : ∃ a c, lv = .slice a m c := ownForm h.choose_spec.choose_spec.1
/-- the boxes of With -/
def WI (H : Nat) (w wr : World) (t : T) (x y : Value) (t2 : T) (x2 y2 : Value) : Prop :=
  Below H w wr ∧ obj wr H (.int .i64 t.k) (.int .i64 t.n) (.string t.s) x y ∧ obj wr (H + 1) (.int .i64 t2.k) (.int .i64 t2.n) (.string t2.s) x2 y2 ∧ obj wr (H + 1 + 1) (.int .i64 0) (.int .i64 0) (.string { data := #[] }) (.slice .none 0 0) (.slice .none 0 0)
theorem WI.keep {H : Nat} {w wr w' : World} {t t2 : T} {x y x2 y2 : Value} (h : WI H w wr t x y t2 x2 y2) (hS : w.heap.size = H) (hb : Below wr.heap.size wr w') : WI H w w' t x y t2 x2 y2 := by
  obtain ⟨h1, h2, h3, h4⟩ := h
  exact ⟨h1.trans (hb.mono (hS ▸ h1.size)), h2.keep (hb.block _ h2.lt), h3.keep (hb.block _ h3.lt), h4.keep (hb.block _ h4.lt)⟩
/-- one pair more -/
theorem DR.step {H : Nat} {w wr W w3 : World} {kk : Nat → ByteArray} {vv' : Nat → T} {m c g cap : Nat} {a : Option Addr} {X Y : Value} {X0 Y0 : Nat → Value} {t t2 : T} {x y x2 y2 : Value} (hS : w.heap.size = H) (hI : WI H w wr t x y t2 x2 y2)
    (hown : wr.ownsRow (H + 3) 42 6 (.slice a m c) m (rowD kk vv' X0 Y0 m)) (hel : ∀ i, i < m → RV (fun b => b < H) w (vv' i) (X0 i) (Y0 i)) (hr : RV (fun b => b < H) w (vv' m) X Y)
    (hW : Below wr.heap.size wr W) (hgrow : W.grownBy w3 (Value.slice a m c).ownBlock)
    (hown3 : w3.ownsRow (H + 3) 42 6 (.slice (some ⟨g, 0, none⟩) (m + 1) cap) (m + 1) (rowD kk vv' X0 Y0 m ++ (.string (kk m) :: cv (vv' m) X Y))) :
    WI H w w3 t x y t2 x2 y2 ∧ DR H w w3 kk vv' (m + 1) (.slice (some ⟨g, 0, none⟩) (m + 1) cap) := by
  have hlo := fun q (hq : (Value.slice a m c).ownBlock = some q) => (hown.lt q hq)
  obtain ⟨h1, h2, h3, h4⟩ := hI
  have l4 := h4.lt
  have s1 := hW.size
  have blk : ∀ q, q < H + 3 → w3.heap[q]? = wr.heap[q]? := fun q hq =>
    (hgrow.block q (by omega) (fun e => by have := (hlo q e.symm).1; omega)).trans (hW.block q (by omega))
  refine ⟨⟨(h1.trans (hW.mono (hS ▸ h1.size))).grown hgrow (by omega) (fun q hq => by have := (hlo q hq).1; omega), h2.keep (blk _ (by omega)), h3.keep (blk _ (by omega)), h4.keep (blk _ (by omega))⟩, upd X0 m X, upd Y0 m Y, ?_, fun i hi => ?_⟩
  · rw [rowD_succ]; exact hown3
  · rcases Nat.lt_succ_iff_lt_or_eq.1 hi with h | rfl
    · rw [upd_lt h, upd_lt h]; exact hel i h
    · rw [upd_eq, upd_eq]; exact hr
theorem withT_ok {dn : Nat} {ky : Nat → ByteArray} {dv : Nat → T} {key : ByteArray} {x : T} {at' : Nat} {f : Bool} (hdn : dn ≤ 2147483647) (hk : key.size ≤ 140737488351232) (h1 : ∀ i, i < dn → (ky i).size ≤ 140737488351232 ∧ (dv i).ok) (hx : x.ok) (hat : f = false → at' ≤ dn) (hat2 : f = true → at' < dn) : (withT dn ky dv key x at' f).ok := by
  refine ⟨Nat.zero_le _, Nat.zero_le _, ?_, fun _ hi => absurd hi (Nat.not_lt_zero _), fun i hi => ?_⟩
  · unfold nn; split <;> omega
  · unfold nn at hi
    by_cases e1 : i < at'
    · have : i < dn := by
        cases f with
        | true => have := hat2 rfl; omega
        | false => have := hat rfl; omega
      rw [nk_lt e1, nv_lt e1]; exact h1 i this
    · by_cases e2 : i = at'
      · subst e2; rw [nk_at, nv_at]; exact ⟨hk, hx⟩
      · rw [nk_gt (by omega), nv_gt (by omega)]
        cases f with
        | true => simp only [if_true] at hi ⊢; exact h1 i hi
        | false => simp only [Bool.false_eq_true, if_false] at hi ⊢; exact h1 (i - 1) (by omega)
/-- the return with an error -/
theorem with_bad {wr : World} {H : Nat} {w : World} {t t2 : T} {x y x2 y2 : Value} (hS : w.heap.size = H) (hI : WI H w wr t x y t2 x2 y2) :
    RV (fun _ => True) (set5 wr (H + 1 + 1) 0 (.int .i64 0) (.int .i64 0) (.string { data := #[] }) (.slice .none 0 0) (.slice .none 0 0)) zeroT (.slice .none 0 0) (.slice .none 0 0) ∧ Below w.heap.size w (set5 wr (H + 1 + 1) 0 (.int .i64 0) (.int .i64 0) (.string { data := #[] }) (.slice .none 0 0) (.slice .none 0 0)) := by
  refine ⟨⟨⟨_, _, rfl, .inl rfl⟩, ⟨_, _, rfl, .inl rfl⟩⟩, ?_⟩
  rw [hS]
  exact set5_below hI.1 (by omega) _ _ _ _ _ _
set_option maxHeartbeats 4000000 in
theorem with15 (t x : T) (tx ty xx xy : Value) (key : ByteArray) (w : World) (hok : t.ok) (hsm : t.small) (hok2 : x.ok) (hkey : key.size ≤ 140737488351232) (hr : RV (fun _ => True) w t tx ty) (hr2 : RV (fun _ => True) w x xx xy) :
    Calls Try.prog 15 #[vv t tx ty, .string key, vv x xx xy] w fun e w' => ∃ u er x' y', e = .returned (.tuple #[vv u x' y', .int .i64 er]) ∧ RV (fun _ => True) w' u x' y' ∧ Below w.heap.size w w' ∧ WS t key x u er ∧ u.ok := by
  obtain ⟨⟨xa, xn, xc, rfl⟩, ⟨ya, yn, yc, rfl⟩⟩ := hr.slices
  obtain ⟨⟨xa2, xn2, xc2, rfl⟩, ⟨ya2, yn2, yc2, rfl⟩⟩ := hr2.slices
  have HR : Hid (RV (fun _ => True) w t (.slice xa xn xc) (.slice ya yn yc) ∧ RV (fun _ => True) w x (.slice xa2 xn2 xc2) (.slice ya2 yn2 yc2) ∧ t.ok ∧ t.small ∧ x.ok) := ⟨hr, hr2, hok, hsm, hok2⟩
  have HI : Hid (WI w.heap.size w (((w.alloc (Obj.cells #[.int .i64 t.k, .int .i64 t.n, .string t.s, .slice xa xn xc, .slice ya yn yc] 25)).alloc (Obj.cells #[.int .i64 x.k, .int .i64 x.n, .string x.s, .slice xa2 xn2 xc2, .slice ya2 yn2 yc2] 25)).alloc (Obj.cells #[.int .i64 0, .int .i64 0, .string { data := #[] }, .slice .none 0 0, .slice .none 0 0] 25)) t (.slice xa xn xc) (.slice ya yn yc) x (.slice xa2 xn2 xc2) (.slice ya2 yn2 yc2)) := by
    refine ⟨(((Below.refl _ _).alloc (Nat.le_refl _) _).alloc (by simp) _).alloc (by simp; omega) _, ?_, ?_, ?_⟩
    · exact (Below.heap_alloc _ _ _ (by simp; omega)).trans ((Below.heap_alloc _ _ _ (by simp)).trans (heap_new _ _))
    · refine (Below.heap_alloc _ _ _ (by simp)).trans ?_
      have := heap_new (w.alloc (Obj.cells #[.int .i64 t.k, .int .i64 t.n, .string t.s, .slice xa xn xc, .slice ya yn yc] 25)) (Obj.cells #[.int .i64 x.k, .int .i64 x.n, .string x.s, .slice xa2 xn2 xc2, .slice ya2 yn2 yc2] 25)
      simpa using this
    · have := heap_new ((w.alloc (Obj.cells #[.int .i64 t.k, .int .i64 t.n, .string t.s, .slice xa xn xc, .slice ya yn yc] 25)).alloc (Obj.cells #[.int .i64 x.k, .int .i64 x.n, .string x.s, .slice xa2 xn2 xc2, .slice ya2 yn2 yc2] 25)) (Obj.cells #[.int .i64 0, .int .i64 0, .string { data := #[] }, .slice .none 0 0, .slice .none 0 0] 25)
      have e : ((w.alloc (Obj.cells #[.int .i64 t.k, .int .i64 t.n, .string t.s, .slice xa xn xc, .slice ya yn yc] 25)).alloc (Obj.cells #[.int .i64 x.k, .int .i64 x.n, .string x.s, .slice xa2 xn2 xc2, .slice ya2 yn2 yc2] 25)).heap.size = w.heap.size + 1 + 1 := by simp
      rw [e] at this
      exact this
  clear hr hr2 hok hsm hok2
  unfold vv
  go_enter Try.func15, Try.ntmps15
  go_wp2_with fail
  refine (valid13 t _ _ _ HR.out.2.2.1 (Below.rv HI.out.1 (Nat.le_refl _) HR.out.1)).mono ?_
  rintro e w1 ⟨rfl, hb1⟩
  replace HI : Hid _ := WI.keep HI.out rfl hb1
  clear hb1
  generalize hvb : w.heap.size = H at *
  have HS : Hid (w.heap.size = H) := hvb
  clear hvb
  have HW1 : Hid (wk t 0 = wk t 0) := rfl
  generalize hq : wk t 0 = q at *
  have HQ : Hid (wk t 0 = q) := hq
  clear hq HW1
  by_cases hq0 : q = 0
  case neg =>
    have hq' : (q != 0) = true := by simpa using hq0
    have HN : Hid (q ≠ 0) := hq0
    clear hq0
    obtain ⟨c0, c1, c2, c3, c4⟩ := HI.out.2.2.2.cells
    have z0 := HI.out.2.2.2.frozen 0
    have z1 := HI.out.2.2.2.frozen 1
    have z2 := HI.out.2.2.2.frozen 2
    have z3 := HI.out.2.2.2.frozen 3
    have z4 := HI.out.2.2.2.frozen 4
    go_wp2
    exact bodyPost_ret (v := .tuple #[.agg #[.int .i64 0, .int .i64 0, .string { data := #[] }, .slice .none 0 0, .slice .none 0 0], .int .i64 q]) (results_cell2 Try.results15 _ _ (H + 1 + 1) _ rfl (((((HI.out.2.2.2.set0 _).set1 _).set2 _).set3 _).set4 _) rfl) rfl
      ⟨zeroT, q, _, _, rfl, (with_bad HS.out HI.out).1, (with_bad HS.out HI.out).2, .inl ⟨by rw [HQ.out]; exact HN.out, rfl, HQ.out.symm⟩, zeroT_ok⟩
  case pos =>
  subst hq0
  obtain ⟨k0, _, _, _, k4⟩ := HI.out.2.1.cells
  by_cases htk : t.k = 4
  case neg =>
    have htk' : (t.k != 4) = true := by simpa using htk
    have HN : Hid (t.k ≠ 4) := htk
    clear htk k4
    obtain ⟨c0, c1, c2, c3, c4⟩ := HI.out.2.2.2.cells
    have z0 := HI.out.2.2.2.frozen 0
    have z1 := HI.out.2.2.2.frozen 1
    have z2 := HI.out.2.2.2.frozen 2
    have z3 := HI.out.2.2.2.frozen 3
    have z4 := HI.out.2.2.2.frozen 4
    go_wp2
    exact bodyPost_ret (v := .tuple #[.agg #[.int .i64 0, .int .i64 0, .string { data := #[] }, .slice .none 0 0, .slice .none 0 0], .int .i64 28]) (results_cell2 Try.results15 _ _ (H + 1 + 1) _ rfl (((((HI.out.2.2.2.set0 _).set1 _).set2 _).set3 _).set4 _) rfl) rfl
      ⟨zeroT, 28, _, _, rfl, (with_bad HS.out HI.out).1, (with_bad HS.out HI.out).2, .inr (.inl ⟨HQ.out, HN.out, rfl, rfl⟩), zeroT_ok⟩
  case pos =>
  rw [htk] at k0
  have HT : Hid (t.k = 4) := htk
  clear k4 htk
  obtain ⟨d0, d1, d2, d3, d4⟩ := HI.out.2.2.1.cells
  go_wp2_with fail
  clear k0 d0 d1 d2 d3 d4
  refine (valid13 x _ _ w1 HR.out.2.2.2.2 (Below.rv HI.out.1 (Nat.le_of_eq HS.out) HR.out.2.1)).mono ?_
  rintro e w2 ⟨rfl, hb1⟩
  replace HI : Hid _ := WI.keep HI.out HS.out hb1
  clear hb1
  generalize hq : wk x 0 = q2 at *
  have HQ2 : Hid (wk x 0 = q2) := hq
  clear hq
  by_cases hq0 : q2 = 0
  case neg =>
    have hq' : (q2 != 0) = true := by simpa using hq0
    have HN : Hid (q2 ≠ 0) := hq0
    clear hq0
    obtain ⟨c0, c1, c2, c3, c4⟩ := HI.out.2.2.2.cells
    have z0 := HI.out.2.2.2.frozen 0
    have z1 := HI.out.2.2.2.frozen 1
    have z2 := HI.out.2.2.2.frozen 2
    have z3 := HI.out.2.2.2.frozen 3
    have z4 := HI.out.2.2.2.frozen 4
    go_wp2
    exact bodyPost_ret (v := .tuple #[.agg #[.int .i64 0, .int .i64 0, .string { data := #[] }, .slice .none 0 0, .slice .none 0 0], .int .i64 q2]) (results_cell2 Try.results15 _ _ (H + 1 + 1) _ rfl (((((HI.out.2.2.2.set0 _).set1 _).set2 _).set3 _).set4 _) rfl) rfl
      ⟨zeroT, q2, _, _, rfl, (with_bad HS.out HI.out).1, (with_bad HS.out HI.out).2, .inr (.inr (.inl ⟨HQ.out, HT.out, by rw [HQ2.out]; exact HN.out, rfl, HQ2.out.symm⟩)), zeroT_ok⟩
  case pos =>
  subst hq0
  have hVT : VT t := vt_of_wk t 0 HQ.out
  have hwx : ∃ e1, wk x 1 = e1 := ⟨_, rfl⟩
  obtain ⟨e1, hwx⟩ := hwx
  cases t with
  | no => exact HR.out.1.elim
  | mk tk tn ts tln tl dn ky dv =>
  obtain rfl : tk = 4 := HT.out
  have hri : Rise ky dn := rise_of_good fun i hi => (hVT.2.2 i hi).1
  obtain ⟨at', f, hfd⟩ := exists_fd ky dn key hri
  have hat1 : at' ≤ dn := hfd.1.1
  have hdn : dn ≤ 2147483647 := HR.out.2.2.2.1.2.1
  have hlow : Hid (∀ p, p < at' → Op.bytesLess (ky p).toList key.toList = true) := hfd.1.2.1
  have hhigh : Hid (∀ p, at' ≤ p → p < dn → Op.bytesLess (ky p).toList key.toList = false) := hfd.1.2.2
  have hdict : Hid (∀ i, i < dn → wk (dv i) 1 = 0) := by
    intro i hi
    have h := HQ.out
    rw [wk] at h
    dsimp only at h
    rw [if_neg (by rw [hVT.1]; simp), if_neg (by omega), if_neg (by omega)] at h
    by_cases h4 : fstE (fun i => wk (tl i) (0 + 1)) tln ≠ 0
    · rw [if_pos h4] at h; exact absurd h h4
    rw [if_neg h4] at h
    have h5 := fstE_zero h i hi
    simp only [(hVT.2.2 i hi).1] at h5
    simpa using h5
  have HK : Hid (Rise ky dn ∧ Fd ky dn key at' f ∧ wk x 1 = e1 ∧ (∀ i, i < dn → (ky i).size ≤ 140737488351232 ∧ (dv i).ok)) := ⟨hri, hfd, hwx, HR.out.2.2.1.2.2.2.2⟩
  obtain ⟨hRL, a, ca, hay, hD⟩ := HR.out.1
  cases hay
  have HD : Hid (yn = 0 ∨ ∃ b o, ya = some ⟨b, o, none⟩ ∧ b < H ∧ ∀ i, i < yn → ∃ x' y', RV (fun b => b < H) w (dv i) x' y' ∧ w.cell? ⟨b, o + i * 6, none⟩ = some (.string (ky i)) ∧ five w b (o + i * 6 + 1) (dv i) x' y') := by
    rcases hD with h | ⟨b, o, rfl, _, hbl, hD⟩
    · exact .inl h
    · refine .inr ⟨b, o, rfl, HS.out ▸ hbl, fun i hi => ?_⟩
      obtain ⟨x', y', h1, h2, h3⟩ := hD i hi
      exact ⟨x', y', RV.lift (Nat.le_refl _) (fun _ _ => rfl) (fun b hb => by have := HS.out; omega) _ _ _ h1, h2, h3⟩
  clear hVT hri hfd hwx hRL hD
  obtain ⟨i0, hi, hz0, hz1, hz2⟩ := info_parts info42
  go_wp2
  go_loopw [9, 10] (fun d i wr => ∃ (j m : Nat) (la : Option Addr) (lc : Nat), j ≤ yn ∧ m = min j at' ∧ i = .int .i64 j ∧ d = .slice la m lc ∧ Hid (WI H w wr (.mk 4 tn ts tln tl yn ky dv) (.slice xa xn xc) (.slice ya yn yc) x (.slice xa2 xn2 xc2) (.slice ya2 yn2 yc2) ∧ DR H w wr (nk ky key at' f) (nv dv x at' f) m (.slice la m lc))) (fun _ i _ => yn - (intOf i).toNat)
  case atStart => exact ⟨0, 0, none, 0, Nat.zero_le _, by simp, rfl, rfl, HI.out, fun _ => .slice .none 0 0, fun _ => .slice .none 0 0, World.ownsRow_nil _ _ _ _, fun i hi => absurd hi (Nat.not_lt_zero _)⟩
  case round =>
    clear HI
    obtain ⟨j, m, la, lc, hj, hm, rfl, rfl, hinv⟩ := hrel
    obtain ⟨_, _, _, _, e4⟩ := hinv.out.1.2.1.cells
    by_cases hlt : j < yn
    · rcases HD.out with h | ⟨b, o, rfl, hbl, hD⟩
      · omega
      obtain ⟨X, Y, hv, g0, g1, g2, g3, g4, g5⟩ := hD j hlt
      have hw := hinv.out.1.1
      have hle : w.heap.size ≤ H := Nat.le_of_eq HS.out
      replace g0 := Below.cellS hw hle g0
      replace g1 := Below.cellS hw hle g1
      replace g2 := Below.cellS hw hle g2
      replace g3 := Below.cellS hw hle g3
      replace g4 := Below.cellS hw hle g4
      replace g5 := Below.cellS hw hle g5
      obtain ⟨⟨xa4, xn4, xc4, rfl⟩, ⟨ya4, yn4, yc4, rfl⟩⟩ := hv.slices
      have HV : Hid (RV (fun b => b < H) w (dv j) (.slice xa4 xn4 xc4) (.slice ya4 yn4 yc4)) := hv
      clear hD hv hbl hw hle
      by_cases hja : j < at'
      · have hT := hlow.out j hja
        obtain rfl : m = j := by omega
        obtain ⟨hI, X0, Y0, hown, hel⟩ := hinv.out
        have HQ9 : Hid (WI H w wr (.mk 4 tn ts tln tl yn ky dv) (.slice xa xn xc) (.slice (some ⟨b, o, none⟩) yn yc) x (.slice xa2 xn2 xc2) (.slice ya2 yn2 yc2) ∧ (∀ i, i < m → RV (fun b => b < H) w (nv dv x at' f i) (X0 i) (Y0 i))) := ⟨hI, hel⟩
        have hl4 : H + 3 ≤ wr.heap.size := by have := hI.2.2.2.lt; omega
        clear hinv hI hel hm
        go_wp2_with (at_builtin; refine wpList_append_lies _ rfl _ _ 23 rfl (H + 3) 42 i0 _ 6 96 Try.underlying23 hi hz0 hz1 hz2 rfl (by omega) (.slice la m lc) m (rowD (nk ky key at' f) (nv dv x at' f) X0 Y0 m) rfl (hown.alloc _) ⟨wr.heap.size, 0, none⟩ 1 1 (.string (nk ky key at' f m) :: cv (nv dv x at' f m) (.slice xa4 xn4 xc4) (.slice ya4 yn4 yc4)) rfl rfl ?_ ?_ (by omega) (by unfold maxLen; omega) (by omega) (by simp; omega) (wr.heap.size + 1) (by simp) ?_)
        · rw [nk_lt hja, nv_lt hja]; exact World.news_of_block (B := wr.heap.size) (heap_new wr _)
        · intro u hu; simp [cv] at hu; rcases hu with rfl | rfl | rfl | rfl | rfl | rfl <;> rfl
        intro g cap w3 hown3 hgrow hat hlt3'
        have HN : Hid _ := DR.step HS.out HQ9.out.1 hown HQ9.out.2 (by rw [nv_lt hja]; exact HV.out) ((Below.refl _ _).alloc (Nat.le_refl _) _) hgrow hown3
        clear HQ9 hown hown3 hgrow hat hlt3' HV g0 g1 g2 g3 g4 g5 e4 hT
        go_wp2
        go_roundw
        case rel => exact ⟨m + 1, m + 1, _, _, by omega, by omega, by go_num, rfl, HN.out⟩
        case measure => simp [intOf]; omega
      · have hT := hhigh.out j (by omega) hlt
        clear HV g1 g2 g3 g4 g5
        go_wp2
        go_roundw
        case rel => exact ⟨j + 1, m, la, lc, by omega, by omega, by go_num, rfl, hinv⟩
        case measure => simp [intOf]; omega
    · obtain rfl : j = yn := by omega
      obtain rfl : m = at' := by omega
      clear hm
      obtain ⟨d0, d1, d2, d3, d4⟩ := hinv.out.1.2.2.1.cells
      obtain ⟨hI, X0, Y0, hown, hel⟩ := hinv.out
      have HQ9 : Hid (WI H w wr (.mk 4 tn ts tln tl j ky dv) (.slice xa xn xc) (.slice ya j yc) x (.slice xa2 xn2 xc2) (.slice ya2 yn2 yc2) ∧ (∀ i, i < m → RV (fun b => b < H) w (nv dv x m f i) (X0 i) (Y0 i))) := ⟨hI, hel⟩
      have HV : Hid (RV (fun b => b < H) w x (.slice xa2 xn2 xc2) (.slice ya2 yn2 yc2)) := RV.lift (Nat.le_refl _) (fun _ _ => rfl) (fun b hb => by have := HS.out; omega) _ _ _ HR.out.2.1
      have hl4 : H + 3 ≤ wr.heap.size := by have := hI.2.2.2.lt; omega
      clear hinv hI hel
      go_wp2_with (at_builtin; refine wpList_append_lies _ rfl _ _ 23 rfl (H + 3) 42 i0 _ 6 96 Try.underlying23 hi hz0 hz1 hz2 rfl (by omega) (.slice la m lc) m (rowD (nk ky key m f) (nv dv x m f) X0 Y0 m) rfl (hown.alloc _) ⟨wr.heap.size, 0, none⟩ 1 1 (.string (nk ky key m f m) :: cv (nv dv x m f m) (.slice xa2 xn2 xc2) (.slice ya2 yn2 yc2)) rfl rfl ?_ ?_ (by omega) (by unfold maxLen; omega) (by omega) (by simp; omega) (wr.heap.size + 1) (by simp) ?_)
      · rw [nk_at, nv_at]; exact World.news_of_block (B := wr.heap.size) (heap_new wr _)
      · intro u hu; simp [cv] at hu; rcases hu with rfl | rfl | rfl | rfl | rfl | rfl <;> rfl
      intro g cap w3 hown3 hgrow hat hlt3'
      have HN : Hid _ := DR.step HS.out HQ9.out.1 hown HQ9.out.2 (by rw [nv_at]; exact HV.out) ((Below.refl _ _).alloc (Nat.le_refl _) _) hgrow hown3
      clear HQ9 hown hown3 hgrow hat hlt3' HV d0 d1 d2 d3 d4 e4 hj hlt
      obtain ⟨fo, hfo1, hfo0⟩ : ∃ fo : Nat, (f = true → fo = 1) ∧ (f = false → fo = 0) := ⟨if f = true then 1 else 0, fun h => by rw [if_pos h], fun h => by rw [if_neg (by rw [h]; simp)]⟩
      have hfo : fo ≤ 1 := by cases f with
        | true => rw [hfo1 rfl]; exact Nat.le_refl _
        | false => rw [hfo0 rfl]; omega
      have hatf : Hid (f = true → m < j) := fun h => (HK.out.2.1.2.1 h).1
      have HF : Hid ((f = true → fo = 1) ∧ (f = false → fo = 0)) := ⟨hfo1, hfo0⟩
      clear hfo1 hfo0
      go_wp2
      go_loopw [9, 11] (fun d i wr => ∃ (j2 m2 : Nat) (la : Option Addr) (lc : Nat), j2 ≤ j ∧ m2 = m + 1 + (j2 - (m + fo)) ∧ i = .int .i64 j2 ∧ d = .slice la m2 lc ∧ Hid (WI H w wr (.mk 4 tn ts tln tl j ky dv) (.slice xa xn xc) (.slice ya j yc) x (.slice xa2 xn2 xc2) (.slice ya2 yn2 yc2) ∧ DR H w wr (nk ky key m f) (nv dv x m f) m2 (.slice la m2 lc))) (fun _ i _ => j - (intOf i).toNat)
      case atStart => exact ⟨0, m + 1, _, _, Nat.zero_le _, by omega, rfl, rfl, HN.out⟩
      case round =>
        clear HN
        obtain ⟨j2, m2, la, lc, hj, hm, rfl, rfl, hinv⟩ := hrel
        obtain ⟨_, _, _, _, e4⟩ := hinv.out.1.2.1.cells
        by_cases hlt : j2 < j
        · rcases HD.out with h | ⟨b, o, rfl, hbl, hD⟩
          · omega
          obtain ⟨X, Y, hv, g0, g1, g2, g3, g4, g5⟩ := hD j2 hlt
          have hw := hinv.out.1.1
          have hle : w.heap.size ≤ H := Nat.le_of_eq HS.out
          replace g0 := Below.cellS hw hle g0
          replace g1 := Below.cellS hw hle g1
          replace g2 := Below.cellS hw hle g2
          replace g3 := Below.cellS hw hle g3
          replace g4 := Below.cellS hw hle g4
          replace g5 := Below.cellS hw hle g5
          obtain ⟨⟨xa4, xn4, xc4, rfl⟩, ⟨ya4, yn4, yc4, rfl⟩⟩ := hv.slices
          have HV : Hid (RV (fun b => b < H) w (dv j2) (.slice xa4 xn4 xc4) (.slice ya4 yn4 yc4)) := hv
          clear hD hv hbl hw hle
          by_cases hja : j2 < m + fo
          · have hT : Op.bytesLess (ky j2).toList key.toList = true ∨ ((ky j2).toList == key.toList) = true := by
              by_cases h1 : j2 < m
              · exact .inl (hlow.out j2 h1)
              · have h2 : f = true := by
                  cases hf : f with
                  | true => rfl
                  | false => have := HF.out.2 hf; omega
                have h3 : j2 = m := by omega
                subst h3
                exact .inr (by simpa using (HK.out.2.1.2.1 h2).2)
            clear HV g1 g2 g3 g4 g5
            rcases hT with hT | hT
            all_goals
              go_wp2
              go_roundw
              case rel => exact ⟨j2 + 1, m2, la, lc, by omega, by omega, by go_num, rfl, hinv⟩
              case measure => simp [intOf]; omega
          · have hgt := key_gt HK.out.1 HK.out.2.1 hlt (by omega) (fun h => by have := HF.out.1 h; omega)
            have tri := bytes_tri (ky j2).toList key.toList
            rw [hgt] at tri
            have hT1 : Op.bytesLess (ky j2).toList key.toList = false := by
              cases hc : Op.bytesLess (ky j2).toList key.toList with
              | false => rfl
              | true => rw [hc] at tri; simp at tri
            have hT2 : ((ky j2).toList == key.toList) = false := by
              cases hc : ((ky j2).toList == key.toList) with
              | false => rfl
              | true => rw [hc] at tri; simp at tri
            have hgtm : m < m2 := by omega
            have hk2 : nk ky key m f m2 = ky j2 := by
              rw [nk_gt hgtm]
              cases hf : f with
              | true => have := HF.out.1 hf; rw [if_pos rfl]; congr 1; omega
              | false => have := HF.out.2 hf; rw [if_neg (by simp)]; congr 1; omega
            have hv2 : nv dv x m f m2 = dv j2 := by
              rw [nv_gt hgtm]
              cases hf : f with
              | true => have := HF.out.1 hf; rw [if_pos rfl]; congr 1; omega
              | false => have := HF.out.2 hf; rw [if_neg (by simp)]; congr 1; omega
            have HE : Hid (nk ky key m f m2 = ky j2 ∧ nv dv x m f m2 = dv j2) := ⟨hk2, hv2⟩
            clear tri hgt hk2 hv2
            obtain ⟨hI, X0, Y0, hown, hel⟩ := hinv.out
            have HQ9 : Hid (WI H w wr (.mk 4 tn ts tln tl j ky dv) (.slice xa xn xc) (.slice (some ⟨b, o, none⟩) j yc) x (.slice xa2 xn2 xc2) (.slice ya2 yn2 yc2) ∧ (∀ i, i < m2 → RV (fun b => b < H) w (nv dv x m f i) (X0 i) (Y0 i))) := ⟨hI, hel⟩
            have hl4 : H + 3 ≤ wr.heap.size := by have := hI.2.2.2.lt; omega
            have HM : Hid (m2 = m + 1 + (j2 - (m + fo))) := hm
            have hm2 : m2 ≤ 2147483649 := by omega
            clear hinv hI hel hm
            go_wp2_with (at_builtin; refine wpList_append_lies _ rfl _ _ 23 rfl (H + 3) 42 i0 _ 6 96 Try.underlying23 hi hz0 hz1 hz2 rfl (by omega) (.slice la m2 lc) m2 (rowD (nk ky key m f) (nv dv x m f) X0 Y0 m2) rfl (hown.alloc _) ⟨wr.heap.size, 0, none⟩ 1 1 (.string (nk ky key m f m2) :: cv (nv dv x m f m2) (.slice xa4 xn4 xc4) (.slice ya4 yn4 yc4)) rfl rfl ?_ ?_ (by omega) (by unfold maxLen; omega) (by omega) (by simp; omega) (wr.heap.size + 1) (by simp) ?_)
            · rw [HE.out.1, HE.out.2]; exact World.news_of_block (B := wr.heap.size) (heap_new wr _)
            · intro u hu; simp [cv] at hu; rcases hu with rfl | rfl | rfl | rfl | rfl | rfl <;> rfl
            intro g cap w3 hown3 hgrow hat hlt3'
            have HN : Hid _ := DR.step HS.out HQ9.out.1 hown HQ9.out.2 (by rw [HE.out.2]; exact HV.out) ((Below.refl _ _).alloc (Nat.le_refl _) _) hgrow hown3
            clear HQ9 hown hown3 hgrow hat hlt3' HV g0 g1 g2 g3 g4 g5 e4 hT1 hT2
            go_wp2
            go_roundw
            case rel => exact ⟨j2 + 1, m2 + 1, _, _, by omega, by have := HM.out; omega, by go_num, rfl, HN.out⟩
            case measure => simp [intOf]; omega
        · obtain rfl : j2 = j := by omega
          have hnn : m2 = nn j2 f := by
            unfold nn
            cases hf : f with
            | true => have := HF.out.1 hf; have := hatf.out hf; rw [if_pos rfl]; omega
            | false => have := HF.out.2 hf; rw [if_neg (by simp)]; omega
          clear hm
          subst hnn
          have hA : Below wr.heap.size wr (wr.alloc (Obj.cells #[.int .i64 4, .int .i64 0, .string { data := #[] }, .slice .none 0 0, .slice la (nn j2 f) lc] 25)) := (Below.refl _ _).alloc (Nat.le_refl _) _
          have hX : obj (wr.alloc (Obj.cells #[.int .i64 4, .int .i64 0, .string { data := #[] }, .slice .none 0 0, .slice la (nn j2 f) lc] 25)) wr.heap.size (.int .i64 4) (.int .i64 0) (.string { data := #[] }) (.slice .none 0 0) (.slice la (nn j2 f) lc) := heap_new _ _
          have HRV : Hid (RV (fun b => b ≠ H + 1 + 1) (wr.alloc (Obj.cells #[.int .i64 4, .int .i64 0, .string { data := #[] }, .slice .none 0 0, .slice la (nn j2 f) lc] 25)) (withT j2 ky dv key x m f) (.slice .none 0 0) (.slice la (nn j2 f) lc)) :=
            ⟨⟨_, _, rfl, .inl rfl⟩, RD.keep (fun _ h => h) hA.size (fun b _ hl => hA.block b hl) (hinv.out.2.rd hinv.out.1.1)⟩
          have HI3 : Hid (WI H w (wr.alloc (Obj.cells #[.int .i64 4, .int .i64 0, .string { data := #[] }, .slice .none 0 0, .slice la (nn j2 f) lc] 25)) (.mk 4 tn ts tln tl j2 ky dv) (.slice xa xn xc) (.slice ya j2 yc) x (.slice xa2 xn2 xc2) (.slice ya2 yn2 yc2)) := WI.keep hinv.out.1 HS.out hA
          have HOK : Hid (withT j2 ky dv key x m f).ok := withT_ok hdn hkey HK.out.2.2.2 HR.out.2.2.2.2 (fun _ => hat1) (fun h => hatf.out h)
          clear hinv hA
          go_wp2_with fail
          generalize hwb : wr.heap.size = wb at *
          clear hwb
          generalize wr.alloc (Obj.cells #[.int .i64 4, .int .i64 0, .string { data := #[] }, .slice .none 0 0, .slice la (nn j2 f) lc] 25) = w4 at *
          clear e4
          refine (valid13 (withT j2 ky dv key x m f) _ _ w4 HOK.out (RV.move (fun _ _ _ => trivial) (Nat.le_refl _) (fun _ _ _ => rfl) _ _ _ HRV.out)).mono ?_
          rw [wk_with HK.out.1 HK.out.2.1 hdict.out, HK.out.2.2.1]
          rintro e w5 ⟨rfl, hb5⟩
          replace HI3 : Hid _ := WI.keep HI3.out HS.out hb5
          replace hX := hX.keep (hb5.block _ hX.lt)
          have HRV5 : Hid (RV (fun b => b ≠ H + 1 + 1) w5 (withT j2 ky dv key x m f) (.slice .none 0 0) (.slice la (nn j2 f) lc)) := RV.move (fun _ h _ => h) hb5.size (fun b _ hl => hb5.block b hl) _ _ _ HRV.out
          clear hb5
          obtain ⟨c0, c1, c2, c3, c4⟩ := HI3.out.2.2.2.cells
          have z0 := HI3.out.2.2.2.frozen 0
          have z1 := HI3.out.2.2.2.frozen 1
          have z2 := HI3.out.2.2.2.frozen 2
          have z3 := HI3.out.2.2.2.frozen 3
          have z4 := HI3.out.2.2.2.frozen 4
          by_cases he1 : e1 = 0
          · subst he1
            obtain ⟨q0, q1, q2, q3, q4⟩ := hX.cells
            clear hX
            go_wp2
            have hbs := set5_below HI3.out.1 (show H ≤ H + 1 + 1 by omega) 0 (.int .i64 4) (.int .i64 0) (.string { data := #[] }) (.slice .none 0 0) (.slice la (nn j2 f) lc)
            refine bodyPost_ret (v := .tuple #[.agg #[.int .i64 4, .int .i64 0, .string { data := #[] }, .slice .none 0 0, .slice la (nn j2 f) lc], .int .i64 0]) (results_cell2 Try.results15 _ _ (H + 1 + 1) _ rfl (((((HI3.out.2.2.2.set0 _).set1 _).set2 _).set3 _).set4 _) rfl) rfl
              ⟨withT j2 ky dv key x m f, 0, _, _, rfl, ?_, by rw [HS.out]; exact hbs, .inr (.inr (.inr (.inr ⟨HQ.out, rfl, HQ2.out, HK.out.2.2.1, rfl, _, _, _, _, _, _, _, _, _, rfl, HK.out.2.1, rfl⟩))), HOK.out⟩
            exact RV.move (w' := set5 w5 (H + 1 + 1) 0 (.int .i64 4) (.int .i64 0) (.string { data := #[] }) (.slice .none 0 0) (.slice la (nn j2 f) lc)) (fun _ _ _ => trivial) (by rw [set5_size]; exact Nat.le_refl _) (fun b hb _ => set5_block _ _ _ _ _ _ _ _ _ hb) _ _ _ HRV5.out
          · have he1' : (e1 != 0) = true := by simpa using he1
            clear hX
            have HE1 : Hid (e1 ≠ 0) := he1
            clear he1
            go_wp2
            exact bodyPost_ret (v := .tuple #[.agg #[.int .i64 0, .int .i64 0, .string { data := #[] }, .slice .none 0 0, .slice .none 0 0], .int .i64 e1]) (results_cell2 Try.results15 _ _ (H + 1 + 1) _ rfl (((((HI3.out.2.2.2.set0 _).set1 _).set2 _).set3 _).set4 _) rfl) rfl
              ⟨zeroT, e1, _, _, rfl, (with_bad HS.out HI3.out).1, (with_bad HS.out HI3.out).2, .inr (.inr (.inr (.inl ⟨HQ.out, rfl, HQ2.out, by rw [HK.out.2.2.1]; exact HE1.out, rfl, HK.out.2.2.1.symm⟩))), zeroT_ok⟩
end Go.Proofs.Ytddcnmbfgogdbaa
