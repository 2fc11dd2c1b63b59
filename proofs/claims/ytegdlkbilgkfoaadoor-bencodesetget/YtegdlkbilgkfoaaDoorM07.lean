import Derived.Test.YtegdlkbilgkfoaaDoorM05
import Derived.Test.YtegdlkbilgkfoaaDoorM06
namespace Go.Proofs.YtegdlkbilgkfoaaDoor
open Go.RowKit Go.Deep
set_option maxRecDepth 20000
theorem Fd.unique {ky : Nat → ByteArray} {dn a1 a2 : Nat} {key : ByteArray} {f1 f2 : Bool} (h1 : Fd ky dn key a1 f1) (h2 : Fd ky dn key a2 f2) : a1 = a2 ∧ f1 = f2 := by
  have one : ∀ a b, At ky dn key a → At ky dn key b → ¬ a < b := fun a b ha hb hlt => by
    have e1 := hb.2.1 a hlt
    have e2 := ha.2.2 a (Nat.le_refl _) (by have := hb.1; omega)
    rw [e1] at e2; cases e2
  have e : a1 = a2 := by
    have n1 := one a1 a2 h1.1 h2.1
    have n2 := one a2 a1 h2.1 h1.1
    omega
  subst e
  refine ⟨rfl, ?_⟩
  have := h1.2.trans h2.2.symm
  cases f1 <;> cases f2 <;> simp_all
/-- what With answers -/
def WS (t : T) (key : ByteArray) (x : T) (u : T) (er : Int) : Prop :=
  (wk t 0 ≠ 0 ∧ u = zeroT ∧ er = wk t 0) ∨ (wk t 0 = 0 ∧ t.k ≠ 4 ∧ u = zeroT ∧ er = 28) ∨ (wk t 0 = 0 ∧ t.k = 4 ∧ wk x 0 ≠ 0 ∧ u = zeroT ∧ er = wk x 0) ∨
  (wk t 0 = 0 ∧ t.k = 4 ∧ wk x 0 = 0 ∧ wk x 1 ≠ 0 ∧ u = zeroT ∧ er = wk x 1) ∨
  (wk t 0 = 0 ∧ t.k = 4 ∧ wk x 0 = 0 ∧ wk x 1 = 0 ∧ er = 0 ∧ ∃ n s ln l dn ky dv at' f, t = .mk 4 n s ln l dn ky dv ∧ Fd ky dn key at' f ∧ u = withT dn ky dv key x at' f)
theorem WS.unique {t : T} {key : ByteArray} {x u u' : T} {er er' : Int} (h : WS t key x u er) (h' : WS t key x u' er') : u = u' ∧ er = er' := by
  rcases h with ⟨a1, rfl, rfl⟩ | ⟨a1, a2, rfl, rfl⟩ | ⟨a1, a2, a3, rfl, rfl⟩ | ⟨a1, a2, a3, a4, rfl, rfl⟩ | ⟨a1, a2, a3, a4, rfl, n, s, ln, l, dn, ky, dv, at1, f1, rfl, hf, rfl⟩ <;>
  rcases h' with ⟨b1, rfl, rfl⟩ | ⟨b1, b2, rfl, rfl⟩ | ⟨b1, b2, b3, rfl, rfl⟩ | ⟨b1, b2, b3, b4, rfl, rfl⟩ | ⟨b1, b2, b3, b4, rfl, n', s', ln', l', dn', ky', dv', at2, f2, ht, hf', rfl⟩ <;>
  first
    | exact ⟨rfl, rfl⟩
    | exact absurd b1 a1
    | exact absurd a1 b1
    | exact absurd b2 a2
    | exact absurd a2 b2
    | exact absurd b3 a3
    | exact absurd a3 b3
    | exact absurd b4 a4
    | exact absurd a4 b4
    | (cases ht
       obtain ⟨rfl, rfl⟩ := hf.unique hf'
       exact ⟨rfl, rfl⟩)
/-- the place of a key, and whether it stands there -/
theorem exists_fd (ky : Nat → ByteArray) (dn : Nat) (key : ByteArray) (hri : Rise ky dn) : ∃ at' f, Fd ky dn key at' f := by
  have : ∃ at', At ky dn key at' := by
    induction dn with
    | zero => exact ⟨0, Nat.le_refl _, fun p hp => absurd hp (Nat.not_lt_zero _), fun p _ hp => absurd hp (Nat.not_lt_zero _)⟩
    | succ n ih =>
      obtain ⟨a, h1, h2, h3⟩ := ih (fun p q hpq hq => hri p q hpq (by omega))
      by_cases e : a = n
      · cases hc : Op.bytesLess (ky n).toList key.toList with
        | true => exact ⟨n + 1, Nat.le_refl _, at_low hri (by omega) hc, fun p h1 h2 => by omega⟩
        | false => exact ⟨n, by omega, e ▸ h2, at_high hri hc⟩
      · refine ⟨a, by omega, h2, fun p hp1 hp2 => at_high hri (h3 a (Nat.le_refl _) (by omega)) p hp1 hp2⟩
  obtain ⟨a, ha⟩ := this
  by_cases h : a < dn ∧ (ky a).toList = key.toList
  · exact ⟨a, true, ha, by simp [h]⟩
  · exact ⟨a, false, ha, by simp; intro h1 h2; exact h ⟨h1, h2⟩⟩
/-- the new row of pairs so far -/
def DR (H : Nat) (w wr : World) (kk : Nat → ByteArray) (vv' : Nat → T) (m : Nat) (lv : Value) : Prop :=
  ∃ X Y, wr.ownsRow (H + 3) 48 6 lv m (rowD kk vv' X Y m) ∧ ∀ i, i < m → RV (fun b => b < H) w (vv' i) (X i) (Y i)
theorem DR.rd {H : Nat} {w wr : World} {kk : Nat → ByteArray} {vv' : Nat → T} {m : Nat} {lv : Value} (h : DR H w wr kk vv' m lv) (hb : Below H w wr) : RD (fun b => b ≠ H + 1 + 1) wr m kk vv' lv := by
  obtain ⟨X, Y, hown, hel⟩ := h
  rcases hown.2 with ⟨rfl, rfl⟩ | ⟨g, cap, cur, rfl, hg1, hg2, _⟩
  · exact ⟨_, _, rfl, .inl rfl⟩
  have hg : g < wr.heap.size := (Array.getElem?_eq_some_iff.1 hg2).1
  refine ⟨_, _, rfl, .inr ⟨g, 0, rfl, (by omega), hg, fun i hi => ⟨X i, Y i, RV.move (fun b hb' _ => (by omega)) hb.size (fun b hb' hl => hb.block b hb') _ _ _ (hel i hi), ?_⟩⟩⟩
  have c : ∀ r, r < 6 → wr.cell? ⟨g, i * 6 + r, none⟩ = (.string (kk i) :: cv (vv' i) (X i) (Y i))[r]? := fun r hr => by
    rw [hown.cellAt (i * 6 + r) (by omega), rowD_get _ _ _ _ _ _ hr _ hi]
  have c0 := c 0 (by omega)
  have c1 := c 1 (by omega)
  have c2 := c 2 (by omega)
  have c3 := c 3 (by omega)
  have c4 := c 4 (by omega)
  have c5 := c 5 (by omega)
  simp only [cv, Nat.add_zero] at c0 c1 c2 c3 c4 c5
  simp only [Nat.zero_add]
  exact ⟨c0, c1, c2, c3, c4, c5⟩
theorem DR.form {H : Nat} {w wr : World} {kk : Nat → ByteArray} {vv' : Nat → T} {m : Nat} {lv : Value} (h : DR H w wr kk vv' m lv) : ∃ a c, lv = .slice a m c := ownForm h.choose_spec.choose_spec.1
/-- the boxes of With -/
def WI (H : Nat) (w wr : World) (t : T) (x y : Value) (t2 : T) (x2 y2 : Value) : Prop :=
  Below H w wr ∧ obj wr H (.int .i64 t.k) (.int .i64 t.n) (.string t.s) x y ∧ obj wr (H + 1) (.int .i64 t2.k) (.int .i64 t2.n) (.string t2.s) x2 y2 ∧ obj wr (H + 1 + 1) (.int .i64 0) (.int .i64 0) (.string { data := #[] }) (.slice .none 0 0) (.slice .none 0 0)
theorem WI.keep {H : Nat} {w wr w' : World} {t t2 : T} {x y x2 y2 : Value} (h : WI H w wr t x y t2 x2 y2) (hS : w.heap.size = H) (hb : Below wr.heap.size wr w') : WI H w w' t x y t2 x2 y2 := by
  obtain ⟨h1, h2, h3, h4⟩ := h
  exact ⟨h1.trans (hb.mono (hS ▸ h1.size)), h2.keep (hb.block _ h2.lt), h3.keep (hb.block _ h3.lt), h4.keep (hb.block _ h4.lt)⟩
/-- one pair more -/
theorem DR.step {H : Nat} {w wr W w3 : World} {kk : Nat → ByteArray} {vv' : Nat → T} {m c g cap : Nat} {a : Option Addr} {X Y : Value} {X0 Y0 : Nat → Value} {t t2 : T} {x y x2 y2 : Value} (hS : w.heap.size = H) (hI : WI H w wr t x y t2 x2 y2)
    (hown : wr.ownsRow (H + 3) 48 6 (.slice a m c) m (rowD kk vv' X0 Y0 m)) (hel : ∀ i, i < m → RV (fun b => b < H) w (vv' i) (X0 i) (Y0 i)) (hr : RV (fun b => b < H) w (vv' m) X Y)
    (hW : Below wr.heap.size wr W) (hgrow : W.grownBy w3 (Value.slice a m c).ownBlock)
    (hown3 : w3.ownsRow (H + 3) 48 6 (.slice (some ⟨g, 0, none⟩) (m + 1) cap) (m + 1) (rowD kk vv' X0 Y0 m ++ (.string (kk m) :: cv (vv' m) X Y))) :
    WI H w w3 t x y t2 x2 y2 ∧ DR H w w3 kk vv' (m + 1) (.slice (some ⟨g, 0, none⟩) (m + 1) cap) := by
  have hlo := fun q (hq : (Value.slice a m c).ownBlock = some q) => (hown.lt q hq)
  obtain ⟨h1, h2, h3, h4⟩ := hI
  have l4 := h4.lt
  have s1 := hW.size
  have blk : ∀ q, q < H + 3 → w3.heap[q]? = wr.heap[q]? := fun q hq =>
    (hgrow.block q (by omega) (fun e => by have := (hlo q e.symm).1; omega)).trans (hW.block q (by omega))
  refine ⟨⟨(h1.trans (hW.mono (hS ▸ h1.size))).grown hgrow (by omega) (fun q hq => by have := (hlo q hq).1; omega), h2.keep (blk _ (by omega)), h3.keep (blk _ (by omega)), h4.keep (blk _ (by omega))⟩, upd X0 m X, upd Y0 m Y, ?_, fun i hi => ?_⟩
  · rw [rowD_succ]; exact hown3
  · rcases Nat.lt_succ_iff_lt_or_eq.1 hi with h | rfl
    · rw [upd_lt h, upd_lt h]; exact hel i h
    · rw [upd_eq, upd_eq]; exact hr
theorem withT_ok {dn : Nat} {ky : Nat → ByteArray} {dv : Nat → T} {key : ByteArray} {x : T} {at' : Nat} {f : Bool} (hdn : dn ≤ 2147483647) (hk : key.size ≤ 140737488351232) (h1 : ∀ i, i < dn → (ky i).size ≤ 140737488351232 ∧ (dv i).ok) (hx : x.ok) (hat : f = false → at' ≤ dn) (hat2 : f = true → at' < dn) : (withT dn ky dv key x at' f).ok := by
  refine ⟨Nat.zero_le _, Nat.zero_le _, ?_, fun _ hi => absurd hi (Nat.not_lt_zero _), fun i hi => ?_⟩
  · unfold nn; split <;> omega
  · unfold nn at hi
    by_cases e1 : i < at'
    · have : i < dn := by
        cases f with
        | true => have := hat2 rfl; omega
        | false => have := hat rfl; omega
      rw [nk_lt e1, nv_lt e1]; exact h1 i this
    · by_cases e2 : i = at'
      · subst e2; rw [nk_at, nv_at]; exact ⟨hk, hx⟩
      · rw [nk_gt (by omega), nv_gt (by omega)]
        cases f with
        | true => simp only [if_true] at hi ⊢; exact h1 i hi
        | false => simp only [Bool.false_eq_true, if_false] at hi ⊢; exact h1 (i - 1) (by omega)
/-- the return with an error -/
theorem with_bad {wr : World} {H : Nat} {w : World} {t t2 : T} {x y x2 y2 : Value} (hS : w.heap.size = H) (hI : WI H w wr t x y t2 x2 y2) :
    RV (fun _ => True) (set5 wr (H + 1 + 1) 0 (.int .i64 0) (.int .i64 0) (.string { data := #[] }) (.slice .none 0 0) (.slice .none 0 0)) zeroT (.slice .none 0 0) (.slice .none 0 0) ∧ Below w.heap.size w (set5 wr (H + 1 + 1) 0 (.int .i64 0) (.int .i64 0) (.string { data := #[] }) (.slice .none 0 0) (.slice .none 0 0)) := by
  refine ⟨⟨⟨_, _, rfl, .inl rfl⟩, ⟨_, _, rfl, .inl rfl⟩⟩, ?_⟩
  rw [hS]
  exact set5_below hI.1 (by omega) _ _ _ _ _ _

end Go.Proofs.YtegdlkbilgkfoaaDoor
