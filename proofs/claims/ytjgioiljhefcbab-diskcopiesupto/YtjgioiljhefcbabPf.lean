import Derived.Test.YtjgioiljhefcbabAw
namespace Go.Proofs.Ytjgioiljhefcbab
open Go.RowKit
/-- the writes of a law that the disk has -/
def ins (l : List UInt8) (us : List Wv) : List Wv := us.filter (isIn ((wh l).length / 64))
/-- the disk that is made of them -/
def dk0 (l : List UInt8) (us : List Wv) : Dk := ⟨wh l, (ins l us).map mkW, none⟩
/-- what every law has at hand -/
structure PX (w wr : World) (iv v ov lv : Value) (l : List UInt8) (us : List Wv) : Prop where
  b : Below w.heap.size w wr
  i : RB wr iv l
  r : RWv wr v us
  o : OW w.heap.size wr ov (wh l)
  x : OWv w.heap.size wr lv (ins l us)
theorem PX.on {w wr w2 : World} {iv v ov lv : Value} {l : List UInt8} {us : List Wv} (h : PX w wr iv v ov lv l us) (hb : Below wr.heap.size wr w2) : PX w w2 iv v ov lv l us :=
  ⟨h.b.trans (hb.mono h.b.size), h.i.keep hb, h.r.keep hb, h.o.grow hb, ownsRow_fr (S := fun _ => True) h.x (Fr.of_below hb) (fun _ _ => trivial)⟩
theorem PX.rx {w wr : World} {iv v ov lv : Value} {l : List UInt8} {us : List Wv} (h : PX w wr iv v ov lv l us) : RWv wr lv (ins l us) := h.x.rw (fun u hu => h.r.2 u (List.mem_filter.1 hu).1)
theorem ins_in (l : List UInt8) (us : List Wv) : ∀ u ∈ ins l us, 0 ≤ u.at_ ∧ 64 * u.at_ + 64 ≤ ((wh l).length : Int) := fun u hu => by
  have := (List.mem_filter.1 hu).2
  simp [isIn] at this
  omega
theorem ins_len (l : List UInt8) (us : List Wv) : (ins l us).length ≤ us.length := List.length_filter_le _ _
theorem PX.made {w wr : World} {iv v ov lv : Value} {l : List UInt8} {us : List Wv} (h : PX w wr iv v ov lv l us) (hl : us.length ≤ 1048576) : Calls Try.prog 9 #[ov, lv] wr (MadE wr (wh l) (ins l us)) := by
  obtain ⟨g1, g2, g3⟩ := wh_gd l
  exact Go.Proofs.Ytjgioiljhefcbab.made ov lv (wh l) (ins l us) wr h.o.rb g1 g2 (by omega) h.rx (Nat.le_trans (ins_len l us) hl) (ins_in l us)
theorem OBo.on {B : Nat} {w w2 : World} {v : Value} {l : List Bool} (h : OBo B w v l) (hb : Below w.heap.size w w2) : OBo B w2 v l := ownsRow_fr (S := fun _ => True) h (Fr.of_below hb) (fun _ _ => trivial)
/-- one of the bools is written -/
theorem OBo.set {B : Nat} {w : World} {g c n : Nat} {l : List Bool} (h : OBo B w (.slice (some ⟨g, 0, none⟩) n c) l) (t : Nat) (ht : t < l.length) (b : Bool) :
    w.cell? ⟨g, t, none⟩ = some (.bool (l.getD t false)) ∧ w.frozen? ⟨g, t, none⟩ = false ∧ OBo B (w.setCell ⟨g, t, none⟩ (.bool b)) (.slice (some ⟨g, 0, none⟩) n c) (l.set t b) ∧ Fr (fun k => k ≠ g) w (w.setCell ⟨g, t, none⟩ (.bool b)) := by
  have hr := h.rb
  rcases h.2 with ⟨e, _⟩ | ⟨g', c', cur, e, h1, h2, h3, h4, h5, h6⟩
  · cases e
  have e' := e
  simp only [Value.slice.injEq, Option.some.injEq, Addr.mk.injEq] at e
  obtain ⟨⟨rfl, _⟩, _, rfl⟩ := e
  rw [Nat.mul_one] at h5 h6
  refine ⟨?_, by simp [World.frozen?, h2], ?_, setCell_fr _ _ _ _⟩
  · obtain ⟨a', c', e2, _, hh⟩ := hr
    simp only [Value.slice.injEq] at e2
    rcases hh with h0 | ⟨g2, o2, e3, _, hc⟩
    · rw [h0] at ht; simp at ht
    · rw [e3] at e2
      simp only [Option.some.injEq, Addr.mk.injEq] at e2
      obtain ⟨⟨rfl, rfl, _⟩, _⟩ := e2
      have := hc t ht
      rwa [Nat.zero_add] at this
  · refine ⟨by simp, .inr ⟨g, c, cur.setIfInBounds t (.bool b), by rw [List.length_set]; exact e', h1, ?_, by rw [List.length_set]; exact h3, h4, by simp; exact h5, ?_⟩⟩
    · rw [setCell_eq_setRow w g _ _ _ _ _ h2]; exact heapSetRow _ _ _ _ _ h2
    · rw [List.length_set, Nat.mul_one, Array.toList_setIfInBounds, List.take_set, h6, List.map_set]
theorem crS_same {k1 k2 : List Bool} {t1 t2 : Int} {c1 c2 : Nat} : ∀ (xs : List (Nat × List UInt8)) (c : List UInt8), c.length = 64 → (∀ x ∈ xs, x.2.length = 64) → c1 ≤ 64 → (∀ x ∈ xs, ∀ c : List UInt8, c.length = 64 → crX k1 t1 c1 c x = crX k2 t2 c2 c x) → crS k1 t1 c1 xs c = crS k2 t2 c2 xs c
  | [], _, _, _, _, _ => rfl
  | x :: xs, c, hc, hx, h1, h => by
    simp only [crS, List.foldl_cons]
    rw [← h x List.mem_cons_self c hc]
    exact crS_same xs _ (crX_len hc (hx x List.mem_cons_self) h1) (fun y hy => hx y (List.mem_cons_of_mem _ hy)) h1 (fun y hy => h y (List.mem_cons_of_mem _ hy))
/-- two crashes that do the same to every write -/
theorem crD_same {D : Dk} (hg : Gd D) {k1 k2 : List Bool} {t1 t2 : Int} {c1 c2 : Nat} (h1 : c1 ≤ 64) (h : ∀ (x : Nat × List UInt8) (c : List UInt8), x.1 < D.ws.length → x.2.length = 64 → c.length = 64 → crX k1 t1 c1 c x = crX k2 t2 c2 c x) : crD k1 t1 c1 D.last D.ws = crD k2 t2 c2 D.last D.ws := by
  rw [crD_eq, crD_eq]
  apply lf_congr
  intro i hi
  unfold crB
  have h64 := hg.mul
  rw [crS_same (k2 := k2) (t2 := t2) (c2 := c2) _ _ (sec_len _ _ (by omega)) (fun x hx => (hg.lv hx).2) h1 (fun x hx c hc => h x c (hg.lv hx).1 (hg.lv hx).2 hc)]
theorem set_getD (l : List Bool) (t i : Nat) (b : Bool) (ht : t < l.length) : (l.set t b).getD i false = if i = t then b else l.getD i false := by
  simp only [List.getD_eq_getElem?_getD, List.getElem?_set]
  by_cases h : t = i
  · subst h; simp [ht]
  · rw [if_neg h, if_neg (fun e => h e.symm)]
theorem torn0 {D : Dk} (hg : Gd D) (k : List Bool) (t : Nat) (ht : t < k.length) : crD k t 0 D.last D.ws = crD (k.set t false) (-1) 0 D.last D.ws := by
  refine crD_same hg (by omega) (fun x c _ hx hc => ?_)
  unfold crX
  rw [if_neg (show ¬ (x.1 : Int) = -1 by omega), set_getD k t x.1 false ht]
  by_cases h : (x.1 : Int) = t
  · rw [if_pos h, if_pos (show x.1 = t by omega)]
    simp
  · rw [if_neg h, if_neg (show ¬ x.1 = t by omega)]
theorem torn64 {D : Dk} (hg : Gd D) (k : List Bool) (t : Nat) (ht : t < k.length) : crD k t 64 D.last D.ws = crD (k.set t true) (-1) 0 D.last D.ws := by
  refine crD_same hg (by omega) (fun x c _ hx hc => ?_)
  unfold crX
  rw [if_neg (show ¬ (x.1 : Int) = -1 by omega), set_getD k t x.1 true ht]
  by_cases h : (x.1 : Int) = t
  · rw [if_pos h, if_pos (show x.1 = t by omega), List.take_of_length_le (by omega), List.drop_of_length_le (by omega)]
    simp
  · rw [if_neg h, if_neg (show ¬ x.1 = t by omega)]
end Go.Proofs.Ytjgioiljhefcbab
