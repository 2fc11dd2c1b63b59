import Derived.Test.YtjhnkdhbjpddcaaDoorOpenR
import Derived.Test.YtjhnkdhbjpddcaaDoorWalkF
namespace Go.Proofs.YtjhnkdhbjpddcaaDoor
open Go.RowKit
/-- the error of Get and Put -/
def gE (n : Int) (l : List UInt8) (i : Int) : Int := if ck n l ≠ 0 then ck n l else if i < 0 ∨ n ≤ i then 43 else 0
def gB (n : Int) (l : List UInt8) (i : Int) : Bool := if gE n l i = 0 then bit l i.toNat else false
theorem gE_ck {n : Int} {l : List UInt8} {i : Int} (h : ck n l ≠ 0) : gE n l i = ck n l ∧ gB n l i = false := by
  have e : gE n l i = ck n l := by unfold gE; rw [if_pos h]
  exact ⟨e, by unfold gB; rw [e, if_neg h]⟩
theorem gE_ix {n : Int} {l : List UInt8} {i : Int} (h : ck n l = 0) (hi : i < 0 ∨ n ≤ i) : gE n l i = 43 ∧ gB n l i = false := by
  have e : gE n l i = 43 := by unfold gE; rw [if_neg (by simp [h]), if_pos hi]
  exact ⟨e, by unfold gB; rw [e, if_neg (by decide)]⟩
theorem gE_ok {n : Int} {l : List UInt8} {i : Int} (h : ck n l = 0) (hi : ¬ (i < 0 ∨ n ≤ i)) : gE n l i = 0 ∧ gB n l i = bit l i.toNat := by
  have e : gE n l i = 0 := by unfold gE; rw [if_neg (by simp [h]), if_neg hi]
  exact ⟨e, by unfold gB; rw [e, if_pos rfl]⟩
theorem gE_zero {n : Int} {l : List UInt8} {i : Int} (h : gE n l i = 0) : ck n l = 0 ∧ 0 ≤ i ∧ i < n := by
  unfold gE at h
  split at h
  · rename_i h1; exact absurd h h1
  · rename_i h1
    split at h
    · simp at h
    · exact ⟨by simpa using h1, by omega, by omega⟩
set_option maxHeartbeats 1000000 in
theorem get11 (n : Int) (h0 : -9223372036854775808 ≤ n) (h1 : n ≤ 9223372036854775807) (v : Value) (l : List UInt8) (i : Int) (g0 : -9223372036854775808 ≤ i) (g1 : i ≤ 9223372036854775807) (w : World) (hr : RB w v l) (hm : MT w) (hl : l.length ≤ 140737488351232) :
    Calls Tryd.prog 34 #[.int .i64 n, v, .int .i64 i] w fun e w' => e = .returned (.tuple #[.bool (gB n l i), .int .i64 (gE n l i)]) ∧ ∃ nq, w' = w.drewN nq := by
  have HC : Hid (Calls Tryd.prog 8 #[.int .i64 n, v] w fun e w' => e = .returned (.int .i64 (ck n l)) ∧ ∃ nq, w' = w.drewN nq) := check10 n h0 h1 v l w hr hm hl
  have HR : Hid (RB w v l ∧ MT w) := ⟨hr, hm⟩
  obtain ⟨a, c, rfl, _⟩ := hr
  clear hm
  by_cases hck : ck n l = 0
  · rw [hck] at HC
    by_cases hi : i < 0 ∨ n ≤ i
    · obtain ⟨e1, e2⟩ := gE_ix hck hi
      rw [e1, e2]
      have hn0 := (ck_ok hck).1
      clear e1 e2 hck
      rcases (by omega : i < 0 ∨ (0 ≤ i ∧ n ≤ i)) with hi | ⟨hi0, hi⟩
      · go_enter Tryd.func34, Tryd.ntmps34
        go_wp2_with (go_at_call 8; refine HC.out.mono ?_; rintro e w1 ⟨rfl, nq, rfl⟩)
        go_ret2
        exact ⟨rfl, _, rfl⟩
      · go_enter Tryd.func34, Tryd.ntmps34
        go_wp2_with (go_at_call 8; refine HC.out.mono ?_; rintro e w1 ⟨rfl, nq, rfl⟩)
        go_ret2
        exact ⟨rfl, _, rfl⟩
    · obtain ⟨e1, e2⟩ := gE_ok hck hi
      rw [e1, e2]
      obtain ⟨k0, k1, k2, k3⟩ := ck_ok hck
      obtain ⟨m, rfl⟩ := Int.eq_ofNat_of_zero_le k0
      obtain ⟨k, rfl⟩ := Int.eq_ofNat_of_zero_le (show 0 ≤ i by omega)
      have hk : k < m := by omega
      have hk8 : k < 8 * l.length := by have : (m : Int).toNat = m := by simp
                                        omega
      have HH : Hid (∀ nq, Calls Tryd.prog 18 #[.slice a l.length c, .int .i64 k] (w.drewN nq) fun e w' => e = .returned (.bool (bit l k)) ∧ ∃ n, w' = (w.drewN nq).drewN n) := fun nq =>
        has28 _ l k _ (HR.out.1.keep (belowDrew _ _)) (HR.out.2.keep (belowDrew _ _)) hk8 hl
      show Calls _ _ _ _ fun e w' => e = .returned (.tuple #[.bool (bit l k), .int .i64 0]) ∧ _
      clear e1 e2 hck k3 k2 hi k0 k1 g0 g1 h0 h1
      generalize bit l k = bt at *
      go_enter Tryd.func34, Tryd.ntmps34
      go_wp2_with (first | (go_at_call 8; refine HC.out.mono ?_; rintro e w1 ⟨rfl, nq, rfl⟩) | (go_at_call 18; refine (HH.out _).mono ?_; rintro e w2 ⟨rfl, nq2, rfl⟩))
      go_ret2
      exact ⟨rfl, _, rfl⟩
  · obtain ⟨e1, e2⟩ := gE_ck (i := i) hck
    rw [e1, e2]
    have hz : (ck n l != 0) = true := by simpa using hck
    clear e1 e2 hck
    generalize ck n l = z at *
    go_enter Tryd.func34, Tryd.ntmps34
    go_wp2_with (go_at_call 8; refine HC.out.mono ?_; rintro e w1 ⟨rfl, nq, rfl⟩)
    go_ret2
    exact ⟨rfl, _, rfl⟩
/-- what Put answers -/
def PU (n : Int) (l : List UInt8) (i : Int) (on : Bool) (r : List UInt8) : Prop := (gE n l i ≠ 0 ∧ r = []) ∨ (gE n l i = 0 ∧ BF n.toNat (fun k => if k = i.toNat then on else bit l k) r)
theorem PU.unique {n : Int} {l : List UInt8} {i : Int} {on : Bool} {r r' : List UInt8} (h : PU n l i on r) (h' : PU n l i on r') : r = r' := by
  rcases h with ⟨h1, rfl⟩ | ⟨h1, h2⟩
  · rcases h' with ⟨_, rfl⟩ | ⟨g1, _⟩
    · rfl
    · exact absurd g1 h1
  · rcases h' with ⟨g1, _⟩ | ⟨_, g2⟩
    · exact absurd h1 g1
    · exact BF.unique h2 g2 (fun _ _ => rfl)
theorem andNot_off (c : UInt8) (j : Nat) : bits .andNot .u8 (c.toNat : Int) (mk j : Int) = ((off c j).toNat : Int) := by
  rw [u8_andNot_nat _ _ (UInt8.toNat_lt _) (mk_lt _), off_toNat]
set_option maxHeartbeats 2000000 in
theorem put21 (n : Int) (h0 : -9223372036854775808 ≤ n) (h1 : n ≤ 9223372036854775807) (v : Value) (l : List UInt8) (i : Int) (g0 : -9223372036854775808 ≤ i) (g1 : i ≤ 9223372036854775807) (on : Bool) (w : World) (hr : RB w v l) (hm : MT w) (hl : l.length ≤ 140737488351232) :
    Calls Tryd.prog 24 #[.int .i64 n, v, .int .i64 i, .bool on] w fun e w' => ∃ v' r, e = .returned (.tuple #[v', .int .i64 (gE n l i)]) ∧ OW w.heap.size w' v' r ∧ PU n l i on r ∧ Below w.heap.size w w' := by
  have HG : Hid (Calls Tryd.prog 34 #[.int .i64 n, v, .int .i64 i] w fun e w' => e = .returned (.tuple #[.bool (gB n l i), .int .i64 (gE n l i)]) ∧ ∃ nq, w' = w.drewN nq) := get11 n h0 h1 v l i g0 g1 w hr hm hl
  have HR : Hid (RB w v l ∧ MT w) := ⟨hr, hm⟩
  obtain ⟨a, c, rfl, _⟩ := hr
  clear hm
  by_cases hg : gE n l i = 0
  · obtain ⟨hck, hi0, hin⟩ := gE_zero hg
    obtain ⟨k0, k1, k2, k3⟩ := ck_ok hck
    obtain ⟨m, rfl⟩ := Int.eq_ofNat_of_zero_le k0
    obtain ⟨k, rfl⟩ := Int.eq_ofNat_of_zero_le hi0
    have HK : Hid (ck m l = 0 ∧ gE m l k = 0 ∧ l.length = (m + 7) / 8) := ⟨hck, hg, by simpa using k2⟩
    have hk : k < m := by omega
    rw [hg] at HG ⊢
    clear k3 k2 hck hg k0 k1 g0 g1 h0 h1
    generalize gB m l k = gb at *
    cases on
    · go_enter Tryd.func24, Tryd.ntmps24
      go_wp2_with (first | (go_at_call 34; refine HG.out.mono ?_; rintro e w1 ⟨rfl, nq, rfl⟩) | (go_at_call 30; refine (clone34 _ l _ (HR.out.1.keep (belowDrew _ _)) hl).mono ?_; rintro e w2 ⟨v2, rfl, ho, hb2⟩; obtain ⟨a2, c2, rfl⟩ := ho.form))
      have hlen := HK.out.2.2
      obtain ⟨g2, rfl, hg2, q1, q2⟩ := ho.at (k / 8) (by omega)
      have hbw : Below w.heap.size w w2 := (belowDrew w nq).trans hb2
      have q3 := (HR.out.2.keep hbw).2 (k % 8) (Nat.mod_lt _ (by omega))
      have q4 := andNot_off (byt l (k / 8)) (k % 8)
      have HS : Hid (∀ j, bit (l.set (k / 8) (off (byt l (k / 8)) (k % 8))) j = (!decide (j = k) && bit l j)) := fun j => bit_set_off l k j (by omega)
      have HO : Hid (OW w.heap.size w2 (.slice (some ⟨g2, 0, none⟩) l.length c2) l ∧ Below w.heap.size w w2) := ⟨ho, hbw⟩
      have e1 : k / 8 < l.length := by omega
      have hg3 : w.heap.size ≤ g2 := hg2
      clear ho hbw hb2 hlen hg2
      generalize off (byt l (k / 8)) (k % 8) = y at *
      generalize (byt l (k / 8)) = x at *
      generalize mk (k % 8) = mm at *
      go_region
      go_wp2
      go_ret2
      refine ⟨_, l.set (k / 8) y, rfl, (HO.out.1.drew _).stored _ _, .inr ⟨HK.out.2.1, ?_, fun j => ?_⟩, (belowN HO.out.2 _).setCell (p := ⟨g2, k / 8, none⟩) hg3 _⟩
      · rw [List.length_set]; exact HK.out.2.2
      · rw [HS.out, (ck_bf HK.out.1).2]
        show _ = (decide (j < m) && if j = k then false else bit l j)
        by_cases hj : j = k
        · subst hj; simp [hk]
        · rw [decide_eq_false hj, if_neg hj]; simp
    · go_enter Tryd.func24, Tryd.ntmps24
      go_wp2_with (first | (go_at_call 34; refine HG.out.mono ?_; rintro e w1 ⟨rfl, nq, rfl⟩) | (go_at_call 30; refine (clone34 _ l _ (HR.out.1.keep (belowDrew _ _)) hl).mono ?_; rintro e w2 ⟨v2, rfl, ho, hb2⟩; obtain ⟨a2, c2, rfl⟩ := ho.form))
      have hlen := HK.out.2.2
      obtain ⟨g2, rfl, hg2, q1, q2⟩ := ho.at (k / 8) (by omega)
      have hbw : Below w.heap.size w w2 := (belowDrew w nq).trans hb2
      have q3 := (HR.out.2.keep hbw).2 (k % 8) (Nat.mod_lt _ (by omega))
      have q4 := or_on (byt l (k / 8)) (k % 8)
      have HS : Hid (∀ j, bit (l.set (k / 8) (on (byt l (k / 8)) (k % 8))) j = (decide (j = k) || bit l j)) := fun j => bit_set_on l k j (by omega)
      have HO : Hid (OW w.heap.size w2 (.slice (some ⟨g2, 0, none⟩) l.length c2) l ∧ Below w.heap.size w w2) := ⟨ho, hbw⟩
      have e1 : k / 8 < l.length := by omega
      have hg3 : w.heap.size ≤ g2 := hg2
      clear ho hbw hb2 hlen hg2
      generalize on (byt l (k / 8)) (k % 8) = y at *
      generalize (byt l (k / 8)) = x at *
      generalize mk (k % 8) = mm at *
      go_region
      go_wp2
      go_ret2
      refine ⟨_, l.set (k / 8) y, rfl, (HO.out.1.drew _).stored _ _, .inr ⟨HK.out.2.1, ?_, fun j => ?_⟩, (belowN HO.out.2 _).setCell (p := ⟨g2, k / 8, none⟩) hg3 _⟩
      · rw [List.length_set]; exact HK.out.2.2
      · rw [HS.out, (ck_bf HK.out.1).2]
        show _ = (decide (j < m) && if j = k then true else bit l j)
        by_cases hj : j = k
        · subst hj; simp [hk]
        · rw [decide_eq_false hj, if_neg hj]; simp
  · have HE : Hid (gE n l i ≠ 0) := hg
    have hz : (gE n l i != 0) = true := by simpa using hg
    clear hg
    have HPU : Hid (PU n l i on []) := .inl ⟨HE.out, rfl⟩
    clear HE
    generalize gE n l i = z at *
    generalize gB n l i = gb at *
    go_enter Tryd.func24, Tryd.ntmps24
    go_wp2_with (go_at_call 34; refine HG.out.mono ?_; rintro e w1 ⟨rfl, nq, rfl⟩)
    go_ret2
    exact ⟨_, [], rfl, World.ownsRow_nil _ _ _ _, HPU.out, belowDrew _ _⟩
theorem OB.stored {B g c : Nat} {w : World} {L : List Bool} {n : Nat} (h : OB B w (.slice (some ⟨g, 0, none⟩) n c) L) (j : Nat) (y : Bool) :
    OB B (w.setCell ⟨g, j, none⟩ (.bool y)) (.slice (some ⟨g, 0, none⟩) n c) (L.set j y) := by
  have hn := h.len
  subst hn
  have := (World.ownsRow.stored h j (.bool y)).1
  unfold OB
  rw [List.length_set]
  have e : (L.set j y).map Value.bool = (L.map Value.bool).set j (.bool y) := by simp [List.map_set]
  rw [e]; exact this
theorem lb_setv (L : List Bool) (j i : Nat) (y : Bool) (hj : j < L.length) : lb (L.set j y) i = if i = j then y else lb L i := by
  unfold lb
  simp only [List.getD_eq_getElem?_getD, List.getElem?_set]
  by_cases h : j = i
  · subst h; simp [hj]
  · rw [if_neg h, if_neg (fun e => h e.symm)]
theorem OB.cap {B g c : Nat} {w : World} {L : List Bool} {n : Nat} (h : OB B w (.slice (some ⟨g, 0, none⟩) n c) L) : n ≤ c ∧ g < w.heap.size := by
  rcases h.2 with ⟨h1, _⟩ | ⟨g', cap, cur, h1, _, h3, h4, _⟩
  · simp at h1
  · have hn := h.len
    simp only [Value.slice.injEq, Option.some.injEq, Addr.mk.injEq, and_true] at h1
    obtain ⟨rfl, _, rfl⟩ := h1
    exact ⟨by omega, (Array.getElem?_eq_some_iff.1 h3).1⟩
theorem OB.roTake {B g c : Nat} {w : World} {L : List Bool} {n m c' : Nat} (h : OB B w (.slice (some ⟨g, 0, none⟩) n c) L) (hm : m ≤ n) : RO w (.slice (some ⟨g, 0, none⟩) m c') (L.take m) := by
  have hn := h.len
  have hl : (L.take m).length = m := by rw [List.length_take]; omega
  refine ⟨_, c', by rw [hl], ?_⟩
  by_cases h0 : L.take m = []
  · exact .inl h0
  · refine .inr ⟨g, 0, rfl, h.cap.2, fun i hi => ?_⟩
    rw [hl] at hi
    obtain ⟨g', e, _, _, hc, _⟩ := h.at i (by omega)
    simp only [Option.some.injEq, Addr.mk.injEq, and_true] at e
    subst e
    rw [Nat.zero_add, hc]
    unfold lb
    simp [List.getD, hi]
theorem lb_take (L : List Bool) (m i : Nat) (h : i < m) : lb (L.take m) i = lb L i := by
  unfold lb
  simp [List.getD, h]
end Go.Proofs.YtjhnkdhbjpddcaaDoor
