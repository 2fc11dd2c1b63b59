import Derived.Test.YtphehachmgfcaabDoorOpenR
import Derived.Test.YtphehachmgfcaabDoorWalkF
namespace Go.Proofs.YtphehachmgfcaabDoor
open Go.RowKit
/-- the error of Get and Put -/
def gE (n : Int) (l : List UInt8) (i : Int) : Int := if ck n l ≠ 0 then ck n l else if i < 0 ∨ n ≤ i then 43 else 0
def gB (n : Int) (l : List UInt8) (i : Int) : Bool := if gE n l i = 0 then bit l i.toNat else false
theorem gE_ck {n : Int} {l : List UInt8} {i : Int} (h : ck n l ≠ 0) : gE n l i = ck n l ∧ gB n l i = false := by
  have e : gE n l i = ck n l := by unfold gE; rw [if_pos h]
  exact ⟨e, by unfold gB; rw [e, if_neg h]⟩
theorem gE_ix {n : Int} {l : List UInt8} {i : Int} (h : ck n l = 0) (hi : i < 0 ∨ n ≤ i) : gE n l i = 43 ∧ gB n l i = false := by
  have e : gE n l i = 43 := by unfold gE; rw [if_neg (by simp [h]), if_pos hi]
  exact ⟨e, by unfold gB; rw [e, if_neg (by decide)]⟩
theorem gE_ok {n : Int} {l : List UInt8} {i : Int} (h : ck n l = 0) (hi : ¬ (i < 0 ∨ n ≤ i)) : gE n l i = 0 ∧ gB n l i = bit l i.toNat := by
  have e : gE n l i = 0 := by unfold gE; rw [if_neg (by simp [h]), if_neg hi]
  exact ⟨e, by unfold gB; rw [e, if_pos rfl]⟩
theorem gE_zero {n : Int} {l : List UInt8} {i : Int} (h : gE n l i = 0) : ck n l = 0 ∧ 0 ≤ i ∧ i < n := by
  unfold gE at h
  split at h
  · rename_i h1; exact absurd h h1
  · rename_i h1
    split at h
    · simp at h
    · exact ⟨by simpa using h1, by omega, by omega⟩
set_option maxHeartbeats 1000000 in
theorem get11 (n : Int) (h0 : -9223372036854775808 ≤ n) (h1 : n ≤ 9223372036854775807) (v : Value) (l : List UInt8) (i : Int) (g0 : -9223372036854775808 ≤ i) (g1 : i ≤ 9223372036854775807) (w : World) (hr : RB w v l) (hm : MT w) (hl : l.length ≤ 140737488351232) :
    Calls Tryd.prog 11 #[.int .i64 n, v, .int .i64 i] w fun e w' => e = .returned (.tuple #[.bool (gB n l i), .int .i64 (gE n l i)]) ∧ ∃ nq, w' = w.drewN nq := by
  have HC : Hid (Calls Tryd.prog 9 #[.int .i64 n, v] w fun e w' => e = .returned (.int .i64 (ck n l)) ∧ ∃ nq, w' = w.drewN nq) := check10 n h0 h1 v l w hr hm hl
  have HR : Hid (RB w v l ∧ MT w) := ⟨hr, hm⟩
  obtain ⟨a, c, rfl, _⟩ := hr
  clear hm
  by_cases hck : ck n l = 0
  · rw [hck] at HC
    by_cases hi : i < 0 ∨ n ≤ i
    · obtain ⟨e1, e2⟩ := gE_ix hck hi
      rw [e1, e2]
      have hn0 := (ck_ok hck).1
      clear e1 e2 hck
      rcases (by omega : i < 0 ∨ (0 ≤ i ∧ n ≤ i)) with hi | ⟨hi0, hi⟩
      · go_enter Tryd.func11, Tryd.ntmps11
        go_wp2_with (go_at_call 9; refine HC.out.mono ?_; rintro e w1 ⟨rfl, nq, rfl⟩)
        go_ret2
        exact ⟨rfl, _, rfl⟩
      · go_enter Tryd.func11, Tryd.ntmps11
        go_wp2_with (go_at_call 9; refine HC.out.mono ?_; rintro e w1 ⟨rfl, nq, rfl⟩)
        go_ret2
        exact ⟨rfl, _, rfl⟩
    · obtain ⟨e1, e2⟩ := gE_ok hck hi
      rw [e1, e2]
      obtain ⟨k0, k1, k2, k3⟩ := ck_ok hck
      obtain ⟨m, rfl⟩ := Int.eq_ofNat_of_zero_le k0
      obtain ⟨k, rfl⟩ := Int.eq_ofNat_of_zero_le (show 0 ≤ i by omega)
      have hk : k < m := by omega
      have hk8 : k < 8 * l.length := by have : (m : Int).toNat = m := by simp
                                        omega
      have HH : Hid (∀ nq, Calls Tryd.prog 39 #[.slice a l.length c, .int .i64 k] (w.drewN nq) fun e w' => e = .returned (.bool (bit l k)) ∧ ∃ n, w' = (w.drewN nq).drewN n) := fun nq =>
        has28 _ l k _ (HR.out.1.keep (belowDrew _ _)) (HR.out.2.keep (belowDrew _ _)) hk8 hl
      show Calls _ _ _ _ fun e w' => e = .returned (.tuple #[.bool (bit l k), .int .i64 0]) ∧ _
      clear e1 e2 hck k3 k2 hi k0 k1 g0 g1 h0 h1
      generalize bit l k = bt at *
      go_enter Tryd.func11, Tryd.ntmps11
      go_wp2_with (first | (go_at_call 9; refine HC.out.mono ?_; rintro e w1 ⟨rfl, nq, rfl⟩) | (go_at_call 39; refine (HH.out _).mono ?_; rintro e w2 ⟨rfl, nq2, rfl⟩))
      go_ret2
      exact ⟨rfl, _, rfl⟩
  · obtain ⟨e1, e2⟩ := gE_ck (i := i) hck
    rw [e1, e2]
    have hz : (ck n l != 0) = true := by simpa using hck
    clear e1 e2 hck
    generalize ck n l = z at *
    go_enter Tryd.func11, Tryd.ntmps11
    go_wp2_with (go_at_call 9; refine HC.out.mono ?_; rintro e w1 ⟨rfl, nq, rfl⟩)
    go_ret2
    exact ⟨rfl, _, rfl⟩
set_option maxHeartbeats 1000000 in
theorem get20 (n : Int) (h0 : -9223372036854775808 ≤ n) (h1 : n ≤ 9223372036854775807) (v : Value) (l : List UInt8) (i : Int) (g0 : -9223372036854775808 ≤ i) (g1 : i ≤ 9223372036854775807) (w : World) (hr : RB w v l) (hl : l.length ≤ 140737488351232) :
    Calls Tryd.prog 20 #[.int .i64 n, v, .int .i64 i] w fun e w' => e = .returned (.tuple #[.bool (gB n l i), .int .i64 (gE n l i)]) ∧ Below w.heap.size w w' := by
  have HC : Hid (Calls Tryd.prog 41 #[.int .i64 n, v] w fun e w' => e = .returned (.int .i64 (ck n l)) ∧ ∃ nq, w' = w.drewN nq) := check11 n h0 h1 v l w hr hl
  have HR : Hid (RB w v l) := hr
  obtain ⟨a, c, rfl, _⟩ := hr
  by_cases hck : ck n l = 0
  · rw [hck] at HC
    by_cases hi : i < 0 ∨ n ≤ i
    · obtain ⟨e1, e2⟩ := gE_ix hck hi
      rw [e1, e2]
      have hn0 := (ck_ok hck).1
      clear e1 e2 hck
      rcases (by omega : i < 0 ∨ (0 ≤ i ∧ n ≤ i)) with hi | ⟨hi0, hi⟩
      · go_enter Tryd.func20, Tryd.ntmps20
        go_wp2_with (go_at_call 41; refine HC.out.mono ?_; rintro e w1 ⟨rfl, nq, rfl⟩)
        go_ret2
        exact ⟨rfl, belowDrew _ _⟩
      · go_enter Tryd.func20, Tryd.ntmps20
        go_wp2_with (go_at_call 41; refine HC.out.mono ?_; rintro e w1 ⟨rfl, nq, rfl⟩)
        go_ret2
        exact ⟨rfl, belowDrew _ _⟩
    · obtain ⟨e1, e2⟩ := gE_ok hck hi
      rw [e1, e2]
      obtain ⟨k0, k1, k2, k3⟩ := ck_ok hck
      obtain ⟨m, rfl⟩ := Int.eq_ofNat_of_zero_le k0
      obtain ⟨k, rfl⟩ := Int.eq_ofNat_of_zero_le (show 0 ≤ i by omega)
      have hk : k < m := by omega
      have hk8 : k < 8 * l.length := by have : (m : Int).toNat = m := by simp
                                        omega
      have hl8 : l.length ≤ 100000 := by omega
      show Calls _ _ _ _ fun e w' => e = .returned (.tuple #[.bool (bit l k), .int .i64 0]) ∧ _
      clear e1 e2 hck k3 k2 hi k0 k1 g0 g1 h0 h1
      go_enter Tryd.func20, Tryd.ntmps20
      go_wp2_with (go_at_call 41; refine HC.out.mono ?_; rintro e w1 ⟨rfl, nq, rfl⟩)
      refine (open32 _ l _ (HR.out.keep (belowDrew _ _)) hl8).mono ?_
      rintro e w2 ⟨v2, rfl, ho, hb2⟩
      obtain ⟨a2, c2, rfl⟩ := ho.form
      rw [bl_len] at *
      obtain ⟨g, rfl, _, _, hc, _⟩ := ho.at k hk8
      rw [lb_bl l _ k hk8] at hc
      have HB : Hid (Below w.heap.size w w2) := (belowDrew w nq).trans hb2
      clear ho hb2
      go_wp2
      go_ret2
      exact ⟨rfl, HB.out⟩
  · obtain ⟨e1, e2⟩ := gE_ck (i := i) hck
    rw [e1, e2]
    have hz : (ck n l != 0) = true := by simpa using hck
    clear e1 e2 hck
    generalize ck n l = z at *
    go_enter Tryd.func20, Tryd.ntmps20
    go_wp2_with (go_at_call 41; refine HC.out.mono ?_; rintro e w1 ⟨rfl, nq, rfl⟩)
    go_ret2
    exact ⟨rfl, belowDrew _ _⟩
/-- what Put answers -/
def PU (n : Int) (l : List UInt8) (i : Int) (on : Bool) (r : List UInt8) : Prop := (gE n l i ≠ 0 ∧ r = []) ∨ (gE n l i = 0 ∧ BF n.toNat (fun k => if k = i.toNat then on else bit l k) r)
theorem PU.unique {n : Int} {l : List UInt8} {i : Int} {on : Bool} {r r' : List UInt8} (h : PU n l i on r) (h' : PU n l i on r') : r = r' := by
  rcases h with ⟨h1, rfl⟩ | ⟨h1, h2⟩
  · rcases h' with ⟨_, rfl⟩ | ⟨g1, _⟩
    · rfl
    · exact absurd g1 h1
  · rcases h' with ⟨g1, _⟩ | ⟨_, g2⟩
    · exact absurd h1 g1
    · exact BF.unique h2 g2 (fun _ _ => rfl)
theorem andNot_off (c : UInt8) (j : Nat) : bits .andNot .u8 (c.toNat : Int) (mk j : Int) = ((off c j).toNat : Int) := by
  rw [u8_andNot_nat _ _ (UInt8.toNat_lt _) (mk_lt _), off_toNat]
set_option maxHeartbeats 2000000 in
theorem put21 (n : Int) (h0 : -9223372036854775808 ≤ n) (h1 : n ≤ 9223372036854775807) (v : Value) (l : List UInt8) (i : Int) (g0 : -9223372036854775808 ≤ i) (g1 : i ≤ 9223372036854775807) (on : Bool) (w : World) (hr : RB w v l) (hm : MT w) (hl : l.length ≤ 140737488351232) :
    Calls Tryd.prog 21 #[.int .i64 n, v, .int .i64 i, .bool on] w fun e w' => ∃ v' r, e = .returned (.tuple #[v', .int .i64 (gE n l i)]) ∧ OW w.heap.size w' v' r ∧ PU n l i on r ∧ Below w.heap.size w w' := by
  have HG : Hid (Calls Tryd.prog 11 #[.int .i64 n, v, .int .i64 i] w fun e w' => e = .returned (.tuple #[.bool (gB n l i), .int .i64 (gE n l i)]) ∧ ∃ nq, w' = w.drewN nq) := get11 n h0 h1 v l i g0 g1 w hr hm hl
  have HR : Hid (RB w v l ∧ MT w) := ⟨hr, hm⟩
  obtain ⟨a, c, rfl, _⟩ := hr
  clear hm
  by_cases hg : gE n l i = 0
  · obtain ⟨hck, hi0, hin⟩ := gE_zero hg
    obtain ⟨k0, k1, k2, k3⟩ := ck_ok hck
    obtain ⟨m, rfl⟩ := Int.eq_ofNat_of_zero_le k0
    obtain ⟨k, rfl⟩ := Int.eq_ofNat_of_zero_le hi0
    have HK : Hid (ck m l = 0 ∧ gE m l k = 0 ∧ l.length = (m + 7) / 8) := ⟨hck, hg, by simpa using k2⟩
    have hk : k < m := by omega
    rw [hg] at HG ⊢
    clear k3 k2 hck hg k0 k1 g0 g1 h0 h1
    generalize gB m l k = gb at *
    cases on
    · go_enter Tryd.func21, Tryd.ntmps21
      go_wp2_with (first | (go_at_call 11; refine HG.out.mono ?_; rintro e w1 ⟨rfl, nq, rfl⟩) | (go_at_call 43; refine (clone34 _ l _ (HR.out.1.keep (belowDrew _ _)) hl).mono ?_; rintro e w2 ⟨v2, rfl, ho, hb2⟩; obtain ⟨a2, c2, rfl⟩ := ho.form))
      have hlen := HK.out.2.2
      obtain ⟨g2, rfl, hg2, q1, q2⟩ := ho.at (k / 8) (by omega)
      have hbw : Below w.heap.size w w2 := (belowDrew w nq).trans hb2
      have q3 := (HR.out.2.keep hbw).2 (k % 8) (Nat.mod_lt _ (by omega))
      have q4 := andNot_off (byt l (k / 8)) (k % 8)
      have HS : Hid (∀ j, bit (l.set (k / 8) (off (byt l (k / 8)) (k % 8))) j = (!decide (j = k) && bit l j)) := fun j => bit_set_off l k j (by omega)
      have HO : Hid (OW w.heap.size w2 (.slice (some ⟨g2, 0, none⟩) l.length c2) l ∧ Below w.heap.size w w2) := ⟨ho, hbw⟩
      have e1 : k / 8 < l.length := by omega
      have hg3 : w.heap.size ≤ g2 := hg2
      clear ho hbw hb2 hlen hg2
      generalize off (byt l (k / 8)) (k % 8) = y at *
      generalize (byt l (k / 8)) = x at *
      generalize mk (k % 8) = mm at *
      go_region
      go_wp2
      go_ret2
      refine ⟨_, l.set (k / 8) y, rfl, (HO.out.1.drew _).stored _ _, .inr ⟨HK.out.2.1, ?_, fun j => ?_⟩, (belowN HO.out.2 _).setCell (p := ⟨g2, k / 8, none⟩) hg3 _⟩
      · rw [List.length_set]; exact HK.out.2.2
      · rw [HS.out, (ck_bf HK.out.1).2]
        show _ = (decide (j < m) && if j = k then false else bit l j)
        by_cases hj : j = k
        · subst hj; simp [hk]
        · rw [decide_eq_false hj, if_neg hj]; simp
    · go_enter Tryd.func21, Tryd.ntmps21
      go_wp2_with (first | (go_at_call 11; refine HG.out.mono ?_; rintro e w1 ⟨rfl, nq, rfl⟩) | (go_at_call 43; refine (clone34 _ l _ (HR.out.1.keep (belowDrew _ _)) hl).mono ?_; rintro e w2 ⟨v2, rfl, ho, hb2⟩; obtain ⟨a2, c2, rfl⟩ := ho.form))
      have hlen := HK.out.2.2
      obtain ⟨g2, rfl, hg2, q1, q2⟩ := ho.at (k / 8) (by omega)
      have hbw : Below w.heap.size w w2 := (belowDrew w nq).trans hb2
      have q3 := (HR.out.2.keep hbw).2 (k % 8) (Nat.mod_lt _ (by omega))
      have q4 := or_on (byt l (k / 8)) (k % 8)
      have HS : Hid (∀ j, bit (l.set (k / 8) (on (byt l (k / 8)) (k % 8))) j = (decide (j = k) || bit l j)) := fun j => bit_set_on l k j (by omega)
      have HO : Hid (OW w.heap.size w2 (.slice (some ⟨g2, 0, none⟩) l.length c2) l ∧ Below w.heap.size w w2) := ⟨ho, hbw⟩
      have e1 : k / 8 < l.length := by omega
      have hg3 : w.heap.size ≤ g2 := hg2
      clear ho hbw hb2 hlen hg2
      generalize on (byt l (k / 8)) (k % 8) = y at *
      generalize (byt l (k / 8)) = x at *
      generalize mk (k % 8) = mm at *
      go_region
      go_wp2
      go_ret2
      refine ⟨_, l.set (k / 8) y, rfl, (HO.out.1.drew _).stored _ _, .inr ⟨HK.out.2.1, ?_, fun j => ?_⟩, (belowN HO.out.2 _).setCell (p := ⟨g2, k / 8, none⟩) hg3 _⟩
      · rw [List.length_set]; exact HK.out.2.2
      · rw [HS.out, (ck_bf HK.out.1).2]
        show _ = (decide (j < m) && if j = k then true else bit l j)
        by_cases hj : j = k
        · subst hj; simp [hk]
        · rw [decide_eq_false hj, if_neg hj]; simp
  · have HE : Hid (gE n l i ≠ 0) := hg
    have hz : (gE n l i != 0) = true := by simpa using hg
    clear hg
    have HPU : Hid (PU n l i on []) := .inl ⟨HE.out, rfl⟩
    clear HE
    generalize gE n l i = z at *
    generalize gB n l i = gb at *
    go_enter Tryd.func21, Tryd.ntmps21
    go_wp2_with (go_at_call 11; refine HG.out.mono ?_; rintro e w1 ⟨rfl, nq, rfl⟩)
    go_ret2
    exact ⟨_, [], rfl, World.ownsRow_nil _ _ _ _, HPU.out, belowDrew _ _⟩
theorem OB.stored {B g c : Nat} {w : World} {L : List Bool} {n : Nat} (h : OB B w (.slice (some ⟨g, 0, none⟩) n c) L) (j : Nat) (y : Bool) :
    OB B (w.setCell ⟨g, j, none⟩ (.bool y)) (.slice (some ⟨g, 0, none⟩) n c) (L.set j y) := by
  have hn := h.len
  subst hn
  have := (World.ownsRow.stored h j (.bool y)).1
  unfold OB
  rw [List.length_set]
  have e : (L.set j y).map Value.bool = (L.map Value.bool).set j (.bool y) := by simp [List.map_set]
  rw [e]; exact this
theorem lb_setv (L : List Bool) (j i : Nat) (y : Bool) (hj : j < L.length) : lb (L.set j y) i = if i = j then y else lb L i := by
  unfold lb
  simp only [List.getD_eq_getElem?_getD, List.getElem?_set]
  by_cases h : j = i
  · subst h; simp [hj]
  · rw [if_neg h, if_neg (fun e => h e.symm)]
theorem OB.cap {B g c : Nat} {w : World} {L : List Bool} {n : Nat} (h : OB B w (.slice (some ⟨g, 0, none⟩) n c) L) : n ≤ c ∧ g < w.heap.size := by
  rcases h.2 with ⟨h1, _⟩ | ⟨g', cap, cur, h1, _, h3, h4, _⟩
  · simp at h1
  · have hn := h.len
    simp only [Value.slice.injEq, Option.some.injEq, Addr.mk.injEq, and_true] at h1
    obtain ⟨rfl, _, rfl⟩ := h1
    exact ⟨by omega, (Array.getElem?_eq_some_iff.1 h3).1⟩
theorem OB.roTake {B g c : Nat} {w : World} {L : List Bool} {n m c' : Nat} (h : OB B w (.slice (some ⟨g, 0, none⟩) n c) L) (hm : m ≤ n) : RO w (.slice (some ⟨g, 0, none⟩) m c') (L.take m) := by
  have hn := h.len
  have hl : (L.take m).length = m := by rw [List.length_take]; omega
  refine ⟨_, c', by rw [hl], ?_⟩
  by_cases h0 : L.take m = []
  · exact .inl h0
  · refine .inr ⟨g, 0, rfl, h.cap.2, fun i hi => ?_⟩
    rw [hl] at hi
    obtain ⟨g', e, _, _, hc, _⟩ := h.at i (by omega)
    simp only [Option.some.injEq, Addr.mk.injEq, and_true] at e
    subst e
    rw [Nat.zero_add, hc]
    unfold lb
    simp [List.getD, hi]
theorem lb_take (L : List Bool) (m i : Nat) (h : i < m) : lb (L.take m) i = lb L i := by
  unfold lb
  simp [List.getD, h]
set_option maxHeartbeats 2000000 in
theorem put22 (n : Int) (h0 : -9223372036854775808 ≤ n) (h1 : n ≤ 9223372036854775807) (v : Value) (l : List UInt8) (i : Int) (g0 : -9223372036854775808 ≤ i) (g1 : i ≤ 9223372036854775807) (on : Bool) (w : World) (hr : RB w v l) (hl : l.length ≤ 140737488351232) :
    Calls Tryd.prog 22 #[.int .i64 n, v, .int .i64 i, .bool on] w fun e w' => ∃ v' r, e = .returned (.tuple #[v', .int .i64 (gE n l i)]) ∧ OW w.heap.size w' v' r ∧ PU n l i on r ∧ Below w.heap.size w w' := by
  have HC : Hid (Calls Tryd.prog 41 #[.int .i64 n, v] w fun e w' => e = .returned (.int .i64 (ck n l)) ∧ ∃ nq, w' = w.drewN nq) := check11 n h0 h1 v l w hr hl
  have HR : Hid (RB w v l) := hr
  obtain ⟨a, c, rfl, _⟩ := hr
  by_cases hck : ck n l = 0
  · rw [hck] at HC
    have hn0 := (ck_ok hck).1
    by_cases hi : i < 0 ∨ n ≤ i
    · obtain ⟨e1, _⟩ := gE_ix hck hi
      have HPU : Hid (PU n l i on []) := .inl ⟨by rw [e1]; decide, rfl⟩
      rw [e1]
      clear e1 hck
      rcases (by omega : i < 0 ∨ (0 ≤ i ∧ n ≤ i)) with hi | ⟨hi0, hi⟩
      · go_enter Tryd.func22, Tryd.ntmps22
        go_wp2_with (go_at_call 41; refine HC.out.mono ?_; rintro e w1 ⟨rfl, nq, rfl⟩)
        go_ret2
        exact ⟨_, [], rfl, World.ownsRow_nil _ _ _ _, HPU.out, belowDrew _ _⟩
      · go_enter Tryd.func22, Tryd.ntmps22
        go_wp2_with (go_at_call 41; refine HC.out.mono ?_; rintro e w1 ⟨rfl, nq, rfl⟩)
        go_ret2
        exact ⟨_, [], rfl, World.ownsRow_nil _ _ _ _, HPU.out, belowDrew _ _⟩
    · obtain ⟨e1, _⟩ := gE_ok hck hi
      obtain ⟨k0, k1, k2, k3⟩ := ck_ok hck
      obtain ⟨m, rfl⟩ := Int.eq_ofNat_of_zero_le k0
      obtain ⟨k, rfl⟩ := Int.eq_ofNat_of_zero_le (show 0 ≤ i by omega)
      have hk : k < m := by omega
      have k2' : l.length = (m + 7) / 8 := by simpa using k2
      have HK : Hid (ck m l = 0 ∧ gE m l k = 0 ∧ l.length = (m + 7) / 8) := ⟨hck, e1, k2'⟩
      have hm8 : m ≤ 8 * l.length := by omega
      have hl8 : l.length ≤ 100000 := by omega
      have hm6 : m ≤ 65536 := by omega
      rw [e1]
      clear e1 hck k3 k2 k2' hi k0 k1 g0 g1 h0 h1 hn0
      go_enter Tryd.func22, Tryd.ntmps22
      go_wp2_with (go_at_call 41; refine HC.out.mono ?_; rintro e w1 ⟨rfl, nq, rfl⟩)
      refine (open32 _ l _ (HR.out.keep (belowDrew _ _)) hl8).mono ?_
      rintro e w2 ⟨v2, rfl, ho, hb2⟩
      obtain ⟨a2, c2, rfl⟩ := ho.form
      rw [bl_len] at *
      obtain ⟨g, rfl, hgw, hgl, hc, hf⟩ := ho.at k (by omega)
      have hcap := ho.cap.1
      have HB : Hid (OB w.heap.size w2 (.slice (some ⟨g, 0, none⟩) (8 * l.length) c2) (bl l (8 * l.length)) ∧ Below w.heap.size w w2) := ⟨ho, (belowDrew w nq).trans hb2⟩
      have hgw' : w.heap.size ≤ g := hgw
      have hmc : m ≤ c2 := by omega
      clear ho hb2 hgw
      generalize lb (bl l (8 * l.length)) k = old at *
      have HP : Hid (∀ c', Calls Tryd.prog 44 #[.slice (some ⟨g, 0, none⟩) m c'] (w2.setCell ⟨g, k, none⟩ (.bool on)) fun e w' => ∃ v' r, e = .returned v' ∧ OW w.heap.size w' v' r ∧ BF m (lb (((bl l (8 * l.length)).set k on).take m)) r ∧ Below w.heap.size (w2.setCell ⟨g, k, none⟩ (.bool on)) w') := fun c' =>
        pack31B w.heap.size m _ _ _ ((HB.out.1.stored k on).roTake hm8) (by rw [List.length_take, List.length_set, bl_len]; omega) (by omega) (Nat.le_trans HB.out.2.size (by simp [World.setCell]))
      go_wp2_with (go_at_call 44; refine (HP.out _).mono ?_; rintro e w3 ⟨v3, r, rfl, ho3, hbf, hb3⟩; obtain ⟨a3, c3, rfl⟩ := ho3.form)
      go_ret2
      refine ⟨_, r, rfl, ho3, .inr ⟨HK.out.2.1, hbf.1, fun j => ?_⟩, (HB.out.2.setCell (p := ⟨g, k, none⟩) hgw' _).trans hb3⟩
      rw [hbf.2]
      show _ = (decide (j < m) && if j = k then on else bit l j)
      by_cases hj : j < m
      · rw [lb_take _ _ _ hj, lb_setv _ _ _ _ (by rw [bl_len]; omega), lb_bl _ _ _ (by omega)]
      · simp [hj]
  · obtain ⟨e1, _⟩ := gE_ck (i := i) hck
    have HPU : Hid (PU n l i on []) := .inl ⟨by rw [e1]; exact hck, rfl⟩
    rw [e1]
    have hz : (ck n l != 0) = true := by simpa using hck
    clear e1 hck
    generalize ck n l = z at *
    go_enter Tryd.func22, Tryd.ntmps22
    go_wp2_with (go_at_call 41; refine HC.out.mono ?_; rintro e w1 ⟨rfl, nq, rfl⟩)
    go_ret2
    exact ⟨_, [], rfl, World.ownsRow_nil _ _ _ _, HPU.out, belowDrew _ _⟩
set_option maxHeartbeats 2000000 in
theorem places5 (n : Int) (h0 : -9223372036854775808 ≤ n) (h1 : n ≤ 9223372036854775807) (v : Value) (l : List UInt8) (i : Int) (g0 : -9223372036854775808 ≤ i) (g1 : i ≤ 9223372036854775807) (on : Bool) (w : World) (hr : RB w v l) (hm : MT w) (hl : l.length ≤ 140737488351232) :
    Calls Tryd.prog 5 #[.int .i64 n, v, .int .i64 i, .bool on] w fun e w' => e = .returned (.bool true) ∧ Below w.heap.size w w' := by
  have HR : Hid (RB w v l ∧ MT w) := ⟨hr, hm⟩
  clear hm
  obtain ⟨a, c, rfl, _⟩ := hr
  have HG : Hid (∀ (v : Value) (w : World), RB w v l → MT w → Calls Tryd.prog 11 #[.int .i64 n, v, .int .i64 i] w fun e w' => e = .returned (.tuple #[.bool (gB n l i), .int .i64 (gE n l i)]) ∧ ∃ nq, w' = w.drewN nq) := fun v w hr hm => get11 n h0 h1 v l i g0 g1 w hr hm hl
  have HG2 : Hid (∀ (v : Value) (w : World), RB w v l → Calls Tryd.prog 20 #[.int .i64 n, v, .int .i64 i] w fun e w' => e = .returned (.tuple #[.bool (gB n l i), .int .i64 (gE n l i)]) ∧ Below w.heap.size w w') := fun v w hr => get20 n h0 h1 v l i g0 g1 w hr hl
  have HP : Hid (∀ (v : Value) (w : World), RB w v l → MT w → Calls Tryd.prog 21 #[.int .i64 n, v, .int .i64 i, .bool on] w fun e w' => ∃ v' r, e = .returned (.tuple #[v', .int .i64 (gE n l i)]) ∧ OW w.heap.size w' v' r ∧ PU n l i on r ∧ Below w.heap.size w w') := fun v w hr hm => put21 n h0 h1 v l i g0 g1 on w hr hm hl
  have HP2 : Hid (∀ (v : Value) (w : World), RB w v l → Calls Tryd.prog 22 #[.int .i64 n, v, .int .i64 i, .bool on] w fun e w' => ∃ v' r, e = .returned (.tuple #[v', .int .i64 (gE n l i)]) ∧ OW w.heap.size w' v' r ∧ PU n l i on r ∧ Below w.heap.size w w') := fun v w hr => put22 n h0 h1 v l i g0 g1 on w hr hl
  generalize gB n l i = gb at *
  generalize gE n l i = z at *
  go_enter Tryd.func5, Tryd.ntmps5
  go_wp2_with (go_at_call 16; refine (copied9 HR.out.1 hl).mono ?_; rintro e w1 ⟨v1, rfl, ho, hb1⟩; obtain ⟨a1, c1, rfl⟩ := ho.form)
  have H1 : Hid (RB w1 (.slice a1 l.length c1) l ∧ RB w1 (.slice a l.length c) l ∧ MT w1 ∧ Below w.heap.size w w1) := ⟨ho.rb, HR.out.1.keep hb1, HR.out.2.keep hb1, hb1⟩
  clear ho hb1 HR
  go_wp2_with (go_at_call 11; refine (HG.out _ _ H1.out.1 H1.out.2.2.1).mono ?_; rintro e w2 ⟨rfl, nq, rfl⟩)
  have hd := belowDrew w1 nq
  have H2 : Hid (RB (w1.drewN nq) (.slice a1 l.length c1) l ∧ RB (w1.drewN nq) (.slice a l.length c) l ∧ MT (w1.drewN nq) ∧ Below w.heap.size w (w1.drewN nq)) := ⟨H1.out.1.keep hd, H1.out.2.1.keep hd, H1.out.2.2.1.keep hd, belowN H1.out.2.2.2 _⟩
  clear hd H1
  generalize w1.drewN nq = w2 at *
  go_wp2_with (go_at_call 20; refine (HG2.out _ _ H2.out.2.1).mono ?_; rintro e w3 ⟨rfl, hb3⟩)
  have H3 : Hid (RB w3 (.slice a1 l.length c1) l ∧ RB w3 (.slice a l.length c) l ∧ MT w3 ∧ Below w.heap.size w w3) := ⟨H2.out.1.keep hb3, H2.out.2.1.keep hb3, H2.out.2.2.1.keep hb3, H2.out.2.2.2.trans (hb3.mono H2.out.2.2.2.size)⟩
  clear hb3 H2
  refine (same12 _ _ l _ hl H3.out.1 H3.out.2.1).mono ?_
  rintro e w4 ⟨rfl, nq4, rfl⟩
  have hd := belowDrew w3 nq4
  have H4 : Hid (RB (w3.drewN nq4) (.slice a1 l.length c1) l ∧ RB (w3.drewN nq4) (.slice a l.length c) l ∧ MT (w3.drewN nq4) ∧ Below w.heap.size w (w3.drewN nq4)) := ⟨H3.out.1.keep hd, H3.out.2.1.keep hd, H3.out.2.2.1.keep hd, belowN H3.out.2.2.2 _⟩
  clear hd H3
  generalize w3.drewN nq4 = w4 at *
  go_wp2_with (go_at_call 21; refine (HP.out _ _ H4.out.1 H4.out.2.2.1).mono ?_; rintro e w5 ⟨v5, r5, rfl, ho5, hp5, hb5⟩; obtain ⟨a5, c5, rfl⟩ := ho5.form)
  have H5 : Hid (RB w5 (.slice a1 l.length c1) l ∧ RB w5 (.slice a l.length c) l ∧ RB w5 (.slice a5 r5.length c5) r5 ∧ PU n l i on r5 ∧ Below w.heap.size w w5) := ⟨H4.out.1.keep hb5, H4.out.2.1.keep hb5, ho5.rb, hp5, H4.out.2.2.2.trans (hb5.mono H4.out.2.2.2.size)⟩
  clear hb5 ho5 hp5 H4
  go_wp2_with (go_at_call 22; refine (HP2.out _ _ H5.out.2.1).mono ?_; rintro e w6 ⟨v6, r6, rfl, ho6, hp6, hb6⟩; obtain rfl := PU.unique H5.out.2.2.2.1 hp6; obtain ⟨a6, c6, rfl⟩ := ho6.form)
  have hlen : r5.length ≤ 140737488351232 := by
    rcases hp6 with ⟨_, rfl⟩ | ⟨he, hbf⟩
    · simp
    · have := hbf.1; have := ck_ok (gE_zero he).1; omega
  have H6 : Hid (RB w6 (.slice a1 l.length c1) l ∧ RB w6 (.slice a l.length c) l ∧ RB w6 (.slice a5 r5.length c5) r5 ∧ RB w6 (.slice a6 r5.length c6) r5 ∧ Below w.heap.size w w6) := ⟨H5.out.1.keep hb6, H5.out.2.1.keep hb6, H5.out.2.2.1.keep hb6, ho6.rb, H5.out.2.2.2.2.trans (hb6.mono H5.out.2.2.2.2.size)⟩
  clear hb6 ho6 hp6 H5
  refine (same12 _ _ r5 _ hlen H6.out.2.2.1 H6.out.2.2.2.1).mono ?_
  rintro e w7 ⟨rfl, nq7, rfl⟩
  go_wp2_with (go_at_call 15; refine (same12 _ _ l _ hl (H6.out.1.keep (belowDrew _ _)) (H6.out.2.1.keep (belowDrew _ _))).mono ?_; rintro e w8 ⟨rfl, nq8, rfl⟩)
  go_ret
  exact ⟨rfl, belowN H6.out.2.2.2.2 _⟩
end Go.Proofs.YtphehachmgfcaabDoor
