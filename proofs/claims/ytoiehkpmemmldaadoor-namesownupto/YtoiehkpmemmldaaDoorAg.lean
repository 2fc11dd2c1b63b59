import Derived.Test.YtoiehkpmemmldaaDoorTri
import Derived.Test.YtoiehkpmemmldaaDoorLs
namespace Go.Proofs.YtoiehkpmemmldaaDoor
open Go.RowKit
/-- the error of two paths -/
def er (a b : List ByteArray) : Int := if a = b then 56 else if a <+: b ∨ b <+: a then 57 else 0
theorem pre_of_take {l m : List ByteArray} (h : l.take (min l.length m.length) = m.take (min l.length m.length)) : l <+: m ∨ m <+: l := by
  rcases Nat.le_total l.length m.length with hl | hl
  · left; rw [Nat.min_eq_left hl, List.take_length] at h; rw [h]; exact List.take_prefix _ _
  · right; rw [Nat.min_eq_right hl, List.take_length] at h; rw [← h]; exact List.take_prefix _ _
theorem take_of_pre {l m : List ByteArray} (h : l <+: m ∨ m <+: l) : l.take (min l.length m.length) = m.take (min l.length m.length) := by
  rcases h with h | h
  · rw [Nat.min_eq_left h.length_le, List.take_length]; exact List.prefix_iff_eq_take.1 h
  · rw [Nat.min_eq_right h.length_le, List.take_length]; exact (List.prefix_iff_eq_take.1 h).symm
theorem er_no {l m : List ByteArray} (h : ¬ l.take (min l.length m.length) = m.take (min l.length m.length)) : er l m = 0 := by
  unfold er; rw [if_neg (fun e => h (by rw [e])), if_neg (fun e => h (take_of_pre e))]
theorem er_fold {l m : List ByteArray} (h : l.take (min l.length m.length) = m.take (min l.length m.length)) (hl : ¬ l.length = m.length) : er l m = 57 := by
  unfold er; rw [if_neg (fun e => hl (by rw [e])), if_pos (pre_of_take h)]
theorem er_same {l m : List ByteArray} (h : l.take (min l.length m.length) = m.take (min l.length m.length)) (hl : l.length = m.length) : er l m = 56 := by
  unfold er; rw [if_pos]; rw [hl, Nat.min_self, ← hl, List.take_length, hl, List.take_length] at h; exact h
theorem er_begin {l m : List ByteArray} : er l m ≠ 0 ↔ Begin l m := by
  unfold er Begin
  by_cases h : l = m
  · rw [if_pos h, h]; simp
  · rw [if_neg h]; split <;> simp_all
theorem SR.take {w : World} {l : List ByteArray} {a : Option Addr} {n c : Nat} (h : SR w l (.slice a n c)) {k : Nat} (hk : k ≤ l.length) : SR w (l.take k) (.slice a k c) := by
  obtain ⟨a', c', he, hc, h⟩ := h
  simp only [Value.slice.injEq] at he
  obtain ⟨rfl, rfl, rfl⟩ := he
  have hlen : (l.take k).length = k := by rw [List.length_take]; omega
  refine ⟨a, c, by rw [hlen], by rw [hlen]; omega, ?_⟩
  by_cases h0 : l.take k = []
  · exact .inl h0
  rcases h with h | ⟨b, o, h1, h2, h3⟩
  · subst h; simp at h0
  · refine .inr ⟨b, o, h1, h2, fun i hi => ?_⟩
    rw [hlen] at hi
    rw [h3 i (by omega)]
    have : sa (l.take k) i = sa l i := by rw [sa_get (by omega), sa_get (by omega)]; simp
    rw [this]
set_option maxHeartbeats 1000000 in
theorem equal25 (v1 v2 : Value) (l m : List ByteArray) (w : World) (hl : l.length * 16 ≤ 140737488351232) (_hm : m.length * 16 ≤ 140737488351232) (h1 : SR w l v1) (h2 : SR w m v2) :
    Calls Tryd.prog 30 #[v1, v2] w fun e w' => e = .returned (.bool (smB l m)) ∧ ∃ n, w' = w.drewN n := by
  have H1 : Hid (SR w l v1) := h1
  have H2 : Hid (SR w m v2) := h2
  obtain ⟨a1, c1, rfl, _, _⟩ := h1
  obtain ⟨a2, c2, rfl, _, _⟩ := h2
  by_cases hlm : l.length = m.length
  · have HQ : Hid ((∀ i, i < l.length → sa l i = sa m i) → smB l m = true) := smB_all hlm
    have HX : Hid (m.length = l.length) := hlm.symm
    rw [HX.out] at H2 ⊢
    clear hlm
    generalize hn : l.length = n at *
    have HN : Hid (l.length = n) := hn
    clear hn
    go_enter Tryd.func30, Tryd.ntmps30
    go_wp2
    go_loopw [13] (fun i wr => ∃ k nq : Nat, k ≤ n ∧ i = .int .i64 k ∧ wr = w.drewN nq ∧ Hid (∀ i, i < k → sa l i = sa m i)) (fun i _ => n - (intOf i).toNat)
    case atStart => exact ⟨0, 0, Nat.zero_le _, rfl, rfl, fun i h => by omega⟩
    case round =>
      obtain ⟨k, nq, hk, rfl, rfl, HA⟩ := hrel
      by_cases hlt : k < n
      · obtain ⟨b1, o1, rfl, _, k1⟩ := H1.out.cellAt (k := k) (by have := HN.out; omega)
        obtain ⟨b2, o2, rfl, _, k2⟩ := H2.out.cellAt (k := k) (by have := HX.out; omega)
        by_cases hs : sa l k = sa m k
        · have HA' : Hid (∀ i, i < k + 1 → sa l i = sa m i) := fun i hi => by
            by_cases e : i = k
            · rw [e]; exact hs
            · exact HA.out i (by omega)
          rw [← hs] at k2
          generalize sa l k = x at k1 k2
          clear hs HA H1 H2
          go_wp2
          go_quiet (fail)
          go_wp2
          exact ⟨⟨k + 1, _, by omega, by go_num, rfl, HA'⟩, by simp [intOf]; omega⟩
        · have HF : Hid (smB l m = false) := smB_at hs
          have hs' : ((sa l k).toList == (sa m k).toList) = false := nlB hs
          generalize sa l k = x at k1 hs'
          generalize sa m k = y at k2 hs'
          clear hs HA H1 H2
          go_wp2
          go_quiet (fail)
          go_wp2
          go_ret
          exact ⟨ret_b HF.out.symm, _, dr2 _ _ _⟩
      · obtain rfl : k = n := by omega
        have HT : Hid (smB l m = true) := HQ.out HA.out
        go_wp2
        go_ret
        exact ⟨ret_b HT.out.symm, nq, rfl⟩
  · have HF : Hid (smB l m = false) := smB_len hlm
    have hne : ((l.length : Int) == (m.length : Int)) = false := by simp; omega
    go_enter Tryd.func30, Tryd.ntmps30
    go_wp2
    go_ret
    exact ⟨ret_b HF.out.symm, 0, rfl⟩
/-- a begins b -/
def stB (a b : List ByteArray) : Bool := decide (a <+: b)
theorem stB_len {l m : List ByteArray} (h : m.length < l.length) : stB l m = false := by
  simp only [stB, decide_eq_false_iff_not]; intro e; have := e.length_le; omega
theorem pre_sa {l m : List ByteArray} (h : l <+: m) {k : Nat} (hk : k < l.length) : sa l k = sa m k := by
  obtain ⟨r, rfl⟩ := h
  rw [sa_get hk, sa_get (by simp; omega)]; simp [List.getElem_append_left hk]
theorem stB_at {l m : List ByteArray} {k : Nat} (hk : k < l.length) (h : ¬ sa l k = sa m k) : stB l m = false := by
  simp only [stB, decide_eq_false_iff_not]; intro e; exact h (pre_sa e hk)
theorem stB_all {l m : List ByteArray} (h : l.length ≤ m.length) (ha : ∀ i, i < l.length → sa l i = sa m i) : stB l m = true := by
  simp only [stB, decide_eq_true_eq]
  rw [List.prefix_iff_eq_take]
  refine List.ext_getElem (by simp; omega) fun i h1 h2 => ?_
  have := ha i h1
  rw [sa_get h1, sa_get (by omega)] at this
  simpa using this

theorem drB (w : World) (n : Nat) : Below w.heap.size w (w.drewN n) := ⟨rfl, rfl, rfl, Nat.le_refl _, fun _ _ => rfl⟩
theorem er_tt {l m : List ByteArray} (h1 : stB l m = true) (h2 : stB m l = true) : er l m = 56 := by
  simp only [stB, decide_eq_true_eq] at h1 h2
  unfold er; rw [if_pos]
  exact h1.eq_of_length (by have := h1.length_le; have := h2.length_le; omega)
theorem er_tf {l m : List ByteArray} (h1 : stB l m = true) (h2 : stB m l = false) : er l m = 57 := by
  simp only [stB, decide_eq_true_eq, decide_eq_false_iff_not] at h1 h2
  unfold er; rw [if_neg (fun e => h2 (by rw [e]; exact List.prefix_refl _)), if_pos (.inl h1)]
theorem er_ft {l m : List ByteArray} (h1 : stB l m = false) (h2 : stB m l = true) : er l m = 57 := by
  simp only [stB, decide_eq_true_eq, decide_eq_false_iff_not] at h1 h2
  unfold er; rw [if_neg (fun e => h1 (by rw [e]; exact List.prefix_refl _)), if_pos (.inr h2)]
theorem er_ff {l m : List ByteArray} (h1 : stB l m = false) (h2 : stB m l = false) : er l m = 0 := by
  simp only [stB, decide_eq_false_iff_not] at h1 h2
  unfold er; rw [if_neg (fun e => h1 (by rw [e]; exact List.prefix_refl _)), if_neg (by rintro (h | h); exact h1 h; exact h2 h)]

theorem wsR_min (a b : Nat) : (min (a : Int) (b : Int)) = ((min a b : Nat) : Int) := by omega
set_option maxHeartbeats 1000000 in
theorem against16 (v1 v2 : Value) (l m : List ByteArray) (w : World) (hl : l.length * 16 ≤ 140737488351232) (hm : m.length * 16 ≤ 140737488351232) (h1 : SR w l v1) (h2 : SR w m v2) :
    Calls Tryd.prog 21 #[v1, v2] w fun e w' => e = .returned (.int .i64 (er l m)) ∧ ∃ n, w' = w.drewN n := by
  obtain ⟨a1, c1, rfl, hc1, hh1⟩ := h1
  obtain ⟨a2, c2, rfl, hc2, hh2⟩ := h2
  have H1 : SR w l (.slice a1 l.length c1) := ⟨a1, c1, rfl, hc1, hh1⟩
  have H2 : SR w m (.slice a2 m.length c2) := ⟨a2, c2, rfl, hc2, hh2⟩
  clear hh1 hh2
  obtain ⟨k, hk⟩ : ∃ k, k = min l.length m.length := ⟨_, rfl⟩
  have hk1 : k ≤ l.length := by omega
  have hk2 : k ≤ m.length := by omega
  have E : Hid (∀ n, Calls Tryd.prog 30 #[.slice a1 k c1, .slice a2 k c2] (w.drewN n) fun e w' => e = .returned (.bool (smB (l.take k) (m.take k))) ∧ ∃ n2, w' = (w.drewN n).drewN n2) := fun n =>
    equal25 _ _ (l.take k) (m.take k) (w.drewN n) (by rw [List.length_take]; omega) (by rw [List.length_take]; omega) ((H1.take hk1).keep (drB _ _)) ((H2.take hk2).keep (drB _ _))
  have hmin : min (l.length : Int) (m.length : Int) = (k : Int) := by omega
  have HZ : Hid (er l m = if smB (l.take k) (m.take k) = true then (if l.length = m.length then 56 else 57) else 0) := by
    show er l m = _
    by_cases h : l.take k = m.take k
    · have e : smB (l.take k) (m.take k) = true := by simp [smB, h]
      rw [if_pos e]
      rw [hk] at h
      split
      · rename_i hl'; exact er_same h hl'
      · rename_i hl'; exact er_fold h hl'
    · have e : smB (l.take k) (m.take k) = false := by simp [smB, h]
      rw [e]
      rw [hk] at h
      exact er_no h
  clear H1 H2 hk
  generalize smB (l.take k) (m.take k) = b at E HZ
  generalize er l m = z at HZ
  generalize l.length = n1 at *
  generalize m.length = n2 at *
  have hk3 : (k : Int) ≤ c1 := by omega
  have hk4 : (k : Int) ≤ c2 := by omega
  have hmin2 : k = n1 ∧ n1 < n2 ∨ k = n1 ∧ n1 = n2 ∨ k = n2 ∧ n2 < n1 := by omega
  clear hmin
  rcases hmin2 with ⟨rfl, hlt⟩ | ⟨rfl, rfl⟩ | ⟨rfl, hlt⟩
  · cases b
    · have HZ' : Hid (z = 0) := HZ.out
      clear HZ
      go_enter Tryd.func21, Tryd.ntmps21
      go_wp2
      go_quiet ((go_at_call 30; exact Calls.quiet_of (E.out _)))
      go_wp2
      go_ret
      exact ⟨ret_i HZ'.out.symm, _, rfl⟩
    · have HZ' : Hid (z = 57) := by have := HZ.out; rw [if_pos rfl, if_neg (by omega)] at this; exact this
      clear HZ
      have hne : ((k : Int) == (n2 : Int)) = false := by simp; omega
      go_enter Tryd.func21, Tryd.ntmps21
      go_wp2
      go_quiet ((go_at_call 30; exact Calls.quiet_of (E.out _)))
      go_wp2
      go_ret
      exact ⟨ret_i HZ'.out.symm, _, rfl⟩
  · cases b
    · have HZ' : Hid (z = 0) := HZ.out
      clear HZ
      go_enter Tryd.func21, Tryd.ntmps21
      go_wp2
      go_quiet ((go_at_call 30; exact Calls.quiet_of (E.out _)))
      go_wp2
      go_ret
      exact ⟨ret_i HZ'.out.symm, _, rfl⟩
    · have HZ' : Hid (z = 56) := by have := HZ.out; rw [if_pos rfl, if_pos rfl] at this; exact this
      clear HZ
      go_enter Tryd.func21, Tryd.ntmps21
      go_wp2
      go_quiet ((go_at_call 30; exact Calls.quiet_of (E.out _)))
      go_wp2
      go_ret
      exact ⟨ret_i HZ'.out.symm, _, rfl⟩
  · cases b
    · have HZ' : Hid (z = 0) := HZ.out
      clear HZ
      go_enter Tryd.func21, Tryd.ntmps21
      go_wp2
      go_quiet ((go_at_call 30; exact Calls.quiet_of (E.out _)))
      go_wp2
      go_ret
      exact ⟨ret_i HZ'.out.symm, _, rfl⟩
    · have HZ' : Hid (z = 57) := by have := HZ.out; rw [if_pos rfl, if_neg (by omega)] at this; exact this
      clear HZ
      have hne : ((n1 : Int) == (k : Int)) = false := by simp; omega
      go_enter Tryd.func21, Tryd.ntmps21
      go_wp2
      go_quiet ((go_at_call 30; exact Calls.quiet_of (E.out _)))
      go_wp2
      go_ret
      exact ⟨ret_i HZ'.out.symm, _, rfl⟩
end Go.Proofs.YtoiehkpmemmldaaDoor
