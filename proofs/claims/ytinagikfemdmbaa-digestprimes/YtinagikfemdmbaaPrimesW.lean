import Derived.Test.YtinagikfemdmbaaPrime
namespace Go.Proofs.Ytinagikfemdmbaa
open Go.RowKit
theorem info3 : (Try.prog.info? 3).map (fun i => (i.zero, i.size, i.bytes)) = some (some (.int .i64 0), 1, 8) := by kernel_rfl
theorem ReadsI.of_owns {w : World} {base : Nat} {v : Value} {xs : List Int} {n : Nat} (h : w.ownsRow base 3 1 v n (xs.map (Value.int .i64))) : ReadsI w v xs := by
  have hl := h.1
  simp at hl
  rcases h.2 with ⟨rfl, h0⟩ | ⟨g, cap, cur, rfl, _, hg, _⟩
  · have : xs = [] := List.length_eq_zero_iff.1 (by omega)
    subst this; exact ⟨none, 0, rfl, .inl rfl⟩
  · refine ⟨_, cap, by rw [hl], .inr ⟨g, 0, rfl, (Array.getElem?_eq_some_iff.1 hg).1, fun i hi => ?_⟩⟩
    have := h.cells (g := g) rfl i (.int .i64 (xs.getD i 0)) (by simp [List.getElem?_map, List.getElem?_eq_getElem hi, List.getD])
    have hadd : (⟨g, 0, none⟩ : Addr).add i = ⟨g, i, none⟩ := by unfold Addr.add; split <;> simp_all
    rw [hadd] at this
    simpa using this
theorem ReadsI.below {w w' : World} {v : Value} {xs : List Int} (h : ReadsI w v xs) (hb : Below w.heap.size w w') : ReadsI w' v xs := by
  obtain ⟨a, c, rfl, g⟩ := h
  refine ⟨a, c, rfl, ?_⟩
  rcases g with rfl | ⟨b, o, rfl, hlt, g⟩
  · exact .inl rfl
  · exact .inr ⟨b, o, rfl, Nat.lt_of_lt_of_le hlt hb.size, fun i hi => (hb.cell (p := ⟨b, o + i, none⟩) hlt).trans (g i hi)⟩
theorem owns_form {w : World} {base e n : Nat} {v : Value} {xs : List Value} (h : w.ownsRow base e 1 v n xs) : ∃ a cap, v = .slice a n cap := by
  rcases h.2 with ⟨rfl, rfl⟩ | ⟨g, cap, _, rfl, _⟩
  · exact ⟨none, 0, rfl⟩
  · exact ⟨_, cap, rfl⟩
theorem below_appI {w wr w1 : World} {o : Obj} {v : Value} {n e : Nat} {xs : List Value} (hb : Below w.heap.size w wr) (hown : wr.ownsRow w.heap.size e 1 v n xs) (hg : (wr.alloc o).grownBy w1 v.ownBlock) : Below w.heap.size w w1 :=
  (hb.alloc hb.size o).grown hg (by have := hb.size; simp; omega) (fun k hk => (hown.lt k hk).1)
set_option maxHeartbeats 400000 in
theorem primes13_no (n : Int) (w : World) (h : n < 0 ∨ 64 < n) :
    Calls Try.prog 13 #[.int .i64 n] w fun e w' => e = .returned (.tuple #[.slice none 0 0, .int .i64 11]) ∧ w' = w := by
  by_cases h0 : n < 0
  · go_enter Try.func13, Try.ntmps13
    go_wp2
    go_ret2
    exact ⟨rfl, rfl⟩
  · have h1 : 64 < n := by omega
    go_enter Try.func13, Try.ntmps13
    go_wp2
    go_ret2
    exact ⟨rfl, rfl⟩
set_option maxHeartbeats 400000 in
theorem primes14_no (n : Int) (w : World) (h : n < 0 ∨ 64 < n) :
    Calls Try.prog 14 #[.int .i64 n] w fun e w' => e = .returned (.tuple #[.slice none 0 0, .int .i64 11]) ∧ w' = w := by
  by_cases h0 : n < 0
  · go_enter Try.func14, Try.ntmps14
    go_wp2
    go_ret2
    exact ⟨rfl, rfl⟩
  · have h1 : 64 < n := by omega
    go_enter Try.func14, Try.ntmps14
    go_wp2
    go_ret2
    exact ⟨rfl, rfl⟩
theorem prim_le {c : Nat} (h : c ≤ 312) : (prim c).length ≤ 64 := by
  obtain ⟨r, hr⟩ := prim_pre c (312 - c)
  rw [show c + (312 - c) = 312 by omega] at hr
  have := prim_312
  rw [hr] at this
  simp at this
  omega
theorem prim_lt {c : Nat} (h : c ≤ 312) (hl : (prim c).length < 64) : c < 312 := by
  have := prim_312
  rcases Nat.lt_or_ge c 312 with h1 | h1
  · exact h1
  · have : c = 312 := by omega
    subst this; omega
set_option maxHeartbeats 800000 in
theorem primes13_yes (n : Int) (w : World) (h0 : 0 ≤ n) (h1 : n ≤ 64) :
    Calls Try.prog 13 #[.int .i64 n] w fun e w' => ∃ v, e = .returned (.tuple #[v, .int .i64 0]) ∧ ∃ c, ((prim c).length : Int) = n ∧ ReadsI w' v (prim c) ∧ Below w.heap.size w w' := by
  obtain ⟨i0, hi, hz0, hz1, hz2⟩ := info_parts info3
  have hd1 : decide (n < 0) = false := by simp; omega
  have hd2 : decide (64 < n) = false := by simp; omega
  go_enter Try.func13, Try.ntmps13
  go_wp2
  go_loopw [4, 5] (fun v t wr => ∃ (c m : Nat) (a : Option Addr) (cap : Nat), 2 ≤ c ∧ c ≤ 312 ∧ t = .int .i64 c ∧ v = .slice a m cap ∧ (m : Int) ≤ n ∧ Hid (m = (prim c).length) ∧ wr.ownsRow w.heap.size 3 1 v m ((prim c).map (Value.int .i64)) ∧ Below w.heap.size w wr) (fun _ t _ => 312 - (intOf t).toNat)
  case atStart => exact ⟨2, 0, none, 0, Nat.le_refl _, by omega, rfl, rfl, h0, rfl, World.ownsRow_nil _ _ _ _, Below.refl _ _⟩
  case round =>
    obtain ⟨c, m, a, cap, hc1, hc2, rfl, rfl, hmn, hm, hown, hbel⟩ := hrel
    by_cases hlt : (m : Int) < n
    · have hc3 : c < 312 := prim_lt hc2 (by have := hm.out; omega)
      have hle : (prim c).length ≤ 64 := prim_le hc2
      have hcall := isPrime23 c (.slice a m cap) (prim c) wr hc1 hc3 hle (prim_pos hc2) (ReadsI.of_owns hown)
      rw [nodiv_prim hc1 hc3] at hcall
      have HC : Hid (Calls Try.prog 23 #[.int .i64 c, .slice a m cap] wr fun e w' => e = .returned (.bool (isP c)) ∧ w' = wr) := hcall
      have hm64 : m ≤ 64 := by omega
      clear hcall hle
      cases hp : isP c with
      | false =>
        rw [hp] at HC
        have HN : Hid (prim (c + 1) = prim c) := prim_no hp
        clear hp
        go_wp2_with (go_at_call 23; refine HC.out.mono ?_; rintro e w' ⟨rfl, rfl⟩)
        go_roundw
        case rel => exact ⟨c + 1, m, a, cap, by omega, by omega, by go_num, rfl, hmn, by rw [HN.out]; exact hm, by rw [HN.out]; exact hown, hbel⟩
        case measure => simp [intOf]; omega
      | true =>
        rw [hp] at HC
        have HN : Hid (prim (c + 1) = prim c ++ [(c : Int)]) := prim_yes hc1 hp
        clear hp
        go_wp2_with (first
          | (go_at_call 23; refine HC.out.mono ?_; rintro e w' ⟨rfl, hww⟩; subst hww)
          | (at_builtin; refine wpList_append_own _ rfl _ _ 32 rfl w.heap.size 3 i0 (.int .i64 0) 1 8 Try.underlying32 hi hz0 hz1 hz2 rfl (by decide) _ _ _ rfl (hown.alloc _) ⟨World.heap _ |>.size, 0, none⟩ 1 1 [.int .i64 c] rfl rfl (cell_one_new _ _ _) (fun u hu => by simp at hu; subst hu; rfl) (by unfold maxLen; omega) (by omega) (by have := hbel.size; simp; omega) ?_; intro v' w1 hown' hgrow _))
        obtain ⟨a', cap', rfl⟩ := owns_form hown'
        have hbel' := below_appI hbel hown hgrow
        clear hown hgrow hbel
        go_roundw
        case rel => exact ⟨c + 1, m + 1, a', cap', by omega, by omega, by go_num, rfl, by omega, by rw [HN.out]; have := hm.out; simp [Hid, this], by rw [HN.out]; simpa using hown', hbel'⟩
        case measure => simp [intOf]; omega
    · go_wp2
      go_ret2
      exact ⟨_, rfl, c, by have := hm.out; omega, ReadsI.of_owns hown, hbel⟩
set_option maxHeartbeats 800000 in
theorem primes14_yes (n : Int) (w : World) (h0 : 0 ≤ n) (h1 : n ≤ 64) :
    Calls Try.prog 14 #[.int .i64 n] w fun e w' => ∃ v, e = .returned (.tuple #[v, .int .i64 0]) ∧ ∃ c, ((prim c).length : Int) = n ∧ ReadsI w' v (prim c) ∧ Below w.heap.size w w' := by
  obtain ⟨i0, hi, hz0, hz1, hz2⟩ := info_parts info3
  have hd1 : decide (n < 0) = false := by simp; omega
  have hd2 : decide (64 < n) = false := by simp; omega
  go_enter Try.func14, Try.ntmps14
  go_wp2
  go_loopw [4, 5] (fun v t wr => ∃ (c m : Nat) (a : Option Addr) (cap : Nat), 2 ≤ c ∧ c ≤ 312 ∧ t = .int .i64 c ∧ v = .slice a m cap ∧ (m : Int) ≤ n ∧ Hid (m = (prim c).length) ∧ wr.ownsRow w.heap.size 3 1 v m ((prim c).map (Value.int .i64)) ∧ Below w.heap.size w wr) (fun _ t _ => 312 - (intOf t).toNat)
  case atStart => exact ⟨2, 0, none, 0, Nat.le_refl _, by omega, rfl, rfl, h0, rfl, World.ownsRow_nil _ _ _ _, Below.refl _ _⟩
  case round =>
    obtain ⟨c, m, a, cap, hc1, hc2, rfl, rfl, hmn, hm, hown, hbel⟩ := hrel
    by_cases hlt : (m : Int) < n
    · have hc3 : c < 312 := prim_lt hc2 (by have := hm.out; omega)
      have hcall := prime24 c wr hc1 hc3
      have HC : Hid (Calls Try.prog 24 #[.int .i64 c] wr fun e w' => e = .returned (.bool (isP c)) ∧ w' = wr) := hcall
      have hm64 : m ≤ 64 := by omega
      clear hcall
      cases hp : isP c with
      | false =>
        rw [hp] at HC
        have HN : Hid (prim (c + 1) = prim c) := prim_no hp
        clear hp
        go_wp2_with (go_at_call 24; refine HC.out.mono ?_; rintro e w' ⟨rfl, rfl⟩)
        go_roundw
        case rel => exact ⟨c + 1, m, a, cap, by omega, by omega, by go_num, rfl, hmn, by rw [HN.out]; exact hm, by rw [HN.out]; exact hown, hbel⟩
        case measure => simp [intOf]; omega
      | true =>
        rw [hp] at HC
        have HN : Hid (prim (c + 1) = prim c ++ [(c : Int)]) := prim_yes hc1 hp
        clear hp
        go_wp2_with (first
          | (go_at_call 24; refine HC.out.mono ?_; rintro e w' ⟨rfl, hww⟩; subst hww)
          | (at_builtin; refine wpList_append_own _ rfl _ _ 32 rfl w.heap.size 3 i0 (.int .i64 0) 1 8 Try.underlying32 hi hz0 hz1 hz2 rfl (by decide) _ _ _ rfl (hown.alloc _) ⟨World.heap _ |>.size, 0, none⟩ 1 1 [.int .i64 c] rfl rfl (cell_one_new _ _ _) (fun u hu => by simp at hu; subst hu; rfl) (by unfold maxLen; omega) (by omega) (by have := hbel.size; simp; omega) ?_; intro v' w1 hown' hgrow _))
        obtain ⟨a', cap', rfl⟩ := owns_form hown'
        have hbel' := below_appI hbel hown hgrow
        clear hown hgrow hbel
        go_roundw
        case rel => exact ⟨c + 1, m + 1, a', cap', by omega, by omega, by go_num, rfl, by omega, by rw [HN.out]; have := hm.out; simp [Hid, this], by rw [HN.out]; simpa using hown', hbel'⟩
        case measure => simp [intOf]; omega
    · go_wp2
      go_ret2
      exact ⟨_, rfl, c, by have := hm.out; omega, ReadsI.of_owns hown, hbel⟩
end Go.Proofs.Ytinagikfemdmbaa
