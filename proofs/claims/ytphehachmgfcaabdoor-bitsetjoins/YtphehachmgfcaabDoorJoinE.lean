import Derived.Test.YtphehachmgfcaabDoorJoinD
namespace Go.Proofs.YtphehachmgfcaabDoor
open Go.RowKit
set_option maxHeartbeats 2000000 in
theorem joined1 (n : Int) (h0 : -9223372036854775808 ≤ n) (h1 : n ≤ 9223372036854775807) (v u : Value) (l r : List UInt8) (w : World) (hr : RB w v l) (hs : RB w u r) (hl : l.length ≤ 140737488351232) (hl2 : r.length ≤ 140737488351232) :
    Calls Tryd.prog 51 #[.int .i64 n, v, u, .int .i64 1] w fun e w' => ∃ v' o, e = .returned (.tuple #[v', .int .i64 (bE n l r)]) ∧ OW w.heap.size w' v' o ∧ JR n l r fA o ∧ Below w.heap.size w w' := by
  have HC : Hid (Calls Tryd.prog 52 #[.int .i64 n, v, u] w fun e w' => e = .returned (.int .i64 (bE n l r)) ∧ ∃ nq, w' = w.drewN nq) := both52 n h0 h1 v u l r w hr hs hl hl2
  have HR : Hid (RB w v l ∧ RB w u r) := ⟨hr, hs⟩
  obtain ⟨a, c, rfl, _⟩ := hr
  obtain ⟨a2, c2, rfl, _⟩ := hs
  by_cases hb : bE n l r = 0
  · obtain ⟨hck, hck2⟩ := bE_zero hb
    obtain ⟨k0, k1, k2, k3⟩ := ck_ok hck
    obtain ⟨j0, j1, j2, j3⟩ := ck_ok hck2
    obtain ⟨m, rfl⟩ := Int.eq_ofNat_of_zero_le k0
    have HK : Hid (bE m l r = 0 ∧ m ≤ 8 * l.length ∧ m ≤ 8 * r.length) := ⟨hb, by have : (m : Int).toNat = m := by simp
                                                                                  omega, by have : (m : Int).toNat = m := by simp
                                                                                            omega⟩
    have hm6 : m ≤ 65536 := by omega
    have hl8 : l.length ≤ 100000 := by omega
    have hr8 : r.length ≤ 100000 := by omega
    obtain ⟨F, hF⟩ : ∃ F : Nat → Bool, ∀ i, F i = fA (bit l i) (bit r i) := ⟨_, fun _ => rfl⟩
    have HfA : Hid (∀ i, F i = fA (bit l i) (bit r i)) := hF
    clear hF
    rw [hb] at HC ⊢
    clear hb hck hck2 k0 k1 k2 k3 j0 j1 j2 j3 h0 h1
    go_enter Tryd.func51, Tryd.ntmps51
    go_wp2_with (go_at_call 52; refine HC.out.mono ?_; rintro e w1 ⟨rfl, nq, rfl⟩)
    refine (open32 _ l _ (HR.out.1.keep (belowDrew _ _)) hl8).mono ?_
    rintro e w2 ⟨v2, rfl, ho2, hb2⟩
    obtain ⟨a3, c3, rfl⟩ := ho2.form
    have hbw2 : Below w.heap.size w w2 := (belowDrew w nq).trans hb2
    have HRr := HR.out.2.keep hbw2
    have H2 : Hid (OB w.heap.size w2 (.slice a3 (bl l (8 * l.length)).length c3) (bl l (8 * l.length)) ∧ Below w.heap.size w w2 ∧ RB w2 (.slice a2 r.length c2) r) := ⟨ho2, hbw2, HRr⟩
    clear ho2 hb2 hbw2 HRr HR
    go_wp2_with (go_at_call 42; refine (open32 _ r _ H2.out.2.2 hr8).mono ?_; rintro e w3 ⟨v3, rfl, ho3, hb3⟩; obtain ⟨a4, c4, rfl⟩ := ho3.form)
    rw [bl_len, bl_len] at *
    have H3 : Hid (OB w.heap.size w3 (.slice a3 (8 * l.length) c3) (bl l (8 * l.length)) ∧ OB w2.heap.size w3 (.slice a4 (8 * r.length) c4) (bl r (8 * r.length)) ∧ Below w.heap.size w w3) := ⟨H2.out.1.grow hb3, ho3, H2.out.2.1.trans (hb3.mono H2.out.2.1.size)⟩
    clear ho3 hb3 H2
    go_loopw [13, 14] (fun x i wr => ∃ (k : Nat) (a5 : Option Addr) (c5 : Nat), k ≤ m ∧ i = .int .i64 k ∧ x = .slice a5 k c5 ∧ OB w3.heap.size wr x (fl F k) ∧ Below w3.heap.size w3 wr) (fun _ i _ => m - (intOf i).toNat)
    case atStart => exact ⟨0, none, 0, Nat.zero_le _, rfl, rfl, World.ownsRow_nil _ _ _ _, Below.refl _ _⟩
    case round =>
      obtain ⟨k, a5, c5, hk, rfl, rfl, ho5, hb5⟩ := hrel
      by_cases hlt : k < m
      · have hk1 : k < 8 * l.length := by have := HK.out.2.1; omega
        have hk2 : k < 8 * r.length := by have := HK.out.2.2; omega
        obtain ⟨g1, rfl, _, hg1, q1, _⟩ := H3.out.1.at k hk1
        obtain ⟨g2, rfl, _, hg2, q2, _⟩ := H3.out.2.1.at k hk2
        rw [lb_bl l _ k hk1] at q1
        rw [lb_bl r _ k hk2] at q2
        have q1' := (hb5.cell (p := ⟨g1, k, none⟩) hg1).trans q1
        have q2' := (hb5.cell (p := ⟨g2, k, none⟩) hg2).trans q2
        have hB := hb5.size
        have HS : Hid (fl F (k + 1) = fl F k ++ [fA (bit l k) (bit r k)] ∧ (fl F k).length = k) := ⟨by rw [fl_snoc, HfA.out], fl_len _ _⟩
        have HP : Hid (OB w3.heap.size wr (.slice a5 k c5) (fl F k) ∧ Below w3.heap.size w3 wr) := ⟨ho5, hb5⟩
        clear ho5 hb5 q1 q2
        generalize bit l k = x at *
        generalize bit r k = y at *
        cases x <;> cases y
        · go_wp2_with (at_builtin; refine append_bool rfl _ _ rfl rfl (HP.out.1.alloc _) wr.heap.size false rfl (by go_simp) (by simp; omega) (by rw [HS.out.2]; omega) ?_; (intro v' w4 ho' hb'; obtain ⟨a6, c6, rfl⟩ := ho'.form))
          have hlen : (fl F k).length + 1 = k + 1 := by rw [HS.out.2]
          have ho7 : OB w3.heap.size w4 (.slice a6 ((fl F k).length + 1) c6) (fl F (k + 1)) := by rw [HS.out.1]; simpa [fA] using ho'
          exact ⟨⟨k + 1, a6, c6, by omega, by go_num, by rw [hlen], ho7, (HP.out.2.alloc hB _).trans hb'⟩, by simp [intOf]; omega⟩
        · go_wp2_with (at_builtin; refine append_bool rfl _ _ rfl rfl (HP.out.1.alloc _) wr.heap.size false rfl (by go_simp) (by simp; omega) (by rw [HS.out.2]; omega) ?_; (intro v' w4 ho' hb'; obtain ⟨a6, c6, rfl⟩ := ho'.form))
          have hlen : (fl F k).length + 1 = k + 1 := by rw [HS.out.2]
          have ho7 : OB w3.heap.size w4 (.slice a6 ((fl F k).length + 1) c6) (fl F (k + 1)) := by rw [HS.out.1]; simpa [fA] using ho'
          exact ⟨⟨k + 1, a6, c6, by omega, by go_num, by rw [hlen], ho7, (HP.out.2.alloc hB _).trans hb'⟩, by simp [intOf]; omega⟩
        · go_wp2_with (at_builtin; refine append_bool rfl _ _ rfl rfl (HP.out.1.alloc _) wr.heap.size false rfl (by go_simp) (by simp; omega) (by rw [HS.out.2]; omega) ?_; (intro v' w4 ho' hb'; obtain ⟨a6, c6, rfl⟩ := ho'.form))
          have hlen : (fl F k).length + 1 = k + 1 := by rw [HS.out.2]
          have ho7 : OB w3.heap.size w4 (.slice a6 ((fl F k).length + 1) c6) (fl F (k + 1)) := by rw [HS.out.1]; simpa [fA] using ho'
          exact ⟨⟨k + 1, a6, c6, by omega, by go_num, by rw [hlen], ho7, (HP.out.2.alloc hB _).trans hb'⟩, by simp [intOf]; omega⟩
        · go_wp2_with (at_builtin; refine append_bool rfl _ _ rfl rfl (HP.out.1.alloc _) wr.heap.size true rfl (by go_simp) (by simp; omega) (by rw [HS.out.2]; omega) ?_; (intro v' w4 ho' hb'; obtain ⟨a6, c6, rfl⟩ := ho'.form))
          have hlen : (fl F k).length + 1 = k + 1 := by rw [HS.out.2]
          have ho7 : OB w3.heap.size w4 (.slice a6 ((fl F k).length + 1) c6) (fl F (k + 1)) := by rw [HS.out.1]; simpa [fA] using ho'
          exact ⟨⟨k + 1, a6, c6, by omega, by go_num, by rw [hlen], ho7, (HP.out.2.alloc hB _).trans hb'⟩, by simp [intOf]; omega⟩
      · obtain rfl : k = m := by omega
        have hB := hb5.size
        have HB : Hid (Below w.heap.size w wr) := H3.out.2.2.trans (hb5.mono H3.out.2.2.size)
        have hBw : w.heap.size ≤ wr.heap.size := HB.out.size
        have HP : Hid (Calls Tryd.prog 44 #[.slice a5 k c5] wr fun e w' => ∃ v' o, e = .returned v' ∧ OW w.heap.size w' v' o ∧ BF k (lb (fl F k)) o ∧ Below w.heap.size wr w') := pack31B w.heap.size k _ _ _ ho5.ro (fl_len _ _) (by omega) hBw
        clear ho5 hb5
        go_wp2_with (go_at_call 44; refine HP.out.mono ?_; rintro e w4 ⟨v', o, rfl, ho, hbf, hb'⟩; obtain ⟨a6, c6, rfl⟩ := ho.form)
        go_ret2
        exact ⟨_, o, rfl, ho, .inr ⟨HK.out.1, (bf_fl hbf).1, fun i => by rw [(bf_fl hbf).2, HfA.out]; rfl⟩, HB.out.trans hb'⟩
  · have HJ : Hid (JR n l r fA []) := .inl ⟨hb, rfl⟩
    have hz : (bE n l r != 0) = true := by simpa using hb
    clear hb
    generalize bE n l r = z at *
    go_enter Tryd.func51, Tryd.ntmps51
    go_wp2_with (go_at_call 52; refine HC.out.mono ?_; rintro e w1 ⟨rfl, nq, rfl⟩)
    go_ret2
    exact ⟨_, [], rfl, World.ownsRow_nil _ _ _ _, HJ.out, belowDrew _ _⟩
set_option maxHeartbeats 1000000 in
theorem rwrap33 (n : Int) (h0 : -9223372036854775808 ≤ n) (h1 : n ≤ 9223372036854775807) (v u : Value) (l r : List UInt8) (w : World) (hr : RB w v l) (hs : RB w u r) (hl : l.length ≤ 140737488351232) (hl2 : r.length ≤ 140737488351232) :
    Calls Tryd.prog 33 #[.int .i64 n, v, u] w fun e w' => ∃ v' o, e = .returned (.tuple #[v', .int .i64 (bE n l r)]) ∧ OW w.heap.size w' v' o ∧ JR n l r fA o ∧ Below w.heap.size w w' := by
  have HJ : Hid (Calls Tryd.prog 51 #[.int .i64 n, v, u, .int .i64 1] w fun e w' => ∃ v' o, e = .returned (.tuple #[v', .int .i64 (bE n l r)]) ∧ OW w.heap.size w' v' o ∧ JR n l r fA o ∧ Below w.heap.size w w') := joined1 n h0 h1 v u l r w hr hs hl hl2
  obtain ⟨a, c, rfl, _⟩ := hr
  obtain ⟨a2, c2, rfl, _⟩ := hs
  generalize bE n l r = z at *
  go_enter Tryd.func33, Tryd.ntmps33
  go_wp2_with (go_at_call 51; refine HJ.out.mono ?_; rintro e w1 ⟨v', o, rfl, ho, hj, hb⟩; obtain ⟨a3, c3, rfl⟩ := ho.form)
  go_ret2
  exact ⟨_, o, rfl, ho, hj, hb⟩
end Go.Proofs.YtphehachmgfcaabDoor
