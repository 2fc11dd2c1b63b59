import Derived.Test.YtjhnkdhbjpddcaaDoorJoinA
namespace Go.Proofs.YtjhnkdhbjpddcaaDoor
open Go.RowKit
set_option maxHeartbeats 400000 in
theorem fn47 (x y : UInt8) (w : World) : Calls Tryd.prog 32 #[.int .u8 (x.toNat : Int), .int .u8 (y.toNat : Int)] w fun e w' => e = .returned (.int .u8 ((gO x y).toNat : Int)) ∧ w = w' := by
  have h := u8_or_nat x.toNat y.toNat (UInt8.toNat_lt _) (UInt8.toNat_lt _)
  rw [← gO_n] at h
  go_enter Tryd.func32, Tryd.ntmps32
  go_wp2
  go_ret
  exact ⟨by first | rfl | (rw [h]; rfl) | (rw [gO_n]; rfl), rfl⟩
set_option maxHeartbeats 2000000 in
theorem join47 (n : Int) (h0 : -9223372036854775808 ≤ n) (h1 : n ≤ 9223372036854775807) (v u : Value) (l r : List UInt8) (w : World) (hr : RB w v l) (hs : RB w u r) (hm : MT w) (hl : l.length ≤ 140737488351232) (hl2 : r.length ≤ 140737488351232) :
    Calls Tryd.prog 19 #[.int .i64 n, v, u, .func (.func 32) #[] #[]] w fun e w' => ∃ v' o, e = .returned (.tuple #[v', .int .i64 (bE n l r)]) ∧ OW w.heap.size w' v' o ∧ JR n l r fO o ∧ Below w.heap.size w w' := by
  have HC : Hid (Calls Tryd.prog 8 #[.int .i64 n, v] w fun e w' => e = .returned (.int .i64 (ck n l)) ∧ ∃ nq, w' = w.drewN nq) := check10 n h0 h1 v l w hr hm hl
  have HD : Hid (∀ nq, Calls Tryd.prog 8 #[.int .i64 n, u] (w.drewN nq) fun e w' => e = .returned (.int .i64 (ck n r)) ∧ ∃ nr, w' = (w.drewN nq).drewN nr) := fun nq => check10 n h0 h1 u r _ (hs.keep (belowDrew _ _)) (hm.keep (belowDrew _ _)) hl2
  have HR : Hid (RB w v l ∧ RB w u r) := ⟨hr, hs⟩
  obtain ⟨a, c, rfl, kr⟩ := hr
  obtain ⟨a2, c2, rfl, ks⟩ := hs
  clear hm
  by_cases hck : ck n l = 0
  · rw [hck] at HC
    have hbE : bE n l r = ck n r := by unfold bE; rw [if_neg (by simp [hck])]
    by_cases hck2 : ck n r = 0
    · have HK : Hid (ck n l = 0 ∧ ck n r = 0 ∧ bE n l r = 0 ∧ r.length = l.length) := ⟨hck, hck2, hbE.trans hck2, by have := ck_ok hck; have := ck_ok hck2; omega⟩
      have hl8 : l.length ≤ 8192 := by have := ck_ok hck; omega
      rw [hck2] at HD
      rw [hbE, hck2]
      have hrl := HK.out.2.2.2
      rw [hrl] at ks HD
      have KS : Hid ((l = [] ∨ ∃ g o, a = some ⟨g, o, none⟩ ∧ g < w.heap.size ∧ ∀ i, i < l.length → w.cell? ⟨g, o + i, none⟩ = some (.int .u8 ((byt l i).toNat : Int))) ∧ (r = [] ∨ ∃ g o, a2 = some ⟨g, o, none⟩ ∧ g < w.heap.size ∧ ∀ i, i < l.length → w.cell? ⟨g, o + i, none⟩ = some (.int .u8 ((byt r i).toNat : Int)))) := ⟨kr, ks⟩
      rw [hrl]
      clear kr ks hrl hbE hck hck2
      obtain ⟨i0, hi, hz0, hz1, hz2⟩ := info_parts info5
      have hmk : ∀ u : World, (Instr.makeSlice 22 (.int .i64 (l.length : Int)) (.int .i64 (l.length : Int))).run Tryd.prog u =
          .ok (.slice (some ⟨u.heap.size, 0, none⟩) l.length l.length) (u.alloc (.cells (madeCells #[.int .u8 0] l.length) 5)) := fun u => by
        have h := run_make (P := Tryd.prog) u 22 5 i0 (.int .u8 0) Tryd.underlying22 hi hz0 .i64 .i64 (l.length : Int) (l.length : Int) (by omega) (by omega) (by rw [hz2]; omega) (by omega)
        rw [hz1] at h
        simpa only [Value.cells, Int.toNat_natCast, Nat.mul_one] using h
      clear hi hz0 hz1 hz2
      go_enter Tryd.func19, Tryd.ntmps19
      go_wp2_with (go_at_call 8; first | (refine HC.out.mono ?_; clear HC; rintro e w1 ⟨rfl, nq, rfl⟩) | (refine (HD.out _).mono ?_; rintro e w1 ⟨rfl, nr, rfl⟩))
      have HZ := OW.zeros (w.drewN (nq + nr)) l.length (by omega)
      have hbz : Below w.heap.size w ((w.drewN (nq + nr)).alloc (.cells (madeCells #[.int .u8 0] l.length) 5)) := (belowDrew w (nq + nr)).alloc (Nat.le_refl _) _
      clear hmk
      go_loopw [31] (fun t wr => ∃ (k : Nat) (o : List UInt8), k ≤ l.length ∧ t = .int .i64 k ∧ OW w.heap.size wr (.slice (some ⟨w.heap.size, 0, none⟩) l.length l.length) o ∧ o.length = l.length ∧ (∀ j, j < k → byt o j = gO (byt l j) (byt r j)) ∧ Below w.heap.size w wr) (fun t _ => l.length - (intOf t).toNat)
      case atStart => exact ⟨0, _, Nat.zero_le _, rfl, HZ, by simp, fun j hj => absurd hj (Nat.not_lt_zero _), hbz⟩
      case round =>
        clear HZ hbz
        obtain ⟨k, o, hk, rfl, ho, hlen, hbit, hb⟩ := hrel
        by_cases hlt : k < l.length
        · rcases KS.out.1 with h | ⟨g1, o1, rfl, hg1, hc1⟩
          · rw [h] at hlt; simp at hlt
          rcases KS.out.2 with h | ⟨g2, o2, rfl, hg2, hc2⟩
          · have := HK.out.2.2.2; rw [h] at this; simp at this; omega
          have q1 := (hb.cell (p := ⟨g1, o1 + k, none⟩) hg1).trans (hc1 k hlt)
          have q2 := (hb.cell (p := ⟨g2, o2 + k, none⟩) hg2).trans (hc2 k hlt)
          obtain ⟨g3, e3, _, q3, q4⟩ := ho.at k hlt
          simp only [Option.some.injEq, Addr.mk.injEq, and_true] at e3
          subst e3
          have HF : Hid (∀ w, Calls Tryd.prog 32 #[.int .u8 ((byt l k).toNat : Int), .int .u8 ((byt r k).toNat : Int)] w fun e w' => e = .returned (.int .u8 ((gO (byt l k) (byt r k)).toNat : Int)) ∧ w = w') := fun w => fn47 _ _ w
          have HO : Hid (OW w.heap.size wr (.slice (some ⟨w.heap.size, 0, none⟩) l.length l.length) o ∧ o.length = l.length ∧ (∀ j, j < k → byt o j = gO (byt l j) (byt r j)) ∧ Below w.heap.size w wr) := ⟨ho, hlen, hbit, hb⟩
          have HY : Hid (∀ j, byt (o.set k (gO (byt l k) (byt r k))) j = if j = k then gO (byt l k) (byt r k) else byt o j) := fun j => byt_set o k j _ (by omega)
          have b0 : (0 : Int) ≤ (k : Int) := by omega
          have b1 : (k : Int) < (l.length : Int) := by omega
          clear ho hlen hbit hb hc1 hc2 KS
          have HE : Hid (gO (byt l k) (byt r k) = gO (byt l k) (byt r k)) := rfl
          generalize hy : gO (byt l k) (byt r k) = y at HF HY
          have HYE : Hid (gO (byt l k) (byt r k) = y) := hy
          clear hy HE
          generalize (byt o k) = ob at *
          go_wp2
          go_region_with (go_at_call 32; refine (HF.out _).mono ?_; rintro e w' ⟨rfl, rfl⟩)
          all_goals go_wp2
          all_goals
            refine ⟨⟨k + 1, o.set k y, by omega, by go_num, (HO.out.1.stored _ _).drew 1, by rw [List.length_set]; exact HO.out.2.1, ?_, belowN (HO.out.2.2.2.setCell (p := ⟨w.heap.size, k, none⟩) (Nat.le_refl _) _) 1⟩, by simp [intOf]; omega⟩
            intro j hj
            rw [HY.out]
            by_cases hjk : j = k
            · rw [if_pos hjk, hjk]; exact HYE.out.symm
            · rw [if_neg hjk]; exact HO.out.2.2.1 j (by omega)
        · obtain rfl : k = l.length := by omega
          have HO : Hid (OW w.heap.size wr (.slice (some ⟨w.heap.size, 0, none⟩) l.length l.length) o ∧ Below w.heap.size w wr ∧ BF n.toNat (fun i => fO (bit l i) (bit r i)) o) := ⟨ho, hb, join_bf (g := gO) rfl gO_b (ck_bf HK.out.1) (ck_bf HK.out.2.1) hlen hbit⟩
          clear ho hlen hbit hb
          go_wp2
          go_ret2
          exact ⟨_, o, rfl, HO.out.1, .inr ⟨HK.out.2.2.1, HO.out.2.2⟩, HO.out.2.1⟩
    · have HJ : Hid (JR n l r fO []) := .inl ⟨by rw [hbE]; exact hck2, rfl⟩
      have hz : (ck n r != 0) = true := by simpa using hck2
      rw [hbE]
      clear hbE hck2 hck kr ks
      generalize ck n r = z at *
      go_enter Tryd.func19, Tryd.ntmps19
      go_wp2_with (go_at_call 8; first | (refine HC.out.mono ?_; clear HC; rintro e w1 ⟨rfl, nq, rfl⟩) | (refine (HD.out _).mono ?_; rintro e w1 ⟨rfl, nr, rfl⟩))
      go_ret2
      exact ⟨_, [], rfl, World.ownsRow_nil _ _ _ _, HJ.out, belowDrew _ _⟩
  · have hbE : bE n l r = ck n l := by unfold bE; rw [if_pos hck]
    have HJ : Hid (JR n l r fO []) := .inl ⟨by rw [hbE]; exact hck, rfl⟩
    have hz : (ck n l != 0) = true := by simpa using hck
    rw [hbE]
    clear hbE hck kr ks HD
    generalize ck n l = z at *
    go_enter Tryd.func19, Tryd.ntmps19
    go_wp2_with (go_at_call 8; refine HC.out.mono ?_; rintro e w1 ⟨rfl, nq, rfl⟩)
    go_ret2
    exact ⟨_, [], rfl, World.ownsRow_nil _ _ _ _, HJ.out, belowDrew _ _⟩
set_option maxHeartbeats 400000 in
theorem fn48 (x y : UInt8) (w : World) : Calls Tryd.prog 33 #[.int .u8 (x.toNat : Int), .int .u8 (y.toNat : Int)] w fun e w' => e = .returned (.int .u8 ((gM x y).toNat : Int)) ∧ w = w' := by
  have h := u8_andNot_nat x.toNat y.toNat (UInt8.toNat_lt _) (UInt8.toNat_lt _)
  rw [← gM_n] at h
  go_enter Tryd.func33, Tryd.ntmps33
  go_wp2
  go_ret
  exact ⟨by first | rfl | (rw [h]; rfl) | (rw [gM_n]; rfl), rfl⟩
set_option maxHeartbeats 2000000 in
theorem join48 (n : Int) (h0 : -9223372036854775808 ≤ n) (h1 : n ≤ 9223372036854775807) (v u : Value) (l r : List UInt8) (w : World) (hr : RB w v l) (hs : RB w u r) (hm : MT w) (hl : l.length ≤ 140737488351232) (hl2 : r.length ≤ 140737488351232) :
    Calls Tryd.prog 19 #[.int .i64 n, v, u, .func (.func 33) #[] #[]] w fun e w' => ∃ v' o, e = .returned (.tuple #[v', .int .i64 (bE n l r)]) ∧ OW w.heap.size w' v' o ∧ JR n l r fM o ∧ Below w.heap.size w w' := by
  have HC : Hid (Calls Tryd.prog 8 #[.int .i64 n, v] w fun e w' => e = .returned (.int .i64 (ck n l)) ∧ ∃ nq, w' = w.drewN nq) := check10 n h0 h1 v l w hr hm hl
  have HD : Hid (∀ nq, Calls Tryd.prog 8 #[.int .i64 n, u] (w.drewN nq) fun e w' => e = .returned (.int .i64 (ck n r)) ∧ ∃ nr, w' = (w.drewN nq).drewN nr) := fun nq => check10 n h0 h1 u r _ (hs.keep (belowDrew _ _)) (hm.keep (belowDrew _ _)) hl2
  have HR : Hid (RB w v l ∧ RB w u r) := ⟨hr, hs⟩
  obtain ⟨a, c, rfl, kr⟩ := hr
  obtain ⟨a2, c2, rfl, ks⟩ := hs
  clear hm
  by_cases hck : ck n l = 0
  · rw [hck] at HC
    have hbE : bE n l r = ck n r := by unfold bE; rw [if_neg (by simp [hck])]
    by_cases hck2 : ck n r = 0
    · have HK : Hid (ck n l = 0 ∧ ck n r = 0 ∧ bE n l r = 0 ∧ r.length = l.length) := ⟨hck, hck2, hbE.trans hck2, by have := ck_ok hck; have := ck_ok hck2; omega⟩
      have hl8 : l.length ≤ 8192 := by have := ck_ok hck; omega
      rw [hck2] at HD
      rw [hbE, hck2]
      have hrl := HK.out.2.2.2
      rw [hrl] at ks HD
      have KS : Hid ((l = [] ∨ ∃ g o, a = some ⟨g, o, none⟩ ∧ g < w.heap.size ∧ ∀ i, i < l.length → w.cell? ⟨g, o + i, none⟩ = some (.int .u8 ((byt l i).toNat : Int))) ∧ (r = [] ∨ ∃ g o, a2 = some ⟨g, o, none⟩ ∧ g < w.heap.size ∧ ∀ i, i < l.length → w.cell? ⟨g, o + i, none⟩ = some (.int .u8 ((byt r i).toNat : Int)))) := ⟨kr, ks⟩
      rw [hrl]
      clear kr ks hrl hbE hck hck2
      obtain ⟨i0, hi, hz0, hz1, hz2⟩ := info_parts info5
      have hmk : ∀ u : World, (Instr.makeSlice 22 (.int .i64 (l.length : Int)) (.int .i64 (l.length : Int))).run Tryd.prog u =
          .ok (.slice (some ⟨u.heap.size, 0, none⟩) l.length l.length) (u.alloc (.cells (madeCells #[.int .u8 0] l.length) 5)) := fun u => by
        have h := run_make (P := Tryd.prog) u 22 5 i0 (.int .u8 0) Tryd.underlying22 hi hz0 .i64 .i64 (l.length : Int) (l.length : Int) (by omega) (by omega) (by rw [hz2]; omega) (by omega)
        rw [hz1] at h
        simpa only [Value.cells, Int.toNat_natCast, Nat.mul_one] using h
      clear hi hz0 hz1 hz2
      go_enter Tryd.func19, Tryd.ntmps19
      go_wp2_with (go_at_call 8; first | (refine HC.out.mono ?_; clear HC; rintro e w1 ⟨rfl, nq, rfl⟩) | (refine (HD.out _).mono ?_; rintro e w1 ⟨rfl, nr, rfl⟩))
      have HZ := OW.zeros (w.drewN (nq + nr)) l.length (by omega)
      have hbz : Below w.heap.size w ((w.drewN (nq + nr)).alloc (.cells (madeCells #[.int .u8 0] l.length) 5)) := (belowDrew w (nq + nr)).alloc (Nat.le_refl _) _
      clear hmk
      go_loopw [31] (fun t wr => ∃ (k : Nat) (o : List UInt8), k ≤ l.length ∧ t = .int .i64 k ∧ OW w.heap.size wr (.slice (some ⟨w.heap.size, 0, none⟩) l.length l.length) o ∧ o.length = l.length ∧ (∀ j, j < k → byt o j = gM (byt l j) (byt r j)) ∧ Below w.heap.size w wr) (fun t _ => l.length - (intOf t).toNat)
      case atStart => exact ⟨0, _, Nat.zero_le _, rfl, HZ, by simp, fun j hj => absurd hj (Nat.not_lt_zero _), hbz⟩
      case round =>
        clear HZ hbz
        obtain ⟨k, o, hk, rfl, ho, hlen, hbit, hb⟩ := hrel
        by_cases hlt : k < l.length
        · rcases KS.out.1 with h | ⟨g1, o1, rfl, hg1, hc1⟩
          · rw [h] at hlt; simp at hlt
          rcases KS.out.2 with h | ⟨g2, o2, rfl, hg2, hc2⟩
          · have := HK.out.2.2.2; rw [h] at this; simp at this; omega
          have q1 := (hb.cell (p := ⟨g1, o1 + k, none⟩) hg1).trans (hc1 k hlt)
          have q2 := (hb.cell (p := ⟨g2, o2 + k, none⟩) hg2).trans (hc2 k hlt)
          obtain ⟨g3, e3, _, q3, q4⟩ := ho.at k hlt
          simp only [Option.some.injEq, Addr.mk.injEq, and_true] at e3
          subst e3
          have HF : Hid (∀ w, Calls Tryd.prog 33 #[.int .u8 ((byt l k).toNat : Int), .int .u8 ((byt r k).toNat : Int)] w fun e w' => e = .returned (.int .u8 ((gM (byt l k) (byt r k)).toNat : Int)) ∧ w = w') := fun w => fn48 _ _ w
          have HO : Hid (OW w.heap.size wr (.slice (some ⟨w.heap.size, 0, none⟩) l.length l.length) o ∧ o.length = l.length ∧ (∀ j, j < k → byt o j = gM (byt l j) (byt r j)) ∧ Below w.heap.size w wr) := ⟨ho, hlen, hbit, hb⟩
          have HY : Hid (∀ j, byt (o.set k (gM (byt l k) (byt r k))) j = if j = k then gM (byt l k) (byt r k) else byt o j) := fun j => byt_set o k j _ (by omega)
          have b0 : (0 : Int) ≤ (k : Int) := by omega
          have b1 : (k : Int) < (l.length : Int) := by omega
          clear ho hlen hbit hb hc1 hc2 KS
          have HE : Hid (gM (byt l k) (byt r k) = gM (byt l k) (byt r k)) := rfl
          generalize hy : gM (byt l k) (byt r k) = y at HF HY
          have HYE : Hid (gM (byt l k) (byt r k) = y) := hy
          clear hy HE
          generalize (byt o k) = ob at *
          go_wp2
          go_region_with (go_at_call 33; refine (HF.out _).mono ?_; rintro e w' ⟨rfl, rfl⟩)
          all_goals go_wp2
          all_goals
            refine ⟨⟨k + 1, o.set k y, by omega, by go_num, (HO.out.1.stored _ _).drew 1, by rw [List.length_set]; exact HO.out.2.1, ?_, belowN (HO.out.2.2.2.setCell (p := ⟨w.heap.size, k, none⟩) (Nat.le_refl _) _) 1⟩, by simp [intOf]; omega⟩
            intro j hj
            rw [HY.out]
            by_cases hjk : j = k
            · rw [if_pos hjk, hjk]; exact HYE.out.symm
            · rw [if_neg hjk]; exact HO.out.2.2.1 j (by omega)
        · obtain rfl : k = l.length := by omega
          have HO : Hid (OW w.heap.size wr (.slice (some ⟨w.heap.size, 0, none⟩) l.length l.length) o ∧ Below w.heap.size w wr ∧ BF n.toNat (fun i => fM (bit l i) (bit r i)) o) := ⟨ho, hb, join_bf (g := gM) rfl gM_b (ck_bf HK.out.1) (ck_bf HK.out.2.1) hlen hbit⟩
          clear ho hlen hbit hb
          go_wp2
          go_ret2
          exact ⟨_, o, rfl, HO.out.1, .inr ⟨HK.out.2.2.1, HO.out.2.2⟩, HO.out.2.1⟩
    · have HJ : Hid (JR n l r fM []) := .inl ⟨by rw [hbE]; exact hck2, rfl⟩
      have hz : (ck n r != 0) = true := by simpa using hck2
      rw [hbE]
      clear hbE hck2 hck kr ks
      generalize ck n r = z at *
      go_enter Tryd.func19, Tryd.ntmps19
      go_wp2_with (go_at_call 8; first | (refine HC.out.mono ?_; clear HC; rintro e w1 ⟨rfl, nq, rfl⟩) | (refine (HD.out _).mono ?_; rintro e w1 ⟨rfl, nr, rfl⟩))
      go_ret2
      exact ⟨_, [], rfl, World.ownsRow_nil _ _ _ _, HJ.out, belowDrew _ _⟩
  · have hbE : bE n l r = ck n l := by unfold bE; rw [if_pos hck]
    have HJ : Hid (JR n l r fM []) := .inl ⟨by rw [hbE]; exact hck, rfl⟩
    have hz : (ck n l != 0) = true := by simpa using hck
    rw [hbE]
    clear hbE hck kr ks HD
    generalize ck n l = z at *
    go_enter Tryd.func19, Tryd.ntmps19
    go_wp2_with (go_at_call 8; refine HC.out.mono ?_; rintro e w1 ⟨rfl, nq, rfl⟩)
    go_ret2
    exact ⟨_, [], rfl, World.ownsRow_nil _ _ _ _, HJ.out, belowDrew _ _⟩
end Go.Proofs.YtjhnkdhbjpddcaaDoor
