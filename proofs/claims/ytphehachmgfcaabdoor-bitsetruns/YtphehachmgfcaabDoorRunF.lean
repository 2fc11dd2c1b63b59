import Derived.Test.YtphehachmgfcaabDoorRunE
namespace Go.Proofs.YtphehachmgfcaabDoor
open Go.RowKit
set_option maxHeartbeats 1000000 in
theorem runs17_no (n : Int) (h0 : -9223372036854775808 ≤ n) (h1 : n ≤ 9223372036854775807) (v : Value) (l : List UInt8) (w : World) (hr : RB w v l) (hm : MT w) (hl : l.length ≤ 140737488351232) (hck : ck n l ≠ 0) :
    Calls Tryd.prog 17 #[.int .i64 n, v] w fun e w' => e = .returned (.tuple #[.slice none 0 0, .int .i64 (ck n l)]) ∧ Below w.heap.size w w' := by
  have HC : Hid (Calls Tryd.prog 9 #[.int .i64 n, v] w fun e w' => e = .returned (.int .i64 (ck n l)) ∧ ∃ nq, w' = w.drewN nq) := check10 n h0 h1 v l w hr hm hl
  obtain ⟨a, c, rfl, _⟩ := hr
  have hz : (ck n l != 0) = true := by simpa using hck
  clear hck hm
  generalize ck n l = z at *
  go_enter Tryd.func17, Tryd.ntmps17
  go_wp2_with (go_at_call 9; refine HC.out.mono ?_; rintro e w1 ⟨rfl, nq, rfl⟩)
  go_ret2
  exact ⟨rfl, belowDrew _ _⟩
theorem rp_whole {n : Int} {l : List UInt8} (h : ck n l = 0) : (rp (pls (on1 l (8 * l.length)))).1 = rs l n.toNat := by
  obtain ⟨k0, k1, k2, k3⟩ := ck_ok h
  obtain ⟨d, hd⟩ := Nat.exists_eq_add_of_le (show n.toNat ≤ 8 * l.length by omega)
  rw [hd, on1_ext l n.toNat d k3]
  exact (rp_rs l n.toNat (by omega)).1
set_option maxHeartbeats 2000000 in
theorem runs4 (n : Int) (h0 : -9223372036854775808 ≤ n) (h1 : n ≤ 9223372036854775807) (v : Value) (l : List UInt8) (w : World) (hr : RB w v l) (hm : MT w) (hl : l.length ≤ 140737488351232) :
    Calls Tryd.prog 4 #[.int .i64 n, v] w fun e w' => e = .returned (.bool true) ∧ Below w.heap.size w w' := by
  have HR : Hid (RB w v l ∧ MT w) := ⟨hr, hm⟩
  clear hm
  obtain ⟨a, c, rfl, _⟩ := hr
  obtain ⟨r, er, HZ, hzl⟩ : ∃ r er, Hid (RU n l r er) ∧ r.length ≤ 65536 := by
    by_cases h : ck n l = 0
    · exact ⟨rs l n.toNat, 0, .inr ⟨h, rfl, rfl⟩, by have := rs_len l n.toNat; have := ck_ok h; omega⟩
    · exact ⟨[], ck n l, .inl ⟨h, rfl, rfl⟩, by simp⟩
  have HRun : Hid (∀ (v : Value) (w : World), RB w v l → MT w → Calls Tryd.prog 17 #[.int .i64 n, v] w fun e w' => ∃ v', e = .returned (.tuple #[v', .int .i64 er]) ∧ OU w.heap.size w' v' r ∧ Below w.heap.size w w') := fun v w hr hm => by
    rcases HZ.out with ⟨h, rfl, rfl⟩ | ⟨h, rfl, rfl⟩
    · refine (runs17_no n h0 h1 v l w hr hm hl h).mono ?_
      rintro e w' ⟨rfl, hb⟩
      exact ⟨_, rfl, World.ownsRow_nil _ _ _ _, hb⟩
    · have := runs17 n h0 h1 v l w hr hm hl h
      rw [rp_whole h] at this
      exact this
  go_enter Tryd.func4, Tryd.ntmps4
  go_wp2_with (go_at_call 16; refine (copied9 HR.out.1 hl).mono ?_; rintro e w1 ⟨v1, rfl, ho, hb1⟩; obtain ⟨a1, c1, rfl⟩ := ho.form)
  have H1 : Hid (RB w1 (.slice a1 l.length c1) l ∧ RB w1 (.slice a l.length c) l ∧ MT w1 ∧ Below w.heap.size w w1) := ⟨ho.rb, HR.out.1.keep hb1, HR.out.2.keep hb1, hb1⟩
  clear ho hb1 HR
  go_wp2_with (go_at_call 17; refine (HRun.out _ _ H1.out.1 H1.out.2.2.1).mono ?_; rintro e w5 ⟨v5, rfl, ho5, hb5⟩; obtain ⟨a5, c5, rfl⟩ := ho5.form)
  have H5 : Hid (RB w5 (.slice a1 l.length c1) l ∧ RB w5 (.slice a l.length c) l ∧ RQ w5 (.slice a5 r.length c5) r ∧ Below w.heap.size w w5) := ⟨H1.out.1.keep hb5, H1.out.2.1.keep hb5, ho5.rq, H1.out.2.2.2.trans (hb5.mono H1.out.2.2.2.size)⟩
  clear hb5 ho5 H1
  go_wp2_with (go_at_call 18; refine (runs18 n h0 h1 _ l _ H5.out.2.1 hl).mono ?_; rintro e w6 ⟨v6, r6, er6, rfl, ho6, hon6, hb6⟩; obtain ⟨rfl, rfl⟩ := RU.unique HZ.out hon6; clear hon6; obtain ⟨a6, c6, rfl⟩ := ho6.form)
  have H6 : Hid (RB w6 (.slice a1 l.length c1) l ∧ RB w6 (.slice a l.length c) l ∧ RQ w6 (.slice a5 r.length c5) r ∧ RQ w6 (.slice a6 r.length c6) r ∧ Below w.heap.size w w6) := ⟨H5.out.1.keep hb6, H5.out.2.1.keep hb6, H5.out.2.2.1.keep hb6, ho6.rq, H5.out.2.2.2.trans (hb6.mono H5.out.2.2.2.size)⟩
  clear hb6 ho6 H5
  refine (same19R _ _ r _ (by omega) H6.out.2.2.1 H6.out.2.2.2.1).mono ?_
  rintro e w7 ⟨rfl, nq7, rfl⟩
  go_wp2_with (go_at_call 15; refine (same12 _ _ l _ hl (H6.out.1.keep (belowDrew _ _)) (H6.out.2.1.keep (belowDrew _ _))).mono ?_; rintro e w8 ⟨rfl, nq8, rfl⟩)
  go_ret
  exact ⟨rfl, belowN H6.out.2.2.2.2 _⟩
end Go.Proofs.YtphehachmgfcaabDoor
