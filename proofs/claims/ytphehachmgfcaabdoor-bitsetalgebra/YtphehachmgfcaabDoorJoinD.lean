import Derived.Test.YtphehachmgfcaabDoorJoinC
namespace Go.Proofs.YtphehachmgfcaabDoor
open Go.RowKit
set_option maxHeartbeats 1000000 in
theorem equal50 (v u : Value) (l r : List UInt8) (w : World) (hr : RB w v l) (hs : RB w u r) :
    Calls Tryd.prog 50 #[v, u] w fun e w' => e = .returned (.bool (decide (l = r))) ∧ w = w' := by
  have q1 := conv_rb hr
  have q2 := conv_rb hs
  have q3 : ((strU l).toList == (strU r).toList) = decide (l = r) := by
    rw [ByteArray.toList_eq, ByteArray.toList_eq, Bool.eq_iff_iff, beq_iff_eq, decide_eq_true_eq]
    unfold strU
    simp
  obtain ⟨a, c, rfl, _⟩ := hr
  obtain ⟨a2, c2, rfl, _⟩ := hs
  generalize strU l = s1 at *
  generalize strU r = s2 at *
  generalize decide (l = r) = d at *
  go_enter Tryd.func50, Tryd.ntmps50
  go_wp2
  go_ret
  exact ⟨by first | (rw [q3]; rfl) | rfl, rfl⟩
theorem cv_and {n : Int} {l r o : List UInt8} (h : bE n l r = 0) (ho : BF n.toNat (fun i => fA (bit l i) (bit r i)) o) : decide (o = r) = cv n l r := by
  have hr := ck_bf (bE_zero h).2
  unfold cv
  rw [if_pos h, Bool.eq_iff_iff, decide_eq_true_eq, List.all_eq_true]
  constructor
  · rintro rfl i hi
    have e := ho.2 i
    have hi' := List.mem_range.1 hi
    simp [hi', fA] at e
    cases hb : bit o i
    · simp
    · rw [hb] at e; simp at e; simp [e]
  · intro hall
    refine BF.unique ho hr (fun i hi => ?_)
    have := hall i (List.mem_range.2 hi)
    unfold fA
    cases hb : bit r i <;> simp [hb] at this ⊢
    exact this
set_option maxHeartbeats 1000000 in
theorem covers32 (n : Int) (h0 : -9223372036854775808 ≤ n) (h1 : n ≤ 9223372036854775807) (v u : Value) (l r : List UInt8) (w : World) (hr : RB w v l) (hs : RB w u r) (hm : MT w) (hl : l.length ≤ 140737488351232) (hl2 : r.length ≤ 140737488351232) :
    Calls Tryd.prog 32 #[.int .i64 n, v, u] w fun e w' => e = .returned (.tuple #[.bool (cv n l r), .int .i64 (bE n l r)]) ∧ Below w.heap.size w w' := by
  have HJ : Hid (Calls Tryd.prog 27 #[.int .i64 n, v, u] w fun e w' => ∃ v' o, e = .returned (.tuple #[v', .int .i64 (bE n l r)]) ∧ OW w.heap.size w' v' o ∧ JR n l r fA o ∧ Below w.heap.size w w') := wrap27 n h0 h1 v u l r w hr hs hm hl hl2
  have HR : Hid (RB w u r) := hs
  obtain ⟨a, c, rfl, _⟩ := hr
  obtain ⟨a2, c2, rfl, _⟩ := hs
  clear hm
  by_cases hb : bE n l r = 0
  · have HB : Hid (bE n l r = 0) := hb
    rw [hb] at HJ ⊢
    clear hb
    go_enter Tryd.func32, Tryd.ntmps32
    go_wp2_with (go_at_call 27; refine HJ.out.mono ?_; rintro e w1 ⟨v', o, rfl, ho, hj, hb1⟩; obtain ⟨a3, c3, rfl⟩ := ho.form)
    have he : decide (o = r) = cv n l r := by
      rcases hj with ⟨h, _⟩ | ⟨h, h2⟩
      · exact absurd HB.out h
      · exact cv_and h h2
    have HE : Hid (Calls Tryd.prog 50 #[.slice a3 o.length c3, .slice a2 r.length c2] w1 fun e w' => e = .returned (.bool (cv n l r)) ∧ w1 = w') := by
      have := equal50 _ _ o r w1 ho.rb (HR.out.keep hb1)
      rw [he] at this
      exact this
    clear he hj ho
    go_wp2_with (go_at_call 50; refine HE.out.mono ?_; rintro e w2 ⟨rfl, rfl⟩)
    go_ret2
    exact ⟨rfl, hb1⟩
  · have hcv : cv n l r = false := by unfold cv; rw [if_neg hb]
    have hz : (bE n l r != 0) = true := by simpa using hb
    rw [hcv]
    clear hcv hb
    generalize bE n l r = z at *
    go_enter Tryd.func32, Tryd.ntmps32
    go_wp2_with (go_at_call 27; refine HJ.out.mono ?_; rintro e w1 ⟨v', o, rfl, ho, hj, hb1⟩; obtain ⟨a3, c3, rfl⟩ := ho.form)
    go_ret2
    exact ⟨rfl, hb1⟩
set_option maxHeartbeats 1000000 in
theorem both52 (n : Int) (h0 : -9223372036854775808 ≤ n) (h1 : n ≤ 9223372036854775807) (v u : Value) (l r : List UInt8) (w : World) (hr : RB w v l) (hs : RB w u r) (hl : l.length ≤ 140737488351232) (hl2 : r.length ≤ 140737488351232) :
    Calls Tryd.prog 52 #[.int .i64 n, v, u] w fun e w' => e = .returned (.int .i64 (bE n l r)) ∧ ∃ nq, w' = w.drewN nq := by
  have HC : Hid (Calls Tryd.prog 41 #[.int .i64 n, v] w fun e w' => e = .returned (.int .i64 (ck n l)) ∧ ∃ nq, w' = w.drewN nq) := check11 n h0 h1 v l w hr hl
  have HD : Hid (∀ nq, Calls Tryd.prog 41 #[.int .i64 n, u] (w.drewN nq) fun e w' => e = .returned (.int .i64 (ck n r)) ∧ ∃ nr, w' = (w.drewN nq).drewN nr) := fun nq => check11 n h0 h1 u r _ (hs.keep (belowDrew _ _)) hl2
  obtain ⟨a, c, rfl, _⟩ := hr
  obtain ⟨a2, c2, rfl, _⟩ := hs
  by_cases hck : ck n l = 0
  · have hbE : bE n l r = ck n r := by unfold bE; rw [if_neg (by simp [hck])]
    rw [hbE]
    rw [hck] at HC
    clear hbE hck
    generalize ck n r = z at *
    go_enter Tryd.func52, Tryd.ntmps52
    go_wp2_with (go_at_call 41; first | (refine HC.out.mono ?_; clear HC; rintro e w1 ⟨rfl, nq, rfl⟩) | (refine (HD.out _).mono ?_; rintro e w1 ⟨rfl, nr, rfl⟩))
    go_ret
    exact ⟨rfl, _, rfl⟩
  · have hbE : bE n l r = ck n l := by unfold bE; rw [if_pos hck]
    have hz : (ck n l != 0) = true := by simpa using hck
    rw [hbE]
    clear hbE hck HD
    generalize ck n l = z at *
    go_enter Tryd.func52, Tryd.ntmps52
    go_wp2_with (go_at_call 41; refine HC.out.mono ?_; rintro e w1 ⟨rfl, nq, rfl⟩)
    go_ret
    exact ⟨rfl, _, rfl⟩
/-- the first k of a row of bools -/
def fl (f : Nat → Bool) (k : Nat) : List Bool := (List.range k).map f
theorem fl_len (f : Nat → Bool) (k : Nat) : (fl f k).length = k := by simp [fl]
theorem fl_snoc (f : Nat → Bool) (k : Nat) : fl f (k + 1) = fl f k ++ [f k] := by simp [fl, List.range_succ]
theorem lb_fl (f : Nat → Bool) (k i : Nat) (h : i < k) : lb (fl f k) i = f i := by unfold lb fl; simp [List.getD, h]
theorem bf_fl {m : Nat} {f : Nat → Bool} {o : List UInt8} (h : BF m (lb (fl f m)) o) : BF m f o := ⟨h.1, fun i => by
  rw [h.2]
  by_cases hi : i < m
  · rw [lb_fl f m i hi]
  · simp [hi]⟩
end Go.Proofs.YtphehachmgfcaabDoor
