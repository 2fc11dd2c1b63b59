import Derived.Test.YtjhnkdhbjpddcaaDoorGc
namespace Go.Proofs.YtjhnkdhbjpddcaaDoor
open Go.RowKit
/-- the place that call 6 sets -/
def lst (m : Nat) : List Int := if m = 0 then [] else [(m : Int) - 1]
/-- what the call k answers -/
def CA (k m : Nat) (l r : List UInt8) (i : Int) (o : List UInt8) : Prop :=
  (k = 0 → JR m l r fA o) ∧ (k = 1 → JR m l r fO o) ∧ (k = 2 → JR m l r fM o) ∧ (k = 3 → NO m l o) ∧ (k = 4 → PU m l i (i.tmod 2 == 0) o) ∧ (k = 5 → o = List.replicate ((m + 7) / 8) 0) ∧ (k = 6 → ∃ er, OR m (lst m) o er) ∧ (k = 7 → BF m (fun _ => true) o)
theorem CA.unique {k m : Nat} {l r : List UInt8} {i : Int} {o o' : List UInt8} (hk : k < 8) (h : CA k m l r i o) (h' : CA k m l r i o') : o = o' := by
  obtain ⟨a0, a1, a2, a3, a4, a5, a6, a7⟩ := h
  obtain ⟨b0, b1, b2, b3, b4, b5, b6, b7⟩ := h'
  rcases (show k = 0 ∨ k = 1 ∨ k = 2 ∨ k = 3 ∨ k = 4 ∨ k = 5 ∨ k = 6 ∨ k = 7 by omega) with e | e | e | e | e | e | e | e
  · exact (a0 e).unique (b0 e)
  · exact (a1 e).unique (b1 e)
  · exact (a2 e).unique (b2 e)
  · exact (a3 e).unique (b3 e)
  · exact (a4 e).unique (b4 e)
  · rw [a5 e, b5 e]
  · obtain ⟨_, x⟩ := a6 e
    obtain ⟨_, y⟩ := b6 e
    exact (x.unique y).1
  · exact BF.unique (a7 e) (b7 e) (fun _ _ => rfl)
theorem bf_len {m : Nat} {f : Nat → Bool} {o : List UInt8} (hm : m ≤ 65536) (h : BF m f o) : o.length ≤ 8192 := by
  have := h.1; omega
theorem CA.len {k m : Nat} {l r : List UInt8} {i : Int} {o : List UInt8} (hk : k < 8) (hm : m ≤ 65536) (h : CA k m l r i o) : o.length ≤ 8192 := by
  have jr : ∀ f, JR m l r f o → o.length ≤ 8192 := fun f h => by
    rcases h with ⟨_, rfl⟩ | ⟨_, h⟩
    · simp
    · exact bf_len hm h
  obtain ⟨a0, a1, a2, a3, a4, a5, a6, a7⟩ := h
  rcases (show k = 0 ∨ k = 1 ∨ k = 2 ∨ k = 3 ∨ k = 4 ∨ k = 5 ∨ k = 6 ∨ k = 7 by omega) with e | e | e | e | e | e | e | e
  · exact jr _ (a0 e)
  · exact jr _ (a1 e)
  · exact jr _ (a2 e)
  · rcases a3 e with ⟨_, rfl⟩ | ⟨_, h⟩
    · simp
    · exact bf_len hm h
  · rcases a4 e with ⟨_, rfl⟩ | ⟨_, h⟩
    · simp
    · exact bf_len hm h
  · rw [a5 e, List.length_replicate]; omega
  · obtain ⟨_, x⟩ := a6 e
    rcases x with ⟨_, rfl, _⟩ | ⟨_, _, h⟩
    · simp
    · exact bf_len hm h
  · exact bf_len hm (a7 e)
/-- what a call leaves -/
def CallE (k m : Nat) (l r : List UInt8) (i : Int) (w : World) (e : Ending) (w' : World) : Prop := ∃ v' o, e = .returned v' ∧ OW w.heap.size w' v' o ∧ CA k m l r i o ∧ Below w.heap.size w w'
set_option maxHeartbeats 4000000 in
theorem call11 (k m : Nat) (hk : k < 8) (hm : m ≤ 65536) (v u : Value) (l r : List UInt8) (i : Int) (g0 : -9223372036854775808 ≤ i) (g1 : i ≤ 9223372036854775807) (w : World) (hr : RB w v l) (hs : RB w u r) (ht : MT w) (hl : l.length ≤ 140737488351232) (hl2 : r.length ≤ 140737488351232) :
    Calls Tryd.prog 11 #[.int .i64 (k : Int), .int .i64 (m : Int), v, u, .int .i64 i] w (CallE k m l r i w) := by
  have n0 : -9223372036854775808 ≤ (m : Int) := by omega
  have n1 : (m : Int) ≤ 9223372036854775807 := by omega
  have cA := wrap27 m n0 n1 v u l r w hr hs ht hl hl2
  have cO := wrap28 m n0 n1 v u l r w hr hs ht hl hl2
  have cM := wrap29 m n0 n1 v u l r w hr hs ht hl hl2
  have cN := not30 m n0 n1 v l w hr ht hl
  have cP := put21 m n0 n1 v l i g0 g1 (i.tmod 2 == 0) w hr ht hl
  have cK := make13_ow m hm w
  have cF := full15 m hm w ht
  have HC : Hid (((Calls Tryd.prog 9 #[.int .i64 m, v, u] w fun e w' => ∃ v' o, e = .returned (.tuple #[v', .int .i64 (bE m l r)]) ∧ OW w.heap.size w' v' o ∧ JR m l r fA o ∧ Below w.heap.size w w') ∧ (Calls Tryd.prog 21 #[.int .i64 m, v, u] w fun e w' => ∃ v' o, e = .returned (.tuple #[v', .int .i64 (bE m l r)]) ∧ OW w.heap.size w' v' o ∧ JR m l r fO o ∧ Below w.heap.size w w') ∧ (Calls Tryd.prog 22 #[.int .i64 m, v, u] w fun e w' => ∃ v' o, e = .returned (.tuple #[v', .int .i64 (bE m l r)]) ∧ OW w.heap.size w' v' o ∧ JR m l r fM o ∧ Below w.heap.size w w')) ∧ (Calls Tryd.prog 23 #[.int .i64 m, v] w fun e w' => ∃ v' o, e = .returned (.tuple #[v', .int .i64 (ck m l)]) ∧ OW w.heap.size w' v' o ∧ NO m l o ∧ Below w.heap.size w w') ∧ (Calls Tryd.prog 24 #[.int .i64 m, v, .int .i64 i, .bool (i.tmod 2 == 0)] w fun e w' => ∃ v' r, e = .returned (.tuple #[v', .int .i64 (gE m l i)]) ∧ OW w.heap.size w' v' r ∧ PU m l i (i.tmod 2 == 0) r ∧ Below w.heap.size w w')) := ⟨⟨cA, cO, cM⟩, cN, cP⟩
  have HD : Hid ((Calls Tryd.prog 15 #[.int .i64 m] w fun e w' => ∃ v, e = .returned (.tuple #[v, .int .i64 0]) ∧ OW w.heap.size w' v (List.replicate ((m + 7) / 8) 0) ∧ Below w.heap.size w w') ∧ (Calls Tryd.prog 25 #[.int .i64 m] w fun e w' => ∃ v l, e = .returned (.tuple #[v, .int .i64 0]) ∧ OW w.heap.size w' v l ∧ BF m (fun _ => true) l ∧ Below w.heap.size w w') ∧ (∀ w2 v2, Below w.heap.size w w2 → RZ w2 v2 (lst m) → Calls Tryd.prog 4 #[.int .i64 m, v2] w2 fun e w' => ∃ v l er, e = .returned (.tuple #[v, .int .i64 er]) ∧ OW w2.heap.size w' v l ∧ OR m (lst m) l er ∧ Below w2.heap.size w2 w')) :=
    ⟨cK, cF, fun w2 v2 hb h2 => of17 m hm v2 (lst m) w2 h2 (by unfold lst; split <;> simp) (ht.keep hb)⟩
  obtain ⟨a, c, rfl, _⟩ := hr
  obtain ⟨a2, c2, rfl, _⟩ := hs
  clear cA cO cM cN cP cK cF ht
  generalize l.length = ln at *
  generalize r.length = rn at *
  generalize bE m l r = z1 at *
  generalize ck m l = z2 at *
  generalize gE m l i = z3 at *
  rcases (show k = 0 ∨ k = 1 ∨ k = 2 ∨ k = 3 ∨ k = 4 ∨ k = 5 ∨ k = 6 ∨ k = 7 by omega) with rfl | rfl | rfl | rfl | rfl | rfl | rfl | rfl
  · go_enter Tryd.func11, Tryd.ntmps11
    go_wp2_with (go_at_call 9; refine HC.out.1.1.mono ?_; rintro e w1 ⟨v', o, rfl, ho, hj, hb⟩; obtain ⟨a3, c3, rfl⟩ := ho.form)
    go_ret
    exact ⟨_, o, rfl, ho, by unfold CA; simp [hj], hb⟩
  · go_enter Tryd.func11, Tryd.ntmps11
    go_wp2_with (go_at_call 21; refine HC.out.1.2.1.mono ?_; rintro e w1 ⟨v', o, rfl, ho, hj, hb⟩; obtain ⟨a3, c3, rfl⟩ := ho.form)
    go_ret
    exact ⟨_, o, rfl, ho, by unfold CA; simp [hj], hb⟩
  · go_enter Tryd.func11, Tryd.ntmps11
    go_wp2_with (go_at_call 22; refine HC.out.1.2.2.mono ?_; rintro e w1 ⟨v', o, rfl, ho, hj, hb⟩; obtain ⟨a3, c3, rfl⟩ := ho.form)
    go_ret
    exact ⟨_, o, rfl, ho, by unfold CA; simp [hj], hb⟩
  · go_enter Tryd.func11, Tryd.ntmps11
    go_wp2_with (go_at_call 23; refine HC.out.2.1.mono ?_; rintro e w1 ⟨v', o, rfl, ho, hj, hb⟩; obtain ⟨a3, c3, rfl⟩ := ho.form)
    go_ret
    exact ⟨_, o, rfl, ho, by unfold CA; simp [hj], hb⟩
  · go_enter Tryd.func11, Tryd.ntmps11
    go_wp2_with (go_at_call 24; refine HC.out.2.2.mono ?_; rintro e w1 ⟨v', o, rfl, ho, hj, hb⟩; obtain ⟨a3, c3, rfl⟩ := ho.form)
    go_ret
    exact ⟨_, o, rfl, ho, by unfold CA; simp [hj], hb⟩
  · go_enter Tryd.func11, Tryd.ntmps11
    go_wp2_with (go_at_call 15; refine HD.out.1.mono ?_; rintro e w1 ⟨v', rfl, ho, hb⟩; obtain ⟨a3, c3, rfl⟩ := ho.form; rw [List.length_replicate] at ho)
    go_ret
    exact ⟨_, List.replicate ((m + 7) / 8) 0, rfl, ho, by unfold CA; simp, hb⟩
  · by_cases h0 : m = 0
    · subst h0
      go_enter Tryd.func11, Tryd.ntmps11
      go_wp2_with (go_at_call 4; refine (HD.out.2.2 _ _ (Below.refl _ _) (.inl ⟨rfl, rfl⟩)).mono ?_; rintro e w1 ⟨v', o, er, rfl, ho, hj, hb⟩; obtain ⟨a3, c3, rfl⟩ := ho.form)
      go_ret
      exact ⟨_, o, rfl, ho, by unfold CA; simp; exact ⟨er, hj⟩, hb⟩
    · have hlst : Hid (lst m = [(m : Int) - 1]) := (by unfold lst; rw [if_neg h0] : lst m = [(m : Int) - 1])
      have hcn := cellNew w (.int .i64 ((m : Int) - 1)) 3
      have bA : Below w.heap.size w (w.alloc (.cells #[.int .i64 ((m : Int) - 1)] 3)) := (Below.refl _ _).alloc (Nat.le_refl _) _
      have HA : Hid (OZ w.heap.size (w.alloc (.cells #[.int .i64 ((m : Int) - 1)] 3)) (.slice none 0 0) [] ∧ Below w.heap.size w (w.alloc (.cells #[.int .i64 ((m : Int) - 1)] 3))) := ⟨World.ownsRow_nil _ _ _ _, bA⟩
      have hm0 : (0 < m) = True := eq_true (by omega)
      clear bA
      go_enter Tryd.func11, Tryd.ntmps11
      go_wp2_with (first
        | (at_builtin; refine append_int rfl _ _ rfl rfl HA.out.1 w.heap.size _ rfl hcn HA.out.2.size (by simp) ?_; intro v2 w2 q1 q2; have HB : Hid (RZ w2 v2 (lst m) ∧ Below w.heap.size w w2) := ⟨by rw [hlst.out]; exact q1.rz, HA.out.2.trans q2⟩; obtain ⟨va, vc, hv⟩ := q1.form; subst hv; clear q1 q2 HA hcn)
        | (go_at_call 4; refine (HD.out.2.2 _ _ HB.out.2 HB.out.1).mono ?_; rintro e w1 ⟨v', o, er, rfl, ho, hj, hb⟩; obtain ⟨a3, c3, rfl⟩ := ho.form))
      go_ret
      exact ⟨_, o, rfl, OW.mono ho HB.out.2.size, by unfold CA; simp; exact ⟨er, hj⟩, HB.out.2.trans (hb.mono HB.out.2.size)⟩
  · go_enter Tryd.func11, Tryd.ntmps11
    go_wp2_with (go_at_call 25; refine HD.out.2.1.mono ?_; rintro e w1 ⟨v', o, rfl, ho, hj, hb⟩; obtain ⟨a3, c3, rfl⟩ := ho.form)
    go_ret
    exact ⟨_, o, rfl, ho, by unfold CA; simp [hj], hb⟩
end Go.Proofs.YtjhnkdhbjpddcaaDoor
