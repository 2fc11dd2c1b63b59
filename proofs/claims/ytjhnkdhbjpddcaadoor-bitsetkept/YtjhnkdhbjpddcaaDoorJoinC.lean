import Derived.Test.YtjhnkdhbjpddcaaDoorJoinB
import Derived.Laws.BytesString
import Derived.Laws.IdiomStrings
namespace Go.Proofs.YtjhnkdhbjpddcaaDoor
open Go.RowKit
set_option maxHeartbeats 1000000 in
theorem wrap27 (n : Int) (h0 : -9223372036854775808 ≤ n) (h1 : n ≤ 9223372036854775807) (v u : Value) (l r : List UInt8) (w : World) (hr : RB w v l) (hs : RB w u r) (hm : MT w) (hl : l.length ≤ 140737488351232) (hl2 : r.length ≤ 140737488351232) :
    Calls Tryd.prog 9 #[.int .i64 n, v, u] w fun e w' => ∃ v' o, e = .returned (.tuple #[v', .int .i64 (bE n l r)]) ∧ OW w.heap.size w' v' o ∧ JR n l r fA o ∧ Below w.heap.size w w' := by
  have HJ : Hid (Calls Tryd.prog 19 #[.int .i64 n, v, u, .func (.func 20) #[] #[]] w fun e w' => ∃ v' o, e = .returned (.tuple #[v', .int .i64 (bE n l r)]) ∧ OW w.heap.size w' v' o ∧ JR n l r fA o ∧ Below w.heap.size w w') := join46 n h0 h1 v u l r w hr hs hm hl hl2
  obtain ⟨a, c, rfl, _⟩ := hr
  obtain ⟨a2, c2, rfl, _⟩ := hs
  clear hm
  generalize bE n l r = z at *
  go_enter Tryd.func9, Tryd.ntmps9
  go_wp2_with (go_at_call 19; refine HJ.out.mono ?_; rintro e w1 ⟨v', o, rfl, ho, hj, hb⟩; obtain ⟨a3, c3, rfl⟩ := ho.form)
  go_ret2
  exact ⟨_, o, rfl, ho, hj, hb⟩
set_option maxHeartbeats 1000000 in
theorem wrap28 (n : Int) (h0 : -9223372036854775808 ≤ n) (h1 : n ≤ 9223372036854775807) (v u : Value) (l r : List UInt8) (w : World) (hr : RB w v l) (hs : RB w u r) (hm : MT w) (hl : l.length ≤ 140737488351232) (hl2 : r.length ≤ 140737488351232) :
    Calls Tryd.prog 21 #[.int .i64 n, v, u] w fun e w' => ∃ v' o, e = .returned (.tuple #[v', .int .i64 (bE n l r)]) ∧ OW w.heap.size w' v' o ∧ JR n l r fO o ∧ Below w.heap.size w w' := by
  have HJ : Hid (Calls Tryd.prog 19 #[.int .i64 n, v, u, .func (.func 32) #[] #[]] w fun e w' => ∃ v' o, e = .returned (.tuple #[v', .int .i64 (bE n l r)]) ∧ OW w.heap.size w' v' o ∧ JR n l r fO o ∧ Below w.heap.size w w') := join47 n h0 h1 v u l r w hr hs hm hl hl2
  obtain ⟨a, c, rfl, _⟩ := hr
  obtain ⟨a2, c2, rfl, _⟩ := hs
  clear hm
  generalize bE n l r = z at *
  go_enter Tryd.func21, Tryd.ntmps21
  go_wp2_with (go_at_call 19; refine HJ.out.mono ?_; rintro e w1 ⟨v', o, rfl, ho, hj, hb⟩; obtain ⟨a3, c3, rfl⟩ := ho.form)
  go_ret2
  exact ⟨_, o, rfl, ho, hj, hb⟩
set_option maxHeartbeats 1000000 in
theorem wrap29 (n : Int) (h0 : -9223372036854775808 ≤ n) (h1 : n ≤ 9223372036854775807) (v u : Value) (l r : List UInt8) (w : World) (hr : RB w v l) (hs : RB w u r) (hm : MT w) (hl : l.length ≤ 140737488351232) (hl2 : r.length ≤ 140737488351232) :
    Calls Tryd.prog 22 #[.int .i64 n, v, u] w fun e w' => ∃ v' o, e = .returned (.tuple #[v', .int .i64 (bE n l r)]) ∧ OW w.heap.size w' v' o ∧ JR n l r fM o ∧ Below w.heap.size w w' := by
  have HJ : Hid (Calls Tryd.prog 19 #[.int .i64 n, v, u, .func (.func 33) #[] #[]] w fun e w' => ∃ v' o, e = .returned (.tuple #[v', .int .i64 (bE n l r)]) ∧ OW w.heap.size w' v' o ∧ JR n l r fM o ∧ Below w.heap.size w w') := join48 n h0 h1 v u l r w hr hs hm hl hl2
  obtain ⟨a, c, rfl, _⟩ := hr
  obtain ⟨a2, c2, rfl, _⟩ := hs
  clear hm
  generalize bE n l r = z at *
  go_enter Tryd.func22, Tryd.ntmps22
  go_wp2_with (go_at_call 19; refine HJ.out.mono ?_; rintro e w1 ⟨v', o, rfl, ho, hj, hb⟩; obtain ⟨a3, c3, rfl⟩ := ho.form)
  go_ret2
  exact ⟨_, o, rfl, ho, hj, hb⟩
theorem ck_of_bf {m : Nat} (hm : m ≤ 65536) {f : Nat → Bool} {o : List UInt8} (h : BF m f o) : ck m o = 0 :=
  ck_fine hm h.1 (fun k hk _ => by rw [h.2]; simp; omega)
theorem full15_noB (n : Int) (h : n < 0 ∨ 65536 < n) (w : World) :
    Calls Tryd.prog 25 #[.int .i64 n] w fun e w' => e = .returned (.tuple #[.slice none 0 0, .int .i64 40]) ∧ w = w' := by
  go_enter Tryd.func25, Tryd.ntmps25
  go_wp2_with (go_at_call 15; refine (make13_no n h _).mono ?_; rintro e w1 ⟨rfl, rfl⟩)
  go_ret2
  exact ⟨rfl, rfl⟩
/-- what Not answers -/
def NO (n : Int) (r : List UInt8) (o : List UInt8) : Prop := (ck n r ≠ 0 ∧ o = []) ∨ (ck n r = 0 ∧ BF n.toNat (fun i => !bit r i) o)
theorem NO.unique {n : Int} {r : List UInt8} {o o' : List UInt8} (h : NO n r o) (h' : NO n r o') : o = o' := by
  rcases h with ⟨h1, rfl⟩ | ⟨h1, h2⟩
  · rcases h' with ⟨_, rfl⟩ | ⟨g1, _⟩
    · rfl
    · exact absurd g1 h1
  · rcases h' with ⟨g1, _⟩ | ⟨_, g2⟩
    · exact absurd h1 g1
    · exact BF.unique h2 g2 (fun _ _ => rfl)
theorem NO.len {n : Int} {r : List UInt8} {o : List UInt8} (h : NO n r o) : o.length ≤ 140737488351232 := by
  rcases h with ⟨_, rfl⟩ | ⟨h1, h2⟩
  · simp
  · have := h2.1; have := ck_ok h1; omega
set_option maxHeartbeats 1000000 in
theorem not30 (n : Int) (h0 : -9223372036854775808 ≤ n) (h1 : n ≤ 9223372036854775807) (u : Value) (r : List UInt8) (w : World) (hs : RB w u r) (hm : MT w) (hl2 : r.length ≤ 140737488351232) :
    Calls Tryd.prog 23 #[.int .i64 n, u] w fun e w' => ∃ v' o, e = .returned (.tuple #[v', .int .i64 (ck n r)]) ∧ OW w.heap.size w' v' o ∧ NO n r o ∧ Below w.heap.size w w' := by
  have HR : Hid (RB w u r ∧ MT w) := ⟨hs, hm⟩
  obtain ⟨a2, c2, rfl, _⟩ := hs
  by_cases hn : n < 0 ∨ 65536 < n
  · rw [ck_bits hn]
    have HN : Hid (NO n r [] ∧ (n < 0 ∨ 65536 < n)) := ⟨.inl ⟨by rw [ck_bits hn]; decide, rfl⟩, hn⟩
    clear hn hm
    go_enter Tryd.func23, Tryd.ntmps23
    go_wp2_with (go_at_call 25; refine (full15_noB n HN.out.2 _).mono ?_; rintro e w1 ⟨rfl, rfl⟩)
    go_ret2
    exact ⟨_, [], rfl, World.ownsRow_nil _ _ _ _, HN.out.1, Below.refl _ _⟩
  · obtain ⟨m, rfl⟩ := Int.eq_ofNat_of_zero_le (show 0 ≤ n by omega)
    have hm6 : m ≤ 65536 := by omega
    clear hn hm
    go_enter Tryd.func23, Tryd.ntmps23
    go_wp2_with (go_at_call 25; refine (full15 m hm6 _ HR.out.2).mono ?_; rintro e w1 ⟨v1, l1, rfl, ho1, hbf1, hb1⟩; obtain ⟨a1, c1, rfl⟩ := ho1.form)
    have hl1 : l1.length ≤ 140737488351232 := by have := hbf1.1; omega
    have hbe : bE m l1 r = ck m r := by unfold bE; rw [if_neg (by simp [ck_of_bf hm6 hbf1])]
    have HJ : Hid (Calls Tryd.prog 22 #[.int .i64 m, .slice a1 l1.length c1, .slice a2 r.length c2] w1 fun e w' => ∃ v' o, e = .returned (.tuple #[v', .int .i64 (ck m r)]) ∧ OW w1.heap.size w' v' o ∧ JR m l1 r fM o ∧ Below w1.heap.size w1 w') := by
      have := wrap29 m h0 h1 _ _ l1 r w1 ho1.rb (HR.out.1.keep hb1) (HR.out.2.keep hb1) hl1 hl2
      rw [hbe] at this
      exact this
    have HB : Hid (BF m (fun _ => true) l1 ∧ Below w.heap.size w w1 ∧ bE m l1 r = ck m r) := ⟨hbf1, hb1, hbe⟩
    clear ho1 hb1 hbf1 hbe
    go_wp2_with (go_at_call 22; refine HJ.out.mono ?_; rintro e w2 ⟨v', o, rfl, ho, hj, hb⟩; obtain ⟨a3, c3, rfl⟩ := ho.form)
    go_ret2
    refine ⟨_, o, rfl, OW.mono ho HB.out.2.1.size, ?_, HB.out.2.1.trans (hb.mono HB.out.2.1.size)⟩
    rcases hj with ⟨h1, rfl⟩ | ⟨h1, h2⟩
    · exact .inl ⟨by rw [← HB.out.2.2]; exact h1, rfl⟩
    · refine .inr ⟨by rw [← HB.out.2.2]; exact h1, h2.1, fun i => ?_⟩
      rw [h2.2]
      show (decide (i < m) && fM (bit l1 i) (bit r i)) = (decide (i < m) && !bit r i)
      rw [HB.out.1.2 i]
      by_cases hi : i < m <;> simp [hi, fM]
/-- what Covers answers -/
def cv (n : Int) (l r : List UInt8) : Bool := if bE n l r = 0 then (List.range n.toNat).all (fun i => !bit r i || bit l i) else false
def strU (l : List UInt8) : ByteArray := ⟨l.toArray⟩
theorem push_foldl (l : List UInt8) (b : ByteArray) : (l.map fun c => ((c.toNat : Nat) : Int)).foldl (fun r n => r.push (UInt8.ofNat n.toNat)) b = ⟨b.data ++ l.toArray⟩ := by
  induction l generalizing b with
  | nil => simp
  | cons c l ih =>
    rw [List.map_cons, List.foldl_cons, ih]
    have : UInt8.ofNat ((c.toNat : Nat) : Int).toNat = c := by simp
    rw [this]
    simp [ByteArray.push]
end Go.Proofs.YtjhnkdhbjpddcaaDoor
