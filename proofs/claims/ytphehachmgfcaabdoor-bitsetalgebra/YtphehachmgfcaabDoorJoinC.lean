import Derived.Test.YtphehachmgfcaabDoorJoinB
import Derived.Laws.BytesString
import Derived.Laws.IdiomStrings
namespace Go.Proofs.YtphehachmgfcaabDoor
open Go.RowKit
set_option maxHeartbeats 1000000 in
theorem wrap27 (n : Int) (h0 : -9223372036854775808 ≤ n) (h1 : n ≤ 9223372036854775807) (v u : Value) (l r : List UInt8) (w : World) (hr : RB w v l) (hs : RB w u r) (hm : MT w) (hl : l.length ≤ 140737488351232) (hl2 : r.length ≤ 140737488351232) :
    Calls Tryd.prog 27 #[.int .i64 n, v, u] w fun e w' => ∃ v' o, e = .returned (.tuple #[v', .int .i64 (bE n l r)]) ∧ OW w.heap.size w' v' o ∧ JR n l r fA o ∧ Below w.heap.size w w' := by
  have HJ : Hid (Calls Tryd.prog 45 #[.int .i64 n, v, u, .func (.func 46) #[] #[]] w fun e w' => ∃ v' o, e = .returned (.tuple #[v', .int .i64 (bE n l r)]) ∧ OW w.heap.size w' v' o ∧ JR n l r fA o ∧ Below w.heap.size w w') := join46 n h0 h1 v u l r w hr hs hm hl hl2
  obtain ⟨a, c, rfl, _⟩ := hr
  obtain ⟨a2, c2, rfl, _⟩ := hs
  clear hm
  generalize bE n l r = z at *
  go_enter Tryd.func27, Tryd.ntmps27
  go_wp2_with (go_at_call 45; refine HJ.out.mono ?_; rintro e w1 ⟨v', o, rfl, ho, hj, hb⟩; obtain ⟨a3, c3, rfl⟩ := ho.form)
  go_ret2
  exact ⟨_, o, rfl, ho, hj, hb⟩
set_option maxHeartbeats 1000000 in
theorem wrap28 (n : Int) (h0 : -9223372036854775808 ≤ n) (h1 : n ≤ 9223372036854775807) (v u : Value) (l r : List UInt8) (w : World) (hr : RB w v l) (hs : RB w u r) (hm : MT w) (hl : l.length ≤ 140737488351232) (hl2 : r.length ≤ 140737488351232) :
    Calls Tryd.prog 28 #[.int .i64 n, v, u] w fun e w' => ∃ v' o, e = .returned (.tuple #[v', .int .i64 (bE n l r)]) ∧ OW w.heap.size w' v' o ∧ JR n l r fO o ∧ Below w.heap.size w w' := by
  have HJ : Hid (Calls Tryd.prog 45 #[.int .i64 n, v, u, .func (.func 47) #[] #[]] w fun e w' => ∃ v' o, e = .returned (.tuple #[v', .int .i64 (bE n l r)]) ∧ OW w.heap.size w' v' o ∧ JR n l r fO o ∧ Below w.heap.size w w') := join47 n h0 h1 v u l r w hr hs hm hl hl2
  obtain ⟨a, c, rfl, _⟩ := hr
  obtain ⟨a2, c2, rfl, _⟩ := hs
  clear hm
  generalize bE n l r = z at *
  go_enter Tryd.func28, Tryd.ntmps28
  go_wp2_with (go_at_call 45; refine HJ.out.mono ?_; rintro e w1 ⟨v', o, rfl, ho, hj, hb⟩; obtain ⟨a3, c3, rfl⟩ := ho.form)
  go_ret2
  exact ⟨_, o, rfl, ho, hj, hb⟩
set_option maxHeartbeats 1000000 in
theorem wrap29 (n : Int) (h0 : -9223372036854775808 ≤ n) (h1 : n ≤ 9223372036854775807) (v u : Value) (l r : List UInt8) (w : World) (hr : RB w v l) (hs : RB w u r) (hm : MT w) (hl : l.length ≤ 140737488351232) (hl2 : r.length ≤ 140737488351232) :
    Calls Tryd.prog 29 #[.int .i64 n, v, u] w fun e w' => ∃ v' o, e = .returned (.tuple #[v', .int .i64 (bE n l r)]) ∧ OW w.heap.size w' v' o ∧ JR n l r fM o ∧ Below w.heap.size w w' := by
  have HJ : Hid (Calls Tryd.prog 45 #[.int .i64 n, v, u, .func (.func 48) #[] #[]] w fun e w' => ∃ v' o, e = .returned (.tuple #[v', .int .i64 (bE n l r)]) ∧ OW w.heap.size w' v' o ∧ JR n l r fM o ∧ Below w.heap.size w w') := join48 n h0 h1 v u l r w hr hs hm hl hl2
  obtain ⟨a, c, rfl, _⟩ := hr
  obtain ⟨a2, c2, rfl, _⟩ := hs
  clear hm
  generalize bE n l r = z at *
  go_enter Tryd.func29, Tryd.ntmps29
  go_wp2_with (go_at_call 45; refine HJ.out.mono ?_; rintro e w1 ⟨v', o, rfl, ho, hj, hb⟩; obtain ⟨a3, c3, rfl⟩ := ho.form)
  go_ret2
  exact ⟨_, o, rfl, ho, hj, hb⟩
theorem ck_of_bf {m : Nat} (hm : m ≤ 65536) {f : Nat → Bool} {o : List UInt8} (h : BF m f o) : ck m o = 0 :=
  ck_fine hm h.1 (fun k hk _ => by rw [h.2]; simp; omega)
theorem full15_noB (n : Int) (h : n < 0 ∨ 65536 < n) (w : World) :
    Calls Tryd.prog 49 #[.int .i64 n] w fun e w' => e = .returned (.tuple #[.slice none 0 0, .int .i64 40]) ∧ w = w' := by
  go_enter Tryd.func49, Tryd.ntmps49
  go_wp2_with (go_at_call 26; refine (make13_no n h _).mono ?_; rintro e w1 ⟨rfl, rfl⟩)
  go_ret2
  exact ⟨rfl, rfl⟩
/-- what Not answers -/
def NO (n : Int) (r : List UInt8) (o : List UInt8) : Prop := (ck n r ≠ 0 ∧ o = []) ∨ (ck n r = 0 ∧ BF n.toNat (fun i => !bit r i) o)
theorem NO.unique {n : Int} {r : List UInt8} {o o' : List UInt8} (h : NO n r o) (h' : NO n r o') : o = o' := by
  rcases h with ⟨h1, rfl⟩ | ⟨h1, h2⟩
  · rcases h' with ⟨_, rfl⟩ | ⟨g1, _⟩
    · rfl
    · exact absurd g1 h1
  · rcases h' with ⟨g1, _⟩ | ⟨_, g2⟩
    · exact absurd h1 g1
    · exact BF.unique h2 g2 (fun _ _ => rfl)
theorem NO.len {n : Int} {r : List UInt8} {o : List UInt8} (h : NO n r o) : o.length ≤ 140737488351232 := by
  rcases h with ⟨_, rfl⟩ | ⟨h1, h2⟩
  · simp
  · have := h2.1; have := ck_ok h1; omega
set_option maxHeartbeats 1000000 in
theorem not30 (n : Int) (h0 : -9223372036854775808 ≤ n) (h1 : n ≤ 9223372036854775807) (u : Value) (r : List UInt8) (w : World) (hs : RB w u r) (hm : MT w) (hl2 : r.length ≤ 140737488351232) :
    Calls Tryd.prog 30 #[.int .i64 n, u] w fun e w' => ∃ v' o, e = .returned (.tuple #[v', .int .i64 (ck n r)]) ∧ OW w.heap.size w' v' o ∧ NO n r o ∧ Below w.heap.size w w' := by
  have HR : Hid (RB w u r ∧ MT w) := ⟨hs, hm⟩
  obtain ⟨a2, c2, rfl, _⟩ := hs
  by_cases hn : n < 0 ∨ 65536 < n
  · rw [ck_bits hn]
    have HN : Hid (NO n r [] ∧ (n < 0 ∨ 65536 < n)) := ⟨.inl ⟨by rw [ck_bits hn]; decide, rfl⟩, hn⟩
    clear hn hm
    go_enter Tryd.func30, Tryd.ntmps30
    go_wp2_with (go_at_call 49; refine (full15_noB n HN.out.2 _).mono ?_; rintro e w1 ⟨rfl, rfl⟩)
    go_ret2
    exact ⟨_, [], rfl, World.ownsRow_nil _ _ _ _, HN.out.1, Below.refl _ _⟩
  · obtain ⟨m, rfl⟩ := Int.eq_ofNat_of_zero_le (show 0 ≤ n by omega)
    have hm6 : m ≤ 65536 := by omega
    clear hn hm
    go_enter Tryd.func30, Tryd.ntmps30
    go_wp2_with (go_at_call 49; refine (full15 m hm6 _ HR.out.2).mono ?_; rintro e w1 ⟨v1, l1, rfl, ho1, hbf1, hb1⟩; obtain ⟨a1, c1, rfl⟩ := ho1.form)
    have hl1 : l1.length ≤ 140737488351232 := by have := hbf1.1; omega
    have hbe : bE m l1 r = ck m r := by unfold bE; rw [if_neg (by simp [ck_of_bf hm6 hbf1])]
    have HJ : Hid (Calls Tryd.prog 29 #[.int .i64 m, .slice a1 l1.length c1, .slice a2 r.length c2] w1 fun e w' => ∃ v' o, e = .returned (.tuple #[v', .int .i64 (ck m r)]) ∧ OW w1.heap.size w' v' o ∧ JR m l1 r fM o ∧ Below w1.heap.size w1 w') := by
      have := wrap29 m h0 h1 _ _ l1 r w1 ho1.rb (HR.out.1.keep hb1) (HR.out.2.keep hb1) hl1 hl2
      rw [hbe] at this
      exact this
    have HB : Hid (BF m (fun _ => true) l1 ∧ Below w.heap.size w w1 ∧ bE m l1 r = ck m r) := ⟨hbf1, hb1, hbe⟩
    clear ho1 hb1 hbf1 hbe
    go_wp2_with (go_at_call 29; refine HJ.out.mono ?_; rintro e w2 ⟨v', o, rfl, ho, hj, hb⟩; obtain ⟨a3, c3, rfl⟩ := ho.form)
    go_ret2
    refine ⟨_, o, rfl, OW.mono ho HB.out.2.1.size, ?_, HB.out.2.1.trans (hb.mono HB.out.2.1.size)⟩
    rcases hj with ⟨h1, rfl⟩ | ⟨h1, h2⟩
    · exact .inl ⟨by rw [← HB.out.2.2]; exact h1, rfl⟩
    · refine .inr ⟨by rw [← HB.out.2.2]; exact h1, h2.1, fun i => ?_⟩
      rw [h2.2]
      show (decide (i < m) && fM (bit l1 i) (bit r i)) = (decide (i < m) && !bit r i)
      rw [HB.out.1.2 i]
      by_cases hi : i < m <;> simp [hi, fM]
/-- what Covers answers -/
def cv (n : Int) (l r : List UInt8) : Bool := if bE n l r = 0 then (List.range n.toNat).all (fun i => !bit r i || bit l i) else false
def strU (l : List UInt8) : ByteArray := ⟨l.toArray⟩
theorem push_foldl (l : List UInt8) (b : ByteArray) : (l.map fun c => ((c.toNat : Nat) : Int)).foldl (fun r n => r.push (UInt8.ofNat n.toNat)) b = ⟨b.data ++ l.toArray⟩ := by
  induction l generalizing b with
  | nil => simp
  | cons c l ih =>
    rw [List.map_cons, List.foldl_cons, ih]
    have : UInt8.ofNat ((c.toNat : Nat) : Int).toNat = c := by simp
    rw [this]
    simp [ByteArray.push]
theorem conv_rb {w : World} {v : Value} {l : List UInt8} (h : RB w v l) : (convert 23 9 v).run Tryd.prog w = .ok (.string (strU l)) w := by
  obtain ⟨a, cap, rfl, h⟩ := h
  rw [run_convert_bytes_string w 23 9 5 a _ cap Tryd.underlying23 Tryd.underlying5 Tryd.underlying9]
  cases a with
  | none =>
    rcases h with rfl | ⟨b, o, h, _⟩
    · rfl
    · cases h
  | some a =>
    have hb := run_bytesToString w a l.length cap (l.map fun c => ((c.toNat : Nat) : Int)) (P := Tryd.prog) (by
      have hl := run_loadCells_list (P := Tryd.prog) w a ((l.map fun c => ((c.toNat : Nat) : Int)).map (Value.int .u8)) (fun j v hj => by
        have hj' : j < l.length := by
          have := (List.getElem?_eq_some_iff.1 hj).1
          simpa using this
        rcases h with rfl | ⟨b, o, h, _, hc⟩
        · simp at hj'
        · simp only [Option.some.injEq] at h
          subst h
          have hadd : (⟨b, o, none⟩ : Addr).add j = ⟨b, o + j, none⟩ := by unfold Addr.add; split <;> simp_all
          rw [hadd, hc j hj', getD_byt l j hj']
          simp [List.getElem?_eq_getElem hj'] at hj
          rw [← hj])
      simpa using hl)
    rw [hb, push_foldl]
    simp [strU]
end Go.Proofs.YtphehachmgfcaabDoor
