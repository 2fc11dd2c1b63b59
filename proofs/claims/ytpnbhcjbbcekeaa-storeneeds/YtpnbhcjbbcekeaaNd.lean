import Derived.Test.YtpnbhcjbbcekeaaPc
namespace Go.Proofs.Ytpnbhcjbbcekeaa
open Go.RowKit
theorem ranc (x : Pc) : x.ls = Value.int .i64 x.l :: .int .i64 x.v :: x.r := rfl
/-- the box of the scale -/
def BS (w : World) (B : Nat) (b v : Int) : Prop := w.heap[B]? = some (.cells #[.int .i64 b, .int .i64 v] 23 (0, 0))
theorem BS.lt {w : World} {B : Nat} {b v : Int} (h : BS w B b v) : B < w.heap.size := by
  unfold BS at h
  rcases Nat.lt_or_ge B w.heap.size with h1 | h1
  · exact h1
  · rw [Array.getElem?_eq_none h1] at h; cases h
theorem BS.keep {w w' : World} {B : Nat} {b v : Int} (h : BS w B b v) (hb : Below w.heap.size w w') : BS w' B b v := (hb.block B h.lt).trans h
theorem BS.c0 {w : World} {B : Nat} {b v : Int} (h : BS w B b v) : w.cell? ⟨B, 0, none⟩ = some (.int .i64 b) := by unfold BS at h; simp [World.cell?, h]
theorem BS.c1 {w : World} {B : Nat} {b v : Int} (h : BS w B b v) : w.cell? ⟨B, 1, none⟩ = some (.int .i64 v) := by unfold BS at h; simp [World.cell?, h]
theorem info23 (b v : Int) : (Try.prog.info? 23).map (·.size) = some (#[Value.int .i64 b, .int .i64 v]).size := by
  show _ = some 2
  kernel_rfl
theorem info35a {x : Pc} (h : x.ok) : (Try.prog.info? 34).map (·.size) = some (Value.int .i64 x.l :: .int .i64 x.v :: x.r).toArray.size := by
  rw [List.size_toArray]; exact info35 h.len
set_option maxHeartbeats 1000000 in
theorem closure8 (b v : Int) (x : Pc) (hb : pw b = true) (ok : x.ok) (B : Nat) (w : World) (hB : BS w B b v) :
    Calls Try.prog 8 #[.agg (Value.int .i64 x.l :: .int .i64 x.v :: x.r).toArray, .pointer (some ⟨B, 0, none⟩)] w fun e w' => e = .returned (.bool (!mb b x)) ∧ Below w.heap.size w w' := by
  have hi := info35a ok
  have HM := mayBe9 b v x hb
  generalize mb b x = m at *
  generalize (Value.int .i64 x.l :: .int .i64 x.v :: x.r).toArray = A at *
  have hn := heapNew w (.cells A 34)
  have b0 : Below w.heap.size w (w.alloc (.cells A 34)) := (Below.refl _ _).alloc (Nat.le_refl _) _
  have hB0 := hB.keep b0
  have H0 : Hid (Below w.heap.size w (w.alloc (.cells A 34)) ∧ ∀ w, Calls Try.prog 9 #[sc b v, .agg A] w fun e w' => e = .returned (.bool m) ∧ Below w.heap.size w w') := ⟨b0, HM⟩
  have hbs : (w.alloc (.cells A 34)).heap[B]? = some (.cells #[.int .i64 b, .int .i64 v] 23 (0, 0)) := hB0
  have h23 := info23 b v
  clear hB hB0 b0 hb HM
  go_enter Try.func8, Try.ntmps8
  go_wp2_with (first | (refine wpList_load_row rfl 34 _ rfl w.heap.size rfl 34 _ (0, 0) _ hn Try.underlying34 rfl hi ?_) | (refine wpList_load_row rfl 23 _ rfl B rfl 23 _ (0, 0) _ hbs Try.underlying23 rfl h23 ?_))
  generalize w.alloc (.cells A 34) = w0 at *
  refine (H0.out.2 w0).mono ?_
  rintro e w1 ⟨rfl, b1⟩
  have H1 : Hid (Below w.heap.size w w1) := H0.out.1.trans (b1.mono H0.out.1.size)
  clear b1
  go_wp2
  go_ret
  exact ⟨rfl, H1.out⟩
/-- may all these pieces be? -/
def allB (b : Int) (ps : List Pc) : Bool := ps.all (mb b)
set_option maxHeartbeats 1000000 in
theorem idx16 (b v : Int) (hb : pw b = true) (s : Value) (ps : List Pc) (B : Nat) (w : World) (hr : RP w s ps) (hl : ps.length ≤ 65536) (hB : BS w B b v) :
    Calls Try.prog 16 #[s, .func (.func 8) #[] #[.pointer (some ⟨B, 0, none⟩)]] w fun e w' => ∃ i : Int, e = .returned (.int .i64 i) ∧ (decide (i ≥ 0) = !allB b ps) ∧ Below w.heap.size w w' := by
  obtain ⟨a, c, rfl, _⟩ := id hr
  have HR : Hid (RP w (.slice a ps.length c) ps ∧ BS w B b v ∧ pw b = true) := ⟨hr, hB, hb⟩
  clear hr hB hb
  generalize hln : ps.length = len at *
  have HN : Hid (ps.length = len) := hln
  clear hln
  go_enter Try.func16, Try.ntmps16
  go_wp2
  go_loopw [8] (fun i wr => ∃ k : Nat, k ≤ len ∧ i = .int .i64 k ∧ Hid (Below w.heap.size w wr ∧ allB b (ps.take k) = true)) (fun i _ => len - (intOf i).toNat)
  case atStart => exact ⟨0, Nat.zero_le _, rfl, Below.refl _ _, rfl⟩
  case round =>
    obtain ⟨k, hk, rfl, HI⟩ := hrel
    by_cases hlt : k < len
    · have hl2 : k < ps.length := by rw [HN.out]; exact hlt
      have hx : ps[k]? = some ps[k] := List.getElem?_eq_getElem hl2
      generalize ps[k] = x at hx
      have hb1 := HI.out.1
      obtain ⟨g, o, rfl, hg, hrg, ok⟩ := (HR.out.1.keep hb1).at k x hx
      have hiL := info35 ok.len
      have HC : Hid (Calls Try.prog 8 #[.agg x.ls.toArray, .pointer (some ⟨B, 0, none⟩)] wr fun e w' => e = .returned (.bool (!mb b x)) ∧ Below wr.heap.size wr w') := closure8 b v x HR.out.2.2 ok B wr (HR.out.2.1.keep hb1)
      have ht : ps.take (k + 1) = ps.take k ++ [x] := by rw [List.take_add_one, hx]; rfl
      have H2 : Hid (Below w.heap.size w wr) := hb1
      cases hm : mb b x
      · have HF : Hid (allB b ps = false) := by
          unfold Hid allB
          rw [List.all_eq_false]
          exact ⟨x, List.mem_of_getElem? hx, by rw [hm]; simp⟩
        rw [hm] at HC
        clear hm hb1 hx ht HI ok
        generalize x.ls = L at *
        go_wp2_with (first | (refine wpList_load_mid rfl 34 _ rfl g (o + k * 35) rfl _ _ hrg Try.underlying34 rfl hiL ?_))
        refine HC.out.mono ?_
        rintro e w1 ⟨rfl, b1⟩
        have H3 : Hid (Below w.heap.size w w1) := H2.out.trans (b1.mono H2.out.size)
        clear b1
        go_wp2
        go_ret
        exact ⟨_, rfl, by rw [HF.out]; simp, H3.out⟩
      · have HF : Hid (allB b (ps.take (k + 1)) = true) := by
          have := HI.out.2
          unfold Hid
          unfold allB at this ⊢
          rw [ht, List.all_append, this]
          simp [hm]
        rw [hm] at HC
        clear hm hb1 hx ht HI ok
        generalize x.ls = L at *
        go_wp2_with (first | (refine wpList_load_mid rfl 34 _ rfl g (o + k * 35) rfl _ _ hrg Try.underlying34 rfl hiL ?_))
        refine HC.out.mono ?_
        rintro e w1 ⟨rfl, b1⟩
        have H3 : Hid (Below w.heap.size w w1) := H2.out.trans (b1.mono H2.out.size)
        clear b1
        go_wp2
        go_roundw
        case rel => exact ⟨k + 1, by omega, by go_num, H3.out, HF.out⟩
        case measure => simp [intOf]; omega
    · have HF : Hid (Below w.heap.size w wr ∧ allB b ps = true) := by
        have h1 := HI.out
        rw [List.take_of_length_le (by have := HN.out; omega)] at h1
        exact h1
      clear HI
      go_wp2
      go_ret
      exact ⟨_, rfl, by rw [HF.out.2]; simp, HF.out.1⟩
theorem contains7 (b v : Int) (hb : pw b = true) (s : Value) (ps : List Pc) (B : Nat) (w : World) (hr : RP w s ps) (hl : ps.length ≤ 65536) (hB : BS w B b v) :
    Calls Try.prog 7 #[s, .func (.func 8) #[] #[.pointer (some ⟨B, 0, none⟩)]] w fun e w' => e = .returned (.bool (!allB b ps)) ∧ Below w.heap.size w w' := by
  have HC : Hid (Calls Try.prog 16 #[s, .func (.func 8) #[] #[.pointer (some ⟨B, 0, none⟩)]] w fun e w' => ∃ i : Int, e = .returned (.int .i64 i) ∧ (decide (i ≥ 0) = !allB b ps) ∧ Below w.heap.size w w') := idx16 b v hb s ps B w hr hl hB
  clear hr hB
  generalize allB b ps = m at *
  go_enter Try.func7, Try.ntmps7
  go_wp2_with fail
  refine HC.out.mono ?_
  rintro e w1 ⟨i, rfl, hi, b1⟩
  have H1 : Hid (Below w.heap.size w w1) := b1
  clear b1
  have hi2 : decide (0 ≤ i) = !m := hi
  go_wp2
  go_ret
  exact ⟨ret_b (by simp), H1.out⟩
end Go.Proofs.Ytpnbhcjbbcekeaa
