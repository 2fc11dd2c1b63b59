import Derived.Test.YtglknmelcianjaaRe
namespace Go.Proofs.Ytglknmelcianjaa
open Go.RowKit
set_option maxHeartbeats 1000000 in
theorem twin (v : Value) (l : List UInt8) (w : World) (hr : RB w v l) (hl : l.length ≤ 140737488351232) :
    Calls Try.prog 6 #[v] w fun e w' => ∃ v', e = .returned v' ∧ OW w.heap.size w' v' l ∧ Below w.heap.size w w' := by
  have HR : Hid (RB w v l) := hr
  have H0 : Hid (OW w.heap.size w (.slice none 0 0) []) := World.ownsRow_nil _ _ _ _
  obtain ⟨a, c, rfl, _, _⟩ := hr
  go_enter Try.func6, Try.ntmps6
  go_wp2_with (at_builtin; refine append_bytes rfl _ _ rfl rfl H0.out rfl HR.out (Nat.le_refl _) (by simpa using hl) ?_; intro v' w1 ho1 hb1; rw [List.nil_append] at ho1; obtain ⟨a', c', rfl⟩ := ho1.form)
  go_ret
  exact ⟨_, rfl, ho1, hb1⟩
set_option maxHeartbeats 1000000 in
theorem bytesOf (v : Value) (l : List UInt8) (w : World) (hr : RB w v l) (hl : l.length ≤ 140737488351232) :
    Calls Try.prog 16 #[v] w fun e w' => ∃ v', e = .returned v' ∧ OW w.heap.size w' v' l ∧ Below w.heap.size w w' := by
  have HR : Hid (RB w v l) := hr
  have H0 : Hid (OW w.heap.size w (.slice none 0 0) []) := World.ownsRow_nil _ _ _ _
  obtain ⟨a, c, rfl, _, _⟩ := hr
  go_enter Try.func16, Try.ntmps16
  go_wp2_with (at_builtin; refine append_bytes rfl _ _ rfl rfl H0.out rfl HR.out (Nat.le_refl _) (by simpa using hl) ?_; intro v' w1 ho1 hb1; rw [List.nil_append] at ho1; obtain ⟨a', c', rfl⟩ := ho1.form)
  go_ret
  exact ⟨_, rfl, ho1, hb1⟩
/-- a reference's disk without unsynced writes -/
def R0 (w : World) (p : Nat) (l : List UInt8) : Prop := ∃ a c, w.heap[p]? = some (.cells #[.slice a l.length c, .slice none 0 0, .bool false, .int .i64 0] 47 (0, 0)) ∧ RB w (.slice a l.length c) l
theorem R0.below {w w' : World} {p : Nat} {l : List UInt8} (h : R0 w p l) (hb : Below w.heap.size w w') : R0 w' p l := by
  obtain ⟨a, c, h1, h2⟩ := h
  exact ⟨a, c, (hb.block p (Array.getElem?_eq_some_iff.1 h1).1).trans h1, h2.keep hb⟩
/-- a new disk of the reference's was answered -/
def RNewE (w : World) (l : List UInt8) (e : Ending) (w' : World) : Prop := ∃ p, e = .returned (.tuple #[.pointer (some ⟨p, 0, none⟩), .int .i64 0]) ∧ R0 w' p l ∧ Below w.heap.size w w'
theorem r0_new {w : World} {a : Option Addr} {c : Nat} {l : List UInt8} (h : RB w (.slice a l.length c) l) : R0 (w.alloc (.cells #[.slice a l.length c, .slice none 0 0, .bool false, .int .i64 0] 47)) w.heap.size l :=
  ⟨a, c, heapNew _ _, h.keep ((Below.refl _ _).alloc (Nat.le_refl _) _)⟩
set_option maxHeartbeats 1000000 in
theorem rnew_ok (n : Nat) (w : World) (h1 : 1 ≤ n) (h2 : n ≤ 65536) : Calls Try.prog 5 #[.int .i64 n] w (RNewE w (zr (64 * n))) := by
  have hmk := make_sec n h2
  have hO : OW w.heap.size (w.alloc (.cells (bc (zr (64 * n))) 5)) (.slice (some ⟨w.heap.size, 0, none⟩) (zr (64 * n)).length (64 * n)) (zr (64 * n)) :=
    OW.of_block (Nat.le_refl _) (heapNew _ _) (by rw [zr_len]) (by simp) (Nat.le_refl _) (by rw [zr_len]; unfold maxLen; omega)
  have hF := r0_new hO.rb
  rw [zr_len] at hF
  have hs : (w.alloc (.cells (bc (zr (64 * n))) 5)).heap.size = w.heap.size + 1 := by simp
  have HF : Hid (R0 ((w.alloc (.cells (bc (zr (64 * n))) 5)).alloc (.cells #[.slice (some ⟨w.heap.size, 0, none⟩) (64 * n) (64 * n), .slice none 0 0, .bool false, .int .i64 0] 47)) (w.heap.size + 1) (zr (64 * n))) := by rw [← hs]; exact hF
  clear hF hO hs
  have HB : Hid (∀ o1 o2, Below w.heap.size w ((w.alloc o1).alloc o2)) := fun _ _ => ((Below.refl _ _).alloc (Nat.le_refl _) _).alloc (by simp) _
  generalize bc (zr (64 * n)) = cs at *
  go_enter Try.func5, Try.ntmps5
  go_wp2
  go_ret2
  exact ⟨_, rfl, HF.out, HB.out _ _⟩
set_option maxHeartbeats 1000000 in
theorem rnew_no (n : Int) (w : World) (h : n < 1 ∨ 65536 < n) : Calls Try.prog 5 #[.int .i64 n] w fun e w' => e = .returned (.tuple #[.pointer none, .int .i64 120]) ∧ w' = w := by
  rcases h with h | h
  · go_enter Try.func5, Try.ntmps5
    go_wp2
    go_ret2
    exact ⟨rfl, rfl⟩
  · have h' : ¬ n < 1 := by omega
    go_enter Try.func5, Try.ntmps5
    go_wp2
    go_ret2
    exact ⟨rfl, rfl⟩
set_option maxHeartbeats 1000000 in
theorem rload_ok (v : Value) (l : List UInt8) (w : World) (hr : RB w v l) (h1 : l.length % 64 = 0) (h2 : 64 ≤ l.length) (h3 : l.length ≤ 4194304) : Calls Try.prog 8 #[v] w (RNewE w l) := by
  have HC := Lib.hid (bytesOf v l w hr (by omega))
  obtain ⟨a, c, rfl, _, _⟩ := hr
  generalize hn : l.length = n at *
  have HL : Hid (l.length = n) := hn
  clear hn
  have hm : (n : Int) % 64 = 0 := by omega
  have hn0 : ((n : Int) == 0) = false := by simp; omega
  have hn4 : decide (4194304 < (n : Int)) = false := by simp; omega
  go_enter Try.func8, Try.ntmps8
  go_wp2_with fail
  refine HC.out.mono ?_
  rintro e w1 ⟨v1, rfl, ho, hb⟩
  obtain ⟨a', c', rfl⟩ := ho.form
  have HF : Hid (R0 (w1.alloc (.cells #[.slice a' l.length c', .slice none 0 0, .bool false, .int .i64 0] 47)) w1.heap.size l ∧ Below w.heap.size w (w1.alloc (.cells #[.slice a' l.length c', .slice none 0 0, .bool false, .int .i64 0] 47))) := ⟨r0_new ho.rb, hb.alloc hb.size _⟩
  clear ho hb HC
  rw [HL.out] at *
  go_wp2
  go_ret2
  exact ⟨_, rfl, HF.out.1, HF.out.2⟩
set_option maxHeartbeats 1000000 in
theorem rload_no (v : Value) (l : List UInt8) (w : World) (hr : RB w v l) (hl : l.length ≤ 140737488355328) (h : ¬ (l.length % 64 = 0 ∧ 64 ≤ l.length ∧ l.length ≤ 4194304)) :
    Calls Try.prog 8 #[v] w fun e w' => e = .returned (.tuple #[.pointer none, .int .i64 122]) ∧ w' = w := by
  obtain ⟨a, c, rfl, _, _⟩ := hr
  generalize l.length = n at *
  by_cases h0 : n = 0
  · subst h0
    have hn0 : (((0 : Nat) : Int) == 0) = true := rfl
    go_enter Try.func8, Try.ntmps8
    go_wp2
    go_ret2
    exact ⟨rfl, rfl⟩
  · have hn0 : ((n : Int) == 0) = false := by simp; omega
    by_cases hm : n % 64 = 0
    · have hm' : (n : Int) % 64 = 0 := by omega
      have hn4 : decide (4194304 < (n : Int)) = true := by simp; omega
      go_enter Try.func8, Try.ntmps8
      go_wp2
      go_ret2
      exact ⟨rfl, rfl⟩
    · have hm' : ((n : Int) % 64 != 0) = true := by simp; omega
      go_enter Try.func8, Try.ntmps8
      go_wp2
      go_ret2
      exact ⟨rfl, rfl⟩
set_option maxHeartbeats 1000000 in
theorem rsize {w : World} {p : Nat} {l : List UInt8} (h : R0 w p l) (hx : l.length ≤ 4194304) : Calls Try.prog 25 #[.pointer (some ⟨p, 0, none⟩)] w fun e w' => e = .returned (.int .i64 ((l.length / 64 : Nat) : Int)) ∧ w' = w := by
  obtain ⟨a, c, h1, _⟩ := h
  have c0 : w.cell? ⟨p, 0, none⟩ = some (.slice a l.length c) := by simp [World.cell?, h1]
  clear h1
  generalize l.length = n at *
  go_enter Try.func25, Try.ntmps25
  go_wp2
  go_ret
  exact ⟨rfl, rfl⟩
set_option maxHeartbeats 1000000 in
theorem rsize_nil (w : World) : Calls Try.prog 25 #[.pointer none] w fun e w' => e = .returned (.int .i64 0) ∧ w' = w := by
  go_enter Try.func25, Try.ntmps25
  go_wp2
  go_ret
  exact ⟨rfl, rfl⟩
set_option maxHeartbeats 1000000 in
theorem rseen {w : World} {p : Nat} {l : List UInt8} (h : R0 w p l) (s : Nat) (hs : 64 * s + 64 ≤ l.length) (hx : l.length ≤ 4194304) :
    Calls Try.prog 40 #[.pointer (some ⟨p, 0, none⟩), .int .i64 s] w fun e w' => ∃ v', e = .returned v' ∧ OW w.heap.size w' v' (sec l s) ∧ Below w.heap.size w w' := by
  obtain ⟨a, c, h1, h2⟩ := h
  have c0 : w.cell? ⟨p, 0, none⟩ = some (.slice a l.length c) := by simp [World.cell?, h1]
  have c1 : w.cell? ⟨p, 1, none⟩ = some (.slice none 0 0) := by simp [World.cell?, h1]
  have hc : l.length ≤ c := by
    obtain ⟨a', c', e, hc, _⟩ := h2
    simp only [Value.slice.injEq] at e
    rw [e.2.2]; exact hc
  obtain ⟨g, o, rfl⟩ : ∃ g o, a = some ⟨g, o, none⟩ := by
    obtain ⟨a', c', e, _, h3⟩ := h2
    simp only [Value.slice.injEq] at e
    rcases h3 with rfl | ⟨g, o, h, _⟩
    · simp at hs
    · exact ⟨g, o, by rw [e.1, h]⟩
  have hg : g < w.heap.size := by
    obtain ⟨a', c', e, _, h3⟩ := h2
    simp only [Value.slice.injEq] at e
    rcases h3 with rfl | ⟨g', o', h, h4, _⟩
    · simp at hs
    · rw [h] at e; simp only [Option.some.injEq, Addr.mk.injEq] at e
      rw [e.1.1]; exact h4
  have hr := rb_at (w := w) (g := g) (o := o + s * 64) (c := c - s * 64) (l := sec l s) (by rw [sec_len _ _ hs]; omega) hg (fun i hi => by
    rw [sec_len _ _ hs] at hi
    rw [sec_byt _ _ _ hi]
    have := h2.cells (64 * s + i) (by omega)
    rw [show o + s * 64 + i = o + (64 * s + i) by omega]
    exact this)
  rw [sec_len _ _ hs] at hr
  have hr' : RB w (.slice (some ⟨g, o + s * 64, none⟩) ((s + 1) * 64 - s * 64) (c - s * 64)) (sec l s) := by rw [show (s + 1) * 64 - s * 64 = 64 by omega]; exact hr
  have HC := Lib.hid (bytesOf _ _ w hr' (by rw [sec_len _ _ hs]; omega))
  clear hr hr' h1 h2 hg
  generalize l.length = n at *
  go_enter Try.func40, Try.ntmps40
  go_wp2_with fail
  go_loop [5] (fun i => i = .int .i64 (-1)) (fun _ => 0)
  case atStart => rfl
  case round =>
    subst hrel
    go_wp2_with fail
    refine HC.out.mono ?_
    rintro e w1 ⟨v, rfl, ho, hb⟩
    have HF : Hid (OW w.heap.size w1 v (sec l s) ∧ Below w.heap.size w w1) := ⟨ho, hb⟩
    obtain ⟨a', c', rfl⟩ := ho.form
    clear ho hb HC
    go_wp2
    go_ret
    exact ⟨_, rfl, HF.out.1, HF.out.2⟩
theorem RD_form {w : World} {p : Nat} {l : List UInt8} (h : R0 w p l) : ∃ a c, w.cell? ⟨p, 0, none⟩ = some (.slice a l.length c) := by
  obtain ⟨a, c, h1, _⟩ := h
  exact ⟨a, c, by simp [World.cell?, h1]⟩
set_option maxHeartbeats 1000000 in
theorem rread {w : World} {p : Nat} {l : List UInt8} (h : R0 w p l) (s : Nat) (hs : 64 * s + 64 ≤ l.length) (hx : l.length ≤ 4194304) :
    Calls Try.prog 21 #[.pointer (some ⟨p, 0, none⟩), .int .i64 s] w (BytE w (sec l s)) := by
  have HC := Lib.hid (rseen h s hs hx)
  obtain ⟨a, c, c0⟩ := RD_form h
  clear h
  have h2 : decide (((l.length / 64 : Nat) : Int) ≤ (s : Int)) = false := by simp; omega
  have h0 : decide ((s : Int) < 0) = false := decide_eq_false (by omega)
  generalize l.length = n at *
  go_enter Try.func21, Try.ntmps21
  go_wp2_with fail
  refine HC.out.mono ?_
  rintro e w1 ⟨v, rfl, ho, hb⟩
  have HF : Hid (BytE w (sec l s) (.returned (.tuple #[v, .int .i64 0])) w1) := ⟨v, rfl, ho, hb⟩
  obtain ⟨a', c', rfl⟩ := ho.form
  clear ho hb HC
  go_wp2
  go_ret2
  exact HF.out
set_option maxHeartbeats 1000000 in
theorem rread_no {w : World} {p : Nat} {l : List UInt8} (h : R0 w p l) (s : Int) (hs : s < 0 ∨ l.length < 64 * s + 64) (hm : l.length % 64 = 0) (hx : l.length ≤ 4194304) :
    Calls Try.prog 21 #[.pointer (some ⟨p, 0, none⟩), .int .i64 s] w fun e w' => e = .returned (.tuple #[.slice none 0 0, .int .i64 120]) ∧ w' = w := by
  obtain ⟨a, c, c0⟩ := RD_form h
  clear h
  by_cases h0 : s < 0
  · have h0' : decide (s < 0) = true := by simpa using h0
    generalize l.length = n at *
    go_enter Try.func21, Try.ntmps21
    go_wp2_with fail
    go_ret2
    exact ⟨rfl, rfl⟩
  · have h0' : decide (s < 0) = false := by simpa using h0
    have h2 : decide (((l.length / 64 : Nat) : Int) ≤ s) = true := by simp; omega
    generalize l.length = n at *
    go_enter Try.func21, Try.ntmps21
    go_wp2_with fail
    go_ret2
    exact ⟨rfl, rfl⟩
set_option maxHeartbeats 1000000 in
theorem rread_nil (s : Int) (w : World) : Calls Try.prog 21 #[.pointer none, .int .i64 s] w fun e w' => e = .returned (.tuple #[.slice none 0 0, .int .i64 1]) ∧ w' = w := by
  go_enter Try.func21, Try.ntmps21
  go_wp2_with fail
  go_ret2
  exact ⟨rfl, rfl⟩
end Go.Proofs.Ytglknmelcianjaa
