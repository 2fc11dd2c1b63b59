import Derived.Test.YthleiochiigddaaXb
namespace Go.Proofs.Ythleiochiigddaa
open Go.RowKit
set_option maxHeartbeats 1000000 in
theorem clone (v : Value) (l : List UInt8) (w : World) (hr : RB w v l) (hl : l.length ≤ 140737488351232) :
    Calls Try.prog 14 #[v] w fun e w' => ∃ v', e = .returned v' ∧ OW w.heap.size w' v' l ∧ Below w.heap.size w w' := by
  have HR : Hid (RB w v l) := hr
  obtain ⟨a, c, rfl, _, hr⟩ := hr
  cases a with
  | none =>
    rcases hr with rfl | ⟨g, o, h, _⟩
    · have hq := fun u : World => Lib.run_eql_slice_nil (P := Try.prog) u 24 5 none 0 c 0 0 Try.underlying24
      clear HR
      go_enter Try.func14, Try.ntmps14
      go_wp2
      go_ret
      exact ⟨_, rfl, World.ownsRow_nil _ _ _ _, Below.refl _ _⟩
    · cases h
  | some x =>
    have hq := fun u : World => Lib.run_eql_slice_nil (P := Try.prog) u 24 5 (some x) l.length c 0 0 Try.underlying24
    clear hr
    have hb0 : Below w.heap.size w (w.alloc (.cells #[] 5)) := (Below.refl _ _).alloc (Nat.le_refl _) _
    have HO : Hid (OW w.heap.size (w.alloc (.cells #[] 5)) (.slice (some ⟨w.heap.size, 0, none⟩) 0 0) [] ∧ RB (w.alloc (.cells #[] 5)) (.slice (some x) l.length c) l ∧ Below w.heap.size w (w.alloc (.cells #[] 5))) :=
      ⟨World.ownsRow_lit w #[] 0 (Nat.le_refl _) (Nat.zero_le _) rfl, HR.out.keep hb0, hb0⟩
    clear hb0
    go_enter Try.func14, Try.ntmps14
    go_wp2_with (at_builtin; refine append_bytes rfl _ _ rfl rfl HO.out.1 rfl HO.out.2.1 (by simp) (by simpa using hl) ?_; intro v' w1 ho1 hb1)
    rw [List.nil_append] at ho1
    obtain ⟨a', c', rfl⟩ := ho1.form
    go_ret
    exact ⟨_, rfl, ho1, HO.out.2.2.trans hb1⟩
set_option maxHeartbeats 1000000 in
theorem twinT (v : Value) (l : List UInt8) (w : World) (hr : RB w v l) (hl : l.length ≤ 140737488351232) :
    Calls Try.prog 6 #[v] w fun e w' => ∃ v', e = .returned v' ∧ OW w.heap.size w' v' l ∧ Below w.heap.size w w' := by
  have HR : Hid (RB w v l) := hr
  have HO : Hid (OW w.heap.size w (.slice none 0 0) []) := World.ownsRow_nil _ _ _ _
  have HL : Hid (l.length ≤ 140737488351232) := hl
  obtain ⟨a, c, rfl, _, _⟩ := hr
  clear hl
  go_enter Try.func6, Try.ntmps6
  go_wp2_with (at_builtin; refine append_bytes rfl _ _ rfl rfl HO.out rfl HR.out (Nat.le_refl _) (by simpa using HL.out) ?_; intro v' w1 ho1 hb1; rw [List.nil_append] at ho1; obtain ⟨a', c', rfl⟩ := ho1.form)
  go_ret
  exact ⟨_, rfl, ho1, hb1⟩
/-- bytes and an error were answered -/
def QE (w : World) (l : List UInt8) (n : Int) (e : Ending) (w' : World) : Prop := ∃ a c, e = .returned (.tuple #[.slice a l.length c, .int .i64 n]) ∧ RB w' (.slice a l.length c) l ∧ Below w.heap.size w w'
theorem rb_nil (w : World) : RB w (.slice none 0 0) [] := ⟨none, 0, rfl, Nat.le_refl _, .inl rfl⟩
def pcE (b v : Int) (l : List UInt8) (part : Int) : Int := if ptE b v l.length = 0 then (if part < 0 ∨ ptN b v l.length ≤ part then 231 else 0) else ptE b v l.length
def pcL (b v : Int) (l : List UInt8) (part : Int) : List UInt8 := if ptE b v l.length = 0 then (if part < 0 ∨ ptN b v l.length ≤ part then [] else (l.drop (part.toNat * b.toNat)).take b.toNat) else []
theorem QE.no {w w' : World} {b v part x : Int} {l : List UInt8} (h : ptE b v l.length = x) (hx : x ≠ 0) (hb : Below w.heap.size w w') : QE w (pcL b v l part) (pcE b v l part) (.returned (.tuple #[.slice none 0 0, .int .i64 x])) w' := by
  have h0 : ¬ ptE b v l.length = 0 := by rw [h]; exact hx
  unfold pcL pcE
  rw [if_neg h0, if_neg h0, h]
  exact ⟨_, _, rfl, rb_nil _, hb⟩
theorem QE.none {w w' : World} {b v part : Int} {l : List UInt8} (h : ptE b v l.length = 0) (hx : part < 0 ∨ ptN b v l.length ≤ part) (hb : Below w.heap.size w w') : QE w (pcL b v l part) (pcE b v l part) (.returned (.tuple #[.slice none 0 0, .int .i64 231])) w' := by
  unfold pcL pcE
  rw [if_pos h, if_pos h, if_pos hx, if_pos hx]
  exact ⟨_, _, rfl, rb_nil _, hb⟩
theorem pc_yes {b v part : Int} {l : List UInt8} (h : ptE b v l.length = 0) (hx : ¬ (part < 0 ∨ ptN b v l.length ≤ part)) : pcL b v l part = (l.drop (part.toNat * b.toNat)).take b.toNat ∧ pcE b v l part = 0 := by
  unfold pcL pcE
  rw [if_pos h, if_pos h, if_neg hx, if_neg hx]
  exact ⟨rfl, rfl⟩
theorem pt_three (b v n : Int) : (ptN b v n = 0 ∧ ptE b v n = 10) ∨ (ptN b v n = 0 ∧ ptE b v n = 230) ∨ (gd b v = 0 ∧ 1 ≤ n ∧ n ≤ 1048576 ∧ ptN b v n = cnt b n ∧ ptE b v n = 0) := by
  rcases gd_two b v with hg | hg
  · by_cases hn : n < 1 ∨ 1048576 < n
    · exact .inr (.inl (pt_bad hg hn))
    · exact .inr (.inr ⟨hg, by omega, by omega, pt_yes hg hn⟩)
  · exact .inl (pt_no hg)
theorem rb_sub {w : World} {g o c f m : Nat} {l : List UInt8} (h : RB w (.slice (some ⟨g, o, Option.none⟩) l.length c) l) (hf : f + m ≤ l.length) (h0 : 0 < m) : RB w (.slice (some ⟨g, o + f, Option.none⟩) m (c - f)) ((l.drop f).take m) := by
  obtain ⟨a, c', e, hle, h⟩ := h
  simp only [Value.slice.injEq] at e
  obtain ⟨rfl, -, rfl⟩ := e
  have hln : ((l.drop f).take m).length = m := cut_len l f m hf
  refine ⟨_, _, by rw [hln], by rw [hln]; omega, ?_⟩
  rcases h with h | ⟨g', o', e, h1, h2⟩
  · rw [h] at hf; simp at hf; omega
  · cases e
    exact .inr ⟨g, o + f, rfl, h1, fun i hi => by
      rw [hln] at hi
      rw [byt_take _ _ _ hi, byt_drop, Nat.add_assoc]
      exact h2 (f + i) (by omega)⟩
theorem rb_some {w : World} {a : Option Addr} {n c : Nat} {l : List UInt8} (h : RB w (.slice a n c) l) (h0 : 1 ≤ l.length) : n = l.length ∧ l.length ≤ c ∧ ∃ g o, a = some ⟨g, o, Option.none⟩ := by
  obtain ⟨a', c', e, hle, h⟩ := h
  simp only [Value.slice.injEq] at e
  obtain ⟨rfl, rfl, rfl⟩ := e
  rcases h with h | ⟨g, o, e, _⟩
  · rw [h] at h0; simp at h0
  · exact ⟨rfl, hle, g, o, e⟩
/-- the place of a part in numbers -/
theorem part_num {b n part : Int} (hb : 64 ≤ b) (hb2 : b ≤ 16384) (hn : 1 ≤ n) (hn2 : n ≤ 1048576) (h0 : 0 ≤ part) (h1 : part < cnt b n) : ∃ B N k f m : Nat, b = B ∧ n = N ∧ part = k ∧ part * b = f ∧ f = k * B ∧ f < N ∧ f + m ≤ N ∧ 0 < m ∧ m = min B (N - f) := by
  obtain ⟨B, rfl⟩ : ∃ B : Nat, b = B := ⟨b.toNat, by omega⟩
  obtain ⟨N, rfl⟩ : ∃ N : Nat, n = N := ⟨n.toNat, by omega⟩
  obtain ⟨k, rfl⟩ : ∃ k : Nat, part = k := ⟨part.toNat, by omega⟩
  have h2 : (k : Int) * B < N := by
    unfold cnt at h1
    have h3 : (k : Int) ≤ ((N : Int) - 1) / B := by omega
    rw [Int.le_ediv_iff_mul_le (by omega)] at h3
    omega
  have h4 : k * B < N := by
    have : ((k * B : Nat) : Int) = (k : Int) * B := by simp
    omega
  refine ⟨B, N, k, k * B, min B (N - k * B), rfl, rfl, rfl, by simp, rfl, h4, ?_, ?_, rfl⟩
  · omega
  · omega
theorem take_min (l : List UInt8) (f B m : Nat) (h : m = min B (l.length - f)) : (l.drop f).take m = (l.drop f).take B := by
  subst h
  rcases Nat.le_total B (l.length - f) with h | h
  · rw [Nat.min_eq_left h]
  · rw [Nat.min_eq_right h, List.take_of_length_le (by rw [List.length_drop]; exact Nat.le_refl _), List.take_of_length_le (by rw [List.length_drop]; exact h)]
set_option maxHeartbeats 1000000 in
theorem lengthT (B N k f m : Nat) (hB : B ≤ 16384) (hN : N ≤ 1048576) (hk : ((k : Int) * B) = f) (hf : f < N) (hm : m = min B (N - f)) (w : World) : Calls Try.prog 15 #[.int .i64 B, .int .i64 N, .int .i64 k] w fun e w' => e = .returned (.int .i64 m) ∧ w = w' := by
  have hw : IntKind.i64.wrap ((k : Int) * B) = f := by rw [hk]; simp [IntKind.wrap, IntKind.bits, IntKind.signed]; omega
  by_cases hc : N < B + f
  · obtain rfl : m = N - f := by omega
    have hc2 : (N : Int) < B + f := by omega
    have hc3 : (N : Int) - f < B := by omega
    have HS : Hid ((N : Int) - f = ((N - f : Nat) : Int)) := show (N : Int) - f = ((N - f : Nat) : Int) by omega
    clear hm hc hk
    go_enter Try.func15, Try.ntmps15
    go_wp2
    go_ret
    exact ⟨by rw [← HS.out]; rfl, rfl⟩
  · obtain rfl : m = B := by omega
    have hc2 : ¬ (N : Int) < m + f := by omega
    have hc3 : ¬ (N : Int) - f < m := by omega
    clear hm hc hk
    go_enter Try.func15, Try.ntmps15
    go_wp2
    go_ret
    exact ⟨rfl, rfl⟩
end Go.Proofs.Ythleiochiigddaa
