import Derived.Test.YtcanbkgcgjaimaaPn
namespace Go.Proofs.Ytcanbkgcgjaimaa
open Go.Shelf Go.RowKit
theorem build_to {P : Program} {ops : Array Oper} {rest : List Oper} {o : Oper} {a : Act} {w : World} {Q : Exit → Act → World → Prop} (hg : o.guard = none) (t : TypeId) (parts : Array (Nat × Operand)) (ho : o.op = .build t parts) (cells : Array Value)
    (hf : P.built t (parts.map fun (i, x) => (i, a.eval x)).toList = some cells)
    (h : wpList P ops Q rest (a.put o.dst (.agg cells)) w) : wpList P ops Q (o :: rest) a w :=
  wpList_build hg t parts ho (by rw [hf]; rfl) (by rw [hf]; exact h)
theorem build5_q {ops : Array Oper} {rest : List Oper} {o : Oper} {a : Act} {w : World} {Q : Exit → Act → World → Prop} (hg : o.guard = none) (parts : Array (Nat × Operand)) (ho : o.op = .build 31 parts) (z : Nat → Int) (b i l p : Int)
    (hp : (parts.map fun (i, x) => (i, a.eval x)).toList = [(0, .agg (hs z)), (1, .int .i64 b), (2, .int .i64 i), (3, .int .i64 l), (4, .int .i64 p)])
    (h : wpList Try.prog ops Q rest (a.put o.dst (.agg (qc z b i l p))) w) : wpList Try.prog ops Q (o :: rest) a w :=
  build_to hg 31 parts ho _ (by rw [hp]; exact built5 z b i l p) h
theorem slice_q {ops : Array Oper} {rest : List Oper} {o : Oper} {a : Act} {w : World} {Q : Exit → Act → World → Prop} (hg : o.guard = none) (parts : Array (Nat × Operand)) (ho : o.op = .buildSlice 24 1 parts) (z : Nat → Int) (b i l p : Int)
    (hp : (parts.map fun (i, x) => (i, a.eval x)).toList = [(0, .agg (qc z b i l p))])
    (h : wpList Try.prog ops Q rest (a.put o.dst (.slice (some ⟨w.heap.size, 0, none⟩) 1 1)) (w.alloc (.cells (qc z b i l p) 31))) : wpList Try.prog ops Q (o :: rest) a w := by
  obtain ⟨ie, hi, hz0, hz1, hz2⟩ := info_parts info31
  refine wpList_buildSlice hg 24 31 1 parts ho _ ie _ Try.underlying24 hi hz0 (by rw [hz1]; omega) (by rw [hz1]; omega) ?_ h
  rw [hp, hz1]
  exact fill1 z b i l p
/-- how many queries -/
def CE (n l : Int) (m : Nat) : Prop := n ≤ (m : Int) * l ∧ ∀ j : Nat, j < m → (j : Int) * l < n
theorem CE.unique {n l : Int} {m m' : Nat} (h : CE n l m) (g : CE n l m') : m = m' := by
  rcases Nat.lt_trichotomy m m' with e | e | e
  · have := g.2 m e; have := h.1; omega
  · exact e
  · have := h.2 m' e; have := g.1; omega
/-- Plan's answer, by its numbers -/
def PL (z : Nat → Int) (n low : Int) (w : World) (v : Value) (er : Int) : Prop :=
  ∃ h, HT n low h er ∧ ((er ≠ 0 ∨ n = 1) ∧ v = .slice none 0 0 ∨ er = 0 ∧ n ≠ 1 ∧ ∃ m : Nat, m ≤ 1048577 ∧ CE n (min 8 (p2 (h - low).toNat)) m ∧ RQ w v m (qrow z low (min 8 (p2 (h - low).toNat)) (h - 1 - low) m))
theorem PL.keep {z : Nat → Int} {n low : Int} {w w' : World} {v : Value} {er : Int} (h : PL z n low w v er) (hb : Below w.heap.size w w') : PL z n low w' v er := by
  obtain ⟨t, h1, h2⟩ := h
  refine ⟨t, h1, h2.imp id (fun ⟨a, b, m, c, d, e⟩ => ⟨a, b, m, c, d, e.keep hb⟩)⟩
/-- a row that the call owns reads as its cells -/
theorem RQ.of_owns {w : World} {B k : Nat} {v : Value} {us : List Value} (h : w.ownsRow B 31 36 v k us) : RQ w v k us := by
  rcases h.2 with ⟨rfl, h0⟩ | ⟨g, cap, cur, rfl, _, hg, _⟩
  · exact ⟨_, _, by rw [h0], .inl h0⟩
  · refine ⟨_, cap, rfl, .inr ⟨g, rfl, fun j u hu => ?_⟩⟩
    have := h.cells (g := g) rfl j u hu
    have hadd : (⟨g, 0, none⟩ : Addr).add j = ⟨g, j, none⟩ := by unfold Addr.add; split <;> simp_all
    rw [hadd] at this
    exact this
theorem own_form {w : World} {B k : Nat} {v : Value} {us : List Value} (h : w.ownsRow B 31 36 v k us) : ∃ a c, v = .slice a k c := by
  rcases h.2 with ⟨rfl, rfl⟩ | ⟨g, cap, cur, rfl, _⟩
  · exact ⟨_, _, rfl⟩
  · exact ⟨_, _, rfl⟩
theorem mul_lim {k : Nat} {len n : Int} (h0 : 1 ≤ len) (h1 : (k : Int) * len < n) : (k : Int) < n := by
  have : (k : Int) * 1 ≤ (k : Int) * len := Int.mul_le_mul_of_nonneg_left h0 (by omega)
  omega

set_option maxHeartbeats 2000000 in
theorem plan6 (z : Nat → Int) (n low : Int) (w : World) :
    Calls Try.prog 6 #[.int .i64 n, .int .i64 low, .agg (hs z)] w fun e w' => ∃ v er, e = .returned (.tuple #[v, .int .i64 er]) ∧ PL z n low w' v er ∧ Below w.heap.size w w' := by
  have BL : Below w.heap.size w (w.alloc (Obj.cells (hs z) 23)) := (Below.refl _ _).alloc (Nat.le_refl _) _
  go_enter Try.func6, Try.ntmps6
  go_wp2_with fail
  refine (tree11 n low _).mono ?_
  rintro e w' ⟨h, er, rfl, hh, rfl⟩
  have H : Hid (HT n low h er) := hh
  by_cases c : er = 0
  · subst c
    by_cases c1 : n = 1
    · subst c1
      clear hh
      go_wp2
      go_ret2
      exact ⟨.slice none 0 0, 0, rfl, ⟨h, H.out, .inl ⟨.inr rfl, rfl⟩⟩, BL⟩
    · obtain ⟨g0, g1, g2, g3, r, g4, g5⟩ := hh.range
      have n1 : (n == 1) = false := by simpa using c1
      have R : Hid (RI n r) := g4
      have hr20 := g4.le g3
      clear hh g4
      go_wp2_with fail
      refine (rise12 n g2 g3 _).mono ?_
      rintro e w' ⟨s, rfl, hs1, rfl⟩
      obtain rfl := hs1.unique R.out
      clear R hs1
      have LE : ∃ len, len = min 8 (p2 s) := ⟨_, rfl⟩
      obtain ⟨len, hlen⟩ := LE
      have hp2 := p2_pos s
      have l0 : 1 ≤ len := by omega
      have l1 : len ≤ 8 := by omega
      have EQ : Hid (min 8 (p2 (h - low).toNat) = len ∧ h - 1 - low = (s : Int) - 1) := ⟨by rw [hlen, g5, show (low + (s : Int) - low).toNat = s by omega], by omega⟩
      have C := power13 s (by omega)
      clear g5
      by_cases c8 : p2 s < 8
      · obtain rfl : len = p2 s := by omega
        clear hlen
        generalize p2 s = len at *
        go_wp2_with (go_at_call 13; refine (C _).mono ?_; rintro e w' ⟨rfl, rfl⟩)
        go_loopw [11, 12] (fun lv av wr => ∃ k : Nat, Hid (∀ j : Nat, j < k → (j : Int) * len < n) ∧ Hid (wr.ownsRow (w.heap.size + 1) 31 36 lv k (qrow z low len ((s : Int) - 1) k) ∧ Below (w.heap.size + 1) (w.alloc (Obj.cells (hs z) 23)) wr) ∧ (k : Int) ≤ n ∧ (k : Int) * len ≤ n + 8 ∧ av = .int .i64 ((k : Int) * len)) (fun _ av _ => (n - intOf av).toNat)
        case atStart => exact ⟨0, fun j hj => by omega, ⟨World.ownsRow_nil _ _ _ _, Below.refl _ _⟩, by omega, by omega, by simp⟩
        case round =>
          obtain ⟨k, HJ, HW, hkn, hk8, rfl⟩ := hrel
          obtain ⟨la, lc, rfl⟩ := own_form HW.out.1
          have hroot : wr.heap[w.heap.size]? = some (Obj.cells (hs z) 23) := (HW.out.2.block _ (by omega)).trans (heap_alloc_last w _)
          have hsz : w.heap.size + 1 ≤ wr.heap.size := by have := HW.out.2.size; simpa using this
          have hml : (k : Int) * len < n → (k : Int) < n := mul_lim (by omega)
          have HM : ∃ m0 : Int, m0 = (k : Int) * len := ⟨_, rfl⟩
          obtain ⟨m0, hm⟩ := HM
          have k0 : 0 ≤ m0 := by rw [hm]; exact Int.mul_nonneg (by omega) (by omega)
          rw [← hm] at hk8 hml ⊢
          have HMH : Hid (m0 = (k : Int) * len) := hm
          clear hm
          by_cases hlt : m0 < n
          · have hkl := hml hlt
            clear hml
            go_wp2_with (first | (refine wpList_load_row rfl 23 _ rfl w.heap.size rfl 23 (hs z) (0, 0) _ hroot Try.underlying23 rfl (info23 z) ?_) | (refine build5_q rfl _ rfl z low m0 len ((s : Int) - 1) (by rw [Array.toList_map]; rfl) ?_) | (refine slice_q rfl _ rfl z low m0 len ((s : Int) - 1) (by rw [Array.toList_map]; rfl) ?_) | (at_builtin; refine append_q rfl _ _ rfl rfl (HW.out.1.alloc _) wr.heap.size z low m0 len ((s : Int) - 1) rfl (heap_alloc_last wr _) (by simp; omega) (by omega) ?_; (intro v' w3 ho' hb'; obtain ⟨a4, c4, rfl⟩ := own_form ho')))
            have e1 : ((k + 1 : Nat) : Int) * len = m0 + len := by rw [HMH.out, Int.natCast_add, Int.add_mul]; omega
            refine ⟨⟨k + 1, fun j hj => ?_, ⟨?_, HW.out.2.trans (((Below.refl _ wr).alloc hsz _).trans hb')⟩, by omega, by omega, by rw [e1]⟩, by simp [intOf]; omega⟩
            · rcases Nat.lt_or_eq_of_le (Nat.le_of_lt_succ hj) with g | g
              · exact HJ.out j g
              · rw [g, ← HMH.out]; exact hlt
            · rw [qrow_succ, ← HMH.out]; exact ho'
          · clear hml
            go_wp2
            go_ret2
            refine ⟨_, 0, rfl, ⟨h, H.out, .inr ⟨rfl, c1, k, by omega, ?_, ?_⟩⟩, BL.trans (HW.out.2.mono (by omega))⟩
            · rw [EQ.out.1]; exact ⟨by rw [← HMH.out]; omega, HJ.out⟩
            · rw [EQ.out.1, EQ.out.2]; exact RQ.of_owns HW.out.1
      · obtain rfl : len = 8 := by omega
        clear hlen
        go_wp2_with (go_at_call 13; refine (C _).mono ?_; rintro e w' ⟨rfl, rfl⟩)
        go_loopw [11, 12] (fun lv av wr => ∃ k : Nat, Hid (∀ j : Nat, j < k → (j : Int) * (8 : Int) < n) ∧ Hid (wr.ownsRow (w.heap.size + 1) 31 36 lv k (qrow z low (8 : Int) ((s : Int) - 1) k) ∧ Below (w.heap.size + 1) (w.alloc (Obj.cells (hs z) 23)) wr) ∧ (k : Int) ≤ n ∧ (k : Int) * (8 : Int) ≤ n + 8 ∧ av = .int .i64 ((k : Int) * (8 : Int))) (fun _ av _ => (n - intOf av).toNat)
        case atStart => exact ⟨0, fun j hj => by omega, ⟨World.ownsRow_nil _ _ _ _, Below.refl _ _⟩, by omega, by omega, by simp⟩
        case round =>
          obtain ⟨k, HJ, HW, hkn, hk8, rfl⟩ := hrel
          obtain ⟨la, lc, rfl⟩ := own_form HW.out.1
          have hroot : wr.heap[w.heap.size]? = some (Obj.cells (hs z) 23) := (HW.out.2.block _ (by omega)).trans (heap_alloc_last w _)
          have hsz : w.heap.size + 1 ≤ wr.heap.size := by have := HW.out.2.size; simpa using this
          have hml : (k : Int) * (8 : Int) < n → (k : Int) < n := mul_lim (by omega)
          have HM : ∃ m0 : Int, m0 = (k : Int) * (8 : Int) := ⟨_, rfl⟩
          obtain ⟨m0, hm⟩ := HM
          have k0 : 0 ≤ m0 := by rw [hm]; exact Int.mul_nonneg (by omega) (by omega)
          rw [← hm] at hk8 hml ⊢
          have HMH : Hid (m0 = (k : Int) * (8 : Int)) := hm
          clear hm
          by_cases hlt : m0 < n
          · have hkl := hml hlt
            clear hml
            go_wp2_with (first | (refine wpList_load_row rfl 23 _ rfl w.heap.size rfl 23 (hs z) (0, 0) _ hroot Try.underlying23 rfl (info23 z) ?_) | (refine build5_q rfl _ rfl z low m0 (8 : Int) ((s : Int) - 1) (by rw [Array.toList_map]; rfl) ?_) | (refine slice_q rfl _ rfl z low m0 (8 : Int) ((s : Int) - 1) (by rw [Array.toList_map]; rfl) ?_) | (at_builtin; refine append_q rfl _ _ rfl rfl (HW.out.1.alloc _) wr.heap.size z low m0 (8 : Int) ((s : Int) - 1) rfl (heap_alloc_last wr _) (by simp; omega) (by omega) ?_; (intro v' w3 ho' hb'; obtain ⟨a4, c4, rfl⟩ := own_form ho')))
            have e1 : ((k + 1 : Nat) : Int) * (8 : Int) = m0 + (8 : Int) := by rw [HMH.out, Int.natCast_add, Int.add_mul]; omega
            refine ⟨⟨k + 1, fun j hj => ?_, ⟨?_, HW.out.2.trans (((Below.refl _ wr).alloc hsz _).trans hb')⟩, by omega, by omega, by rw [e1]⟩, by simp [intOf]; omega⟩
            · rcases Nat.lt_or_eq_of_le (Nat.le_of_lt_succ hj) with g | g
              · exact HJ.out j g
              · rw [g, ← HMH.out]; exact hlt
            · rw [qrow_succ, ← HMH.out]; exact ho'
          · clear hml
            go_wp2
            go_ret2
            refine ⟨_, 0, rfl, ⟨h, H.out, .inr ⟨rfl, c1, k, by omega, ?_, ?_⟩⟩, BL.trans (HW.out.2.mono (by omega))⟩
            · rw [EQ.out.1]; exact ⟨by rw [← HMH.out]; omega, HJ.out⟩
            · rw [EQ.out.1, EQ.out.2]; exact RQ.of_owns HW.out.1
  · have c' : (er != 0) = true := by simpa using c
    clear hh
    go_wp2
    go_ret2
    exact ⟨.slice none 0 0, er, rfl, ⟨h, H.out, .inl ⟨.inl c, rfl⟩⟩, BL⟩
end Go.Proofs.Ytcanbkgcgjaimaa
