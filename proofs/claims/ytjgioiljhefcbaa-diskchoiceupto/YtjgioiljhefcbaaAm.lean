import Derived.Test.YtjgioiljhefcbaaLs
namespace Go.Proofs.Ytjgioiljhefcbaa
open Go.RowKit
/-- 64 bytes in a box were answered, and the box is an array's -/
def FulT (w : World) (l : List UInt8) (e : Ending) (w' : World) : Prop := ∃ g, e = .returned (.slice (some ⟨g, 0, none⟩) 64 64) ∧ w.heap.size ≤ g ∧ RB w' (.slice (some ⟨g, 0, none⟩) 64 64) (fl l) ∧ (∃ cs, w'.heap[g]? = some (.cells cs 73 (0, 0))) ∧ Below w.heap.size w w'
theorem FB.doneT {w wr : World} {l : List UInt8} {k : Nat} (h : FB w l k wr) (hk : k = l.length ∨ k = 64) : FulT w l (.returned (.slice (some ⟨w.heap.size, 0, none⟩) 64 64)) wr := by
  obtain ⟨g, e, h1, h2, h3⟩ := h.done hk
  simp only [Ending.returned.injEq, Value.slice.injEq, Option.some.injEq, Addr.mk.injEq] at e
  obtain ⟨⟨rfl, _⟩, _⟩ := e
  exact ⟨_, rfl, h1, h2, ⟨_, h.1⟩, h3⟩
set_option maxHeartbeats 1000000 in
theorem fullT (v : Value) (l : List UInt8) (w : World) (hr : RB w v l) (hl : l.length ≤ 140737488351232) : Calls Try.prog 24 #[v] w (FulT w l) := by
  have HR : Hid (RB w v l) := hr
  obtain ⟨a, c, rfl, _, _⟩ := hr
  have hz := zeroA
  have H0 : Hid (FB w l 0 (w.alloc (.cells (bc (zr 64)) 73))) := ⟨by rw [fk_zero]; exact heapNew _ _, (Below.refl _ _).alloc (Nat.le_refl _) _⟩
  generalize bc (zr 64) = bz at *
  generalize hn : l.length = n at *
  have HN : Hid (l.length = n) := hn
  clear hn
  go_enter Try.func24, Try.ntmps24
  go_wp2
  go_loopw [4] (fun i wr => ∃ k : Nat, k ≤ n ∧ k ≤ 64 ∧ i = .int .i64 k ∧ Hid (FB w l k wr)) (fun i _ => 64 - (intOf i).toNat)
  case atStart => exact ⟨0, Nat.zero_le _, by omega, rfl, H0⟩
  case round =>
    clear H0 hz
    obtain ⟨k, hk, hk64, rfl, H⟩ := hrel
    by_cases hlt : k < n
    · by_cases h64 : k < 64
      · have hq1 : decide (k < n) = true := decide_eq_true hlt
        obtain ⟨g, o, rfl, hcell⟩ : ∃ g o, a = some ⟨g, o, none⟩ ∧ wr.cell? ⟨g, o + k, none⟩ = some (.int .u8 ((byt l k).toNat : Int)) := by
          obtain ⟨a', c', e, _, h⟩ := HR.out.keep H.out.2
          simp only [Value.slice.injEq] at e
          rcases h with h0 | ⟨g, o, e2, _, h⟩
          · have := HN.out; rw [h0] at this; simp at this; omega
          · exact ⟨g, o, by rw [e.1, e2], h k (by rw [HN.out]; exact hlt)⟩
        have hc2 : wr.cell? ⟨w.heap.size, k, none⟩ = some (.int .u8 ((byt (fk l k) k).toNat : Int)) := cell_bc H.out.1 k (by rw [fk_len]; exact h64)
        have hf2 : wr.frozen? ⟨w.heap.size, k, none⟩ = false := by simp [World.frozen?, H.out.1]
        have H2 := Lib.hid (H.out.set h64)
        generalize ((byt l k).toNat : Int) = x at *
        generalize ((byt (fk l k) k).toNat : Int) = y at *
        clear H
        go_wp2
        go_roundw
        case rel => exact ⟨k + 1, by omega, by omega, by go_num, H2⟩
        case measure => (simp [intOf]; omega)
      · have hk6 : k = 64 := by omega
        subst hk6
        have HD := Lib.hid (H.out.doneT (.inr rfl))
        clear H
        go_wp2
        go_ret
        exact HD.out
    · have hkn : k = n := by omega
      have HD := Lib.hid (H.out.doneT (.inl (hkn.trans HN.out.symm)))
      clear H
      go_wp2
      go_ret
      exact HD.out
theorem drew2 (w : World) (a b : Nat) : ∃ n, (w.drewN a).drewN b = w.drewN n := ⟨a + b, by simp [World.drewN, Nat.add_assoc]⟩
theorem toNat_ne {a b : UInt8} (h : a ≠ b) : ((a.toNat : Int) != (b.toNat : Int)) = true := by
  rw [bne_iff_ne]
  intro e
  apply h
  apply UInt8.toNat_inj.1
  omega
set_option maxHeartbeats 1000000 in
/-- two lists of one length that differ -/
theorem differ (v1 v2 : Value) (l1 l2 : List UInt8) (w : World) (hl : l1.length ≤ 140737488351232) (hll : l1.length = l2.length) (hne : l1 ≠ l2) (h1 : RB w v1 l1) (h2 : RB w v2 l2) :
    Calls Try.prog 14 #[v1, v2] w fun e w' => e = .returned (.bool false) ∧ ∃ n, w' = w.drewN n := by
  obtain ⟨a1, c1, rfl, _, h1⟩ := h1
  obtain ⟨a2, c2, rfl, _, h2⟩ := h2
  rw [← hll]
  have HH : Hid ((l1 = [] ∨ ∃ g o, a1 = some ⟨g, o, none⟩ ∧ g < w.heap.size ∧ ∀ i, i < l1.length → w.cell? ⟨g, o + i, none⟩ = some (.int .u8 ((byt l1 i).toNat : Int))) ∧
     (l2 = [] ∨ ∃ g o, a2 = some ⟨g, o, none⟩ ∧ g < w.heap.size ∧ ∀ i, i < l2.length → w.cell? ⟨g, o + i, none⟩ = some (.int .u8 ((byt l2 i).toNat : Int)))) := ⟨h1, h2⟩
  have HD : Hid (l1.length = l2.length ∧ l1 ≠ l2) := ⟨hll, hne⟩
  clear h1 h2 hll hne
  generalize hn : l1.length = n at *
  have HN : Hid (l1.length = n) := hn
  clear hn
  go_enter Try.func14, Try.ntmps14
  go_wp2
  go_loopw [5] (fun i wr => ∃ k nq : Nat, k ≤ n ∧ i = .int .i64 k ∧ wr = w.drewN nq ∧ Hid (∀ q, q < k → byt l1 q = byt l2 q)) (fun i _ => n - (intOf i).toNat)
  case atStart => exact ⟨0, 0, Nat.zero_le _, rfl, rfl, fun q hq => by omega⟩
  case round =>
    obtain ⟨k, nq, hk, rfl, rfl, HE⟩ := hrel
    by_cases hlt : k < n
    · rcases HH.out.1 with h | ⟨g1, o1, rfl, _, h1⟩
      · have := HN.out; rw [h] at this; simp at this; omega
      rcases HH.out.2 with h | ⟨g2, o2, rfl, _, h2⟩
      · have := HD.out.1; rw [h] at this; simp at this; omega
      have g1 := h1 k hlt
      have g2 := h2 k (by have := HD.out.1; omega)
      by_cases hb : byt l1 k = byt l2 k
      · rw [← hb] at g2
        have HE2 : Hid (∀ q, q < k + 1 → byt l1 q = byt l2 q) := fun q hq => by
          by_cases h : q = k
          · rw [h]; exact hb
          · exact HE.out q (by omega)
        generalize ((byt l1 k).toNat : Int) = x at g1 g2
        clear h1 h2 HH HN hb HE
        go_wp2
        go_quiet (fail)
        go_wp2
        exact ⟨⟨k + 1, _, by omega, by go_num, rfl, HE2⟩, by simp [intOf]; omega⟩
      · have hx := toNat_ne hb
        generalize ((byt l1 k).toNat : Int) = x at *
        generalize ((byt l2 k).toNat : Int) = y at *
        clear h1 h2 HH HN hb HE HD
        go_wp2
        go_quiet (fail)
        go_wp2
        go_ret
        exact ⟨rfl, drew2 _ _ _⟩
    · exact absurd (byt_ext (HN.out.trans HD.out.1) (fun i hi => HE.out i (by have := HN.out; omega))) HD.out.2
/-- a list of lists of bytes, and where they lie -/
def MR (B : Nat) (w : World) (v : Value) (ms : List (List UInt8)) : Prop :=
  ∃ vals : List Value, vals.length = ms.length ∧ w.ownsRow B 22 1 v ms.length vals ∧ ∀ (i : Nat) (u : Value) (m : List UInt8), vals[i]? = some u → ms[i]? = some m → RB w u m ∧ u.oneCell' = true ∧ ∀ g, u.ownBlock = some g → g < B ∨ ∃ cs, w.heap[g]? = some (.cells cs 73 (0, 0))
theorem MR.on {B : Nat} {w w2 : World} {v : Value} {ms : List (List UInt8)} (h : MR B w v ms) (hb : Below w.heap.size w w2) : MR B w2 v ms := by
  obtain ⟨vals, h1, h2, h3⟩ := h
  refine ⟨vals, h1, ownsRow_fr (S := fun _ => True) h2 (Fr.of_below hb) (fun _ _ => trivial), fun i u m hu hm => ?_⟩
  obtain ⟨a, b, c⟩ := h3 i u m hu hm
  refine ⟨a.keep hb, b, fun g hg => (c g hg).imp id (fun ⟨cs, hc⟩ => ⟨cs, (hb.block g (Array.getElem?_eq_some_iff.1 hc).1).trans hc⟩)⟩
theorem infoB22 : (Try.prog.info? 22).map (fun i => (i.zero, i.size, i.bytes)) = some (some (.slice none 0 0), 1, 24) := by kernel_rfl
theorem append_sl {ops : Array Oper} {rest : List Oper} {o : Oper} {a : Act} {Q : Exit → Act → World → Prop} {w : World} {B : Nat} {sv : Value} {ms : List (List UInt8)} (hgd : o.guard = none) (s x : Operand)
    (ho : o.op = .call { callee := .builtin .append, args := #[s, x], argTypes := #[83, 83] }) (hs : a.eval s = sv) (hown : MR B w sv ms) (b : Nat) (u : Value) (m : List UInt8) (hx : a.eval x = .slice (some ⟨b, 0, none⟩) 1 1)
    (hc : w.cell? ⟨b, 0, none⟩ = some u) (hu : RB w u m) (hg : ∀ g, u.ownBlock = some g → g < B ∨ ∃ cs, w.heap[g]? = some (.cells cs 73 (0, 0))) (hB : B ≤ w.heap.size) (hlim : ms.length < 1073741824)
    (h : ∀ v' w', MR B w' v' (ms ++ [m]) → Below B w w' → wpList Try.prog ops Q rest (a.put o.dst v') w') : wpList Try.prog ops Q (o :: rest) a w := by
  obtain ⟨i0, hi, hz0, hz1, hz2⟩ := info_parts infoB22
  obtain ⟨vals, h1, h2, h3⟩ := hown
  refine wpList_append_own_at w hgd s x 83 ho B 22 i0 _ 1 24 Try.underlying83 hi hz0 hz1 hz2 rfl (by omega) sv ms.length vals hs h2 ⟨b, 0, none⟩ 1 1 [u] hx rfl (fun j y hy => ?_) (fun y hy => ?_) (by unfold maxLen; omega) (by omega) hB (fun v' w' k1 k2 _ _ => ?_)
  · match j, hy with
    | 0, hy => simp at hy; subst hy; simpa [Addr.add] using hc
  · simp at hy; subst hy; exact hu.one
  · have hbel : Below B w w' := (Below.refl B w).grown k2 hB (fun k hk => (World.ownsRow.lt h2 k hk).1)
    have hkeep : ∀ g, (g < B ∨ ∃ cs, w.heap[g]? = some (.cells cs 73 (0, 0))) → g < w.heap.size → w'.heap[g]? = w.heap[g]? := fun g hg hlt => by
      rcases hg with hg | ⟨cs, hc⟩
      · exact hbel.block g hg
      · refine k2.block g hlt (fun e => ?_)
        obtain ⟨_, cs', hc'⟩ := ownsRow_lt h2 g e.symm
        rw [hc] at hc'
        simp at hc'
    have hmove : ∀ u m, RB w u m → u.oneCell' = true → (∀ g, u.ownBlock = some g → g < B ∨ ∃ cs, w.heap[g]? = some (.cells cs 73 (0, 0))) → RB w' u m ∧ u.oneCell' = true ∧ ∀ g, u.ownBlock = some g → g < B ∨ ∃ cs, w'.heap[g]? = some (.cells cs 73 (0, 0)) := fun u m hr ho hg => by
      refine ⟨?_, ho, fun g hg' => (hg g hg').imp id (fun ⟨cs, hc⟩ => ⟨cs, (hkeep g (.inr ⟨cs, hc⟩) (Array.getElem?_eq_some_iff.1 hc).1).trans hc⟩)⟩
      obtain ⟨a, c, rfl, hle, hr⟩ := hr
      refine ⟨a, c, rfl, hle, ?_⟩
      rcases hr with hr | ⟨g, o, rfl, hlt, hcell⟩
      · exact .inl hr
      · exact .inr ⟨g, o, rfl, Nat.lt_of_lt_of_le hlt k2.size, fun i hi => (World.cell?_of_block (w := w) (hkeep g (hg g rfl) hlt)).trans (hcell i hi)⟩
    refine h v' w' ⟨vals ++ [u], by simp [h1], by simpa using k1, fun i y z hy hz => ?_⟩ hbel
    by_cases hlt : i < ms.length
    · rw [List.getElem?_append_left (by omega)] at hy hz
      obtain ⟨q1, q2, q3⟩ := h3 i y z hy hz
      exact hmove y z q1 q2 q3
    · have hi' : i = ms.length := by
        have := (List.getElem?_eq_some_iff.1 hz).1
        simp at this
        omega
      subst hi'
      rw [List.getElem?_append_right (by omega)] at hy hz
      simp [h1] at hy hz
      subst hy hz
      exact hmove u m hu hu.one hg
end Go.Proofs.Ytjgioiljhefcbaa
