import Derived.Test.YtdlnnnlmlaploaaDoorSO
import Derived.Laws.AppendOwnNone
namespace Go.Proofs.YtdlnnnlmlaploaaDoor
open Go.RowKit Go.Deep
theorem append_bl {ops : Array Oper} {rest : List Oper} {o : Oper} {a : Act} {Q : Exit → Act → World → Prop} {w : World} {B : Nat} {sv v : Value} {l m : List UInt8} (hgd : o.guard = none) (s x : Operand)
    (ho : o.op = .call { callee := .builtin .append, args := #[s, x], argTypes := #[22, 22] }) (hs : a.eval s = sv) (hown : OW B w sv l) (hx : a.eval x = v) (hv : RB w v m) (shape : v = .slice none 0 0 ∨ ∃ ad n c, v = .slice (some ad) n c)
    (hB : B ≤ w.heap.size) (hlim : l.length + m.length ≤ 140737488351232)
    (h : ∀ v' w', OW B w' v' (l ++ m) → Below B w w' → wpList Tryd.prog ops Q rest (a.put o.dst v') w') : wpList Tryd.prog ops Q (o :: rest) a w := by
  obtain ⟨i0, hi, hz0, hz1, hz2⟩ := info_parts info5
  rcases shape with rfl | ⟨ad, n, c, rfl⟩
  · have hm : m = [] := by
      obtain ⟨a', c', he, _⟩ := hv
      cases m with
      | nil => rfl
      | cons _ _ => simp at he
    subst hm
    exact wpList_append_own_none hgd s x 22 ho B 5 i0 1 Tryd.underlying22 hi sv l.length (Lib.byteCells l) hs hown hx (h sv w (by rw [List.append_nil]; exact hown) (Below.refl _ _))
  · obtain ⟨a', c', he, _, hcell⟩ := hv
    cases he
    refine wpList_append_own w hgd s x 22 ho B 5 i0 _ 1 1 Tryd.underlying22 hi hz0 hz1 hz2 rfl (by omega) sv l.length (Lib.byteCells l) hs hown ad m.length c (Lib.byteCells m) hx (by simp [Lib.byteCells]) (fun j u hu => ?_) (fun u hu => ?_) (by unfold maxLen; omega) (by omega) hB (fun v' w' h1 h2 _ => ?_)
    · have hj : j < m.length := by
        rcases Nat.lt_or_ge j m.length with h | h
        · exact h
        · rw [List.getElem?_eq_none (by simpa [Lib.byteCells] using h)] at hu; cases hu
      rcases hcell with h0 | ⟨b, o', hae, _, hc⟩
      · subst h0; simp at hj
      cases hae
      have hadd : (⟨b, o', none⟩ : Addr).add j = ⟨b, o' + j, none⟩ := by unfold Addr.add; split <;> simp_all
      have e : byt m j = m[j] := by unfold byt; simp [List.getD, List.getElem?_eq_getElem hj]
      rw [hadd, hc j hj, e]
      simpa [Lib.byteCells, List.getElem?_eq_getElem hj] using hu
    · simp [Lib.byteCells] at hu
      obtain ⟨i, _, rfl⟩ := hu
      rfl
    · refine h v' w' ?_ ((Below.refl B w).grown h2 hB (fun k hk => (World.ownsRow.lt hown k hk).1))
      rw [bc_append] at h1
      unfold OW; rw [List.length_append]; exact h1
theorem ow_nil (B : Nat) (w : World) : OW B w (.slice none 0 0) [] := World.ownsRow_nil _ _ _ _
set_option maxHeartbeats 1000000 in
theorem twin13 (v : Value) (l : List UInt8) (w : World) (h : RB w v l) (s : v = .slice none 0 0 ∨ ∃ ad n c, v = .slice (some ad) n c) (hlim : l.length ≤ 140737488351232) :
    Calls Tryd.prog 13 #[v] w fun e w' => ∃ v, e = .returned v ∧ OW w.heap.size w' v l ∧ Below w.heap.size w w' := by
  have H1 := Lib.hid h
  have S1 := Lib.hid s
  obtain ⟨a1, c1, rfl, _⟩ := h
  clear s
  go_enter Tryd.func13, Tryd.ntmps13
  go_wp2_with (at_builtin; refine append_bl (l := []) (m := l) (B := w.heap.size) (sv := .slice none 0 0) (v := .slice a1 l.length c1) rfl _ _ rfl rfl (ow_nil _ _) rfl H1.out S1.out (Nat.le_refl _) (by simp; omega) ?_; intro v8 w8 ho8 hb8; have O8 := Lib.hid (And.intro ho8 hb8); clear ho8 hb8)
  go_wp2
  go_ret
  exact ⟨_, rfl, O8.out⟩
/-- the seven cells of a span -/
def seven (w : World) (g o : Nat) (x : Vi) : Prop := w.cell? ⟨g, o, none⟩ = some (.int .i64 x.kd) ∧ w.cell? ⟨g, o + 1, none⟩ = some (.int .i64 x.fr) ∧ w.cell? ⟨g, o + 2, none⟩ = some (.int .i64 x.to) ∧ w.cell? ⟨g, o + 3, none⟩ = some (.int .i64 x.dp) ∧ w.cell? ⟨g, o + 4, none⟩ = some (.int .i64 x.up) ∧ w.cell? ⟨g, o + 5, none⟩ = some (.int .i64 x.nt) ∧ w.cell? ⟨g, o + 6, none⟩ = some (.string x.ky)
theorem seven.keep {w w' : World} {g o : Nat} {x : Vi} (h : seven w g o x) (hb : w'.heap[g]? = w.heap[g]?) : seven w' g o x := by
  obtain ⟨c0, c1, c2, c3, c4, c5, c6⟩ := h
  exact ⟨(World.cell?_of_block (w := w) hb).trans c0, (World.cell?_of_block (w := w) hb).trans c1, (World.cell?_of_block (w := w) hb).trans c2, (World.cell?_of_block (w := w) hb).trans c3, (World.cell?_of_block (w := w) hb).trans c4, (World.cell?_of_block (w := w) hb).trans c5, (World.cell?_of_block (w := w) hb).trans c6⟩
/-- a list of spans in memory -/
def RSp (w : World) (v : Value) (l : List Vi) : Prop := ∃ a c, v = .slice a l.length c ∧ (l = [] ∨ ∃ g, a = some ⟨g, 0, none⟩ ∧ g < w.heap.size ∧ ∀ i x, l[i]? = some x → seven w g (i * 7) x)
theorem RSp.keep {w w' : World} {v : Value} {l : List Vi} (h : RSp w v l) (hb : Below w.heap.size w w') : RSp w' v l := by
  obtain ⟨a, c, rfl, h⟩ := h
  refine ⟨a, c, rfl, ?_⟩
  rcases h with h | ⟨g, h1, h2, h3⟩
  · exact .inl h
  · exact .inr ⟨g, h1, Nat.lt_of_lt_of_le h2 hb.size, fun i x hi => (h3 i x hi).keep (hb.block g h2)⟩
theorem RSp.nil (w : World) : RSp w (.slice none 0 0) [] := ⟨none, 0, rfl, .inl rfl⟩
theorem RSp.of_own {w : World} {B : Nat} {v : Value} {l : List Vi} {n : Nat} {xs : List Value} (hn : n = l.length) (hx : xs = spW l) (h : w.ownsRow B 45 7 v n xs) : RSp w v l := by
  subst hn hx
  obtain ⟨_, h⟩ := h
  rcases h with ⟨rfl, h0⟩ | ⟨g, cap, cur, rfl, hB, hg, hc, hm, hs, ht⟩
  · obtain rfl : l = [] := List.eq_nil_of_length_eq_zero h0
    exact RSp.nil w
  · refine ⟨_, cap, rfl, .inr ⟨g, rfl, (show blk w g 45 cur from hg).lt, fun i x hi => ?_⟩⟩
    have hil : i < l.length := (List.getElem?_eq_some_iff.1 hi).1
    have key : ∀ j, j < 7 → w.cell? ⟨g, i * 7 + j, none⟩ = (Vi.sp x)[j]? := fun j hj => by
      rw [(show blk w g 45 cur from hg).cell, ← spW_at l i j x hi hj, ← ht, List.getElem?_take_of_lt (by omega), Array.getElem?_toList]
    exact ⟨key 0 (by omega), key 1 (by omega), key 2 (by omega), key 3 (by omega), key 4 (by omega), key 5 (by omega), key 6 (by omega)⟩
set_option maxRecDepth 10000 in
set_option maxHeartbeats 2000000 in
theorem spanSame30 (x : Vi) (w : World) : Calls Tryd.prog 30 #[.agg (Vi.sp x).toArray, .agg (Vi.sp x).toArray] w fun e w' => e = .returned (.bool true) ∧ Below w.heap.size w w' := by
  obtain ⟨a, b, c, d, e, f, k, _, _⟩ := x
  show Calls Tryd.prog 30 #[.agg #[.int .i64 a, .int .i64 b, .int .i64 c, .int .i64 d, .int .i64 e, .int .i64 f, .string k], .agg #[.int .i64 a, .int .i64 b, .int .i64 c, .int .i64 d, .int .i64 e, .int .i64 f, .string k]] w _
  go_enter Tryd.func30, Tryd.ntmps30
  go_wp2
  go_ret
  exact ⟨rfl, ((Below.refl _ _).alloc (Nat.le_refl _) _).alloc (by simp) _⟩
set_option maxRecDepth 10000 in
set_option maxHeartbeats 2000000 in
theorem spansSame16 (v1 v2 : Value) (l : List Vi) (w : World) (hl : l.length ≤ 140737488351232) (h1 : RSp w v1 l) (h2 : RSp w v2 l) :
    Calls Tryd.prog 16 #[v1, v2] w fun e w' => e = .returned (.bool true) ∧ Below w.heap.size w w' := by
  obtain ⟨a1, c1, rfl, h1⟩ := h1
  obtain ⟨a2, c2, rfl, h2⟩ := h2
  have HH := Lib.hid (And.intro h1 h2)
  clear h1 h2
  generalize hn : l.length = n at *
  have HN := Lib.hid hn
  clear hn
  go_enter Tryd.func16, Tryd.ntmps16
  go_wp2
  go_loopw [5] (fun t wr => ∃ k : Nat, k ≤ n ∧ t = .int .i64 k ∧ Hid (Below w.heap.size w wr)) (fun t _ => n - (intOf t).toNat)
  case atStart => exact ⟨0, Nat.zero_le _, rfl, Lib.hid (Below.refl _ _)⟩
  case round =>
    obtain ⟨k, hk, rfl, HB⟩ := hrel
    by_cases hlt : k < n
    · obtain ⟨h1, h2⟩ := HH.out
      rcases h1 with h | ⟨g1, rfl, hg1, h1⟩
      · have := HN.out; rw [h] at this; simp at this; omega
      rcases h2 with h | ⟨g2, rfl, hg2, h2⟩
      · have := HN.out; rw [h] at this; simp at this; omega
      obtain ⟨x, hx⟩ : ∃ x, l[k]? = some x := ⟨_, List.getElem?_eq_getElem (by rw [HN.out]; exact hlt)⟩
      have HS : Hid (∀ w', Below w.heap.size w w' → seven w' g1 (k * 7) x ∧ seven w' g2 (k * 7) x) := Lib.hid (fun w' hb => ⟨(h1 k x hx).keep (hb.block _ hg1), (h2 k x hx).keep (hb.block _ hg2)⟩)
      obtain ⟨s1, s2⟩ := HS.out wr HB.out
      have k0 : (0 : Int) ≤ (k : Int) := by omega
      have k1 : (k : Int) < (n : Int) := by omega
      clear h1 h2 hx HH HN
      go_wp2_with fail
      refine wp_region_held_drew (S := fun w' => seven w' g1 (k * 7) x ∧ seven w' g2 (k * 7) x) (by kernel_rfl) (⟨s1, s2⟩) (fun hHeld => ?_)
      refine wpAnyH_take (i := 0) (v := .slice (some ⟨g1, 0, none⟩) n c1) rfl (by kernel_rfl) (by kernel_rfl) (by kernel_rfl) (fun _ _ _ h => h) (Or.inl ⟨by rfl, fun w hw => by go_simp⟩) hHeld ?_
      simp only [Act.put, List.getElem_toArray, List.getElem_cons_zero, List.setIfInBounds_toArray, List.set_cons_zero, List.set_cons_succ]
      refine wpAnyH_take (i := 1) (v := .int .i64 k) rfl (by kernel_rfl) (by kernel_rfl) (by kernel_rfl) (fun _ _ _ h => h) (Or.inl ⟨by rfl, fun w hw => by go_simp⟩) hHeld ?_
      simp only [Act.put, List.getElem_toArray, List.getElem_cons_zero, List.getElem_cons_succ, List.setIfInBounds_toArray, List.set_cons_zero, List.set_cons_succ]
      refine wpAnyH_take (i := 2) (v := .pointer (some ⟨g1, k * 7, none⟩)) rfl (by kernel_rfl) (by kernel_rfl) (by kernel_rfl) (fun _ _ _ h => h) (Or.inl ⟨by rfl, fun w hw => by go_simp⟩) hHeld ?_
      simp only [Act.put, List.getElem_toArray, List.getElem_cons_zero, List.getElem_cons_succ, List.setIfInBounds_toArray, List.set_cons_zero, List.set_cons_succ]
      refine wpAnyH_take (i := 3) (v := .agg (Vi.sp x).toArray) rfl (by kernel_rfl) (by kernel_rfl) (by kernel_rfl) (fun _ _ _ h => h) (Or.inl ⟨by rfl, fun w hw => by obtain ⟨c0, c1, c2, c3, c4, c5, c6⟩ := hw.1; unfold Vi.sp; go_simp⟩) hHeld ?_
      simp only [Act.put, List.getElem_toArray, List.getElem_cons_zero, List.getElem_cons_succ, List.setIfInBounds_toArray, List.set_cons_zero, List.set_cons_succ]
      refine wpAnyH_take (i := 4) (v := .slice (some ⟨g2, 0, none⟩) n c2) rfl (by kernel_rfl) (by kernel_rfl) (by kernel_rfl) (fun _ _ _ h => h) (Or.inl ⟨by rfl, fun w hw => by go_simp⟩) hHeld ?_
      simp only [Act.put, List.getElem_toArray, List.getElem_cons_zero, List.getElem_cons_succ, List.setIfInBounds_toArray, List.set_cons_zero, List.set_cons_succ]
      refine wpAnyH_take (i := 5) (v := .int .i64 k) rfl (by kernel_rfl) (by kernel_rfl) (by kernel_rfl) (fun _ _ _ h => h) (Or.inl ⟨by rfl, fun w hw => by go_simp⟩) hHeld ?_
      simp only [Act.put, List.getElem_toArray, List.getElem_cons_zero, List.getElem_cons_succ, List.setIfInBounds_toArray, List.set_cons_zero, List.set_cons_succ]
      refine wpAnyH_take (i := 6) (v := .pointer (some ⟨g2, k * 7, none⟩)) rfl (by kernel_rfl) (by kernel_rfl) (by kernel_rfl) (fun _ _ _ h => h) (Or.inl ⟨by rfl, fun w hw => by go_simp⟩) hHeld ?_
      simp only [Act.put, List.getElem_toArray, List.getElem_cons_zero, List.getElem_cons_succ, List.setIfInBounds_toArray, List.set_cons_zero, List.set_cons_succ]
      refine wpAnyH_take (i := 7) (v := .agg (Vi.sp x).toArray) rfl (by kernel_rfl) (by kernel_rfl) (by kernel_rfl) (fun _ _ _ h => h) (Or.inl ⟨by rfl, fun w hw => by obtain ⟨c0, c1, c2, c3, c4, c5, c6⟩ := hw.2; unfold Vi.sp; go_simp⟩) hHeld ?_
      simp only [Act.put, List.getElem_toArray, List.getElem_cons_zero, List.getElem_cons_succ, List.setIfInBounds_toArray, List.set_cons_zero, List.set_cons_succ]
      refine wpAnyH_ready (rs := [8]) (by kernel_rfl) (by simp) ?_
      refine AllReadyH.cons (o := _) rfl (fun K hK => ?_) AllReadyH.nil
      go_simp
      refine (spanSame30 x wr.drew).mono ?_
      rintro e w' ⟨rfl, hb⟩
      have HB2 : Hid (Below w.heap.size w w') := ⟨hb.os.trans HB.out.os, hb.tape.trans HB.out.tape, hb.output.trans HB.out.output, Nat.le_trans HB.out.size hb.size, fun q hq => (hb.block q (Nat.lt_of_lt_of_le hq HB.out.size)).trans (HB.out.block q hq)⟩
      clear hb
      go_wp2_with fail
      refine hK.out _ _ (⟨(HS.out w' HB2.out).1, (HS.out w' HB2.out).2⟩) (fun hHeld => ?_)
      clear hK K
      refine wpAnyH_take (i := 9) (v := .bool false) rfl (by kernel_rfl) (by kernel_rfl) (by kernel_rfl) (fun _ _ _ h => h) (Or.inl ⟨by rfl, fun w hw => by go_simp⟩) hHeld ?_
      simp only [Act.put, List.getElem_toArray, List.getElem_cons_zero, List.getElem_cons_succ, List.setIfInBounds_toArray, List.set_cons_zero, List.set_cons_succ]
      refine wpAnyH_done (by kernel_rfl) ?_ _
      go_wp2
      go_roundw
      case rel => exact ⟨k + 1, by omega, by go_num, HB2⟩
      case measure => simp [intOf]; omega
    · go_wp2
      go_ret
      exact ⟨rfl, HB.out⟩
end Go.Proofs.YtdlnnnlmlaploaaDoor
