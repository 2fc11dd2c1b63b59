import Derived.Test.YtdlnnnlmlaploaaDoorM20
import Derived.Laws.AppendOwnNone
namespace Go.Proofs.YtdlnnnlmlaploaaDoor
open Go.RowKit Go.Deep
theorem append_bl {ops : Array Oper} {rest : List Oper} {o : Oper} {a : Act} {Q : Exit → Act → World → Prop} {w : World} {B : Nat} {sv v : Value} {l m : List UInt8} (hgd : o.guard = none) (s x : Operand)
    (ho : o.op = .call { callee := .builtin .append, args := #[s, x], argTypes := #[22, 22] }) (hs : a.eval s = sv) (hown : OW B w sv l) (hx : a.eval x = v) (hv : RB w v m) (shape : v = .slice none 0 0 ∨ ∃ ad n c, v = .slice (some ad) n c)
    (hB : B ≤ w.heap.size) (hlim : l.length + m.length ≤ 140737488351232)
    (h : ∀ v' w', OW B w' v' (l ++ m) → Below B w w' → wpList Tryd.prog ops Q rest (a.put o.dst v') w') : wpList Tryd.prog ops Q (o :: rest) a w := by
  obtain ⟨i0, hi, hz0, hz1, hz2⟩ := info_parts info5
  rcases shape with rfl | ⟨ad, n, c, rfl⟩
  · have hm : m = [] := by
      obtain ⟨a', c', he, _⟩ := hv
      cases m with
      | nil => rfl
      | cons _ _ => simp at he
    subst hm
    exact wpList_append_own_none hgd s x 22 ho B 5 i0 1 Tryd.underlying22 hi sv l.length (Lib.byteCells l) hs hown hx (h sv w (by rw [List.append_nil]; exact hown) (Below.refl _ _))
  · obtain ⟨a', c', he, _, hcell⟩ := hv
    cases he
    refine wpList_append_own w hgd s x 22 ho B 5 i0 _ 1 1 Tryd.underlying22 hi hz0 hz1 hz2 rfl (by omega) sv l.length (Lib.byteCells l) hs hown ad m.length c (Lib.byteCells m) hx (by simp [Lib.byteCells]) (fun j u hu => ?_) (fun u hu => ?_) (by unfold maxLen; omega) (by omega) hB (fun v' w' h1 h2 _ => ?_)
    · have hj : j < m.length := by
        rcases Nat.lt_or_ge j m.length with h | h
        · exact h
        · rw [List.getElem?_eq_none (by simpa [Lib.byteCells] using h)] at hu; cases hu
      rcases hcell with h0 | ⟨b, o', hae, _, hc⟩
      · subst h0; simp at hj
      cases hae
      have hadd : (⟨b, o', none⟩ : Addr).add j = ⟨b, o' + j, none⟩ := by unfold Addr.add; split <;> simp_all
      have e : byt m j = m[j] := by unfold byt; simp [List.getD, List.getElem?_eq_getElem hj]
      rw [hadd, hc j hj, e]
      simpa [Lib.byteCells, List.getElem?_eq_getElem hj] using hu
    · simp [Lib.byteCells] at hu
      obtain ⟨i, _, rfl⟩ := hu
      rfl
    · refine h v' w' ?_ ((Below.refl B w).grown h2 hB (fun k hk => (World.ownsRow.lt hown k hk).1))
      rw [bc_append] at h1
      unfold OW; rw [List.length_append]; exact h1
theorem ow_nil (B : Nat) (w : World) : OW B w (.slice none 0 0) [] := World.ownsRow_nil _ _ _ _
set_option maxHeartbeats 1000000 in
theorem twin13 (v : Value) (l : List UInt8) (w : World) (h : RB w v l) (s : v = .slice none 0 0 ∨ ∃ ad n c, v = .slice (some ad) n c) (hlim : l.length ≤ 140737488351232) :
    Calls Tryd.prog 13 #[v] w fun e w' => ∃ v, e = .returned v ∧ OW w.heap.size w' v l ∧ Below w.heap.size w w' := by
  have H1 := Lib.hid h
  have S1 := Lib.hid s
  obtain ⟨a1, c1, rfl, _⟩ := h
  clear s
  go_enter Tryd.func13, Tryd.ntmps13
  go_wp2_with (at_builtin; refine append_bl (l := []) (m := l) (B := w.heap.size) (sv := .slice none 0 0) (v := .slice a1 l.length c1) rfl _ _ rfl rfl (ow_nil _ _) rfl H1.out S1.out (Nat.le_refl _) (by simp; omega) ?_; intro v8 w8 ho8 hb8; have O8 := Lib.hid (And.intro ho8 hb8); clear ho8 hb8)
  go_wp2
  go_ret
  exact ⟨_, rfl, O8.out⟩
/-- the seven cells of a span -/
def seven (w : World) (g o : Nat) (x : Vi) : Prop := w.cell? ⟨g, o, none⟩ = some (.int .i64 x.kd) ∧ w.cell? ⟨g, o + 1, none⟩ = some (.int .i64 x.fr) ∧ w.cell? ⟨g, o + 2, none⟩ = some (.int .i64 x.to) ∧ w.cell? ⟨g, o + 3, none⟩ = some (.int .i64 x.dp) ∧ w.cell? ⟨g, o + 4, none⟩ = some (.int .i64 x.up) ∧ w.cell? ⟨g, o + 5, none⟩ = some (.int .i64 x.nt) ∧ w.cell? ⟨g, o + 6, none⟩ = some (.string x.ky)
theorem seven.keep {w w' : World} {g o : Nat} {x : Vi} (h : seven w g o x) (hb : w'.heap[g]? = w.heap[g]?) : seven w' g o x := by
  obtain ⟨c0, c1, c2, c3, c4, c5, c6⟩ := h
  exact ⟨(World.cell?_of_block (w := w) hb).trans c0, (World.cell?_of_block (w := w) hb).trans c1, (World.cell?_of_block (w := w) hb).trans c2, (World.cell?_of_block (w := w) hb).trans c3, (World.cell?_of_block (w := w) hb).trans c4, (World.cell?_of_block (w := w) hb).trans c5, (World.cell?_of_block (w := w) hb).trans c6⟩
/-- a list of spans in memory -/
def RSp (w : World) (v : Value) (l : List Vi) : Prop := ∃ a c, v = .slice a l.length c ∧ (l = [] ∨ ∃ g, a = some ⟨g, 0, none⟩ ∧ g < w.heap.size ∧ ∀ i x, l[i]? = some x → seven w g (i * 7) x)
theorem RSp.keep {w w' : World} {v : Value} {l : List Vi} (h : RSp w v l) (hb : Below w.heap.size w w') : RSp w' v l := by
  obtain ⟨a, c, rfl, h⟩ := h
  refine ⟨a, c, rfl, ?_⟩
  rcases h with h | ⟨g, h1, h2, h3⟩
  · exact .inl h
  · exact .inr ⟨g, h1, Nat.lt_of_lt_of_le h2 hb.size, fun i x hi => (h3 i x hi).keep (hb.block g h2)⟩
theorem RSp.nil (w : World) : RSp w (.slice none 0 0) [] := ⟨none, 0, rfl, .inl rfl⟩
theorem RSp.of_own {w : World} {B : Nat} {v : Value} {l : List Vi} {n : Nat} {xs : List Value} (hn : n = l.length) (hx : xs = spW l) (h : w.ownsRow B 45 7 v n xs) : RSp w v l := by
  subst hn hx
  obtain ⟨_, h⟩ := h
  rcases h with ⟨rfl, h0⟩ | ⟨g, cap, cur, rfl, hB, hg, hc, hm, hs, ht⟩
  · obtain rfl : l = [] := List.eq_nil_of_length_eq_zero h0
    exact RSp.nil w
  · refine ⟨_, cap, rfl, .inr ⟨g, rfl, (show blk w g 45 cur from hg).lt, fun i x hi => ?_⟩⟩
    have hil : i < l.length := (List.getElem?_eq_some_iff.1 hi).1
    have key : ∀ j, j < 7 → w.cell? ⟨g, i * 7 + j, none⟩ = (Vi.sp x)[j]? := fun j hj => by
      rw [(show blk w g 45 cur from hg).cell, ← spW_at l i j x hi hj, ← ht, List.getElem?_take_of_lt (by omega), Array.getElem?_toList]
    exact ⟨key 0 (by omega), key 1 (by omega), key 2 (by omega), key 3 (by omega), key 4 (by omega), key 5 (by omega), key 6 (by omega)⟩
set_option maxRecDepth 10000 in
set_option maxHeartbeats 2000000 in
theorem spanSame30 (x : Vi) (w : World) : Calls Tryd.prog 30 #[.agg (Vi.sp x).toArray, .agg (Vi.sp x).toArray] w fun e w' => e = .returned (.bool true) ∧ Below w.heap.size w w' := by
  obtain ⟨a, b, c, d, e, f, k, _, _⟩ := x
  show Calls Tryd.prog 30 #[.agg #[.int .i64 a, .int .i64 b, .int .i64 c, .int .i64 d, .int .i64 e, .int .i64 f, .string k], .agg #[.int .i64 a, .int .i64 b, .int .i64 c, .int .i64 d, .int .i64 e, .int .i64 f, .string k]] w _
  go_enter Tryd.func30, Tryd.ntmps30
  go_wp2
  go_ret
  exact ⟨rfl, ((Below.refl _ _).alloc (Nat.le_refl _) _).alloc (by simp) _⟩
set_option maxRecDepth 10000 in
set_option maxHeartbeats 2000000 in
theorem spansSame16 (v1 v2 : Value) (l : List Vi) (w : World) (hl : l.length ≤ 140737488351232) (h1 : RSp w v1 l) (h2 : RSp w v2 l) :
    Calls Tryd.prog 16 #[v1, v2] w fun e w' => e = .returned (.bool true) ∧ Below w.heap.size w w' := by
  obtain ⟨a1, c1, rfl, h1⟩ := h1
  obtain ⟨a2, c2, rfl, h2⟩ := h2
  have HH := Lib.hid (And.intro h1 h2)
  clear h1 h2
  generalize hn : l.length = n at *
  have HN := Lib.hid hn
  clear hn
  go_enter Tryd.func16, Tryd.ntmps16
  go_wp2
  go_loopw [5] (fun t wr => ∃ k : Nat, k ≤ n ∧ t = .int .i64 k ∧ Hid (Below w.heap.size w wr)) (fun t _ => n - (intOf t).toNat)
  case atStart => exact ⟨0, Nat.zero_le _, rfl, Lib.hid (Below.refl _ _)⟩
  case round =>
    obtain ⟨k, hk, rfl, HB⟩ := hrel
    by_cases hlt : k < n
    · obtain ⟨h1, h2⟩ := HH.out
      rcases h1 with h | ⟨g1, rfl, hg1, h1⟩
      · have := HN.out; rw [h] at this; simp at this; omega
      rcases h2 with h | ⟨g2, rfl, hg2, h2⟩
      · have := HN.out; rw [h] at this; simp at this; omega
      obtain ⟨x, hx⟩ : ∃ x, l[k]? = some x := ⟨_, List.getElem?_eq_getElem (by rw [HN.out]; exact hlt)⟩
      have HS : Hid (∀ w', Below w.heap.size w w' → seven w' g1 (k * 7) x ∧ seven w' g2 (k * 7) x) := Lib.hid (fun w' hb => ⟨(h1 k x hx).keep (hb.block _ hg1), (h2 k x hx).keep (hb.block _ hg2)⟩)
      obtain ⟨s1, s2⟩ := HS.out wr HB.out
      have k0 : (0 : Int) ≤ (k : Int) := by omega
      have k1 : (k : Int) < (n : Int) := by omega
      clear h1 h2 hx HH HN
      go_wp2_with fail
      refine wp_region_held_drew (S := fun w' => seven w' g1 (k * 7) x ∧ seven w' g2 (k * 7) x) (by kernel_rfl) (⟨s1, s2⟩) (fun hHeld => ?_)
      refine wpAnyH_take (i := 0) (v := .slice (some ⟨g1, 0, none⟩) n c1) rfl (by kernel_rfl) (by kernel_rfl) (by kernel_rfl) (fun _ _ _ h => h) (Or.inl ⟨by rfl, fun w hw => by go_simp⟩) hHeld ?_
      simp only [Act.put, List.getElem_toArray, List.getElem_cons_zero, List.setIfInBounds_toArray, List.set_cons_zero, List.set_cons_succ]
      refine wpAnyH_take (i := 1) (v := .int .i64 k) rfl (by kernel_rfl) (by kernel_rfl) (by kernel_rfl) (fun _ _ _ h => h) (Or.inl ⟨by rfl, fun w hw => by go_simp⟩) hHeld ?_
      simp only [Act.put, List.getElem_toArray, List.getElem_cons_zero, List.getElem_cons_succ, List.setIfInBounds_toArray, List.set_cons_zero, List.set_cons_succ]
      refine wpAnyH_take (i := 2) (v := .pointer (some ⟨g1, k * 7, none⟩)) rfl (by kernel_rfl) (by kernel_rfl) (by kernel_rfl) (fun _ _ _ h => h) (Or.inl ⟨by rfl, fun w hw => by go_simp⟩) hHeld ?_
      simp only [Act.put, List.getElem_toArray, List.getElem_cons_zero, List.getElem_cons_succ, List.setIfInBounds_toArray, List.set_cons_zero, List.set_cons_succ]
      refine wpAnyH_take (i := 3) (v := .agg (Vi.sp x).toArray) rfl (by kernel_rfl) (by kernel_rfl) (by kernel_rfl) (fun _ _ _ h => h) (Or.inl ⟨by rfl, fun w hw => by obtain ⟨c0, c1, c2, c3, c4, c5, c6⟩ := hw.1; unfold Vi.sp; go_simp⟩) hHeld ?_
      simp only [Act.put, List.getElem_toArray, List.getElem_cons_zero, List.getElem_cons_succ, List.setIfInBounds_toArray, List.set_cons_zero, List.set_cons_succ]
      refine wpAnyH_take (i := 4) (v := .slice (some ⟨g2, 0, none⟩) n c2) rfl (by kernel_rfl) (by kernel_rfl) (by kernel_rfl) (fun _ _ _ h => h) (Or.inl ⟨by rfl, fun w hw => by go_simp⟩) hHeld ?_
      simp only [Act.put, List.getElem_toArray, List.getElem_cons_zero, List.getElem_cons_succ, List.setIfInBounds_toArray, List.set_cons_zero, List.set_cons_succ]
      refine wpAnyH_take (i := 5) (v := .int .i64 k) rfl (by kernel_rfl) (by kernel_rfl) (by kernel_rfl) (fun _ _ _ h => h) (Or.inl ⟨by rfl, fun w hw => by go_simp⟩) hHeld ?_
      simp only [Act.put, List.getElem_toArray, List.getElem_cons_zero, List.getElem_cons_succ, List.setIfInBounds_toArray, List.set_cons_zero, List.set_cons_succ]
      refine wpAnyH_take (i := 6) (v := .pointer (some ⟨g2, k * 7, none⟩)) rfl (by kernel_rfl) (by kernel_rfl) (by kernel_rfl) (fun _ _ _ h => h) (Or.inl ⟨by rfl, fun w hw => by go_simp⟩) hHeld ?_
      simp only [Act.put, List.getElem_toArray, List.getElem_cons_zero, List.getElem_cons_succ, List.setIfInBounds_toArray, List.set_cons_zero, List.set_cons_succ]
      refine wpAnyH_take (i := 7) (v := .agg (Vi.sp x).toArray) rfl (by kernel_rfl) (by kernel_rfl) (by kernel_rfl) (fun _ _ _ h => h) (Or.inl ⟨by rfl, fun w hw => by obtain ⟨c0, c1, c2, c3, c4, c5, c6⟩ := hw.2; unfold Vi.sp; go_simp⟩) hHeld ?_
      simp only [Act.put, List.getElem_toArray, List.getElem_cons_zero, List.getElem_cons_succ, List.setIfInBounds_toArray, List.set_cons_zero, List.set_cons_succ]
      refine wpAnyH_ready (rs := [8]) (by kernel_rfl) (by simp) ?_
      refine AllReadyH.cons (o := _) rfl (fun K hK => ?_) AllReadyH.nil
      go_simp
      refine (spanSame30 x wr.drew).mono ?_
      rintro e w' ⟨rfl, hb⟩
      have HB2 : Hid (Below w.heap.size w w') := ⟨hb.os.trans HB.out.os, hb.tape.trans HB.out.tape, hb.output.trans HB.out.output, Nat.le_trans HB.out.size hb.size, fun q hq => (hb.block q (Nat.lt_of_lt_of_le hq HB.out.size)).trans (HB.out.block q hq)⟩
      clear hb
      go_wp2_with fail
      refine hK.out _ _ (⟨(HS.out w' HB2.out).1, (HS.out w' HB2.out).2⟩) (fun hHeld => ?_)
      clear hK K
      refine wpAnyH_take (i := 9) (v := .bool false) rfl (by kernel_rfl) (by kernel_rfl) (by kernel_rfl) (fun _ _ _ h => h) (Or.inl ⟨by rfl, fun w hw => by go_simp⟩) hHeld ?_
      simp only [Act.put, List.getElem_toArray, List.getElem_cons_zero, List.getElem_cons_succ, List.setIfInBounds_toArray, List.set_cons_zero, List.set_cons_succ]
      refine wpAnyH_done (by kernel_rfl) ?_ _
      go_wp2
      go_roundw
      case rel => exact ⟨k + 1, by omega, by go_num, HB2⟩
      case measure => simp [intOf]; omega
    · go_wp2
      go_ret
      exact ⟨rfl, HB.out⟩
end Go.Proofs.YtdlnnnlmlaploaaDoor
namespace Go.Proofs.YtdlnnnlmlaploaaDoor
open Go.RowKit Go.Deep
theorem own_mono {w : World} {B B' k : Nat} {v : Value} {us : List Value} (hB : B' ≤ B) (h : w.ownsRow B 45 7 v k us) : w.ownsRow B' 45 7 v k us := by
  refine ⟨h.1, ?_⟩
  rcases h.2 with h | ⟨g, cap, cur, h1, h2, h3⟩
  · exact .inl h
  · exact .inr ⟨g, cap, cur, h1, Nat.le_trans hB h2, h3⟩
theorem built45u : Tryd.prog.built 45 [(4, .int .i64 (-1))] = some #[.int .i64 0, .int .i64 0, .int .i64 0, .int .i64 0, .int .i64 (-1), .int .i64 0, .string ByteArray.empty] := by kernel_rfl
set_option maxRecDepth 10000 in
set_option maxHeartbeats 2000000 in
theorem skim15 (v : Value) (b : List UInt8) (w : World) (hr : RB w v b) (hl0 : b.length ≤ 140737488351232) (hT : TB w.heap.size w) :
    Calls Tryd.prog 15 #[v] w fun e w' => ∃ sv k er, e = .returned (.tuple #[sv, .int .i64 (k : Nat), .int .i64 er]) ∧ SKA b w.heap.size w' sv k er ∧ Below w.heap.size w w' := by
  have HR := Lib.hid (And.intro hr hT)
  obtain ⟨a, c, rfl, _⟩ := hr
  clear hT
  go_enter Tryd.func15, Tryd.ntmps15
  go_wp2_with fail
  refine (decode11 _ b _ HR.out.1 hl0).mono ?_
  rintro e w2 ⟨t, x, y, k, er, rfl, hrv, hout, hb2⟩
  obtain ⟨⟨xa, xn, xc, rfl⟩, ⟨ya, yn, yc, rfl⟩⟩ := hrv.slices
  unfold vv
  have hba : Below w2.heap.size w2 (w2.alloc (Obj.cells #[.int .i64 t.k, .int .i64 t.n, .string t.s, .slice xa xn xc, .slice ya yn yc] 60)) := (Below.refl _ _).alloc (Nat.le_refl _) _
  have H3 : Hid (obj (w2.alloc (Obj.cells #[.int .i64 t.k, .int .i64 t.n, .string t.s, .slice xa xn xc, .slice ya yn yc] 60)) w2.heap.size (.int .i64 t.k) (.int .i64 t.n) (.string t.s) (.slice xa xn xc) (.slice ya yn yc) ∧
      RV (fun b => b < (w2.alloc (Obj.cells #[.int .i64 t.k, .int .i64 t.n, .string t.s, .slice xa xn xc, .slice ya yn yc] 60)).heap.size) (w2.alloc (Obj.cells #[.int .i64 t.k, .int .i64 t.n, .string t.s, .slice xa xn xc, .slice ya yn yc] 60)) t (.slice xa xn xc) (.slice ya yn yc) ∧
      Below w.heap.size w (w2.alloc (Obj.cells #[.int .i64 t.k, .int .i64 t.n, .string t.s, .slice xa xn xc, .slice ya yn yc] 60)) ∧ DOUT b t k er) :=
    ⟨heap_new _ _, RV.lift hba.size (fun q hq => hba.block q hq) (fun q hq => Nat.lt_of_lt_of_le hq hba.size) _ _ _ hrv, hb2.trans (hba.mono hb2.size), hout⟩
  clear hba hrv hout hb2
  by_cases he : er = 0
  · subst he
    obtain ⟨hbt, ⟨g1, g2, g3⟩, hlen⟩ := dout_txt H3.out.2.2.2
    obtain ⟨c0, c1, c2, c3, c4⟩ := H3.out.1.cells
    have HK : Hid (k = 0) := by
      rcases H3.out.2.2.2 with ⟨_, h, _⟩ | ⟨_, ⟨h, _⟩ | ⟨h, _⟩ | ⟨_, _, h⟩⟩
      · exact h
      · cases h
      · have := run_er h; omega
      · cases h
    have HX := Lib.hid (walk29 t (.slice xa xn xc) (.slice ya yn yc) (w2.alloc (Obj.cells #[.int .i64 t.k, .int .i64 t.n, .string t.s, .slice xa xn xc, .slice ya yn yc] 60)) (w2.alloc (Obj.cells #[.int .i64 t.k, .int .i64 t.n, .string t.s, .slice xa xn xc, .slice ya yn yc] 60)).heap.size 0 (.slice none 0 0) [] (dueS []) H3.out.2.1 g3 (vt_of_wk t _ g1) (tb_up (HR.out.2.on H3.out.2.2.1) H3.out.2.2.1.size)
      (by show 0 + _ ≤ _; rw [← hbt]; omega) (by show 0 + _ ≤ _; rw [← hbt]; omega) (by rw [← hbt]; omega) (World.ownsRow_nil _ _ _ _) (Nat.le_refl _))
    have HD := Lib.hid H3.out.2.2
    clear hbt g1 g2 g3 hlen H3
    go_wp2_with fail
    refine HX.out.mono ?_
    rintro e w4 ⟨lv, rfl, ho, hn⟩
    obtain ⟨la, lc, rfl⟩ := ownForm ho
    have HZ : Hid (w4.ownsRow (w2.alloc (Obj.cells #[.int .i64 t.k, .int .i64 t.n, .string t.s, .slice xa xn xc, .slice ya yn yc] 60)).heap.size 45 7 _ _ _ ∧ Below w.heap.size w w4) := ⟨ho, HD.out.1.trans ⟨hn.os, hn.tape, hn.output, hn.size, fun q hq => hn.block q (Nat.lt_of_lt_of_le hq HD.out.1.size) (fun e => by cases e)⟩⟩
    clear ho hn HX c0 c1 c2 c3 c4
    go_wp2
    go_ret3
    refine ⟨_, 0, 0, rfl, ⟨t, by have := HK.out; subst this; exact HD.out.2, .inr ⟨rfl, ?_⟩⟩, HZ.out.2⟩
    have := HZ.out.1
    rw [Nat.zero_add, List.nil_append] at this
    exact own_mono HD.out.1.size this
  · have he' : (er == 0) = false := beq_eq_false_iff_ne.2 he
    go_wp2
    go_ret3
    exact ⟨_, k, er, rfl, ⟨t, H3.out.2.2.2, .inl ⟨he, rfl⟩⟩, H3.out.2.2.1⟩
end Go.Proofs.YtdlnnnlmlaploaaDoor
namespace Go.Proofs.YtdlnnnlmlaploaaDoor
open Go.RowKit Go.Deep
def SL (t : T) (er : Int) : List Vi := if er = 0 then (walkT t 0 (dueS [])).map Sp.v else []
theorem SKA.rsp {b : List UInt8} {B : Nat} {w : World} {v : Value} {k : Nat} {er : Int} (h : SKA b B w v k er) : ∃ t, DOUT b t k er ∧ RSp w v (SL t er) ∧ (SL t er).length ≤ 140737488351232 := by
  obtain ⟨t, hd, h⟩ := h
  refine ⟨t, hd, ?_⟩
  rcases h with ⟨he, rfl⟩ | ⟨rfl, h⟩
  · unfold SL
    rw [if_neg he]
    exact ⟨RSp.nil w, Nat.zero_le _⟩
  · have e : SL t 0 = (walkT t 0 (dueS [])).map Sp.v := if_pos rfl
    obtain ⟨h1, h2, h3⟩ := dout_txt hd
    have hw := walk_len t 0 (dueS []) (vt_of_wk t _ h2.1)
    rw [← h1] at hw
    rw [e]
    exact ⟨RSp.of_own (by rw [List.length_map]; rfl) rfl h, by rw [List.length_map]; omega⟩
set_option maxRecDepth 10000 in
set_option maxHeartbeats 2000000 in
theorem skims5 (v : Value) (b : List UInt8) (w : World) (hr : RB w v b) (hs : v = .slice none 0 0 ∨ ∃ ad n c, v = .slice (some ad) n c) (hl : b.length ≤ 140737488351232) (hev : EVw w) (hT : TB w.heap.size w) :
    Calls Tryd.prog 5 #[v] w fun e w' => e = .returned (.bool true) ∧ Below w.heap.size w w' := by
  have HR := Lib.hid (And.intro hr (And.intro hs (And.intro hev hT)))
  obtain ⟨a, c, rfl, _⟩ := hr
  clear hs hev hT
  go_enter Tryd.func5, Tryd.ntmps5
  go_wp2_with fail
  refine (twin13 _ b w HR.out.1 HR.out.2.1 hl).mono ?_
  rintro e w1 ⟨v1, rfl, ho, hb1⟩
  obtain ⟨a1, c1, rfl⟩ := ho.form'
  have HO : Hid (RB w1 (.slice a1 b.length c1) b ∧ RB w1 (.slice a b.length c) b ∧ EVw w1 ∧ TB w1.heap.size w1 ∧ Below w.heap.size w w1) := ⟨ho.rb, HR.out.1.keep hb1, HR.out.2.2.1.keep hb1, tb_up (HR.out.2.2.2.on hb1) hb1.size, hb1⟩
  clear ho hb1 HR
  go_wp2_with fail
  refine (skim14 _ b _ HO.out.2.1 HO.out.2.2.1).mono ?_
  rintro e w2 ⟨sv, p, er, rfl, hsk, hb2⟩
  obtain ⟨k, rfl, hsk2⟩ := SKO.out hsk
  obtain ⟨t, hd, hrs, hsl⟩ := hsk2.rsp
  have H2 : Hid (RB w2 (.slice a1 b.length c1) b ∧ RB w2 (.slice a b.length c) b ∧ TB w2.heap.size w2 ∧ Below w.heap.size w w2 ∧ RSp w2 sv (SL t er) ∧ DOUT b t k er ∧ (SL t er).length ≤ 140737488351232) := by
    obtain ⟨q1, q2, q3, q4, q5⟩ := HO.out
    exact ⟨q1.keep hb2, q2.keep hb2, tb_up (q4.on hb2) hb2.size, q5.trans (hb2.mono q5.size), hrs, hd, hsl⟩
  clear HO hsk hsk2 hd hrs hsl hb2
  go_wp2_with fail
  refine (skim15 _ b _ H2.out.1 hl H2.out.2.2.1).mono ?_
  rintro e w3 ⟨sv', k', er', rfl, hsk, hb3⟩
  obtain ⟨t', hd, hrs, _⟩ := hsk.rsp
  obtain ⟨rfl, rfl, rfl⟩ := DOUT.unique H2.out.2.2.2.2.2.1 hd
  have H3 : Hid (RB w3 (.slice a1 b.length c1) b ∧ RB w3 (.slice a b.length c) b ∧ Below w.heap.size w w3 ∧ RSp w3 sv (SL t er) ∧ RSp w3 sv' (SL t er) ∧ (SL t er).length ≤ 140737488351232) := by
    obtain ⟨q1, q2, q3, q4, q5, q6, q7⟩ := H2.out
    exact ⟨q1.keep hb3, q2.keep hb3, q4.trans (hb3.mono q4.size), q5.keep hb3, hrs, q7⟩
  clear H2 hsk hd hrs hb3
  go_wp2_with fail
  refine (spansSame16 _ _ _ _ H3.out.2.2.2.2.2 H3.out.2.2.2.1 H3.out.2.2.2.2.1).mono ?_
  rintro e w4 ⟨rfl, hb4⟩
  have H4 : Hid (RB w4 (.slice a1 b.length c1) b ∧ RB w4 (.slice a b.length c) b ∧ Below w.heap.size w w4) := by
    obtain ⟨q1, q2, q3, _⟩ := H3.out
    exact ⟨q1.keep hb4, q2.keep hb4, q3.trans (hb4.mono q3.size)⟩
  clear H3 hb4
  go_wp2_with fail
  refine (same9 _ _ b _ hl H4.out.2.1 H4.out.1).mono ?_
  rintro e w6 ⟨rfl, nq, rfl⟩
  go_wp2
  go_ret
  have h := H4.out.2.2
  exact ⟨rfl, ⟨h.os, h.tape, h.output, h.size, h.block⟩⟩
end Go.Proofs.YtdlnnnlmlaploaaDoor
