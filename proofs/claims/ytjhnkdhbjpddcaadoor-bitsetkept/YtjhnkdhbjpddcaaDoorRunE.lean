import Derived.Test.YtjhnkdhbjpddcaaDoorRunD
namespace Go.Proofs.YtjhnkdhbjpddcaaDoor
open Go.RowKit Go.Shelf
attribute [local go_sem] Oper.semAt_some
theorem own_setR {w : World} {B e s n g i cap : Nat} {u : Value} {us : List Value} (h : w.ownsRow B e s (.slice (some ⟨g, 0, none⟩) n cap) n us) (_hi : i < n * s) : (w.setCell ⟨g, i, none⟩ u).ownsRow B e s (.slice (some ⟨g, 0, none⟩) n cap) n (us.set i u) := by
  refine ⟨by rw [List.length_set]; exact h.1, ?_⟩
  rcases h.2 with ⟨h', _⟩ | ⟨g', cap', cur, h', h2, h3, h4, h5, h6, h7⟩
  · simp at h'
  · simp only [Value.slice.injEq, Option.some.injEq, Addr.mk.injEq, and_true, true_and] at h'
    obtain ⟨rfl, rfl⟩ := h'
    refine .inr ⟨_, cap, cur.setIfInBounds i u, rfl, h2, by simp [World.setCell, Array.getElem?_modify, h3], h4, h5, by simpa using h6, ?_⟩
    rw [← h7]
    simp [List.take_set]
theorem own_frozen {w : World} {B e s n g i cap : Nat} {us : List Value} (h : w.ownsRow B e s (.slice (some ⟨g, 0, none⟩) n cap) n us) : w.frozen? ⟨g, i, none⟩ = false := by
  rcases h.2 with ⟨h', _⟩ | ⟨g', cap', cur, h', h2, h3, _⟩
  · simp at h'
  · simp only [Value.slice.injEq, Option.some.injEq, Addr.mk.injEq, and_true, true_and] at h'
    obtain ⟨rfl, rfl⟩ := h'
    simp [World.frozen?, h3]
theorem flat_set (r : List (Nat × Nat)) (a b d : Nat) : (flat (r ++ [(a, b)])).set (r.length * 2 + 1) (.int .i64 (d : Int)) = flat (r ++ [(a, d)]) := by
  rw [flat_snoc, flat_snoc, List.set_append_right _ _ (by rw [flat_len]; omega), flat_len]
  simp
theorem boxed_other {W : World} {B : Nat} {t : TypeId} {v : Value} (h : Boxed W B t v) (g i : Nat) (u : Value) (hne : g ≠ B) : Boxed (W.setCell ⟨g, i, none⟩ u) B t v := (Below.heap_setCell _ _ _ _ (by intro e; exact hne e.symm)).trans h
theorem own_block {w : World} {B e s n g cap : Nat} {us : List Value} (_h : w.ownsRow B e s (.slice (some ⟨g, 0, none⟩) n cap) n us) : (Value.slice (some ⟨g, 0, none⟩) n cap).ownBlock = some g := rfl
theorem KG.setAt {g C i : Nat} {W : World} (v : Value) (h0 : C ≠ 0) (hg : C ≠ g) : KG g W (W.setCell ⟨C, i, none⟩ v) :=
  ⟨by simp [World.setCell], fun k hk _ => Below.heap_setCell _ _ _ _ (by rcases hk with rfl | rfl <;> (intro e; first | exact h0 e.symm | exact hg e.symm))⟩
theorem KG.app2 {g C n₀ : Nat} {W w1 : World} {v v' : Value} {k : Nat} {xs : List Value} {tmp : Obj} (hrow : W.ownsRow n₀ 55 2 v k xs) (hgrow : (W.alloc tmp).grownBy w1 v.ownBlock) (h0 : C ≠ 0) (hg : C ≠ g) (hn : 0 < n₀) (hgn : g < n₀) : KG g W (w1.setCell ⟨C, 0, none⟩ v') := by
  have hz : W.heap.size ≤ w1.heap.size := Nat.le_trans (by simp) hgrow.size
  refine KG.trans ⟨hz, fun k hk hl => ?_⟩ (KG.set v' h0 hg)
  rw [hgrow.block k (by simp; omega) (fun e => ?_), Below.heap_alloc W tmp k hl]
  have := (hrow.lt k e.symm).1
  rcases hk with rfl | rfl <;> omega
theorem rp_len (p : List Nat) : (rp p).1.length ≤ p.length := by
  by_cases hp : p = []
  · subst hp; simp [rp]
  · obtain ⟨p', y, rfl⟩ : ∃ p' y, p = p' ++ [y] := ⟨p.dropLast, p.getLast hp, (List.dropLast_concat_getLast hp).symm⟩
    obtain ⟨r, a, b, e1, e2, e3⟩ := rp_last p' y
    rw [e1]; simp; omega
theorem rp_end (p : List Nat) (x : Nat) (h : (x : Int) = (rp p).2) : ∃ r a b, (rp p).1 = r ++ [(a, b)] ∧ b ≤ p.length := by
  by_cases hp : p = []
  · subst hp; simp [rp] at h
  · obtain ⟨p', y, rfl⟩ : ∃ p' y, p = p' ++ [y] := ⟨p.dropLast, p.getLast hp, (List.dropLast_concat_getLast hp).symm⟩
    obtain ⟨r, a, b, e1, e2, e3⟩ := rp_last p' y
    exact ⟨r, a, b + 1, e1, by simp; omega⟩
theorem cells_two_new (W : World) (a b : Value) (t : TypeId) : ∀ j u, [a, b][j]? = some u → (W.alloc (.cells #[a, b] t)).cell? ((⟨W.heap.size, 0, none⟩ : Addr).add j) = some u := by
  intro j u hu
  have hn := World.alloc_heap_new W (.cells #[a, b] t)
  generalize W.alloc (.cells #[a, b] t) = W' at *
  generalize W.heap.size = B at *
  match j, hu with
  | 0, hu => simp at hu; subst hu; simp [World.cell?, Addr.add, hn]
  | 1, hu => simp at hu; subst hu; simp [World.cell?, Addr.add, hn]
set_option maxRecDepth 100000 in
set_option maxHeartbeats 2000000 in
theorem runs17 (n : Int) (h0 : -9223372036854775808 ≤ n) (h1 : n ≤ 9223372036854775807) (v : Value) (l : List UInt8) (w : World) (hr : RB w v l) (hm : MT w) (hl : l.length ≤ 140737488351232) (hck : ck n l = 0) :
    Calls Tryd.prog 26 #[.int .i64 n, v] w fun e w' => ∃ v', e = .returned (.tuple #[v', .int .i64 0]) ∧ OU w.heap.size w' v' (rp (pls (on1 l (8 * l.length)))).1 ∧ Below w.heap.size w w' := by
  refine (callsIn_wide (n := 6)).1 ?_
  obtain ⟨i0, hi, hz0, hz1, hz2⟩ := info_parts info60
  have HC : Hid (Calls Tryd.prog 8 #[.int .i64 n, v] w fun e w' => e = .returned (.int .i64 (ck n l)) ∧ ∃ nq, w' = w.drewN nq) := check10 n h0 h1 v l w hr hm hl
  rw [hck] at HC
  have HR : Hid (RB w v l ∧ MT w ∧ ck n l = 0) := ⟨hr, hm, hck⟩
  obtain ⟨a, c, rfl, _⟩ := hr
  clear hm hck
  refine callsIn_of_wp_marks Tryd.func26 rfl trivial ?_ rfl
  simp only [Tryd.ntmps26, List.size_toArray, List.length_cons, List.length_nil, Nat.reduceAdd, Nat.reduceSub, Array.replicate_succ, Array.replicate_zero, List.push_toArray, List.append_toArray, List.nil_append, List.cons_append]
  gi_wp2_with (refine ⟨trivial, ?_⟩; gi_at_call 8; refine (callsIn_wide.2 HC.out).mono ?_; rintro e w1 ⟨rfl, hw⟩)
  have HF : Hid (RB w1 (.slice a l.length c) l ∧ MT w1 ∧ Below w.heap.size w w1) := by
    obtain ⟨nq, rfl⟩ := hw
    exact ⟨HR.out.1.keep (belowDrew _ _), HR.out.2.1.keep (belowDrew _ _), belowDrew _ _⟩
  clear hw HC
  gi_wp2
  refine ⟨trivial, ?_⟩
  have hbA : Below w1.heap.size w1 ((w1.alloc (Obj.cells #[.slice none 0 0] 50)).alloc (Obj.cells #[.int .i64 (-1)] 3)) := ((Below.refl _ _).alloc (Nat.le_refl _) _).alloc (by simp) _
  have HA : Hid (RB ((w1.alloc (Obj.cells #[.slice none 0 0] 50)).alloc (Obj.cells #[.int .i64 (-1)] 3)) (.slice a l.length c) l ∧ MT ((w1.alloc (Obj.cells #[.slice none 0 0] 50)).alloc (Obj.cells #[.int .i64 (-1)] 3)) ∧ Boxed ((w1.alloc (Obj.cells #[.slice none 0 0] 50)).alloc (Obj.cells #[.int .i64 (-1)] 3)) w1.heap.size 50 (.slice none 0 0) ∧ Boxed ((w1.alloc (Obj.cells #[.slice none 0 0] 50)).alloc (Obj.cells #[.int .i64 (-1)] 3)) (w1.heap.size + 1) 3 (.int .i64 (-1)) ∧ Below w.heap.size w ((w1.alloc (Obj.cells #[.slice none 0 0] 50)).alloc (Obj.cells #[.int .i64 (-1)] 3)) ∧ 0 < w1.heap.size ∧ w.heap.size ≤ w1.heap.size) :=
    ⟨HF.out.1.keep hbA, HF.out.2.1.keep hbA, (Boxed.new w1 50 _).alloc _, by have := Boxed.new (w1.alloc (Obj.cells #[.slice none 0 0] 50)) 3 (.int .i64 (-1)); rwa [World.size_alloc] at this, HF.out.2.2.trans (hbA.mono HF.out.2.2.size), HF.out.2.1.1, HF.out.2.2.size⟩
  clear hbA HF
  generalize (w1.alloc (Obj.cells #[.slice none 0 0] 50)).alloc (Obj.cells #[.int .i64 (-1)] 3) = wA at *
  generalize w1.heap.size = C at *
  refine (callsIn_wide.2 (walk26 n h0 h1 _ l _ HA.out.1 HA.out.2.1 hl HR.out.2.2)).mono ?_
  rintro e w2 ⟨r, rfl, ⟨Bs, v2, rfl, hB1, hB2, hcell, how⟩, hb2⟩
  obtain ⟨g, hv, hgB, hgl⟩ := how.split hB1 hB2
  obtain ⟨q1, q2, q3, q3', q4, q6, q7⟩ := HA.out
  have hbox : Boxed w2 C 50 (.slice none 0 0) := (hb2.block C q3.lt).trans q3
  have hboe : Boxed w2 (C + 1) 3 (.int .i64 (-1)) := (hb2.block (C + 1) q3'.lt).trans q3'
  have hmt : MT w2 := q2.keep hb2
  have hbw : Below w.heap.size w w2 := q4.trans (hb2.mono q4.size)
  have hl8 : l.length ≤ 8192 := by have := ck_ok HR.out.2.2; omega
  have hz : C + 1 < w2.heap.size := hboe.lt
  have hzA := q3'.lt
  clear HA q1 q2 q3 q3' q4 hb2 how
  gi_wp2
  refine wpIn_rangeFunc_ownF rfl (by omega) (gf := 31) (lb := #[.pointer (some ⟨Bs, 0, none⟩)]) rfl trivial (enters_of Tryd.func31 (by kernel_rfl) rfl)
    (iter35_stops Fence.wide 5 trivial rfl (by omega) Bs g v2 l hl8 w2 hB2 hcell hv hmt) KG.trans (KG.put (by omega) hgl) (Below.refl _ _) (fun _ => rfl)
    (fun pre W => (∃ v, Boxed W C 50 v ∧ W.ownsRow w2.heap.size 55 2 v (rp (pls pre)).1.length (flat (rp (pls pre)).1) ∧ True) ∧ Boxed W (C + 1) 3 (.int .i64 (rp (pls pre)).2) ∧ Below w.heap.size w W ∧ w2.heap.size ≤ W.heap.size)
    (fun _ _ _ => False)
    (OwnFrom.and (Own.from (holdsRow_own w2.heap.size C 50 55 2 (fun pre : List Pl => (rp (pls pre)).1.length) (fun pre => flat (rp (pls pre)).1) (fun _ _ => True)) _) (OwnFrom.and (Own.from (fun s X Y row hv hg hrow => hv.kept hg (fun e' => by
      obtain ⟨o, ho, hc⟩ := hrow _ e'.symm
      rw [show X.heap[C + 1]? = _ from hv] at ho; cases ho; cases hc)) _) (OwnFrom.and (ownFrom_below (Nat.le_refl _) hbw.size) (fun s W W' row h hg _ => Nat.le_trans h hg.size))))
    (fun _ _ _ _ _ hs _ _ => hs)
    ⟨⟨_, hbox, World.ownsRow_nil _ _ _ _, trivial⟩, hboe, hbw, Nat.le_refl _⟩
    (fun x => { tmps := #[.int .i64 n, .slice a l.length c, undef, undef, .slice none 0 0, .int .i64 0, .int .i64 0, .pointer (some ⟨C, 0, none⟩), .pointer (some ⟨C + 1, 0, none⟩), .int .i64 (x.1 : Int), .int .i64 n, .slice a l.length c, .int .i64 0, .int .i64 0, .bool false, undef, .int .i64 n, .slice a l.length c, .func (.func 31) #[] #[.pointer (some ⟨Bs, 0, none⟩)], .int .i64 (x.1 : Int), undef, undef, undef, undef, undef, undef, undef, undef, undef, undef, undef, undef, undef, undef, undef, undef, undef, undef, undef, undef, undef], defers := [] }) ?assign ?body ?done ?stop
  case assign =>
    intro lp x W K hK
    gi_wp2
    exact hK
  case body =>
    rintro lp pre x W ⟨⟨v, hv, hrow, _⟩, hve, hB, hsz⟩ hlt
    have e0 : rp (pls (pre ++ [x])) = stp (rp (pls pre)) x.1 := by unfold pls; rw [List.map_append]; exact rp_snoc _ _
    have hpl : (pls pre).length = pre.length := by simp [pls]
    have hrl := rp_len (pls pre)
    have hre := rp_end (pls pre) x.1
    have HE0 : Hid (rp (pls (pre ++ [x])) = stp (rp (pls pre)) x.1) := e0
    clear e0
    generalize hst : rp (pls pre) = st at *
    obtain ⟨r, E⟩ := st
    clear hst
    have hxb := x.2
    have hwx : IntKind.i64.wrap ((x.1 : Int) + 1) = (x.1 : Int) + 1 := by
      have := wrap_nat' (x.1 + 1) (by omega)
      simpa using this
    have hvc := hv.cell
    have hec := hve.cell
    simp only at hrow hve hec hrl hre
    by_cases hx : (x.1 : Int) = E
    · obtain ⟨r0, p, q, rfl, hq⟩ := hre hx
      subst hx
      clear hre
      have hrow' : W.ownsRow w2.heap.size 55 2 v (r0.length + 1) (flat (r0 ++ [(p, q)])) := by rw [List.length_append] at hrow; exact hrow
      rw [List.length_append] at hrl
      obtain ⟨g', cap', rfl⟩ := ownsRow_succ hrow'
      have hgC : g' ≠ C := fun e => hv.not_row (by decide) hrow' (by rw [← e]; rfl)
      have hgE : g' ≠ C + 1 := fun e => hve.not_row (by decide) hrow' (by rw [← e]; rfl)
      have hg2 : w2.heap.size ≤ g' := (hrow'.lt g' rfl).1
      have hq2 : W.cell? ⟨g', r0.length * 2 + 1, none⟩ = some (.int .i64 (q : Int)) := by
        rw [World.ownsRow.cellAt hrow' (r0.length * 2 + 1) (by omega), flat_snoc, List.getElem?_append_right (by rw [flat_len]; omega), flat_len]
        simp
      have hfq2 := own_frozen (i := r0.length * 2 + 1) hrow'
      have hwK : IntKind.i64.wrap ((r0.length : Nat) : Int) = (r0.length : Int) := wrap_nat' _ (by simp at hrl; omega)
      have hwq : IntKind.i64.wrap ((q : Int) + 1) = (q : Int) + 1 := by
        have := wrap_nat' (q + 1) (by omega)
        simpa using this
      have hve3 := boxed_other hve g' (r0.length * 2 + 1) (.int .i64 ((q : Int) + 1)) hgE
      have hec3 := hve3.cell
      have hef3 := hve3.frozen
      clear hrow
      gi_wp2
      have hr3 := own_setR (i := r0.length * 2 + 1) (u := .int .i64 ((q : Int) + 1)) hrow' (by omega)
      have hr4 := ownsRow_setCell_other hr3 (a := ⟨C + 1, 0, none⟩) (by intro e; cases e; exact hgE rfl) (.int .i64 ((x.1 : Int) + 1))
      have hv4 := boxed_other (boxed_other hv g' (r0.length * 2 + 1) (.int .i64 ((q : Int) + 1)) hgC) (C + 1) 0 (.int .i64 ((x.1 : Int) + 1)) (by omega)
      have hve4 := hve3.set (.int .i64 ((x.1 : Int) + 1))
      have hb4 := ((Below.refl C W).setCell (p := ⟨g', r0.length * 2 + 1, none⟩) (by show C ≤ g'; omega) (.int .i64 ((q : Int) + 1))).setCell (p := ⟨C + 1, 0, none⟩) (by show C ≤ C + 1; omega) (.int .i64 ((x.1 : Int) + 1))
      refine ⟨(KeepsOthers.setCell _ _ _).trans (KeepsOthers.setCell _ _ _), (KG.setAt _ (by omega) (by omega)).trans (KG.setAt _ (by omega) (by omega)), ?_⟩
      dsimp only
      rw [HE0.out]
      unfold stp
      dsimp only
      rw [if_pos rfl, grow_snoc]
      refine ⟨⟨_, hv4, ?_, trivial⟩, hve4, hB.trans (hb4.mono q7), Nat.le_trans hsz hb4.size⟩
      rw [← flat_set r0 p q (q + 1), List.length_append]
      exact hr4
    · clear hre
      have hwK : IntKind.i64.wrap ((r.length : Nat) : Int) = (r.length : Int) := wrap_nat' _ (by omega)
      gi_wp2_with (gi_at_builtin; refine wpListIn_append_own _ rfl _ _ 50 rfl w2.heap.size 55 i0 _ 2 16 Tryd.underlying50 hi hz0 hz1 hz2 rfl (by decide) _ _ _ rfl (hrow.alloc _) ⟨W.heap.size, 0, none⟩ 1 1 [.int .i64 (x.1 : Int), .int .i64 0] rfl rfl (cells_two_new _ _ _ _) (by simp [Value.oneCell']) (by unfold maxLen; omega) (by omega) (by simp; omega) ?_; (
        intro v' w1 hown' hgrow _
        obtain ⟨g', cap', rfl⟩ := ownsRow_succ hown'
        have hv1 := (hv.alloc (Obj.cells #[.int .i64 (x.1 : Int), .int .i64 0] 55)).kept hgrow (hv.not_row (by decide) hrow)
        have hve1 := (hve.alloc (Obj.cells #[.int .i64 (x.1 : Int), .int .i64 0] 55)).kept hgrow (hve.not_row (by decide) hrow)
        have hc1 := hv1.cell
        have hf1 := hv1.frozen
        have hv2 := hv1.set (.slice (some ⟨g', 0, none⟩) (r.length + 1) cap')
        have hc2 := hv2.cell
        have hgC : g' ≠ C := fun e => hv1.not_row (by decide) hown' (by rw [← e]; rfl)
        have hgE : g' ≠ C + 1 := fun e => hve1.not_row (by decide) hown' (by rw [← e]; rfl)
        have hr2 := hown'.kept (grownBy_setCell' w1 C (.slice (some ⟨g', 0, none⟩) (r.length + 1) cap')) (.inr (hv1.not_row (by decide) hown').symm)
        have hve2 := boxed_other hve1 C 0 (.slice (some ⟨g', 0, none⟩) (r.length + 1) cap') (by omega)
        have hq2 : (w1.setCell ⟨C, 0, none⟩ (.slice (some ⟨g', 0, none⟩) (r.length + 1) cap')).cell? ⟨g', r.length * 2 + 1, none⟩ = some (.int .i64 0) := by
          rw [World.ownsRow.cellAt hr2 (r.length * 2 + 1) (by omega), List.getElem?_append_right (by rw [flat_len]; omega), flat_len]
          simp
        have hfq2 := own_frozen (i := r.length * 2 + 1) hr2
        have hve3 := boxed_other hve2 g' (r.length * 2 + 1) (.int .i64 1) hgE
        have hec3 := hve3.cell
        have hef3 := hve3.frozen))
      obtain ⟨_, _, _, hk2, hb2⟩ := hv.appended (n₀ := C) (by decide) (rowMono hrow (by omega)) (by omega) (Nat.le_refl _) (rowMono hown' (by omega)) hgrow
      have hg2 : w2.heap.size ≤ g' := (hr2.lt g' rfl).1
      have hr3 := own_setR (i := r.length * 2 + 1) (u := .int .i64 1) hr2 (by omega)
      have hr4 := ownsRow_setCell_other hr3 (a := ⟨C + 1, 0, none⟩) (by intro e; cases e; exact hgE rfl) (.int .i64 ((x.1 : Int) + 1))
      have hv4 := boxed_other (boxed_other hv2 g' (r.length * 2 + 1) (.int .i64 1) hgC) (C + 1) 0 (.int .i64 ((x.1 : Int) + 1)) (by omega)
      have hve4 := hve3.set (.int .i64 ((x.1 : Int) + 1))
      have hb4 := (hb2.setCell (p := ⟨g', r.length * 2 + 1, none⟩) (by show C ≤ g'; omega) (.int .i64 1)).setCell (p := ⟨C + 1, 0, none⟩) (by show C ≤ C + 1; omega) (.int .i64 ((x.1 : Int) + 1))
      refine ⟨(hk2.trans (KeepsOthers.setCell _ _ _)).trans (KeepsOthers.setCell _ _ _), ((KG.app2 hrow hgrow (by omega) (by omega) (by omega) hgl).trans (KG.setAt _ (by omega) (by omega))).trans (KG.setAt _ (by omega) (by omega)), ?_⟩
      dsimp only
      rw [HE0.out]
      unfold stp
      dsimp only
      rw [if_neg hx]
      refine ⟨⟨_, hv4, ?_, trivial⟩, hve4, hB.trans (hb4.mono q7), Nat.le_trans hsz hb4.size⟩
      have e1 := flat_set r x.1 0 1
      rw [flat_snoc] at e1
      rw [← e1, List.length_append]
      exact hr4
  case done =>
    rintro D ys W hD rfl ⟨⟨v, hv, hrow, _⟩, hve, hB, hsz⟩ hK
    have hvc := hv.cell
    obtain ⟨a', c', rfl⟩ : ∃ a' c', v = .slice a' (rp (pls (on1 l (8 * l.length)))).1.length c' := by
      rcases hrow.2 with ⟨rfl, h⟩ | ⟨g', cap, _, rfl, _⟩
      · exact ⟨none, 0, by rw [h]⟩
      · exact ⟨_, _, rfl⟩
    gi_wp2
    refine ⟨by simp, .inl ⟨_, _, rfl, run_takeDeferred hK, ?_⟩⟩
    refine ⟨_, results_tmp2 rfl _ _ _, _, rfl, ?_, hB.trans (belowK_b (w := w) (Nat.le_refl _) W D _ _ (by have := hbw.size; omega) hK rfl rfl)⟩
    exact rowMono (B' := w.heap.size) (ownsRow_putObj hrow (.deferred none) hK rfl) hbw.size
  case stop =>
    rintro D c pre W _ _ h _
    exact h.elim
end Go.Proofs.YtjhnkdhbjpddcaaDoor
