import Derived.Test.YtjhnkdhbjpddcaaDoorCount
import Derived.Test.YtjhnkdhbjpddcaaDoorInts
import Derived.Test.YtjhnkdhbjpddcaaDoorOpenR
import Derived.Maps.AppendAt
import Derived.RangeFuncBox
namespace Go.Proofs.YtjhnkdhbjpddcaaDoor
open Go.RowKit Go.Shelf
attribute [local go_sem] Oper.semAt_some
/-- the set places as numbers -/
def onZ (l : List UInt8) : List Int := (on1 l (8 * l.length)).map (fun x => (x.1 : Int))
theorem KG.app {g C n₀ : Nat} {W w1 : World} {v v' : Value} {k : Nat} {xs : List Value} {tmp : Obj} (hrow : W.ownsRow n₀ 3 1 v k xs) (hgrow : (W.alloc tmp).grownBy w1 v.ownBlock) (h0 : C ≠ 0) (hg : C ≠ g) (hn : 0 < n₀) (hgn : g < n₀) : KG g W (w1.setCell ⟨C, 0, none⟩ v') := by
  have hz : W.heap.size ≤ w1.heap.size := Nat.le_trans (by simp) hgrow.size
  refine KG.trans ⟨hz, fun k hk hl => ?_⟩ (KG.set v' h0 hg)
  rw [hgrow.block k (by simp; omega) (fun e => ?_), Below.heap_alloc W tmp k hl]
  have := (hrow.lt k e.symm).1
  rcases hk with rfl | rfl <;> omega
theorem rowMono {B B' e size : Nat} {w : World} {v : Value} {k : Nat} {xs : List Value} (h : w.ownsRow B e size v k xs) (hb : B' ≤ B) : w.ownsRow B' e size v k xs := by
  refine ⟨h.1, ?_⟩
  rcases h.2 with h1 | ⟨g, cap, cur, h1, h2, h3⟩
  · exact .inl h1
  · exact .inr ⟨g, cap, cur, h1, Nat.le_trans hb h2, h3⟩
set_option maxRecDepth 100000 in
set_option maxHeartbeats 2000000 in
theorem ones13 (n : Int) (h0 : -9223372036854775808 ≤ n) (h1 : n ≤ 9223372036854775807) (v : Value) (l : List UInt8) (w : World) (hr : RB w v l) (hm : MT w) (hl : l.length ≤ 140737488351232) (hck : ck n l = 0) :
    Calls Tryd.prog 5 #[.int .i64 n, v] w fun e w' => ∃ v', e = .returned (.tuple #[v', .int .i64 0]) ∧ OZ w.heap.size w' v' (onZ l) ∧ Below w.heap.size w w' := by
  refine (callsIn_wide (n := 6)).1 ?_
  obtain ⟨i0, hi, hz0, hz1, hz2⟩ := info_parts info3
  have HC : Hid (Calls Tryd.prog 8 #[.int .i64 n, v] w fun e w' => e = .returned (.int .i64 (ck n l)) ∧ ∃ nq, w' = w.drewN nq) := check10 n h0 h1 v l w hr hm hl
  rw [hck] at HC
  have HR : Hid (RB w v l ∧ MT w ∧ ck n l = 0) := ⟨hr, hm, hck⟩
  obtain ⟨a, c, rfl, _⟩ := hr
  clear hm hck
  refine callsIn_of_wp_marks Tryd.func5 rfl trivial ?_ rfl
  simp only [Tryd.ntmps5, List.size_toArray, List.length_cons, List.length_nil, Nat.reduceAdd, Nat.reduceSub, Array.replicate_succ, Array.replicate_zero, List.push_toArray, List.append_toArray, List.nil_append, List.cons_append]
  gi_wp2_with (refine ⟨trivial, ?_⟩; gi_at_call 8; refine (callsIn_wide.2 HC.out).mono ?_; rintro e w1 ⟨rfl, hw⟩)
  have HF : Hid (RB w1 (.slice a l.length c) l ∧ MT w1 ∧ Below w.heap.size w w1) := by
    obtain ⟨nq, rfl⟩ := hw
    exact ⟨HR.out.1.keep (belowDrew _ _), HR.out.2.1.keep (belowDrew _ _), belowDrew _ _⟩
  clear hw HC
  gi_wp2
  refine ⟨trivial, ?_⟩
  have hbA : Below w1.heap.size w1 (w1.alloc (Obj.cells #[.slice none 0 0] 26)) := (Below.refl _ _).alloc (Nat.le_refl _) _
  have HA : Hid (RB (w1.alloc (Obj.cells #[.slice none 0 0] 26)) (.slice a l.length c) l ∧ MT (w1.alloc (Obj.cells #[.slice none 0 0] 26)) ∧ Boxed (w1.alloc (Obj.cells #[.slice none 0 0] 26)) w1.heap.size 26 (.slice none 0 0) ∧ Below w.heap.size w (w1.alloc (Obj.cells #[.slice none 0 0] 26)) ∧ (w1.alloc (Obj.cells #[.slice none 0 0] 26)).heap.size = w1.heap.size + 1 ∧ 0 < w1.heap.size ∧ w.heap.size ≤ w1.heap.size) :=
    ⟨HF.out.1.keep hbA, HF.out.2.1.keep hbA, Boxed.new w1 26 _, HF.out.2.2.trans (hbA.mono HF.out.2.2.size), by simp, HF.out.2.1.1, HF.out.2.2.size⟩
  clear hbA HF
  generalize w1.alloc (Obj.cells #[.slice none 0 0] 26) = wA at *
  generalize w1.heap.size = C at *
  refine (callsIn_wide.2 (walk26 n h0 h1 _ l _ HA.out.1 HA.out.2.1 hl HR.out.2.2)).mono ?_
  rintro e w2 ⟨r, rfl, ⟨Bs, v2, rfl, hB1, hB2, hcell, how⟩, hb2⟩
  obtain ⟨g, hv, hgB, hgl⟩ := how.split hB1 hB2
  obtain ⟨q1, q2, q3, q4, q5, q6, q7⟩ := HA.out
  have hbox : Boxed w2 C 26 (.slice none 0 0) := (hb2.block C q3.lt).trans q3
  have hmt : MT w2 := q2.keep hb2
  have hbw : Below w.heap.size w w2 := q4.trans (hb2.mono q4.size)
  have hl8 : l.length ≤ 8192 := by have := ck_ok HR.out.2.2; omega
  have hz : C < w2.heap.size := hbox.lt
  clear HA q1 q2 q3 q4 hb2 how
  gi_wp2
  refine wpIn_rangeFunc_ownF rfl (by omega) (gf := 31) (lb := #[.pointer (some ⟨Bs, 0, none⟩)]) rfl trivial (enters_of Tryd.func31 (by kernel_rfl) rfl)
    (iter35_stops Fence.wide 5 trivial rfl (by omega) Bs g v2 l hl8 w2 hB2 hcell hv hmt) KG.trans (KG.put (by omega) hgl) (Below.refl _ _) (fun _ => rfl)
    (fun pre W => (∃ v, Boxed W C 26 v ∧ W.ownsRow w2.heap.size 3 1 v pre.length (pre.map fun x => Value.int .i64 (x.1 : Int)) ∧ True) ∧ Below w.heap.size w W ∧ w2.heap.size ≤ W.heap.size)
    (fun _ _ _ => False)
    (OwnFrom.and (Own.from (holdsRow_own w2.heap.size C 26 3 1 (fun pre : List Pl => pre.length) (fun pre => pre.map fun x => Value.int .i64 (x.1 : Int)) (fun _ _ => True)) _) (OwnFrom.and (ownFrom_below (Nat.le_refl _) hbw.size) (fun s W W' row h hg _ => Nat.le_trans h hg.size)))
    (fun _ _ _ _ _ hs _ _ => hs)
    ⟨⟨_, hbox, World.ownsRow_nil _ _ _ _, trivial⟩, hbw, Nat.le_refl _⟩
    (fun x => { tmps := #[.int .i64 n, .slice a l.length c, undef, undef, .slice none 0 0, .int .i64 0, .int .i64 0, .pointer (some ⟨C, 0, none⟩), .int .i64 (x.1 : Int), .int .i64 n, .slice a l.length c, .int .i64 0, .int .i64 0, .bool false, undef, .int .i64 n, .slice a l.length c, .func (.func 31) #[] #[.pointer (some ⟨Bs, 0, none⟩)], .int .i64 (x.1 : Int), undef, undef, undef, undef, undef], defers := [] }) ?assign ?body ?done ?stop
  case assign =>
    intro lp x W K hK
    gi_wp2
    exact hK
  case body =>
    rintro lp pre x W ⟨⟨v, hv, hrow, _⟩, hB, hsz⟩ hlt
    have hvc := hv.cell
    gi_wp2_with (gi_at_builtin; refine wpListIn_append_own _ rfl _ _ 26 rfl w2.heap.size 3 i0 _ 1 8 Tryd.underlying26 hi hz0 hz1 hz2 rfl (by decide) _ _ _ rfl (hrow.alloc _) ⟨W.heap.size, 0, none⟩ 1 1 [.int .i64 (x.1 : Int)] rfl rfl (cell_one_new _ _ _) (by simp [Value.oneCell']) (by unfold maxLen; omega) (by omega) (by simp; omega) ?_; (
      intro v' w1 hown' hgrow _
      obtain ⟨g', cap', rfl⟩ := ownsRow_succ hown'
      have hv1 := (hv.alloc (Obj.cells #[.int .i64 (x.1 : Int)] 3)).kept hgrow (hv.not_row (by decide) hrow)
      have hc1 := hv1.cell
      have hf1 := hv1.frozen))
    obtain ⟨_, hv2, _, hk2, hb2⟩ := hv.appended (n₀ := C) (by decide) (rowMono hrow (by omega)) (by omega) (Nat.le_refl _) (rowMono hown' (by omega)) hgrow
    have hr2 := hown'.kept (grownBy_setCell' w1 C (.slice (some ⟨g', 0, none⟩) (pre.length + 1) cap')) (.inr (hv1.not_row (by decide) hown').symm)
    refine ⟨hk2, KG.app hrow hgrow (by omega) (by omega) (by omega) hgl, ⟨_, hv2, ?_, trivial⟩, hB.trans (hb2.mono q7), Nat.le_trans hsz hb2.size⟩
    simpa using hr2
  case done =>
    rintro D ys W hD rfl ⟨⟨v, hv, hrow, _⟩, hB, hsz⟩ hK
    have hvc := hv.cell
    obtain ⟨a', c', rfl⟩ : ∃ a' c', v = .slice a' (on1 l (8 * l.length)).length c' := by
      rcases hrow.2 with ⟨rfl, h⟩ | ⟨g', cap, _, rfl, _⟩
      · exact ⟨none, 0, by rw [h]⟩
      · exact ⟨_, _, rfl⟩
    gi_wp2
    refine ⟨by simp, .inl ⟨_, _, rfl, run_takeDeferred hK, ?_⟩⟩
    refine ⟨_, results_tmp2 rfl _ _ _, _, rfl, ?_, hB.trans (belowK_b (w := w) (Nat.le_refl _) W D _ _ (by have := hbw.size; omega) hK rfl rfl)⟩
    have := rowMono (B' := w.heap.size) (ownsRow_putObj hrow (.deferred none) hK rfl) hbw.size
    unfold OZ onZ
    rw [List.length_map, List.map_map]
    exact this
  case stop =>
    rintro D c pre W _ _ h _
    exact h.elim
end Go.Proofs.YtjhnkdhbjpddcaaDoor
