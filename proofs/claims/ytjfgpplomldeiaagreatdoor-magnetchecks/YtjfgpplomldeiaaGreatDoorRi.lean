import Derived.Test.YtjfgpplomldeiaaGreatDoorRh
namespace Go.Proofs.YtjfgpplomldeiaaGreatDoor
open Go.Shelf Go.RowKit Go.Deep
attribute [local go_sem] Oper.semAt_some
theorem own_keep {w w' : World} {B e sz n : Nat} {v : Value} {xs : List Value} (h : w.ownsRow B e sz v n xs) (hb : ∀ g, v.ownBlock = some g → w'.heap[g]? = w.heap[g]?) : w'.ownsRow B e sz v n xs := by
  refine ⟨h.1, ?_⟩
  rcases h.2 with h1 | ⟨g, cap, cur, rfl, h2, h3, h4⟩
  · exact .inl h1
  · exact .inr ⟨g, cap, cur, rfl, h2, (hb g (by simp [Value.ownBlock])).trans h3, h4⟩
theorem cells_gr {W W' : World} {row : Option Nat} {k : Nat} {cs : Array Value} {t : TypeId} {f : Nat × Nat} (h : W.heap[k]? = some (.cells cs t f)) (hg : W.grownBy W' row) (hr : ∀ r, row = some r → ∃ o : Obj, W.heap[r]? = some o ∧ o.isCells = false) : W'.heap[k]? = W.heap[k]? :=
  hg.block k (Array.getElem?_eq_some_iff.1 h).1 (fun e => by
    obtain ⟨o, ho, hc⟩ := hr _ e.symm
    rw [h] at ho; cases ho; cases hc)
theorem boxed_gr {W W' : World} {row : Option Nat} {B : Nat} {t : TypeId} {v : Value} (h : Boxed W B t v) (hg : W.grownBy W' row) (hr : ∀ r, row = some r → ∃ o : Obj, W.heap[r]? = some o ∧ o.isCells = false) : Boxed W' B t v := (cells_gr h hg hr).trans h
theorem own_gr {W W' : World} {row : Option Nat} {B e sz n : Nat} {v : Value} {xs : List Value} (h : W.ownsRow B e sz v n xs) (hg : W.grownBy W' row) (hr : ∀ r, row = some r → ∃ o : Obj, W.heap[r]? = some o ∧ o.isCells = false) : W'.ownsRow B e sz v n xs :=
  own_keep h (fun g e => by
    rcases h.2 with ⟨rfl, _⟩ | ⟨b, cap, cur, rfl, _, h3, _⟩
    · simp [Value.ownBlock] at e
    · obtain rfl : b = g := by simpa [Value.ownBlock] using e
      exact cells_gr h3 hg hr)
theorem keepsO_below {W W' : World} (h : Below W.heap.size W W') : KeepsOthers W W' := ⟨h.size, fun k _ hk _ => (h.block k (Array.getElem?_eq_some_iff.1 hk).1).trans hk⟩
theorem rowMono {B B' e size : Nat} {w : World} {v : Value} {k : Nat} {xs : List Value} (h : w.ownsRow B e size v k xs) (hb : B' ≤ B) : w.ownsRow B' e size v k xs := by
  refine ⟨h.1, ?_⟩
  rcases h.2 with h1 | ⟨g, cap, cur, h1, h2, h3⟩
  · exact .inl h1
  · exact .inr ⟨g, cap, cur, h1, Nat.le_trans hb h2, h3⟩
theorem own_form {B e sz n : Nat} {w : World} {v : Value} {xs : List Value} (h : w.ownsRow B e sz v n xs) : ∃ a c, v = .slice a n c := by
  rcases h.2 with ⟨rfl, h1⟩ | ⟨g, cap, cur, rfl, _⟩
  · exact ⟨none, 0, by rw [h1]⟩
  · exact ⟨_, _, rfl⟩
theorem cells_one_new (W : World) (a : Value) (t : TypeId) : ∀ j u, [a][j]? = some u → (W.alloc (.cells #[a] t)).cell? ((⟨W.heap.size, 0, none⟩ : Addr).add j) = some u := by
  intro j u hu
  have hn := World.alloc_heap_new W (.cells #[a] t)
  generalize W.alloc (.cells #[a] t) = W' at *
  generalize W.heap.size = B at *
  match j, hu with
  | 0, hu => simp at hu; subst hu; simp [World.cell?, Addr.add, hn]
set_option maxRecDepth 100000 in
set_option maxHeartbeats 4000000 in
theorem appendSeq (g : Nat) (v : Value) (l : List ByteArray) (w : World) (hl : l.length ≤ 2147483647) (hg : w.cell? ⟨g, 0, none⟩ = some v) (hr : RS (fun _ => True) w v l) :
    Calls Tryz.prog 78 #[.slice none 0 0, .func (.func 69) #[] #[.pointer (some ⟨g, 0, none⟩)]] w fun e w' => ∃ v', e = .returned v' ∧ w'.ownsRow w.heap.size 9 1 v' l.length (tsC l) ∧ Below w.heap.size w w' := by
  refine (callsIn_wide (n := 6)).1 ?_
  obtain ⟨i0, hi, hz0, hz1, hz2⟩ := info_parts info9
  have hgl : g < w.heap.size := World.block_lt_of_cell? w _ hg
  have HA : Hid (Below w.heap.size w (w.alloc (Obj.cells #[Value.slice none 0 0] 24)) ∧ Boxed (w.alloc (Obj.cells #[Value.slice none 0 0] 24)) w.heap.size 24 (.slice none 0 0) ∧ (w.alloc (Obj.cells #[Value.slice none 0 0] 24)).cell? ⟨g, 0, none⟩ = some v ∧ RS (fun b => b < w.heap.size) (w.alloc (Obj.cells #[Value.slice none 0 0] 24)) v l ∧ (w.alloc (Obj.cells #[Value.slice none 0 0] 24)).heap.size = w.heap.size + 1) :=
    ⟨(Below.refl _ _).alloc (Nat.le_refl _) _, Boxed.new w _ _, cell_alloc_old hg, hr.move (fun _ _ h => h) (by simp) (fun b _ hl => Below.heap_alloc _ _ _ hl), by simp⟩
  clear hg hr
  refine callsIn_of_wp_marks Tryz.func78 rfl trivial ?_ rfl
  simp only [Tryz.ntmps78, List.size_toArray, List.length_cons, List.length_nil, Nat.reduceAdd, Nat.reduceSub, Array.replicate_succ, Array.replicate_zero, List.push_toArray, List.append_toArray, List.nil_append, List.cons_append]
  gi_wp2
  generalize (w.alloc (Obj.cells #[Value.slice none 0 0] 24)) = wA at *
  obtain ⟨q1, q2, q3, q4, q5⟩ := HA.out
  obtain ⟨H, hH⟩ : ∃ H, w.heap.size = H := ⟨_, rfl⟩
  rw [hH] at q1 q2 q4 q5 hgl ⊢
  have HH : Hid (w.heap.size = H) := hH
  clear hH HA
  refine wpIn_rangeFunc_ownF rfl (by omega) (gf := 69) (lb := #[.pointer (some ⟨g, 0, none⟩)]) rfl trivial (enters_of Tryz.func69 (by kernel_rfl) rfl)
    (iter69_stops 5 (by omega) g H hgl v l (by omega) wA (by omega) q3 q4) KB.trans (KB.put (by omega)) (Below.refl _ _) (fun _ => rfl)
    (fun pre W => (∃ v', Boxed W H 24 v' ∧ W.ownsRow (H + 1) 9 1 v' pre.length (tsC pre)) ∧ Below H w W ∧ H + 1 ≤ W.heap.size)
    (fun _ _ _ => False)
    (fun pre X Y row hs hg hr => by
      obtain ⟨⟨v', k2, k3⟩, k6, k7⟩ := hs
      have hr' : ∀ r, row = some r → ∃ o : Obj, X.heap[r]? = some o ∧ o.isCells = false := fun r e => (hr r e).2
      exact ⟨⟨v', boxed_gr k2 hg hr', own_gr k3 hg hr'⟩, k6.grown hg (by omega) (fun k e => by have := (hr k e).1; omega), Nat.le_trans k7 hg.size⟩)
    (fun c pre X Y row hs hg hr => hs)
    ⟨⟨_, q2, World.ownsRow_nil _ _ _ _⟩, q1, by omega⟩
    (fun x => { tmps := #[.slice none 0 0, .func (.func 69) #[] #[.pointer (some ⟨g, 0, none⟩)], .pointer (some ⟨H, 0, none⟩), undef, .slice none 0 0, .string x, .func (.func 69) #[] #[.pointer (some ⟨g, 0, none⟩)], .string x, undef, undef, undef, undef, undef], defers := [] }) ?assign ?body ?done ?stop
  case assign =>
    intro lp x W K hK
    gi_wp2
    exact hK
  case body =>
    rintro lp pre x W ⟨⟨v', hv, how⟩, hB, hsz⟩ hlt
    obtain ⟨av, cv, rfl⟩ := own_form how
    have s1 := hv.cell
    have s2 := hv.frozen
    have hnw := cells_one_new W (.string x) 9
    gi_wp2_with (gi_at_builtin; refine wpListIn_append_own _ rfl _ _ 24 rfl (H + 1) 9 i0 _ 1 16 Tryz.underlying24 hi hz0 hz1 hz2 rfl (by decide) _ pre.length (tsC pre) rfl (how.alloc _) ⟨W.heap.size, 0, none⟩ 1 1 [.string x] rfl rfl hnw (by simp [Value.oneCell']) (by unfold maxLen; omega) (by omega) (by simp only [World.size_alloc]; omega) ?_; (
            intro v' w4 hown' hgrow _
            obtain ⟨g', cap', rfl⟩ := ownsRow_succ hown'
            obtain ⟨hv1, hv2, -, hk2, hbb⟩ := hv.appended (n₀ := H) (by decide) (rowMono how (Nat.le_succ _)) (by omega) (by omega) (rowMono hown' (Nat.le_succ _)) hgrow
            have hc1 := hv1.cell
            have hf1 := hv1.frozen))
    have hr2 := hown'.kept (grownBy_setCell' w4 H (.slice (some ⟨g', 0, none⟩) (pre.length + 1) cap')) (.inr (hv1.not_row (by decide) hown').symm)
    have hgm : ∀ q, (Value.slice av pre.length cv).ownBlock = some q → H + 1 ≤ q := fun q e => (World.ownsRow.lt how q e).1
    have hs4 : W.heap.size ≤ w4.heap.size := by have := hgrow.size; rw [World.size_alloc] at this; omega
    refine ⟨hk2, ⟨by simpa using hs4, fun k hk hkl => ?_⟩, ⟨_, hv2, ?_⟩, hB.trans hbb, by simp; omega⟩
    · rw [Below.heap_setCell _ _ _ _ (by show k ≠ H; omega), hgrow.block k (by rw [World.size_alloc]; omega) (fun e => by have := hgm k e.symm; omega), Below.heap_alloc _ _ k (by omega)]
    · have e : tsC pre ++ [Value.string x] = tsC (pre ++ [x]) := by simp [tsC]
      rw [e] at hr2
      rw [List.length_append]
      exact hr2
  case done =>
    rintro D ys W hD rfl ⟨⟨v', hv, how⟩, hB, hsz⟩ hK
    obtain ⟨av, cv, rfl⟩ := own_form how
    have s1 := hv.cell
    gi_wp2
    have hgp := grownBy_putObj' W D (.deferred none)
    have hgr : ∀ r, some D = some r → ∃ o : Obj, W.heap[r]? = some o ∧ o.isCells = false := fun r e => by cases e; exact ⟨_, hK, rfl⟩
    refine ⟨by simp, .inl ⟨_, _, rfl, run_takeDeferred hK, ?_⟩⟩
    refine ⟨_, results_tmp rfl _ _ _, ?_⟩
    rw [HH.out]
    exact ⟨_, rfl, own_gr (rowMono how (Nat.le_succ _)) hgp hgr, hB.grown hgp (by have := hB.size; rw [HH.out] at this; exact this) (fun k e => by cases e; omega)⟩
  case stop =>
    rintro D c pre W hD hpre hx hK
    exact hx.elim
end Go.Proofs.YtjfgpplomldeiaaGreatDoor
