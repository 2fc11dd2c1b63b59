import Derived.RangeFuncNested
import Derived.RangeFuncBound
import Derived.RangeFuncCalls
import Derived.RangeFuncLeaves
import Derived.RangeFuncFrom
import Derived.Shelf.Abstract
import Derived.Shelf.RegionOpen
import Derived.Stop.RegionWithIn
import Derived.Sort.QuietIn
import Derived.OwnWalkIn
import Derived.TacticsInMore
import Derived.LoopNIn
import Derived.LoopIn
import Derived.Test.YtnpcbcfjnhjmmaaGreatDoorV27
namespace Go.Proofs.YtnpcbcfjnhjmmaaGreatDoor
open Go.Shelf Go.RowKit Go.Deep
attribute [local go_sem] Oper.semAt_some
/-- what lies below B stays as it is -/
def KB (B : Nat) (W W' : World) : Prop := W.heap.size ≤ W'.heap.size ∧ ∀ k, k < B → k < W.heap.size → W'.heap[k]? = W.heap[k]?
theorem KB.refl (B : Nat) (W : World) : KB B W W := ⟨Nat.le_refl _, fun _ _ _ => rfl⟩
theorem KB.trans {B : Nat} {A C D : World} (h : KB B A C) (k : KB B C D) : KB B A D := ⟨Nat.le_trans h.1 k.1, fun x hx hl => (k.2 x hx (Nat.lt_of_lt_of_le hl h.1)).trans (h.2 x hx hl)⟩
theorem KB.cell {B : Nat} {A C : World} (h : KB B A C) {x o : Nat} {v : Value} (hx : x < B) (hc : A.cell? ⟨x, o, none⟩ = some v) : C.cell? ⟨x, o, none⟩ = some v :=
  (World.cell?_of_block (w := A) (h.2 x hx (World.block_lt_of_cell? A _ hc))).trans hc
theorem KB.put {B : Nat} {w : World} (hg : B ≤ w.heap.size) (W : World) (l : Nat) (o o' : Obj) (hl : w.heap.size ≤ l) (_ : W.heap[l]? = some o) (_ : o.isCells = false) (_ : o.isWalk = false) : KB B W (W.putObj l o') :=
  ⟨by simp, fun k hk _ => World.putObj_heap_other (by omega)⟩
theorem RS.kb {B : Nat} {A C : World} (h : KB B A C) {v : Value} {ts : List ByteArray} (hr : RS (fun b => b < B) A v ts) : RS (fun b => b < B) C v ts :=
  hr.move (fun _ h _ => h) h.1 (fun b hb hl => h.2 b hb hl)
abbrev stV (x : ByteArray) : Array Value := #[.string x]
set_option maxRecDepth 100000 in
set_option maxHeartbeats 2000000 in
theorem iter69 (n : Nat) (hn : 1 ≤ n) (lp g B : Nat) (v : Value) (l : List ByteArray) (hl : l.length ≤ 140737488351232) (J Jx : List ByteArray → World → Prop) (W : World)
    (hY : ∀ pre x W, J pre W → pre.length < l.length → YieldAt Fence.wide (n - 1) Tryz.prog lp (stV x) W fun e W' =>
      (e = .returned (.bool true) ∧ J (pre ++ [x]) W' ∧ KB B W W') ∨ (e = .returned (.bool false) ∧ Jx (pre ++ [x]) W'))
    (h1 : W.cell? ⟨g, 0, none⟩ = some v) (h2 : RS (fun b => b < B) W v l) (h0 : J [] W) :
    CallsIn Fence.wide n Tryz.prog 86 #[.func (.yield lp) #[] #[], .pointer (some ⟨g, 0, none⟩)] W fun e W' => (∃ v, e = .returned v) ∧
      ((∃ ys, ys = l ∧ J ys W') ∨ (∃ pre, pre <+: l ∧ Jx pre W')) := by
  refine callsIn_of_wp Tryz.func86 rfl trivial ?_ rfl
  simp only [Tryz.ntmps86, List.size_toArray, List.length_cons, List.length_nil, Nat.reduceAdd, Nat.reduceSub, Array.replicate_succ, Array.replicate_zero, List.push_toArray, List.append_toArray, List.nil_append, List.cons_append]
  obtain ⟨a, c, rfl, hx⟩ := h2
  have HX := Lib.hid hx
  clear hx
  generalize hnn : l.length = m at *
  have HNN : Hid (l.length = m) := hnn
  clear hnn
  gi_wp2
  gi_loopw [7] (fun i wr => ∃ k : Nat, k ≤ m ∧ i = .int .i64 k ∧ Hid (J (l.take k) wr ∧ KB B W wr)) (fun i _ => m - (intOf i).toNat)
  case atStart => exact ⟨0, Nat.zero_le _, rfl, ⟨h0, KB.refl _ _⟩⟩
  case round =>
    obtain ⟨k, hk, rfl, HI⟩ := hrel
    by_cases hlt : k < m
    · obtain ⟨x, hx⟩ : ∃ x, l[k]? = some x := ⟨_, List.getElem?_eq_getElem (by rw [HNN.out]; exact hlt)⟩
      obtain ⟨b, o, rfl, hbB, hbl, hc⟩ := HX.out.resolve_left (fun e => by omega)
      have g0 := HI.out.2.cell hbB (hc k x hx)
      have htk : l.take (k + 1) = l.take k ++ [x] := by
        rw [List.take_add_one, hx]; rfl
      have HTK := Lib.hid htk
      obtain ⟨fn, tmps, assign, body, hy, hR⟩ := hY (l.take k) x wr HI.out.1 (by rw [List.length_take]; have := HNN.out; omega)
      simp only [stV] at hy
      clear hY hx htk hc
      gi_wp2
      refine hR.mono ?_
      rintro e W3 (⟨rfl, hJ3, hk3⟩ | ⟨rfl, hJx3⟩)
      · have HN : Hid (J (l.take (k + 1)) W3 ∧ KB B W W3) := (⟨by rw [HTK.out]; exact hJ3, HI.out.2.trans hk3⟩ : J (l.take (k + 1)) W3 ∧ KB B W W3)
        clear HI hJ3 hk3 g0
        gi_wp2
        go_roundw
        case rel => exact ⟨k + 1, by omega, by go_num, HN⟩
        case measure => simp [intOf]; omega
      · gi_wp2
        refine bodyPost_ret (results_none rfl _ _ _) rfl ?_
        exact ⟨⟨_, rfl⟩, .inr ⟨_, by rw [← HTK.out]; exact List.take_prefix _ _, hJx3⟩⟩
    · obtain rfl : k = m := by omega
      have HJ : Hid (J l wr) := by
        have h9 := HI.out.1
        rw [List.take_of_length_le (by rw [HNN.out]; exact Nat.le_refl _)] at h9
        exact h9
      clear HI hY
      gi_wp2
      refine bodyPost_end (results_none rfl _ _ _) rfl ?_
      exact ⟨⟨_, rfl⟩, .inl ⟨_, rfl, HJ.out⟩⟩
theorem iter69_stops (n : Nat) (hn : 1 ≤ n) (g B : Nat) (hgB : g < B) (v : Value) (l : List ByteArray) (hl : l.length ≤ 140737488351232) (w : World) (hB : B ≤ w.heap.size) (h1 : w.cell? ⟨g, 0, none⟩ = some v) (h2 : RS (fun b => b < B) w v l) :
    SeqStopsK Fence.wide n Tryz.prog 86 #[.pointer (some ⟨g, 0, none⟩)] stV (KB B) (fun ys => ys = l) (fun pre => pre <+: l) l.length w := fun lp J Jx W hW _ _ hY h0 =>
  iter69 n hn lp g B v l hl J Jx W hY ((hW.cell (p := ⟨g, 0, none⟩) (by show g < _; omega)).trans h1) (h2.move (fun _ h _ => h) hW.size (fun b _ hl => hW.block b hl)) h0
end Go.Proofs.YtnpcbcfjnhjmmaaGreatDoor
namespace Go.Proofs.YtnpcbcfjnhjmmaaGreatDoor
open Go.Shelf Go.RowKit Go.Deep
attribute [local go_sem] Oper.semAt_some
theorem own_form {B e sz n : Nat} {w : World} {v : Value} {xs : List Value} (h : w.ownsRow B e sz v n xs) : ∃ a c, v = .slice a n c := by
  rcases h.2 with ⟨rfl, h1⟩ | ⟨g, cap, cur, rfl, _⟩
  · exact ⟨none, 0, by rw [h1]⟩
  · exact ⟨_, _, rfl⟩
theorem cells_one_new (W : World) (a : Value) (t : TypeId) : ∀ j u, [a][j]? = some u → (W.alloc (.cells #[a] t)).cell? ((⟨W.heap.size, 0, none⟩ : Addr).add j) = some u := by
  intro j u hu
  have hn := World.alloc_heap_new W (.cells #[a] t)
  generalize W.alloc (.cells #[a] t) = W' at *
  generalize W.heap.size = B at *
  match j, hu with
  | 0, hu => simp at hu; subst hu; simp [World.cell?, Addr.add, hn]
set_option maxRecDepth 100000 in
set_option maxHeartbeats 4000000 in
theorem appendSeq (g : Nat) (v : Value) (l : List ByteArray) (w : World) (hl : l.length ≤ 2147483647) (hg : w.cell? ⟨g, 0, none⟩ = some v) (hr : RS (fun _ => True) w v l) :
    Calls Tryz.prog 96 #[.slice none 0 0, .func (.func 86) #[] #[.pointer (some ⟨g, 0, none⟩)]] w fun e w' => ∃ v', e = .returned v' ∧ w'.ownsRow w.heap.size 9 1 v' l.length (tsC l) ∧ Below w.heap.size w w' := by
  refine (callsIn_wide (n := 6)).1 ?_
  obtain ⟨i0, hi, hz0, hz1, hz2⟩ := info_parts info9
  have hgl : g < w.heap.size := World.block_lt_of_cell? w _ hg
  have HA : Hid (Below w.heap.size w (w.alloc (Obj.cells #[Value.slice none 0 0] 24)) ∧ Boxed (w.alloc (Obj.cells #[Value.slice none 0 0] 24)) w.heap.size 24 (.slice none 0 0) ∧ (w.alloc (Obj.cells #[Value.slice none 0 0] 24)).cell? ⟨g, 0, none⟩ = some v ∧ RS (fun b => b < w.heap.size) (w.alloc (Obj.cells #[Value.slice none 0 0] 24)) v l ∧ (w.alloc (Obj.cells #[Value.slice none 0 0] 24)).heap.size = w.heap.size + 1) :=
    ⟨(Below.refl _ _).alloc (Nat.le_refl _) _, Boxed.new w _ _, cell_alloc_old hg, hr.move (fun _ _ h => h) (by simp) (fun b _ hl => Below.heap_alloc _ _ _ hl), by simp⟩
  clear hg hr
  refine callsIn_of_wp_marks Tryz.func96 rfl trivial ?_ rfl
  simp only [Tryz.ntmps96, List.size_toArray, List.length_cons, List.length_nil, Nat.reduceAdd, Nat.reduceSub, Array.replicate_succ, Array.replicate_zero, List.push_toArray, List.append_toArray, List.nil_append, List.cons_append]
  gi_wp2
  generalize (w.alloc (Obj.cells #[Value.slice none 0 0] 24)) = wA at *
  obtain ⟨q1, q2, q3, q4, q5⟩ := HA.out
  obtain ⟨H, hH⟩ : ∃ H, w.heap.size = H := ⟨_, rfl⟩
  rw [hH] at q1 q2 q4 q5 hgl ⊢
  have HH : Hid (w.heap.size = H) := hH
  clear hH HA
  refine wpIn_rangeFunc_ownF rfl (by omega) (gf := 86) (lb := #[.pointer (some ⟨g, 0, none⟩)]) rfl trivial (enters_of Tryz.func86 (by kernel_rfl) rfl)
    (iter69_stops 5 (by omega) g H hgl v l (by omega) wA (by omega) q3 q4) KB.trans (KB.put (by omega)) (Below.refl _ _) (fun _ => rfl)
    (fun pre W => (∃ v', Boxed W H 24 v' ∧ W.ownsRow (H + 1) 9 1 v' pre.length (tsC pre)) ∧ Below H w W ∧ H + 1 ≤ W.heap.size)
    (fun _ _ _ => False)
    (fun pre X Y row hs hg hr => by
      obtain ⟨⟨v', k2, k3⟩, k6, k7⟩ := hs
      have hr' : ∀ r, row = some r → ∃ o : Obj, X.heap[r]? = some o ∧ o.isCells = false := fun r e => (hr r e).2
      exact ⟨⟨v', boxed_gr k2 hg hr', own_gr k3 hg hr'⟩, k6.grown hg (by omega) (fun k e => by have := (hr k e).1; omega), Nat.le_trans k7 hg.size⟩)
    (fun c pre X Y row hs hg hr => hs)
    ⟨⟨_, q2, World.ownsRow_nil _ _ _ _⟩, q1, by omega⟩
    (fun x => { tmps := #[.slice none 0 0, .func (.func 86) #[] #[.pointer (some ⟨g, 0, none⟩)], .pointer (some ⟨H, 0, none⟩), undef, .slice none 0 0, .string x, .func (.func 86) #[] #[.pointer (some ⟨g, 0, none⟩)], .string x, undef, undef, undef, undef, undef], defers := [] }) ?assign ?body ?done ?stop
  case assign =>
    intro lp x W K hK
    gi_wp2
    exact hK
  case body =>
    rintro lp pre x W ⟨⟨v', hv, how⟩, hB, hsz⟩ hlt
    obtain ⟨av, cv, rfl⟩ := own_form how
    have s1 := hv.cell
    have s2 := hv.frozen
    have hnw := cells_one_new W (.string x) 9
    gi_wp2_with (gi_at_builtin; refine wpListIn_append_own _ rfl _ _ 24 rfl (H + 1) 9 i0 _ 1 16 Tryz.underlying24 hi hz0 hz1 hz2 rfl (by decide) _ pre.length (tsC pre) rfl (how.alloc _) ⟨W.heap.size, 0, none⟩ 1 1 [.string x] rfl rfl hnw (by simp [Value.oneCell']) (by unfold maxLen; omega) (by omega) (by simp only [World.size_alloc]; omega) ?_; (
            intro v' w4 hown' hgrow _
            obtain ⟨g', cap', rfl⟩ := ownsRow_succ hown'
            obtain ⟨hv1, hv2, -, hk2, hbb⟩ := hv.appended (n₀ := H) (by decide) (rowMono how (Nat.le_succ _)) (by omega) (by omega) (rowMono hown' (Nat.le_succ _)) hgrow
            have hc1 := hv1.cell
            have hf1 := hv1.frozen))
    have hr2 := hown'.kept (grownBy_setCell' w4 H (.slice (some ⟨g', 0, none⟩) (pre.length + 1) cap')) (.inr (hv1.not_row (by decide) hown').symm)
    have hgm : ∀ q, (Value.slice av pre.length cv).ownBlock = some q → H + 1 ≤ q := fun q e => (World.ownsRow.lt how q e).1
    have hs4 : W.heap.size ≤ w4.heap.size := by have := hgrow.size; rw [World.size_alloc] at this; omega
    refine ⟨hk2, ⟨by simpa using hs4, fun k hk hkl => ?_⟩, ⟨_, hv2, ?_⟩, hB.trans hbb, by simp; omega⟩
    · rw [Below.heap_setCell _ _ _ _ (by show k ≠ H; omega), hgrow.block k (by rw [World.size_alloc]; omega) (fun e => by have := hgm k e.symm; omega), Below.heap_alloc _ _ k (by omega)]
    · have e : tsC pre ++ [Value.string x] = tsC (pre ++ [x]) := by simp [tsC]
      rw [e] at hr2
      rw [List.length_append]
      exact hr2
  case done =>
    rintro D ys W hD rfl ⟨⟨v', hv, how⟩, hB, hsz⟩ hK
    obtain ⟨av, cv, rfl⟩ := own_form how
    have s1 := hv.cell
    gi_wp2
    have hgp := grownBy_putObj' W D (.deferred none)
    have hgr : ∀ r, some D = some r → ∃ o : Obj, W.heap[r]? = some o ∧ o.isCells = false := fun r e => by cases e; exact ⟨_, hK, rfl⟩
    refine ⟨by simp, .inl ⟨_, _, rfl, run_takeDeferred hK, ?_⟩⟩
    refine ⟨_, results_tmp rfl _ _ _, ?_⟩
    rw [HH.out]
    exact ⟨_, rfl, own_gr (rowMono how (Nat.le_succ _)) hgp hgr, hB.grown hgp (by have := hB.size; rw [HH.out] at this; exact this) (fun k e => by cases e; omega)⟩
  case stop =>
    rintro D c pre W hD hpre hx hK
    exact hx.elim
end Go.Proofs.YtnpcbcfjnhjmmaaGreatDoor
