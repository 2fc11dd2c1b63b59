import Derived.Test.YtldkecjfjcnkfaaGet
import Derived.Lib.AppendZerosOnto
import Derived.Laws.CopyOwn
import Derived.Lib.Overlaps
import Derived.Lib.Hide
import Derived.Deep.Cut
import Derived.Deep.RegionHeld3
namespace Go.Proofs.Ytldkecjfjcnkfaa
open Go.RowKit Go.Deep
theorem run_copy_row6 (w : World) (ty : TypeId) (g o dLen dCap : Nat) (a : Addr) (sLen sCap : Nat) (cur : Array Value) (t : TypeId) (cs : List Value)
    (hg : w.heap[g]? = some (.cells cur t (0, 0))) (hn : cs.length = Nat.min sLen dLen * 6)
    (hsrc : ∀ j v, cs[j]? = some v → w.cell? (a.add j) = some v) (hfit : o + cs.length ≤ cur.size) (h1 : ∀ v ∈ cs, v.oneCell' = true) :
    (Builtin.copy_ #[33, 33] ty #[.slice (some ⟨g, o, none⟩) dLen dCap, .slice (some a) sLen sCap]).run Try.prog w =
      .ok (goInt (Nat.min sLen dLen)) (w.setRow g (cur.toList.take o ++ cs ++ cur.toList.drop (o + cs.length)).toArray) := by
  obtain ⟨i0, hi, hz0, hz1, hz2⟩ := info_parts info42
  have hl := run_loadCells_list (P := Try.prog) w a cs hsrc
  have hst := run_storeCells_at Try.prog g o t cs 0 cur w hg (by simpa using hfit) h1
  rw [hn] at hl
  simp [Builtin.copy_, run_underlying Try.underlying33, Builtin.lenOf, Builtin.firstCells, sizeOf, typeInfo, hi, hz1, hl, hst]
theorem setRow_blk {w : World} {g : Nat} {ty : TypeId} {cur cs : Array Value} (h : w.heap[g]? = some (.cells cur ty (0, 0))) : (w.setRow g cs).heap[g]? = some (.cells cs ty (0, 0)) := setRow_heap w g cur cs ty (0, 0) h
theorem zeroCells_size (z : Array Value) (k : Nat) : (Builtin.zeroCells z k).size = k * z.size := by simp [Builtin.zeroCells]
/-- what Insert leaves of a row -/
def IR (B n at' : Nat) (L E : List Value) (w : World) (e : Ending) (w' : World) : Prop :=
  ∃ v', e = .returned v' ∧ w'.ownsRow B 59 6 v' (n + 1) (L.take (at' * 6) ++ E ++ L.drop (at' * 6)) ∧ Below B w w'
theorem add_none (b o i : Nat) : (⟨b, o, none⟩ : Addr).add i = ⟨b, o + i, none⟩ := by unfold Addr.add; split <;> simp_all
set_option maxHeartbeats 4000000 in
set_option maxRecDepth 100000 in
theorem ins_end (B n vb : Nat) (v : Value) (L E : List Value) (w : World) (hown : w.ownsRow B 59 6 v n L) (hE : E.length = 6) (hvb : w.heap[vb]? = some (.cells E.toArray 59 (0, 0))) (h1E : ∀ u ∈ E, u.oneCell' = true) (hB : B ≤ w.heap.size) (hn : n ≤ 2147483647) :
    Calls Try.prog 66 #[v, .int .i64 n, .slice (some ⟨vb, 0, none⟩) 1 1] w (IR B n n L E w) := by
  obtain ⟨i0, hi, hz0, hz1, hz2⟩ := info_parts info42
  have hLl := hown.1
  have HO : Hid (w.ownsRow B 59 6 v n L ∧ E.length = 6 ∧ w.heap[vb]? = some (.cells E.toArray 59 (0, 0)) ∧ (∀ u ∈ E, u.oneCell' = true) ∧ B ≤ w.heap.size) := ⟨hown, hE, hvb, h1E, hB⟩
  have HL : Hid (L.take (n * 6) = L ∧ L.drop (n * 6) = []) := ⟨List.take_of_length_le (by omega), List.drop_eq_nil_of_le (by omega)⟩
  have hc : ∀ a c, v = .slice a n c → n ≤ c := fun a c e => by
    rcases hown.2 with ⟨rfl, h0⟩ | ⟨g, cap, cur, rfl, _, hg, hle, _⟩
    · simp at e; omega
    · simp at e; omega
  obtain ⟨a, c, rfl⟩ := ownForm hown
  have hc' := hc a c rfl
  clear hown hE hvb h1E hB hc hLl
  go_enter Try.func66, Try.ntmps66
  cases a with
  | none =>
    go_wp2_with (at_builtin; refine wpList_append_own w rfl _ _ 33 rfl B 59 i0 _ 6 96 Try.underlying33 hi hz0 hz1 hz2 rfl (by omega) _ n L rfl HO.out.1 ⟨vb, 0, none⟩ 1 1 E rfl (by rw [HO.out.2.1]) (fun j u hu => by rw [add_none, Nat.zero_add]; simp only [World.cell?, HO.out.2.2.1]; simpa using hu) HO.out.2.2.2.1 (by unfold maxLen; omega) (by omega) HO.out.2.2.2.2 ?_; intro v' w1 ho1 hg1 _; obtain ⟨a', c', rfl⟩ := ownForm ho1; have hb1 : Below B w w1 := (Below.refl B w).grown hg1 HO.out.2.2.2.2 (fun k hk => (World.ownsRow.lt HO.out.1 k hk).1))
    all_goals
      go_ret
      exact ⟨_, rfl, by rw [HL.out.1, HL.out.2, List.append_nil]; exact ho1, hb1⟩
  | some ad =>
    go_wp2_with (at_builtin; refine wpList_append_own w rfl _ _ 33 rfl B 59 i0 _ 6 96 Try.underlying33 hi hz0 hz1 hz2 rfl (by omega) _ n L rfl HO.out.1 ⟨vb, 0, none⟩ 1 1 E rfl (by rw [HO.out.2.1]) (fun j u hu => by rw [add_none, Nat.zero_add]; simp only [World.cell?, HO.out.2.2.1]; simpa using hu) HO.out.2.2.2.1 (by unfold maxLen; omega) (by omega) HO.out.2.2.2.2 ?_; intro v' w1 ho1 hg1 _; obtain ⟨a', c', rfl⟩ := ownForm ho1; have hb1 : Below B w w1 := (Below.refl B w).grown hg1 HO.out.2.2.2.2 (fun k hk => (World.ownsRow.lt HO.out.1 k hk).1))
    all_goals
      go_ret
      exact ⟨_, rfl, by rw [HL.out.1, HL.out.2, List.append_nil]; exact ho1, hb1⟩
theorem splice_get (cur cs : List Value) (o : Nat) (h : o + cs.length ≤ cur.length) :
    (cur.take o ++ cs ++ cur.drop (o + cs.length)).length = cur.length ∧ (∀ k, k ≤ o → (cur.take o ++ cs ++ cur.drop (o + cs.length)).take k = cur.take k) ∧ (cur.take o ++ cs ++ cur.drop (o + cs.length)).take (o + cs.length) = cur.take o ++ cs := by
  have l1 : (cur.take o).length = o := by rw [List.length_take]; omega
  refine ⟨by simp; omega, fun k hk => ?_, ?_⟩
  · rw [List.append_assoc, List.take_append_of_le_length (by omega), List.take_take, Nat.min_eq_left hk]
  · rw [List.take_append_of_le_length (by rw [List.length_append]; omega), List.take_of_length_le (by rw [List.length_append]; omega)]
theorem take_splice (cur cs : List Value) (o m : Nat) (h : o + cs.length ≤ cur.length) (hm : o + cs.length ≤ m) : (cur.take o ++ cs ++ cur.drop (o + cs.length)).take m = cur.take o ++ cs ++ (cur.take m).drop (o + cs.length) := by
  have l1 : (cur.take o ++ cs).length = o + cs.length := by rw [List.length_append, List.length_take]; omega
  rw [List.take_append, l1, List.take_of_length_le (by omega), List.drop_take]
set_option maxHeartbeats 4000000 in
set_option maxRecDepth 100000 in
theorem ins_grow (B g n at' vb : Nat) (cs : Array Value) (E : List Value) (w : World) (hblk : w.heap[g]? = some (.cells cs 59 (0, 0))) (hcs : cs.size = n * 6) (hE : E.length = 6) (hvb : w.heap[vb]? = some (.cells E.toArray 59 (0, 0))) (h1 : ∀ u ∈ cs.toList, u.oneCell' = true) (h1E : ∀ u ∈ E, u.oneCell' = true) (hB : B ≤ w.heap.size) (hn : n ≤ 2147483647) (hat : at' < n) :
    Calls Try.prog 66 #[.slice (some ⟨g, 0, none⟩) n n, .int .i64 at', .slice (some ⟨vb, 0, none⟩) 1 1] w (IR B n at' cs.toList E w) := by
  obtain ⟨i0, hi, hz0, hz1, hz2⟩ := info_parts info42
  have hvlt := (Array.getElem?_eq_some_iff.1 hvb).1
  have hglt := (Array.getElem?_eq_some_iff.1 hblk).1
  have cellg : ∀ j, w.cell? ⟨g, j, none⟩ = cs[j]? := fun j => by simp [World.cell?, hblk]
  have cellv : ∀ j, w.cell? ⟨vb, j, none⟩ = E[j]? := fun j => by simp [World.cell?, hvb]
  -- the new row
  have A : ∃ cap W0 R0, (Builtin.append_ #[33, 3] 33 #[.slice (some ⟨g, 0, none⟩) at' n, .int .i64 ((n + 1 - at' : Nat) : Int)]).run Try.prog w = .ok (.slice (some ⟨w.heap.size, 0, none⟩) (n + 1) cap) W0 ∧ W0.heap[w.heap.size]? = some (.cells R0 59 (0, 0)) ∧ R0.size = cap * 6 ∧ R0.toList.take (at' * 6) = cs.toList.take (at' * 6) ∧ Below w.heap.size w W0 ∧ n + 1 ≤ cap ∧ cap ≤ maxLen := by
    have hlen : (cs.toList.take (at' * 6)).length = at' * 6 := by rw [List.length_take]; simp; omega
    have hold : (Builtin.firstCells i0.size at' (.slice (some ⟨g, 0, none⟩) at' n)).run Try.prog w.drew = .ok (cs.toList.take (at' * 6)).toArray w.drew := by
      rw [hz1]
      refine run_firstCells_some (w := w.drew) 6 at' _ _ _ _ hlen (fun j v hj => ?_)
      have hj2 : j < at' * 6 := by
        rcases Nat.lt_or_ge j (at' * 6) with h | h
        · exact h
        · rw [List.getElem?_eq_none (by omega)] at hj; cases hj
      rw [List.getElem?_take_of_lt hj2] at hj
      show w.cell? _ = _
      rw [add_none, Nat.zero_add, cellg]
      simpa using hj
    have hfit : Builtin.nextslicecap (at' + (n + 1 - at')) n * 96 ≤ 281474976710656 := growslice_fits (by omega) (by omega)
    have hr := Lib.run_append_grow_zeros (P := Try.prog) w 33 3 33 59 i0 _ .i64 .i64 Try.underlying33 Try.underlying3 hi hz0 (some ⟨g, 0, none⟩) at' n (cs.toList.take (at' * 6)) hold (n + 1 - at') (by omega) (by omega) (by omega) (by omega) (by rw [hz2]; omega) (by rw [hz2]; exact hfit)
    have hge := grownCap_ge w (at' + (n + 1 - at')) n 59
    have hle := grownCap_le_maxLen w (n + 1) n 59 (by unfold maxLen; omega)
    rw [show at' + (n + 1 - at') = n + 1 by omega] at hr hge
    refine ⟨_, _, _, hr, heap_new w.drew _, ?_, ?_, ((Below.refl _ _).drew).alloc (Nat.le_refl _) _, hge, ?_⟩
    · simp only [Array.size_append, zeroCells_size, List.size_toArray, hlen]
      have : (Value.agg #[.string ByteArray.empty, .int .i64 0, .int .i64 0, .string ByteArray.empty, .slice none 0 0, .slice none 0 0]).cells.size = 6 := rfl
      rw [this]; omega
    · rw [Array.toList_append, Array.toList_append, List.append_assoc, List.take_append_of_le_length (by simp [hlen])]
      simp [List.take_take]
    · exact hle
  obtain ⟨cap, W0, R0, hr, hb0, hs0, hl0, hbel0, hcap, hmax⟩ := A
  have hR0l : R0.toList.length = cap * 6 := by simpa using hs0
  have hcl : cs.toList.length = n * 6 := by simpa using hcs
  -- the new entry
  obtain ⟨q1, q2, q3⟩ := splice_get R0.toList E (at' * 6) (by omega)
  have hc1 : ∀ ty dLen dCap, 0 < dLen → (Builtin.copy_ #[33, 33] ty #[.slice (some ⟨w.heap.size, at' * 6, none⟩) dLen dCap, .slice (some ⟨vb, 0, none⟩) 1 1]).run Try.prog W0 = .ok (goInt 1) (W0.setRow w.heap.size (R0.toList.take (at' * 6) ++ E ++ R0.toList.drop (at' * 6 + E.length)).toArray) := fun ty dLen dCap hd => by
    have := run_copy_row6 W0 ty w.heap.size (at' * 6) dLen dCap ⟨vb, 0, none⟩ 1 1 R0 59 E hb0 (by rw [show Nat.min 1 dLen = 1 from Nat.min_eq_left hd, hE]) (fun j u hu => by
      rw [add_none, Nat.zero_add]
      have e : W0.cell? ⟨vb, j, none⟩ = w.cell? ⟨vb, j, none⟩ := World.cell?_of_block (w := w) (hbel0.block vb hvlt)
      rw [e, cellv]; exact hu) (by omega) h1E
    rw [show Nat.min 1 dLen = 1 from Nat.min_eq_left hd] at this
    exact this
  have hb1 := setRow_blk (cs := (R0.toList.take (at' * 6) ++ E ++ R0.toList.drop (at' * 6 + E.length)).toArray) hb0
  have hbel1 : Below w.heap.size w (W0.setRow w.heap.size (R0.toList.take (at' * 6) ++ E ++ R0.toList.drop (at' * 6 + E.length)).toArray) := below_setRow hbel0 (Nat.le_refl _) _
  generalize hR1 : R0.toList.take (at' * 6) ++ E ++ R0.toList.drop (at' * 6 + E.length) = R1 at *
  generalize W0.setRow w.heap.size R1.toArray = W1 at *
  -- the rest
  have hdl : (cs.toList.drop (at' * 6)).length = (n - at') * 6 := by rw [List.length_drop]; omega
  obtain ⟨r1, r2, r3⟩ := splice_get R1 (cs.toList.drop (at' * 6)) ((at' + 1) * 6) (by omega)
  have hc2 : ∀ ty dCap sCap, (Builtin.copy_ #[33, 33] ty #[.slice (some ⟨w.heap.size, (at' + 1) * 6, none⟩) (n - at') dCap, .slice (some ⟨g, at' * 6, none⟩) (n - at') sCap]).run Try.prog W1.drew = .ok (goInt (Nat.min (n - at') (n - at'))) (W1.drew.setRow w.heap.size (R1.take ((at' + 1) * 6) ++ cs.toList.drop (at' * 6) ++ R1.drop ((at' + 1) * 6 + (cs.toList.drop (at' * 6)).length)).toArray) := fun ty dCap sCap => by
    refine run_copy_row6 W1.drew ty w.heap.size ((at' + 1) * 6) (n - at') dCap ⟨g, at' * 6, none⟩ (n - at') sCap R1.toArray 59 (cs.toList.drop (at' * 6)) hb1 (by rw [hdl, show Nat.min (n - at') (n - at') = n - at' from Nat.min_self _]) (fun j u hu => ?_) (by rw [hdl]; simp; omega) (fun u hu => h1 u (List.mem_of_mem_drop hu))
    have hgb : W1.cell? ⟨g, at' * 6 + j, none⟩ = w.cell? ⟨g, at' * 6 + j, none⟩ := World.cell?_of_block (w := w) (hbel1.block g hglt)
    show W1.cell? _ = _
    rw [add_none, hgb, cellg]
    rw [List.getElem?_drop] at hu
    simpa using hu
  have hb2 := setRow_blk (w := W1.drew) (cs := (R1.take ((at' + 1) * 6) ++ cs.toList.drop (at' * 6) ++ R1.drop ((at' + 1) * 6 + (cs.toList.drop (at' * 6)).length)).toArray) hb1
  have hbel2 : Below w.heap.size w (W1.drew.setRow w.heap.size (R1.take ((at' + 1) * 6) ++ cs.toList.drop (at' * 6) ++ R1.drop ((at' + 1) * 6 + (cs.toList.drop (at' * 6)).length)).toArray) := below_setRow hbel1.drew (Nat.le_refl _) _
  have hfin : (R1.take ((at' + 1) * 6) ++ cs.toList.drop (at' * 6) ++ R1.drop ((at' + 1) * 6 + (cs.toList.drop (at' * 6)).length)).take ((n + 1) * 6) = cs.toList.take (at' * 6) ++ E ++ cs.toList.drop (at' * 6) := by
    rw [show (n + 1) * 6 = (at' + 1) * 6 + (cs.toList.drop (at' * 6)).length by omega, r3]
    congr 1
    rw [show (at' + 1) * 6 = at' * 6 + E.length by omega, q3, hl0]
  have HP : Hid (IR B n at' cs.toList E w (.returned (.slice (some ⟨w.heap.size, 0, none⟩) (n + 1) cap)) (W1.drew.setRow w.heap.size (R1.take ((at' + 1) * 6) ++ cs.toList.drop (at' * 6) ++ R1.drop ((at' + 1) * 6 + (cs.toList.drop (at' * 6)).length)).toArray)) :=
    ⟨_, rfl, ⟨by simp only [List.length_append, List.length_take, List.length_drop]; omega, .inr ⟨w.heap.size, cap, _, rfl, hB, hb2, hcap, hmax, by simp only [List.size_toArray, r1]; omega, by simpa using hfin⟩⟩, hbel2.mono hB⟩
  have hk : (n : Int) + 1 - (at' : Int) = ((n + 1 - at' : Nat) : Int) := by omega
  have n1 : ((at' : Int) == (n : Int)) = false := by simp; omega
  have a0 : (0 : Int) ≤ (at' : Int) := by omega
  have a1 : (at' : Int) ≤ (n : Int) := by omega
  have a2 : at' < cap := by omega
  have a3 : at' + 1 ≤ n := by omega
  generalize R1.take ((at' + 1) * 6) ++ cs.toList.drop (at' * 6) ++ R1.drop ((at' + 1) * 6 + (cs.toList.drop (at' * 6)).length) = R2 at *
  have HC1 : Hid _ := hc1
  have HC2 : Hid _ := hc2
  clear hblk hcs h1 hi hz0 hz1 hz2 hvlt hglt hb0 hs0 hl0 hbel0 hb1 hbel1 hb2 hbel2 q1 q2 q3 r1 r2 r3 hfin hc1 hc2 hdl hcl hR0l hR1 cellg cellv hE hvb h1E
  generalize w.heap.size = N at *
  have hc1x := HC1.out 3 (n + 1 - at') (cap - at') (by omega)
  have hc2x := fun dCap sCap => HC2.out 3 dCap sCap
  go_enter Try.func66, Try.ntmps66
  go_wp2_with (at_builtin; refine Lib.wpList_append_run _ rfl _ _ 33 3 rfl _ _ rfl rfl _ _ hr ?_)
  go_region
  all_goals
    go_wp2
    go_ret
    exact HP.out
end Go.Proofs.Ytldkecjfjcnkfaa
