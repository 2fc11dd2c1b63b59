import Derived.Test.YtegdlkbilgkfoaaDoorM03
import Derived.Lib.AppendZerosOnto
import Derived.Laws.CopyOwn
namespace Go.Proofs.YtegdlkbilgkfoaaDoor
open Go.RowKit Go.Deep
set_option maxRecDepth 20000
theorem append_types (ty : TypeId) (a b : Option Addr) (n c m d : Nat) (w : World) : (Builtin.append_ #[59, 58] ty #[.slice a n c, .slice b m d]).run Tryd.prog w = (Builtin.append_ #[59, 59] ty #[.slice a n c, .slice b m d]).run Tryd.prog w := by
  simp [Builtin.append_, run_underlying Tryd.underlying58, run_underlying Tryd.underlying59]
theorem run_copy_row2 (w : World) (sT ty : TypeId) (g o dLen dCap : Nat) (a : Addr) (sLen sCap : Nat) (cur : Array Value) (t : TypeId) (cs : List Value)
    (hg : w.heap[g]? = some (.cells cur t (0, 0))) (hn : cs.length = Nat.min sLen dLen * 2)
    (hsrc : ∀ j v, cs[j]? = some v → w.cell? (a.add j) = some v) (hfit : o + cs.length ≤ cur.size) (h1 : ∀ v ∈ cs, v.oneCell' = true) :
    (Builtin.copy_ #[59, sT] ty #[.slice (some ⟨g, o, none⟩) dLen dCap, .slice (some a) sLen sCap]).run Tryd.prog w =
      .ok (goInt (Nat.min sLen dLen)) (w.setRow g (cur.toList.take o ++ cs ++ cur.toList.drop (o + cs.length)).toArray) := by
  obtain ⟨i0, hi, hz0, hz1, hz2⟩ := info_parts info57
  have hl := run_loadCells_list (P := Tryd.prog) w a cs hsrc
  have hst := run_storeCells_at Tryd.prog g o t cs 0 cur w hg (by simpa using hfit) h1
  rw [hn] at hl
  simp [Builtin.copy_, run_underlying Tryd.underlying59, Builtin.lenOf, Builtin.firstCells, sizeOf, typeInfo, hi, hz1, hl, hst]
theorem wpList_copy_r {ops : Array Oper} {rest : List Oper} {o : Oper} {a : Act} {Q : Exit → Act → World → Prop} {w : World} (hgd : o.guard = none) (d s : Operand) (t t' : TypeId)
    (ho : o.op = .call { callee := .builtin .copy, args := #[d, s], argTypes := #[t, t'] }) (v u : Value) (hd : a.eval d = v) (hs : a.eval s = u) {v' : Value} {w' : World}
    (hr : (Builtin.copy_ #[t, t'] o.type #[v, u]).run Tryd.prog w = .ok v' w') (h : wpList Tryd.prog ops Q rest (a.put o.dst v') w') : wpList Tryd.prog ops Q (o :: rest) a w :=
  wpList_plain hgd fun _ hK => by
    unfold Oper.wp execOp
    simp only [ho, resolve, invoke, builtin, Sem.run_bind, Sem.run_pure, Result.andThen_ok, List.map_toArray, List.map_cons, List.map_nil, hd, hs, hr]
    exact hK _ _ h
theorem step_copy_r {ops : Array Oper} {o : Oper} {a : Act} {w : World} {K : Act → World → Prop} {Q : Exit → Act → World → Prop} {E : Prop}
    (hg : o.guard = none) (d x : Operand) (dT sT : TypeId) (hop : o.op = Op.call { callee := Callee.builtin Builtin.copy, args := #[d, x], argTypes := #[dT, sT] })
    (v u : Value) (hd : a.eval d = v) (hx : a.eval x = u) {v' : Value} {w' : World} (hr : (Builtin.copy_ #[dT, sT] o.type #[v, u]).run Tryd.prog w = .ok v' w') (hK : K (a.put o.dst v') w') :
    if Region.wanted o (yielded ops a.tmps) = true then Oper.wp Tryd.prog o a w K Q else E := by
  have hw : Region.wanted o (yielded ops a.tmps) = true := by simp [Region.wanted, hg]
  rw [if_pos hw]
  unfold Oper.wp
  simp [execOp, hop, resolve, invoke, builtin, hd, hx, hr, Result.andThen]
  exact hK
/-- what Insert leaves -/
def IP (g dn at' : Nat) (cs : Array Value) (w : World) (e : Ending) (w' : World) : Prop :=
  ∃ g' cap cs', e = .returned (.slice (some ⟨g', 0, none⟩) (dn + 1) cap) ∧ blk w' g' 66 cs' ∧ (dn + 1) * 2 ≤ cs'.size ∧ (∀ i, i < at' * 2 → cs'[i]? = cs[i]?) ∧ (∀ i, at' * 2 + 2 ≤ i → i < dn * 2 + 2 → cs'[i]? = cs[i - 2]?) ∧ (g' = g ∨ w.heap.size ≤ g') ∧ Besides g w w'
set_option maxHeartbeats 2000000 in
theorem insert_end (g vb dn : Nat) (cs : Array Value) (w : World) (hblk : blk w g 66 cs) (hcs : cs.size = dn * 2) (hdn : dn ≤ 2147483647)
    (hv0 : w.cell? ⟨vb, 0, none⟩ = some (.string { data := #[] })) (hv1 : w.cell? ⟨vb, 1, none⟩ = some .nilIface) :
    Calls Tryd.prog 31 #[.slice (some ⟨g, 0, none⟩) dn dn, .int .i64 dn, .slice (some ⟨vb, 0, none⟩) 1 1] w (IP g dn dn cs w) := by
  obtain ⟨i0, hi, hz0, hz1, hz2⟩ := info_parts info57
  have hown : w.ownsRow 0 66 2 (.slice (some ⟨g, 0, none⟩) dn dn) dn cs.toList := ⟨by simpa using hcs, .inr ⟨g, dn, cs, rfl, Nat.zero_le _, hblk, Nat.le_refl _, by unfold maxLen; omega, hcs, by rw [List.take_of_length_le (by simp; omega)]⟩⟩
  obtain ⟨v', w', hr, hown', hgrow, _, hatb⟩ := run_append_own_at (P := Tryd.prog) w 0 59 59 66 i0 _ 2 32 Tryd.underlying59 hi hz0 hz1 hz2 rfl (by omega) (.slice (some ⟨g, 0, none⟩) dn dn) dn cs.toList hown ⟨vb, 0, none⟩ 1 1 [.string { data := #[] }, .nilIface] rfl
    (fun j u hu => by
      match j, hu with
      | 0, hu => simp at hu; subst hu; simpa [Addr.add] using hv0
      | 1, hu => simp at hu; subst hu; simpa [Addr.add] using hv1) (fun u hu => by simp at hu; rcases hu with rfl | rfl <;> rfl) (by unfold maxLen; omega) (by omega) (Nat.zero_le _)
  rw [← append_types] at hr
  have HP : Hid (IP g dn dn cs w (.returned v') w') := by
    obtain ⟨g', cap, hv', _, hglt⟩ := hown'.form (by omega)
    subst hv'
    rcases hown'.2 with ⟨h0, _⟩ | ⟨g2, cap2, cur, h0, _, hb2, hcap, _, hsz2, htake⟩
    · cases h0
    cases h0
    have hget : ∀ i, i < (dn + 1) * 2 → cur[i]? = (cs.toList ++ [.string { data := #[] }, .nilIface])[i]? := fun i hi => by
      rw [← htake, List.getElem?_take_of_lt hi]; simp
    refine ⟨g', cap, cur, rfl, hb2, by rw [hsz2]; omega, fun i hi => ?_, fun i h1 h2 => by omega, ?_, ⟨hgrow.os, hgrow.tape, hgrow.output, hgrow.size, fun q hq hn => hgrow.block q hq (fun e => hn (by simpa [Value.ownBlock] using e))⟩⟩
    · rw [hget i (by omega), List.getElem?_append_left (by simp; omega)]; simp
    · rcases hatb with h | h
      · exact .inl (by simpa [Value.ownBlock] using h)
      · exact .inr (by have : g' = w.heap.size := by simpa [Value.ownBlock] using h
                       omega)
  have hvf : ∃ a c, v' = .slice a (dn + 1) c := ownForm hown'
  obtain ⟨va, vc, rfl⟩ := hvf
  clear hown hown' hgrow hatb hi hz0 hz1 hz2 hv0 hv1
  go_enter Tryd.func31, Tryd.ntmps31
  go_wp2_with (at_builtin; refine Lib.wpList_append_run _ rfl _ _ 59 58 rfl _ _ rfl rfl _ _ hr ?_)
  go_ret
  exact HP.out
theorem zeroCells_size (z : Array Value) (k : Nat) : (Builtin.zeroCells z k).size = k * z.size := by simp [Builtin.zeroCells]
theorem setRow_blk {w : World} {g : Nat} {ty : TypeId} {cur cs : Array Value} (h : blk w g ty cur) : blk (w.setRow g cs) g ty cs := setRow_heap w g cur cs ty (0, 0) h
/-- splicing into a row -/
theorem splice_get (cur cs : List Value) (o : Nat) (h : o + cs.length ≤ cur.length) :
    ((cur.take o ++ cs ++ cur.drop (o + cs.length)).toArray).size = cur.length ∧ (∀ i, i < o → ((cur.take o ++ cs ++ cur.drop (o + cs.length)).toArray)[i]? = cur[i]?) ∧ (∀ i, o ≤ i → i < o + cs.length → ((cur.take o ++ cs ++ cur.drop (o + cs.length)).toArray)[i]? = cs[i - o]?) := by
  have l1 : (cur.take o).length = o := by rw [List.length_take]; omega
  refine ⟨by simp; omega, fun i hi => ?_, fun i h1 h2 => ?_⟩
  · simp only [List.getElem?_toArray]
    rw [List.append_assoc, List.getElem?_append_left (by omega), List.getElem?_take_of_lt hi]
  · simp only [List.getElem?_toArray]
    rw [List.append_assoc, List.getElem?_append_right (by omega), l1, List.getElem?_append_left (by omega)]
set_option maxHeartbeats 4000000 in
theorem insert_mid (g vb dn at' : Nat) (cs : Array Value) (w : World) (hblk : blk w g 66 cs) (hcs : cs.size = dn * 2) (hdn : dn ≤ 2147483647) (hat : at' < dn) (h1 : ∀ v ∈ cs.toList, v.oneCell' = true)
    (hv0 : w.cell? ⟨vb, 0, none⟩ = some (.string { data := #[] })) (hv1 : w.cell? ⟨vb, 1, none⟩ = some .nilIface) :
    Calls Tryd.prog 31 #[.slice (some ⟨g, 0, none⟩) dn dn, .int .i64 at', .slice (some ⟨vb, 0, none⟩) 1 1] w (IP g dn at' cs w) := by
  obtain ⟨i0, hi, hz0, hz1, hz2⟩ := info_parts info57
  have hadd : ∀ b o i : Nat, (⟨b, o, none⟩ : Addr).add i = ⟨b, o + i, none⟩ := by intro b o i; unfold Addr.add; split <;> simp_all
  have hvlt := World.block_lt_of_cell? w _ hv0
  have hglt := hblk.lt
  -- the new row
  have A : ∃ cap W0 R0, (Builtin.append_ #[59, 3] 59 #[.slice (some ⟨g, 0, none⟩) at' dn, .int .i64 ((dn + 1 - at' : Nat) : Int)]).run Tryd.prog w = .ok (.slice (some ⟨w.heap.size, 0, none⟩) (dn + 1) cap) W0 ∧ blk W0 w.heap.size 66 R0 ∧ (dn + 1) * 2 ≤ R0.size ∧ (∀ i, i < at' * 2 → R0[i]? = cs[i]?) ∧ Below w.heap.size w W0 ∧ dn + 1 ≤ cap := by
    have hlen : (cs.toList.take (at' * 2)).length = at' * 2 := by rw [List.length_take]; simp; omega
    have hold : (Builtin.firstCells i0.size at' (.slice (some ⟨g, 0, none⟩) at' dn)).run Tryd.prog w.drew = .ok (cs.toList.take (at' * 2)).toArray w.drew := by
      rw [hz1]
      refine run_firstCells_some (w := w.drew) 2 at' _ _ _ _ hlen (fun j v hj => ?_)
      have hj2 : j < at' * 2 := by
        rcases Nat.lt_or_ge j (at' * 2) with h | h
        · exact h
        · rw [List.getElem?_eq_none (by omega)] at hj; cases hj
      rw [List.getElem?_take_of_lt hj2] at hj
      show w.cell? _ = _
      rw [hadd, Nat.zero_add, hblk.cell]
      simpa using hj
    have hr := Lib.run_append_grow_zeros (P := Tryd.prog) w 59 3 59 66 i0 _ .i64 .i64 Tryd.underlying59 Tryd.underlying3 hi hz0 (some ⟨g, 0, none⟩) at' dn (cs.toList.take (at' * 2)) hold (dn + 1 - at') (by omega) (by omega) (by omega) (by omega) (by rw [hz2]; omega) (by rw [hz2]; exact growslice_fits (by omega) (by omega))
    rw [show at' + (dn + 1 - at') = dn + 1 by omega] at hr
    refine ⟨_, _, _, hr, heap_new w.drew _, ?_, fun i hi => ?_, ((Below.refl _ _).drew).alloc (Nat.le_refl _) _, grownCap_ge _ _ _ _⟩
    · simp only [Array.size_append, zeroCells_size, List.size_toArray, hlen]
      have : (Value.agg #[.string ByteArray.empty, .nilIface]).cells.size = 2 := rfl
      rw [this]; omega
    · rw [Array.append_assoc, Array.getElem?_append_left (by simp [hlen]; omega)]
      simp only [List.getElem?_toArray]
      rw [List.getElem?_take_of_lt hi]; simp
  obtain ⟨cap, W0, R0, hr, hb0, hs0, hl0, hbel0, hcap⟩ := A
  -- the new entry
  have B : ∃ W1 R1, (∀ ty dLen dCap, 0 < dLen → (Builtin.copy_ #[59, 58] ty #[.slice (some ⟨w.heap.size, at' * 2, none⟩) dLen dCap, .slice (some ⟨vb, 0, none⟩) 1 1]).run Tryd.prog W0 = .ok (goInt 1) W1) ∧ blk W1 w.heap.size 66 R1 ∧ (dn + 1) * 2 ≤ R1.size ∧ (∀ i, i < at' * 2 → R1[i]? = cs[i]?) ∧ Below w.heap.size w W1 := by
    have hv0' := Below.cellS hbel0 (Nat.le_refl _) hv0
    have hv1' := Below.cellS hbel0 (Nat.le_refl _) hv1
    obtain ⟨q1, q2, _⟩ := splice_get R0.toList [.string { data := #[] }, .nilIface] (at' * 2) (by simp; omega)
    refine ⟨W0.setRow w.heap.size _, _, fun ty dLen dCap hd => ?_, setRow_blk hb0, by rw [q1]; simpa using hs0, fun i hi => by rw [q2 i hi]; simpa using hl0 i hi, below_setRow hbel0 (Nat.le_refl _) _⟩
    have := run_copy_row2 W0 58 ty w.heap.size (at' * 2) dLen dCap ⟨vb, 0, none⟩ 1 1 R0 66 [.string { data := #[] }, .nilIface] hb0 (by rw [show Nat.min 1 dLen = 1 from Nat.min_eq_left hd]; rfl) (fun j u hu => by
      match j, hu with
      | 0, hu => simp at hu; subst hu; simpa [Addr.add] using hv0'
      | 1, hu => simp at hu; subst hu; simpa [Addr.add] using hv1') (by simp; omega) (fun u hu => by simp at hu; rcases hu with rfl | rfl <;> rfl)
    rw [show Nat.min 1 dLen = 1 from Nat.min_eq_left hd] at this
    exact this
  obtain ⟨W1, R1, hc1, hb1, hs1, hl1, hbel1⟩ := B
  -- the rest
  have C : ∃ W2 R2, (∀ ty dLen dCap sCap, dLen = dn - at' → (Builtin.copy_ #[59, 59] ty #[.slice (some ⟨w.heap.size, (at' + 1) * 2, none⟩) dLen dCap, .slice (some ⟨g, at' * 2, none⟩) (dn - at') sCap]).run Tryd.prog W1.drew = .ok (goInt (Nat.min (dn - at') dLen)) W2) ∧ blk W2 w.heap.size 66 R2 ∧ (dn + 1) * 2 ≤ R2.size ∧ (∀ i, i < at' * 2 → R2[i]? = cs[i]?) ∧ (∀ i, at' * 2 + 2 ≤ i → i < dn * 2 + 2 → R2[i]? = cs[i - 2]?) ∧ Below w.heap.size w W2 := by
    have hdl : (cs.toList.drop (at' * 2)).length = (dn - at') * 2 := by rw [List.length_drop]; simp; omega
    obtain ⟨q1, q2, q3⟩ := splice_get R1.toList (cs.toList.drop (at' * 2)) ((at' + 1) * 2) (by rw [hdl]; simp; omega)
    refine ⟨W1.drew.setRow w.heap.size _, _, fun ty dLen dCap sCap hd => ?_, setRow_blk (w := W1.drew) hb1, by rw [q1]; simpa using hs1, fun i hi => by rw [q2 i (by omega)]; simpa using hl1 i hi, fun i h2 h3 => ?_, below_setRow hbel1.drew (Nat.le_refl _) _⟩
    · subst hd
      refine run_copy_row2 W1.drew 59 ty w.heap.size ((at' + 1) * 2) (dn - at') dCap ⟨g, at' * 2, none⟩ (dn - at') sCap R1 66 (cs.toList.drop (at' * 2)) hb1 (by rw [hdl, show Nat.min (dn - at') (dn - at') = dn - at' from Nat.min_self _]) (fun j u hu => ?_) (by rw [hdl]; omega) (fun u hu => h1 u (List.mem_of_mem_drop hu))
      have hgb : W1.cell? ⟨g, at' * 2 + j, none⟩ = w.cell? ⟨g, at' * 2 + j, none⟩ := World.cell?_of_block (w := w) (hbel1.block g hglt)
      show W1.cell? _ = _
      rw [hadd, hgb, hblk.cell]
      rw [List.getElem?_drop] at hu
      simpa using hu
    · rw [q3 i (by omega) (by rw [hdl]; omega), List.getElem?_drop]
      simp only [Array.getElem?_toList]
      congr 1; omega
  obtain ⟨W2, R2, hc2, hb2, hs2, hl2, hh2, hbel2⟩ := C
  have HP : Hid (IP g dn at' cs w (.returned (.slice (some ⟨w.heap.size, 0, none⟩) (dn + 1) cap)) W2) :=
    ⟨_, cap, R2, rfl, hb2, hs2, hl2, hh2, .inr (Nat.le_refl _), hbel2.os, hbel2.tape, hbel2.output, hbel2.size, fun q hq _ => hbel2.block q hq⟩
  have hk : (dn : Int) + 1 - (at' : Int) = ((dn + 1 - at' : Nat) : Int) := by omega
  have n1 : ((at' : Int) == (dn : Int)) = false := by simp; omega
  have a0 : (0 : Int) ≤ (at' : Int) := by omega
  have a1 : (at' : Int) ≤ (dn : Int) := by omega
  have a2 : at' < cap := by omega
  have a3 : at' + 1 ≤ dn := by omega
  clear hblk hcs h1 hv0 hv1 hi hz0 hz1 hz2 hadd hvlt hglt hb0 hs0 hl0 hbel0 hb1 hs1 hl1 hbel1 hb2 hs2 hl2 hh2 hbel2
  generalize w.heap.size = N at *
  have HC1 : Hid _ := hc1
  have HC2 : Hid _ := hc2
  clear hc1 hc2
  have hc1x := HC1.out 3 (dn + 1 - at') (cap - at') (by omega)
  have hc2x := fun dCap sCap => HC2.out 3 (dn - at') dCap sCap rfl
  go_enter Tryd.func31, Tryd.ntmps31
  go_wp2_with (at_builtin; refine Lib.wpList_append_run _ rfl _ _ 59 3 rfl _ _ rfl rfl _ _ hr ?_)
  go_region
  all_goals
    go_wp2
    go_ret
    exact HP.out
/-- slices.Insert, at any place -/
theorem insert26 (g vb dn at' : Nat) (cs : Array Value) (w : World) (hblk : blk w g 66 cs) (hcs : cs.size = dn * 2) (hdn : dn ≤ 2147483647) (hat : at' ≤ dn) (h1 : ∀ v ∈ cs.toList, v.oneCell' = true)
    (hv0 : w.cell? ⟨vb, 0, none⟩ = some (.string { data := #[] })) (hv1 : w.cell? ⟨vb, 1, none⟩ = some .nilIface) :
    Calls Tryd.prog 31 #[.slice (some ⟨g, 0, none⟩) dn dn, .int .i64 at', .slice (some ⟨vb, 0, none⟩) 1 1] w (IP g dn at' cs w) := by
  by_cases e : at' = dn
  · subst e; exact insert_end g vb at' cs w hblk hcs hdn hv0 hv1
  · exact insert_mid g vb dn at' cs w hblk hcs hdn (by omega) h1 hv0 hv1
end Go.Proofs.YtegdlkbilgkfoaaDoor
