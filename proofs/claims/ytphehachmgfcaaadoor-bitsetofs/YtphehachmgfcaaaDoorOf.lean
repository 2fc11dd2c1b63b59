import Derived.Test.YtphehachmgfcaaaDoorMakeR
import Derived.Laws.AppendOwnNone
namespace Go.Proofs.YtphehachmgfcaaaDoor
open Go.RowKit
theorem nilRB' (w : World) : RB w (.slice none 0 0) [] := ⟨none, 0, rfl, .inl rfl⟩
def iz (zs : List Int) (i : Nat) : Int := zs.getD i 0
/-- the slice v of ints reads as the list zs -/
def RZ (w : World) (v : Value) (zs : List Int) : Prop :=
  (v = .slice none 0 0 ∧ zs = []) ∨ ∃ x c, v = .slice (some x) zs.length c ∧ (zs = [] ∨ ∃ g o, x = ⟨g, o, none⟩ ∧ g < w.heap.size ∧ ∀ i, i < zs.length → w.cell? ⟨g, o + i, none⟩ = some (.int .i64 (iz zs i)))
theorem RZ.form {w : World} {v : Value} {zs : List Int} (h : RZ w v zs) : ∃ a c, v = .slice a zs.length c ∧ (zs = [] ∨ ∃ g o, a = some ⟨g, o, none⟩ ∧ g < w.heap.size ∧ ∀ i, i < zs.length → w.cell? ⟨g, o + i, none⟩ = some (.int .i64 (iz zs i))) := by
  rcases h with ⟨rfl, rfl⟩ | ⟨x, c, rfl, h⟩
  · exact ⟨none, 0, rfl, .inl rfl⟩
  · refine ⟨some x, c, rfl, ?_⟩
    rcases h with h | ⟨g, o, rfl, h1, h2⟩
    · exact .inl h
    · exact .inr ⟨g, o, rfl, h1, h2⟩
theorem RZ.keep {w w' : World} {v : Value} {zs : List Int} (h : RZ w v zs) (hb : Below w.heap.size w w') : RZ w' v zs := by
  rcases h with h | ⟨x, c, rfl, h⟩
  · exact .inl h
  · refine .inr ⟨x, c, rfl, ?_⟩
    rcases h with h | ⟨g, o, rfl, h1, h2⟩
    · exact .inl h
    · exact .inr ⟨g, o, rfl, Nat.lt_of_lt_of_le h1 hb.size, fun i hi => (World.cell?_of_block (w := w) (hb.block g h1)).trans (h2 i hi)⟩
theorem info3 : (Tryd.prog.info? 3).map (fun i => (i.zero, i.size, i.bytes)) = some (some (.int .i64 0), 1, 8) := by kernel_rfl
/-- a list of ints that the call owns -/
def OZ (B : Nat) (w : World) (v : Value) (zs : List Int) : Prop := w.ownsRow B 3 1 v zs.length (zs.map (Value.int .i64))
theorem OZ.rz {B : Nat} {w : World} {v : Value} {zs : List Int} (h : OZ B w v zs) : RZ w v zs := by
  have h' := h
  rcases h.2 with ⟨rfl, h0⟩ | ⟨g, cap, cur, rfl, _, hg, _⟩
  · exact .inl ⟨rfl, List.length_eq_zero_iff.1 h0⟩
  · refine .inr ⟨_, cap, rfl, .inr ⟨g, 0, rfl, (Array.getElem?_eq_some_iff.1 hg).1, fun i hi => ?_⟩⟩
    have := World.ownsRow.cellAt h' i (by omega)
    rw [Nat.zero_add, this]
    simp [iz, List.getElem?_eq_getElem hi, List.getD]
theorem append_list {ops : Array Oper} {rest : List Oper} {o : Oper} {a : Act} {Q : Exit → Act → World → Prop} {w : World} {v : Value} {zs : List Int} (hgd : o.guard = none) (s x : Operand)
    (ho : o.op = .call { callee := .builtin .append, args := #[s, x], argTypes := #[31, 31] }) (hs : a.eval s = .slice none 0 0) (hx : a.eval x = v) (hr : RZ w v zs) (hl : zs.length ≤ 17592186043904)
    (h : ∀ v' w', OZ w.heap.size w' v' zs → Below w.heap.size w w' → wpList Tryd.prog ops Q rest (a.put o.dst v') w') : wpList Tryd.prog ops Q (o :: rest) a w := by
  obtain ⟨i0, hi, hz0, hz1, hz2⟩ := info_parts info3
  rcases hr with ⟨rfl, rfl⟩ | ⟨ad, c, rfl, hr⟩
  · exact wpList_append_own_none hgd s x 31 ho w.heap.size 3 i0 1 Tryd.underlying31 hi _ 0 [] hs (World.ownsRow_nil _ _ _ _) hx (h _ _ (World.ownsRow_nil _ _ _ _) (Below.refl _ _))
  · refine wpList_append_own w hgd s x 31 ho w.heap.size 3 i0 _ 1 8 Tryd.underlying31 hi hz0 hz1 hz2 rfl (by omega) _ 0 [] hs (World.ownsRow_nil _ _ _ _) ad zs.length c (zs.map (Value.int .i64)) hx (by simp) (fun j u hu => ?_) (fun u hu => ?_) (by unfold maxLen; omega) (by omega) (Nat.le_refl _) (fun v' w' h1 h2 _ => ?_)
    · have hj : j < zs.length := by simpa using (List.getElem?_eq_some_iff.1 hu).1
      rcases hr with rfl | ⟨g, o', rfl, _, hc⟩
      · simp at hj
      · have hadd : (⟨g, o', none⟩ : Addr).add j = ⟨g, o' + j, none⟩ := by unfold Addr.add; split <;> simp_all
        rw [hadd, hc j hj, ← hu]
        simp [iz, List.getElem?_eq_getElem hj, List.getD]
    · obtain ⟨z, _, rfl⟩ := List.mem_map.1 hu
      rfl
    · refine h v' w' ?_ ((Below.refl _ w).grown h2 (Nat.le_refl _) (fun k hk => by simp [Value.ownBlock] at hk))
      simpa [OZ] using h1
set_option maxHeartbeats 400000 in
theorem same19 (v1 v2 : Value) (l : List Int) (w : World) (hl : l.length ≤ 140737488351232) (h1 : RZ w v1 l) (h2 : RZ w v2 l) :
    Calls Tryd.prog 19 #[v1, v2] w fun e w' => e = .returned (.bool true) ∧ ∃ n, w' = w.drewN n := by
  obtain ⟨a1, c1, rfl, k1⟩ := h1.form
  obtain ⟨a2, c2, rfl, k2⟩ := h2.form
  have HH : Hid ((l = [] ∨ ∃ g o, a1 = some ⟨g, o, none⟩ ∧ g < w.heap.size ∧ ∀ i, i < l.length → w.cell? ⟨g, o + i, none⟩ = some (.int .i64 (iz l i))) ∧
     (l = [] ∨ ∃ g o, a2 = some ⟨g, o, none⟩ ∧ g < w.heap.size ∧ ∀ i, i < l.length → w.cell? ⟨g, o + i, none⟩ = some (.int .i64 (iz l i)))) := ⟨k1, k2⟩
  clear h1 h2 k1 k2
  generalize hn : l.length = n at *
  have HN : Hid (l.length = n) := hn
  clear hn
  go_enter Tryd.func19, Tryd.ntmps19
  go_wp2
  go_loopw [5] (fun i wr => ∃ k nq : Nat, k ≤ n ∧ i = .int .i64 k ∧ wr = w.drewN nq) (fun i _ => n - (intOf i).toNat)
  case atStart => exact ⟨0, 0, Nat.zero_le _, rfl, rfl⟩
  case round =>
    obtain ⟨k, nq, hk, rfl, rfl⟩ := hrel
    by_cases hlt : k < n
    · rcases HH.out.1 with h | ⟨g1, o1, rfl, _, h1⟩
      · have := HN.out; rw [h] at this; simp at this; omega
      rcases HH.out.2 with h | ⟨g2, o2, rfl, _, h2⟩
      · have := HN.out; rw [h] at this; simp at this; omega
      have g1 := h1 k hlt
      have g2 := h2 k hlt
      generalize iz l k = x at g1 g2
      clear h1 h2 HH HN
      go_wp2
      go_quiet (fail)
      go_wp2
      exact ⟨⟨k + 1, _, by omega, by go_num, rfl⟩, by simp [intOf]; omega⟩
    · go_wp2
      go_ret
      exact ⟨rfl, nq, rfl⟩
/-- one of the first k is i -/
def inn (zs : List Int) (k i : Nat) : Bool := (List.range k).any (fun j => iz zs j == (i : Int))
theorem inn_succ (zs : List Int) (k i : Nat) : inn zs (k + 1) i = (inn zs k i || iz zs k == (i : Int)) := by simp [inn, List.range_succ]
theorem inn_zero (zs : List Int) (i : Nat) : inn zs 0 i = false := by simp [inn]
theorem inn_beyond {zs : List Int} {k n i : Nat} (h : ∀ j, j < k → iz zs j < n) (hi : n ≤ i) : inn zs k i = false := by
  unfold inn
  rw [List.any_eq_false]
  intro j hj
  have := h j (List.mem_range.1 hj)
  simp; omega
/-- what Of answers -/
def OR (n : Nat) (zs : List Int) (l : List UInt8) (er : Int) : Prop :=
  (er = 43 ∧ l = [] ∧ ∃ k, k < zs.length ∧ (iz zs k < 0 ∨ n ≤ iz zs k)) ∨ (er = 0 ∧ (∀ k, k < zs.length → 0 ≤ iz zs k ∧ iz zs k < n) ∧ BF n (inn zs zs.length) l)
theorem OR.unique {n : Nat} {zs : List Int} {l l' : List UInt8} {er er' : Int} (h : OR n zs l er) (h' : OR n zs l' er') : l = l' ∧ er = er' := by
  rcases h with ⟨rfl, rfl, k, hk, h⟩ | ⟨rfl, h1, h2⟩
  · rcases h' with ⟨rfl, rfl, _⟩ | ⟨rfl, g1, _⟩
    · exact ⟨rfl, rfl⟩
    · have := g1 k hk; omega
  · rcases h' with ⟨rfl, rfl, k, hk, g⟩ | ⟨rfl, g1, g2⟩
    · have := h1 k hk; omega
    · exact ⟨BF.unique h2 g2 (fun _ _ => rfl), rfl⟩
theorem of17_no (n : Int) (h : n < 0 ∨ 65536 < n) (v : Value) (zs : List Int) (w : World) (hr : RZ w v zs) :
    Calls Tryd.prog 17 #[.int .i64 n, v] w fun e w' => e = .returned (.tuple #[.slice none 0 0, .int .i64 40]) ∧ w = w' := by
  obtain ⟨a, c, rfl, _⟩ := hr.form
  clear hr
  go_enter Tryd.func17, Tryd.ntmps17
  go_wp2_with (go_at_call 13; refine (make13_no n h _).mono ?_; rintro e w1 ⟨rfl, rfl⟩)
  go_ret2
  exact ⟨rfl, rfl⟩
set_option maxHeartbeats 2000000 in
theorem of17 (n : Nat) (h : n ≤ 65536) (v : Value) (zs : List Int) (w : World) (hr : RZ w v zs) (hl : zs.length ≤ 17592186043904) (hm : MT w) :
    Calls Tryd.prog 17 #[.int .i64 n, v] w fun e w' => ∃ v l er, e = .returned (.tuple #[v, .int .i64 er]) ∧ OW w.heap.size w' v l ∧ OR n zs l er ∧ Below w.heap.size w w' := by
  have HM : Hid (MT w) := hm
  obtain ⟨va, vc, rfl, kr⟩ := hr.form
  have HR : Hid (zs = [] ∨ ∃ g o, va = some ⟨g, o, none⟩ ∧ g < w.heap.size ∧ ∀ i, i < zs.length → w.cell? ⟨g, o + i, none⟩ = some (.int .i64 (iz zs i))) := kr
  clear hm hr kr
  generalize hN : zs.length = N at *
  have HN : Hid (zs.length = N) := hN
  clear hN
  go_enter Tryd.func17, Tryd.ntmps17
  go_wp2_with (go_at_call 13; refine (make13_ow n h _).mono ?_; rintro e w1 ⟨v, rfl, ho, hb⟩)
  obtain ⟨a, c, rfl⟩ := ho.form
  rw [List.length_replicate] at *
  go_wp2
  go_loopw [20] (fun t wr => ∃ (k : Nat) (l : List UInt8), k ≤ N ∧ t = .int .i64 k ∧ OW w.heap.size wr (.slice a ((n + 7) / 8) c) l ∧ l.length = (n + 7) / 8 ∧ (∀ i, bit l i = inn zs k i) ∧ (∀ j, j < k → 0 ≤ iz zs j ∧ iz zs j < n) ∧ Below w.heap.size w wr) (fun t _ => N - (intOf t).toNat)
  case atStart => exact ⟨0, _, Nat.zero_le _, rfl, ho, by simp, fun i => by rw [bit_zeros, inn_zero], fun j hj => absurd hj (Nat.not_lt_zero _), hb⟩
  case round =>
    clear ho hb
    obtain ⟨k, l, hk, rfl, ho, hlen, hbit, hin, hb⟩ := hrel
    by_cases hlt : k < N
    · rcases HR.out with hnil | ⟨g, o, rfl, hg, hc⟩
      · have := HN.out; rw [hnil] at this; simp at this; omega
      have hz := (hb.cell (p := ⟨g, o + k, none⟩) hg).trans (hc k hlt)
      have HI : Hid (∀ i, inn zs (k + 1) i = (inn zs k i || iz zs k == (i : Int))) := inn_succ zs k
      by_cases hbad : iz zs k < 0 ∨ (n : Int) ≤ iz zs k
      · have HO : Hid (Below w.heap.size w wr ∧ OR n zs [] 43) := ⟨hb, .inl ⟨rfl, rfl, k, by rw [HN.out]; exact hlt, hbad⟩⟩
        generalize iz zs k = z at *
        clear ho hlen hbit hin hb hc HR HI HM
        rcases hbad with hbad | hbad
        · go_wp2
          go_ret2
          exact ⟨_, [], 43, rfl, World.ownsRow_nil _ _ _ _, HO.out.2, HO.out.1⟩
        · go_wp2
          go_ret2
          exact ⟨_, [], 43, rfl, World.ownsRow_nil _ _ _ _, HO.out.2, HO.out.1⟩
      · obtain ⟨m, hmz⟩ := Int.eq_ofNat_of_zero_le (show 0 ≤ iz zs k by omega)
        have hmn : m < n := by omega
        obtain ⟨g2, rfl, hg2, h1, h2⟩ := ho.at (m / 8) (by omega)
        have h3 := (HM.out.keep hb).2 (m % 8) (Nat.mod_lt _ (by omega))
        have h4 := or_on (byt l (m / 8)) (m % 8)
        have HO : Hid (OW w.heap.size wr (.slice (some ⟨g2, 0, none⟩) ((n + 7) / 8) c) l ∧ l.length = (n + 7) / 8 ∧ (∀ i, bit l i = inn zs k i) ∧ Below w.heap.size w wr ∧ iz zs k = m ∧ ∀ j, j < k → 0 ≤ iz zs j ∧ iz zs j < n) := ⟨ho, hlen, hbit, hb, hmz, hin⟩
        have HS : Hid (∀ j, bit (l.set (m / 8) (on (byt l (m / 8)) (m % 8))) j = (decide (j = m) || bit l j)) := fun j => bit_set_on l m j (by omega)
        rw [hmz] at hz
        clear ho hlen hbit hb hin hbad hmz hc HR HN HM
        generalize on (byt l (m / 8)) (m % 8) = y at *
        generalize (byt l (m / 8)) = x at *
        generalize mk (m % 8) = mm at *
        have e1 : m / 8 < (n + 7) / 8 := by omega
        go_wp2
        go_region
        go_wp2
        refine ⟨⟨k + 1, l.set (m / 8) y, by omega, by go_num, (HO.out.1.drew _).stored _ _, by rw [List.length_set]; exact HO.out.2.1, ?_, ?_, (belowN HO.out.2.2.2.1 _).setCell (p := ⟨g2, m / 8, none⟩) hg2 _⟩, by simp [intOf]; omega⟩
        · intro i
          rw [HS.out, HO.out.2.2.1, HI.out, HO.out.2.2.2.2.1, Bool.or_comm]
          congr 1
          rw [Bool.eq_iff_iff]; simp; omega
        · intro j hj
          by_cases hjk : j = k
          · subst hjk; rw [HO.out.2.2.2.2.1]; omega
          · exact HO.out.2.2.2.2.2 j (by omega)
    · obtain rfl : k = N := by omega
      have hn := HN.out
      go_wp2
      go_ret2
      refine ⟨_, l, 0, rfl, ho, .inr ⟨rfl, by rw [hn]; exact hin, hlen, fun i => ?_⟩, hb⟩
      rw [hbit, hn]
      by_cases hi : i < n
      · simp [hi]
      · rw [inn_beyond (fun j hj => (hin j hj).2) (by omega)]; simp
theorem OB.stored {B g c : Nat} {w : World} {L : List Bool} {n : Nat} (h : OB B w (.slice (some ⟨g, 0, none⟩) n c) L) (j : Nat) (y : Bool) :
    OB B (w.setCell ⟨g, j, none⟩ (.bool y)) (.slice (some ⟨g, 0, none⟩) n c) (L.set j y) := by
  have hn := h.len
  subst hn
  have := (World.ownsRow.stored h j (.bool y)).1
  unfold OB
  rw [List.length_set]
  have e : (L.set j y).map Value.bool = (L.map Value.bool).set j (.bool y) := by simp [List.map_set]
  rw [e]; exact this
theorem lb_set (L : List Bool) (j i : Nat) (hj : j < L.length) : lb (L.set j true) i = (lb L i || decide (i = j)) := by
  unfold lb
  simp only [List.getD_eq_getElem?_getD, List.getElem?_set]
  by_cases h : j = i
  · subst h; simp [hj]
  · rw [if_neg h]
    have : ¬ i = j := fun e => h e.symm
    simp [this]
theorem of18_no (n : Int) (h : n < 0 ∨ 65536 < n) (v : Value) (zs : List Int) (w : World) (hr : RZ w v zs) :
    Calls Tryd.prog 18 #[.int .i64 n, v] w fun e w' => e = .returned (.tuple #[.slice none 0 0, .int .i64 40]) ∧ w = w' := by
  obtain ⟨a, c, rfl, _⟩ := hr.form
  clear hr
  rcases h with h | h
  · go_enter Tryd.func18, Tryd.ntmps18
    go_wp2
    go_ret2
    exact ⟨rfl, rfl⟩
  · go_enter Tryd.func18, Tryd.ntmps18
    go_wp2
    go_ret2
    exact ⟨rfl, rfl⟩
set_option maxHeartbeats 2000000 in
theorem of18 (n : Nat) (h : n ≤ 65536) (v : Value) (zs : List Int) (w : World) (hr : RZ w v zs) (hl : zs.length ≤ 17592186043904) :
    Calls Tryd.prog 18 #[.int .i64 n, v] w fun e w' => ∃ v l er, e = .returned (.tuple #[v, .int .i64 er]) ∧ OW w.heap.size w' v l ∧ OR n zs l er ∧ Below w.heap.size w w' := by
  obtain ⟨va, vc, rfl, kr⟩ := hr.form
  have HR : Hid (zs = [] ∨ ∃ g o, va = some ⟨g, o, none⟩ ∧ g < w.heap.size ∧ ∀ i, i < zs.length → w.cell? ⟨g, o + i, none⟩ = some (.int .i64 (iz zs i))) := kr
  clear hr kr
  generalize hN : zs.length = N at *
  have HN : Hid (zs.length = N) := hN
  clear hN
  obtain ⟨i0, hi, hz0, hz1, hz2⟩ := info_parts info4
  have hmk : ∀ u : World, (Instr.makeSlice 53 (.int .i64 (n : Int)) (.int .i64 (n : Int))).run Tryd.prog u =
      .ok (.slice (some ⟨u.heap.size, 0, none⟩) n n) (u.alloc (.cells (madeCells #[.bool false] n) 4)) := fun u => by
    have h := run_make (P := Tryd.prog) u 53 4 i0 (.bool false) Tryd.underlying53 hi hz0 .i64 .i64 (n : Int) (n : Int) (by omega) (by omega) (by rw [hz2]; omega) (by omega)
    rw [hz1] at h
    simpa only [Value.cells, Int.toNat_natCast, Nat.mul_one] using h
  have HO0 : Hid (OB w.heap.size (w.alloc (.cells (madeCells #[.bool false] n) 4)) (.slice (some ⟨w.heap.size, 0, none⟩) n n) (List.replicate n false)) := OB.falses w n (by omega)
  clear hi hz0 hz1 hz2
  go_enter Tryd.func18, Tryd.ntmps18
  go_wp2
  clear hmk
  go_loopw [7] (fun t wr => ∃ (k : Nat) (L : List Bool), k ≤ N ∧ t = .int .i64 k ∧ OB w.heap.size wr (.slice (some ⟨w.heap.size, 0, none⟩) n n) L ∧ (∀ i, lb L i = inn zs k i) ∧ (∀ j, j < k → 0 ≤ iz zs j ∧ iz zs j < n) ∧ Below w.heap.size w wr) (fun t _ => N - (intOf t).toNat)
  case atStart => exact ⟨0, _, Nat.zero_le _, rfl, HO0.out, fun i => by rw [lb_falses, inn_zero], fun j hj => absurd hj (Nat.not_lt_zero _), (Below.refl _ _).alloc (Nat.le_refl _) _⟩
  case round =>
    clear HO0
    obtain ⟨k, L, hk, rfl, ho, hbit, hin, hb⟩ := hrel
    by_cases hlt : k < N
    · rcases HR.out with hnil | ⟨g, o, rfl, hg, hc⟩
      · have := HN.out; rw [hnil] at this; simp at this; omega
      have hz := (hb.cell (p := ⟨g, o + k, none⟩) hg).trans (hc k hlt)
      have HI : Hid (∀ i, inn zs (k + 1) i = (inn zs k i || iz zs k == (i : Int))) := inn_succ zs k
      by_cases hbad : iz zs k < 0 ∨ (n : Int) ≤ iz zs k
      · have HO : Hid (Below w.heap.size w wr ∧ OR n zs [] 43) := ⟨hb, .inl ⟨rfl, rfl, k, by rw [HN.out]; exact hlt, hbad⟩⟩
        generalize iz zs k = z at *
        clear ho hbit hin hb hc HR HI
        rcases hbad with hbad | hbad
        · go_wp2
          go_ret2
          exact ⟨_, [], 43, rfl, World.ownsRow_nil _ _ _ _, HO.out.2, HO.out.1⟩
        · go_wp2
          go_ret2
          exact ⟨_, [], 43, rfl, World.ownsRow_nil _ _ _ _, HO.out.2, HO.out.1⟩
      · obtain ⟨m, hmz⟩ := Int.eq_ofNat_of_zero_le (show 0 ≤ iz zs k by omega)
        have hmn : m < n := by omega
        obtain ⟨g2, hg2, _, _, h1, h2⟩ := ho.at m hmn
        simp only [Option.some.injEq, Addr.mk.injEq, and_true] at hg2
        subst hg2
        have HO : Hid (OB w.heap.size wr (.slice (some ⟨w.heap.size, 0, none⟩) n n) L ∧ (∀ i, lb L i = inn zs k i) ∧ Below w.heap.size w wr ∧ iz zs k = m ∧ ∀ j, j < k → 0 ≤ iz zs j ∧ iz zs j < n) := ⟨ho, hbit, hb, hmz, hin⟩
        rw [hmz] at hz
        clear ho hbit hb hin hbad hmz hc HR HN
        generalize lb L m = old at *
        go_wp2
        refine ⟨⟨k + 1, L.set m true, by omega, by go_num, HO.out.1.stored _ _, ?_, ?_, HO.out.2.2.1.setCell (p := ⟨w.heap.size, m, none⟩) (Nat.le_refl _) _⟩, by simp [intOf]; omega⟩
        · intro i
          rw [lb_set L m i (by have := HO.out.1.len; omega), HO.out.2.1, HI.out, HO.out.2.2.2.1]
          congr 1
          rw [Bool.eq_iff_iff]; simp; omega
        · intro j hj
          by_cases hjk : j = k
          · subst hjk; rw [HO.out.2.2.2.1]; omega
          · exact HO.out.2.2.2.2 j (by omega)
    · obtain rfl : k = N := by omega
      have hn := HN.out
      have hB := hb.size
      have HP : Hid (Calls Tryd.prog 31 #[.slice (some ⟨w.heap.size, 0, none⟩) n n] wr fun e w' => ∃ v' l, e = .returned v' ∧ OW w.heap.size w' v' l ∧ BF n (lb L) l ∧ Below w.heap.size wr w') :=
        pack31B _ n _ _ _ ho.ro ho.len.symm (by omega) hB
      have HO : Hid (Below w.heap.size w wr ∧ (∀ i, lb L i = inn zs k i) ∧ ∀ j, j < k → 0 ≤ iz zs j ∧ iz zs j < n) := ⟨hb, hbit, hin⟩
      clear ho hb hbit hin
      go_wp2_with (go_at_call 31; refine HP.out.mono ?_; rintro e w1 ⟨v', l, rfl, ho, hbf, hb2⟩)
      obtain ⟨a', c', rfl⟩ := ho.form
      go_ret2
      refine ⟨_, l, 0, rfl, ho, .inr ⟨rfl, by rw [hn]; exact HO.out.2.2, hbf.1, fun i => ?_⟩, HO.out.1.trans hb2⟩
      rw [hbf.2, HO.out.2.1, hn]
set_option maxHeartbeats 2000000 in
theorem ofs5 (n : Int) (h0 : -9223372036854775808 ≤ n) (h1 : n ≤ 9223372036854775807) (v : Value) (zs : List Int) (w : World) (hr : RZ w v zs) (hm : MT w) (hl : zs.length ≤ 17592186043904) :
    Calls Tryd.prog 5 #[.int .i64 n, v] w fun e w' => e = .returned (.bool true) ∧ Below w.heap.size w w' := by
  have HR : Hid (RZ w v zs ∧ MT w) := ⟨hr, hm⟩
  clear hm
  obtain ⟨a, c, rfl, _⟩ := hr.form
  clear hr
  go_enter Tryd.func5, Tryd.ntmps5
  go_wp2_with (at_builtin; refine append_list rfl _ _ rfl rfl rfl HR.out.1 hl ?_; (intro v1 w1 ho hb1; obtain ⟨a1, c1, rfl, _⟩ := ho.rz.form))
  have HO : Hid (RZ w1 (.slice a1 zs.length c1) zs ∧ RZ w1 (.slice a zs.length c) zs ∧ MT w1 ∧ Below w.heap.size w w1) := ⟨ho.rz, HR.out.1.keep hb1, HR.out.2.keep hb1, hb1⟩
  clear ho hb1 HR
  by_cases h : n < 0 ∨ 65536 < n
  · have HH : Hid (n < 0 ∨ 65536 < n) := h
    clear h
    go_wp2_with (first
      | (go_at_call 17; refine (of17_no n HH.out _ _ _ HO.out.1).mono ?_; rintro e w2 ⟨rfl, rfl⟩)
      | (go_at_call 18; refine (of18_no n HH.out _ _ _ HO.out.2.1).mono ?_; rintro e w2 ⟨rfl, rfl⟩)
      | (go_at_call 12; refine (same12 _ _ [] _ (by simp) (nilRB' _) (nilRB' _)).mono ?_; rintro e w2 ⟨rfl, nq, rfl⟩)
      | (go_at_call 19; refine (same19 _ _ zs _ (by omega) (HO.out.1.keep (belowDrew _ _)) (HO.out.2.1.keep (belowDrew _ _))).mono ?_; rintro e w2 ⟨rfl, nq2, rfl⟩))
    go_ret
    exact ⟨rfl, belowN HO.out.2.2.2 _⟩
  · obtain ⟨m, rfl⟩ := Int.eq_ofNat_of_zero_le (show 0 ≤ n by omega)
    have hm2 : m ≤ 65536 := by omega
    clear h h0 h1
    go_wp2_with (go_at_call 17; refine (of17 m hm2 _ _ _ HO.out.1 hl HO.out.2.2.1).mono ?_; rintro e w2 ⟨v2, l2, er2, rfl, ho2, hor2, hb2⟩; obtain ⟨a2, c2, rfl⟩ := ho2.form)
    have HQ : Hid (RB w2 (.slice a2 l2.length c2) l2 ∧ OR m zs l2 er2 ∧ RZ w2 (.slice a1 zs.length c1) zs ∧ RZ w2 (.slice a zs.length c) zs ∧ Below w.heap.size w w2) := ⟨ho2.rb, hor2, HO.out.1.keep hb2, HO.out.2.1.keep hb2, HO.out.2.2.2.trans (hb2.mono HO.out.2.2.2.size)⟩
    clear ho2 hor2 hb2 HO
    go_wp2_with (go_at_call 18; refine (of18 m hm2 _ _ _ HQ.out.2.2.2.1 hl).mono ?_; rintro e w3 ⟨v3, l3, er3, rfl, ho3, hor3, hb3⟩; obtain ⟨rfl, rfl⟩ := OR.unique HQ.out.2.1 hor3; obtain ⟨a3, c3, rfl⟩ := ho3.form)
    have hlen : l2.length ≤ 140737488351232 := by
      rcases hor3 with ⟨_, rfl, _⟩ | ⟨_, _, hbf⟩
      · simp
      · have := hbf.1; omega
    have HE : Hid (RB w3 (.slice a2 l2.length c2) l2 ∧ RB w3 (.slice a3 l2.length c3) l2 ∧ RZ w3 (.slice a1 zs.length c1) zs ∧ RZ w3 (.slice a zs.length c) zs ∧ Below w.heap.size w w3) := ⟨HQ.out.1.keep hb3, ho3.rb, HQ.out.2.2.1.keep hb3, HQ.out.2.2.2.1.keep hb3, HQ.out.2.2.2.2.trans (hb3.mono HQ.out.2.2.2.2.size)⟩
    clear ho3 hor3 hb3 HQ
    refine (same12 _ _ l2 _ hlen HE.out.1 HE.out.2.1).mono ?_
    rintro e w4 ⟨rfl, nq, rfl⟩
    go_wp2_with (go_at_call 19; refine (same19 _ _ zs _ (by omega) (HE.out.2.2.1.keep (belowDrew _ _)) (HE.out.2.2.2.1.keep (belowDrew _ _))).mono ?_; rintro e w5 ⟨rfl, nq2, rfl⟩)
    go_ret
    exact ⟨rfl, belowN HE.out.2.2.2.2 _⟩
end Go.Proofs.YtphehachmgfcaaaDoor
