import Derived.Test.YtkeemkjokdbhlaaGreatDoorMakeR
import Derived.Test.YtkeemkjokdbhlaaGreatDoorGoodRef
import Derived.Deep.MidRow
import Derived.Lib.SmallJoins
namespace Go.Proofs.YtkeemkjokdbhlaaGreatDoor
open Go.RowKit
def iz (zs : List Int) (i : Nat) : Int := zs.getD i 0
/-- the slice v of ints reads as the list zs -/
def RZ (w : World) (v : Value) (zs : List Int) : Prop :=
  ∃ a c, v = .slice a zs.length c ∧ (a = none → zs = []) ∧ (zs = [] ∨ ∃ g o, a = some ⟨g, o, none⟩ ∧ g < w.heap.size ∧ ∀ i, i < zs.length → w.cell? ⟨g, o + i, none⟩ = some (.int .i64 (iz zs i)))
theorem RZ.keep {w w' : World} {v : Value} {zs : List Int} (h : RZ w v zs) (hb : Below w.heap.size w w') : RZ w' v zs := by
  obtain ⟨a, c, rfl, h0, h⟩ := h
  refine ⟨a, c, rfl, h0, ?_⟩
  rcases h with h | ⟨g, o, rfl, h1, h2⟩
  · exact .inl h
  · exact .inr ⟨g, o, rfl, Nat.lt_of_lt_of_le h1 hb.size, fun i hi => (World.cell?_of_block (w := w) (hb.block g h1)).trans (h2 i hi)⟩
theorem info3 : (Tryz.prog.info? 3).map (fun i => (i.zero, i.size, i.bytes)) = some (some (.int .i64 0), 1, 8) := by kernel_rfl
/-- a list of ints that the call owns -/
def OZ (B : Nat) (w : World) (v : Value) (zs : List Int) : Prop := w.ownsRow B 3 1 v zs.length (zs.map (Value.int .i64))
theorem OZ.form {B : Nat} {w : World} {v : Value} {zs : List Int} (h : OZ B w v zs) : ∃ a c, v = .slice a zs.length c := by
  rcases h.2 with ⟨h1, h2⟩ | ⟨g, cap, cur, h1, h2, h3, _⟩
  · exact ⟨none, 0, by rw [h1, h2]⟩
  · exact ⟨_, _, h1⟩
theorem OZ.grow {B : Nat} {w w' : World} {v : Value} {zs : List Int} (h : OZ B w v zs) (hb : Below w.heap.size w w') : OZ B w' v zs := by
  refine ⟨h.1, ?_⟩
  rcases h.2 with h1 | ⟨g, cap, cur, h1, h2, h3, h4⟩
  · exact .inl h1
  · exact .inr ⟨g, cap, cur, h1, h2, (hb.block g (Array.getElem?_eq_some_iff.1 h3).1).trans h3, h4⟩
theorem OZ.rz {B : Nat} {w : World} {v : Value} {zs : List Int} (h : OZ B w v zs) : RZ w v zs := by
  have h' := h
  rcases h.2 with ⟨rfl, h0⟩ | ⟨g, cap, cur, rfl, _, hg, _⟩
  · have e := List.length_eq_zero_iff.1 h0
    exact ⟨none, 0, by rw [h0], fun _ => e, .inl e⟩
  · refine ⟨_, cap, rfl, (fun hh => by cases hh), .inr ⟨g, 0, rfl, (Array.getElem?_eq_some_iff.1 hg).1, fun i hi => ?_⟩⟩
    have := World.ownsRow.cellAt h' i (by omega)
    rw [Nat.zero_add, this]
    simp [iz, List.getElem?_eq_getElem hi, List.getD]
theorem OZ.at {B : Nat} {w : World} {a : Option Addr} {n c : Nat} {zs : List Int} (h : OZ B w (.slice a n c) zs) (q : Nat) (hq : q < n) :
    ∃ g, a = some ⟨g, 0, none⟩ ∧ B ≤ g ∧ g < w.heap.size ∧ w.cell? ⟨g, q, none⟩ = some (.int .i64 (iz zs q)) ∧ w.frozen? ⟨g, q, none⟩ = false := by
  have hn : n = zs.length := by
    rcases h.2 with ⟨h1, h2⟩ | ⟨g, cap, cur, h1, h2, h3, _⟩
    · simp only [Value.slice.injEq] at h1; omega
    · simp only [Value.slice.injEq] at h1; exact h1.2.1
  subst hn
  rcases h.2 with ⟨h1, h2⟩ | ⟨g, cap, cur, h1, h2, h3, _⟩
  · simp only [Value.slice.injEq] at h1; omega
  · simp only [Value.slice.injEq] at h1
    obtain ⟨rfl, _, rfl⟩ := h1
    refine ⟨g, rfl, h2, (Array.getElem?_eq_some_iff.1 h3).1, ?_, World.ownsRow.frozenAt h q⟩
    have := World.ownsRow.cellAt h q (by omega)
    rw [this]
    simp [iz, List.getElem?_eq_getElem hq, List.getD]
theorem OZ.stored {B g c n : Nat} {w : World} {zs : List Int} (h : OZ B w (.slice (some ⟨g, 0, none⟩) n c) zs) (j : Nat) (y : Int) :
    OZ B (w.setCell ⟨g, j, none⟩ (.int .i64 y)) (.slice (some ⟨g, 0, none⟩) n c) (zs.set j y) := by
  have hn : n = zs.length := by
    obtain ⟨_, _, h⟩ := h.form
    simp at h; exact h.2.1
  subst hn
  have := (World.ownsRow.stored h j (.int .i64 y)).1
  unfold OZ
  rw [List.length_set]
  have e : (zs.set j y).map (Value.int .i64) = (zs.map (Value.int .i64)).set j (.int .i64 y) := by simp [List.map_set]
  rw [e]; exact this
theorem append_nothing {w : World} {B : Nat} {v : Value} {n : Nat} {xs : List Value} (ty : TypeId) (c : Nat) (hown : w.ownsRow B 3 1 v n xs) :
    (Builtin.append_ #[26, 26] ty #[v, .slice none 0 c]).run Tryz.prog w = .ok v w := by
  obtain ⟨i0, hi, hz0, hz1, hz2⟩ := info_parts info3
  rcases hown.2 with ⟨rfl, rfl⟩ | ⟨g, cap, cur, rfl, _, _, hnc, _⟩
  · simp [Builtin.append_, run_underlying Tryz.underlying26, sizeOf, typeInfo, hi, Builtin.lenOf, Builtin.firstCells]
  · simp [Builtin.append_, run_underlying Tryz.underlying26, sizeOf, typeInfo, hi, Builtin.lenOf, Builtin.firstCells, hnc, storeCells]
/-- append(x, y...) where x is the call's own -/
theorem append_ints {ops : Array Oper} {rest : List Oper} {o : Oper} {a : Act} {Q : Exit → Act → World → Prop} {w : World} {B : Nat} {sv xv : Value} {l m : List Int} (hgd : o.guard = none) (s x : Operand)
    (ho : o.op = .call { callee := .builtin .append, args := #[s, x], argTypes := #[26, 26] }) (hs : a.eval s = sv) (hown : OZ B w sv l) (hx : a.eval x = xv)
    (hr : RZ w xv m) (hB : B ≤ w.heap.size) (hlim : (l.length + m.length) * 8 ≤ 140737488351232)
    (h : ∀ v' w', OZ B w' v' (l ++ m) → Below B w w' → wpList Tryz.prog ops Q rest (a.put o.dst v') w') : wpList Tryz.prog ops Q (o :: rest) a w := by
  obtain ⟨i0, hi, hz0, hz1, hz2⟩ := info_parts info3
  obtain ⟨ad, c, rfl, _, hr⟩ := hr
  have hm : ∀ b off, ad = some ⟨b, off, none⟩ ∧ (∀ i, i < m.length → w.cell? ⟨b, off + i, none⟩ = some (.int .i64 (iz m i))) → wpList Tryz.prog ops Q (o :: rest) a w := by
    rintro b off ⟨rfl, hc⟩
    refine wpList_append_own w hgd s x 26 ho B 3 i0 _ 1 8 Tryz.underlying26 hi hz0 hz1 hz2 rfl (by omega) sv l.length (l.map (Value.int .i64)) hs hown ⟨b, off, none⟩ m.length c (m.map (Value.int .i64)) hx (by simp) (fun j u hu => ?_) (fun u hu => ?_) (by unfold maxLen; omega) (by omega) hB (fun v' w' h1 h2 _ => ?_)
    · have hj' : j < m.length := by
        have := (List.getElem?_eq_some_iff.1 hu).1
        simpa using this
      have hadd : (⟨b, off, none⟩ : Addr).add j = ⟨b, off + j, none⟩ := by unfold Addr.add; split <;> simp_all
      rw [hadd, hc j hj']
      simpa [iz, List.getD, List.getElem?_eq_getElem hj'] using hu
    · obtain ⟨z, _, rfl⟩ := List.mem_map.1 hu
      rfl
    · refine h v' w' ?_ ((Below.refl B w).grown h2 hB (fun k hk => (World.ownsRow.lt hown k hk).1))
      rw [← List.map_append] at h1
      simpa [OZ] using h1
  rcases hr with rfl | ⟨b, off, rfl, _, hc⟩
  · cases ad with
    | none =>
      refine wpList_plain hgd fun K hK => ?_
      have hrun := append_nothing o.type c hown
      simp only [List.length_nil] at hx
      unfold Oper.wp
      simp [execOp, ho, resolve, invoke, builtin, hs, hx, hrun, Result.andThen]
      exact hK _ _ (h _ _ (by rw [List.append_nil]; exact hown) (Below.refl _ _))
    | some ad =>
      refine wpList_append_own w hgd s x 26 ho B 3 i0 _ 1 8 Tryz.underlying26 hi hz0 hz1 hz2 rfl (by omega) sv l.length (l.map (Value.int .i64)) hs hown ad 0 c [] hx (by simp) (fun j u hu => by simp at hu) (fun u hu => by cases hu) (by unfold maxLen; simp at hlim; omega) (by simp at hlim; omega) hB (fun v' w' h1 h2 _ => ?_)
      refine h v' w' ?_ ((Below.refl B w).grown h2 hB (fun k hk => (World.ownsRow.lt hown k hk).1))
      rw [List.append_nil] at h1 ⊢
      simpa [OZ] using h1
  · exact hm b off ⟨rfl, hc⟩
set_option maxHeartbeats 1000000 in
theorem clone12 (v : Value) (l : List Int) (w : World) (hr : RZ w v l) (hl : l.length * 8 ≤ 140737488351232) :
    Calls Tryz.prog 12 #[v] w fun e w' => ∃ v', e = .returned v' ∧ OZ w.heap.size w' v' l ∧ Below w.heap.size w w' := by
  have HR : Hid (RZ w v l) := hr
  obtain ⟨a, c, rfl, h0, hr⟩ := hr
  cases a with
  | none =>
    have e := h0 rfl
    subst e
    have hq := fun u : World => Lib.run_eql_slice_nil (P := Tryz.prog) u 26 3 none 0 c 0 0 Tryz.underlying26
    clear HR hr h0
    go_enter Tryz.func12, Tryz.ntmps12
    go_wp2
    go_ret
    exact ⟨_, rfl, World.ownsRow_nil _ _ _ _, Below.refl _ _⟩
  | some x =>
    have hq := fun u : World => Lib.run_eql_slice_nil (P := Tryz.prog) u 26 3 (some x) l.length c 0 0 Tryz.underlying26
    clear hr h0
    have hb0 : Below w.heap.size w (w.alloc (.cells #[] 3)) := (Below.refl _ _).alloc (Nat.le_refl _) _
    have HO : Hid (OZ w.heap.size (w.alloc (.cells #[] 3)) (.slice (some ⟨w.heap.size, 0, none⟩) 0 0) [] ∧ RZ (w.alloc (.cells #[] 3)) (.slice (some x) l.length c) l ∧ Below w.heap.size w (w.alloc (.cells #[] 3))) :=
      ⟨World.ownsRow_lit w #[] 0 (Nat.le_refl _) (Nat.zero_le _) rfl, HR.out.keep hb0, hb0⟩
    clear hb0
    go_enter Tryz.func12, Tryz.ntmps12
    go_wp2_with (at_builtin; refine append_ints rfl _ _ rfl rfl HO.out.1 rfl HO.out.2.1 (by simp) (by simp; omega) ?_; intro v' w1 ho1 hb1)
    rw [List.nil_append] at ho1
    obtain ⟨a', c', rfl⟩ := ho1.form
    go_ret
    exact ⟨_, rfl, ho1, HO.out.2.2.trans hb1⟩
theorem fnew13 (w : World) : Calls Tryz.prog 13 #[.bool true] w fun e w' => ∃ p, e = .returned (.pointer (some p)) ∧ Below w.heap.size w w' := by
  go_enter Tryz.func13, Tryz.ntmps13
  go_wp2
  go_ret
  exact ⟨_, rfl, (Below.refl _ _).alloc (Nat.le_refl _) _⟩
theorem rnew15 (w : World) : Calls Tryz.prog 15 #[.bool true] w fun e w' => ∃ p, e = .returned (.pointer (some p)) ∧ Below w.heap.size w w' := by
  go_enter Tryz.func15, Tryz.ntmps15
  go_wp2
  go_ret
  exact ⟨_, rfl, (Below.refl _ _).alloc (Nat.le_refl _) _⟩
/-- a length that no piece has -/
def bad (b n : Int) : Bool := decide (n < 1) || decide (1024 * b < n)
set_option maxHeartbeats 1000000 in
theorem wrong9 (n b : Int) (h0 : 64 ≤ b) (h1 : b ≤ 16384) (B : Nat) (w : World) (hc : w.cell? ⟨B, 0, none⟩ = some (.int .i64 b)) :
    Calls Tryz.prog 9 #[.int .i64 n, .pointer (some ⟨B, 0, none⟩)] w fun e w' => e = .returned (.bool (bad b n)) ∧ w' = w := by
  by_cases c1 : n < 1
  · have e : bad b n = true := by unfold bad; simp [c1]
    rw [e]
    clear e
    go_enter Tryz.func9, Tryz.ntmps9
    go_wp2
    go_ret
    exact ⟨rfl, rfl⟩
  · by_cases c2 : 1024 * b < n
    · have e : bad b n = true := by unfold bad; simp [c2]
      rw [e]
      clear e
      go_enter Tryz.func9, Tryz.ntmps9
      go_wp2
      go_ret
      exact ⟨rfl, rfl⟩
    · have e : bad b n = false := by unfold bad; simp [c1, c2]
      rw [e]
      clear e
      go_enter Tryz.func9, Tryz.ntmps9
      go_wp2
      go_ret
      exact ⟨rfl, rfl⟩
end Go.Proofs.YtkeemkjokdbhlaaGreatDoor
