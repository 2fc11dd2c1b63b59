import Derived.Test.YtjhnkdhbjpddcaaDoorIter
import Derived.Test.YtjhnkdhbjpddcaaDoorCheck
namespace Go.Proofs.YtjhnkdhbjpddcaaDoor
open Go.RowKit Go.Shelf
theorem append_bytes {ops : Array Oper} {rest : List Oper} {o : Oper} {a : Act} {Q : Exit → Act → World → Prop} {w : World} {B : Nat} {sv : Value} {ad : Addr} {c : Nat} {l : List UInt8} (hgd : o.guard = none) (s x : Operand)
    (ho : o.op = .call { callee := .builtin .append, args := #[s, x], argTypes := #[22, 22] }) (hs : a.eval s = sv) (hown : OW B w sv []) (hx : a.eval x = .slice (some ad) l.length c) (hr : RB w (.slice (some ad) l.length c) l) (hB : B ≤ w.heap.size) (hl : l.length ≤ 140737488351232)
    (h : ∀ v' w', OW B w' v' l → Below B w w' → wpList Tryd.prog ops Q rest (a.put o.dst v') w') : wpList Tryd.prog ops Q (o :: rest) a w := by
  obtain ⟨i0, hi, hz0, hz1, hz2⟩ := info_parts info5
  obtain ⟨a', c', he, hr⟩ := hr
  injection he with e1 e2 e3
  subst e1 e3
  refine wpList_append_own w hgd s x 22 ho B 5 i0 _ 1 1 Tryd.underlying22 hi hz0 hz1 hz2 rfl (by omega) _ 0 [] hs hown ad l.length c (Lib.byteCells l) hx (by simp [Lib.byteCells]) (fun j u hu => ?_) (fun u hu => ?_) (by unfold maxLen; omega) (by omega) hB (fun v' w' h1 h2 _ => ?_)
  · have hj : j < l.length := by simpa [Lib.byteCells] using (List.getElem?_eq_some_iff.1 hu).1
    rcases hr with rfl | ⟨g, o', he, _, hc⟩
    · simp at hj
    · simp only [Option.some.injEq] at he
      subst he
      have hadd : (⟨g, o', none⟩ : Addr).add j = ⟨g, o' + j, none⟩ := by unfold Addr.add; split <;> simp_all
      rw [hadd, hc j hj, ← hu, getD_byt l j hj]
      simp [Lib.byteCells, List.getElem?_eq_getElem hj]
  · unfold Lib.byteCells at hu
    obtain ⟨z, _, rfl⟩ := List.mem_map.1 hu
    rfl
  · refine h v' w' ?_ ((Below.refl B w).grown h2 hB (fun k hk => (World.ownsRow.lt hown k hk).1))
    simpa [OW] using h1
set_option maxHeartbeats 1000000 in
theorem clone34 (v : Value) (l : List UInt8) (w : World) (hr : RB w v l) (hl : l.length ≤ 140737488351232) :
    Calls Tryd.prog 30 #[v] w fun e w' => ∃ v', e = .returned v' ∧ OW w.heap.size w' v' l ∧ Below w.heap.size w w' := by
  have HR : Hid (RB w v l) := hr
  obtain ⟨a, c, rfl, hr⟩ := hr
  cases a with
  | none =>
    rcases hr with rfl | ⟨g, o, h, _⟩
    · have hq := fun u : World => Lib.run_eql_slice_nil (P := Tryd.prog) u 22 5 none 0 c 0 0 Tryd.underlying22
      clear HR
      go_enter Tryd.func30, Tryd.ntmps30
      go_wp2
      go_ret
      exact ⟨_, rfl, World.ownsRow_nil _ _ _ _, Below.refl _ _⟩
    · cases h
  | some x =>
    have hq := fun u : World => Lib.run_eql_slice_nil (P := Tryd.prog) u 22 5 (some x) l.length c 0 0 Tryd.underlying22
    clear hr
    have hb0 : Below w.heap.size w (w.alloc (.cells #[] 5)) := (Below.refl _ _).alloc (Nat.le_refl _) _
    have HO : Hid (OW w.heap.size (w.alloc (.cells #[] 5)) (.slice (some ⟨w.heap.size, 0, none⟩) 0 0) [] ∧ RB (w.alloc (.cells #[] 5)) (.slice (some x) l.length c) l ∧ Below w.heap.size w (w.alloc (.cells #[] 5))) :=
      ⟨World.ownsRow_lit w #[] 0 (Nat.le_refl _) (Nat.zero_le _) rfl, HR.out.keep hb0, hb0⟩
    clear hb0
    go_enter Tryd.func30, Tryd.ntmps30
    go_wp2_with (at_builtin; refine append_bytes rfl _ _ rfl rfl HO.out.1 rfl HO.out.2.1 (by simp) hl ?_; intro v' w1 ho1 hb1)
    obtain ⟨a', c', rfl⟩ := ho1.form
    go_ret
    exact ⟨_, rfl, ho1, HO.out.2.2.trans hb1⟩
set_option maxHeartbeats 1000000 in
theorem walk26_no (n : Int) (h0 : -9223372036854775808 ≤ n) (h1 : n ≤ 9223372036854775807) (v : Value) (l : List UInt8) (w : World) (hr : RB w v l) (hm : MT w) (hl : l.length ≤ 140737488351232) (hck : ck n l ≠ 0) :
    Calls Tryd.prog 16 #[.int .i64 n, v] w fun e w' => e = .returned (.func (.func 29) #[] #[]) ∧ ∃ nq, w' = w.drewN nq := by
  have HC : Hid (Calls Tryd.prog 8 #[.int .i64 n, v] w fun e w' => e = .returned (.int .i64 (ck n l)) ∧ ∃ nq, w' = w.drewN nq) := check10 n h0 h1 v l w hr hm hl
  obtain ⟨a, c, rfl, _⟩ := hr
  have hz : (ck n l != 0) = true := by simpa using hck
  clear hck hm
  generalize ck n l = z at *
  go_enter Tryd.func16, Tryd.ntmps16
  go_wp2_with (go_at_call 8; refine HC.out.mono ?_; rintro e w1 ⟨rfl, nq, rfl⟩)
  go_ret
  exact ⟨rfl, _, rfl⟩
/-- what Walk answers: a function over a copy -/
def WP (l : List UInt8) (B : Nat) (w : World) (r : Value) : Prop :=
  ∃ Bs v, r = .func (.func 31) #[] #[.pointer (some ⟨Bs, 0, none⟩)] ∧ B ≤ Bs ∧ Bs < w.heap.size ∧ w.cell? ⟨Bs, 0, none⟩ = some v ∧ OW B w v l
set_option maxHeartbeats 1000000 in
theorem walk26 (n : Int) (h0 : -9223372036854775808 ≤ n) (h1 : n ≤ 9223372036854775807) (v : Value) (l : List UInt8) (w : World) (hr : RB w v l) (hm : MT w) (hl : l.length ≤ 140737488351232) (hck : ck n l = 0) :
    Calls Tryd.prog 16 #[.int .i64 n, v] w fun e w' => ∃ r, e = .returned r ∧ WP l w.heap.size w' r ∧ Below w.heap.size w w' := by
  have HC : Hid (Calls Tryd.prog 8 #[.int .i64 n, v] w fun e w' => e = .returned (.int .i64 (ck n l)) ∧ ∃ nq, w' = w.drewN nq) := check10 n h0 h1 v l w hr hm hl
  have HR : Hid (RB w v l) := hr
  rw [hck] at HC
  obtain ⟨a, c, rfl, _⟩ := hr
  clear hck hm
  go_enter Tryd.func16, Tryd.ntmps16
  go_wp2_with (first | (go_at_call 8; refine HC.out.mono ?_; rintro e w1 ⟨rfl, nq, rfl⟩) | (go_at_call 30; refine (clone34 _ l _ (HR.out.keep (belowDrew _ _)) hl).mono ?_; rintro e w2 ⟨v2, rfl, ho2, hb2⟩; obtain ⟨a2, c2, rfl⟩ := ho2.form))
  go_ret
  have hc : (w2.alloc (.cells #[.slice a2 l.length c2] 22)).cell? ⟨w2.heap.size, 0, none⟩ = some (.slice a2 l.length c2) := (Boxed.new w2 22 _).cell
  exact ⟨_, rfl, ⟨w2.heap.size, _, rfl, hb2.size, by simp, hc, ho2.alloc _⟩, (belowDrew w nq).trans (hb2.alloc hb2.size _)⟩
/-- the copy's block -/
theorem OW.split {B Bs : Nat} {w : World} {v : Value} {l : List UInt8} (h : OW B w v l) (hB : B ≤ Bs) (hl : Bs < w.heap.size) :
    ∃ g, (∃ a c, v = .slice a l.length c ∧ (l = [] ∨ a = some ⟨g, 0, none⟩ ∧ g < w.heap.size ∧ ∀ i, i < l.length → w.cell? ⟨g, i, none⟩ = some (.int .u8 ((byt l i).toNat : Int)))) ∧ B ≤ g ∧ g < w.heap.size := by
  have h' := h
  rcases h.2 with ⟨rfl, h0⟩ | ⟨g, cap, cur, rfl, hg, hh, _⟩
  · exact ⟨Bs, ⟨none, 0, by rw [h0], .inl (List.length_eq_zero_iff.1 h0)⟩, hB, hl⟩
  · have hlt := (Array.getElem?_eq_some_iff.1 hh).1
    refine ⟨g, ⟨_, cap, rfl, .inr ⟨rfl, hlt, fun i hi => ?_⟩⟩, hg, hlt⟩
    have := World.ownsRow.cellAt h' i (by omega)
    rw [this, getD_byt l i hi]
    simp [Lib.byteCells, List.getElem?_eq_getElem hi]
end Go.Proofs.YtjhnkdhbjpddcaaDoor
