import Derived.Test.YtkeemkjokdbhlaaGreatDoorPack
namespace Go.Proofs.YtkeemkjokdbhlaaGreatDoor
open Go.RowKit
theorem info4 : (Tryz.prog.info? 4).map (fun i => (i.zero, i.size, i.bytes)) = some (some (.bool false), 1, 1) := by kernel_rfl
/-- a list of bools that the call owns -/
def OB (B : Nat) (w : World) (v : Value) (L : List Bool) : Prop := w.ownsRow B 4 1 v L.length (L.map Value.bool)
theorem OB.at {B : Nat} {w : World} {a : Option Addr} {n c : Nat} {L : List Bool} (h : OB B w (.slice a n c) L) (q : Nat) (hq : q < n) :
    ∃ g, a = some ⟨g, 0, none⟩ ∧ B ≤ g ∧ g < w.heap.size ∧ w.cell? ⟨g, q, none⟩ = some (.bool (lb L q)) ∧ w.frozen? ⟨g, q, none⟩ = false := by
  rcases h.2 with ⟨h1, h2⟩ | ⟨g, cap, cur, h1, h2, h3, _⟩
  · simp only [Value.slice.injEq] at h1; omega
  · simp only [Value.slice.injEq] at h1
    obtain ⟨rfl, rfl, rfl⟩ := h1
    refine ⟨g, rfl, h2, (Array.getElem?_eq_some_iff.1 h3).1, ?_, World.ownsRow.frozenAt h q⟩
    have := World.ownsRow.cellAt h q (by omega)
    rw [this]
    simp [lb, List.getElem?_eq_getElem hq]
theorem OB.len {B : Nat} {w : World} {a : Option Addr} {n c : Nat} {L : List Bool} (h : OB B w (.slice a n c) L) : n = L.length := by
  rcases h.2 with ⟨h1, h2⟩ | ⟨g, cap, cur, h1, h2, h3, _⟩
  · simp only [Value.slice.injEq] at h1; omega
  · simp only [Value.slice.injEq] at h1; exact h1.2.1
theorem OB.form {B : Nat} {w : World} {v : Value} {L : List Bool} (h : OB B w v L) : ∃ a c, v = .slice a L.length c := by
  rcases h.2 with ⟨h1, h2⟩ | ⟨g, cap, cur, h1, h2, h3, _⟩
  · exact ⟨none, 0, by rw [h1, h2]⟩
  · exact ⟨_, _, h1⟩
theorem OB.ro {B : Nat} {w : World} {v : Value} {L : List Bool} (h : OB B w v L) : RO w v L := by
  obtain ⟨a, c, rfl⟩ := h.form
  refine ⟨a, c, rfl, ?_⟩
  by_cases hL : L = []
  · exact .inl hL
  · have h0 : 0 < L.length := List.length_pos_iff.2 hL
    obtain ⟨g, rfl, _, hg, _⟩ := h.at 0 h0
    refine .inr ⟨g, 0, rfl, hg, fun i hi => ?_⟩
    obtain ⟨g', e, _, _, hc, _⟩ := h.at i hi
    simp only [Option.some.injEq, Addr.mk.injEq, and_true] at e
    subst e
    rw [Nat.zero_add, hc]
theorem OB.grow {B : Nat} {w w' : World} {v : Value} {L : List Bool} (h : OB B w v L) (hb : Below w.heap.size w w') : OB B w' v L := by
  refine ⟨h.1, ?_⟩
  rcases h.2 with h1 | ⟨g, cap, cur, h1, h2, h3, h4⟩
  · exact .inl h1
  · exact .inr ⟨g, cap, cur, h1, h2, (hb.block g (Array.getElem?_eq_some_iff.1 h3).1).trans h3, h4⟩
theorem OB.alloc {B : Nat} {w : World} {v : Value} {L : List Bool} (h : OB B w v L) (o : Obj) : OB B (w.alloc o) v L := h.grow ((Below.refl _ _).alloc (Nat.le_refl _) _)
theorem OB.drew {B : Nat} {w : World} {v : Value} {L : List Bool} (h : OB B w v L) (n : Nat) : OB B (w.drewN n) v L := h.grow (belowDrew _ _)
theorem append_bool {ops : Array Oper} {rest : List Oper} {o : Oper} {a : Act} {Q : Exit → Act → World → Prop} {w : World} {B : Nat} {sv : Value} {l : List Bool} (hgd : o.guard = none) (s x : Operand)
    (ho : o.op = .call { callee := .builtin .append, args := #[s, x], argTypes := #[86, 86] }) (hs : a.eval s = sv) (hown : OB B w sv l) (b : Nat) (c : Bool) (hx : a.eval x = .slice (some ⟨b, 0, none⟩) 1 1)
    (hc : w.cell? ⟨b, 0, none⟩ = some (.bool c)) (hB : B ≤ w.heap.size) (hlim : l.length < 140737488351232)
    (h : ∀ v' w', OB B w' v' (l ++ [c]) → Below B w w' → wpList Tryz.prog ops Q rest (a.put o.dst v') w') : wpList Tryz.prog ops Q (o :: rest) a w := by
  obtain ⟨i0, hi, hz0, hz1, hz2⟩ := info_parts info4
  refine wpList_append_own w hgd s x 86 ho B 4 i0 _ 1 1 Tryz.underlying86 hi hz0 hz1 hz2 rfl (by omega) sv l.length (l.map Value.bool) hs hown ⟨b, 0, none⟩ 1 1 [.bool c] hx rfl (fun j u hu => ?_) (fun u hu => ?_) (by unfold maxLen; omega) (by omega) hB (fun v' w' h1 h2 _ => ?_)
  · match j, hu with
    | 0, hu => simp at hu; subst hu; simpa [Addr.add] using hc
  · simp at hu; subst hu; rfl
  · refine h v' w' ?_ ((Below.refl B w).grown h2 hB (fun k hk => (World.ownsRow.lt hown k hk).1))
    have e : l.map Value.bool ++ [Value.bool c] = (l ++ [c]).map Value.bool := by simp
    rw [e] at h1
    simpa [OB] using h1
theorem OB.falses (w : World) (m : Nat) (hm : m ≤ 1000000) : OB w.heap.size (w.alloc (.cells (madeCells #[.bool false] m) 4)) (.slice (some ⟨w.heap.size, 0, none⟩) m m) (List.replicate m false) := by
  unfold OB
  have e : (List.replicate m false).map Value.bool = (madeCells #[Value.bool false] m).toList := by rw [toList_madeCells_one]; simp
  rw [e, List.length_replicate]
  exact World.ownsRow_lit w _ m (Nat.le_refl _) (by unfold maxLen; omega) (by simp [size_madeCells])
theorem OW.mono {B B' : Nat} {w : World} {v : Value} {l : List UInt8} (h : OW B w v l) (hb : B' ≤ B) : OW B' w v l := by
  refine ⟨h.1, ?_⟩
  rcases h.2 with h1 | ⟨g, cap, cur, h1, h2, h3⟩
  · exact .inl h1
  · exact .inr ⟨g, cap, cur, h1, Nat.le_trans hb h2, h3⟩
theorem lb_falses (n i : Nat) : lb (List.replicate n false) i = false := by
  unfold lb
  simp only [List.getD_eq_getElem?_getD, List.getElem?_replicate]
  split <;> rfl
/-- pack, of n bits -/
theorem pack31B (B n : Nat) (v : Value) (L : List Bool) (w : World) (hr : RO w v L) (hn : L.length = n) (hl : n ≤ 1000000) (hB : B ≤ w.heap.size) :
    Calls Tryz.prog 35 #[v] w fun e w' => ∃ v' l, e = .returned v' ∧ OW B w' v' l ∧ BF n (lb L) l ∧ Below B w w' := by
  refine (pack31 v L w hr (by omega)).mono ?_
  rintro e w' ⟨v', l, rfl, h1, h2, h3⟩
  exact ⟨v', l, rfl, h1.mono hB, hn ▸ h2, h3.mono hB⟩
theorem make14_no (n : Int) (h : n < 0 ∨ 65536 < n) (w : World) :
    Calls Tryz.prog 16 #[.int .i64 n] w fun e w' => e = .returned (.tuple #[.slice none 0 0, .int .i64 40]) ∧ w = w' := by
  rcases h with h | h
  · go_enter Tryz.func16, Tryz.ntmps16
    go_wp2
    go_ret2
    exact ⟨rfl, rfl⟩
  · go_enter Tryz.func16, Tryz.ntmps16
    go_wp2
    go_ret2
    exact ⟨rfl, rfl⟩
set_option maxHeartbeats 1000000 in
theorem make14 (n : Nat) (h : n ≤ 65536) (w : World) :
    Calls Tryz.prog 16 #[.int .i64 n] w fun e w' => ∃ v l, e = .returned (.tuple #[v, .int .i64 0]) ∧ OW w.heap.size w' v l ∧ BF n (fun _ => false) l ∧ Below w.heap.size w w' := by
  obtain ⟨i0, hi, hz0, hz1, hz2⟩ := info_parts info4
  have hmk : ∀ u : World, (Instr.makeSlice 86 (.int .i64 (n : Int)) (.int .i64 (n : Int))).run Tryz.prog u =
      .ok (.slice (some ⟨u.heap.size, 0, none⟩) n n) (u.alloc (.cells (madeCells #[.bool false] n) 4)) := fun u => by
    have h := run_make (P := Tryz.prog) u 86 4 i0 (.bool false) Tryz.underlying86 hi hz0 .i64 .i64 (n : Int) (n : Int) (by omega) (by omega) (by rw [hz2]; omega) (by omega)
    rw [hz1] at h
    simpa only [Value.cells, Int.toNat_natCast, Nat.mul_one] using h
  have HP : Hid (Calls Tryz.prog 35 #[.slice (some ⟨w.heap.size, 0, none⟩) n n] (w.alloc (.cells (madeCells #[.bool false] n) 4)) fun e w' => ∃ v' l, e = .returned v' ∧ OW w.heap.size w' v' l ∧ BF n (lb (List.replicate n false)) l ∧ Below w.heap.size (w.alloc (.cells (madeCells #[.bool false] n) 4)) w') :=
    pack31B _ n _ _ _ (OB.falses w n (by omega)).ro (by simp) (by omega) (by simp)
  clear hi hz0 hz1 hz2
  go_enter Tryz.func16, Tryz.ntmps16
  go_wp2_with (go_at_call 35; refine HP.out.mono ?_; rintro e w1 ⟨v', l, rfl, ho, hbf, hb⟩)
  obtain ⟨a, c, rfl⟩ := ho.form
  go_ret2
  refine ⟨_, l, rfl, ho, ⟨hbf.1, fun i => ?_⟩, ((Below.refl w.heap.size w).alloc (Nat.le_refl _) _).trans hb⟩
  rw [hbf.2, lb_falses]
theorem lb_trues (n i : Nat) : lb (List.replicate n true) i = decide (i < n) := by
  unfold lb
  simp only [List.getD_eq_getElem?_getD, List.getElem?_replicate]
  split <;> simp_all
end Go.Proofs.YtkeemkjokdbhlaaGreatDoor
