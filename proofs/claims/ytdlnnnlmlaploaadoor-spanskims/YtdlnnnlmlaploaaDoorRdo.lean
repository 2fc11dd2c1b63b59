import Derived.Test.YtdlnnnlmlaploaaDoorRdn
import Derived.Test.YtdlnnnlmlaploaaDoorItoa
import Derived.Maps.AppendAt
import Derived.Lib.AppendZeros
namespace Go.Proofs.YtdlnnnlmlaploaaDoor
open Go.RowKit Go.Deep
/-- all below B but rb is as it was -/
structure BB (B rb : Nat) (w w' : World) : Prop where
  os : w'.os = w.os
  tape : w'.tape = w.tape
  output : w'.output = w.output
  size : w.heap.size ≤ w'.heap.size
  block : ∀ k, k < B → k ≠ rb → w'.heap[k]? = w.heap[k]?
theorem BB.refl (B rb : Nat) (w : World) : BB B rb w w := ⟨rfl, rfl, rfl, Nat.le_refl _, fun _ _ _ => rfl⟩
theorem BB.trans {B rb : Nat} {a b c : World} (h : BB B rb a b) (g : BB B rb b c) : BB B rb a c :=
  ⟨g.os.trans h.os, g.tape.trans h.tape, g.output.trans h.output, Nat.le_trans h.size g.size, fun k hk hn => (g.block k hk hn).trans (h.block k hk hn)⟩
theorem BB.of {B rb : Nat} {w w' : World} (h : Besides rb w w') (hB : B ≤ w.heap.size) : BB B rb w w' := ⟨h.os, h.tape, h.output, h.size, fun k hk hn => h.block k (by omega) hn⟩
theorem BB.alloc {B rb : Nat} {w : World} (hB : B ≤ w.heap.size) (o : Obj) : BB B rb w (w.alloc o) := BB.of (Besides.alloc rb w o) hB
theorem BB.grown {B rb : Nat} {w w' : World} {r : Option Nat} (h : w.grownBy w' r) (hB : B ≤ w.heap.size) (hr : ∀ k, r = some k → B ≤ k) : BB B rb w w' :=
  ⟨h.os, h.tape, h.output, h.size, fun k hk _ => h.block k (by omega) (fun e => by have := hr k e.symm; omega)⟩
theorem BB.besides {rb : Nat} {w w' : World} (h : BB w.heap.size rb w w') : Besides rb w w' := ⟨h.os, h.tape, h.output, h.size, h.block⟩
/-- a list of nodes that grows: its row lies from B on, the nodes' blocks too, none of them in the row -/
def LI (B : Nat) (w : World) (v : Value) (l : List T) : Prop := ∃ (us : List Value) (g : Nat), w.ownsRow B 89 1 v l.length us ∧ v.ownBlock = some g ∧ ∀ k, k < l.length → ∃ u, us[k]? = some u ∧ RN (fun x => B ≤ x ∧ x ≠ g) w (l.getD k .no) u
/-- a dictionary of nodes that grows -/
def DI (B : Nat) (w : World) (v : Value) (l : List (ByteArray × T)) : Prop := ∃ (us : List Value) (g : Nat), w.ownsRow B 125 2 v l.length us ∧ v.ownBlock = some g ∧ ∀ k, k < l.length → ∃ u, us[k * 2]? = some (.string (l.getD k (ByteArray.empty, .no)).1) ∧ us[k * 2 + 1]? = some u ∧ RN (fun x => B ≤ x ∧ x ≠ g) w (l.getD k (ByteArray.empty, .no)).2 u
theorem own_keep {w w' : World} {B e s : Nat} {v : Value} {n : Nat} {us : List Value} (h : w.ownsRow B e s v n us) (hs : ∀ x, B ≤ x → x < w.heap.size → w'.heap[x]? = w.heap[x]?) : w'.ownsRow B e s v n us := by
  refine ⟨h.1, ?_⟩
  rcases h.2 with h | ⟨g, cap, cur, h1, h2, h3, h4⟩
  · exact .inl h
  · exact .inr ⟨g, cap, cur, h1, h2, (hs g h2 (Array.getElem?_eq_some_iff.1 h3).1).trans h3, h4⟩
theorem LI.keep {B : Nat} {w w' : World} {v : Value} {l : List T} (h : LI B w v l) (hz : w.heap.size ≤ w'.heap.size) (hs : ∀ x, B ≤ x → x < w.heap.size → w'.heap[x]? = w.heap[x]?) : LI B w' v l := by
  obtain ⟨us, g, h1, h2, h3⟩ := h
  refine ⟨us, g, own_keep h1 hs, h2, fun k hk => ?_⟩
  obtain ⟨u, g1, g2⟩ := h3 k hk
  exact ⟨u, g1, RN.move (fun _ hb _ => hb) hz (fun b hb hl => hs b hb.1 hl) _ _ g2⟩
theorem DI.keep {B : Nat} {w w' : World} {v : Value} {l : List (ByteArray × T)} (h : DI B w v l) (hz : w.heap.size ≤ w'.heap.size) (hs : ∀ x, B ≤ x → x < w.heap.size → w'.heap[x]? = w.heap[x]?) : DI B w' v l := by
  obtain ⟨us, g, h1, h2, h3⟩ := h
  refine ⟨us, g, own_keep h1 hs, h2, fun k hk => ?_⟩
  obtain ⟨u, g0, g1, g2⟩ := h3 k hk
  exact ⟨u, g0, g1, RN.move (fun _ hb _ => hb) hz (fun b hb hl => hs b hb.1 hl) _ _ g2⟩
theorem own_lt {w : World} {B e s n g : Nat} {v : Value} {us : List Value} (h : w.ownsRow B e s v n us) (hg : v.ownBlock = some g) : B ≤ g ∧ g < w.heap.size := by
  rcases h.2 with ⟨rfl, _⟩ | ⟨g', cap, cur, rfl, h2, h3, _⟩
  · cases hg
  · cases hg; exact ⟨h2, (Array.getElem?_eq_some_iff.1 h3).1⟩
theorem own_form {w : World} {B e s n g : Nat} {v : Value} {us : List Value} (h : w.ownsRow B e s v n us) (hg : v.ownBlock = some g) : ∃ cap, v = .slice (some ⟨g, 0, none⟩) n cap ∧ ∀ k u, us[k]? = some u → w.cell? ⟨g, k, none⟩ = some u := by
  rcases h.2 with ⟨rfl, _⟩ | ⟨g', cap, cur, rfl, h2, h3, _, _, _, h7⟩
  · cases hg
  · cases hg
    refine ⟨cap, rfl, fun k u hu => ?_⟩
    have hk : k < n * s := by
      have := (List.getElem?_eq_some_iff.1 hu).1
      rw [h.1] at this; exact this
    rw [← h7, List.getElem?_take_of_lt hk] at hu
    have h3' : blk w _ e cur := h3
    rw [h3'.cell]
    simpa using hu
theorem LI.node {B : Nat} {w : World} {v : Value} {l : List T} (h : LI B w v l) : RN (fun x => B ≤ x) w (tList l) (.iface 102 v) := by
  obtain ⟨us, g, h1, h2, h3⟩ := h
  obtain ⟨cap, rfl, hc⟩ := own_form h1 h2
  obtain ⟨l1, l2⟩ := own_lt h1 h2
  refine .inr (.inr (.inl ⟨rfl, g, cap, rfl, l1, l2, fun i hi => ?_⟩))
  obtain ⟨u, g1, g2⟩ := h3 i hi
  exact ⟨u, hc i u g1, RN.move (fun _ hb _ => hb.1) (Nat.le_refl _) (fun _ _ _ => rfl) _ _ g2⟩
theorem DI.node {B : Nat} {w : World} {v : Value} {l : List (ByteArray × T)} (h : DI B w v l) : RN (fun x => B ≤ x) w (tDict l) (.iface 105 v) := by
  obtain ⟨us, g, h1, h2, h3⟩ := h
  obtain ⟨cap, rfl, hc⟩ := own_form h1 h2
  obtain ⟨l1, l2⟩ := own_lt h1 h2
  refine .inr (.inr (.inr ⟨rfl, g, cap, rfl, l1, l2, fun i hi => ?_⟩))
  obtain ⟨u, g0, g1, g2⟩ := h3 i hi
  exact ⟨u, hc _ _ g0, hc _ u g1, RN.move (fun _ hb _ => hb.1) (Nat.le_refl _) (fun _ _ _ => rfl) _ _ g2⟩
theorem LI.nil {B : Nat} {w : World} {g : Nat} (hB : B ≤ g) (h : w.heap[g]? = some (.cells #[] 89 (0, 0))) : LI B w (.slice (some ⟨g, 0, none⟩) 0 0) [] :=
  ⟨[], g, ⟨rfl, .inr ⟨g, 0, #[], rfl, hB, h, Nat.le_refl _, Nat.zero_le _, rfl, rfl⟩⟩, rfl, fun _k hk => absurd hk (Nat.not_lt_zero _)⟩
theorem DI.nil {B : Nat} {w : World} {g : Nat} (hB : B ≤ g) (h : w.heap[g]? = some (.cells #[] 125 (0, 0))) : DI B w (.slice (some ⟨g, 0, none⟩) 0 0) [] :=
  ⟨[], g, ⟨rfl, .inr ⟨g, 0, #[], rfl, hB, h, Nat.le_refl _, Nat.zero_le _, rfl, rfl⟩⟩, rfl, fun _k hk => absurd hk (Nat.not_lt_zero _)⟩
theorem append_node {ops : Array Oper} {rest : List Oper} {o : Oper} {a : Act} {Q : Exit → Act → World → Prop} {w : World} {B rb : Nat} {v : Value} {l : List T} {t : T} (hgd : o.guard = none) (s x : Operand)
    (ho : o.op = .call { callee := .builtin .append, args := #[s, x], argTypes := #[102, 102] }) (hs : a.eval s = v) (hl : LI B w v l) (b : Nat) (u : Value) (hx : a.eval x = .slice (some ⟨b, 0, none⟩) 1 1) (hc : w.cell? ⟨b, 0, none⟩ = some u)
    (hu : RN (fun x => B ≤ x ∧ some x ≠ v.ownBlock) w t u) (hB : B ≤ w.heap.size) (hlim : l.length ≤ 2097152)
    (h : ∀ v' w', LI B w' v' (l ++ [t]) → BB B rb w w' → (∀ k, k < w.heap.size → k < B → w'.heap[k]? = w.heap[k]?) → wpList Tryd.prog ops Q rest (a.put o.dst v') w') : wpList Tryd.prog ops Q (o :: rest) a w := by
  obtain ⟨i0, hi, hz0, hz1, hz2⟩ := info_parts info55
  obtain ⟨us, g, h1, h2, h3⟩ := hl
  have hone : u.oneCell' = true := by
    obtain ⟨ty, uu, rfl⟩ := hu.iface; rfl
  obtain ⟨v', w', hr, hown', hgrow, _, hatb⟩ := run_append_own_at (P := Tryd.prog) w B 102 o.type 89 i0 _ 1 16 Tryd.underlying102 hi hz0 hz1 hz2 rfl (by omega) v l.length us h1 ⟨b, 0, none⟩ 1 1 [u] rfl
    (fun j u' hu' => by
      match j, hu' with
      | 0, hu' => simp at hu'; subst hu'; simpa [Addr.add] using hc) (fun u' hu' => by simp at hu'; subst hu'; exact hone) (by unfold maxLen; omega) (by omega) hB
  obtain ⟨gl, gh⟩ := own_lt h1 h2
  have hfr : ∀ k, k < w.heap.size → k ≠ g → w'.heap[k]? = w.heap[k]? := fun k hk hn => hgrow.block k hk (fun e => hn (by rw [h2] at e; cases e; rfl))
  refine Lib.wpList_append_run w hgd s x 102 102 ho v _ hs hx v' w' hr (h v' w' ?_ (BB.grown hgrow hB (fun k hk => by rw [h2] at hk; cases hk; exact gl)) (fun k hk hkB => hfr k hk (by omega)))
  have hg' : ∃ g', v'.ownBlock = some g' ∧ (g' = g ∨ g' = w.heap.size) := by
    rcases hatb with h | h
    · exact ⟨g, h.trans h2, .inl rfl⟩
    · exact ⟨_, h, .inr rfl⟩
  obtain ⟨g', e1, e2⟩ := hg'
  refine ⟨us ++ [u], g', by simpa using hown', e1, fun k hk => ?_⟩
  have hul : us.length = l.length := by simpa using h1.1
  by_cases hkl : k < l.length
  · obtain ⟨u', q1, q2⟩ := h3 k hkl
    refine ⟨u', by rw [List.getElem?_append_left (by omega)]; exact q1, ?_⟩
    rw [show (l ++ [t]).getD k .no = l.getD k .no from by simp [List.getD, List.getElem?_append_left hkl]]
    exact RN.move (fun b hb hbl => ⟨hb.1, by have := hb.2; omega⟩) hgrow.size (fun b hb hbl => hfr b hbl hb.2) _ _ q2
  · obtain rfl : k = l.length := by simp at hk; omega
    refine ⟨u, by rw [List.getElem?_append_right (by omega)]; simp [hul], ?_⟩
    rw [show (l ++ [t]).getD l.length .no = t from by simp [List.getD]]
    exact RN.move (fun b hb hbl => ⟨hb.1, by have : b ≠ g := fun e => hb.2 (by rw [h2, e]); omega⟩) hgrow.size (fun b hb hbl => hfr b hbl (fun e => hb.2 (by rw [h2, e]))) _ _ hu
theorem append_entry {ops : Array Oper} {rest : List Oper} {o : Oper} {a : Act} {Q : Exit → Act → World → Prop} {w : World} {B rb : Nat} {v : Value} {l : List (ByteArray × T)} {t : T} {key : ByteArray} (hgd : o.guard = none) (s x : Operand)
    (ho : o.op = .call { callee := .builtin .append, args := #[s, x], argTypes := #[105, 105] }) (hs : a.eval s = v) (hl : DI B w v l) (b : Nat) (u : Value) (hx : a.eval x = .slice (some ⟨b, 0, none⟩) 1 1) (hc0 : w.cell? ⟨b, 0, none⟩ = some (.string key)) (hc : w.cell? ⟨b, 1, none⟩ = some u)
    (hu : RN (fun x => B ≤ x ∧ some x ≠ v.ownBlock) w t u) (hB : B ≤ w.heap.size) (hlim : l.length ≤ 2097152)
    (h : ∀ v' w', DI B w' v' (l ++ [(key, t)]) → BB B rb w w' → (∀ k, k < w.heap.size → k < B → w'.heap[k]? = w.heap[k]?) → wpList Tryd.prog ops Q rest (a.put o.dst v') w') : wpList Tryd.prog ops Q (o :: rest) a w := by
  obtain ⟨i0, hi, hz0, hz1, hz2⟩ := info_parts info57
  obtain ⟨us, g, h1, h2, h3⟩ := hl
  have hone : u.oneCell' = true := by
    obtain ⟨ty, uu, rfl⟩ := hu.iface; rfl
  obtain ⟨v', w', hr, hown', hgrow, _, hatb⟩ := run_append_own_at (P := Tryd.prog) w B 105 o.type 125 i0 _ 2 32 Tryd.underlying105 hi hz0 hz1 hz2 rfl (by omega) v l.length us h1 ⟨b, 0, none⟩ 1 1 [.string key, u] rfl
    (fun j u' hu' => by
      match j, hu' with
      | 0, hu' => simp at hu'; subst hu'; simpa [Addr.add] using hc0
      | 1, hu' => simp at hu'; subst hu'; simpa [Addr.add] using hc) (fun u' hu' => by simp at hu'; rcases hu' with rfl | rfl; rfl; exact hone) (by unfold maxLen; omega) (by omega) hB
  obtain ⟨gl, gh⟩ := own_lt h1 h2
  have hfr : ∀ k, k < w.heap.size → k ≠ g → w'.heap[k]? = w.heap[k]? := fun k hk hn => hgrow.block k hk (fun e => hn (by rw [h2] at e; cases e; rfl))
  refine Lib.wpList_append_run w hgd s x 105 105 ho v _ hs hx v' w' hr (h v' w' ?_ (BB.grown hgrow hB (fun k hk => by rw [h2] at hk; cases hk; exact gl)) (fun k hk hkB => hfr k hk (by omega)))
  have hg' : ∃ g', v'.ownBlock = some g' ∧ (g' = g ∨ g' = w.heap.size) := by
    rcases hatb with h | h
    · exact ⟨g, h.trans h2, .inl rfl⟩
    · exact ⟨_, h, .inr rfl⟩
  obtain ⟨g', e1, e2⟩ := hg'
  refine ⟨us ++ [.string key, u], g', by simpa using hown', e1, fun k hk => ?_⟩
  have hul : us.length = l.length * 2 := by simpa using h1.1
  by_cases hkl : k < l.length
  · obtain ⟨u', q0, q1, q2⟩ := h3 k hkl
    have e3 : (l ++ [(key, t)]).getD k (ByteArray.empty, .no) = l.getD k (ByteArray.empty, .no) := by simp [List.getD, List.getElem?_append_left hkl]
    rw [e3]
    exact ⟨u', by rw [List.getElem?_append_left (by omega)]; exact q0, by rw [List.getElem?_append_left (by omega)]; exact q1, RN.move (fun b hb hbl => ⟨hb.1, by have := hb.2; omega⟩) hgrow.size (fun b hb hbl => hfr b hbl hb.2) _ _ q2⟩
  · obtain rfl : k = l.length := by simp at hk; omega
    have e3 : (l ++ [(key, t)]).getD l.length (ByteArray.empty, .no) = (key, t) := by simp [List.getD]
    rw [e3]
    exact ⟨u, by rw [List.getElem?_append_right (by omega)]; simp [hul], by rw [List.getElem?_append_right (by omega)]; simp [hul],
      RN.move (fun b hb hbl => ⟨hb.1, by have : b ≠ g := fun e => hb.2 (by rw [h2, e]); omega⟩) hgrow.size (fun b hb hbl => hfr b hbl (fun e => hb.2 (by rw [h2, e]))) _ _ hu⟩
end Go.Proofs.YtdlnnnlmlaploaaDoor
