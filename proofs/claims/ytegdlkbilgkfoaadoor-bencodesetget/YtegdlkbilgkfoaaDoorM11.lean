import Derived.Test.YtegdlkbilgkfoaaDoorM10
import Derived.Maps.AppendAt
import Derived.Lib.AppendZeros
namespace Go.Proofs.YtegdlkbilgkfoaaDoor
open Go.RowKit Go.Deep
/-- all below B but rb is as it was -/
structure BB (B rb : Nat) (w w' : World) : Prop where
  os : w'.os = w.os
  tape : w'.tape = w.tape
  output : w'.output = w.output
  size : w.heap.size ≤ w'.heap.size
  block : ∀ k, k < B → k ≠ rb → w'.heap[k]? = w.heap[k]?
theorem BB.refl (B rb : Nat) (w : World) : BB B rb w w := ⟨rfl, rfl, rfl, Nat.le_refl _, fun _ _ _ => rfl⟩
theorem BB.trans {B rb : Nat} {a b c : World} (h : BB B rb a b) (g : BB B rb b c) : BB B rb a c :=
  ⟨g.os.trans h.os, g.tape.trans h.tape, g.output.trans h.output, Nat.le_trans h.size g.size, fun k hk hn => (g.block k hk hn).trans (h.block k hk hn)⟩
theorem BB.of {B rb : Nat} {w w' : World} (h : Besides rb w w') (hB : B ≤ w.heap.size) : BB B rb w w' := ⟨h.os, h.tape, h.output, h.size, fun k hk hn => h.block k (by omega) hn⟩
theorem BB.alloc {B rb : Nat} {w : World} (hB : B ≤ w.heap.size) (o : Obj) : BB B rb w (w.alloc o) := BB.of (Besides.alloc rb w o) hB
theorem BB.grown {B rb : Nat} {w w' : World} {r : Option Nat} (h : w.grownBy w' r) (hB : B ≤ w.heap.size) (hr : ∀ k, r = some k → B ≤ k) : BB B rb w w' :=
  ⟨h.os, h.tape, h.output, h.size, fun k hk _ => h.block k (by omega) (fun e => by have := hr k e.symm; omega)⟩
theorem BB.besides {rb : Nat} {w w' : World} (h : BB w.heap.size rb w w') : Besides rb w w' := ⟨h.os, h.tape, h.output, h.size, h.block⟩
/-- a list of nodes that grows: its row lies from B on, the nodes' blocks too, none of them in the row -/
def LI (B : Nat) (w : World) (v : Value) (l : List T) : Prop := ∃ (us : List Value) (g : Nat), w.ownsRow B 52 1 v l.length us ∧ v.ownBlock = some g ∧ ∀ k, k < l.length → ∃ u, us[k]? = some u ∧ RN (fun x => B ≤ x ∧ x ≠ g) w (l.getD k .no) u
/-- a dictionary of nodes that grows -/
def DI (B : Nat) (w : World) (v : Value) (l : List (ByteArray × T)) : Prop := ∃ (us : List Value) (g : Nat), w.ownsRow B 66 2 v l.length us ∧ v.ownBlock = some g ∧ ∀ k, k < l.length → ∃ u, us[k * 2]? = some (.string (l.getD k (ByteArray.empty, .no)).1) ∧ us[k * 2 + 1]? = some u ∧ RN (fun x => B ≤ x ∧ x ≠ g) w (l.getD k (ByteArray.empty, .no)).2 u
theorem own_keep {w w' : World} {B e s : Nat} {v : Value} {n : Nat} {us : List Value} (h : w.ownsRow B e s v n us) (hs : ∀ x, B ≤ x → x < w.heap.size → w'.heap[x]? = w.heap[x]?) : w'.ownsRow B e s v n us := by
  refine ⟨h.1, ?_⟩
  rcases h.2 with h | ⟨g, cap, cur, h1, h2, h3, h4⟩
  · exact .inl h
  · exact .inr ⟨g, cap, cur, h1, h2, (hs g h2 (Array.getElem?_eq_some_iff.1 h3).1).trans h3, h4⟩
theorem LI.keep {B : Nat} {w w' : World} {v : Value} {l : List T} (h : LI B w v l) (hz : w.heap.size ≤ w'.heap.size) (hs : ∀ x, B ≤ x → x < w.heap.size → w'.heap[x]? = w.heap[x]?) : LI B w' v l := by
  obtain ⟨us, g, h1, h2, h3⟩ := h
  refine ⟨us, g, own_keep h1 hs, h2, fun k hk => ?_⟩
  obtain ⟨u, g1, g2⟩ := h3 k hk
  exact ⟨u, g1, RN.move (fun _ hb _ => hb) hz (fun b hb hl => hs b hb.1 hl) _ _ g2⟩
theorem DI.keep {B : Nat} {w w' : World} {v : Value} {l : List (ByteArray × T)} (h : DI B w v l) (hz : w.heap.size ≤ w'.heap.size) (hs : ∀ x, B ≤ x → x < w.heap.size → w'.heap[x]? = w.heap[x]?) : DI B w' v l := by
  obtain ⟨us, g, h1, h2, h3⟩ := h
  refine ⟨us, g, own_keep h1 hs, h2, fun k hk => ?_⟩
  obtain ⟨u, g0, g1, g2⟩ := h3 k hk
  exact ⟨u, g0, g1, RN.move (fun _ hb _ => hb) hz (fun b hb hl => hs b hb.1 hl) _ _ g2⟩
theorem own_lt {w : World} {B e s n g : Nat} {v : Value} {us : List Value} (h : w.ownsRow B e s v n us) (hg : v.ownBlock = some g) : B ≤ g ∧ g < w.heap.size := by
  rcases h.2 with ⟨rfl, _⟩ | ⟨g', cap, cur, rfl, h2, h3, _⟩
  · cases hg
  · cases hg; exact ⟨h2, (Array.getElem?_eq_some_iff.1 h3).1⟩
theorem own_form {w : World} {B e s n g : Nat} {v : Value} {us : List Value} (h : w.ownsRow B e s v n us) (hg : v.ownBlock = some g) : ∃ cap, v = .slice (some ⟨g, 0, none⟩) n cap ∧ ∀ k u, us[k]? = some u → w.cell? ⟨g, k, none⟩ = some u := by
  rcases h.2 with ⟨rfl, _⟩ | ⟨g', cap, cur, rfl, h2, h3, _, _, _, h7⟩
  · cases hg
  · cases hg
    refine ⟨cap, rfl, fun k u hu => ?_⟩
    have hk : k < n * s := by
      have := (List.getElem?_eq_some_iff.1 hu).1
      rw [h.1] at this; exact this
    rw [← h7, List.getElem?_take_of_lt hk] at hu
    have h3' : blk w _ e cur := h3
    rw [h3'.cell]
    simpa using hu
theorem LI.node {B : Nat} {w : World} {v : Value} {l : List T} (h : LI B w v l) : RN (fun x => B ≤ x) w (tList l) (.iface 78 v) := by
  obtain ⟨us, g, h1, h2, h3⟩ := h
  obtain ⟨cap, rfl, hc⟩ := own_form h1 h2
  obtain ⟨l1, l2⟩ := own_lt h1 h2
  refine .inr (.inr (.inl ⟨rfl, g, cap, rfl, l1, l2, fun i hi => ?_⟩))
  obtain ⟨u, g1, g2⟩ := h3 i hi
  exact ⟨u, hc i u g1, RN.move (fun _ hb _ => hb.1) (Nat.le_refl _) (fun _ _ _ => rfl) _ _ g2⟩
theorem DI.node {B : Nat} {w : World} {v : Value} {l : List (ByteArray × T)} (h : DI B w v l) : RN (fun x => B ≤ x) w (tDict l) (.iface 59 v) := by
  obtain ⟨us, g, h1, h2, h3⟩ := h
  obtain ⟨cap, rfl, hc⟩ := own_form h1 h2
  obtain ⟨l1, l2⟩ := own_lt h1 h2
  refine .inr (.inr (.inr ⟨rfl, g, cap, rfl, l1, l2, fun i hi => ?_⟩))
  obtain ⟨u, g0, g1, g2⟩ := h3 i hi
  exact ⟨u, hc _ _ g0, hc _ u g1, RN.move (fun _ hb _ => hb.1) (Nat.le_refl _) (fun _ _ _ => rfl) _ _ g2⟩
theorem LI.nil {B : Nat} {w : World} {g : Nat} (hB : B ≤ g) (h : w.heap[g]? = some (.cells #[] 52 (0, 0))) : LI B w (.slice (some ⟨g, 0, none⟩) 0 0) [] :=
  ⟨[], g, ⟨rfl, .inr ⟨g, 0, #[], rfl, hB, h, Nat.le_refl _, Nat.zero_le _, rfl, rfl⟩⟩, rfl, fun _k hk => absurd hk (Nat.not_lt_zero _)⟩
theorem DI.nil {B : Nat} {w : World} {g : Nat} (hB : B ≤ g) (h : w.heap[g]? = some (.cells #[] 66 (0, 0))) : DI B w (.slice (some ⟨g, 0, none⟩) 0 0) [] :=
  ⟨[], g, ⟨rfl, .inr ⟨g, 0, #[], rfl, hB, h, Nat.le_refl _, Nat.zero_le _, rfl, rfl⟩⟩, rfl, fun _k hk => absurd hk (Nat.not_lt_zero _)⟩
theorem append_node {ops : Array Oper} {rest : List Oper} {o : Oper} {a : Act} {Q : Exit → Act → World → Prop} {w : World} {B rb : Nat} {v : Value} {l : List T} {t : T} (hgd : o.guard = none) (s x : Operand)
    (ho : o.op = .call { callee := .builtin .append, args := #[s, x], argTypes := #[78, 78] }) (hs : a.eval s = v) (hl : LI B w v l) (b : Nat) (u : Value) (hx : a.eval x = .slice (some ⟨b, 0, none⟩) 1 1) (hc : w.cell? ⟨b, 0, none⟩ = some u)
    (hu : RN (fun x => B ≤ x ∧ some x ≠ v.ownBlock) w t u) (hB : B ≤ w.heap.size) (hlim : l.length ≤ 2097152)
    (h : ∀ v' w', LI B w' v' (l ++ [t]) → BB B rb w w' → (∀ k, k < w.heap.size → k < B → w'.heap[k]? = w.heap[k]?) → wpList Tryd.prog ops Q rest (a.put o.dst v') w') : wpList Tryd.prog ops Q (o :: rest) a w := by
  obtain ⟨i0, hi, hz0, hz1, hz2⟩ := info_parts info55
  obtain ⟨us, g, h1, h2, h3⟩ := hl
  have hone : u.oneCell' = true := by
    obtain ⟨ty, uu, rfl⟩ := hu.iface; rfl
  obtain ⟨v', w', hr, hown', hgrow, _, hatb⟩ := run_append_own_at (P := Tryd.prog) w B 78 o.type 52 i0 _ 1 16 Tryd.underlying78 hi hz0 hz1 hz2 rfl (by omega) v l.length us h1 ⟨b, 0, none⟩ 1 1 [u] rfl
    (fun j u' hu' => by
      match j, hu' with
      | 0, hu' => simp at hu'; subst hu'; simpa [Addr.add] using hc) (fun u' hu' => by simp at hu'; subst hu'; exact hone) (by unfold maxLen; omega) (by omega) hB
  obtain ⟨gl, gh⟩ := own_lt h1 h2
  have hfr : ∀ k, k < w.heap.size → k ≠ g → w'.heap[k]? = w.heap[k]? := fun k hk hn => hgrow.block k hk (fun e => hn (by rw [h2] at e; cases e; rfl))
  refine Lib.wpList_append_run w hgd s x 78 78 ho v _ hs hx v' w' hr (h v' w' ?_ (BB.grown hgrow hB (fun k hk => by rw [h2] at hk; cases hk; exact gl)) (fun k hk hkB => hfr k hk (by omega)))
  have hg' : ∃ g', v'.ownBlock = some g' ∧ (g' = g ∨ g' = w.heap.size) := by
    rcases hatb with h | h
    · exact ⟨g, h.trans h2, .inl rfl⟩
    · exact ⟨_, h, .inr rfl⟩
  obtain ⟨g', e1, e2⟩ := hg'
  refine ⟨us ++ [u], g', by simpa using hown', e1, fun k hk => ?_⟩
  have hul : us.length = l.length := by simpa using h1.1
  by_cases hkl : k < l.length
  · obtain ⟨u', q1, q2⟩ := h3 k hkl
    refine ⟨u', by rw [List.getElem?_append_left (by omega)]; exact q1, ?_⟩
    rw [show (l ++ [t]).getD k .no = l.getD k .no from by simp [List.getD, List.getElem?_append_left hkl]]
    exact RN.move (fun b hb hbl => ⟨hb.1, by have := hb.2; omega⟩) hgrow.size (fun b hb hbl => hfr b hbl hb.2) _ _ q2
  · obtain rfl : k = l.length := by simp at hk; omega
    refine ⟨u, by rw [List.getElem?_append_right (by omega)]; simp [hul], ?_⟩
    rw [show (l ++ [t]).getD l.length .no = t from by simp [List.getD]]
    exact RN.move (fun b hb hbl => ⟨hb.1, by have : b ≠ g := fun e => hb.2 (by rw [h2, e]); omega⟩) hgrow.size (fun b hb hbl => hfr b hbl (fun e => hb.2 (by rw [h2, e]))) _ _ hu
theorem append_entry {ops : Array Oper} {rest : List Oper} {o : Oper} {a : Act} {Q : Exit → Act → World → Prop} {w : World} {B rb : Nat} {v : Value} {l : List (ByteArray × T)} {t : T} {key : ByteArray} (hgd : o.guard = none) (s x : Operand)
    (ho : o.op = .call { callee := .builtin .append, args := #[s, x], argTypes := #[59, 59] }) (hs : a.eval s = v) (hl : DI B w v l) (b : Nat) (u : Value) (hx : a.eval x = .slice (some ⟨b, 0, none⟩) 1 1) (hc0 : w.cell? ⟨b, 0, none⟩ = some (.string key)) (hc : w.cell? ⟨b, 1, none⟩ = some u)
    (hu : RN (fun x => B ≤ x ∧ some x ≠ v.ownBlock) w t u) (hB : B ≤ w.heap.size) (hlim : l.length ≤ 2097152)
    (h : ∀ v' w', DI B w' v' (l ++ [(key, t)]) → BB B rb w w' → (∀ k, k < w.heap.size → k < B → w'.heap[k]? = w.heap[k]?) → wpList Tryd.prog ops Q rest (a.put o.dst v') w') : wpList Tryd.prog ops Q (o :: rest) a w := by
  obtain ⟨i0, hi, hz0, hz1, hz2⟩ := info_parts info57
  obtain ⟨us, g, h1, h2, h3⟩ := hl
  have hone : u.oneCell' = true := by
    obtain ⟨ty, uu, rfl⟩ := hu.iface; rfl
  obtain ⟨v', w', hr, hown', hgrow, _, hatb⟩ := run_append_own_at (P := Tryd.prog) w B 59 o.type 66 i0 _ 2 32 Tryd.underlying59 hi hz0 hz1 hz2 rfl (by omega) v l.length us h1 ⟨b, 0, none⟩ 1 1 [.string key, u] rfl
    (fun j u' hu' => by
      match j, hu' with
      | 0, hu' => simp at hu'; subst hu'; simpa [Addr.add] using hc0
      | 1, hu' => simp at hu'; subst hu'; simpa [Addr.add] using hc) (fun u' hu' => by simp at hu'; rcases hu' with rfl | rfl; rfl; exact hone) (by unfold maxLen; omega) (by omega) hB
  obtain ⟨gl, gh⟩ := own_lt h1 h2
  have hfr : ∀ k, k < w.heap.size → k ≠ g → w'.heap[k]? = w.heap[k]? := fun k hk hn => hgrow.block k hk (fun e => hn (by rw [h2] at e; cases e; rfl))
  refine Lib.wpList_append_run w hgd s x 59 59 ho v _ hs hx v' w' hr (h v' w' ?_ (BB.grown hgrow hB (fun k hk => by rw [h2] at hk; cases hk; exact gl)) (fun k hk hkB => hfr k hk (by omega)))
  have hg' : ∃ g', v'.ownBlock = some g' ∧ (g' = g ∨ g' = w.heap.size) := by
    rcases hatb with h | h
    · exact ⟨g, h.trans h2, .inl rfl⟩
    · exact ⟨_, h, .inr rfl⟩
  obtain ⟨g', e1, e2⟩ := hg'
  refine ⟨us ++ [.string key, u], g', by simpa using hown', e1, fun k hk => ?_⟩
  have hul : us.length = l.length * 2 := by simpa using h1.1
  by_cases hkl : k < l.length
  · obtain ⟨u', q0, q1, q2⟩ := h3 k hkl
    have e3 : (l ++ [(key, t)]).getD k (ByteArray.empty, .no) = l.getD k (ByteArray.empty, .no) := by simp [List.getD, List.getElem?_append_left hkl]
    rw [e3]
    exact ⟨u', by rw [List.getElem?_append_left (by omega)]; exact q0, by rw [List.getElem?_append_left (by omega)]; exact q1, RN.move (fun b hb hbl => ⟨hb.1, by have := hb.2; omega⟩) hgrow.size (fun b hb hbl => hfr b hbl hb.2) _ _ q2⟩
  · obtain rfl : k = l.length := by simp at hk; omega
    have e3 : (l ++ [(key, t)]).getD l.length (ByteArray.empty, .no) = (key, t) := by simp [List.getD]
    rw [e3]
    exact ⟨u, by rw [List.getElem?_append_right (by omega)]; simp [hul], by rw [List.getElem?_append_right (by omega)]; simp [hul],
      RN.move (fun b hb hbl => ⟨hb.1, by have : b ≠ g := fun e => hb.2 (by rw [h2, e]); omega⟩) hgrow.size (fun b hb hbl => hfr b hbl (fun e => hb.2 (by rw [h2, e]))) _ _ hu⟩
end Go.Proofs.YtegdlkbilgkfoaaDoor
namespace Go.Proofs.YtegdlkbilgkfoaaDoor
open Go.RowKit Go.Deep
/-- a tree that a reader may build -/
def TOK (t : T) : Prop := t.small ∧ VT t ∧ t.ok
theorem eL : ByteArray.empty.toList = [] := by rw [ByteArray.toList_eq]; rfl
theorem tok_num (n : Int) : TOK (tNum n) :=
  ⟨⟨Nat.zero_le _, Nat.zero_le _, fun i hi => absurd hi (Nat.not_lt_zero _), fun i hi => absurd hi (Nat.not_lt_zero _)⟩, ⟨(ownB_iff _ _ _ _ _).2 ⟨by omega, by omega, .inl rfl, .inr eL, .inr rfl, .inr rfl⟩, fun i hi => absurd hi (Nat.not_lt_zero _), fun i hi => absurd hi (Nat.not_lt_zero _)⟩, Nat.zero_le _, Nat.zero_le _, Nat.zero_le _, fun i hi => absurd hi (Nat.not_lt_zero _), fun i hi => absurd hi (Nat.not_lt_zero _)⟩
theorem tok_str (s : ByteArray) (hs : s.size ≤ 1048576) : TOK (tStr s) :=
  ⟨⟨Nat.zero_le _, Nat.zero_le _, fun i hi => absurd hi (Nat.not_lt_zero _), fun i hi => absurd hi (Nat.not_lt_zero _)⟩, ⟨(ownB_iff _ _ _ _ _).2 ⟨by omega, by omega, .inr rfl, .inl rfl, .inr rfl, .inr rfl⟩, fun i hi => absurd hi (Nat.not_lt_zero _), fun i hi => absurd hi (Nat.not_lt_zero _)⟩, (by show s.size ≤ 140737488351232; omega), Nat.zero_le _, Nat.zero_le _, fun i hi => absurd hi (Nat.not_lt_zero _), fun i hi => absurd hi (Nat.not_lt_zero _)⟩
theorem tok_list (l : List T) (hl : l.length ≤ 1048576) (h : ∀ k, k < l.length → TOK (l.getD k .no)) : TOK (tList l) :=
  ⟨⟨(by show l.length ≤ 2147483647; omega), Nat.zero_le _, fun i hi => (h i hi).1, fun i hi => absurd hi (Nat.not_lt_zero _)⟩, ⟨(ownB_iff _ _ _ _ _).2 ⟨by omega, by omega, .inr rfl, .inr eL, .inl rfl, .inr rfl⟩, fun i hi => (h i hi).2.1, fun i hi => absurd hi (Nat.not_lt_zero _)⟩, Nat.zero_le _, (by show l.length ≤ 140737488351232; omega), Nat.zero_le _, fun i hi => (h i hi).2.2, fun i hi => absurd hi (Nat.not_lt_zero _)⟩
/-- the keys rise, and what they name is well -/
def DOK (l : List (ByteArray × T)) : Prop := l.length ≤ 1048576 ∧ ∀ k, k < l.length → (l.getD k (ByteArray.empty, .no)).1.size ≤ 1048576 ∧ TOK (l.getD k (ByteArray.empty, .no)).2 ∧ keyBad (fun i => (l.getD i (ByteArray.empty, .no)).1) k = false
theorem tok_dict (l : List (ByteArray × T)) (h : DOK l) : TOK (tDict l) := by
  obtain ⟨hl, h⟩ := h
  exact ⟨⟨Nat.zero_le _, (by show l.length ≤ 2147483647; omega), fun i hi => absurd hi (Nat.not_lt_zero _), fun i hi => (h i hi).2.1.1⟩, ⟨(ownB_iff _ _ _ _ _).2 ⟨by omega, by omega, .inr rfl, .inr eL, .inr rfl, .inl rfl⟩, fun i hi => absurd hi (Nat.not_lt_zero _), fun i hi => ⟨(h i hi).2.2, (h i hi).2.1.2.1⟩⟩, Nat.zero_le _, Nat.zero_le _, (by show l.length ≤ 140737488351232; omega), fun i hi => absurd hi (Nat.not_lt_zero _), fun i hi => ⟨Nat.le_trans (h i hi).1 (by omega), (h i hi).2.1.2.2⟩⟩
theorem dok_nil : DOK [] := ⟨Nat.zero_le _, fun _k hk => absurd hk (Nat.not_lt_zero _)⟩
theorem getD_snoc_lt {α : Type} (l : List α) (x d : α) {k : Nat} (h : k < l.length) : (l ++ [x]).getD k d = l.getD k d := by simp [List.getD, List.getElem?_append_left h]
theorem getD_snoc_eq {α : Type} (l : List α) (x d : α) : (l ++ [x]).getD l.length d = x := by simp [List.getD]
theorem dok_snoc {l : List (ByteArray × T)} {key : ByteArray} {t : T} (h : DOK l) (hl : l.length < 1048576) (hk : key.size ≤ 1048576) (ht : TOK t) (hr : l ≠ [] → leB key (l.getLastD (ByteArray.empty, .no)).1 = false) : DOK (l ++ [(key, t)]) := by
  refine ⟨by simp; omega, fun k hk' => ?_⟩
  by_cases e : k < l.length
  · obtain ⟨h1, h2, h3⟩ := h.2 k e
    refine ⟨by rw [getD_snoc_lt _ _ _ e]; exact h1, by rw [getD_snoc_lt _ _ _ e]; exact h2, ?_⟩
    cases k with
    | zero => rfl
    | succ k =>
      show leB ((l ++ [(key, t)]).getD (k + 1) (ByteArray.empty, .no)).1 ((l ++ [(key, t)]).getD k (ByteArray.empty, .no)).1 = false
      rw [getD_snoc_lt _ _ _ e, getD_snoc_lt _ _ _ (by omega)]
      exact h3
  · obtain rfl : k = l.length := by simp at hk'; omega
    refine ⟨by rw [getD_snoc_eq]; exact hk, by rw [getD_snoc_eq]; exact ht, ?_⟩
    cases hn : l.length with
    | zero => rfl
    | succ m =>
      show leB ((l ++ [(key, t)]).getD (m + 1) (ByteArray.empty, .no)).1 ((l ++ [(key, t)]).getD m (ByteArray.empty, .no)).1 = false
      rw [← hn, getD_snoc_eq, getD_snoc_lt _ _ _ (by omega)]
      have := hr (by intro e; rw [e] at hn; cases hn)
      rw [show l.getLastD (ByteArray.empty, .no) = l.getD m (ByteArray.empty, .no) from by rw [List.getLastD_eq_getLast?, List.getLast?_eq_getElem?, hn]; rfl] at this
      exact this
theorem RR.low {rb : Nat} {w0 w w' : World} {a : Option Addr} {c : Nat} {b : List UInt8} {i0 j : Nat} (h0 : RR rb w0 a c b i0) (h : RR rb w a c b j) (hs : w0.heap.size ≤ w'.heap.size) (hk : ∀ k, k < w0.heap.size → w'.heap[k]? = w.heap[k]?) : RR rb w' a c b j := by
  obtain ⟨⟨x1, y1, y2, ⟨t1, p1, y3⟩, ⟨t2, p2, y4⟩⟩, x2, x3, x4, x5⟩ := h0
  obtain ⟨⟨z1, u1, u2, ⟨t3, p3, u3⟩, ⟨t4, p4, u4⟩⟩, z2, z3, z4, z5⟩ := h
  refine ⟨⟨z1.keep (hk _ x1.lt), u1, u2, ⟨t3, p3, (World.cell?_of_block (w := w) (hk 2 (World.block_lt_of_cell? w0 _ y3))).trans u3⟩, ⟨t4, p4, (World.cell?_of_block (w := w) (hk 3 (World.block_lt_of_cell? w0 _ y4))).trans u4⟩⟩, z2, z3, z4, ?_⟩
  rcases z5 with h | ⟨g, o, rfl, h2, h3, h4⟩
  · exact .inl h
  · rcases x5 with h | ⟨g', o', e, k2, k3, k4⟩
    · exact .inl h
    · cases e
      exact .inr ⟨g, o, rfl, h2, Nat.lt_of_lt_of_le k3 hs, fun k hk' => (World.cell?_of_block (w := w) (hk g k3)).trans (h4 k hk')⟩
/-- a value may begin here -/
def ready (b : List UInt8) (st : List Fr) (i : Nat) : Prop := match st with
  | [] => True
  | f :: _ => (f.d = true ∧ f.has = true) ∨ (f.d = false ∧ i < b.length ∧ byt b i ≠ 101)
theorem step_end {b : List UInt8} {st : List Fr} {i : Nat} (h : b.length ≤ i) : step b st i = .bad b.length 21 := by unfold step; rw [if_pos h]
theorem step_ready {b : List UInt8} {st : List Fr} {i : Nat} (h : ready b st i) (hi : i < b.length) : step b st i = opn b st i := by
  unfold step; rw [if_neg (by omega)]
  cases st with
  | nil => rfl
  | cons f r =>
    dsimp only
    rcases h with ⟨h1, h2⟩ | ⟨h1, _, h3⟩
    · rw [if_neg (by simp [h1, h2]), if_neg (by simp [h1])]
    · rw [if_neg (by simp [h1]), if_neg (by simp [h3])]
/-- how a function that reads a value ends -/
def valEnd (b : List UInt8) (st : List Fr) (i rb : Nat) (w w' : World) (a : Option Addr) (c : Nat) (f : Value → Value) (e : Ending) : Prop :=
  Besides rb w w' ∧ ((∃ t u j, e = .returned u ∧ RN (fun x => w.heap.size ≤ x) w' t (f u) ∧ RR rb w' a c b j ∧ i < j ∧ Run b (.go st i) (deliver st t j) ∧ TOK t) ∨ ∃ (p : Nat) (er : Int), e = pnc p er ∧ Run b (.go st i) (.bad p er))
theorem valEnd.bad {b : List UInt8} {st : List Fr} {i rb : Nat} {w w' : World} {a : Option Addr} {c : Nat} {f : Value → Value} {p : Nat} {er : Int} (h : Besides rb w w') (hr : Run b (.go st i) (.bad p er)) : valEnd b st i rb w w' a c f (pnc p er) := ⟨h, .inr ⟨p, er, rfl, hr⟩⟩
theorem valEnd.ok {b : List UInt8} {st : List Fr} {i j rb : Nat} {w w' : World} {a : Option Addr} {c : Nat} {f : Value → Value} {t : T} {u : Value} (h : Besides rb w w') (h1 : RN (fun x => w.heap.size ≤ x) w' t (f u)) (h2 : RR rb w' a c b j) (h3 : i < j) (hr : Run b (.go st i) (deliver st t j)) (ht : TOK t) : valEnd b st i rb w w' a c f (.returned u) := ⟨h, .inl ⟨t, u, j, rfl, h1, h2, h3, hr, ht⟩⟩
def VVc (b : List UInt8) (N : Nat) : Prop := ∀ (rb : Nat) (a : Option Addr) (c : Nat) (st : List Fr) (i : Nat) (w : World), b.length - i < N → RR rb w a c b i → st.length ≤ 32 → ready b st i →
  Calls Tryd.prog 34 #[.pointer (some ⟨rb, 0, none⟩), .int .i64 (st.length : Int)] w fun e w' => valEnd b st i rb w w' a c (fun u => u) e
end Go.Proofs.YtegdlkbilgkfoaaDoor
namespace Go.Proofs.YtegdlkbilgkfoaaDoor
open Go.RowKit Go.Deep
theorem step_list {b : List UInt8} {st : List Fr} {l : List T} {j : Nat} (hj : j < b.length) (hx : byt b j = 101) : step b ({ d := false, ls := l } :: st) j = deliver st (tList l) (j + 1) := by
  unfold step; rw [if_neg (by omega)]
  dsimp only
  rw [if_neg (by simp), if_pos ⟨rfl, hx⟩]
  rfl
set_option maxRecDepth 10000 in
set_option maxHeartbeats 2000000 in
theorem list48 (b : List UInt8) (N : Nat) (ih : VVc b N) (rb : Nat) (a : Option Addr) (c : Nat) (st : List Fr) (i : Nat) (w : World) (hN : b.length - i ≤ N) (h : RR rb w a c b i) (hi : i < b.length) (hst : st.length < 32) (hrd : ready b st i) (hx : byt b i = 108) :
    Calls Tryd.prog 52 #[.pointer (some ⟨rb, 0, none⟩), .int .i64 (st.length : Int)] w fun e w' => valEnd b st i rb w w' a c (.iface 78) e := by
  obtain ⟨c0, c1, f1⟩ := h.cells
  have hl := h.2.2.2.1
  have hrb : rb < w.heap.size := h.1.1.lt
  have HI := Lib.hid ih
  have H0 := Lib.hid h
  have HR1 : Hid (Run b (.go st i) (.go ({ d := false } :: st) (i + 1))) := Lib.hid (Run.one (by rw [step_ready hrd hi, opn, if_pos hx, if_neg (by omega)]))
  have HN : Hid (RR rb ((w.setCell ⟨rb, 1, none⟩ (.int .i64 ((i : Int) + 1))).alloc (Obj.cells #[] 52)) a c b (i + 1) ∧ BB w.heap.size rb w ((w.setCell ⟨rb, 1, none⟩ (.int .i64 ((i : Int) + 1))).alloc (Obj.cells #[] 52)) ∧ LI w.heap.size ((w.setCell ⟨rb, 1, none⟩ (.int .i64 ((i : Int) + 1))).alloc (Obj.cells #[] 52)) (.slice (some ⟨w.heap.size, 0, none⟩) 0 0) []) := by
    have e : (w.setCell ⟨rb, 1, none⟩ (.int .i64 ((i : Int) + 1))).heap.size = w.heap.size := by simp [World.setCell]
    have hs := h.set (i + 1) (by omega)
    refine ⟨hs.heap ((Below.refl _ _).alloc (Nat.le_refl _) _), (BB.of (Besides.refl rb w).set1 (Nat.le_refl _)).trans (BB.alloc (by rw [e]; exact Nat.le_refl _) _), LI.nil (Nat.le_refl _) ?_⟩
    have := heap_new (w.setCell ⟨rb, 1, none⟩ (.int .i64 ((i : Int) + 1))) (Obj.cells #[] 52)
    rw [e] at this
    exact this
  clear h ih hrd hx
  go_enter Tryd.func52, Tryd.ntmps52
  go_wp2
  clear c0 c1 f1
  generalize (w.setCell ⟨rb, 1, none⟩ (.int .i64 ((i : Int) + 1))).alloc (Obj.cells #[] 52) = w1 at *
  go_loopw [5] (fun v wr => ∃ (l : List T) (j : Nat), Hid (LI w.heap.size wr v l ∧ RR rb wr a c b j ∧ BB w.heap.size rb w wr ∧ i < j ∧ l.length ≤ j ∧ (∀ k, k < l.length → TOK (l.getD k .no)) ∧ Run b (.go st i) (.go ({ d := false, ls := l } :: st) j))) (fun _ wr => b.length - atOf wr rb)
  case atStart => exact ⟨[], i + 1, HN.out.2.2, HN.out.1, HN.out.2.1, Nat.lt_succ_self _, Nat.zero_le _, fun k hk => absurd hk (Nat.not_lt_zero _), HR1.out⟩
  case round =>
    clear HN HR1
    obtain ⟨l, j, HO⟩ := hrel
    have hmer := HO.out.2.1.atOf
    have hjn := HO.out.2.1.2.1
    have hij := HO.out.2.2.2.1
    have hlj := HO.out.2.2.2.2.1
    go_wp2_with fail
    refine (next43 rb a c b j wr HO.out.2.1).mono ?_
    rintro e w2 ⟨hb1, ⟨hlt, rfl⟩ | ⟨heq, rfl⟩⟩
    case inr =>
      rw [heq]
      exact ⟨rfl, valEnd.bad (BB.besides (HO.out.2.2.1.trans (BB.of (Besides.of_below hb1) HO.out.2.2.1.size))) (HO.out.2.2.2.2.2.2.trans (Run.one (step_end (by omega))))⟩
    have HP : Hid (LI w.heap.size w2 u5 l ∧ RR rb w2 a c b j ∧ BB w.heap.size rb w w2 ∧ (∀ k, k < l.length → TOK (l.getD k .no)) ∧ Run b (.go st i) (.go ({ d := false, ls := l } :: st) j)) :=
      ⟨HO.out.1.keep hb1.size (fun x _ hx => hb1.block x hx), HO.out.2.1.heap hb1, HO.out.2.2.1.trans (BB.of (Besides.of_below hb1) HO.out.2.2.1.size), HO.out.2.2.2.2.2.1, HO.out.2.2.2.2.2.2⟩
    clear HO hb1
    obtain ⟨g, cap, rfl⟩ : ∃ g cap, u5 = .slice (some ⟨g, 0, none⟩) l.length cap := by
      obtain ⟨us, g, q1, q2, _⟩ := HP.out.1
      obtain ⟨cap, rfl, _⟩ := own_form q1 q2
      exact ⟨g, cap, rfl⟩
    by_cases hx : byt b j = 101
    · rw [hx]
      obtain ⟨c0, c1, f1⟩ := HP.out.2.1.cells
      have HE : Hid (valEnd b st i rb w (w2.setCell ⟨rb, 1, none⟩ (.int .i64 ((j : Int) + 1))) a c (.iface 78) (.returned (.slice (some ⟨g, 0, none⟩) l.length cap))) := by
        obtain ⟨q1, q2, q3, q4, q5⟩ := HP.out
        have e : (w2.setCell ⟨rb, 1, none⟩ (.int .i64 ((j : Int) + 1))).heap.size = w2.heap.size := by simp [World.setCell]
        exact Lib.hid (valEnd.ok (BB.besides (q3.trans (BB.of (Besides.refl rb w2).set1 q3.size))) (LI.keep q1 (by rw [e]; exact Nat.le_refl _) (fun x hx _ => Below.heap_setCell _ _ _ _ (by show x ≠ rb; omega))).node (q2.set (j + 1) (by omega)) (by omega) (q5.trans (Run.one (step_list hlt hx))) (tok_list l (by omega) q4))
      clear HP
      go_wp2
      go_ret
      exact HE.out
    · have hz : ((byt b j).toNat : Int) ≠ 101 := u8_ne hx
      have HV := HI.out rb a c ({ d := false, ls := l } :: st) j w2 (by omega) HP.out.2.1 (by simp; omega) (.inr ⟨rfl, hlt, hx⟩)
      rw [show ((({ d := false, ls := l } : Fr) :: st).length : Int) = (st.length : Int) + 1 from by simp] at HV
      have HVH := Lib.hid HV
      clear HV
      go_wp2_with fail
      refine HVH.out.mono ?_
      clear HVH
      rintro e w3 ⟨hb3, ⟨t, u, j2, rfl, hrn, hrr, hlt2, hrun, htok⟩ | ⟨p, er, rfl, hrun⟩⟩
      case inr => exact ⟨rfl, valEnd.bad (BB.besides (HP.out.2.2.1.trans (BB.of hb3 HP.out.2.2.1.size))) (HP.out.2.2.2.2.trans hrun)⟩
      obtain ⟨ty, uu, rfl⟩ := hrn.iface
      have hB3 : w.heap.size ≤ w3.heap.size := Nat.le_trans HP.out.2.2.1.size hb3.size
      have hli : LI w.heap.size (w3.alloc (Obj.cells #[.iface ty uu] 52)) (.slice (some ⟨g, 0, none⟩) l.length cap) l :=
        (HP.out.1.keep hb3.size (fun x hx1 hx2 => hb3.block x hx2 (by omega))).keep (by simp) (fun x _ hx2 => Below.heap_alloc _ _ _ hx2)
      have hrn' : RN (fun x => w.heap.size ≤ x ∧ some x ≠ (Value.slice (some ⟨g, 0, none⟩) l.length cap).ownBlock) (w3.alloc (Obj.cells #[.iface ty uu] 52)) t (.iface ty uu) := by
        obtain ⟨us, g', q1, q2, _⟩ := HP.out.1
        have q3 := own_lt q1 q2
        cases q2
        refine RN.move (fun x hx _ => ⟨Nat.le_trans HP.out.2.2.1.size hx, fun e => ?_⟩) (by simp) (fun x _ hx2 => Below.heap_alloc _ _ _ hx2) _ _ hrn
        have h5 : x = g := by cases e; rfl
        have h6 : g < w2.heap.size := q3.2
        omega
      have HQ : Hid (RR rb w3 a c b j2 ∧ BB w.heap.size rb w w3 ∧ j < j2 ∧ (∀ k, k < (l ++ [t]).length → TOK ((l ++ [t]).getD k .no)) ∧ Run b (.go st i) (.go ({ d := false, ls := l ++ [t] } :: st) j2)) := by
        obtain ⟨_, _, q3, q4, q5⟩ := HP.out
        refine ⟨hrr, q3.trans (BB.of hb3 q3.size), hlt2, fun k hk => ?_, q5.trans hrun⟩
        by_cases e : k < l.length
        · rw [getD_snoc_lt _ _ _ e]; exact q4 k e
        · obtain rfl : k = l.length := by simp at hk; omega
          rw [getD_snoc_eq]; exact htok
      have hll : l.length ≤ 2097152 := by omega
      clear hrn hrr hrun htok hb3 HP
      go_wp2_with (at_builtin; refine append_node (rb := rb) (B := w.heap.size) (t := t) rfl _ _ rfl rfl hli _ (.iface ty uu) rfl (by go_simp) hrn' (by simp; omega) hll ?_)
      intro v' w4 hl4 hb4 hf4
      have HZ : Hid (LI w.heap.size w4 v' (l ++ [t]) ∧ RR rb w4 a c b j2 ∧ BB w.heap.size rb w w4 ∧ i < j2 ∧ (l ++ [t]).length ≤ j2 ∧ (∀ k, k < (l ++ [t]).length → TOK ((l ++ [t]).getD k .no)) ∧ Run b (.go st i) (.go ({ d := false, ls := l ++ [t] } :: st) j2)) := by
        obtain ⟨q1, q2, q3, q4, q5⟩ := HQ.out
        have hz5 : (w3.alloc (Obj.cells #[.iface ty uu] 52)).heap.size = w3.heap.size + 1 := by simp
        have hz6 := hb4.size
        refine ⟨hl4, H0.out.low q1 (by omega) (fun k hk => (hf4 k (by omega) hk).trans (Below.heap_alloc _ _ _ (by omega))), (q2.trans (BB.alloc hB3 _)).trans hb4, by omega, by simp; omega, q4, q5⟩
      have hme2 := HZ.out.2.1.atOf
      have hj2 := HQ.out.2.2.1
      have hj3 := HQ.out.1.2.1
      clear HQ hl4 hb4 hf4 hli hrn'
      go_wp2
      go_roundw
      case rel => exact ⟨l ++ [t], j2, HZ⟩
      case measure => rw [hmer, hme2]; omega
end Go.Proofs.YtegdlkbilgkfoaaDoor
namespace Go.Proofs.YtegdlkbilgkfoaaDoor
open Go.RowKit Go.Deep
def lastK (l : List (ByteArray × T)) : ByteArray := (l.getLastD (ByteArray.empty, .no)).1
/-- a key behind the entries l -/
def keyP (b : List UInt8) (l : List (ByteArray × T)) (i : Nat) : Pc ByteArray :=
  match strg b i with
  | .bad p e => .bad p e
  | .ok s j => if l ≠ [] ∧ leB s (lastK l) = true then .bad i 25 else .ok s j
theorem strg_nodig {b : List UInt8} {i : Nat} (hi : i < b.length) (hd : dig (byt b i) = false) : strg b i = .bad i 22 := by
  have hr : run b i = 0 := by
    rcases Nat.eq_zero_or_pos (run b i) with h | h
    · exact h
    · have := (run_lt h).2
      simp only [Nat.add_zero] at this
      rw [hd] at this; cases this
  have hdg : digs b 58 i = .bad i 22 := by
    unfold digs
    rw [hr, if_neg (by omega), if_pos (.inl rfl)]
    rfl
  unfold strg
  rw [hdg]
theorem keyy_eq {b : List UInt8} {f : Fr} {r : List Fr} {i : Nat} (hi : i < b.length) : keyy b f r i = match keyP b f.ps i with
    | .bad p e => .bad p e
    | .ok s j => .go ({ f with key := s, has := true } :: r) j := by
  unfold keyy keyP
  by_cases hd : dig (byt b i) = false
  · rw [if_pos hd, strg_nodig hi hd]
  · rw [if_neg hd]
    cases strg b i with
    | bad p e => rfl
    | ok s j =>
      dsimp only
      show (if f.ps ≠ [] ∧ leB s (lastK f.ps) = true then Out.bad i 25 else Out.go ({ f with key := s, has := true } :: r) j) = _
      by_cases h : f.ps ≠ [] ∧ leB s (lastK f.ps) = true
      · rw [if_pos h, if_pos h]
      · rw [if_neg h, if_neg h]
theorem DI.last {B : Nat} {w : World} {g cap n : Nat} {l : List (ByteArray × T)} (h : DI B w (.slice (some ⟨g, 0, none⟩) n cap) l) (hn : l ≠ []) : w.cell? ⟨g, (l.length - 1) * 2, none⟩ = some (.string (lastK l)) := by
  obtain ⟨us, g', q1, q2, q3⟩ := h
  obtain ⟨cap', _, hc⟩ := own_form q1 q2
  cases q2
  have hl : 0 < l.length := List.length_pos_iff.2 hn
  obtain ⟨u, g0, _⟩ := q3 (l.length - 1) (by omega)
  have := hc _ _ g0
  rw [this]
  unfold lastK
  rw [List.getLastD_eq_getLast?, List.getLast?_eq_getElem?]
  rfl
set_option maxRecDepth 10000 in
set_option maxHeartbeats 1000000 in
theorem key56 (rb : Nat) (a : Option Addr) (c : Nat) (b : List UInt8) (i B g cap : Nat) (l : List (ByteArray × T)) (w : World) (h : RR rb w a c b i) (hd : DI B w (.slice (some ⟨g, 0, none⟩) l.length cap) l) (hrb : rb < B) (hlen : l.length ≤ 1048576) :
    Calls Tryd.prog 66 #[.pointer (some ⟨rb, 0, none⟩), .slice (some ⟨g, 0, none⟩) l.length cap] w fun e w' => pcEnd (keyP b l i) rb w w' a c b (fun s => .string s) e := by
  obtain ⟨c0, c1, f1⟩ := h.cells
  have HR := Lib.hid h
  have HD := Lib.hid hd
  clear h hd
  go_enter Tryd.func66, Tryd.ntmps66
  go_wp2_with fail
  clear c0 c1 f1
  refine (word47 rb a c b i w HR.out).mono ?_
  intro e w1 hp
  obtain ⟨hb1, ⟨s, j, hd, rfl, hr1⟩ | ⟨p, er, hd, rfl⟩⟩ := hp.cases
  case inr => exact ⟨rfl, pcEnd.bad (by rw [keyP, hd]) hb1⟩
  have HK : Hid (keyP b l i = if l ≠ [] ∧ leB s (lastK l) = true then .bad i 25 else .ok s j) := Lib.hid (by rw [keyP, hd])
  have H1 : Hid (RR rb w1 a c b j ∧ Besides rb w w1) := ⟨hr1, hb1⟩
  by_cases hn : l = []
  · have HE : Hid (keyP b l i = .ok s j) := Lib.hid (by rw [HK.out, if_neg (by simp [hn])])
    have hz : (l.length : Int) = 0 := by simp [hn]
    clear hp hb1 hd hr1 HK HD hn
    rw [show l.length = 0 from by omega]
    go_wp2
    go_ret
    exact pcEnd.ok HE.out H1.out.2 H1.out.1
  · have hlp : 0 < l.length := List.length_pos_iff.2 hn
    have hcell := (HD.out.keep hb1.size (fun x h1 h2 => hb1.block x h2 (by omega))).last hn
    clear hp hb1 hd hr1 HD
    obtain ⟨m, hm⟩ : ∃ m, l.length = m + 1 := ⟨l.length - 1, by omega⟩
    rw [hm] at hcell ⊢
    simp only [Nat.add_sub_cancel] at hcell
    have m0 : (0 : Int) ≤ (m : Int) := by omega
    have m1 : (m : Int) ≤ 1048576 := by omega
    have HL : Hid (l ≠ []) := hn
    clear hn hm hlp hlen
    cases hle : leB s (lastK l) with
    | true =>
      have HE : Hid (keyP b l i = .bad i 25) := Lib.hid (by rw [HK.out, if_pos ⟨HL.out, hle⟩])
      have hle' : (Op.bytesLess s.toList (lastK l).toList || s.toList == (lastK l).toList) = true := hle
      clear hle HK
      cases h1 : Op.bytesLess s.toList (lastK l).toList with
      | true =>
        clear hle'
        go_wp2_with fail
        refine (giveUp44 rb _ _ _).mono ?_
        rintro e w' ⟨rfl, rfl⟩
        exact ⟨rfl, pcEnd.bad HE.out H1.out.2⟩
      | false =>
        rw [h1, Bool.false_or] at hle'
        go_wp2_with fail
        refine (giveUp44 rb _ _ _).mono ?_
        rintro e w' ⟨rfl, rfl⟩
        exact ⟨rfl, pcEnd.bad HE.out H1.out.2⟩
    | false =>
      have HE : Hid (keyP b l i = .ok s j) := Lib.hid (by rw [HK.out, if_neg (by simp [hle])])
      have hle' : (Op.bytesLess s.toList (lastK l).toList || s.toList == (lastK l).toList) = false := hle
      clear hle HK
      go_wp2
      go_ret
      exact pcEnd.ok HE.out H1.out.2 H1.out.1
end Go.Proofs.YtegdlkbilgkfoaaDoor
namespace Go.Proofs.YtegdlkbilgkfoaaDoor
open Go.RowKit Go.Deep
theorem step_dict {b : List UInt8} {st : List Fr} {l : List (ByteArray × T)} {j : Nat} (hj : j < b.length) (hx : byt b j = 101) : step b ({ d := true, ps := l } :: st) j = deliver st (tDict l) (j + 1) := by
  unfold step; rw [if_neg (by omega)]
  dsimp only
  rw [if_pos ⟨rfl, rfl⟩, if_pos hx]
  rfl
theorem step_key {b : List UInt8} {st : List Fr} {l : List (ByteArray × T)} {j : Nat} (hj : j < b.length) (hx : ¬ byt b j = 101) : step b ({ d := true, ps := l } :: st) j = match keyP b l j with
    | .bad p e => .bad p e
    | .ok s k => .go ({ d := true, ps := l, key := s, has := true } :: st) k := by
  unfold step; rw [if_neg (by omega)]
  dsimp only
  rw [if_pos ⟨rfl, rfl⟩, if_neg hx, keyy_eq hj]
  all_goals rfl
theorem strg_lt {b : List UInt8} {i j : Nat} {s : ByteArray} (h : strg b i = .ok s j) : i < j ∧ s.size ≤ b.length ∧ j ≤ b.length := by
  unfold strg at h
  cases hd : digs b 58 i with
  | bad p e => rw [hd] at h; cases h
  | ok d k =>
    rw [hd] at h
    dsimp only at h
    obtain ⟨_, h2, h3, h4, _⟩ := digs_ok hd
    split at h
    · cases h
    · split at h
      · rename_i n hn
        split at h
        · cases h
        · cases h
          have h0 : 0 ≤ n := atoi_nonneg ((digs_len hd).2 0 (by have := (digs_len hd).1; omega)) hn
          refine ⟨by omega, ?_, by omega⟩
          rw [ba_size, cut_length (by omega)]
          omega
      · cases h
theorem keyP_ok {b : List UInt8} {l : List (ByteArray × T)} {i j : Nat} {s : ByteArray} (h : keyP b l i = .ok s j) : i < j ∧ s.size ≤ b.length ∧ (l ≠ [] → leB s (lastK l) = false) := by
  unfold keyP at h
  cases hs : strg b i with
  | bad p e => rw [hs] at h; cases h
  | ok s' k =>
    rw [hs] at h
    dsimp only at h
    split at h
    · cases h
    · rename_i hn
      cases h
      obtain ⟨h1, h2, _⟩ := strg_lt hs
      refine ⟨h1, h2, fun hl => ?_⟩
      cases e : leB s (lastK l) with
      | false => rfl
      | true => exact absurd ⟨hl, e⟩ hn
set_option maxRecDepth 10000 in
set_option maxHeartbeats 2000000 in
theorem dict49 (b : List UInt8) (N : Nat) (ih : VVc b N) (rb : Nat) (a : Option Addr) (c : Nat) (st : List Fr) (i : Nat) (w : World) (hN : b.length - i ≤ N) (h : RR rb w a c b i) (hi : i < b.length) (hst : st.length < 32) (hrd : ready b st i) (hx : byt b i = 100) :
    Calls Tryd.prog 53 #[.pointer (some ⟨rb, 0, none⟩), .int .i64 (st.length : Int)] w fun e w' => valEnd b st i rb w w' a c (.iface 59) e := by
  obtain ⟨c0, c1, f1⟩ := h.cells
  have hl := h.2.2.2.1
  have hrb : rb < w.heap.size := h.1.1.lt
  have HI := Lib.hid ih
  have H0 := Lib.hid h
  have HR1 : Hid (Run b (.go st i) (.go ({ d := true } :: st) (i + 1))) := Lib.hid (Run.one (by rw [step_ready hrd hi, opn, if_neg (by rw [hx]; decide), if_pos hx, if_neg (by omega)]))
  have HN : Hid (RR rb ((w.setCell ⟨rb, 1, none⟩ (.int .i64 ((i : Int) + 1))).alloc (Obj.cells #[] 66)) a c b (i + 1) ∧ BB w.heap.size rb w ((w.setCell ⟨rb, 1, none⟩ (.int .i64 ((i : Int) + 1))).alloc (Obj.cells #[] 66)) ∧ DI w.heap.size ((w.setCell ⟨rb, 1, none⟩ (.int .i64 ((i : Int) + 1))).alloc (Obj.cells #[] 66)) (.slice (some ⟨w.heap.size, 0, none⟩) 0 0) []) := by
    have e : (w.setCell ⟨rb, 1, none⟩ (.int .i64 ((i : Int) + 1))).heap.size = w.heap.size := by simp [World.setCell]
    have hs := h.set (i + 1) (by omega)
    refine ⟨hs.heap ((Below.refl _ _).alloc (Nat.le_refl _) _), (BB.of (Besides.refl rb w).set1 (Nat.le_refl _)).trans (BB.alloc (by rw [e]; exact Nat.le_refl _) _), DI.nil (Nat.le_refl _) ?_⟩
    have := heap_new (w.setCell ⟨rb, 1, none⟩ (.int .i64 ((i : Int) + 1))) (Obj.cells #[] 66)
    rw [e] at this
    exact this
  clear h ih hrd hx
  go_enter Tryd.func53, Tryd.ntmps53
  go_wp2
  clear c0 c1 f1
  generalize (w.setCell ⟨rb, 1, none⟩ (.int .i64 ((i : Int) + 1))).alloc (Obj.cells #[] 66) = w1 at *
  go_loopw [5] (fun v wr => ∃ (l : List (ByteArray × T)) (j : Nat), Hid (DI w.heap.size wr v l ∧ RR rb wr a c b j ∧ BB w.heap.size rb w wr ∧ i < j ∧ l.length ≤ j ∧ DOK l ∧ Run b (.go st i) (.go ({ d := true, ps := l } :: st) j))) (fun _ wr => b.length - atOf wr rb)
  case atStart => exact ⟨[], i + 1, HN.out.2.2, HN.out.1, HN.out.2.1, Nat.lt_succ_self _, Nat.zero_le _, dok_nil, HR1.out⟩
  case round =>
    clear HN HR1
    obtain ⟨l, j, HO⟩ := hrel
    have hmer := HO.out.2.1.atOf
    have hjn := HO.out.2.1.2.1
    have hij := HO.out.2.2.2.1
    have hlj := HO.out.2.2.2.2.1
    go_wp2_with fail
    refine (next43 rb a c b j wr HO.out.2.1).mono ?_
    rintro e w2 ⟨hb1, ⟨hlt, rfl⟩ | ⟨heq, rfl⟩⟩
    case inr =>
      rw [heq]
      exact ⟨rfl, valEnd.bad (BB.besides (HO.out.2.2.1.trans (BB.of (Besides.of_below hb1) HO.out.2.2.1.size))) (HO.out.2.2.2.2.2.2.trans (Run.one (step_end (by omega))))⟩
    have HP : Hid (DI w.heap.size w2 u5 l ∧ RR rb w2 a c b j ∧ BB w.heap.size rb w w2 ∧ DOK l ∧ Run b (.go st i) (.go ({ d := true, ps := l } :: st) j)) :=
      ⟨HO.out.1.keep hb1.size (fun x _ hx => hb1.block x hx), HO.out.2.1.heap hb1, HO.out.2.2.1.trans (BB.of (Besides.of_below hb1) HO.out.2.2.1.size), HO.out.2.2.2.2.2.1, HO.out.2.2.2.2.2.2⟩
    clear HO hb1
    obtain ⟨g, cap, rfl⟩ : ∃ g cap, u5 = .slice (some ⟨g, 0, none⟩) l.length cap := by
      obtain ⟨us, g, q1, q2, _⟩ := HP.out.1
      obtain ⟨cap, rfl, _⟩ := own_form q1 q2
      exact ⟨g, cap, rfl⟩
    by_cases hx : byt b j = 101
    · rw [hx]
      obtain ⟨c0, c1, f1⟩ := HP.out.2.1.cells
      have HE : Hid (valEnd b st i rb w (w2.setCell ⟨rb, 1, none⟩ (.int .i64 ((j : Int) + 1))) a c (.iface 59) (.returned (.slice (some ⟨g, 0, none⟩) l.length cap))) := by
        obtain ⟨q1, q2, q3, q4, q5⟩ := HP.out
        have e : (w2.setCell ⟨rb, 1, none⟩ (.int .i64 ((j : Int) + 1))).heap.size = w2.heap.size := by simp [World.setCell]
        exact Lib.hid (valEnd.ok (BB.besides (q3.trans (BB.of (Besides.refl rb w2).set1 q3.size))) (DI.keep q1 (by rw [e]; exact Nat.le_refl _) (fun x hx _ => Below.heap_setCell _ _ _ _ (by show x ≠ rb; omega))).node (q2.set (j + 1) (by omega)) (by omega) (q5.trans (Run.one (step_dict hlt hx))) (tok_dict l q4))
      clear HP
      go_wp2
      go_ret
      exact HE.out
    · have hz : ((byt b j).toNat : Int) ≠ 101 := u8_ne hx
      have hlb : l.length ≤ 1048576 := by omega
      go_wp2_with fail
      refine (key56 rb a c b j w.heap.size g cap l w2 HP.out.2.1 HP.out.1 hrb hlb).mono ?_
      intro e w5 hp
      obtain ⟨hb5, ⟨s, j1, hk1, rfl, hr5⟩ | ⟨p, er, hk1, rfl⟩⟩ := hp.cases
      case inr => exact ⟨rfl, valEnd.bad (BB.besides (HP.out.2.2.1.trans (BB.of hb5 HP.out.2.2.1.size))) (HP.out.2.2.2.2.trans (Run.one (by rw [step_key hlt hx, hk1])))⟩
      have hkf := keyP_ok hk1
      have HP5 : Hid (DI w.heap.size w5 (.slice (some ⟨g, 0, none⟩) l.length cap) l ∧ RR rb w5 a c b j1 ∧ BB w.heap.size rb w w5 ∧ DOK l ∧ Run b (.go st i) (.go ({ d := true, ps := l, key := s, has := true } :: st) j1)) := by
        obtain ⟨q1, q2, q3, q4, q5⟩ := HP.out
        exact ⟨q1.keep hb5.size (fun x h1 h2 => hb5.block x h2 (by omega)), hr5, q3.trans (BB.of hb5 q3.size), q4, q5.trans (Run.one (by rw [step_key hlt hx, hk1]))⟩
      have hj1 : j < j1 := hkf.1
      have HK : Hid (s.size ≤ 1048576 ∧ (l ≠ [] → leB s (lastK l) = false)) := ⟨by have := hkf.2.1; omega, hkf.2.2⟩
      clear HP hb5 hr5 hp hk1 hkf
      have hj1n := HP5.out.2.1.2.1
      have HV := HI.out rb a c ({ d := true, ps := l, key := s, has := true } :: st) j1 w5 (by omega) HP5.out.2.1 (by simp; omega) (.inl ⟨rfl, rfl⟩)
      rw [show ((({ d := true, ps := l, key := s, has := true } : Fr) :: st).length : Int) = (st.length : Int) + 1 from by simp] at HV
      have HVH := Lib.hid HV
      clear HV
      go_wp2_with fail
      refine HVH.out.mono ?_
      clear HVH
      rintro e w3 ⟨hb3, ⟨t, u, j2, rfl, hrn, hrr, hlt2, hrun, htok⟩ | ⟨p, er, rfl, hrun⟩⟩
      case inr => exact ⟨rfl, valEnd.bad (BB.besides (HP5.out.2.2.1.trans (BB.of hb3 HP5.out.2.2.1.size))) (HP5.out.2.2.2.2.trans hrun)⟩
      obtain ⟨ty, uu, rfl⟩ := hrn.iface
      have hB3 : w.heap.size ≤ w3.heap.size := Nat.le_trans HP5.out.2.2.1.size hb3.size
      have hli : DI w.heap.size (w3.alloc (Obj.cells #[.string s, .iface ty uu] 66)) (.slice (some ⟨g, 0, none⟩) l.length cap) l :=
        (HP5.out.1.keep hb3.size (fun x hx1 hx2 => hb3.block x hx2 (by omega))).keep (by simp) (fun x _ hx2 => Below.heap_alloc _ _ _ hx2)
      have hrn' : RN (fun x => w.heap.size ≤ x ∧ some x ≠ (Value.slice (some ⟨g, 0, none⟩) l.length cap).ownBlock) (w3.alloc (Obj.cells #[.string s, .iface ty uu] 66)) t (.iface ty uu) := by
        obtain ⟨us, g', q1, q2, _⟩ := HP5.out.1
        have q3 := own_lt q1 q2
        cases q2
        refine RN.move (fun x hx _ => ⟨Nat.le_trans HP5.out.2.2.1.size hx, fun e => ?_⟩) (by simp) (fun x _ hx2 => Below.heap_alloc _ _ _ hx2) _ _ hrn
        have h5 : x = g := by cases e; rfl
        have h6 : g < w5.heap.size := q3.2
        omega
      have HQ : Hid (RR rb w3 a c b j2 ∧ BB w.heap.size rb w w3 ∧ j1 < j2 ∧ DOK (l ++ [(s, t)]) ∧ Run b (.go st i) (.go ({ d := true, ps := l ++ [(s, t)] } :: st) j2)) := by
        obtain ⟨_, _, q3, q4, q5⟩ := HP5.out
        exact ⟨hrr, q3.trans (BB.of hb3 q3.size), hlt2, dok_snoc q4 (by omega) HK.out.1 htok HK.out.2, q5.trans hrun⟩
      have hll : l.length ≤ 2097152 := by omega
      clear hrn hrr hrun htok hb3 HP5 HK
      go_wp2_with (at_builtin; refine append_entry (rb := rb) (B := w.heap.size) (t := t) (key := s) rfl _ _ rfl rfl hli _ (.iface ty uu) rfl (by go_simp) (by go_simp) hrn' (by simp; omega) hll ?_)
      intro v' w4 hl4 hb4 hf4
      have HZ : Hid (DI w.heap.size w4 v' (l ++ [(s, t)]) ∧ RR rb w4 a c b j2 ∧ BB w.heap.size rb w w4 ∧ i < j2 ∧ (l ++ [(s, t)]).length ≤ j2 ∧ DOK (l ++ [(s, t)]) ∧ Run b (.go st i) (.go ({ d := true, ps := l ++ [(s, t)] } :: st) j2)) := by
        obtain ⟨q1, q2, q3, q4, q5⟩ := HQ.out
        have hz5 : (w3.alloc (Obj.cells #[.string s, .iface ty uu] 66)).heap.size = w3.heap.size + 1 := by simp
        have hz6 := hb4.size
        refine ⟨hl4, H0.out.low q1 (by omega) (fun k hk => (hf4 k (by omega) hk).trans (Below.heap_alloc _ _ _ (by omega))), (q2.trans (BB.alloc hB3 _)).trans hb4, by omega, by simp; omega, q4, q5⟩
      have hme2 := HZ.out.2.1.atOf
      have hj2 := HQ.out.2.2.1
      have hj3 := HQ.out.1.2.1
      clear HQ hl4 hb4 hf4 hli hrn'
      go_wp2
      go_roundw
      case rel => exact ⟨l ++ [(s, t)], j2, HZ⟩
      case measure => rw [hmer, hme2]; omega
end Go.Proofs.YtegdlkbilgkfoaaDoor
namespace Go.Proofs.YtegdlkbilgkfoaaDoor
open Go.RowKit Go.Deep
theorem numb_lt {b : List UInt8} {i j : Nat} {n : Int} (h : numb b i = .ok n j) : i < j := by
  by_cases hl : i + 1 < b.length
  · rw [numb_sg hl] at h
    generalize (if byt b (i + 1) = 45 then [45] else [] : List UInt8) = sg at h
    cases hd : digs b 101 (i + 1 + sg.length) with
    | bad p e => rw [hd] at h; cases h
    | ok d k =>
      rw [hd] at h
      dsimp only at h
      obtain ⟨_, h2, _⟩ := digs_ok hd
      cases ha : Lib.atoiAll (sg ++ d) with
      | ok v =>
        rw [ha] at h
        dsimp only at h
        by_cases hc : padd d = true ∨ sg ++ d = [45, 48]
        · rw [if_pos hc] at h; cases h
        · rw [if_neg hc] at h; cases h; omega
      | «syntax» => rw [ha] at h; cases h
      | range => rw [ha] at h; cases h
  · rw [numb, if_pos (by omega)] at h; cases h
theorem scal_num {b : List UInt8} {st : List Fr} {i j : Nat} {n : Int} (hx : byt b i = 105) (h : numb b i = .ok n j) : scal b st i = deliver st (tNum n) j := by rw [scal, if_pos hx, h]
theorem scal_nbad {b : List UInt8} {st : List Fr} {i p : Nat} {e : Int} (hx : byt b i = 105) (h : numb b i = .bad p e) : scal b st i = .bad p e := by rw [scal, if_pos hx, h]
theorem scal_str {b : List UInt8} {st : List Fr} {i j : Nat} {s : ByteArray} (hx : dig (byt b i) = true) (h : strg b i = .ok s j) : scal b st i = deliver st (tStr s) j := by
  rw [scal, if_neg (by intro e; rw [e] at hx; revert hx; decide), if_pos hx, h]
theorem scal_sbad {b : List UInt8} {st : List Fr} {i p : Nat} {e : Int} (hx : dig (byt b i) = true) (h : strg b i = .bad p e) : scal b st i = .bad p e := by
  rw [scal, if_neg (by intro e; rw [e] at hx; revert hx; decide), if_pos hx, h]
set_option maxRecDepth 10000 in
set_option maxHeartbeats 2000000 in
theorem value34 (b : List UInt8) : ∀ N, VVc b N := by
  intro N
  induction N with
  | zero => intro rb a c st i w hN; omega
  | succ N ih =>
    intro rb a c st i w hN h hst hrd
    have HI := Lib.hid ih
    have HR := Lib.hid h
    have HRD := Lib.hid hrd
    have hl := h.2.2.2.1
    clear ih h hrd
    go_enter Tryd.func34, Tryd.ntmps34
    go_wp2_with fail
    refine (next43 rb a c b i w HR.out).mono ?_
    rintro e w1 ⟨hb1, ⟨hlt, rfl⟩ | ⟨heq, rfl⟩⟩
    case inr =>
      rw [heq]
      exact ⟨rfl, valEnd.bad (Besides.of_below hb1) (Run.one (step_end (by omega)))⟩
    have H1 : Hid (RR rb w1 a c b i ∧ Besides rb w w1) := ⟨HR.out.heap hb1, Besides.of_below hb1⟩
    have HS : Hid (step b st i = opn b st i) := Lib.hid (step_ready HRD.out hlt)
    have HW : Hid (w.heap.size ≤ w1.heap.size) := Lib.hid hb1.size
    clear hb1 HR
    obtain ⟨c0, c1, f1⟩ := H1.out.1.cells
    have hst0 : (st.length : Int) ≤ 32 := by omega
    by_cases h105 : byt b i = 105
    · rw [h105]
      have HE : Hid (step b st i = scal b st i) := Lib.hid (by rw [HS.out, opn, if_neg (by rw [h105]; decide), if_neg (by rw [h105]; decide)])
      go_wp2_with fail
      refine (number45 rb a c b i w1 H1.out.1 hlt).mono ?_
      intro e w2 hp
      obtain ⟨hb2, ⟨n, j, hd, rfl, hr2⟩ | ⟨p, er, hd, rfl⟩⟩ := hp.cases
      case inr => exact ⟨rfl, valEnd.bad (H1.out.2.trans hb2) (Run.one (by rw [HE.out, scal_nbad h105 hd]))⟩
      have HF : Hid (valEnd b st i rb w w2 a c (fun u => u) (.returned (.iface 76 (.int .i64 n)))) := Lib.hid (valEnd.ok (t := tNum n) (H1.out.2.trans hb2) (.inl ⟨rfl, rfl⟩) hr2 (numb_lt hd) (Run.one (by rw [HE.out, scal_num h105 hd])) (tok_num n))
      clear hp hb2 hr2 hd HE H1 c0 c1 f1
      go_wp2
      go_ret
      exact HF.out
    by_cases h108 : byt b i = 108
    · rw [h108]
      by_cases h32 : st.length = 32
      · have HE : Hid (step b st i = .bad i 24) := Lib.hid (by rw [HS.out, opn, if_pos h108, if_pos (by omega)])
        have h32' : (st.length : Int) = 32 := by omega
        go_wp2_with fail
        refine (giveUp44 rb _ _ _).mono ?_
        rintro e w' ⟨rfl, rfl⟩
        exact ⟨rfl, valEnd.bad H1.out.2 (Run.one HE.out)⟩
      · have h32' : (st.length : Int) < 32 := by omega
        have HC := Lib.hid (list48 b N HI.out rb a c st i w1 (by omega) H1.out.1 hlt (by omega) HRD.out h108)
        go_wp2_with fail
        refine (isDigit46 108 _).mono ?_
        rintro e w2 ⟨rfl, rfl⟩
        rw [show dig 108 = false from by decide]
        go_wp2_with fail
        refine HC.out.mono ?_
        rintro e w3 ⟨hb3, ⟨t, u, j2, rfl, hrn, hrr, hlt2, hrun, htok⟩ | ⟨p, er, rfl, hrun⟩⟩
        case inr => exact ⟨rfl, valEnd.bad (H1.out.2.trans hb3) hrun⟩
        have HF : Hid (valEnd b st i rb w w3 a c (fun u => u) (.returned (.iface 78 u))) := Lib.hid (valEnd.ok (H1.out.2.trans hb3) (RN.move (fun x hx _ => Nat.le_trans HW.out hx) (Nat.le_refl _) (fun _ _ _ => rfl) _ _ hrn) hrr hlt2 hrun htok)
        clear hrn hrr hrun htok hb3 HC H1 c0 c1 f1
        go_wp2
        go_ret
        exact HF.out
    by_cases h100 : byt b i = 100
    · rw [h100]
      by_cases h32 : st.length = 32
      · have HE : Hid (step b st i = .bad i 24) := Lib.hid (by rw [HS.out, opn, if_neg h108, if_pos h100, if_pos (by omega)])
        have h32' : (st.length : Int) = 32 := by omega
        go_wp2_with fail
        refine (giveUp44 rb _ _ _).mono ?_
        rintro e w' ⟨rfl, rfl⟩
        exact ⟨rfl, valEnd.bad H1.out.2 (Run.one HE.out)⟩
      · have h32' : (st.length : Int) < 32 := by omega
        have HC := Lib.hid (dict49 b N HI.out rb a c st i w1 (by omega) H1.out.1 hlt (by omega) HRD.out h100)
        go_wp2_with fail
        refine (isDigit46 100 _).mono ?_
        rintro e w2 ⟨rfl, rfl⟩
        rw [show dig 100 = false from by decide]
        go_wp2_with fail
        refine HC.out.mono ?_
        rintro e w3 ⟨hb3, ⟨t, u, j2, rfl, hrn, hrr, hlt2, hrun, htok⟩ | ⟨p, er, rfl, hrun⟩⟩
        case inr => exact ⟨rfl, valEnd.bad (H1.out.2.trans hb3) hrun⟩
        have HF : Hid (valEnd b st i rb w w3 a c (fun u => u) (.returned (.iface 59 u))) := Lib.hid (valEnd.ok (H1.out.2.trans hb3) (RN.move (fun x hx _ => Nat.le_trans HW.out hx) (Nat.le_refl _) (fun _ _ _ => rfl) _ _ hrn) hrr hlt2 hrun htok)
        clear hrn hrr hrun htok hb3 HC H1 c0 c1 f1
        go_wp2
        go_ret
        exact HF.out
    have HE : Hid (step b st i = scal b st i) := Lib.hid (by rw [HS.out, opn, if_neg h108, if_neg h100])
    have z105 : ((byt b i).toNat : Int) ≠ 105 := u8_ne h105
    have z108 : ((byt b i).toNat : Int) ≠ 108 := u8_ne h108
    have z100 : ((byt b i).toNat : Int) ≠ 100 := u8_ne h100
    go_wp2_with fail
    refine (isDigit46 (byt b i) _).mono ?_
    rintro e w2 ⟨rfl, rfl⟩
    cases hdg : dig (byt b i) with
    | true =>
      go_wp2_with fail
      refine (word47 rb a c b i w2 H1.out.1).mono ?_
      intro e w3 hp
      obtain ⟨hb2, ⟨s, j, hd, rfl, hr2⟩ | ⟨p, er, hd, rfl⟩⟩ := hp.cases
      case inr => exact ⟨rfl, valEnd.bad (H1.out.2.trans hb2) (Run.one (by rw [HE.out, scal_sbad hdg hd]))⟩
      have hsl := strg_lt hd
      have HF : Hid (valEnd b st i rb w w3 a c (fun u => u) (.returned (.iface 64 (.string s)))) := Lib.hid (valEnd.ok (t := tStr s) (H1.out.2.trans hb2) (.inr (.inl ⟨rfl, rfl⟩)) hr2 hsl.1 (Run.one (by rw [HE.out, scal_str hdg hd])) (tok_str s (by omega)))
      clear hp hb2 hr2 hd HE H1 c0 c1 f1
      go_wp2
      go_ret
      exact HF.out
    | false =>
      go_wp2_with fail
      refine (giveUp44 rb _ _ _).mono ?_
      rintro e w' ⟨rfl, rfl⟩
      exact ⟨rfl, valEnd.bad H1.out.2 (Run.one (by rw [HE.out, scal, if_neg h105, if_neg (by rw [hdg]; decide)]))⟩
end Go.Proofs.YtegdlkbilgkfoaaDoor
