import Derived.Test.YtdlnnnlmlaploaaDoorRows
import Derived.WalkKit
import Derived.BigQuiet
import Derived.Deep.QuietTactic
import Derived.WalkLawsBesides
import Derived.Deep.Slices
import Derived.Deep.RegionHeld3
namespace Go.Proofs.YtdlnnnlmlaploaaDoor
open Go.RowKit Go.Deep
/-- a value of the face as a tree: its children by their places ('no': a place beyond them) -/
inductive T where
  | no
  | mk (k n : Int) (s : ByteArray) (ln : Nat) (l : Nat → T) (dn : Nat) (ky : Nat → ByteArray) (dv : Nat → T)
def T.k : T → Int | .mk k _ _ _ _ _ _ _ => k | .no => 0
def T.n : T → Int | .mk _ n _ _ _ _ _ _ => n | .no => 0
def T.s : T → ByteArray | .mk _ _ s _ _ _ _ _ => s | .no => ByteArray.empty
/-- the value itself: five cells -/
def vv (t : T) (x y : Value) : Value := .agg #[.int .i64 t.k, .int .i64 t.n, .string t.s, x, y]
/-- five cells in memory from o on -/
def five (w : World) (b o : Nat) (t : T) (x y : Value) : Prop :=
  w.cell? ⟨b, o, none⟩ = some (.int .i64 t.k) ∧ w.cell? ⟨b, o + 1, none⟩ = some (.int .i64 t.n) ∧ w.cell? ⟨b, o + 2, none⟩ = some (.string t.s) ∧
  w.cell? ⟨b, o + 3, none⟩ = some x ∧ w.cell? ⟨b, o + 4, none⟩ = some y
/-- the value with the slices x and y reads as the tree; its blocks all meet S -/
def RV (S : Nat → Prop) (w : World) : T → Value → Value → Prop
  | .no => fun _ _ => False
  | .mk _ _ _ ln l dn ky dv => fun x y =>
    (∃ a ca, x = .slice a ln ca ∧ (ln = 0 ∨ ∃ b o, a = some ⟨b, o, none⟩ ∧ S b ∧ b < w.heap.size ∧ ∀ i, i < ln → ∃ x' y', RV S w (l i) x' y' ∧ five w b (o + i * 5) (l i) x' y')) ∧
    (∃ a ca, y = .slice a dn ca ∧ (dn = 0 ∨ ∃ b o, a = some ⟨b, o, none⟩ ∧ S b ∧ b < w.heap.size ∧ ∀ i, i < dn → ∃ x' y', RV S w (dv i) x' y' ∧ w.cell? ⟨b, o + i * 6, none⟩ = some (.string (ky i)) ∧ five w b (o + i * 6 + 1) (dv i) x' y'))
def RL (S : Nat → Prop) (w : World) (ln : Nat) (l : Nat → T) (x : Value) : Prop :=
  ∃ a ca, x = .slice a ln ca ∧ (ln = 0 ∨ ∃ b o, a = some ⟨b, o, none⟩ ∧ S b ∧ b < w.heap.size ∧ ∀ i, i < ln → ∃ x' y', RV S w (l i) x' y' ∧ five w b (o + i * 5) (l i) x' y')
def RD (S : Nat → Prop) (w : World) (dn : Nat) (ky : Nat → ByteArray) (dv : Nat → T) (y : Value) : Prop :=
  ∃ a ca, y = .slice a dn ca ∧ (dn = 0 ∨ ∃ b o, a = some ⟨b, o, none⟩ ∧ S b ∧ b < w.heap.size ∧ ∀ i, i < dn → ∃ x' y', RV S w (dv i) x' y' ∧ w.cell? ⟨b, o + i * 6, none⟩ = some (.string (ky i)) ∧ five w b (o + i * 6 + 1) (dv i) x' y')
theorem RV_mk {S : Nat → Prop} {w : World} {k n : Int} {s : ByteArray} {ln : Nat} {l : Nat → T} {dn : Nat} {ky : Nat → ByteArray} {dv : Nat → T} {x y : Value} :
    RV S w (.mk k n s ln l dn ky dv) x y ↔ RL S w ln l x ∧ RD S w dn ky dv y := Iff.rfl
theorem five.keep {w w' : World} {b o : Nat} {t : T} {x y : Value} (h : five w b o t x y) (hb : w'.heap[b]? = w.heap[b]?) : five w' b o t x y := by
  have c : ∀ j, w'.cell? ⟨b, j, none⟩ = w.cell? ⟨b, j, none⟩ := fun j => World.cell?_of_block (w := w) (a := ⟨b, j, none⟩) hb
  unfold five at h ⊢
  simp only [c]
  exact h
theorem RV.keep {S S' : Nat → Prop} {w w' : World} (hS : ∀ b, S b → S' b) (hs : w.heap.size ≤ w'.heap.size) (hb : ∀ b, S b → b < w.heap.size → w'.heap[b]? = w.heap[b]?) :
    ∀ (t : T) (x y : Value), RV S w t x y → RV S' w' t x y := by
  intro t
  induction t with
  | no => intro x y h; exact h
  | mk k n s ln l dn ky dv il id =>
    rintro x y ⟨⟨a, ca, rfl, h1⟩, ⟨a', ca', rfl, h2⟩⟩
    refine ⟨⟨a, ca, rfl, ?_⟩, ⟨a', ca', rfl, ?_⟩⟩
    · rcases h1 with h | ⟨b, o, rfl, hSb, hlt, h⟩
      · exact .inl h
      · refine .inr ⟨b, o, rfl, hS b hSb, Nat.lt_of_lt_of_le hlt hs, fun i hi => ?_⟩
        obtain ⟨x', y', g1, g2⟩ := h i hi
        exact ⟨x', y', il i _ _ g1, g2.keep (hb b hSb hlt)⟩
    · rcases h2 with h | ⟨b, o, rfl, hSb, hlt, h⟩
      · exact .inl h
      · refine .inr ⟨b, o, rfl, hS b hSb, Nat.lt_of_lt_of_le hlt hs, fun i hi => ?_⟩
        obtain ⟨x', y', g1, g2, g3⟩ := h i hi
        exact ⟨x', y', id i _ _ g1, (World.cell?_of_block (w := w) (hb b hSb hlt)).trans g2, g3.keep (hb b hSb hlt)⟩
/-- into another world, another set of blocks -/
theorem RV.move {S S' : Nat → Prop} {w w' : World} (hS : ∀ b, S b → b < w.heap.size → S' b) (hs : w.heap.size ≤ w'.heap.size) (hb : ∀ b, S b → b < w.heap.size → w'.heap[b]? = w.heap[b]?) :
    ∀ (t : T) (x y : Value), RV S w t x y → RV S' w' t x y := by
  intro t
  induction t with
  | no => intro x y h; exact h
  | mk k n s ln l dn ky dv il id =>
    rintro x y ⟨⟨a, ca, rfl, h1⟩, ⟨a', ca', rfl, h2⟩⟩
    refine ⟨⟨a, ca, rfl, ?_⟩, ⟨a', ca', rfl, ?_⟩⟩
    · rcases h1 with h | ⟨b, o, rfl, hSb, hlt, h⟩
      · exact .inl h
      · refine .inr ⟨b, o, rfl, hS b hSb hlt, Nat.lt_of_lt_of_le hlt hs, fun i hi => ?_⟩
        obtain ⟨x', y', g1, g2⟩ := h i hi
        exact ⟨x', y', il i _ _ g1, g2.keep (hb b hSb hlt)⟩
    · rcases h2 with h | ⟨b, o, rfl, hSb, hlt, h⟩
      · exact .inl h
      · refine .inr ⟨b, o, rfl, hS b hSb hlt, Nat.lt_of_lt_of_le hlt hs, fun i hi => ?_⟩
        obtain ⟨x', y', g1, g2, g3⟩ := h i hi
        exact ⟨x', y', id i _ _ g1, (World.cell?_of_block (w := w) (hb b hSb hlt)).trans g2, g3.keep (hb b hSb hlt)⟩
theorem RV.slices {S : Nat → Prop} {w : World} {t : T} {x y : Value} (h : RV S w t x y) : (∃ a n c, x = .slice a n c) ∧ ∃ a n c, y = .slice a n c := by
  cases t with
  | no => exact h.elim
  | mk k n s ln l dn ky dv =>
    obtain ⟨⟨a, ca, rfl, _⟩, ⟨a', ca', rfl, _⟩⟩ := h
    exact ⟨⟨_, _, _, rfl⟩, ⟨_, _, _, rfl⟩⟩
/-- into a world that has grown; of the blocks one knows just that they were there -/
theorem RV.lift {S S' : Nat → Prop} {w w' : World} (hs : w.heap.size ≤ w'.heap.size) (hb : ∀ b, b < w.heap.size → w'.heap[b]? = w.heap[b]?) (hS : ∀ b, b < w.heap.size → S' b) :
    ∀ (t : T) (x y : Value), RV S w t x y → RV S' w' t x y := by
  intro t
  induction t with
  | no => intro x y h; exact h
  | mk k n s ln l dn ky dv il id =>
    rintro x y ⟨⟨a, ca, rfl, h1⟩, ⟨a', ca', rfl, h2⟩⟩
    refine ⟨⟨a, ca, rfl, ?_⟩, ⟨a', ca', rfl, ?_⟩⟩
    · rcases h1 with h | ⟨b, o, rfl, hSb, hlt, h⟩
      · exact .inl h
      · refine .inr ⟨b, o, rfl, hS b hlt, Nat.lt_of_lt_of_le hlt hs, fun i hi => ?_⟩
        obtain ⟨x', y', g1, g2⟩ := h i hi
        exact ⟨x', y', il i _ _ g1, g2.keep (hb b hlt)⟩
    · rcases h2 with h | ⟨b, o, rfl, hSb, hlt, h⟩
      · exact .inl h
      · refine .inr ⟨b, o, rfl, hS b hlt, Nat.lt_of_lt_of_le hlt hs, fun i hi => ?_⟩
        obtain ⟨x', y', g1, g2, g3⟩ := h i hi
        exact ⟨x', y', id i _ _ g1, (World.cell?_of_block (w := w) (hb b hlt)).trans g2, g3.keep (hb b hlt)⟩
theorem RL.keep {S S' : Nat → Prop} {w w' : World} (hS : ∀ b, S b → S' b) (hs : w.heap.size ≤ w'.heap.size) (hb : ∀ b, S b → b < w.heap.size → w'.heap[b]? = w.heap[b]?) {ln : Nat} {l : Nat → T} {x : Value} (h : RL S w ln l x) : RL S' w' ln l x := by
  have h0 : RV S w (.mk 0 0 ByteArray.empty ln l 0 (fun _ => ByteArray.empty) (fun _ => .no)) x (.slice none 0 0) := ⟨h, none, 0, rfl, .inl rfl⟩
  exact (RV.keep hS hs hb _ _ _ h0).1
theorem RD.keep {S S' : Nat → Prop} {w w' : World} (hS : ∀ b, S b → S' b) (hs : w.heap.size ≤ w'.heap.size) (hb : ∀ b, S b → b < w.heap.size → w'.heap[b]? = w.heap[b]?) {dn : Nat} {ky : Nat → ByteArray} {dv : Nat → T} {y : Value} (h : RD S w dn ky dv y) : RD S' w' dn ky dv y := by
  have h0 : RV S w (.mk 0 0 ByteArray.empty 0 (fun _ => .no) dn ky dv) (.slice none 0 0) y := ⟨⟨none, 0, rfl, .inl rfl⟩, h⟩
  exact (RV.keep hS hs hb _ _ _ h0).2
/-- within the reach -/
def T.ok : T → Prop
  | .no => True
  | .mk _ _ s ln l dn ky dv => s.size ≤ 140737488351232 ∧ ln ≤ 140737488351232 ∧ dn ≤ 140737488351232 ∧ (∀ i, i < ln → (l i).ok) ∧ (∀ i, i < dn → (ky i).size ≤ 140737488351232 ∧ (dv i).ok)
/-- few enough children everywhere -/
def T.small : T → Prop
  | .no => True
  | .mk _ _ _ ln l dn _ dv => ln ≤ 2147483647 ∧ dn ≤ 2147483647 ∧ (∀ i, i < ln → (l i).small) ∧ (∀ i, i < dn → (dv i).small)

theorem cells25 : Tryd.prog.cellsOf 60 = 5 := by kernel_rfl
theorem cells42 : Tryd.prog.cellsOf 84 = 6 := by kernel_rfl
theorem cells3 : Tryd.prog.cellsOf 3 = 1 := by kernel_rfl
theorem cells9 : Tryd.prog.cellsOf 9 = 1 := by kernel_rfl
theorem cells22 : Tryd.prog.cellsOf 57 = 1 := by kernel_rfl
theorem cells23 : Tryd.prog.cellsOf 58 = 1 := by kernel_rfl
theorem bytes25 : Tryd.prog.bytesOf 60 = 80 := by kernel_rfl
theorem bytes42 : Tryd.prog.bytesOf 84 = 96 := by kernel_rfl

theorem len5 {α : Type} {l : List α} (h : l.length = 5) : ∃ a b c d e, l = [a, b, c, d, e] := by
  match l, h with
  | [a, b, c, d, e], _ => exact ⟨a, b, c, d, e, rfl⟩
theorem len6 {α : Type} {l : List α} (h : l.length = 6) : ∃ a b c d e f, l = [a, b, c, d, e, f] := by
  match l, h with
  | [a, b, c, d, e, f], _ => exact ⟨a, b, c, d, e, f, rfl⟩
theorem len2 {α : Type} {l : List α} (h : l.length = 2) : ∃ a b, l = [a, b] := by
  match l, h with
  | [a, b], _ => exact ⟨a, b, rfl⟩

section
variable {H : Type} {enc : TypeId × Value → H} {w : World}
/-- the five fields of a value that is read -/
theorem open25 {fuel : Nat} {cs : List Value} {x : DataW H × List MemPlace} (h : DataW.trod enc Tryd.prog w 0 (fun _ => true) true fuel 60 cs = some x) :
    ∃ (m : Nat) (k n : Int) (s : ByteArray) (lv dv : Value) (xl xd : DataW H × List MemPlace), fuel = m + 1 ∧ cs = [.int .i64 k, .int .i64 n, .string s, lv, dv] ∧
      x.1 = .agg [.lit (.int .i64 k), .lit (.int .i64 n), .lit (.string s.data.toList), xl.1, xd.1] ∧
      DataW.trod enc Tryd.prog w 0 (fun _ => true) true m 57 [lv] = some xl ∧ DataW.trod enc Tryd.prog w 0 (fun _ => true) true m 58 [dv] = some xd := by
  obtain ⟨xs, m, rfl, rfl, hl, hx, hf⟩ := DataW.trod_struct Tryd.underlying60 h
  rw [cells25] at hl
  obtain ⟨c0, c1, c2, c3, c4, rfl⟩ := len5 hl
  obtain ⟨x0, x1, x2, x3, x4, rfl⟩ := len5 (l := xs) (by simpa using hx)
  have f0 := hf 0 _ rfl
  have f1 := hf 1 _ rfl
  have f2 := hf 2 _ rfl
  have f3 := hf 3 _ rfl
  have f4 := hf 4 _ rfl
  simp [cells3, cells9, cells22, cells23] at f0 f1 f2 f3 f4
  obtain ⟨k, e0, rfl, _⟩ := DataW.trod_int Tryd.underlying3 f0
  obtain ⟨n, e1, rfl, _⟩ := DataW.trod_int Tryd.underlying3 f1
  obtain ⟨s, e2, rfl, _⟩ := DataW.trod_string Tryd.underlying9 f2
  simp at e0 e1 e2
  subst e0 e1 e2
  exact ⟨m, k, n, s, c3, c4, x3, x4, rfl, rfl, rfl, f3, f4⟩
theorem open42 {fuel : Nat} {cs : List Value} {x : DataW H × List MemPlace} (h : DataW.trod enc Tryd.prog w 0 (fun _ => true) true fuel 84 cs = some x) :
    ∃ (m : Nat) (s : ByteArray) (cs' : List Value) (xv : DataW H × List MemPlace), fuel = m + 1 ∧ cs = .string s :: cs' ∧
      x.1 = .agg [.lit (.string s.data.toList), xv.1] ∧ DataW.trod enc Tryd.prog w 0 (fun _ => true) true m 60 cs' = some xv := by
  obtain ⟨xs, m, rfl, rfl, hl, hx, hf⟩ := DataW.trod_struct Tryd.underlying84 h
  rw [cells42] at hl
  obtain ⟨c0, c1, c2, c3, c4, c5, rfl⟩ := len6 hl
  obtain ⟨x0, x1, rfl⟩ := len2 (l := xs) (by simpa using hx)
  have f0 := hf 0 _ rfl
  have f1 := hf 1 _ rfl
  simp [cells9, cells25] at f0 f1
  obtain ⟨s, e2, rfl, _⟩ := DataW.trod_string Tryd.underlying9 f0
  simp at e2
  subst e2
  exact ⟨m, s, _, x1, rfl, rfl, rfl, f1⟩
theorem weightsAll_mem {e : TypeId} {l : List (DataW H)} {d : DataW H} (h : d ∈ l) {q : Nat} (hq : q ∈ d.weights Tryd.prog e) : q ∈ DataW.weightsAll Tryd.prog e l := by
  induction l with
  | nil => cases h
  | cons a r ih =>
    rw [DataW.weightsAll, List.mem_append]
    rcases List.mem_cons.1 h with rfl | h
    · exact .inl hq
    · exact .inr (ih h)
/-- a slice that is read: each element's cells and reading -/
theorem openRow {t e : TypeId} (ht : Tryd.prog.underlying t = some (.slice e)) {fuel : Nat} {v : Value} {x : DataW H × List MemPlace} (h : DataW.trod enc Tryd.prog w 0 (fun _ => true) true fuel t [v] = some x)
    (hw : ∀ q ∈ DataW.weights Tryd.prog t x.1, q ≤ reachBytes) (hc : 0 < Tryd.prog.cellsOf e) :
    ∃ (a : Option Addr) (len cap : Nat), v = .slice a len cap ∧ len * Tryd.prog.bytesOf e ≤ reachBytes ∧ (len = 0 ∨ ∃ m, fuel = m + 1 ∧ ∃ b o, a = some ⟨b, o, none⟩ ∧ b < w.heap.size ∧
      ∀ i, i < len → ∃ cs y, cs.length = Tryd.prog.cellsOf e ∧ (∀ j, j < Tryd.prog.cellsOf e → w.cell? ⟨b, o + i * Tryd.prog.cellsOf e + j, none⟩ = cs[j]?) ∧ DataW.trod enc Tryd.prog w 0 (fun _ => true) true m e cs = some y ∧ ∀ q ∈ DataW.weights Tryd.prog e y.1, q ≤ reachBytes) := by
  rcases DataW.trod_slice ht h with ⟨h0, rfl⟩ | ⟨a, len, cap, elems, rest, m, rfl, h0, rfl, _, _, _, hlen, hel, _, _⟩
  · simp at h0
    exact ⟨none, 0, 0, h0, by simp, .inl rfl⟩
  simp at h0
  subst h0
  simp only [DataW.weights, ht] at hw
  refine ⟨some a, len, cap, rfl, ?_, ?_⟩
  · have := hw _ (List.mem_cons_self ..)
    simp only [List.length_map, hlen] at this
    exact Nat.le_trans (Nat.mul_le_mul_right _ (by omega)) this
  by_cases h00 : len = 0
  · exact .inl h00
  have key : ∀ i, i < len → ∃ cs y, w.cells? 0 (a.add (i * Tryd.prog.cellsOf e)) (Tryd.prog.cellsOf e) = some cs ∧ DataW.trod enc Tryd.prog w 0 (fun _ => true) true m e cs = some y ∧ y ∈ elems := by
    intro i hi
    have := hel i hi
    rw [List.getElem?_eq_getElem (by omega)] at this
    obtain ⟨cs', h1, h2⟩ := Option.bind_eq_some_iff.1 this
    exact ⟨cs', _, h1, h2, List.getElem_mem _⟩
  have cellof : ∀ {a' : Addr} {c : Nat} {cs : List Value}, w.cells? 0 a' c = some cs → cs.length = c ∧ ∀ j, j < c → w.cell? (a'.add j) = cs[j]? := fun h => ⟨(World.cells?_some h).2.1, (World.cells?_some h).2.2⟩
  obtain ⟨b, o, spot⟩ := a
  have hspot : spot = none ∧ b < w.heap.size := by
    obtain ⟨cs, y, h1, _, _⟩ := key 0 (by omega)
    obtain ⟨hl, hj⟩ := cellof h1
    have := hj 0 hc
    rw [List.getElem?_eq_getElem (by omega)] at this
    have h2 := World.cell?_spot this
    have h3 := World.block_lt_of_cell? w _ this
    simp [Addr.add] at h2 h3
    exact ⟨h2, h3⟩
  obtain ⟨rfl, hb⟩ := hspot
  have hadd : ∀ o i : Nat, (⟨b, o, none⟩ : Addr).add i = ⟨b, o + i, none⟩ := by intro o i; unfold Addr.add; split <;> simp_all
  refine .inr ⟨m, rfl, b, o, rfl, hb, fun i hi => ?_⟩
  obtain ⟨cs, y, h1, h2, h3⟩ := key i hi
  obtain ⟨hl, hj⟩ := cellof h1
  refine ⟨cs, y, hl, fun j hj' => ?_, h2, fun q hq => hw q ?_⟩
  · have := hj j hj'
    rw [hadd, hadd] at this
    exact this
  · refine List.mem_cons_of_mem _ (List.mem_append.2 (.inl (weightsAll_mem (List.mem_map_of_mem h3) hq)))
theorem rv_of_trod : ∀ (fuel : Nat) (cs : List Value) (x : DataW H × List MemPlace), DataW.trod enc Tryd.prog w 0 (fun _ => true) true fuel 60 cs = some x →
    (∀ q ∈ DataW.weights Tryd.prog 60 x.1, q ≤ reachBytes) → ∃ t lv dv, cs = [.int .i64 t.k, .int .i64 t.n, .string t.s, lv, dv] ∧ RV (fun _ => True) w t lv dv ∧ t.ok := by
  intro fuel
  induction fuel using Nat.strongRecOn with
  | ind fuel ih =>
  intro cs x h hw
  obtain ⟨m, k, n, s, lv, dv, xl, xd, rfl, rfl, hx, hl, hd⟩ := open25 h
  rw [hx] at hw
  simp only [DataW.weights, Tryd.underlying60, DataW.weightsEach, List.map, List.mem_append, List.append_nil, List.nil_append] at hw
  have hs : s.size ≤ reachBytes := by
    have := hw s.data.toList.length (.inl (by simp))
    rwa [Array.length_toList] at this
  obtain ⟨al, ln, cl, rfl, bl, gl⟩ := openRow Tryd.underlying57 hl (fun q hq => hw q (.inr (.inl hq))) (by rw [cells25]; omega)
  obtain ⟨ad, dn, cd, rfl, bd, gd⟩ := openRow Tryd.underlying58 hd (fun q hq => hw q (.inr (.inr hq))) (by rw [cells42]; omega)
  rw [bytes25] at bl
  rw [bytes42] at bd
  rw [cells25] at gl
  rw [cells42] at gd
  have e1 : reachBytes = 140737488351232 := rfl
  have L : ∃ l : Nat → T, (∀ i, i < ln → (l i).ok) ∧ RL (fun _ => True) w ln l (.slice al ln cl) := by
    rcases gl with rfl | ⟨m', rfl, b, o, rfl, hb, g⟩
    · exact ⟨fun _ => .no, fun i hi => absurd hi (Nat.not_lt_zero _), _, _, rfl, .inl rfl⟩
    have : ∀ i, i < ln → ∃ p : T × Value × Value, RV (fun _ => True) w p.1 p.2.1 p.2.2 ∧ five w b (o + i * 5) p.1 p.2.1 p.2.2 ∧ p.1.ok := by
      intro i hi
      obtain ⟨cs, y, _, hcell, ht, hq⟩ := g i hi
      obtain ⟨t, lv, dv, rfl, h1, h2⟩ := ih m' (by omega) cs y ht hq
      exact ⟨(t, lv, dv), h1, ⟨hcell 0 (by omega), hcell 1 (by omega), hcell 2 (by omega), hcell 3 (by omega), hcell 4 (by omega)⟩, h2⟩
    have : Inhabited (T × Value × Value) := ⟨(.no, .slice none 0 0, .slice none 0 0)⟩
    obtain ⟨f, hf⟩ := choose_lt ‹∀ i, i < ln → _›
    exact ⟨fun i => (f i).1, fun i hi => (hf i hi).2.2, _, _, rfl, .inr ⟨b, o, rfl, trivial, hb, fun i hi => ⟨_, _, (hf i hi).1, (hf i hi).2.1⟩⟩⟩
  have D : ∃ (ky : Nat → ByteArray) (l : Nat → T), (∀ i, i < dn → (ky i).size ≤ 140737488351232 ∧ (l i).ok) ∧ RD (fun _ => True) w dn ky l (.slice ad dn cd) := by
    rcases gd with rfl | ⟨m', rfl, b, o, rfl, hb, g⟩
    · exact ⟨fun _ => ByteArray.empty, fun _ => .no, fun i hi => absurd hi (Nat.not_lt_zero _), _, _, rfl, .inl rfl⟩
    have : ∀ i, i < dn → ∃ p : ByteArray × T × Value × Value, RV (fun _ => True) w p.2.1 p.2.2.1 p.2.2.2 ∧ w.cell? ⟨b, o + i * 6, none⟩ = some (.string p.1) ∧ five w b (o + i * 6 + 1) p.2.1 p.2.2.1 p.2.2.2 ∧ p.1.size ≤ 140737488351232 ∧ p.2.1.ok := by
      intro i hi
      obtain ⟨cs, y, _, hcell, ht, hq⟩ := g i hi
      obtain ⟨m2, s, cs', xv, rfl, rfl, hy, hv⟩ := open42 ht
      rw [hy] at hq
      simp only [DataW.weights, Tryd.underlying84, DataW.weightsEach, List.map, List.mem_append, List.append_nil] at hq
      obtain ⟨t, lv, dv, rfl, h1, h2⟩ := ih m2 (by omega) cs' xv hv (fun q h => hq q (.inr h))
      refine ⟨(s, t, lv, dv), h1, hcell 0 (by omega), ⟨hcell 1 (by omega), hcell 2 (by omega), hcell 3 (by omega), hcell 4 (by omega), hcell 5 (by omega)⟩, ?_, h2⟩
      have := hq s.data.toList.length (.inl (by simp))
      rwa [Array.length_toList] at this
    have : Inhabited (ByteArray × T × Value × Value) := ⟨(ByteArray.empty, .no, .slice none 0 0, .slice none 0 0)⟩
    obtain ⟨f, hf⟩ := choose_lt ‹∀ i, i < dn → _›
    exact ⟨fun i => (f i).1, fun i => (f i).2.1, fun i hi => (hf i hi).2.2.2, _, _, rfl, .inr ⟨b, o, rfl, trivial, hb, fun i hi => ⟨_, _, (hf i hi).1, (hf i hi).2.1, (hf i hi).2.2.1⟩⟩⟩
  obtain ⟨l, hlo, hL⟩ := L
  obtain ⟨ky, dvs, hdo, hD⟩ := D
  exact ⟨.mk k n s ln l dn ky dvs, _, _, rfl, ⟨hL, hD⟩, hs, by rw [e1] at bl; omega, by rw [e1] at bd; omega, hlo, hdo⟩
end
end Go.Proofs.YtdlnnnlmlaploaaDoor
namespace Go.Proofs.YtdlnnnlmlaploaaDoor
open Go.RowKit Go.Deep
/-- all but the block cb is as it was -/
structure Besides (cb : Nat) (w w' : World) : Prop where
  os : w'.os = w.os
  tape : w'.tape = w.tape
  output : w'.output = w.output
  size : w.heap.size ≤ w'.heap.size
  block : ∀ k, k < w.heap.size → k ≠ cb → w'.heap[k]? = w.heap[k]?
theorem Besides.refl (cb : Nat) (w : World) : Besides cb w w := ⟨rfl, rfl, rfl, Nat.le_refl _, fun _ _ _ => rfl⟩
theorem Besides.trans {cb : Nat} {a b c : World} (h : Besides cb a b) (g : Besides cb b c) : Besides cb a c :=
  ⟨g.os.trans h.os, g.tape.trans h.tape, g.output.trans h.output, Nat.le_trans h.size g.size, fun k hk hn => (g.block k (Nat.lt_of_lt_of_le hk h.size) hn).trans (h.block k hk hn)⟩
theorem Besides.alloc (cb : Nat) (w : World) (o : Obj) : Besides cb w (w.alloc o) :=
  ⟨rfl, rfl, rfl, by simp, fun k hk _ => Below.heap_alloc _ _ _ hk⟩
theorem Besides.setCell (w : World) (a : Addr) (u : Value) : Besides a.block w (w.setCell a u) :=
  ⟨rfl, rfl, rfl, by simp [World.setCell], fun k _ hn => Below.heap_setCell _ _ _ _ hn⟩
theorem Besides.cell {cb : Nat} {w w' : World} (h : Besides cb w w') {p : Addr} {v : Value} (hp : p.block ≠ cb) (hc : w.cell? p = some v) : w'.cell? p = some v :=
  (World.cell?_of_block (w := w) (h.block p.block (World.block_lt_of_cell? w p hc) hp)).trans hc
theorem Besides.rv {cb : Nat} {w w' : World} (h : Besides cb w w') {t : T} {x y : Value} (g : RV (fun b => b ≠ cb) w t x y) : RV (fun b => b ≠ cb) w' t x y :=
  RV.keep (fun _ h => h) h.size (fun b hn hb => h.block b hb hn) _ _ _ g

def sumN (f : Nat → Nat) : Nat → Nat
  | 0 => 0
  | n + 1 => sumN f n + f n
theorem sumN_ge {f : Nat → Nat} (h : ∀ i, 1 ≤ f i) : ∀ n, n ≤ sumN f n
  | 0 => Nat.le_refl _
  | n + 1 => by have := sumN_ge h n; have := h n; show n + 1 ≤ sumN f n + f n; omega
/-- what the count counts -/
def wt : T → Nat
  | .no => 1
  | .mk _ _ s ln l dn ky dv => 1 + s.size + sumN (fun i => wt (l i)) ln + sumN (fun i => 1 + (ky i).size + wt (dv i)) dn
theorem wt_pos (t : T) : 1 ≤ wt t := by cases t with | no => exact Nat.le_refl _ | mk k n s ln l dn ky dv => show 1 ≤ 1 + s.size + _ + _; omega
/-- what a count leaves -/
def FP (cb : Nat) (m : Int) (p : Prop) (w w' : World) (r : Bool) : Prop :=
  Besides cb w w' ∧ w'.frozen? ⟨cb, 0, none⟩ = false ∧ ∃ m', w'.cell? ⟨cb, 0, none⟩ = some (.int .i64 m') ∧ (r = false → m ≤ m' ∧ m' ≤ 2147483647 ∧ p)

theorem cell_alloc_old {w : World} {o : Obj} {p : Addr} {v : Value} (h : w.cell? p = some v) : (w.alloc o).cell? p = some v :=
  (World.cell?_of_block (w := w) (Below.heap_alloc w o p.block (World.block_lt_of_cell? w p h))).trans h
theorem frozen_alloc_old {w : World} {o : Obj} {p : Addr} {v : Value} (h : w.cell? p = some v) : (w.alloc o).frozen? p = w.frozen? p :=
  World.frozen?_of_block (w := w) (Below.heap_alloc w o p.block (World.block_lt_of_cell? w p h))


end Go.Proofs.YtdlnnnlmlaploaaDoor
namespace Go.Proofs.YtdlnnnlmlaploaaDoor
open Go.RowKit Go.Deep
theorem Below.cellS {B : Nat} {w w' : World} (h : Below B w w') {p : Addr} {v : Value} (hB : w.heap.size ≤ B) (hc : w.cell? p = some v) : w'.cell? p = some v :=
  (h.cell (Nat.lt_of_lt_of_le (World.block_lt_of_cell? w p hc) hB)).trans hc
theorem Below.rv {B : Nat} {w w' : World} (h : Below B w w') (hB : w.heap.size ≤ B) {S : Nat → Prop} {t : T} {x y : Value} (g : RV S w t x y) : RV (fun _ => True) w' t x y :=
  RV.lift h.size (fun b hb => h.block b (Nat.lt_of_lt_of_le hb hB)) (fun _ _ => trivial) _ _ _ g
/-- 'same' of two values that read as one tree -/
def SC (f : Nat) (t : T) : Prop := ∀ (x y x2 y2 : Value) (w : World), t.ok → RV (fun _ => True) w t x y → RV (fun _ => True) w t x2 y2 →
  Calls Tryd.prog f #[vv t x y, vv t x2 y2] w fun e w' => e = .returned (.bool true) ∧ Below w.heap.size w w'

end Go.Proofs.YtdlnnnlmlaploaaDoor
namespace Go.Proofs.YtdlnnnlmlaploaaDoor
open Go.RowKit Go.Deep
/-- no field of another kind is set -/
def Own (k n : Int) (s : ByteArray) (ln dn : Nat) : Prop := (k = 1 ∨ n = 0) ∧ (k = 2 ∨ s.toList = []) ∧ (k = 3 ∨ ln = 0) ∧ (k = 4 ∨ dn = 0)
def BP (p : Bool → Prop) (w : World) (e : Ending) (w' : World) : Prop := ∃ r, e = .returned (.bool r) ∧ p r ∧ Below w.heap.size w w'
set_option maxHeartbeats 2000000 in
theorem pure32 (k n : Int) (s : ByteArray) (ln dn : Nat) (a a' : Option Addr) (c c' : Nat) (w : World) :
    Calls Tryd.prog 74 #[.agg #[.int .i64 k, .int .i64 n, .string s, .slice a ln c, .slice a' dn c']] w (BP (fun r => r = true ↔ 1 ≤ k ∧ k ≤ 4 ∧ Own k n s ln dn) w) := by
  go_enter Tryd.func74, Tryd.ntmps74
  go_wp2
  all_goals
    go_ret
    refine ⟨_, rfl, ?_, (Below.refl _ _).alloc (Nat.le_refl _) _⟩
    unfold Own
    first
      | (simp_all; done)
      | (simp_all; omega)

end Go.Proofs.YtdlnnnlmlaploaaDoor
namespace Go.Proofs.YtdlnnnlmlaploaaDoor
open Go.RowKit Go.Deep
theorem below_drewN {B : Nat} {a w : World} (h : Below B a w) (n : Nat) : Below B a (w.drewN n) := ⟨h.os, h.tape, h.output, h.size, h.block⟩
/-- the first that is not 0 -/
def fstE (f : Nat → Int) : Nat → Int
  | 0 => 0
  | n + 1 => if fstE f n = 0 then f n else fstE f n
theorem fstE_stop {f : Nat → Int} {j n : Nat} (h : j < n) (h0 : fstE f j = 0) (h1 : f j ≠ 0) : fstE f n = f j := by
  induction n with
  | zero => omega
  | succ n ih =>
    unfold fstE
    by_cases hj : j = n
    · subst hj; rw [if_pos h0]
    · rw [ih (by omega), if_neg h1]
theorem fstE_go {f : Nat → Int} {j : Nat} (h0 : fstE f j = 0) (h1 : f j = 0) : fstE f (j + 1) = 0 := by unfold fstE; rw [if_pos h0, h1]
theorem fstE_congr {f g : Nat → Int} {n : Nat} (h : ∀ i, i < n → f i = g i) : fstE f n = fstE g n := by
  induction n with
  | zero => rfl
  | succ n ih => unfold fstE; rw [ih (fun i hi => h i (by omega)), h n (by omega)]
def ownB (k n : Int) (s : ByteArray) (ln dn : Nat) : Bool := decide (1 ≤ k ∧ k ≤ 4 ∧ (k = 1 ∨ n = 0) ∧ (k = 2 ∨ s.toList = []) ∧ (k = 3 ∨ ln = 0) ∧ (k = 4 ∨ dn = 0))
theorem ownB_iff (k n : Int) (s : ByteArray) (ln dn : Nat) : ownB k n s ln dn = true ↔ 1 ≤ k ∧ k ≤ 4 ∧ Own k n s ln dn := by unfold ownB Own; simp
/-- the key at i does not rise -/
def keyBad (ky : Nat → ByteArray) : Nat → Bool
  | 0 => false
  | p + 1 => Op.bytesLess (ky (p + 1)).toList (ky p).toList || (ky (p + 1)).toList == (ky p).toList
/-- the first fault of the walk -/
def wk : T → Int → Int
  | .no => fun _ => 0
  | .mk k n s ln l dn ky dv => fun ar =>
    if ownB k n s ln dn = false then 27 else if k < 3 then 0 else if 32 ≤ ar then 24
    else if fstE (fun i => wk (l i) (ar + 1)) ln ≠ 0 then fstE (fun i => wk (l i) (ar + 1)) ln
    else fstE (fun i => if keyBad ky i = true then 25 else wk (dv i) (ar + 1)) dn
def WC (f : Nat) (t : T) : Prop := ∀ (x y : Value) (w : World) (ar : Int), 0 ≤ ar → ar ≤ 32 → t.ok → RV (fun _ => True) w t x y →
  Calls Tryd.prog f #[vv t x y, .int .i64 ar] w fun e w' => e = .returned (.int .i64 (wk t ar)) ∧ Below w.heap.size w w'
set_option maxHeartbeats 2000000 in
theorem fault22 (t : T) : WC 60 t := by
  induction t with
  | no => intro x y w ar _ _ _ h; exact h.elim
  | mk k n s ln l dn ky dv il id =>
    intro x y w ar ar0 ar1 hok hr
    obtain ⟨ok1, ok2, ok3, ok4, ok5⟩ := hok
    obtain ⟨⟨a, ca, rfl, hL⟩, ⟨a', ca', rfl, hD⟩⟩ := hr
    show Calls Tryd.prog 60 #[.agg #[.int .i64 k, .int .i64 n, .string s, .slice a ln ca, .slice a' dn ca'], .int .i64 ar] w _
    have HI : Hid ((∀ i, WC 60 (l i)) ∧ (∀ i, WC 60 (dv i)) ∧ (∀ i, i < ln → (l i).ok) ∧ (∀ i, i < dn → (dv i).ok) ∧
        (ln = 0 ∨ ∃ b o, a = some ⟨b, o, none⟩ ∧ True ∧ b < w.heap.size ∧ ∀ i, i < ln → ∃ x' y', RV (fun _ => True) w (l i) x' y' ∧ five w b (o + i * 5) (l i) x' y') ∧
        (dn = 0 ∨ ∃ b o, a' = some ⟨b, o, none⟩ ∧ True ∧ b < w.heap.size ∧ ∀ i, i < dn → ∃ x' y', RV (fun _ => True) w (dv i) x' y' ∧ w.cell? ⟨b, o + i * 6, none⟩ = some (.string (ky i)) ∧ five w b (o + i * 6 + 1) (dv i) x' y')) :=
      ⟨il, id, ok4, fun i hi => (ok5 i hi).2, hL, hD⟩
    clear il id ok4 ok5 hL hD
    have HW : Hid (∀ r, wk (.mk k n s ln l dn ky dv) ar = r ↔ (if ownB k n s ln dn = false then 27 else if k < 3 then 0 else if 32 ≤ ar then 24
      else if fstE (fun i => wk (l i) (ar + 1)) ln ≠ 0 then fstE (fun i => wk (l i) (ar + 1)) ln
      else fstE (fun i => if keyBad ky i = true then 25 else wk (dv i) (ar + 1)) dn) = r) := fun r => by rw [wk]
    generalize wk (.mk k n s ln l dn ky dv) ar = R at *
    go_enter Tryd.func60, Tryd.ntmps60
    go_wp2_with fail
    refine (pure32 k n s ln dn a a' ca ca' _).mono ?_
    rintro e w0 ⟨r, rfl, hp, hb0⟩
    have hw0 : Hid (Below w.heap.size w w0) := ((Below.refl _ _).alloc (Nat.le_refl _) _).trans (hb0.mono (by simp))
    obtain ⟨c0, c1, c2, c3, c4⟩ : w0.cell? ⟨w.heap.size, 0, none⟩ = some (.int .i64 k) ∧ w0.cell? ⟨w.heap.size, 1, none⟩ = some (.int .i64 n) ∧ w0.cell? ⟨w.heap.size, 2, none⟩ = some (.string s) ∧ w0.cell? ⟨w.heap.size, 3, none⟩ = some (.slice a ln ca) ∧ w0.cell? ⟨w.heap.size, 4, none⟩ = some (.slice a' dn ca') :=
      ⟨Below.cellS hb0 (Nat.le_refl _) (by go_simp), Below.cellS hb0 (Nat.le_refl _) (by go_simp), Below.cellS hb0 (Nat.le_refl _) (by go_simp), Below.cellS hb0 (Nat.le_refl _) (by go_simp), Below.cellS hb0 (Nat.le_refl _) (by go_simp)⟩
    clear hb0
    rw [← ownB_iff] at hp
    cases r with
    | false =>
      have hown : ownB k n s ln dn = false := by
        cases h : ownB k n s ln dn with
        | false => rfl
        | true => exact absurd (hp.2 h) (by simp)
      have hR : R = 27 := (HW.out 27).2 (if_pos hown)
      subst hR
      go_wp2
      go_ret
      exact ⟨rfl, hw0.out⟩
    | true =>
      have hown : ownB k n s ln dn = true := hp.1 rfl
      obtain ⟨k1, k4, _⟩ := (ownB_iff k n s ln dn).1 hown
      have HO : Hid (ownB k n s ln dn ≠ false) := fun h => by rw [hown] at h; cases h
      clear hown hp
      by_cases hk : k < 3
      · have n3 : (k != 3) = true := by simp; omega
        have n4 : (k != 4) = true := by simp; omega
        have hR : R = 0 := (HW.out 0).2 ((if_neg HO.out).trans (if_pos hk))
        subst hR
        go_wp2
        go_ret
        exact ⟨rfl, hw0.out⟩
      have e34 : k = 3 ∨ k = 4 := by omega
      by_cases har : 32 ≤ ar
      · have hR : R = 24 := (HW.out 24).2 ((if_neg HO.out).trans ((if_neg hk).trans (if_pos har)))
        subst hR
        rcases e34 with rfl | rfl
        · go_wp2
          go_ret
          exact ⟨rfl, hw0.out⟩
        · go_wp2
          go_ret
          exact ⟨rfl, hw0.out⟩
      have HX : Hid (∀ r, R = r ↔ (if fstE (fun i => wk (l i) (ar + 1)) ln ≠ 0 then fstE (fun i => wk (l i) (ar + 1)) ln
          else fstE (fun i => if keyBad ky i = true then 25 else wk (dv i) (ar + 1)) dn) = r) := fun r => by
        rw [HW.out r, if_neg HO.out, if_neg hk, if_neg har]
      have H34 : Hid (k = 3 ∨ k = 4) := e34
      clear HW HO e34 c1 c2 hk k1 k4
      have har' : ar < 32 := by omega
      clear har
      rcases H34.out with rfl | rfl
      all_goals
        clear H34
        go_wp2
        go_loopw [27] (fun i wr => ∃ j : Nat, j ≤ ln ∧ i = .int .i64 j ∧ Hid (Below w0.heap.size w0 wr) ∧ Hid (fstE (fun i => wk (l i) (ar + 1)) j = 0)) (fun i _ => ln - (intOf i).toNat)
        case atStart => exact ⟨0, Nat.zero_le _, rfl, Below.refl _ _, rfl⟩
        case round =>
          obtain ⟨j, hj, rfl, hb, hz⟩ := hrel
          replace c4 := Below.cellS hb.out (Nat.le_refl _) c4
          have hw : Hid (Below w.heap.size w wr) := hw0.out.trans (hb.out.mono hw0.out.size)
          by_cases hlt : j < ln
          · obtain ⟨il, _, ok4, _, hL, _⟩ := HI.out
            rcases hL with h | ⟨b, o, rfl, _, hbl, hL⟩
            · omega
            obtain ⟨x1, y1, hv, g1, g2, g3, g4, g5⟩ := hL j hlt
            replace g1 := Below.cellS hw.out (Nat.le_refl _) g1
            replace g2 := Below.cellS hw.out (Nat.le_refl _) g2
            replace g3 := Below.cellS hw.out (Nat.le_refl _) g3
            replace g4 := Below.cellS hw.out (Nat.le_refl _) g4
            replace g5 := Below.cellS hw.out (Nat.le_refl _) g5
            obtain ⟨⟨xa, xn, xc, rfl⟩, ⟨ya, yn, yc, rfl⟩⟩ := hv.slices
            have HV : Hid (WC 60 (l j) ∧ (l j).ok ∧ RV (fun _ => True) wr (l j) (.slice xa xn xc) (.slice ya yn yc)) := ⟨il j, ok4 j hlt, Below.rv hw.out (Nat.le_refl _) hv⟩
            clear il ok4 hL hv hbl
            go_wp2_with fail
            have hbA : Below wr.heap.size wr (wr.alloc (Obj.cells #[.int .i64 (l j).k, .int .i64 (l j).n, .string (l j).s, .slice xa xn xc, .slice ya yn yc] 60)) := (Below.refl _ _).alloc (Nat.le_refl _) _
            refine (HV.out.1 _ _ _ (ar + 1) (by omega) (by omega) HV.out.2.1 (Below.rv hbA (Nat.le_refl _) HV.out.2.2)).mono ?_
            rintro e w2 ⟨rfl, hb2⟩
            have hb3 : Hid (Below w0.heap.size w0 w2) := hb.out.trans ((hbA.trans (hb2.mono hbA.size)).mono hb.out.size)
            clear HV hbA hb2 g1 g2 g3 g4 g5
            by_cases he : wk (l j) (ar + 1) = 0
            · rw [he]
              go_wp2
              go_roundw
              case rel => exact ⟨j + 1, by omega, by go_num, hb3, fstE_go hz.out he⟩
              case measure => simp [intOf]; omega
            · have hst := fstE_stop hlt hz.out he
              have hR : R = wk (l j) (ar + 1) := (HX.out _).2 (by rw [if_pos (by rw [hst]; exact he), hst])
              clear hst HX
              generalize wk (l j) (ar + 1) = q at *
              subst hR
              go_wp2
              go_ret
              exact ⟨rfl, hw0.out.trans (hb3.out.mono hw0.out.size)⟩
          · obtain rfl : j = ln := by omega
            have HX2 : Hid (R = fstE (fun i => if keyBad ky i = true then 25 else wk (dv i) (ar + 1)) dn) := (HX.out _).2 (by rw [if_neg (by rw [hz.out]; simp)])
            clear HX
            go_wp2
            clear hz hlt hj ok2
            rename World => w1
            go_loopw [42] (fun i w9 => ∃ j2 : Nat, j2 ≤ dn ∧ i = .int .i64 j2 ∧ Hid (Below w1.heap.size w1 w9) ∧ Hid (fstE (fun i => if keyBad ky i = true then 25 else wk (dv i) (ar + 1)) j2 = 0)) (fun i _ => dn - (intOf i).toNat)
            case atStart => exact ⟨0, Nat.zero_le _, rfl, Below.refl _ _, rfl⟩
            case round =>
              obtain ⟨j2, hj2, rfl, hb9, hz⟩ := hrel
              replace c4 := Below.cellS hb9.out (Nat.le_refl _) c4
              have hw1 := hw
              replace hw : Hid (Below w.heap.size w wr) := hw.out.trans (hb9.out.mono hw.out.size)
              by_cases hlt : j2 < dn
              · obtain ⟨_, id, _, ok5, _, hD⟩ := HI.out
                rcases hD with h | ⟨b, o, rfl, _, hbl, hD⟩
                · omega
                obtain ⟨x1, y1, hv, g0, g1, g2, g3, g4, g5⟩ := hD j2 hlt
                have hpk : ∀ p, p < dn → wr.cell? ⟨b, o + p * 6, none⟩ = some (.string (ky p)) := fun p hp => by
                  obtain ⟨_, _, _, h, _⟩ := hD p hp
                  exact Below.cellS hw.out (Nat.le_refl _) h
                replace g0 := Below.cellS hw.out (Nat.le_refl _) g0
                replace g1 := Below.cellS hw.out (Nat.le_refl _) g1
                replace g2 := Below.cellS hw.out (Nat.le_refl _) g2
                replace g3 := Below.cellS hw.out (Nat.le_refl _) g3
                replace g4 := Below.cellS hw.out (Nat.le_refl _) g4
                replace g5 := Below.cellS hw.out (Nat.le_refl _) g5
                obtain ⟨⟨xa, xn, xc, rfl⟩, ⟨ya, yn, yc, rfl⟩⟩ := hv.slices
                have HV : Hid (WC 60 (dv j2) ∧ (dv j2).ok ∧ RV (fun _ => True) wr (dv j2) (.slice xa xn xc) (.slice ya yn yc)) := ⟨id j2, ok5 j2 hlt, Below.rv hw.out (Nat.le_refl _) hv⟩
                clear id ok5 hD hv hbl
                have c4' := fun ob => cell_alloc_old (o := ob) c4
                have HB : Hid (Below wr.heap.size wr (wr.alloc (Obj.cells #[.string (ky j2), .int .i64 (dv j2).k, .int .i64 (dv j2).n, .string (dv j2).s, .slice xa xn xc, .slice ya yn yc] 84))) := (Below.refl _ _).alloc (Nat.le_refl _) _
                have HG : Hid (∀ q : Int, q = wk (dv j2) (ar + 1) → keyBad ky j2 = false → (q = 0 → fstE (fun i => if keyBad ky i = true then 25 else wk (dv i) (ar + 1)) (j2 + 1) = 0) ∧ (q ≠ 0 → R = q)) := by
                  intro q hq hkb
                  have hf : (fun i => if keyBad ky i = true then (25 : Int) else wk (dv i) (ar + 1)) j2 = q := by simp only [hkb]; simp [hq]
                  exact ⟨fun h => fstE_go hz.out (hf.trans h), fun h => HX2.out.trans ((fstE_stop hlt hz.out (fun hc => h (hf.symm.trans hc))).trans hf)⟩
                have HF : Hid (keyBad ky j2 = true → R = 25) := by
                  intro hkb
                  have hf : (fun i => if keyBad ky i = true then (25 : Int) else wk (dv i) (ar + 1)) j2 = 25 := by simp only [hkb]; simp
                  exact HX2.out.trans ((fstE_stop hlt hz.out (fun hc => absurd (hf.symm.trans hc) (by omega))).trans hf)
                clear hz HX2 c3
                cases j2 with
                | zero =>
                  clear hpk
                  rw [show o + 0 * 6 = o by omega] at g0
                  rw [show o + 0 * 6 + 1 = o + 1 by omega] at g1
                  rw [show o + 0 * 6 + 1 + 1 = o + 2 by omega] at g2
                  rw [show o + 0 * 6 + 1 + 2 = o + 3 by omega] at g3
                  rw [show o + 0 * 6 + 1 + 3 = o + 4 by omega] at g4
                  rw [show o + 0 * 6 + 1 + 4 = o + 5 by omega] at g5
                  have HG2 := HG.out _ rfl rfl
                  have HG3 : Hid _ := HG2
                  clear HF HG HG2
                  go_wp2
                  go_quiet (fail)
                  go_wp2_with fail
                  refine (HV.out.1 _ _ _ (ar + 1) (by omega) (by omega) HV.out.2.1 (Below.rv (below_drewN HB.out nq) (Nat.le_refl _) HV.out.2.2)).mono ?_
                  rintro e w2 ⟨rfl, hb2⟩
                  have hb3 : Hid (Below w1.heap.size w1 w2) := hb9.out.trans ((HB.out.trans ((show Below wr.heap.size _ w2 from ⟨hb2.os, hb2.tape, hb2.output, hb2.size, fun q hq => hb2.block q (Nat.lt_of_lt_of_le hq HB.out.size)⟩))).mono hb9.out.size)
                  clear HV HB hb2 g0 g1 g2 g3 g4 g5 c4 c4'
                  generalize wk (dv 0) (ar + 1) = q at *
                  by_cases he : q = 0
                  · have HG4 : Hid _ := HG3.out.1 he
                    clear HG3
                    subst he
                    go_wp2
                    go_roundw
                    case rel => exact ⟨1, by omega, by go_num, hb3, HG4.out⟩
                    case measure => simp [intOf]; omega
                  · have hR := HG3.out.2 he
                    clear HG3
                    subst hR
                    go_wp2
                    go_ret
                    exact ⟨rfl, hw1.out.trans (hb3.out.mono hw1.out.size)⟩
                | succ p =>
                  have hk1 := hpk p (by omega)
                  have hk1' := fun ob => cell_alloc_old (o := ob) hk1
                  clear hpk
                  have p0 : (0 : Int) ≤ (p : Int) := by omega
                  have p1 : (p : Int) < (dn : Int) := by omega
                  by_cases hkb : keyBad ky (p + 1) = true
                  · have hR : R = 25 := HF.out hkb
                    have hkb' : Op.bytesLess (ky (p + 1)).toList (ky p).toList = true ∨ ((ky (p + 1)).toList == (ky p).toList) = true := by simpa [keyBad] using hkb
                    clear HF HG HV hkb
                    subst hR
                    rcases hkb' with hkb' | hkb'
                    all_goals
                      go_wp2
                      go_quiet (fail)
                      go_wp2
                      go_ret
                      exact ⟨rfl, hw.out.trans ((show Below w.heap.size wr _ from ⟨rfl, rfl, rfl, HB.out.size, fun q hq => HB.out.block q (Nat.lt_of_lt_of_le hq hw.out.size)⟩))⟩
                  · have hkb2 : Op.bytesLess (ky (p + 1)).toList (ky p).toList = false ∧ ((ky (p + 1)).toList == (ky p).toList) = false := by simpa [keyBad] using hkb
                    obtain ⟨hkA, hkB⟩ := hkb2
                    have hkb3 : keyBad ky (p + 1) = false := by simpa using hkb
                    have HG2 := HG.out _ rfl hkb3
                    have HG3 : Hid _ := HG2
                    clear HF HG HG2 hkb hkb3
                    go_wp2
                    go_quiet (fail)
                    go_wp2_with fail
                    refine (HV.out.1 _ _ _ (ar + 1) (by omega) (by omega) HV.out.2.1 (Below.rv (below_drewN HB.out nq) (Nat.le_refl _) HV.out.2.2)).mono ?_
                    rintro e w2 ⟨rfl, hb2⟩
                    have hb3 : Hid (Below w1.heap.size w1 w2) := hb9.out.trans ((HB.out.trans ((show Below wr.heap.size _ w2 from ⟨hb2.os, hb2.tape, hb2.output, hb2.size, fun q hq => hb2.block q (Nat.lt_of_lt_of_le hq HB.out.size)⟩))).mono hb9.out.size)
                    clear HV HB hb2 g0 g1 g2 g3 g4 g5 c4 c4' hk1 hk1' hkA hkB
                    generalize wk (dv (p + 1)) (ar + 1) = q at *
                    by_cases he : q = 0
                    · have HG4 : Hid _ := HG3.out.1 he
                      clear HG3
                      subst he
                      go_wp2
                      go_roundw
                      case rel => exact ⟨p + 1 + 1, by omega, by go_num, hb3, HG4.out⟩
                      case measure => simp [intOf]; omega
                    · have hR := HG3.out.2 he
                      clear HG3
                      subst hR
                      go_wp2
                      go_ret
                      exact ⟨rfl, hw1.out.trans (hb3.out.mono hw1.out.size)⟩
              · obtain rfl : j2 = dn := by omega
                have hR : R = 0 := HX2.out.trans hz.out
                subst hR
                clear hz HX2
                go_wp2
                go_ret
                exact ⟨rfl, hw.out⟩
end Go.Proofs.YtdlnnnlmlaploaaDoor
namespace Go.Proofs.YtdlnnnlmlaploaaDoor
open Go.RowKit Go.Deep
/-- of two lists of bytes one is less, or they are the same -/
theorem bytes_tri : ∀ x y : List UInt8, (!Op.bytesLess y x) = (Op.bytesLess x y || x == y)
  | [], [] => rfl
  | [], b :: y => rfl
  | a :: x, [] => rfl
  | a :: x, b :: y => by
    have ih := bytes_tri x y
    simp only [Op.bytesLess]
    rcases Nat.lt_trichotomy a.toNat b.toNat with h | h | h
    · have h1 : a < b := UInt8.lt_iff_toNat_lt.2 h
      have h2 : ¬ b < a := fun hc => by have := UInt8.lt_iff_toNat_lt.1 hc; omega
      have h3 : ¬ b = a := fun hc => by subst hc; omega
      simp [h1, h2, h3]
    · have h1 : a = b := UInt8.toNat_inj.1 h
      subst h1
      simp only [show ¬ (a < a) from fun hc => by have := UInt8.lt_iff_toNat_lt.1 hc; omega, decide_false, Bool.false_or, beq_self_eq_true, Bool.true_and, ih]
      simp
    · have h1 : b < a := UInt8.lt_iff_toNat_lt.2 h
      have h2 : ¬ a < b := fun hc => by have := UInt8.lt_iff_toNat_lt.1 hc; omega
      have h3 : ¬ a = b := fun hc => by subst hc; omega
      simp [h1, h2, h3]

end Go.Proofs.YtdlnnnlmlaploaaDoor
