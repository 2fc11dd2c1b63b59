import Derived.Test.YtldkecjfjcnkfaaRows
import Derived.WalkKit
import Derived.BigQuiet
import Derived.Deep.QuietTactic
import Derived.WalkLawsBesides
import Derived.Deep.Slices
namespace Go.Proofs.Ytldkecjfjcnkfaa
open Go.RowKit Go.Deep
/-- a value of the face as a tree: its children by their places ('no': a place beyond them) -/
inductive T where
  | no
  | mk (k n : Int) (s : ByteArray) (ln : Nat) (l : Nat → T) (dn : Nat) (ky : Nat → ByteArray) (dv : Nat → T)
def T.k : T → Int | .mk k _ _ _ _ _ _ _ => k | .no => 0
def T.n : T → Int | .mk _ n _ _ _ _ _ _ => n | .no => 0
def T.s : T → ByteArray | .mk _ _ s _ _ _ _ _ => s | .no => ByteArray.empty
/-- the value itself: five cells -/
def vv (t : T) (x y : Value) : Value := .agg #[.int .i64 t.k, .int .i64 t.n, .string t.s, x, y]
/-- five cells in memory from o on -/
def five (w : World) (b o : Nat) (t : T) (x y : Value) : Prop :=
  w.cell? ⟨b, o, none⟩ = some (.int .i64 t.k) ∧ w.cell? ⟨b, o + 1, none⟩ = some (.int .i64 t.n) ∧ w.cell? ⟨b, o + 2, none⟩ = some (.string t.s) ∧
  w.cell? ⟨b, o + 3, none⟩ = some x ∧ w.cell? ⟨b, o + 4, none⟩ = some y
/-- the value with the slices x and y reads as the tree; its blocks all meet S -/
def RV (S : Nat → Prop) (w : World) : T → Value → Value → Prop
  | .no => fun _ _ => False
  | .mk _ _ _ ln l dn ky dv => fun x y =>
    (∃ a ca, x = .slice a ln ca ∧ (ln = 0 ∨ ∃ b o, a = some ⟨b, o, none⟩ ∧ S b ∧ b < w.heap.size ∧ ∀ i, i < ln → ∃ x' y', RV S w (l i) x' y' ∧ five w b (o + i * 5) (l i) x' y')) ∧
    (∃ a ca, y = .slice a dn ca ∧ (dn = 0 ∨ ∃ b o, a = some ⟨b, o, none⟩ ∧ S b ∧ b < w.heap.size ∧ ∀ i, i < dn → ∃ x' y', RV S w (dv i) x' y' ∧ w.cell? ⟨b, o + i * 6, none⟩ = some (.string (ky i)) ∧ five w b (o + i * 6 + 1) (dv i) x' y'))
def RL (S : Nat → Prop) (w : World) (ln : Nat) (l : Nat → T) (x : Value) : Prop :=
  ∃ a ca, x = .slice a ln ca ∧ (ln = 0 ∨ ∃ b o, a = some ⟨b, o, none⟩ ∧ S b ∧ b < w.heap.size ∧ ∀ i, i < ln → ∃ x' y', RV S w (l i) x' y' ∧ five w b (o + i * 5) (l i) x' y')
def RD (S : Nat → Prop) (w : World) (dn : Nat) (ky : Nat → ByteArray) (dv : Nat → T) (y : Value) : Prop :=
  ∃ a ca, y = .slice a dn ca ∧ (dn = 0 ∨ ∃ b o, a = some ⟨b, o, none⟩ ∧ S b ∧ b < w.heap.size ∧ ∀ i, i < dn → ∃ x' y', RV S w (dv i) x' y' ∧ w.cell? ⟨b, o + i * 6, none⟩ = some (.string (ky i)) ∧ five w b (o + i * 6 + 1) (dv i) x' y')
theorem RV_mk {S : Nat → Prop} {w : World} {k n : Int} {s : ByteArray} {ln : Nat} {l : Nat → T} {dn : Nat} {ky : Nat → ByteArray} {dv : Nat → T} {x y : Value} :
    RV S w (.mk k n s ln l dn ky dv) x y ↔ RL S w ln l x ∧ RD S w dn ky dv y := Iff.rfl
theorem five.keep {w w' : World} {b o : Nat} {t : T} {x y : Value} (h : five w b o t x y) (hb : w'.heap[b]? = w.heap[b]?) : five w' b o t x y := by
  have c : ∀ j, w'.cell? ⟨b, j, none⟩ = w.cell? ⟨b, j, none⟩ := fun j => World.cell?_of_block (w := w) (a := ⟨b, j, none⟩) hb
  unfold five at h ⊢
  simp only [c]
  exact h
theorem RV.keep {S S' : Nat → Prop} {w w' : World} (hS : ∀ b, S b → S' b) (hs : w.heap.size ≤ w'.heap.size) (hb : ∀ b, S b → b < w.heap.size → w'.heap[b]? = w.heap[b]?) :
    ∀ (t : T) (x y : Value), RV S w t x y → RV S' w' t x y := by
  intro t
  induction t with
  | no => intro x y h; exact h
  | mk k n s ln l dn ky dv il id =>
    rintro x y ⟨⟨a, ca, rfl, h1⟩, ⟨a', ca', rfl, h2⟩⟩
    refine ⟨⟨a, ca, rfl, ?_⟩, ⟨a', ca', rfl, ?_⟩⟩
    · rcases h1 with h | ⟨b, o, rfl, hSb, hlt, h⟩
      · exact .inl h
      · refine .inr ⟨b, o, rfl, hS b hSb, Nat.lt_of_lt_of_le hlt hs, fun i hi => ?_⟩
        obtain ⟨x', y', g1, g2⟩ := h i hi
        exact ⟨x', y', il i _ _ g1, g2.keep (hb b hSb hlt)⟩
    · rcases h2 with h | ⟨b, o, rfl, hSb, hlt, h⟩
      · exact .inl h
      · refine .inr ⟨b, o, rfl, hS b hSb, Nat.lt_of_lt_of_le hlt hs, fun i hi => ?_⟩
        obtain ⟨x', y', g1, g2, g3⟩ := h i hi
        exact ⟨x', y', id i _ _ g1, (World.cell?_of_block (w := w) (hb b hSb hlt)).trans g2, g3.keep (hb b hSb hlt)⟩
/-- into another world, another set of blocks -/
theorem RV.move {S S' : Nat → Prop} {w w' : World} (hS : ∀ b, S b → b < w.heap.size → S' b) (hs : w.heap.size ≤ w'.heap.size) (hb : ∀ b, S b → b < w.heap.size → w'.heap[b]? = w.heap[b]?) :
    ∀ (t : T) (x y : Value), RV S w t x y → RV S' w' t x y := by
  intro t
  induction t with
  | no => intro x y h; exact h
  | mk k n s ln l dn ky dv il id =>
    rintro x y ⟨⟨a, ca, rfl, h1⟩, ⟨a', ca', rfl, h2⟩⟩
    refine ⟨⟨a, ca, rfl, ?_⟩, ⟨a', ca', rfl, ?_⟩⟩
    · rcases h1 with h | ⟨b, o, rfl, hSb, hlt, h⟩
      · exact .inl h
      · refine .inr ⟨b, o, rfl, hS b hSb hlt, Nat.lt_of_lt_of_le hlt hs, fun i hi => ?_⟩
        obtain ⟨x', y', g1, g2⟩ := h i hi
        exact ⟨x', y', il i _ _ g1, g2.keep (hb b hSb hlt)⟩
    · rcases h2 with h | ⟨b, o, rfl, hSb, hlt, h⟩
      · exact .inl h
      · refine .inr ⟨b, o, rfl, hS b hSb hlt, Nat.lt_of_lt_of_le hlt hs, fun i hi => ?_⟩
        obtain ⟨x', y', g1, g2, g3⟩ := h i hi
        exact ⟨x', y', id i _ _ g1, (World.cell?_of_block (w := w) (hb b hSb hlt)).trans g2, g3.keep (hb b hSb hlt)⟩
theorem RV.slices {S : Nat → Prop} {w : World} {t : T} {x y : Value} (h : RV S w t x y) : (∃ a n c, x = .slice a n c) ∧ ∃ a n c, y = .slice a n c := by
  cases t with
  | no => exact h.elim
  | mk k n s ln l dn ky dv =>
    obtain ⟨⟨a, ca, rfl, _⟩, ⟨a', ca', rfl, _⟩⟩ := h
    exact ⟨⟨_, _, _, rfl⟩, ⟨_, _, _, rfl⟩⟩
/-- into a world that has grown; of the blocks one knows just that they were there -/
theorem RV.lift {S S' : Nat → Prop} {w w' : World} (hs : w.heap.size ≤ w'.heap.size) (hb : ∀ b, b < w.heap.size → w'.heap[b]? = w.heap[b]?) (hS : ∀ b, b < w.heap.size → S' b) :
    ∀ (t : T) (x y : Value), RV S w t x y → RV S' w' t x y := by
  intro t
  induction t with
  | no => intro x y h; exact h
  | mk k n s ln l dn ky dv il id =>
    rintro x y ⟨⟨a, ca, rfl, h1⟩, ⟨a', ca', rfl, h2⟩⟩
    refine ⟨⟨a, ca, rfl, ?_⟩, ⟨a', ca', rfl, ?_⟩⟩
    · rcases h1 with h | ⟨b, o, rfl, hSb, hlt, h⟩
      · exact .inl h
      · refine .inr ⟨b, o, rfl, hS b hlt, Nat.lt_of_lt_of_le hlt hs, fun i hi => ?_⟩
        obtain ⟨x', y', g1, g2⟩ := h i hi
        exact ⟨x', y', il i _ _ g1, g2.keep (hb b hlt)⟩
    · rcases h2 with h | ⟨b, o, rfl, hSb, hlt, h⟩
      · exact .inl h
      · refine .inr ⟨b, o, rfl, hS b hlt, Nat.lt_of_lt_of_le hlt hs, fun i hi => ?_⟩
        obtain ⟨x', y', g1, g2, g3⟩ := h i hi
        exact ⟨x', y', id i _ _ g1, (World.cell?_of_block (w := w) (hb b hlt)).trans g2, g3.keep (hb b hlt)⟩
theorem RL.keep {S S' : Nat → Prop} {w w' : World} (hS : ∀ b, S b → S' b) (hs : w.heap.size ≤ w'.heap.size) (hb : ∀ b, S b → b < w.heap.size → w'.heap[b]? = w.heap[b]?) {ln : Nat} {l : Nat → T} {x : Value} (h : RL S w ln l x) : RL S' w' ln l x := by
  have h0 : RV S w (.mk 0 0 ByteArray.empty ln l 0 (fun _ => ByteArray.empty) (fun _ => .no)) x (.slice none 0 0) := ⟨h, none, 0, rfl, .inl rfl⟩
  exact (RV.keep hS hs hb _ _ _ h0).1
theorem RD.keep {S S' : Nat → Prop} {w w' : World} (hS : ∀ b, S b → S' b) (hs : w.heap.size ≤ w'.heap.size) (hb : ∀ b, S b → b < w.heap.size → w'.heap[b]? = w.heap[b]?) {dn : Nat} {ky : Nat → ByteArray} {dv : Nat → T} {y : Value} (h : RD S w dn ky dv y) : RD S' w' dn ky dv y := by
  have h0 : RV S w (.mk 0 0 ByteArray.empty 0 (fun _ => .no) dn ky dv) (.slice none 0 0) y := ⟨⟨none, 0, rfl, .inl rfl⟩, h⟩
  exact (RV.keep hS hs hb _ _ _ h0).2
/-- within the reach -/
def T.ok : T → Prop
  | .no => True
  | .mk _ _ s ln l dn ky dv => s.size ≤ 140737488351232 ∧ ln ≤ 140737488351232 ∧ dn ≤ 140737488351232 ∧ (∀ i, i < ln → (l i).ok) ∧ (∀ i, i < dn → (ky i).size ≤ 140737488351232 ∧ (dv i).ok)
/-- few enough children everywhere -/
def T.small : T → Prop
  | .no => True
  | .mk _ _ _ ln l dn _ dv => ln ≤ 2147483647 ∧ dn ≤ 2147483647 ∧ (∀ i, i < ln → (l i).small) ∧ (∀ i, i < dn → (dv i).small)

theorem cells25 : Try.prog.cellsOf 56 = 5 := by kernel_rfl
theorem cells42 : Try.prog.cellsOf 59 = 6 := by kernel_rfl
theorem cells3 : Try.prog.cellsOf 3 = 1 := by kernel_rfl
theorem cells9 : Try.prog.cellsOf 9 = 1 := by kernel_rfl
theorem cells22 : Try.prog.cellsOf 54 = 1 := by kernel_rfl
theorem cells23 : Try.prog.cellsOf 33 = 1 := by kernel_rfl
theorem bytes25 : Try.prog.bytesOf 56 = 80 := by kernel_rfl
theorem bytes42 : Try.prog.bytesOf 59 = 96 := by kernel_rfl

theorem len5 {α : Type} {l : List α} (h : l.length = 5) : ∃ a b c d e, l = [a, b, c, d, e] := by
  match l, h with
  | [a, b, c, d, e], _ => exact ⟨a, b, c, d, e, rfl⟩
theorem len6 {α : Type} {l : List α} (h : l.length = 6) : ∃ a b c d e f, l = [a, b, c, d, e, f] := by
  match l, h with
  | [a, b, c, d, e, f], _ => exact ⟨a, b, c, d, e, f, rfl⟩
theorem len2 {α : Type} {l : List α} (h : l.length = 2) : ∃ a b, l = [a, b] := by
  match l, h with
  | [a, b], _ => exact ⟨a, b, rfl⟩

section
variable {H : Type} {enc : TypeId × Value → H} {w : World}
/-- the five fields of a value that is read -/
theorem open25 {fuel : Nat} {cs : List Value} {x : DataW H × List MemPlace} (h : DataW.trod enc Try.prog w 0 (fun _ => true) true fuel 56 cs = some x) :
    ∃ (m : Nat) (k n : Int) (s : ByteArray) (lv dv : Value) (xl xd : DataW H × List MemPlace), fuel = m + 1 ∧ cs = [.int .i64 k, .int .i64 n, .string s, lv, dv] ∧
      x.1 = .agg [.lit (.int .i64 k), .lit (.int .i64 n), .lit (.string s.data.toList), xl.1, xd.1] ∧
      DataW.trod enc Try.prog w 0 (fun _ => true) true m 54 [lv] = some xl ∧ DataW.trod enc Try.prog w 0 (fun _ => true) true m 33 [dv] = some xd := by
  obtain ⟨xs, m, rfl, rfl, hl, hx, hf⟩ := DataW.trod_struct Try.underlying56 h
  rw [cells25] at hl
  obtain ⟨c0, c1, c2, c3, c4, rfl⟩ := len5 hl
  obtain ⟨x0, x1, x2, x3, x4, rfl⟩ := len5 (l := xs) (by simpa using hx)
  have f0 := hf 0 _ rfl
  have f1 := hf 1 _ rfl
  have f2 := hf 2 _ rfl
  have f3 := hf 3 _ rfl
  have f4 := hf 4 _ rfl
  simp [cells3, cells9, cells22, cells23] at f0 f1 f2 f3 f4
  obtain ⟨k, e0, rfl, _⟩ := DataW.trod_int Try.underlying3 f0
  obtain ⟨n, e1, rfl, _⟩ := DataW.trod_int Try.underlying3 f1
  obtain ⟨s, e2, rfl, _⟩ := DataW.trod_string Try.underlying9 f2
  simp at e0 e1 e2
  subst e0 e1 e2
  exact ⟨m, k, n, s, c3, c4, x3, x4, rfl, rfl, rfl, f3, f4⟩
theorem open42 {fuel : Nat} {cs : List Value} {x : DataW H × List MemPlace} (h : DataW.trod enc Try.prog w 0 (fun _ => true) true fuel 59 cs = some x) :
    ∃ (m : Nat) (s : ByteArray) (cs' : List Value) (xv : DataW H × List MemPlace), fuel = m + 1 ∧ cs = .string s :: cs' ∧
      x.1 = .agg [.lit (.string s.data.toList), xv.1] ∧ DataW.trod enc Try.prog w 0 (fun _ => true) true m 56 cs' = some xv := by
  obtain ⟨xs, m, rfl, rfl, hl, hx, hf⟩ := DataW.trod_struct Try.underlying59 h
  rw [cells42] at hl
  obtain ⟨c0, c1, c2, c3, c4, c5, rfl⟩ := len6 hl
  obtain ⟨x0, x1, rfl⟩ := len2 (l := xs) (by simpa using hx)
  have f0 := hf 0 _ rfl
  have f1 := hf 1 _ rfl
  simp [cells9, cells25] at f0 f1
  obtain ⟨s, e2, rfl, _⟩ := DataW.trod_string Try.underlying9 f0
  simp at e2
  subst e2
  exact ⟨m, s, _, x1, rfl, rfl, rfl, f1⟩
theorem weightsAll_mem {e : TypeId} {l : List (DataW H)} {d : DataW H} (h : d ∈ l) {q : Nat} (hq : q ∈ d.weights Try.prog e) : q ∈ DataW.weightsAll Try.prog e l := by
  induction l with
  | nil => cases h
  | cons a r ih =>
    rw [DataW.weightsAll, List.mem_append]
    rcases List.mem_cons.1 h with rfl | h
    · exact .inl hq
    · exact .inr (ih h)
/-- a slice that is read: each element's cells and reading -/
theorem openRow {t e : TypeId} (ht : Try.prog.underlying t = some (.slice e)) {fuel : Nat} {v : Value} {x : DataW H × List MemPlace} (h : DataW.trod enc Try.prog w 0 (fun _ => true) true fuel t [v] = some x)
    (hw : ∀ q ∈ DataW.weights Try.prog t x.1, q ≤ reachBytes) (hc : 0 < Try.prog.cellsOf e) :
    ∃ (a : Option Addr) (len cap : Nat), v = .slice a len cap ∧ len * Try.prog.bytesOf e ≤ reachBytes ∧ (len = 0 ∨ ∃ m, fuel = m + 1 ∧ ∃ b o, a = some ⟨b, o, none⟩ ∧ b < w.heap.size ∧
      ∀ i, i < len → ∃ cs y, cs.length = Try.prog.cellsOf e ∧ (∀ j, j < Try.prog.cellsOf e → w.cell? ⟨b, o + i * Try.prog.cellsOf e + j, none⟩ = cs[j]?) ∧ DataW.trod enc Try.prog w 0 (fun _ => true) true m e cs = some y ∧ ∀ q ∈ DataW.weights Try.prog e y.1, q ≤ reachBytes) := by
  rcases DataW.trod_slice ht h with ⟨h0, rfl⟩ | ⟨a, len, cap, elems, rest, m, rfl, h0, rfl, _, _, _, hlen, hel, _, _⟩
  · simp at h0
    exact ⟨none, 0, 0, h0, by simp, .inl rfl⟩
  simp at h0
  subst h0
  simp only [DataW.weights, ht] at hw
  refine ⟨some a, len, cap, rfl, ?_, ?_⟩
  · have := hw _ (List.mem_cons_self ..)
    simp only [List.length_map, hlen] at this
    exact Nat.le_trans (Nat.mul_le_mul_right _ (by omega)) this
  by_cases h00 : len = 0
  · exact .inl h00
  have key : ∀ i, i < len → ∃ cs y, w.cells? 0 (a.add (i * Try.prog.cellsOf e)) (Try.prog.cellsOf e) = some cs ∧ DataW.trod enc Try.prog w 0 (fun _ => true) true m e cs = some y ∧ y ∈ elems := by
    intro i hi
    have := hel i hi
    rw [List.getElem?_eq_getElem (by omega)] at this
    obtain ⟨cs', h1, h2⟩ := Option.bind_eq_some_iff.1 this
    exact ⟨cs', _, h1, h2, List.getElem_mem _⟩
  have cellof : ∀ {a' : Addr} {c : Nat} {cs : List Value}, w.cells? 0 a' c = some cs → cs.length = c ∧ ∀ j, j < c → w.cell? (a'.add j) = cs[j]? := fun h => ⟨(World.cells?_some h).2.1, (World.cells?_some h).2.2⟩
  obtain ⟨b, o, spot⟩ := a
  have hspot : spot = none ∧ b < w.heap.size := by
    obtain ⟨cs, y, h1, _, _⟩ := key 0 (by omega)
    obtain ⟨hl, hj⟩ := cellof h1
    have := hj 0 hc
    rw [List.getElem?_eq_getElem (by omega)] at this
    have h2 := World.cell?_spot this
    have h3 := World.block_lt_of_cell? w _ this
    simp [Addr.add] at h2 h3
    exact ⟨h2, h3⟩
  obtain ⟨rfl, hb⟩ := hspot
  have hadd : ∀ o i : Nat, (⟨b, o, none⟩ : Addr).add i = ⟨b, o + i, none⟩ := by intro o i; unfold Addr.add; split <;> simp_all
  refine .inr ⟨m, rfl, b, o, rfl, hb, fun i hi => ?_⟩
  obtain ⟨cs, y, h1, h2, h3⟩ := key i hi
  obtain ⟨hl, hj⟩ := cellof h1
  refine ⟨cs, y, hl, fun j hj' => ?_, h2, fun q hq => hw q ?_⟩
  · have := hj j hj'
    rw [hadd, hadd] at this
    exact this
  · refine List.mem_cons_of_mem _ (List.mem_append.2 (.inl (weightsAll_mem (List.mem_map_of_mem h3) hq)))
theorem rv_of_trod : ∀ (fuel : Nat) (cs : List Value) (x : DataW H × List MemPlace), DataW.trod enc Try.prog w 0 (fun _ => true) true fuel 56 cs = some x →
    (∀ q ∈ DataW.weights Try.prog 56 x.1, q ≤ reachBytes) → ∃ t lv dv, cs = [.int .i64 t.k, .int .i64 t.n, .string t.s, lv, dv] ∧ RV (fun _ => True) w t lv dv ∧ t.ok := by
  intro fuel
  induction fuel using Nat.strongRecOn with
  | ind fuel ih =>
  intro cs x h hw
  obtain ⟨m, k, n, s, lv, dv, xl, xd, rfl, rfl, hx, hl, hd⟩ := open25 h
  rw [hx] at hw
  simp only [DataW.weights, Try.underlying56, DataW.weightsEach, List.map, List.mem_append, List.append_nil, List.nil_append] at hw
  have hs : s.size ≤ reachBytes := by
    have := hw s.data.toList.length (.inl (by simp))
    rwa [Array.length_toList] at this
  obtain ⟨al, ln, cl, rfl, bl, gl⟩ := openRow Try.underlying54 hl (fun q hq => hw q (.inr (.inl hq))) (by rw [cells25]; omega)
  obtain ⟨ad, dn, cd, rfl, bd, gd⟩ := openRow Try.underlying33 hd (fun q hq => hw q (.inr (.inr hq))) (by rw [cells42]; omega)
  rw [bytes25] at bl
  rw [bytes42] at bd
  rw [cells25] at gl
  rw [cells42] at gd
  have e1 : reachBytes = 140737488351232 := rfl
  have L : ∃ l : Nat → T, (∀ i, i < ln → (l i).ok) ∧ RL (fun _ => True) w ln l (.slice al ln cl) := by
    rcases gl with rfl | ⟨m', rfl, b, o, rfl, hb, g⟩
    · exact ⟨fun _ => .no, fun i hi => absurd hi (Nat.not_lt_zero _), _, _, rfl, .inl rfl⟩
    have : ∀ i, i < ln → ∃ p : T × Value × Value, RV (fun _ => True) w p.1 p.2.1 p.2.2 ∧ five w b (o + i * 5) p.1 p.2.1 p.2.2 ∧ p.1.ok := by
      intro i hi
      obtain ⟨cs, y, _, hcell, ht, hq⟩ := g i hi
      obtain ⟨t, lv, dv, rfl, h1, h2⟩ := ih m' (by omega) cs y ht hq
      exact ⟨(t, lv, dv), h1, ⟨hcell 0 (by omega), hcell 1 (by omega), hcell 2 (by omega), hcell 3 (by omega), hcell 4 (by omega)⟩, h2⟩
    have : Inhabited (T × Value × Value) := ⟨(.no, .slice none 0 0, .slice none 0 0)⟩
    obtain ⟨f, hf⟩ := choose_lt ‹∀ i, i < ln → _›
    exact ⟨fun i => (f i).1, fun i hi => (hf i hi).2.2, _, _, rfl, .inr ⟨b, o, rfl, trivial, hb, fun i hi => ⟨_, _, (hf i hi).1, (hf i hi).2.1⟩⟩⟩
  have D : ∃ (ky : Nat → ByteArray) (l : Nat → T), (∀ i, i < dn → (ky i).size ≤ 140737488351232 ∧ (l i).ok) ∧ RD (fun _ => True) w dn ky l (.slice ad dn cd) := by
    rcases gd with rfl | ⟨m', rfl, b, o, rfl, hb, g⟩
    · exact ⟨fun _ => ByteArray.empty, fun _ => .no, fun i hi => absurd hi (Nat.not_lt_zero _), _, _, rfl, .inl rfl⟩
    have : ∀ i, i < dn → ∃ p : ByteArray × T × Value × Value, RV (fun _ => True) w p.2.1 p.2.2.1 p.2.2.2 ∧ w.cell? ⟨b, o + i * 6, none⟩ = some (.string p.1) ∧ five w b (o + i * 6 + 1) p.2.1 p.2.2.1 p.2.2.2 ∧ p.1.size ≤ 140737488351232 ∧ p.2.1.ok := by
      intro i hi
      obtain ⟨cs, y, _, hcell, ht, hq⟩ := g i hi
      obtain ⟨m2, s, cs', xv, rfl, rfl, hy, hv⟩ := open42 ht
      rw [hy] at hq
      simp only [DataW.weights, Try.underlying59, DataW.weightsEach, List.map, List.mem_append, List.append_nil] at hq
      obtain ⟨t, lv, dv, rfl, h1, h2⟩ := ih m2 (by omega) cs' xv hv (fun q h => hq q (.inr h))
      refine ⟨(s, t, lv, dv), h1, hcell 0 (by omega), ⟨hcell 1 (by omega), hcell 2 (by omega), hcell 3 (by omega), hcell 4 (by omega), hcell 5 (by omega)⟩, ?_, h2⟩
      have := hq s.data.toList.length (.inl (by simp))
      rwa [Array.length_toList] at this
    have : Inhabited (ByteArray × T × Value × Value) := ⟨(ByteArray.empty, .no, .slice none 0 0, .slice none 0 0)⟩
    obtain ⟨f, hf⟩ := choose_lt ‹∀ i, i < dn → _›
    exact ⟨fun i => (f i).1, fun i => (f i).2.1, fun i hi => (hf i hi).2.2.2, _, _, rfl, .inr ⟨b, o, rfl, trivial, hb, fun i hi => ⟨_, _, (hf i hi).1, (hf i hi).2.1, (hf i hi).2.2.1⟩⟩⟩
  obtain ⟨l, hlo, hL⟩ := L
  obtain ⟨ky, dvs, hdo, hD⟩ := D
  exact ⟨.mk k n s ln l dn ky dvs, _, _, rfl, ⟨hL, hD⟩, hs, by rw [e1] at bl; omega, by rw [e1] at bd; omega, hlo, hdo⟩
end
end Go.Proofs.Ytldkecjfjcnkfaa
