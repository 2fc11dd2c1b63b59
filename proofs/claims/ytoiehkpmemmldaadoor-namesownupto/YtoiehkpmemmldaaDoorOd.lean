import Derived.Test.YtoiehkpmemmldaaDoorPl
import Derived.Test.YtoiehkpmemmldaaDoorLe
namespace Go.Proofs.YtoiehkpmemmldaaDoor
open Go.RowKit
theorem less_trans : ∀ x y z : List UInt8, Op.bytesLess x y = true → Op.bytesLess y z = true → Op.bytesLess x z = true
  | _, [], _ => by intro h; simp [Op.bytesLess] at h
  | _, _ :: _, [] => by intro _ h; simp [Op.bytesLess] at h
  | [], _ :: _, _ :: _ => by intro _ _; rfl
  | a :: x, b :: y, c :: z => by
    intro h1 h2
    have ih := less_trans x y z
    simp only [Op.bytesLess, Bool.or_eq_true, decide_eq_true_eq, Bool.and_eq_true, beq_iff_eq] at h1 h2 ⊢
    rcases h1 with h1 | ⟨rfl, h1⟩
    · rcases h2 with h2 | ⟨rfl, h2⟩
      · exact .inl (UInt8.lt_trans h1 h2)
      · exact .inl h1
    · rcases h2 with h2 | ⟨rfl, h2⟩
      · exact .inl h2
      · exact .inr ⟨rfl, ih h1 h2⟩

theorem sl_trans {a b c : ByteArray} (h1 : sl a b = true) (h2 : sl b c = true) : sl a c = true := less_trans _ _ _ h1 h2
theorem cl_self : ∀ a : List ByteArray, cl a a = 0
  | [] => rfl
  | x :: a => by rw [cl, if_pos rfl]; exact cl_self a
theorem cl_eq0 : ∀ a b : List ByteArray, cl a b = 0 → a = b
  | [], [], _ => rfl
  | [], _ :: _, h => by rw [cl] at h; omega
  | _ :: _, [], h => by rw [cl] at h; omega
  | x :: a, y :: b, h => by
    rw [cl] at h
    by_cases e : x = y
    · rw [if_pos e] at h; rw [e, cl_eq0 a b h]
    · rw [if_neg e] at h; split at h <;> omega
theorem cl_neg : ∀ a b : List ByteArray, cl b a = - cl a b
  | [], [] => by simp [cl]
  | [], _ :: _ => by simp [cl]
  | _ :: _, [] => by simp [cl]
  | x :: a, y :: b => by
    rw [cl, cl]
    by_cases e : x = y
    · rw [if_pos e, if_pos e.symm]; exact cl_neg a b
    · rw [if_neg e, if_neg (fun h => e h.symm), sl_other e]
      cases sl x y <;> simp
theorem cl_tr : ∀ a b c : List ByteArray, cl a b < 0 → cl b c < 0 → cl a c < 0
  | [], [], _, h, _ => by rw [cl] at h; omega
  | [], _ :: _, [], _, h => by rw [cl] at h; omega
  | [], _ :: _, _ :: _, _, _ => by rw [cl]; omega
  | _ :: _, [], _, h, _ => by rw [cl] at h; omega
  | _ :: _, _ :: _, [], _, h => by rw [cl] at h; omega
  | x :: a, y :: b, z :: c, h1, h2 => by
    rw [cl] at h1 h2 ⊢
    by_cases e1 : x = y
    · subst e1
      rw [if_pos rfl] at h1
      by_cases e2 : x = z
      · rw [if_pos e2] at h2 ⊢; exact cl_tr a b c h1 h2
      · rw [if_neg e2] at h2 ⊢; exact h2
    · rw [if_neg e1] at h1
      have s1 : sl x y = true := by cases h : sl x y <;> simp_all
      by_cases e2 : y = z
      · subst e2; rw [if_neg e1, if_pos s1]; omega
      · rw [if_neg e2] at h2
        have s2 : sl y z = true := by cases h : sl y z <;> simp_all
        have s3 := sl_trans s1 s2
        by_cases e3 : x = z
        · subst e3; rw [sl_irr] at s3; cases s3
        · rw [if_neg e3, if_pos s3]; omega

theorem lx_irr (a : List ByteArray) : lx a a = false := by unfold lx; rw [cl_self]; rfl
theorem lx_tr {a b c : List ByteArray} (h1 : lx a b = true) (h2 : lx b c = true) : lx a c = true := by
  unfold lx at *; simp only [decide_eq_true_eq] at *; exact cl_tr _ _ _ h1 h2
theorem lx_anti {a b : List ByteArray} (h : lx a b = true) : lx b a = false := by
  unfold lx at *; simp only [decide_eq_true_eq, decide_eq_false_iff_not] at *; rw [cl_neg]; omega
theorem lx_tri {a b : List ByteArray} (h : ¬ a = b) (h1 : lx b a = false) : lx a b = true := by
  unfold lx at *
  simp only [decide_eq_true_eq, decide_eq_false_iff_not] at *
  have := cl_neg a b
  rcases Int.lt_trichotomy (cl a b) 0 with h2 | h2 | h2
  · exact h2
  · exact absurd (cl_eq0 _ _ h2) h
  · omega
/-- no two of the paths are the same -/
def ND (L : List (List ByteArray)) : Prop := ∀ a b, a < L.length → b < L.length → la L a = la L b → a = b
theorem nd_of {L : List (List ByteArray)} (h : ∀ b, b < L.length → ∀ a, a < b → er (la L a) (la L b) = 0) : ND L := by
  have key : ∀ a b, a < b → b < L.length → ¬ la L a = la L b := fun a b hab hb e => by
    have := h b hb a hab
    unfold er at this
    rw [if_pos e] at this
    cases this
  intro a b ha hb e
  rcases Nat.lt_trichotomy a b with h1 | h1 | h1
  · exact absurd e (key a b h1 hb)
  · exact h1
  · exact absurd e.symm (key b a h1 ha)
/-- how many come ahead -/
def rk (L : List (List ByteArray)) (i : Nat) : Nat := (List.range L.length).countP (fun j => lx (la L j) (la L i))
theorem countP_less {p q : Nat → Bool} : ∀ (l : List Nat), (∀ j ∈ l, p j = true → q j = true) → (∃ j ∈ l, q j = true ∧ p j = false) → l.countP p < l.countP q
  | [], _, h => by obtain ⟨j, hj, _⟩ := h; cases hj
  | a :: l, h, hx => by
    have hle : l.countP p ≤ l.countP q := List.countP_mono_left (fun j hj => h j (List.mem_cons_of_mem _ hj))
    simp only [List.countP_cons]
    obtain ⟨j, hj, h1, h2⟩ := hx
    have ha := h a (List.mem_cons_self ..)
    rcases List.mem_cons.1 hj with rfl | hj
    · simp [h1, h2]; omega
    · have := countP_less l (fun j hj => h j (List.mem_cons_of_mem _ hj)) ⟨j, hj, h1, h2⟩
      by_cases hp : p a = true
      · simp [hp, ha hp]; exact this
      · simp [hp]; omega
theorem rk_lt {L : List (List ByteArray)} {i : Nat} (hi : i < L.length) : rk L i < L.length := by
  have h1 : rk L i ≤ (List.range L.length).length := List.countP_le_length
  rw [List.length_range] at h1
  rcases Nat.lt_or_ge (rk L i) L.length with h | h
  · exact h
  · have e : (List.range L.length).countP (fun j => lx (la L j) (la L i)) = (List.range L.length).length := by rw [List.length_range]; unfold rk at h1 h; omega
    have := List.countP_eq_length.1 e i (by simpa using hi)
    rw [lx_irr] at this
    cases this
theorem rk_inj {L : List (List ByteArray)} (hn : ND L) {i k : Nat} (hi : i < L.length) (hk : k < L.length) (h : rk L i = rk L k) : i = k := by
  have key : ∀ a b, a < L.length → b < L.length → lx (la L a) (la L b) = true → rk L a < rk L b := fun a b ha hb hab =>
    countP_less _ (fun j _ hj => lx_tr hj hab) ⟨a, by simpa using ha, hab, lx_irr _⟩
  rcases Classical.em (i = k) with e | e
  · exact e
  · have hne : ¬ la L i = la L k := fun h' => e (hn _ _ hi hk h')
    cases h1 : lx (la L k) (la L i)
    · have := key i k hi hk (lx_tri hne h1); omega
    · have := key k i hk hi h1; omega
/-- the places, in order -/
def SP (L : List (List ByteArray)) (l : List Nat) : Prop := l.Perm (List.range L.length) ∧ ∀ i j, i < j → j < L.length → lx (la L (l.getD i 0)) (la L (l.getD j 0)) = true
def RK (L : List (List ByteArray)) (l : List Nat) : Prop := l.length = L.length ∧ ∀ i, i < L.length → l.getD (rk L i) 0 = i
theorem SP.len {L : List (List ByteArray)} {l : List Nat} (h : SP L l) : l.length = L.length := by have := h.1.length_eq; simpa using this
theorem SP.low {L : List (List ByteArray)} {l : List Nat} (h : SP L l) {p : Nat} (hp : p < L.length) : l.getD p 0 < L.length := by
  have hl := h.len
  have : l.getD p 0 ∈ l := by rw [List.getD_eq_getElem?_getD, List.getElem?_eq_getElem (by omega)]; exact List.getElem_mem _
  simpa using h.1.mem_iff.1 this
theorem SP.rank {L : List (List ByteArray)} {l : List Nat} (h : SP L l) {p : Nat} (hp : p < L.length) : rk L (l.getD p 0) = p := by
  have hl := h.len
  unfold rk
  rw [← h.1.countP_eq]
  generalize hx : l.getD p 0 = x
  have e : l.countP (fun j => lx (la L j) (la L x)) = (l.take p ++ l.drop p).countP (fun j => lx (la L j) (la L x)) := by rw [List.take_append_drop]
  rw [e, List.countP_append]
  have e1 : (l.take p).countP (fun j => lx (la L j) (la L x)) = (l.take p).length := List.countP_eq_length.2 (fun j hj => by
    obtain ⟨i, hi, rfl⟩ := List.getElem_of_mem hj
    have hi' : i < p := by rw [List.length_take] at hi; omega
    have := h.2 i p hi' hp
    rw [hx] at this
    simpa [List.getD_eq_getElem?_getD, List.getElem?_eq_getElem (by omega : i < l.length)] using this)
  have e2 : (l.drop p).countP (fun j => lx (la L j) (la L x)) = 0 := List.countP_eq_zero.2 (fun j hj => by
    obtain ⟨i, hi, rfl⟩ := List.getElem_of_mem hj
    rw [List.length_drop] at hi
    rw [List.getElem_drop]
    by_cases h0 : i = 0
    · subst h0
      have : l[p + 0] = x := by rw [← hx]; simp [List.getD_eq_getElem?_getD, List.getElem?_eq_getElem (by omega : p < l.length)]
      rw [this, lx_irr]; simp
    · have := h.2 p (p + i) (by omega) (by omega)
      rw [hx] at this
      have e3 : l.getD (p + i) 0 = l[p + i] := by simp [List.getD_eq_getElem?_getD, List.getElem?_eq_getElem (by omega : p + i < l.length)]
      rw [e3] at this
      rw [lx_anti this]; simp)
  rw [e1, e2, List.length_take]
  omega
theorem SP.unique {L : List (List ByteArray)} {l m : List Nat} (h : SP L l) (hm : RK L m) : m = l := by
  refine List.ext_getElem (by rw [hm.1, h.len]) fun p h1 h2 => ?_
  have hp : p < L.length := by rw [hm.1] at h1; exact h1
  have := hm.2 _ (h.low hp)
  rw [h.rank hp] at this
  simpa [List.getD_eq_getElem?_getD, List.getElem?_eq_getElem h1, List.getElem?_eq_getElem h2] using this
/-- the first error of the paths -/
def pes : List (List ByteArray) → Int
  | [] => 0
  | l :: L => if pe l = 0 then pes L else pe l
theorem la_drop {L : List (List ByteArray)} {k : Nat} (h : k < L.length) : L.drop k = la L k :: L.drop (k + 1) := by rw [la_get h]; exact List.drop_eq_getElem_cons h
theorem pes_ok {L : List (List ByteArray)} {k : Nat} (h : k < L.length) (h0 : pe (la L k) = 0) : pes (L.drop k) = pes (L.drop (k + 1)) := by rw [la_drop h, pes, if_pos h0]
theorem pes_bad {L : List (List ByteArray)} {k : Nat} (h : k < L.length) (h0 : ¬ pe (la L k) = 0) : pes (L.drop k) = pe (la L k) := by rw [la_drop h, pes, if_neg h0]
/-- the error of Order -/
def OE (L : List (List ByteArray)) (e : Int) : Prop := (4096 < L.length ∧ e = 58) ∨ (L.length ≤ 4096 ∧ pes L ≠ 0 ∧ e = pes L) ∨ (L.length ≤ 4096 ∧ pes L = 0 ∧ ∃ i j, CL L i j e)
theorem OE.unique {L : List (List ByteArray)} {e e' : Int} (h : OE L e) (h' : OE L e') : e = e' := by
  rcases h with ⟨a, h⟩ | ⟨a, b, h⟩ | ⟨a, b, i, j, h⟩ <;> rcases h' with ⟨a', h'⟩ | ⟨a', b', h'⟩ | ⟨a', b', i', j', h'⟩
  all_goals first
    | omega
    | exact absurd b' b
    | exact absurd b b'
    | exact (h.unique h').2.2
theorem OE.nd {L : List (List ByteArray)} (h : OE L 0) : L.length ≤ 4096 ∧ ND L := by
  rcases h with ⟨a, h⟩ | ⟨a, b, h⟩ | ⟨a, b, i, j, h⟩
  · omega
  · exact absurd h.symm b
  · rcases h with ⟨_, _, _, h⟩ | ⟨_, h, _⟩
    · exact ⟨a, nd_of h⟩
    · exact absurd rfl h
/-- numbers in memory -/
def IR (w : World) (l : List Nat) (v : Value) : Prop := ∃ a c, v = .slice a l.length c ∧ (l = [] ∨ ∃ b o, a = some ⟨b, o, none⟩ ∧ b < w.heap.size ∧ ∀ i, i < l.length → w.cell? ⟨b, o + i, none⟩ = some (.int .i64 ((l.getD i 0 : Nat) : Int)))
theorem IR.keep {w w' : World} {l : List Nat} {v : Value} (h : IR w l v) (hb : Below w.heap.size w w') : IR w' l v := by
  obtain ⟨a, c, rfl, h⟩ := h
  refine ⟨a, c, rfl, ?_⟩
  rcases h with h | ⟨g, o, h1, h2, h3⟩
  · exact .inl h
  · exact .inr ⟨g, o, h1, Nat.lt_of_lt_of_le h2 hb.size, fun i hi => (World.cell?_of_block (w := w) (hb.block g h2)).trans (h3 i hi)⟩
theorem IR.nil (w : World) : IR w [] (.slice none 0 0) := ⟨none, 0, rfl, .inl rfl⟩
theorem IR.cellAt {w : World} {l : List Nat} {a : Option Addr} {n c : Nat} (h : IR w l (.slice a n c)) {k : Nat} (hk : k < l.length) : ∃ b o, a = some ⟨b, o, none⟩ ∧ b < w.heap.size ∧ w.cell? ⟨b, o + k, none⟩ = some (.int .i64 ((l.getD k 0 : Nat) : Int)) := by
  obtain ⟨a', c', he, h⟩ := h
  cases he
  rcases h with h | ⟨g, o, h1, h2, h3⟩
  · subst h; simp at hk
  · exact ⟨g, o, h1, h2, h3 k hk⟩
/-- a row of numbers in a block of its own -/
def RI (w : World) (G : Nat) (l : List Nat) : Prop := w.heap[G]? = some (.cells (l.map (fun i : Nat => Value.int .i64 (i : Int))).toArray 3 (0, 0))
theorem RI.lt {w : World} {G : Nat} {l : List Nat} (h : RI w G l) : G < w.heap.size := (Array.getElem?_eq_some_iff.1 h).1
theorem RI.facts {w : World} {G : Nat} {l : List Nat} (h : RI w G l) {k : Nat} (hk : k < l.length) : w.cell? ⟨G, k, none⟩ = some (.int .i64 ((l.getD k 0 : Nat) : Int)) ∧ w.frozen? ⟨G, k, none⟩ = false := by
  unfold RI at h
  refine ⟨?_, by simp [World.frozen?, h]⟩
  simp [World.cell?, h, hk]
theorem RI.ir {w : World} {G : Nat} {l : List Nat} (h : RI w G l) (c : Nat) : IR w l (.slice (some ⟨G, 0, none⟩) l.length c) :=
  ⟨_, c, rfl, .inr ⟨G, 0, rfl, h.lt, fun i hi => by rw [Nat.zero_add]; exact (h.facts hi).1⟩⟩
theorem RI.set {w : World} {G : Nat} {l : List Nat} (h : RI w G l) (k x : Nat) : RI (w.setCell ⟨G, k, none⟩ (.int .i64 (x : Int))) G (l.set k x) := by
  unfold RI at h ⊢
  rw [heap_setCell_same _ _ _ _ _ _ h]
  congr 2
  apply Array.ext'
  simp [List.map_set]
theorem RI.keep {w w' : World} {G : Nat} {l : List Nat} (h : RI w G l) (hb : Below w.heap.size w w') : RI w' G l := (hb.block G h.lt).trans h
theorem set_below {w0 w : World} {G k : Nat} {u : Value} (h : Below w0.heap.size w0 w) (hG : w0.heap.size ≤ G) : Below w0.heap.size w0 (w.setCell ⟨G, k, none⟩ u) := h.setCell hG u
/-- the row as far as it is filled -/
def fil (n k : Nat) : List Nat := (List.range n).map (fun i => if i < k then i else 0)
theorem fil_len (n k : Nat) : (fil n k).length = n := by simp [fil]
theorem fil_zero (n : Nat) : fil n 0 = List.replicate n 0 := by
  refine List.ext_getElem (by simp [fil]) fun i h1 h2 => ?_
  simp [fil]
theorem fil_step {n k : Nat} : (fil n k).set k k = fil n (k + 1) := by
  refine List.ext_getElem (by simp [fil]) fun i h1 h2 => ?_
  simp only [fil, List.getElem_set, List.getElem_map, List.getElem_range]
  by_cases h : k = i
  · subst h; simp
  · rw [if_neg h]
    by_cases h2 : i < k
    · rw [if_pos h2, if_pos (by omega)]
    · rw [if_neg h2, if_neg (by omega)]
theorem fil_all (n : Nat) : fil n n = List.range n := by
  refine List.ext_getElem (by simp [fil]) fun i h1 h2 => ?_
  have hi : i < n := by simpa using h2
  simp [fil, hi]
end Go.Proofs.YtoiehkpmemmldaaDoor
