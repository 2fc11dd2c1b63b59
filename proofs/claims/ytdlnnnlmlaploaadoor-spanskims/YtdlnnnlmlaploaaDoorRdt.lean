import Derived.Test.YtdlnnnlmlaploaaDoorRdo
namespace Go.Proofs.YtdlnnnlmlaploaaDoor
open Go.RowKit Go.Deep
/-- a tree that a reader may build -/
def TOK (t : T) : Prop := t.small ∧ VT t ∧ t.ok
theorem eL : ByteArray.empty.toList = [] := by rw [ByteArray.toList_eq]; rfl
theorem tok_num (n : Int) : TOK (tNum n) :=
  ⟨⟨Nat.zero_le _, Nat.zero_le _, fun i hi => absurd hi (Nat.not_lt_zero _), fun i hi => absurd hi (Nat.not_lt_zero _)⟩, ⟨(ownB_iff _ _ _ _ _).2 ⟨by omega, by omega, .inl rfl, .inr eL, .inr rfl, .inr rfl⟩, fun i hi => absurd hi (Nat.not_lt_zero _), fun i hi => absurd hi (Nat.not_lt_zero _)⟩, Nat.zero_le _, Nat.zero_le _, Nat.zero_le _, fun i hi => absurd hi (Nat.not_lt_zero _), fun i hi => absurd hi (Nat.not_lt_zero _)⟩
theorem tok_str (s : ByteArray) (hs : s.size ≤ 1048576) : TOK (tStr s) :=
  ⟨⟨Nat.zero_le _, Nat.zero_le _, fun i hi => absurd hi (Nat.not_lt_zero _), fun i hi => absurd hi (Nat.not_lt_zero _)⟩, ⟨(ownB_iff _ _ _ _ _).2 ⟨by omega, by omega, .inr rfl, .inl rfl, .inr rfl, .inr rfl⟩, fun i hi => absurd hi (Nat.not_lt_zero _), fun i hi => absurd hi (Nat.not_lt_zero _)⟩, (by show s.size ≤ 140737488351232; omega), Nat.zero_le _, Nat.zero_le _, fun i hi => absurd hi (Nat.not_lt_zero _), fun i hi => absurd hi (Nat.not_lt_zero _)⟩
theorem tok_list (l : List T) (hl : l.length ≤ 1048576) (h : ∀ k, k < l.length → TOK (l.getD k .no)) : TOK (tList l) :=
  ⟨⟨(by show l.length ≤ 2147483647; omega), Nat.zero_le _, fun i hi => (h i hi).1, fun i hi => absurd hi (Nat.not_lt_zero _)⟩, ⟨(ownB_iff _ _ _ _ _).2 ⟨by omega, by omega, .inr rfl, .inr eL, .inl rfl, .inr rfl⟩, fun i hi => (h i hi).2.1, fun i hi => absurd hi (Nat.not_lt_zero _)⟩, Nat.zero_le _, (by show l.length ≤ 140737488351232; omega), Nat.zero_le _, fun i hi => (h i hi).2.2, fun i hi => absurd hi (Nat.not_lt_zero _)⟩
/-- the keys rise, and what they name is well -/
def DOK (l : List (ByteArray × T)) : Prop := l.length ≤ 1048576 ∧ ∀ k, k < l.length → (l.getD k (ByteArray.empty, .no)).1.size ≤ 1048576 ∧ TOK (l.getD k (ByteArray.empty, .no)).2 ∧ keyBad (fun i => (l.getD i (ByteArray.empty, .no)).1) k = false
theorem tok_dict (l : List (ByteArray × T)) (h : DOK l) : TOK (tDict l) := by
  obtain ⟨hl, h⟩ := h
  exact ⟨⟨Nat.zero_le _, (by show l.length ≤ 2147483647; omega), fun i hi => absurd hi (Nat.not_lt_zero _), fun i hi => (h i hi).2.1.1⟩, ⟨(ownB_iff _ _ _ _ _).2 ⟨by omega, by omega, .inr rfl, .inr eL, .inr rfl, .inl rfl⟩, fun i hi => absurd hi (Nat.not_lt_zero _), fun i hi => ⟨(h i hi).2.2, (h i hi).2.1.2.1⟩⟩, Nat.zero_le _, Nat.zero_le _, (by show l.length ≤ 140737488351232; omega), fun i hi => absurd hi (Nat.not_lt_zero _), fun i hi => ⟨Nat.le_trans (h i hi).1 (by omega), (h i hi).2.1.2.2⟩⟩
theorem dok_nil : DOK [] := ⟨Nat.zero_le _, fun _k hk => absurd hk (Nat.not_lt_zero _)⟩
theorem getD_snoc_lt {α : Type} (l : List α) (x d : α) {k : Nat} (h : k < l.length) : (l ++ [x]).getD k d = l.getD k d := by simp [List.getD, List.getElem?_append_left h]
theorem getD_snoc_eq {α : Type} (l : List α) (x d : α) : (l ++ [x]).getD l.length d = x := by simp [List.getD]
theorem dok_snoc {l : List (ByteArray × T)} {key : ByteArray} {t : T} (h : DOK l) (hl : l.length < 1048576) (hk : key.size ≤ 1048576) (ht : TOK t) (hr : l ≠ [] → leB key (l.getLastD (ByteArray.empty, .no)).1 = false) : DOK (l ++ [(key, t)]) := by
  refine ⟨by simp; omega, fun k hk' => ?_⟩
  by_cases e : k < l.length
  · obtain ⟨h1, h2, h3⟩ := h.2 k e
    refine ⟨by rw [getD_snoc_lt _ _ _ e]; exact h1, by rw [getD_snoc_lt _ _ _ e]; exact h2, ?_⟩
    cases k with
    | zero => rfl
    | succ k =>
      show leB ((l ++ [(key, t)]).getD (k + 1) (ByteArray.empty, .no)).1 ((l ++ [(key, t)]).getD k (ByteArray.empty, .no)).1 = false
      rw [getD_snoc_lt _ _ _ e, getD_snoc_lt _ _ _ (by omega)]
      exact h3
  · obtain rfl : k = l.length := by simp at hk'; omega
    refine ⟨by rw [getD_snoc_eq]; exact hk, by rw [getD_snoc_eq]; exact ht, ?_⟩
    cases hn : l.length with
    | zero => rfl
    | succ m =>
      show leB ((l ++ [(key, t)]).getD (m + 1) (ByteArray.empty, .no)).1 ((l ++ [(key, t)]).getD m (ByteArray.empty, .no)).1 = false
      rw [← hn, getD_snoc_eq, getD_snoc_lt _ _ _ (by omega)]
      have := hr (by intro e; rw [e] at hn; cases hn)
      rw [show l.getLastD (ByteArray.empty, .no) = l.getD m (ByteArray.empty, .no) from by rw [List.getLastD_eq_getLast?, List.getLast?_eq_getElem?, hn]; rfl] at this
      exact this
theorem RR.low {rb : Nat} {w0 w w' : World} {a : Option Addr} {c : Nat} {b : List UInt8} {i0 j : Nat} (h0 : RR rb w0 a c b i0) (h : RR rb w a c b j) (hs : w0.heap.size ≤ w'.heap.size) (hk : ∀ k, k < w0.heap.size → w'.heap[k]? = w.heap[k]?) : RR rb w' a c b j := by
  obtain ⟨⟨x1, y1, y2, ⟨t1, p1, y3⟩, ⟨t2, p2, y4⟩⟩, x2, x3, x4, x5⟩ := h0
  obtain ⟨⟨z1, u1, u2, ⟨t3, p3, u3⟩, ⟨t4, p4, u4⟩⟩, z2, z3, z4, z5⟩ := h
  refine ⟨⟨z1.keep (hk _ x1.lt), u1, u2, ⟨t3, p3, (World.cell?_of_block (w := w) (hk 3 (World.block_lt_of_cell? w0 _ y3))).trans u3⟩, ⟨t4, p4, (World.cell?_of_block (w := w) (hk 4 (World.block_lt_of_cell? w0 _ y4))).trans u4⟩⟩, z2, z3, z4, ?_⟩
  rcases z5 with h | ⟨g, o, rfl, h2, h3, h4⟩
  · exact .inl h
  · rcases x5 with h | ⟨g', o', e, k2, k3, k4⟩
    · exact .inl h
    · cases e
      exact .inr ⟨g, o, rfl, h2, Nat.lt_of_lt_of_le k3 hs, fun k hk' => (World.cell?_of_block (w := w) (hk g k3)).trans (h4 k hk')⟩
/-- a value may begin here -/
def ready (b : List UInt8) (st : List Fr) (i : Nat) : Prop := match st with
  | [] => True
  | f :: _ => (f.d = true ∧ f.has = true) ∨ (f.d = false ∧ i < b.length ∧ byt b i ≠ 101)
theorem step_end {b : List UInt8} {st : List Fr} {i : Nat} (h : b.length ≤ i) : step b st i = .bad b.length 21 := by unfold step; rw [if_pos h]
theorem step_ready {b : List UInt8} {st : List Fr} {i : Nat} (h : ready b st i) (hi : i < b.length) : step b st i = opn b st i := by
  unfold step; rw [if_neg (by omega)]
  cases st with
  | nil => rfl
  | cons f r =>
    dsimp only
    rcases h with ⟨h1, h2⟩ | ⟨h1, _, h3⟩
    · rw [if_neg (by simp [h1, h2]), if_neg (by simp [h1])]
    · rw [if_neg (by simp [h1]), if_neg (by simp [h3])]
/-- how a function that reads a value ends -/
def valEnd (b : List UInt8) (st : List Fr) (i rb : Nat) (w w' : World) (a : Option Addr) (c : Nat) (f : Value → Value) (e : Ending) : Prop :=
  Besides rb w w' ∧ ((∃ t u j, e = .returned u ∧ RN (fun x => w.heap.size ≤ x) w' t (f u) ∧ RR rb w' a c b j ∧ i < j ∧ Run b (.go st i) (deliver st t j) ∧ TOK t) ∨ ∃ (p : Nat) (er : Int), e = pnc p er ∧ Run b (.go st i) (.bad p er))
theorem valEnd.bad {b : List UInt8} {st : List Fr} {i rb : Nat} {w w' : World} {a : Option Addr} {c : Nat} {f : Value → Value} {p : Nat} {er : Int} (h : Besides rb w w') (hr : Run b (.go st i) (.bad p er)) : valEnd b st i rb w w' a c f (pnc p er) := ⟨h, .inr ⟨p, er, rfl, hr⟩⟩
theorem valEnd.ok {b : List UInt8} {st : List Fr} {i j rb : Nat} {w w' : World} {a : Option Addr} {c : Nat} {f : Value → Value} {t : T} {u : Value} (h : Besides rb w w') (h1 : RN (fun x => w.heap.size ≤ x) w' t (f u)) (h2 : RR rb w' a c b j) (h3 : i < j) (hr : Run b (.go st i) (deliver st t j)) (ht : TOK t) : valEnd b st i rb w w' a c f (.returned u) := ⟨h, .inl ⟨t, u, j, rfl, h1, h2, h3, hr, ht⟩⟩
def VVc (b : List UInt8) (N : Nat) : Prop := ∀ (rb : Nat) (a : Option Addr) (c : Nat) (st : List Fr) (i : Nat) (w : World), b.length - i < N → RR rb w a c b i → st.length ≤ 32 → ready b st i →
  Calls Tryd.prog 73 #[.pointer (some ⟨rb, 0, none⟩), .int .i64 (st.length : Int)] w fun e w' => valEnd b st i rb w w' a c (fun u => u) e
end Go.Proofs.YtdlnnnlmlaploaaDoor
