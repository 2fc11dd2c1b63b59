import Derived.Test.YtdlnnnlmlaploaaDoorRd
import Derived.Test.YtdlnnnlmlaploaaDoorFar
namespace Go.Proofs.YtdlnnnlmlaploaaDoor
open Go.RowKit Go.Deep
theorem byt_drop (b : List UInt8) (i k : Nat) : byt b (i + k) = byt (b.drop i) k := by
  simp [byt, List.getD, List.getElem?_drop]
theorem takeWhile_dig (l : List UInt8) : ∀ k, k < (l.takeWhile dig).length → k < l.length ∧ dig (byt l k) = true := by
  induction l with
  | nil => intro k hk; simp at hk
  | cons x l ih =>
    intro k hk
    by_cases hx : dig x = true
    · rw [List.takeWhile_cons_of_pos hx] at hk
      cases k with
      | zero => exact ⟨by simp, by simpa [byt] using hx⟩
      | succ k =>
        obtain ⟨h1, h2⟩ := ih k (by simpa using hk)
        exact ⟨by simpa using h1, by simpa [byt] using h2⟩
    · rw [List.takeWhile_cons_of_neg hx] at hk; simp at hk
theorem takeWhile_end (l : List UInt8) : (l.takeWhile dig).length < l.length → dig (byt l (l.takeWhile dig).length) = false := by
  induction l with
  | nil => intro h; simp at h
  | cons x l ih =>
    intro h
    by_cases hx : dig x = true
    · rw [List.takeWhile_cons_of_pos hx] at h ⊢
      have := ih (by simpa using h)
      simpa [byt] using this
    · rw [List.takeWhile_cons_of_neg hx]
      simpa [byt] using hx
theorem takeWhile_le (l : List UInt8) : (l.takeWhile dig).length ≤ l.length := by
  induction l with
  | nil => simp
  | cons x l ih =>
    by_cases hx : dig x = true
    · rw [List.takeWhile_cons_of_pos hx]; simpa using ih
    · rw [List.takeWhile_cons_of_neg hx]; simp
theorem run_lt {b : List UInt8} {i k : Nat} (h : k < run b i) : i + k < b.length ∧ dig (byt b (i + k)) = true := by
  obtain ⟨h1, h2⟩ := takeWhile_dig (b.drop i) k h
  rw [← byt_drop] at h2
  exact ⟨by rw [List.length_drop] at h1; omega, h2⟩
theorem run_end {b : List UInt8} {i : Nat} (h : i + run b i < b.length) : dig (byt b (i + run b i)) = false := by
  rw [byt_drop]
  exact takeWhile_end (b.drop i) (by rw [List.length_drop]; unfold run at h; omega)
theorem run_le {b : List UInt8} {i : Nat} (h : i ≤ b.length) : i + run b i ≤ b.length := by
  have := takeWhile_le (b.drop i)
  rw [List.length_drop] at this
  unfold run; omega
theorem cut_length {b : List UInt8} {i j : Nat} (h : j ≤ b.length) : (cut b i j).length = j - i := by
  unfold cut; rw [List.length_take, List.length_drop]; omega
theorem byt_cut {b : List UInt8} {i j k : Nat} (h : k < j - i) : byt (cut b i j) k = byt b (i + k) := by
  simp [byt, cut, List.getD, h, List.getElem?_drop]
/-- the ending of a reader that gives up -/
def pnc (p e : Int) : Ending := .panicked [{ v := .iface 117 (.agg #[.int .i64 p, .int .i64 e]), recovered := false }]
/-- the slice holds the text; its block is not rb -/
def TXn (rb : Nat) (w : World) (a : Option Addr) (c : Nat) (b : List UInt8) : Prop :=
  b.length ≤ c ∧ b.length ≤ 1048576 ∧ (b = [] ∨ ∃ g o, a = some ⟨g, o, none⟩ ∧ g ≠ rb ∧ g < w.heap.size ∧ ∀ i, i < b.length → w.cell? ⟨g, o + i, none⟩ = some (.int .u8 ((byt b i).toNat : Int)))
/-- the two errors of strconv hold something; rb is another block -/
def EVn (rb : Nat) (w : World) : Prop := 3 ≠ rb ∧ 4 ≠ rb ∧ (∃ t p, w.cell? ⟨3, 0, none⟩ = some (.iface t p)) ∧ ∃ t p, w.cell? ⟨4, 0, none⟩ = some (.iface t p)
/-- the reader in block rb stands at i -/
def RR (rb : Nat) (w : World) (a : Option Addr) (c : Nat) (b : List UInt8) (i : Nat) : Prop := (blk w rb 120 #[.slice a b.length c, .int .i64 i] ∧ EVn rb w) ∧ i ≤ b.length ∧ TXn rb w a c b
theorem EVn.keep {rb : Nat} {w w' : World} (h : EVn rb w) (hb : Besides rb w w') : EVn rb w' := by
  obtain ⟨h1, h2, ⟨t, p, h3⟩, ⟨t', p', h4⟩⟩ := h
  exact ⟨h1, h2, ⟨t, p, hb.cell h1 h3⟩, ⟨t', p', hb.cell h2 h4⟩⟩
theorem TXn.keep {rb : Nat} {w w' : World} {a : Option Addr} {c : Nat} {b : List UInt8} (h : TXn rb w a c b) (hb : Besides rb w w') : TXn rb w' a c b := by
  refine ⟨h.1, h.2.1, ?_⟩
  rcases h.2.2 with h | ⟨g, o, h1, h2, h3, h4⟩
  · exact .inl h
  · exact .inr ⟨g, o, h1, h2, Nat.lt_of_lt_of_le h3 hb.size, fun i hi => (World.cell?_of_block (w := w) (hb.block g h3 h2)).trans (h4 i hi)⟩
theorem RR.heap {rb : Nat} {w w' : World} {a : Option Addr} {c : Nat} {b : List UInt8} {i : Nat} (h : RR rb w a c b i) (hb : Below w.heap.size w w') : RR rb w' a c b i :=
  ⟨⟨h.1.1.keep (hb.block _ h.1.1.lt), h.1.2.keep ⟨hb.os, hb.tape, hb.output, hb.size, fun k hk _ => hb.block k hk⟩⟩, h.2.1, h.2.2.keep ⟨hb.os, hb.tape, hb.output, hb.size, fun k hk _ => hb.block k hk⟩⟩
theorem Besides.of_below {rb : Nat} {w w' : World} (hb : Below w.heap.size w w') : Besides rb w w' := ⟨hb.os, hb.tape, hb.output, hb.size, fun k hk _ => hb.block k hk⟩
theorem Besides.set1 {rb i : Nat} {v : Value} {w w' : World} (h : Besides rb w w') : Besides rb w (w'.setCell ⟨rb, i, none⟩ v) :=
  ⟨h.os, h.tape, h.output, by simpa [World.setCell] using h.size, fun k hk hn => by rw [Below.heap_setCell _ _ _ _ hn]; exact h.block k hk hn⟩
theorem RR.set {rb : Nat} {w : World} {a : Option Addr} {c : Nat} {b : List UInt8} {i : Nat} (h : RR rb w a c b i) (j : Nat) (hj : j ≤ b.length) : RR rb (w.setCell ⟨rb, 1, none⟩ (.int .i64 j)) a c b j :=
  ⟨⟨h.1.1.set 1 _, h.1.2.keep (Besides.refl rb w).set1⟩, hj, h.2.2.keep (Besides.refl rb w).set1⟩
theorem RR.cells {rb : Nat} {w : World} {a : Option Addr} {c : Nat} {b : List UInt8} {i : Nat} (h : RR rb w a c b i) : w.cell? ⟨rb, 0, none⟩ = some (.slice a b.length c) ∧ w.cell? ⟨rb, 1, none⟩ = some (.int .i64 i) ∧ w.frozen? ⟨rb, 1, none⟩ = false := ⟨h.1.1.cell 0, h.1.1.cell 1, h.1.1.frozen 1⟩
theorem RR.byte {rb : Nat} {w : World} {a : Option Addr} {c : Nat} {b : List UInt8} {i k : Nat} (h : RR rb w a c b i) (hk : k < b.length) : ∃ g o, a = some ⟨g, o, none⟩ ∧ g ≠ rb ∧ w.cell? ⟨g, o + k, none⟩ = some (.int .u8 ((byt b k).toNat : Int)) := by
  rcases h.2.2.2.2 with rfl | ⟨g, o, h1, h2, _, h4⟩
  · simp at hk
  · exact ⟨g, o, h1, h2, h4 k hk⟩
/-- how a reading function ends -/
def pcEnd {α : Type} (r : Pc α) (rb : Nat) (w w' : World) (a : Option Addr) (c : Nat) (b : List UInt8) (val : α → Value) (e : Ending) : Prop :=
  Besides rb w w' ∧ match r with
    | .ok x j => e = .returned (val x) ∧ RR rb w' a c b j
    | .bad p er => e = pnc p er
theorem pcEnd.ok {α : Type} {r : Pc α} {rb : Nat} {w w' : World} {a : Option Addr} {c : Nat} {b : List UInt8} {val : α → Value} {x : α} {j : Nat} (h : r = .ok x j) (h1 : Besides rb w w') (h2 : RR rb w' a c b j) : pcEnd r rb w w' a c b val (.returned (val x)) := by
  subst h; exact ⟨h1, rfl, h2⟩
theorem pcEnd.bad {α : Type} {r : Pc α} {rb : Nat} {w w' : World} {a : Option Addr} {c : Nat} {b : List UInt8} {val : α → Value} {p : Nat} {er : Int} (h : r = .bad p er) (h1 : Besides rb w w') : pcEnd r rb w w' a c b val (pnc p er) := by
  subst h; exact ⟨h1, rfl⟩
theorem pcEnd.cases {α : Type} {r : Pc α} {rb : Nat} {w w' : World} {a : Option Addr} {c : Nat} {b : List UInt8} {val : α → Value} {e : Ending} (h : pcEnd r rb w w' a c b val e) :
    Besides rb w w' ∧ ((∃ x j, r = .ok x j ∧ e = .returned (val x) ∧ RR rb w' a c b j) ∨ ∃ p er, r = .bad p er ∧ e = pnc p er) := by
  refine ⟨h.1, ?_⟩
  have h2 := h.2
  cases r with
  | ok x j => exact .inl ⟨x, j, rfl, h2⟩
  | bad p er => exact .inr ⟨p, er, rfl, h2⟩
theorem digs_ok {b : List UInt8} {en : UInt8} {i j : Nat} {d : List UInt8} (h : digs b en i = .ok d j) : d = cut b i (i + run b i) ∧ j = i + run b i + 1 ∧ 0 < run b i ∧ i + run b i < b.length ∧ byt b (i + run b i) = en := by
  unfold digs at h
  split at h
  · cases h
  · split at h
    · cases h
    · rename_i h1 h2
      cases h
      refine ⟨rfl, rfl, ?_, by omega, ?_⟩
      · rcases Nat.eq_zero_or_pos (run b i) with h0 | h0
        · exact absurd (.inl h0) h2
        · exact h0
      · by_cases e : byt b (i + run b i) = en
        · exact e
        · exact absurd (.inr e) h2
theorem digs_len {b : List UInt8} {en : UInt8} {i j : Nat} {d : List UInt8} (h : digs b en i = .ok d j) : d.length = run b i ∧ ∀ k, k < d.length → dig (byt d k) = true := by
  obtain ⟨rfl, _, h1, h2, _⟩ := digs_ok h
  have hl : (cut b i (i + run b i)).length = run b i := by rw [cut_length (by omega)]; omega
  refine ⟨hl, fun k hk => ?_⟩
  rw [byt_cut (by omega)]
  exact (run_lt (by omega)).2
theorem dig_iff (c : UInt8) : dig c = true ↔ 48 ≤ c.toNat ∧ c.toNat ≤ 57 := by
  unfold dig
  simp [UInt8.le_iff_toNat_le]
theorem atoi_nonneg {d : List UInt8} {v : Int} (hd : dig (byt d 0) = true) (h : Lib.atoiAll d = .ok v) : 0 ≤ v := by
  cases d with
  | nil => cases h
  | cons x l =>
    have hx : dig x = true := hd
    rw [dig_iff] at hx
    unfold Lib.atoiAll at h
    dsimp only at h
    rw [if_neg (by omega)] at h
    split at h
    · cases h
    · cases h
    · rename_i u _
      have h45 : ¬ x.toNat = 45 := by omega
      simp only [h45, not_false_eq_true, true_and, false_and, if_false] at h
      split at h
      · cases h
      · cases h; omega
end Go.Proofs.YtdlnnnlmlaploaaDoor
