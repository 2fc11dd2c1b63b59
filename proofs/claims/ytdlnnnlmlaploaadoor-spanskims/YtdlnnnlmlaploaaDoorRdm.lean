import Derived.Test.YtdlnnnlmlaploaaDoorRdn
namespace Go.Proofs.YtdlnnnlmlaploaaDoor
/-! ### Decimal digits -/
def dg (a : Nat) (c : UInt8) : Nat := a * 10 + (c.toNat - 48)
def dval (acc : Nat) (l : List UInt8) : Nat := l.foldl dg acc
def allDig (l : List UInt8) : Prop := ∀ c ∈ l, 48 ≤ c.toNat ∧ c.toNat ≤ 57
theorem dval_cons (acc : Nat) (c : UInt8) (r : List UInt8) : dval acc (c :: r) = dval (acc * 10 + (c.toNat - 48)) r := List.foldl_cons ..
theorem dval_nil (acc : Nat) : dval acc [] = acc := List.foldl_nil ..
theorem dval_snoc (l : List UInt8) (c : UInt8) : ∀ acc, dval acc (l ++ [c]) = dval acc l * 10 + (c.toNat - 48) := by
  induction l with
  | nil => intro acc; rw [List.nil_append, dval_cons, dval_nil, dval_nil]
  | cons x l ih => intro acc; rw [List.cons_append, dval_cons, dval_cons, ih]
theorem dval_ge : ∀ (l : List UInt8) (acc : Nat), acc * 10 ^ l.length ≤ dval acc l
  | [], acc => by rw [dval_nil]; simp
  | c :: l, acc => by
    have h := dval_ge l (acc * 10 + (c.toNat - 48))
    rw [dval_cons, List.length_cons, Nat.pow_succ]
    refine Nat.le_trans ?_ h
    rw [Nat.mul_comm (10 ^ l.length) 10, ← Nat.mul_assoc]
    exact Nat.mul_le_mul_right _ (Nat.le_add_right _ _)
theorem dval_le (l : List UInt8) (acc : Nat) : acc ≤ dval acc l :=
  Nat.le_trans (Nat.le_mul_of_pos_right acc (Nat.pow_pos (by omega))) (dval_ge l acc)
theorem dval_lt : ∀ (l : List UInt8) (acc : Nat), allDig l → dval acc l < (acc + 1) * 10 ^ l.length
  | [], acc, _ => by rw [dval_nil]; simp
  | c :: l, acc, h => by
    have h1 := dval_lt l (acc * 10 + (c.toNat - 48)) (fun x hx => h x (List.mem_cons_of_mem _ hx))
    have h2 := h c (List.mem_cons_self ..)
    rw [dval_cons, List.length_cons]
    refine Nat.lt_of_lt_of_le h1 ?_
    rw [Nat.pow_succ, Nat.mul_comm (10 ^ l.length) 10, ← Nat.mul_assoc]
    exact Nat.mul_le_mul_right _ (by omega)
theorem parse_dval : ∀ (l : List UInt8) (acc : Nat), allDig l → dval acc l < 18446744073709551616 → Lib.parseUint10 acc l = .ok (dval acc l)
  | [], acc, _, _ => by rw [dval_nil]; rfl
  | c :: l, acc, h, hl => by
    have h2 := h c (List.mem_cons_self ..)
    rw [dval_cons] at hl ⊢
    have h3 := hl
    have h4 := dval_le l (acc * 10 + (c.toNat - 48))
    simp only [Lib.parseUint10]
    rw [if_pos h2, if_neg (by omega), if_neg (by omega)]
    exact parse_dval l _ (fun x hx => h x (List.mem_cons_of_mem _ hx)) h3
theorem parse_ok : ∀ (l : List UInt8) (acc u : Nat), Lib.parseUint10 acc l = .ok u → u = dval acc l
  | [], acc, u, h => by simp only [Lib.parseUint10] at h; injection h with h; rw [dval_nil]; exact h.symm
  | c :: l, acc, u, h => by
    simp only [Lib.parseUint10] at h
    split at h
    · split at h
      · cases h
      · split at h
        · cases h
        · rw [dval_cons]; exact parse_ok l _ u h
    · cases h
theorem atoi_pos {d : List UInt8} (hd : allDig d) (hn : d ≠ []) : (dval 0 d < 9223372036854775808 → Lib.atoiAll d = .ok (dval 0 d : Int)) ∧ (9223372036854775808 ≤ dval 0 d → ∀ v, Lib.atoiAll d ≠ .ok v) := by
  cases d with
  | nil => exact absurd rfl hn
  | cons c r =>
    have hc := hd c (List.mem_cons_self ..)
    have e : Lib.atoiAll (c :: r) = match Lib.parseUint10 0 (c :: r) with
      | .«syntax» => .«syntax»
      | .range => .range
      | .ok u => if 9223372036854775808 ≤ u then .range else .ok (u : Int) := by
      unfold Lib.atoiAll
      dsimp only
      rw [if_neg (by omega)]
      unfold Lib.parseMag
      rw [if_neg (by simp)]
      have h45 : ¬ c.toNat = 45 := by omega
      simp only [h45, not_false_eq_true, true_and, false_and, if_false]
      cases Lib.parseUint10 0 (c :: r) <;> rfl
    constructor
    · intro h
      rw [e, parse_dval _ _ hd (by omega)]
      dsimp only
      rw [if_neg (by omega)]
    · intro h v hv
      rw [e] at hv
      cases hp : Lib.parseUint10 0 (c :: r) with
      | «syntax» => rw [hp] at hv; cases hv
      | range => rw [hp] at hv; cases hv
      | ok u =>
        rw [hp] at hv
        have := parse_ok _ _ _ hp
        dsimp only at hv
        rw [if_pos (by omega)] at hv
        cases hv
theorem atoi_neg {d : List UInt8} (hd : allDig d) (hn : d ≠ []) : (dval 0 d ≤ 9223372036854775808 → Lib.atoiAll (45 :: d) = .ok (-(dval 0 d : Int))) ∧ (9223372036854775808 < dval 0 d → ∀ v, Lib.atoiAll (45 :: d) ≠ .ok v) := by
  have e : Lib.atoiAll (45 :: d) = match Lib.parseUint10 0 d with
      | .«syntax» => .«syntax»
      | .range => .range
      | .ok u => if 9223372036854775808 < u then .range else .ok (-(u : Int)) := by
    unfold Lib.atoiAll
    dsimp only
    rw [if_pos (.inr rfl)]
    unfold Lib.parseMag
    rw [if_neg hn]
    have h45 : (45 : UInt8).toNat = 45 := rfl
    simp only [h45, not_true_eq_false, true_and, false_and, if_false, if_true]
    cases Lib.parseUint10 0 d <;> rfl
  constructor
  · intro h
    rw [e, parse_dval _ _ hd (by omega)]
    dsimp only
    rw [if_neg (by omega)]
  · intro h v hv
    rw [e] at hv
    cases hp : Lib.parseUint10 0 d with
    | «syntax» => rw [hp] at hv; cases hv
    | range => rw [hp] at hv; cases hv
    | ok u =>
      rw [hp] at hv
      have := parse_ok _ _ _ hp
      dsimp only at hv
      rw [if_pos (by omega)] at hv
      cases hv
theorem less_dval : ∀ (x y : List UInt8) (a : Nat), allDig x → allDig y → x.length = y.length → ((Op.bytesLess x y || x == y) = true ↔ dval a x ≤ dval a y)
  | [], [], a, _, _, _ => by simp [Op.bytesLess]
  | [], _ :: _, _, _, _, h => by cases h
  | _ :: _, [], _, _, _, h => by cases h
  | c :: x, d :: y, a, hx, hy, hl => by
    have hc := hx c (List.mem_cons_self ..)
    have hd := hy d (List.mem_cons_self ..)
    have hx' : allDig x := fun z hz => hx z (List.mem_cons_of_mem _ hz)
    have hy' : allDig y := fun z hz => hy z (List.mem_cons_of_mem _ hz)
    have hl' : x.length = y.length := by simpa using hl
    have e : (Op.bytesLess (c :: x) (d :: y) || c :: x == d :: y) = (decide (c < d) || (c == d && (Op.bytesLess x y || x == y))) := by
      simp only [Op.bytesLess, List.cons_beq_cons]
      cases decide (c < d) <;> cases (c == d) <;> simp
    rw [e]
    by_cases h1 : c = d
    · subst h1
      have := less_dval x y (a * 10 + (c.toNat - 48)) hx' hy' hl'
      simp only [show decide (c < c) = false from by simp, beq_self_eq_true, Bool.true_and, Bool.false_or]
      rw [dval_cons, dval_cons]
      exact this
    · have h2 : (c == d) = false := by simpa using h1
      rw [h2, Bool.false_and, Bool.or_false]
      rw [dval_cons, dval_cons]
      have l1 := dval_lt x (a * 10 + (c.toNat - 48)) hx'
      have l2 := dval_ge y (a * 10 + (d.toNat - 48))
      have l3 := dval_lt y (a * 10 + (d.toNat - 48)) hy'
      have l4 := dval_ge x (a * 10 + (c.toNat - 48))
      rw [← hl'] at l2 l3
      have hne : c.toNat ≠ d.toNat := fun e => h1 (UInt8.toNat_inj.1 e)
      rw [decide_eq_true_iff, UInt8.lt_iff_toNat_lt]
      constructor
      · intro h
        have : (a * 10 + (c.toNat - 48) + 1) * 10 ^ x.length ≤ (a * 10 + (d.toNat - 48)) * 10 ^ x.length := Nat.mul_le_mul_right _ (by omega)
        omega
      · intro h
        rcases Nat.lt_or_ge c.toNat d.toNat with h5 | h5
        · exact h5
        · have : (a * 10 + (d.toNat - 48) + 1) * 10 ^ x.length ≤ (a * 10 + (c.toNat - 48)) * 10 ^ x.length := Nat.mul_le_mul_right _ (by omega)
          omega
end Go.Proofs.YtdlnnnlmlaploaaDoor
