import Derived.Test.YtjhnkdhbjpddcaaDoorOnesR
import Derived.Deep.QuietTactic
import Derived.BigQuiet
namespace Go.Proofs.YtjhnkdhbjpddcaaDoor
open Go.RowKit
/-- the last run is one place longer -/
def grow (r : List (Nat × Nat)) : List (Nat × Nat) := match r.getLast? with
  | none => []
  | some p => r.dropLast ++ [(p.1, p.2 + 1)]
theorem grow_snoc (r : List (Nat × Nat)) (a b : Nat) : grow (r ++ [(a, b)]) = r ++ [(a, b + 1)] := by unfold grow; simp
theorem grow_len (r : List (Nat × Nat)) : (grow r).length ≤ r.length := by
  unfold grow
  split
  · simp
  · rename_i p hp
    have hne : r ≠ [] := by rintro rfl; simp at hp
    have := List.length_pos_iff.2 hne
    simp; omega
/-- the runs among the first k bits -/
def rs (l : List UInt8) : Nat → List (Nat × Nat)
  | 0 => []
  | k + 1 => if bit l k = true then (if 0 < k ∧ bit l (k - 1) = true then grow (rs l k) else rs l k ++ [(k, 1)]) else rs l k
theorem rs_no {l : List UInt8} {k : Nat} (h : bit l k = false) : rs l (k + 1) = rs l k := by rw [rs, if_neg (by simp [h])]
theorem rs_new {l : List UInt8} {k : Nat} (h : bit l k = true) (h2 : ¬ (0 < k ∧ bit l (k - 1) = true)) : rs l (k + 1) = rs l k ++ [(k, 1)] := by rw [rs, if_pos h, if_neg h2]
theorem rs_more {l : List UInt8} {k : Nat} (h : bit l k = true) (h2 : 0 < k ∧ bit l (k - 1) = true) : rs l (k + 1) = grow (rs l k) := by rw [rs, if_pos h, if_pos h2]
theorem rs_run {l : List UInt8} {i : Nat} (h2 : ¬ (0 < i ∧ bit l (i - 1) = true)) (d : Nat) (h : ∀ j, i ≤ j → j < i + (d + 1) → bit l j = true) : rs l (i + (d + 1)) = rs l i ++ [(i, d + 1)] := by
  induction d with
  | zero => exact rs_new (h i (by omega) (by omega)) h2
  | succ e ih =>
    have := ih (fun j h3 h4 => h j h3 (by omega))
    rw [show i + (e + 1 + 1) = (i + (e + 1)) + 1 by omega, rs_more (h _ (by omega) (by omega)) ⟨by omega, h _ (by omega) (by omega)⟩, this, grow_snoc]
theorem rs_last {l : List UInt8} {k : Nat} (h : bit l k = true) : ∃ r a b, rs l (k + 1) = r ++ [(a, b + 1)] ∧ a + (b + 1) = k + 1 := by
  induction k with
  | zero => exact ⟨[], 0, 0, by rw [rs_new h (by omega)]; rfl, rfl⟩
  | succ k ih =>
    by_cases h2 : bit l k = true
    · obtain ⟨r, a, b, e1, e2⟩ := ih h2
      exact ⟨r, a, b + 1, by rw [rs_more h ⟨by omega, h2⟩, e1, grow_snoc], by omega⟩
    · exact ⟨rs l (k + 1), k + 1, 0, by rw [rs_new h (fun h3 => h2 h3.2)], rfl⟩
theorem rs_len (l : List UInt8) (k : Nat) : (rs l k).length ≤ k := by
  induction k with
  | zero => simp [rs]
  | succ k ih =>
    by_cases h : bit l k = true
    · by_cases h2 : 0 < k ∧ bit l (k - 1) = true
      · rw [rs_more h h2]
        have := grow_len (rs l k)
        omega
      · rw [rs_new h h2]; simp; omega
    · rw [rs_no (by simpa using h)]; omega
/-- runs as cells -/
def flat (r : List (Nat × Nat)) : List Value := r.flatMap fun p => [.int .i64 (p.1 : Int), .int .i64 (p.2 : Int)]
theorem flat_snoc (r : List (Nat × Nat)) (a b : Nat) : flat (r ++ [(a, b)]) = flat r ++ [.int .i64 (a : Int), .int .i64 (b : Int)] := by simp [flat]
theorem flat_len (r : List (Nat × Nat)) : (flat r).length = r.length * 2 := by
  induction r with
  | nil => rfl
  | cons p r ih => simp [flat] at ih ⊢; omega
theorem flat_at (r : List (Nat × Nat)) (k : Nat) (h : k < r.length) : (flat r)[k * 2]? = some (.int .i64 ((r.getD k (0, 0)).1 : Int)) ∧ (flat r)[k * 2 + 1]? = some (.int .i64 ((r.getD k (0, 0)).2 : Int)) := by
  induction r generalizing k with
  | nil => simp at h
  | cons p r ih =>
    cases k with
    | zero => simp [flat]
    | succ k =>
      have := ih k (by simpa using h)
      have e : flat (p :: r) = .int .i64 (p.1 : Int) :: .int .i64 (p.2 : Int) :: flat r := rfl
      rw [e, show (k + 1) * 2 = k * 2 + 1 + 1 by omega, show k * 2 + 1 + 1 + 1 = (k * 2 + 1) + 1 + 1 by omega]
      simpa using this
theorem info60 : (Tryd.prog.info? 55).map (fun i => (i.zero, i.size, i.bytes)) = some (some (.agg #[.int .i64 0, .int .i64 0]), 2, 16) := by kernel_rfl
/-- a list of runs that the call owns -/
def OU (B : Nat) (w : World) (v : Value) (r : List (Nat × Nat)) : Prop := w.ownsRow B 55 2 v r.length (flat r)
theorem OU.form {B : Nat} {w : World} {v : Value} {r : List (Nat × Nat)} (h : OU B w v r) : ∃ a c, v = .slice a r.length c := by
  rcases h.2 with ⟨rfl, h0⟩ | ⟨g, cap, cur, rfl, _⟩
  · exact ⟨none, 0, by rw [h0]⟩
  · exact ⟨_, _, rfl⟩
theorem append_run {ops : Array Oper} {rest : List Oper} {o : Oper} {a : Act} {Q : Exit → Act → World → Prop} {w : World} {B : Nat} {sv : Value} {r : List (Nat × Nat)} (hgd : o.guard = none) (s x : Operand)
    (ho : o.op = .call { callee := .builtin .append, args := #[s, x], argTypes := #[50, 50] }) (hs : a.eval s = sv) (hown : OU B w sv r) (b p q : Nat) (hx : a.eval x = .slice (some ⟨b, 0, none⟩) 1 1)
    (hc : w.cell? ⟨b, 0, none⟩ = some (.int .i64 (p : Int))) (hc2 : w.cell? ⟨b, 1, none⟩ = some (.int .i64 (q : Int))) (hB : B ≤ w.heap.size) (hlim : r.length < 1000000)
    (h : ∀ v' w', OU B w' v' (r ++ [(p, q)]) → Below B w w' → wpList Tryd.prog ops Q rest (a.put o.dst v') w') : wpList Tryd.prog ops Q (o :: rest) a w := by
  obtain ⟨i0, hi, hz0, hz1, hz2⟩ := info_parts info60
  refine wpList_append_own w hgd s x 50 ho B 55 i0 _ 2 16 Tryd.underlying50 hi hz0 hz1 hz2 rfl (by omega) sv r.length (flat r) hs hown ⟨b, 0, none⟩ 1 1 [.int .i64 (p : Int), .int .i64 (q : Int)] hx rfl (fun j u hu => ?_) (fun u hu => ?_) (by unfold maxLen; omega) (by omega) hB (fun v' w' h1 h2 _ => ?_)
  · match j, hu with
    | 0, hu => simp at hu; subst hu; simpa [Addr.add] using hc
    | 1, hu => simp at hu; subst hu; simpa [Addr.add] using hc2
  · simp at hu; rcases hu with rfl | rfl <;> rfl
  · refine h v' w' ?_ ((Below.refl B w).grown h2 hB (fun k hk => (World.ownsRow.lt hown k hk).1))
    unfold OU
    rw [flat_snoc]
    simpa using h1
end Go.Proofs.YtjhnkdhbjpddcaaDoor
