import Derived.Test.YtdchckelnccepaaDoorZ1
import Derived.Test.YtdchckelnccepaaDoorEqRef
import Derived.Test.YtdchckelnccepaaDoorCopy
import Derived.Lib.Bytealg
import Derived.Laws.Externs
namespace Go.Proofs.YtdchckelnccepaaDoor
open Go.RowKit Go.Deep
def pp (s : ByteArray) (t : T) (x y : Value) : Value := .agg #[.string s, .int .i64 t.k, .int .i64 t.n, .string t.s, x, y]
def cmpB (a b : ByteArray) : Int := Lib.compareBytes a.data.toList b.data.toList
theorem less_trans : ∀ x y z : List UInt8, Op.bytesLess x y = true → Op.bytesLess y z = true → Op.bytesLess x z = true
  | _, [], _ => by intro h; simp [Op.bytesLess] at h
  | _, _ :: _, [] => by intro _ h; simp [Op.bytesLess] at h
  | [], _ :: _, _ :: _ => by intro _ _; rfl
  | a :: x, b :: y, c :: z => by
    intro h1 h2
    have ih := less_trans x y z
    simp only [Op.bytesLess, Bool.or_eq_true, decide_eq_true_eq, Bool.and_eq_true, beq_iff_eq] at h1 h2 ⊢
    rcases h1 with h1 | ⟨rfl, h1⟩
    · rcases h2 with h2 | ⟨rfl, h2⟩
      · exact .inl (UInt8.lt_trans h1 h2)
      · exact .inl h1
    · rcases h2 with h2 | ⟨rfl, h2⟩
      · exact .inl h2
      · exact .inr ⟨rfl, ih h1 h2⟩
theorem cmp_less : ∀ x y : List UInt8, (Lib.compareBytes x y < 0 ↔ Op.bytesLess x y = true) ∧ (Lib.compareBytes x y = 0 ↔ x = y)
  | [], [] => by simp [Lib.compareBytes, Op.bytesLess]
  | [], b :: y => by simp [Lib.compareBytes, Op.bytesLess]
  | a :: x, [] => by simp [Lib.compareBytes, Op.bytesLess]
  | a :: x, b :: y => by
    have ih := cmp_less x y
    unfold Lib.compareBytes
    simp only [Op.bytesLess]
    rcases Nat.lt_trichotomy a.toNat b.toNat with h | h | h
    · have h1 : a < b := UInt8.lt_iff_toNat_lt.2 h
      have h3 : ¬ a = b := fun hc => by subst hc; omega
      simp [h1, h3]
    · have h1 : a = b := UInt8.toNat_inj.1 h
      subst h1
      have h2 : ¬ (a < a) := fun hc => by have := UInt8.lt_iff_toNat_lt.1 hc; omega
      simp only [h2, if_false, decide_false, Bool.false_or, beq_self_eq_true, Bool.true_and, List.cons.injEq, true_and]
      exact ih
    · have h1 : b < a := UInt8.lt_iff_toNat_lt.2 h
      have h2 : ¬ a < b := fun hc => by have := UInt8.lt_iff_toNat_lt.1 hc; omega
      have h3 : ¬ a = b := fun hc => by subst hc; omega
      simp [h1, h2, h3]
theorem cmpB_lt (a b : ByteArray) : cmpB a b < 0 ↔ Op.bytesLess a.toList b.toList = true := by unfold cmpB; rw [ByteArray.toList_eq, ByteArray.toList_eq]; exact (cmp_less _ _).1
theorem cmpB_eq (a b : ByteArray) : cmpB a b = 0 ↔ a.toList = b.toList := by unfold cmpB; rw [ByteArray.toList_eq, ByteArray.toList_eq]; exact (cmp_less _ _).2
/-- the keys rise -/
def Rise (ky : Nat → ByteArray) (dn : Nat) : Prop := ∀ p q, p < q → q < dn → Op.bytesLess (ky p).toList (ky q).toList = true
theorem rise_of_good {ky : Nat → ByteArray} {dn : Nat} (h : ∀ i, i < dn → keyBad ky i = false) : Rise ky dn := by
  have one : ∀ p, p + 1 < dn → Op.bytesLess (ky p).toList (ky (p + 1)).toList = true := fun p hp => by
    have h1 := h (p + 1) hp
    have h2 := bytes_tri (ky (p + 1)).toList (ky p).toList
    rw [show (Op.bytesLess (ky (p + 1)).toList (ky p).toList || (ky (p + 1)).toList == (ky p).toList) = false from h1] at h2
    simpa using h2
  intro p q hpq
  induction q with
  | zero => omega
  | succ q ih =>
    intro hq
    by_cases e : p = q
    · subst e; exact one p hq
    · exact less_trans _ _ _ (ih (by omega) (by omega)) (one q hq)
/-- where a key stands among the others, or would stand -/
def At (ky : Nat → ByteArray) (dn : Nat) (key : ByteArray) (at' : Nat) : Prop :=
  at' ≤ dn ∧ (∀ p, p < at' → Op.bytesLess (ky p).toList key.toList = true) ∧ (∀ p, at' ≤ p → p < dn → Op.bytesLess (ky p).toList key.toList = false)
theorem at_low {ky : Nat → ByteArray} {dn h : Nat} {key : ByteArray} (hr : Rise ky dn) (hh : h < dn) (hl : Op.bytesLess (ky h).toList key.toList = true) : ∀ p, p < h + 1 → Op.bytesLess (ky p).toList key.toList = true := by
  intro p hp
  by_cases e : p = h
  · subst e; exact hl
  · exact less_trans _ _ _ (hr p h (by omega) hh) hl
theorem at_high {ky : Nat → ByteArray} {dn h : Nat} {key : ByteArray} (hr : Rise ky dn) (hl : Op.bytesLess (ky h).toList key.toList = false) : ∀ p, h ≤ p → p < dn → Op.bytesLess (ky p).toList key.toList = false := by
  intro p hp hpd
  by_cases e : p = h
  · subst e; exact hl
  · cases hc : Op.bytesLess (ky p).toList key.toList with
    | false => rfl
    | true => rw [less_trans _ _ _ (hr h p (by omega) hpd) hc] at hl; cases hl
set_option maxHeartbeats 400000 in
theorem comp40 (a b : ByteArray) (w : World) :
    Calls Tryd.prog 60 #[.string a, .string b] w fun e w' => e = .returned (.int .i64 (cmpB a b)) ∧ w' = w := by
  go_enter Tryd.func60, Tryd.ntmps60
  go_wp2_with fail
  rw [run_callFunc_extern Tryd.func63 (by kernel_rfl) (by kernel_rfl) (by kernel_rfl) (e := Extern.BytealgCompare.compare) (by kernel_rfl), Lib.run_compareString]
  simp only [Result.andThen]
  rw [Oper.upon_value]
  go_wp2
  go_ret
  exact ⟨rfl, rfl⟩
set_option maxHeartbeats 400000 in
theorem comp36 (a b : ByteArray) (w : World) :
    Calls Tryd.prog 54 #[.string a, .string b] w fun e w' => e = .returned (.int .i64 (cmpB a b)) ∧ w' = w := by
  go_enter Tryd.func54, Tryd.ntmps54
  go_wp2_with fail
  refine (comp40 a b w).mono ?_
  rintro e w' ⟨rfl, rfl⟩
  go_wp2
  go_ret
  exact ⟨rfl, rfl⟩
end Go.Proofs.YtdchckelnccepaaDoor
