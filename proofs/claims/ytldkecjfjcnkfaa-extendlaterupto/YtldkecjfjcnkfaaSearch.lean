import Derived.Test.YtldkecjfjcnkfaaWalk
import Derived.Test.YtldkecjfjcnkfaaEqRef
import Derived.Test.YtldkecjfjcnkfaaCopy
import Derived.Lib.Bytealg
import Derived.Laws.Externs
namespace Go.Proofs.Ytldkecjfjcnkfaa
open Go.RowKit Go.Deep
def pp (s : ByteArray) (t : T) (x y : Value) : Value := .agg #[.string s, .int .i64 t.k, .int .i64 t.n, .string t.s, x, y]
def cmpB (a b : ByteArray) : Int := Lib.compareBytes a.data.toList b.data.toList
theorem less_trans : ∀ x y z : List UInt8, Op.bytesLess x y = true → Op.bytesLess y z = true → Op.bytesLess x z = true
  | _, [], _ => by intro h; simp [Op.bytesLess] at h
  | _, _ :: _, [] => by intro _ h; simp [Op.bytesLess] at h
  | [], _ :: _, _ :: _ => by intro _ _; rfl
  | a :: x, b :: y, c :: z => by
    intro h1 h2
    have ih := less_trans x y z
    simp only [Op.bytesLess, Bool.or_eq_true, decide_eq_true_eq, Bool.and_eq_true, beq_iff_eq] at h1 h2 ⊢
    rcases h1 with h1 | ⟨rfl, h1⟩
    · rcases h2 with h2 | ⟨rfl, h2⟩
      · exact .inl (UInt8.lt_trans h1 h2)
      · exact .inl h1
    · rcases h2 with h2 | ⟨rfl, h2⟩
      · exact .inl h2
      · exact .inr ⟨rfl, ih h1 h2⟩
theorem cmp_less : ∀ x y : List UInt8, (Lib.compareBytes x y < 0 ↔ Op.bytesLess x y = true) ∧ (Lib.compareBytes x y = 0 ↔ x = y)
  | [], [] => by simp [Lib.compareBytes, Op.bytesLess]
  | [], b :: y => by simp [Lib.compareBytes, Op.bytesLess]
  | a :: x, [] => by simp [Lib.compareBytes, Op.bytesLess]
  | a :: x, b :: y => by
    have ih := cmp_less x y
    unfold Lib.compareBytes
    simp only [Op.bytesLess]
    rcases Nat.lt_trichotomy a.toNat b.toNat with h | h | h
    · have h1 : a < b := UInt8.lt_iff_toNat_lt.2 h
      have h3 : ¬ a = b := fun hc => by subst hc; omega
      simp [h1, h3]
    · have h1 : a = b := UInt8.toNat_inj.1 h
      subst h1
      have h2 : ¬ (a < a) := fun hc => by have := UInt8.lt_iff_toNat_lt.1 hc; omega
      simp only [h2, if_false, decide_false, Bool.false_or, beq_self_eq_true, Bool.true_and, List.cons.injEq, true_and]
      exact ih
    · have h1 : b < a := UInt8.lt_iff_toNat_lt.2 h
      have h2 : ¬ a < b := fun hc => by have := UInt8.lt_iff_toNat_lt.1 hc; omega
      have h3 : ¬ a = b := fun hc => by subst hc; omega
      simp [h1, h2, h3]
theorem cmpB_lt (a b : ByteArray) : cmpB a b < 0 ↔ Op.bytesLess a.toList b.toList = true := by unfold cmpB; rw [ByteArray.toList_eq, ByteArray.toList_eq]; exact (cmp_less _ _).1
theorem cmpB_eq (a b : ByteArray) : cmpB a b = 0 ↔ a.toList = b.toList := by unfold cmpB; rw [ByteArray.toList_eq, ByteArray.toList_eq]; exact (cmp_less _ _).2
/-- the keys rise -/
def Rise (ky : Nat → ByteArray) (dn : Nat) : Prop := ∀ p q, p < q → q < dn → Op.bytesLess (ky p).toList (ky q).toList = true
theorem rise_of_good {ky : Nat → ByteArray} {dn : Nat} (h : ∀ i, i < dn → keyBad ky i = false) : Rise ky dn := by
  have one : ∀ p, p + 1 < dn → Op.bytesLess (ky p).toList (ky (p + 1)).toList = true := fun p hp => by
    have h1 := h (p + 1) hp
    have h2 := bytes_tri (ky (p + 1)).toList (ky p).toList
    rw [show (Op.bytesLess (ky (p + 1)).toList (ky p).toList || (ky (p + 1)).toList == (ky p).toList) = false from h1] at h2
    simpa using h2
  intro p q hpq
  induction q with
  | zero => omega
  | succ q ih =>
    intro hq
    by_cases e : p = q
    · subst e; exact one p hq
    · exact less_trans _ _ _ (ih (by omega) (by omega)) (one q hq)
/-- where a key stands among the others, or would stand -/
def At (ky : Nat → ByteArray) (dn : Nat) (key : ByteArray) (at' : Nat) : Prop :=
  at' ≤ dn ∧ (∀ p, p < at' → Op.bytesLess (ky p).toList key.toList = true) ∧ (∀ p, at' ≤ p → p < dn → Op.bytesLess (ky p).toList key.toList = false)
theorem at_low {ky : Nat → ByteArray} {dn h : Nat} {key : ByteArray} (hr : Rise ky dn) (hh : h < dn) (hl : Op.bytesLess (ky h).toList key.toList = true) : ∀ p, p < h + 1 → Op.bytesLess (ky p).toList key.toList = true := by
  intro p hp
  by_cases e : p = h
  · subst e; exact hl
  · exact less_trans _ _ _ (hr p h (by omega) hh) hl
theorem at_high {ky : Nat → ByteArray} {dn h : Nat} {key : ByteArray} (hr : Rise ky dn) (hl : Op.bytesLess (ky h).toList key.toList = false) : ∀ p, h ≤ p → p < dn → Op.bytesLess (ky p).toList key.toList = false := by
  intro p hp hpd
  by_cases e : p = h
  · subst e; exact hl
  · cases hc : Op.bytesLess (ky p).toList key.toList with
    | false => rfl
    | true => rw [less_trans _ _ _ (hr h p (by omega) hpd) hc] at hl; cases hl
set_option maxHeartbeats 400000 in
theorem comp40 (a b : ByteArray) (w : World) :
    Calls Try.prog 82 #[.string a, .string b] w fun e w' => e = .returned (.int .i64 (cmpB a b)) ∧ w' = w := by
  go_enter Try.func82, Try.ntmps82
  go_wp2_with fail
  rw [run_callFunc_extern Try.func84 (by kernel_rfl) (by kernel_rfl) (by kernel_rfl) (e := Extern.BytealgCompare.compare) (by kernel_rfl), Lib.run_compareString]
  simp only [Result.andThen]
  rw [Oper.upon_value]
  go_wp2
  go_ret
  exact ⟨rfl, rfl⟩
set_option maxHeartbeats 400000 in
theorem comp36 (a b : ByteArray) (w : World) :
    Calls Try.prog 75 #[.string a, .string b] w fun e w' => e = .returned (.int .i64 (cmpB a b)) ∧ w' = w := by
  go_enter Try.func75, Try.ntmps75
  go_wp2_with fail
  refine (comp40 a b w).mono ?_
  rintro e w' ⟨rfl, rfl⟩
  go_wp2
  go_ret
  exact ⟨rfl, rfl⟩
set_option maxHeartbeats 400000 in
theorem lit35 (s key : ByteArray) (t : T) (x y : Value) (w : World) :
    Calls Try.prog 74 #[pp s t x y, .string key] w fun e w' => e = .returned (.int .i64 (cmpB s key)) ∧ Below w.heap.size w w' := by
  unfold pp
  go_enter Try.func74, Try.ntmps74
  go_wp2_with fail
  refine (comp36 s key _).mono ?_
  rintro e w' ⟨rfl, rfl⟩
  go_wp2
  go_ret
  exact ⟨rfl, (Below.refl _ _).alloc (Nat.le_refl _) _⟩
set_option maxHeartbeats 2000000 in
theorem bs34 (dn : Nat) (ky : Nat → ByteArray) (dv : Nat → T) (y : Value) (key : ByteArray) (w : World) (hr : RD (fun _ => True) w dn ky dv y) (hri : Rise ky dn) (hdn : dn ≤ 140737488351232) :
    Calls Try.prog 73 #[y, .string key, .func (Fn.func 74) #[] #[]] w fun e w' => ∃ (at' : Nat) (f : Bool), e = .returned (.tuple #[.int .i64 at', .bool f]) ∧ At ky dn key at' ∧ (f = true ↔ at' < dn ∧ (ky at').toList = key.toList) ∧ Below w.heap.size w w' := by
  obtain ⟨a, ca, rfl, hD⟩ := hr
  have HD : Hid (dn = 0 ∨ ∃ b o, a = some ⟨b, o, none⟩ ∧ True ∧ b < w.heap.size ∧ ∀ i, i < dn → ∃ x' y', RV (fun _ => True) w (dv i) x' y' ∧ w.cell? ⟨b, o + i * 6, none⟩ = some (.string (ky i)) ∧ five w b (o + i * 6 + 1) (dv i) x' y') := hD
  have HR : Hid (Rise ky dn) := hri
  clear hD hri
  go_enter Try.func73, Try.ntmps73
  go_wp2
  go_loopw [9, 10] (fun i j wr => ∃ lo hi : Nat, lo ≤ hi ∧ hi ≤ dn ∧ i = .int .i64 lo ∧ j = .int .i64 hi ∧ Hid ((∀ p, p < lo → Op.bytesLess (ky p).toList key.toList = true) ∧ (∀ p, hi ≤ p → p < dn → Op.bytesLess (ky p).toList key.toList = false) ∧ Below w.heap.size w wr)) (fun i j _ => (intOf j - intOf i).toNat)
  case atStart => exact ⟨0, dn, Nat.zero_le _, Nat.le_refl _, rfl, rfl, fun p hp => absurd hp (Nat.not_lt_zero _), fun p h1 h2 => absurd h2 (by omega), Below.refl _ _⟩
  case round =>
    obtain ⟨lo, hi, h1, h2, rfl, rfl, hinv⟩ := hrel
    by_cases hlt : lo < hi
    · rcases HD.out with h | ⟨b, o, rfl, _, hbl, hD⟩
      · omega
      obtain ⟨m, hm⟩ : ∃ m, m = (lo + hi) / 2 := ⟨_, rfl⟩
      have hm1 : m < dn := by omega
      obtain ⟨x1, y1, hv, g0, g1, g2, g3, g4, g5⟩ := hD m hm1
      have hle : w.heap.size ≤ w.heap.size := Nat.le_refl _
      have hw := hinv.out.2.2
      replace g0 := Below.cellS hw hle g0
      replace g1 := Below.cellS hw hle g1
      replace g2 := Below.cellS hw hle g2
      replace g3 := Below.cellS hw hle g3
      replace g4 := Below.cellS hw hle g4
      replace g5 := Below.cellS hw hle g5
      have hmI : ((lo : Int) + (hi : Int)) / 2 = (m : Int) := by omega
      have hm2 : lo ≤ m := by omega
      have hm3 : m < hi := by omega
      have HB : Hid (Below w.heap.size w wr) := hw
      clear hD hv hbl hle hw hm
      go_wp2_with fail
      refine (lit35 (ky m) key (dv m) x1 y1 wr).mono ?_
      rintro e w1 ⟨rfl, hb1⟩
      have HB1 : Hid (Below w.heap.size w w1) := HB.out.trans (hb1.mono HB.out.size)
      clear g0 g1 g2 g3 g4 g5 hb1 HB
      by_cases hl : cmpB (ky m) key < 0
      · have HT : Hid (Op.bytesLess (ky m).toList key.toList = true) := (cmpB_lt _ _).1 hl
        generalize cmpB (ky m) key = q at *
        go_wp2
        go_roundw
        case rel => exact ⟨m + 1, hi, by omega, h2, by go_num, rfl, at_low HR.out hm1 HT.out, hinv.out.2.1, HB1.out⟩
        case measure => simp [intOf]; omega
      · have HT : Hid (Op.bytesLess (ky m).toList key.toList = false) := by
          show _ = false
          cases hc : Op.bytesLess (ky m).toList key.toList with
          | false => rfl
          | true => exact absurd ((cmpB_lt _ _).2 hc) hl
        generalize cmpB (ky m) key = q at *
        go_wp2
        go_roundw
        case rel => exact ⟨lo, m, hm2, by omega, rfl, rfl, hinv.out.1, at_high HR.out HT.out, HB1.out⟩
        case measure => simp [intOf]; omega
    · obtain rfl : lo = hi := by omega
      by_cases hlo : lo < dn
      · rcases HD.out with h | ⟨b, o, rfl, _, hbl, hD⟩
        · omega
        obtain ⟨x1, y1, hv, g0, g1, g2, g3, g4, g5⟩ := hD lo hlo
        have hle : w.heap.size ≤ w.heap.size := Nat.le_refl _
        have hw := hinv.out.2.2
        replace g0 := Below.cellS hw hle g0
        replace g1 := Below.cellS hw hle g1
        replace g2 := Below.cellS hw hle g2
        replace g3 := Below.cellS hw hle g3
        replace g4 := Below.cellS hw hle g4
        replace g5 := Below.cellS hw hle g5
        have HB : Hid (Below w.heap.size w wr) := hw
        clear hD hv hbl hle hw
        go_wp2_with fail
        refine (lit35 (ky lo) key (dv lo) x1 y1 wr).mono ?_
        rintro e w1 ⟨rfl, hb1⟩
        have HB1 : Hid (Below w.heap.size w w1) := HB.out.trans (hb1.mono HB.out.size)
        have HT : Hid (cmpB (ky lo) key = 0 ↔ (ky lo).toList = key.toList) := cmpB_eq _ _
        clear g0 g1 g2 g3 g4 g5 hb1 HB
        generalize cmpB (ky lo) key = q at *
        go_wp2
        go_ret2
        refine ⟨lo, _, rfl, ⟨by omega, hinv.out.1, hinv.out.2.1⟩, ?_, HB1.out⟩
        rw [← HT.out]
        simp [hlo]
      · go_wp2
        go_ret2
        exact ⟨lo, false, rfl, ⟨by omega, hinv.out.1, hinv.out.2.1⟩, by simp; omega, hinv.out.2.2⟩
set_option maxHeartbeats 400000 in
theorem search25 (dn : Nat) (ky : Nat → ByteArray) (dv : Nat → T) (y : Value) (key : ByteArray) (w : World) (hr : RD (fun _ => True) w dn ky dv y) (hri : Rise ky dn) (hdn : dn ≤ 140737488351232) :
    Calls Try.prog 60 #[y, .string key] w fun e w' => ∃ (at' : Nat) (f : Bool), e = .returned (.tuple #[.int .i64 at', .bool f]) ∧ At ky dn key at' ∧ (f = true ↔ at' < dn ∧ (ky at').toList = key.toList) ∧ Below w.heap.size w w' := by
  have H1 : Hid (RD (fun _ => True) w dn ky dv y) := hr
  have H2 : Hid (Rise ky dn) := hri
  clear hr hri
  go_enter Try.func60, Try.ntmps60
  go_wp2_with fail
  refine (bs34 dn ky dv y key w H1.out H2.out hdn).mono ?_
  rintro e w1 ⟨at', f, rfl, h1, h2, h3⟩
  have HH : Hid (At ky dn key at' ∧ (f = true ↔ at' < dn ∧ (ky at').toList = key.toList) ∧ Below w.heap.size w w1) := ⟨h1, h2, h3⟩
  clear h1 h2 h3 H1 H2
  go_wp2
  go_ret2
  exact ⟨at', f, rfl, HH.out⟩
end Go.Proofs.Ytldkecjfjcnkfaa
