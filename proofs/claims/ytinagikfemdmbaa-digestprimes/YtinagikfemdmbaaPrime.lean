import Derived.Test.YtinagikfemdmbaaRows
import Derived.WalkKit
import Derived.BigQuiet
import Derived.Deep.QuietTactic
import Derived.WalkLawsBesides
import Derived.WalkSpells
namespace Go.Proofs.Ytinagikfemdmbaa
open Go.RowKit
/-- no divisor from 2 up to itself -/
def isP (c : Nat) : Bool := (List.range c).all fun d => decide (d < 2) || c % d != 0
/-- the primes below -/
def prim : Nat → List Int
  | 0 => []
  | c + 1 => prim c ++ (if 2 ≤ c ∧ isP c = true then [(c : Int)] else [])
/-- what isPrime asks of a list -/
def nodiv (c : Nat) (xs : List Int) : Bool := xs.all fun p => (c : Int) % p != 0
theorem nodiv_prim0 : ∀ c : Fin 312, 2 ≤ c.val → nodiv c.val (prim c.val) = isP c.val := by decide +kernel
theorem nodiv_prim {c : Nat} (h1 : 2 ≤ c) (h2 : c < 312) : nodiv c (prim c) = isP c := nodiv_prim0 ⟨c, h2⟩ h1
theorem prim_312 : (prim 312).length = 64 := by decide +kernel
theorem prim_pos0 : ∀ c : Fin 313, ∀ p ∈ prim c.val, 2 ≤ p ∧ p < 313 := by decide +kernel
theorem prim_pos {c : Nat} (h : c ≤ 312) : ∀ p ∈ prim c, 2 ≤ p ∧ p < 313 := prim_pos0 ⟨c, by omega⟩
theorem prim_2 : prim 2 = [] := by decide
theorem prim_yes {c : Nat} (h : 2 ≤ c) (hp : isP c = true) : prim (c + 1) = prim c ++ [(c : Int)] := by rw [prim, if_pos ⟨h, hp⟩]
theorem prim_no {c : Nat} (hp : isP c = false) : prim (c + 1) = prim c := by rw [prim, if_neg (by simp [hp])]; simp
theorem prim_pre (c d : Nat) : ∃ r, prim (c + d) = prim c ++ r := by
  induction d with
  | zero => exact ⟨[], by simp⟩
  | succ d ih =>
    obtain ⟨r, hr⟩ := ih
    exact ⟨r ++ _, by rw [← Nat.add_assoc, prim, hr, List.append_assoc]⟩
theorem prim_one {c d : Nat} (h : (prim c).length = (prim d).length) : prim c = prim d := by
  rcases Nat.le_total c d with hle | hle
  · obtain ⟨r, hr⟩ := prim_pre c (d - c)
    rw [show c + (d - c) = d by omega] at hr
    rw [hr] at h ⊢
    have : r = [] := List.length_eq_zero_iff.1 (by simp at h; simpa using h)
    simp [this]
  · obtain ⟨r, hr⟩ := prim_pre d (c - d)
    rw [show d + (c - d) = c by omega] at hr
    rw [hr] at h ⊢
    have : r = [] := List.length_eq_zero_iff.1 (by simp at h; simpa using h)
    simp [this]
theorem isP_no {c d : Nat} (h1 : 2 ≤ d) (h2 : d < c) (h : (c : Int) % (d : Int) = 0) : false = isP c := by
  cases hc : isP c with
  | false => rfl
  | true =>
    have := List.all_eq_true.1 hc d (List.mem_range.2 h2)
    simp at this
    omega
theorem isP_yes {c : Nat} (h : ∀ d : Nat, 2 ≤ d → d < c → (c : Int) % (d : Int) ≠ 0) : true = isP c := by
  symm
  refine List.all_eq_true.2 fun d hd => ?_
  have hd := List.mem_range.1 hd
  by_cases h2 : d < 2
  · simp [h2]
  · have := h d (by omega) hd
    simp; right; omega
theorem ret_b {a b : Bool} (h : a = b) : Ending.returned (.bool a) = .returned (.bool b) := by rw [h]
set_option maxHeartbeats 400000 in
theorem prime24 (c : Nat) (w : World) (h1 : 2 ≤ c) (h2 : c < 312) :
    Calls Try.prog 24 #[.int .i64 c] w fun e w' => e = .returned (.bool (isP c)) ∧ w' = w := by
  go_enter Try.func24, Try.ntmps24
  go_wp2
  go_loop [3] (fun t => ∃ d : Nat, 2 ≤ d ∧ d ≤ c ∧ t = .int .i64 d ∧ Hid (∀ e : Nat, 2 ≤ e → e < d → (c : Int) % (e : Int) ≠ 0)) (fun t => c - (intOf t).toNat)
  case atStart => exact ⟨2, Nat.le_refl _, h1, rfl, (fun e h3 h4 => by omega : ∀ e : Nat, 2 ≤ e → e < 2 → (c : Int) % (e : Int) ≠ 0)⟩
  case round =>
    obtain ⟨d, hd1, hd2, rfl, hd⟩ := hrel
    by_cases hlt : d < c
    · by_cases hz : (c : Int) % (d : Int) = 0
      · have hzb : ((c : Int) % (d : Int) == 0) = true := by simp [hz]
        have Hz : Hid ((c : Int) % (d : Int) = 0) := hz
        clear hz
        go_wp2
        go_ret
        exact ⟨ret_b (isP_no hd1 hlt Hz.out), rfl⟩
      · have hzb : ((c : Int) % (d : Int) == 0) = false := by simp [hz]
        have Hz : Hid (∀ e : Nat, 2 ≤ e → e < d + 1 → (c : Int) % (e : Int) ≠ 0) := fun e h3 h4 => by
          by_cases he : e = d
          · rw [he]; exact hz
          · exact hd.out e h3 (by omega)
        clear hz hd
        go_wp2
        go_round
        case rel => exact ⟨d + 1, by omega, by omega, by go_num, Hz⟩
        case measure => simp [intOf]; omega
    · have hdc : d = c := by omega
      subst hdc
      go_wp2
      go_ret
      exact ⟨ret_b (isP_yes hd.out), rfl⟩
/-- the slice v of ints reads as the list xs -/
def ReadsI (w : World) (v : Value) (xs : List Int) : Prop :=
  ∃ a cap, v = .slice a xs.length cap ∧ (xs = [] ∨ ∃ b off, a = some ⟨b, off, none⟩ ∧ b < w.heap.size ∧ ∀ i, i < xs.length → w.cell? ⟨b, off + i, none⟩ = some (.int .i64 (xs.getD i 0)))
theorem nodiv_no {c k : Nat} {xs : List Int} (hk : k < xs.length) (h : (c : Int) % (xs.getD k 0) = 0) : false = nodiv c xs := by
  cases hc : nodiv c xs with
  | false => rfl
  | true =>
    have := List.all_eq_true.1 hc xs[k] (List.getElem_mem hk)
    simp [List.getD, List.getElem?_eq_getElem hk] at this h
    exact absurd h this
theorem nodiv_yes {c : Nat} {xs : List Int} (h : ∀ k, k < xs.length → (c : Int) % (xs.getD k 0) ≠ 0) : true = nodiv c xs := by
  symm
  refine List.all_eq_true.2 fun p hp => ?_
  obtain ⟨k, hk, rfl⟩ := List.getElem_of_mem hp
  have := h k hk
  simp [List.getD, List.getElem?_eq_getElem hk] at this
  simpa using this
set_option maxHeartbeats 400000 in
theorem isPrime23 (c : Nat) (v : Value) (xs : List Int) (w : World) (h1 : 2 ≤ c) (h2 : c < 312) (hl : xs.length ≤ 64) (hpos : ∀ p ∈ xs, 2 ≤ p ∧ p < 313) (hr : ReadsI w v xs) :
    Calls Try.prog 23 #[.int .i64 c, v] w fun e w' => e = .returned (.bool (nodiv c xs)) ∧ w' = w := by
  obtain ⟨a, cap, rfl, hr⟩ := hr
  have HP : Hid (∀ p ∈ xs, 2 ≤ p ∧ p < 313) := hpos
  have HR : Hid (xs = [] ∨ ∃ b off, a = some ⟨b, off, none⟩ ∧ b < w.heap.size ∧ ∀ i, i < xs.length → w.cell? ⟨b, off + i, none⟩ = some (.int .i64 (xs.getD i 0))) := hr
  clear hpos hr
  go_enter Try.func23, Try.ntmps23
  go_wp2
  go_loop [9] (fun t => ∃ k : Nat, k ≤ xs.length ∧ t = .int .i64 k ∧ Hid (∀ e : Nat, e < k → (c : Int) % (xs.getD e 0) ≠ 0)) (fun t => xs.length - (intOf t).toNat)
  case atStart => exact ⟨0, Nat.zero_le _, rfl, (fun e h => by omega : ∀ e : Nat, e < 0 → (c : Int) % (xs.getD e 0) ≠ 0)⟩
  case round =>
    obtain ⟨k, hk, rfl, hd⟩ := hrel
    by_cases hlt : k < xs.length
    · rcases HR.out with hnil | ⟨b, off, rfl, hb, hc⟩
      · rw [hnil] at hlt; simp at hlt
      · have hck := hc k hlt
        have hpk : 2 ≤ xs.getD k 0 ∧ xs.getD k 0 < 313 := by
          have := HP.out xs[k] (List.getElem_mem hlt)
          simpa [List.getD, List.getElem?_eq_getElem hlt] using this
        obtain ⟨hp1, hp2⟩ := hpk
        clear hc hb
        by_cases hz : (c : Int) % (xs.getD k 0) = 0
        · have Hz : Hid (false = nodiv c xs) := nodiv_no hlt hz
          generalize xs.getD k 0 = p at *
          have hzb : ((c : Int) % p == 0) = true := by simp [hz]
          clear hz hd
          go_wp2
          go_ret
          exact ⟨ret_b Hz.out, rfl⟩
        · have Hz : Hid (∀ e : Nat, e < k + 1 → (c : Int) % (xs.getD e 0) ≠ 0) := fun e h4 => by
            by_cases he : e = k
            · rw [he]; exact hz
            · exact hd.out e (by omega)
          clear hd
          generalize xs.getD k 0 = p at hck hp1 hp2 hz
          have hzb : ((c : Int) % p == 0) = false := by simp [hz]
          clear hz
          go_wp2
          go_round
          case rel => exact ⟨k + 1, by omega, by go_num, Hz⟩
          case measure => simp [intOf]; omega
    · have hkl : k = xs.length := by omega
      have Hz : Hid (true = nodiv c xs) := nodiv_yes (fun e he => hd.out e (by omega))
      clear hd
      go_wp2
      go_ret
      exact ⟨ret_b Hz.out, rfl⟩
end Go.Proofs.Ytinagikfemdmbaa
