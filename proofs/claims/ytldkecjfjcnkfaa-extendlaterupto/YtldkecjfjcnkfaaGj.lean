import Derived.Test.YtldkecjfjcnkfaaGg
namespace Go.Proofs.Ytldkecjfjcnkfaa
open Go.RowKit Go.Deep
def orI (a b : Int) : Int := if a = 0 then b else a
def orS (a b : ByteArray) : ByteArray := if a.toList = [] then b else a
set_option maxHeartbeats 2000000 in
theorem Or36 (g c : Nat) (a b : Int) (w : World) (h0 : w.cell? ⟨g, 0, none⟩ = some (.int .i64 a)) (h1 : w.cell? ⟨g, 1, none⟩ = some (.int .i64 b)) : Calls Try.prog 36 #[.slice (some ⟨g, 0, none⟩) 2 c] w fun e w' => e = .returned (.int .i64 (orI a b)) ∧ w' = w := by
  go_enter Try.func36, Try.ntmps36
  go_wp2
  go_loopw [8] (fun t wr => ∃ i : Nat, i ≤ 2 ∧ t = .int .i64 i ∧ wr = w ∧ (0 < i → a = 0) ∧ (1 < i → b = 0)) (fun t _ => 2 - (intOf t).toNat)
  case atStart => exact ⟨0, Nat.zero_le _, rfl, rfl, fun h => absurd h (Nat.lt_irrefl _), fun h => absurd h (by omega)⟩
  case round =>
    obtain ⟨i, hi, rfl, rfl, ha, hb⟩ := hrel
    obtain rfl | rfl | rfl : i = 0 ∨ i = 1 ∨ i = 2 := by omega
    · by_cases h : a = 0
      · subst h
        clear ha hb
        go_wp2
        exact ⟨⟨1, by omega, by go_num, by simp, by simp, by simp⟩, by simp [intOf]⟩
      · clear ha hb
        go_wp2
        go_ret
        exact ⟨by simp [orI, h], rfl⟩
    · have ha0 : a = 0 := ha (by omega)
      subst ha0
      clear ha hb
      by_cases h : b = 0
      · subst h
        go_wp2
        exact ⟨⟨2, by omega, by go_num, by simp, by simp, by simp⟩, by simp [intOf]⟩
      · go_wp2
        go_ret
        exact ⟨by simp [orI], rfl⟩
    · have ha0 : a = 0 := ha (by omega)
      have hb0 : b = 0 := hb (by omega)
      subst ha0 hb0
      clear ha hb
      go_wp2
      go_ret
      exact ⟨by simp [orI], rfl⟩
set_option maxHeartbeats 2000000 in
theorem Or37 (g c : Nat) (a b : ByteArray) (w : World) (h0 : w.cell? ⟨g, 0, none⟩ = some (.string a)) (h1 : w.cell? ⟨g, 1, none⟩ = some (.string b)) : Calls Try.prog 37 #[.slice (some ⟨g, 0, none⟩) 2 c] w fun e w' => (∃ s, e = .returned (.string s) ∧ s.toList = (orS a b).toList) ∧ w' = w := by
  go_enter Try.func37, Try.ntmps37
  go_wp2
  go_loopw [8] (fun t wr => ∃ i : Nat, i ≤ 2 ∧ t = .int .i64 i ∧ wr = w ∧ (0 < i → a.toList = []) ∧ (1 < i → b.toList = [])) (fun t _ => 2 - (intOf t).toNat)
  case atStart => exact ⟨0, Nat.zero_le _, rfl, rfl, fun h => absurd h (Nat.lt_irrefl _), fun h => absurd h (by omega)⟩
  case round =>
    obtain ⟨i, hi, rfl, rfl, ha, hb⟩ := hrel
    obtain rfl | rfl | rfl : i = 0 ∨ i = 1 ∨ i = 2 := by omega
    · by_cases h : a.toList = []
      · have HA := Lib.hid h
        clear ha hb
        go_wp2
        exact ⟨⟨1, by omega, by go_num, by simp, fun _ => HA.out, by simp⟩, by simp [intOf]⟩
      · clear ha hb
        have HA := Lib.hid h
        have hq : a.toList.isEmpty = false := by cases hx : a.toList with
          | nil => exact absurd hx h
          | cons _ _ => rfl
        go_wp2
        go_ret
        exact ⟨⟨a, rfl, by rw [orS, if_neg HA.out]⟩, rfl⟩
    · have HA := Lib.hid (ha (by omega))
      clear ha hb
      by_cases h : b.toList = []
      · have HB := Lib.hid h
        go_wp2
        exact ⟨⟨2, by omega, by go_num, by simp, fun _ => HA.out, fun _ => HB.out⟩, by simp [intOf]⟩
      · have hq : b.toList.isEmpty = false := by cases hx : b.toList with
          | nil => exact absurd hx h
          | cons _ _ => rfl
        go_wp2
        go_ret
        exact ⟨⟨b, rfl, by rw [orS, if_pos HA.out]⟩, rfl⟩
    · have HA := Lib.hid (ha (by omega))
      have HB := Lib.hid (hb (by omega))
      clear ha hb
      go_wp2
      go_ret
      exact ⟨⟨_, rfl, by rw [orS, if_pos HA.out, HB.out, ByteArray.toList_eq]⟩, rfl⟩
set_option maxHeartbeats 1000000 in
theorem nameOf35 (s : ByteArray) (i : Int) (w : World) : Calls Try.prog 35 #[.agg #[.string s, .int .i64 i]] w fun e w' => e = .returned (.string s) ∧ Below w.heap.size w w' := by
  go_enter Try.func35, Try.ntmps35
  go_wp2
  go_ret
  exact ⟨rfl, (Below.refl _ _).alloc (Nat.le_refl _) _⟩
set_option maxHeartbeats 1000000 in
theorem keyOf40 (e : PE) (w : World) : Calls Try.prog 40 #[.agg (gC e).toArray] w fun en w' => en = .returned (.string e.key) ∧ Below w.heap.size w w' := by
  obtain ⟨key, t, x, y⟩ := e
  show Calls Try.prog 40 #[.agg #[.string key, .int .i64 t.k, .int .i64 t.n, .string t.s, x, y]] w _
  go_enter Try.func40, Try.ntmps40
  go_wp2
  go_ret
  exact ⟨rfl, (Below.refl _ _).alloc (Nat.le_refl _) _⟩
end Go.Proofs.Ytldkecjfjcnkfaa
