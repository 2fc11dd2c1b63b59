import Derived.Test.YtglknmelcianjaaSy
namespace Go.Proofs.Ytglknmelcianjaa
open Go.RowKit
/-- a list of numbers that is read -/
def RN (w : World) (v : Value) (l : List Nat) : Prop :=
  ∃ a c, v = .slice a l.length c ∧ l.length ≤ c ∧ (l = [] ∨ ∃ g o, a = some ⟨g, o, none⟩ ∧ g < w.heap.size ∧ ∀ i, i < l.length → w.cell? ⟨g, o + i, none⟩ = some (.int .i64 ((l.getD i 0 : Nat) : Int)))
theorem RN.keep {w w' : World} {v : Value} {l : List Nat} (h : RN w v l) (hb : Below w.heap.size w w') : RN w' v l := by
  obtain ⟨a, c, e, hle, h⟩ := h
  refine ⟨a, c, e, hle, ?_⟩
  rcases h with h | ⟨g, o, h1, h2, h3⟩
  · exact .inl h
  · exact .inr ⟨g, o, h1, Nat.lt_of_lt_of_le h2 hb.size, fun i hi => (World.cell?_of_block (w := w) (hb.block g h2)).trans (h3 i hi)⟩
theorem rn_of {w : World} {B : Nat} {v : Value} {ws : List Wt} (h : w.ownsRow B 3 1 v ws.length (ws.map fun x => Value.int .i64 x.at_)) : RN w v (ws.map (·.at_)) := by
  rcases h.2 with ⟨rfl, h0⟩ | ⟨g, c, cur, rfl, _, hg, hle, _, hs, hx⟩
  · have : ws = [] := List.length_eq_zero_iff.1 h0
    subst this
    exact ⟨none, 0, rfl, Nat.le_refl _, .inl rfl⟩
  · refine ⟨_, c, by rw [List.length_map], by rw [List.length_map]; exact hle, .inr ⟨g, 0, rfl, (Array.getElem?_eq_some_iff.1 hg).1, fun i hi => ?_⟩⟩
    rw [List.length_map] at hi
    rw [Nat.mul_one] at hx
    rw [Nat.zero_add]
    simp only [World.cell?, hg]
    have h1 : (ws.map fun x => Value.int .i64 (x.at_ : Int))[i]? = some (.int .i64 (((ws.map (·.at_)).getD i 0 : Nat) : Int)) := by
      simp [List.getD, hi]
    rw [← hx, List.getElem?_take_of_lt hi] at h1
    simpa using h1
set_option maxHeartbeats 400000 in
/-- two lists that are the same -/
theorem intsame (v1 v2 : Value) (l : List Nat) (w : World) (hl : l.length ≤ 1073741824) (h1 : RN w v1 l) (h2 : RN w v2 l) :
    Calls Try.prog 22 #[v1, v2] w fun e w' => e = .returned (.bool true) ∧ ∃ n, w' = w.drewN n := by
  obtain ⟨a1, c1, rfl, _, h1⟩ := h1
  obtain ⟨a2, c2, rfl, _, h2⟩ := h2
  have HH : Hid ((l = [] ∨ ∃ g o, a1 = some ⟨g, o, none⟩ ∧ g < w.heap.size ∧ ∀ i, i < l.length → w.cell? ⟨g, o + i, none⟩ = some (.int .i64 ((l.getD i 0 : Nat) : Int))) ∧
     (l = [] ∨ ∃ g o, a2 = some ⟨g, o, none⟩ ∧ g < w.heap.size ∧ ∀ i, i < l.length → w.cell? ⟨g, o + i, none⟩ = some (.int .i64 ((l.getD i 0 : Nat) : Int)))) := ⟨h1, h2⟩
  clear h1 h2
  generalize hn : l.length = n at *
  have HN : Hid (l.length = n) := hn
  clear hn
  go_enter Try.func22, Try.ntmps22
  go_wp2
  go_loopw [5] (fun i wr => ∃ k nq : Nat, k ≤ n ∧ i = .int .i64 k ∧ wr = w.drewN nq) (fun i _ => n - (intOf i).toNat)
  case atStart => exact ⟨0, 0, Nat.zero_le _, rfl, rfl⟩
  case round =>
    obtain ⟨k, nq, hk, rfl, rfl⟩ := hrel
    by_cases hlt : k < n
    · rcases HH.out.1 with h | ⟨g1, o1, rfl, _, h1⟩
      · have := HN.out; rw [h] at this; simp at this; omega
      rcases HH.out.2 with h | ⟨g2, o2, rfl, _, h2⟩
      · have := HN.out; rw [h] at this; simp at this; omega
      have g1 := h1 k hlt
      have g2 := h2 k hlt
      generalize ((l.getD k 0 : Nat) : Int) = x at g1 g2
      clear h1 h2 HH HN
      go_wp2
      go_quiet (fail)
      go_wp2
      exact ⟨⟨k + 1, _, by omega, by go_num, rfl⟩, by simp [intOf]; omega⟩
    · go_wp2
      go_ret
      exact ⟨rfl, nq, rfl⟩
end Go.Proofs.Ytglknmelcianjaa
