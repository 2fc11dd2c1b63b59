import Derived.Test.YtjhnkdhbjpddcaaDoorRunB
namespace Go.Proofs.YtjhnkdhbjpddcaaDoor
open Go.RowKit
/-- the slice v reads as the runs r -/
def RQ (w : World) (v : Value) (r : List (Nat × Nat)) : Prop := ∃ a c, v = .slice a r.length c ∧ (r = [] ∨ ∃ g, a = some ⟨g, 0, none⟩ ∧ g < w.heap.size ∧ ∀ i, i < r.length → w.cell? ⟨g, i * 2, none⟩ = some (.int .i64 ((r.getD i (0, 0)).1 : Int)) ∧ w.cell? ⟨g, i * 2 + 1, none⟩ = some (.int .i64 ((r.getD i (0, 0)).2 : Int)))
theorem RQ.keep {w w' : World} {v : Value} {r : List (Nat × Nat)} (h : RQ w v r) (hb : Below w.heap.size w w') : RQ w' v r := by
  obtain ⟨a, c, rfl, h⟩ := h
  refine ⟨a, c, rfl, ?_⟩
  rcases h with h | ⟨g, rfl, hg, hc⟩
  · exact .inl h
  · exact .inr ⟨g, rfl, Nat.lt_of_lt_of_le hg hb.size, fun i hi => ⟨(hb.cell (p := ⟨g, i * 2, none⟩) hg).trans (hc i hi).1, (hb.cell (p := ⟨g, i * 2 + 1, none⟩) hg).trans (hc i hi).2⟩⟩
theorem OU.rq {B : Nat} {w : World} {v : Value} {r : List (Nat × Nat)} (h : OU B w v r) : RQ w v r := by
  have h' := h
  rcases h.2 with ⟨rfl, h0⟩ | ⟨g, cap, cur, rfl, _, hg, _⟩
  · exact ⟨none, 0, by rw [h0], .inl (List.length_eq_zero_iff.1 h0)⟩
  · refine ⟨_, cap, rfl, .inr ⟨g, rfl, (Array.getElem?_eq_some_iff.1 hg).1, fun i hi => ?_⟩⟩
    have q1 := World.ownsRow.cellAt h' (i * 2) (by omega)
    have q2 := World.ownsRow.cellAt h' (i * 2 + 1) (by omega)
    exact ⟨q1.trans (flat_at r i hi).1, q2.trans (flat_at r i hi).2⟩
set_option maxHeartbeats 1000000 in
theorem same19R (v1 v2 : Value) (r : List (Nat × Nat)) (w : World) (hl : r.length ≤ 1000000) (h1 : RQ w v1 r) (h2 : RQ w v2 r) :
    Calls Tryd.prog 27 #[v1, v2] w fun e w' => e = .returned (.bool true) ∧ ∃ n, w' = w.drewN n := by
  obtain ⟨a1, c1, rfl, k1⟩ := h1
  obtain ⟨a2, c2, rfl, k2⟩ := h2
  have HH : Hid ((r = [] ∨ ∃ g, a1 = some ⟨g, 0, none⟩ ∧ g < w.heap.size ∧ ∀ i, i < r.length → w.cell? ⟨g, i * 2, none⟩ = some (.int .i64 ((r.getD i (0, 0)).1 : Int)) ∧ w.cell? ⟨g, i * 2 + 1, none⟩ = some (.int .i64 ((r.getD i (0, 0)).2 : Int))) ∧
     (r = [] ∨ ∃ g, a2 = some ⟨g, 0, none⟩ ∧ g < w.heap.size ∧ ∀ i, i < r.length → w.cell? ⟨g, i * 2, none⟩ = some (.int .i64 ((r.getD i (0, 0)).1 : Int)) ∧ w.cell? ⟨g, i * 2 + 1, none⟩ = some (.int .i64 ((r.getD i (0, 0)).2 : Int)))) := ⟨k1, k2⟩
  clear k1 k2
  generalize hn : r.length = n at *
  have HN : Hid (r.length = n) := hn
  clear hn
  go_enter Tryd.func27, Tryd.ntmps27
  go_wp2
  go_loopw [5] (fun i wr => ∃ k nq : Nat, k ≤ n ∧ i = .int .i64 k ∧ wr = w.drewN nq) (fun i _ => n - (intOf i).toNat)
  case atStart => exact ⟨0, 0, Nat.zero_le _, rfl, rfl⟩
  case round =>
    obtain ⟨k, nq, hk, rfl, rfl⟩ := hrel
    by_cases hlt : k < n
    · rcases HH.out.1 with h | ⟨g1, rfl, _, h1⟩
      · have := HN.out; rw [h] at this; simp at this; omega
      rcases HH.out.2 with h | ⟨g2, rfl, _, h2⟩
      · have := HN.out; rw [h] at this; simp at this; omega
      obtain ⟨g11, g12⟩ := h1 k hlt
      obtain ⟨g21, g22⟩ := h2 k hlt
      generalize ((r.getD k (0, 0)).1 : Int) = x at g11 g21
      generalize ((r.getD k (0, 0)).2 : Int) = y at g12 g22
      clear h1 h2 HH HN
      go_wp2
      go_quiet (fail)
      go_wp2
      exact ⟨⟨k + 1, _, by omega, by go_num, rfl⟩, by simp [intOf]; omega⟩
    · go_wp2
      go_ret
      exact ⟨rfl, nq, rfl⟩
/-- the runs that one sees who goes through places in a row, and the end of the last one -/
def stp (s : List (Nat × Nat) × Int) (x : Nat) : List (Nat × Nat) × Int := (if (x : Int) = s.2 then grow s.1 else s.1 ++ [(x, 1)], (x : Int) + 1)
def rp (pre : List Nat) : List (Nat × Nat) × Int := pre.foldl stp ([], -1)
theorem rp_snoc (pre : List Nat) (x : Nat) : rp (pre ++ [x]) = stp (rp pre) x := by unfold rp; rw [List.foldl_append]; rfl
theorem rp_last (pre : List Nat) (x : Nat) : ∃ r a b, (rp (pre ++ [x])).1 = r ++ [(a, b + 1)] ∧ b ≤ pre.length ∧ r.length ≤ pre.length := by
  induction h : pre.length generalizing pre x with
  | zero =>
    obtain rfl := List.length_eq_zero_iff.1 h
    refine ⟨[], x, 0, ?_, by omega, by simp⟩
    have : ¬ ((x : Int) = -1) := by omega
    simp [rp, stp, this]
  | succ n ih =>
    obtain ⟨p', y, rfl⟩ : ∃ p' y, pre = p' ++ [y] := by
      have hne : pre ≠ [] := by rintro rfl; simp at h
      exact ⟨pre.dropLast, pre.getLast hne, (List.dropLast_concat_getLast hne).symm⟩
    obtain ⟨r, a, b, e1, e2, e3⟩ := ih p' y (by simpa using h)
    rw [rp_snoc (p' ++ [y]) x]
    unfold stp
    by_cases hx : (x : Int) = (rp (p' ++ [y])).2
    · rw [if_pos hx, e1, grow_snoc]
      exact ⟨r, a, b + 1, rfl, by omega, by omega⟩
    · rw [if_neg hx, e1]
      exact ⟨r ++ [(a, b + 1)], x, 0, rfl, by omega, by simp; omega⟩
end Go.Proofs.YtjhnkdhbjpddcaaDoor
