import Derived.Test.YtcanbkgcgjaimaaPm
namespace Go.Proofs.Ytcanbkgcgjaimaa
open Go.Shelf Go.RowKit
/-- the cells of the first n queries of a plan -/
def qrow (z : Nat → Int) (b l p : Int) (n : Nat) : List Value := ((List.range n).map fun (t : Nat) => ql z b ((t : Int) * l) l p).flatten
theorem qrow_succ (z : Nat → Int) (b l p : Int) (n : Nat) : qrow z b l p (n + 1) = qrow z b l p n ++ ql z b ((n : Int) * l) l p := by
  unfold qrow
  rw [List.range_succ, List.map_append, List.flatten_append]
  simp
theorem qrow_len (z : Nat → Int) (b l p : Int) : ∀ n, (qrow z b l p n).length = n * 36
  | 0 => rfl
  | n + 1 => by rw [qrow_succ, List.length_append, qrow_len z b l p n, ql_len]; omega
theorem qrow_at (z : Nat → Int) (b l p : Int) : ∀ (n k j : Nat) (u : Value), k < n → (ql z b ((k : Int) * l) l p)[j]? = some u → (qrow z b l p n)[k * 36 + j]? = some u
  | 0, _, _, _, h, _ => by omega
  | n + 1, k, j, u, h, hu => by
    have hj : j < 36 := by have := (List.getElem?_eq_some_iff.1 hu).1; rw [ql_len] at this; exact this
    rw [qrow_succ]
    rcases Nat.lt_or_eq_of_le (Nat.le_of_lt_succ h) with g | g
    · rw [List.getElem?_append_left (by rw [qrow_len]; omega)]
      exact qrow_at z b l p n k j u g hu
    · subst g
      rw [List.getElem?_append_right (by rw [qrow_len]; omega), qrow_len, show k * 36 + j - k * 36 = j by omega]
      exact hu
/-- a slice of queries reads as these cells -/
def RQ (w : World) (v : Value) (n : Nat) (us : List Value) : Prop :=
  ∃ a c, v = .slice a n c ∧ (n = 0 ∨ ∃ g, a = some ⟨g, 0, none⟩ ∧ ∀ j u, us[j]? = some u → w.cell? ⟨g, j, none⟩ = some u)
theorem RQ.keep {w w' : World} {v : Value} {n : Nat} {us : List Value} (h : RQ w v n us) (hb : Below w.heap.size w w') : RQ w' v n us := by
  obtain ⟨a, c, h1, h2⟩ := h
  refine ⟨a, c, h1, ?_⟩
  rcases h2 with h | ⟨g, h2, h3⟩
  · exact .inl h
  · exact .inr ⟨g, h2, fun j u hu => (hb.cell (World.block_lt_of_cell? w _ (h3 j u hu))).trans (h3 j u hu)⟩
set_option maxHeartbeats 1000000 in
theorem same7 (z : Nat → Int) (b l p : Int) (n : Nat) (hn : n ≤ 1048577) (v1 v2 : Value) (w : World) (h1 : RQ w v1 n (qrow z b l p n)) (h2 : RQ w v2 n (qrow z b l p n)) :
    Calls Try.prog 7 #[v1, v2] w fun e w' => e = .returned (.bool true) ∧ ∃ m, w' = w.drewN m := by
  obtain ⟨a1, c1, rfl, k1⟩ := h1
  obtain ⟨a2, c2, rfl, k2⟩ := h2
  have HH : Hid ((n = 0 ∨ ∃ g, a1 = some ⟨g, 0, none⟩ ∧ ∀ j u, (qrow z b l p n)[j]? = some u → w.cell? ⟨g, j, none⟩ = some u) ∧ (n = 0 ∨ ∃ g, a2 = some ⟨g, 0, none⟩ ∧ ∀ j u, (qrow z b l p n)[j]? = some u → w.cell? ⟨g, j, none⟩ = some u)) := ⟨k1, k2⟩
  clear k1 k2
  go_enter Try.func7, Try.ntmps7
  go_wp2
  go_loopw [5] (fun i wr => ∃ k nq : Nat, k ≤ n ∧ i = .int .i64 k ∧ wr = w.drewN nq) (fun i _ => n - (intOf i).toNat)
  case atStart => exact ⟨0, 0, by omega, rfl, rfl⟩
  case round =>
    obtain ⟨k, nq, hk, rfl, rfl⟩ := hrel
    by_cases hlt : k < n
    · obtain ⟨k1, k2⟩ := HH.out
      rcases k1 with k1 | ⟨g1, rfl, q1⟩
      · omega
      rcases k2 with k2 | ⟨g2, rfl, q2⟩
      · omega
      have r1 : (w.drewN nq).rangeAt g1 (k * 36) (ql z b (k * l) l p) := fun j v hv => q1 _ _ (qrow_at z b l p n k j v hlt hv)
      have r2 : (w.drewN nq).rangeAt g2 (k * 36) (ql z b (k * l) l p) := fun j v hv => q2 _ _ (qrow_at z b l p n k j v hlt hv)
      have hi : (Try.prog.info? 31).map (·.size) = some (ql z b (k * l) l p).length := by kernel_rfl
      have b0 : (0 : Int) ≤ (k : Int) := by omega
      have b1 : (k : Int) < (n : Int) := by omega
      clear HH q1 q2
      go_wp2_with fail
      go_wp2_with fail
      refine wp_region_held_drew (S := fun w' => w'.rangeAt g1 (k * 36) (ql z b (k * l) l p) ∧ w'.rangeAt g2 (k * 36) (ql z b (k * l) l p)) (by kernel_rfl) (⟨r1, r2⟩) (fun hHeld => ?_)
      refine wpAnyH_take (i := 0) (v := .slice (some ⟨g1, 0, none⟩) n c1) rfl (by kernel_rfl) (by kernel_rfl) (by kernel_rfl) (fun _ _ _ h => h) (Or.inl ⟨by rfl, fun w hw => by go_simp⟩) hHeld ?_
      simp only [Act.put]
      refine wpAnyH_take (i := 1) (v := .int .i64 k) rfl (by kernel_rfl) (by kernel_rfl) (by kernel_rfl) (fun _ _ _ h => h) (Or.inl ⟨by rfl, fun w hw => by go_simp⟩) hHeld ?_
      simp only [Act.put]
      refine wpAnyH_take (i := 2) (v := .pointer (some ⟨g1, k * 36, none⟩)) rfl (by kernel_rfl) (by kernel_rfl) (by kernel_rfl) (fun _ _ _ h => h) (Or.inl ⟨by rfl, fun w hw => by go_simp⟩) hHeld ?_
      simp only [Act.put]
      refine wpAnyH_take (i := 3) (v := _) rfl (by kernel_rfl) (by kernel_rfl) (by kernel_rfl) (fun _ _ _ h => h) (yieldsIf_load_mid (by rfl) _ _ rfl _ _ rfl _ _ (fun _ h => h.1) Try.underlying31 rfl hi) hHeld ?_
      simp only [Act.put]
      refine wpAnyH_take (i := 4) (v := .slice (some ⟨g2, 0, none⟩) n c2) rfl (by kernel_rfl) (by kernel_rfl) (by kernel_rfl) (fun _ _ _ h => h) (Or.inl ⟨by rfl, fun w hw => by go_simp⟩) hHeld ?_
      simp only [Act.put]
      refine wpAnyH_take (i := 5) (v := .int .i64 k) rfl (by kernel_rfl) (by kernel_rfl) (by kernel_rfl) (fun _ _ _ h => h) (Or.inl ⟨by rfl, fun w hw => by go_simp⟩) hHeld ?_
      simp only [Act.put]
      refine wpAnyH_take (i := 6) (v := .pointer (some ⟨g2, k * 36, none⟩)) rfl (by kernel_rfl) (by kernel_rfl) (by kernel_rfl) (fun _ _ _ h => h) (Or.inl ⟨by rfl, fun w hw => by go_simp⟩) hHeld ?_
      simp only [Act.put]
      refine wpAnyH_take (i := 7) (v := _) rfl (by kernel_rfl) (by kernel_rfl) (by kernel_rfl) (fun _ _ _ h => h) (yieldsIf_load_mid (by rfl) _ _ rfl _ _ rfl _ _ (fun _ h => h.2) Try.underlying31 rfl hi) hHeld ?_
      simp only [Act.put]
      have e : ∀ w, (Op.equalIn 10000 31 (.agg (ql z b (k * l) l p).toArray) (.agg (ql z b (k * l) l p).toArray)).run Try.prog w = .ok true w := eq_q z b (k * l) l p
      generalize (ql z b (k * l) l p).toArray = A at e ⊢
      refine wpAnyH_ready (rs := [8]) (by kernel_rfl) (by simp) ?_
      refine AllReadyH.cons (o := _) rfl (fun K hK => ?_) AllReadyH.nil
      clear r1 r2 hi
      go_simp
      refine hK.out _ _ hHeld (fun hHeld => ?_)
      clear hK K
      refine wpAnyH_done (by kernel_rfl) ?_ _
      clear hHeld e
      go_wp2
      exact ⟨⟨k + 1, _, by omega, by go_num, rfl⟩, by simp [intOf]; omega⟩
    · go_wp2
      go_ret
      exact ⟨rfl, nq, rfl⟩
end Go.Proofs.Ytcanbkgcgjaimaa
