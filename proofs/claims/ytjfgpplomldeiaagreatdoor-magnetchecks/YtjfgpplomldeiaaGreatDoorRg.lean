import Derived.Test.YtjfgpplomldeiaaGreatDoorRe
namespace Go.Proofs.YtjfgpplomldeiaaGreatDoor
open Go.RowKit Go.Deep
/-- something stands twice in the list -/
def twB (ts : List ByteArray) : Bool := (List.range ts.length).any fun i => match ts[i]? with | some x => winB (ts.take i) x | none => false
theorem RS.take {S : Nat → Prop} {w : World} {a : Option Addr} {n c : Nat} {ts : List ByteArray} (h : RS S w (.slice a n c) ts) {i : Nat} (hi : i ≤ ts.length) : RS S w (.slice a i c) (ts.take i) := by
  obtain ⟨a', c', e, h⟩ := h
  simp only [Value.slice.injEq] at e
  obtain ⟨rfl, rfl, rfl⟩ := e
  refine ⟨a, c, by rw [List.length_take, Nat.min_eq_left hi], ?_⟩
  rcases h with h | ⟨b, o, rfl, h1, h2, h3⟩
  · exact .inl (by rw [List.length_take]; omega)
  · refine .inr ⟨b, o, rfl, h1, h2, fun j x hx => h3 j x ?_⟩
    rw [List.getElem?_take] at hx
    split at hx
    · exact hx
    · cases hx
set_option maxHeartbeats 2000000 in
set_option maxRecDepth 100000 in
theorem rtwice (v : Value) (ts : List ByteArray) (w : World) (h : RS (fun _ => True) w v ts) (hn : ts.length ≤ 140737488351232) (hcap : ∀ a n c, v = .slice a n c → n ≤ c) :
    Calls Tryz.prog 18 #[v] w fun e w' => e = .returned (.bool (twB ts)) ∧ ∃ n, w' = w.drewN n := by
  have HR : Hid (RS (fun _ => True) w v ts) := h
  obtain ⟨a, c, rfl, hx⟩ := h
  have hnc : ts.length ≤ c := hcap _ _ _ rfl
  clear hcap
  have HX := Lib.hid hx
  generalize hnn : ts.length = n at *
  have HNN : Hid (ts.length = n) := hnn
  clear hx hnn
  go_enter Tryz.func18, Tryz.ntmps18
  go_wp2
  go_loopw [3] (fun t wr => ∃ i nq : Nat, i ≤ n ∧ t = .int .i64 i ∧ wr = w.drewN nq ∧ Hid (∀ (j : Nat) (x : ByteArray), j < i → ts[j]? = some x → winB (ts.take j) x = false)) (fun t _ => n - (intOf t).toNat)
  case atStart => exact ⟨0, 0, Nat.zero_le _, rfl, rfl, (fun j x h => absurd h (Nat.not_lt_zero _) : ∀ (j : Nat) (x : ByteArray), j < 0 → ts[j]? = some x → winB (ts.take j) x = false)⟩
  case round =>
    obtain ⟨i, n0, hi, rfl, hwr, HI⟩ := hrel
    have HWR : Hid (wr = w.drewN n0) := hwr
    clear hwr
    by_cases hlt : i < n
    · obtain ⟨x, hx⟩ : ∃ x, ts[i]? = some x := ⟨_, List.getElem?_eq_getElem (by rw [HNN.out]; exact hlt)⟩
      obtain ⟨g, o, rfl, _, hg, hc⟩ := HX.out.resolve_left (fun e => by omega)
      have g0 : wr.cell? ⟨g, o + i, none⟩ = some (.string x) := by rw [HWR.out]; exact hc i x hx
      have hic : i ≤ c := by omega
      have HXI : Hid (ts[i]? = some x) := hx
      have HW : Hid (∀ m, Calls Tryz.prog 29 #[.slice (some ⟨g, o, none⟩) i c, .string x] (wr.drewN m) fun e w' => e = .returned (.bool (winB (ts.take i) x)) ∧ w' = wr.drewN m) := fun m => rwithin _ (ts.take i) x (wr.drewN m) (((HR.out).take (by rw [HNN.out]; omega)).move (fun _ h _ => h) (by rw [HWR.out]; exact Nat.le_refl _) (fun _ _ _ => by rw [HWR.out]; rfl)) (by rw [List.length_take]; omega)
      clear hc hx
      generalize hq : winB (ts.take i) x = q at *
      have HQ : Hid (winB (ts.take i) x = q) := hq
      clear hq
      go_wp2
      go_quiet ((go_at_call 29; exact Calls.quiet_of_same (HW.out _)))
      cases q with
      | true =>
        have HE : Hid (true = twB ts) := by
          have h9 : twB ts = true := List.any_eq_true.2 ⟨i, List.mem_range.2 (by rw [HNN.out]; exact hlt), by rw [HXI.out]; exact HQ.out⟩
          exact h9.symm
        clear HI HW
        go_wp2
        go_ret
        exact ⟨ret_b HE.out, n0 + nq, by rw [HWR.out]; simp⟩
      | false =>
        have HJ : Hid (∀ (j : Nat) (x : ByteArray), j < i + 1 → ts[j]? = some x → winB (ts.take j) x = false) := fun j y hj hy => by
          rcases Nat.lt_succ_iff_lt_or_eq.1 hj with h | rfl
          · exact HI.out j y h hy
          · have h9 := HXI.out
            rw [hy] at h9
            cases h9
            exact HQ.out
        clear HI HW
        go_wp2
        exact ⟨⟨i + 1, n0 + nq, by omega, by go_num, by rw [HWR.out]; simp, HJ⟩, by simp [intOf]; omega⟩
    · obtain rfl : i = n := by omega
      have HE : Hid (false = twB ts) := by
        have h9 : twB ts = false := by
          rw [twB, List.any_eq_false]
          intro j hj
          have hj2 := List.mem_range.1 hj
          have h8 := HI.out j (ts[j]'hj2) (by have := HNN.out; omega) (List.getElem?_eq_getElem hj2)
          rw [List.getElem?_eq_getElem hj2]
          simp [h8]
        exact h9.symm
      clear HI
      go_wp2
      go_ret
      exact ⟨ret_b HE.out, n0, HWR.out⟩
end Go.Proofs.YtjfgpplomldeiaaGreatDoor
