import Derived.Test.YtjhnkdhbjpddcaaDoorMakeR
import Derived.Test.YtjhnkdhbjpddcaaDoorInts
namespace Go.Proofs.YtjhnkdhbjpddcaaDoor
open Go.RowKit
/-- one of the first k is i -/
def inn (zs : List Int) (k i : Nat) : Bool := (List.range k).any (fun j => iz zs j == (i : Int))
theorem inn_succ (zs : List Int) (k i : Nat) : inn zs (k + 1) i = (inn zs k i || iz zs k == (i : Int)) := by simp [inn, List.range_succ]
theorem inn_zero (zs : List Int) (i : Nat) : inn zs 0 i = false := by simp [inn]
theorem inn_beyond {zs : List Int} {k n i : Nat} (h : ∀ j, j < k → iz zs j < n) (hi : n ≤ i) : inn zs k i = false := by
  unfold inn
  rw [List.any_eq_false]
  intro j hj
  have := h j (List.mem_range.1 hj)
  simp; omega
/-- what Of answers -/
def OR (n : Nat) (zs : List Int) (l : List UInt8) (er : Int) : Prop :=
  (er = 43 ∧ l = [] ∧ ∃ k, k < zs.length ∧ (iz zs k < 0 ∨ n ≤ iz zs k)) ∨ (er = 0 ∧ (∀ k, k < zs.length → 0 ≤ iz zs k ∧ iz zs k < n) ∧ BF n (inn zs zs.length) l)
theorem OR.unique {n : Nat} {zs : List Int} {l l' : List UInt8} {er er' : Int} (h : OR n zs l er) (h' : OR n zs l' er') : l = l' ∧ er = er' := by
  rcases h with ⟨rfl, rfl, k, hk, h⟩ | ⟨rfl, h1, h2⟩
  · rcases h' with ⟨rfl, rfl, _⟩ | ⟨rfl, g1, _⟩
    · exact ⟨rfl, rfl⟩
    · have := g1 k hk; omega
  · rcases h' with ⟨rfl, rfl, k, hk, g⟩ | ⟨rfl, g1, g2⟩
    · have := h1 k hk; omega
    · exact ⟨BF.unique h2 g2 (fun _ _ => rfl), rfl⟩
theorem of17_no (n : Int) (h : n < 0 ∨ 65536 < n) (v : Value) (zs : List Int) (w : World) (hr : RZ w v zs) :
    Calls Tryd.prog 4 #[.int .i64 n, v] w fun e w' => e = .returned (.tuple #[.slice none 0 0, .int .i64 40]) ∧ w = w' := by
  obtain ⟨a, c, rfl, _⟩ := hr.form
  clear hr
  go_enter Tryd.func4, Tryd.ntmps4
  go_wp2_with (go_at_call 15; refine (make13_no n h _).mono ?_; rintro e w1 ⟨rfl, rfl⟩)
  go_ret2
  exact ⟨rfl, rfl⟩
set_option maxHeartbeats 2000000 in
theorem of17 (n : Nat) (h : n ≤ 65536) (v : Value) (zs : List Int) (w : World) (hr : RZ w v zs) (hl : zs.length ≤ 17592186043904) (hm : MT w) :
    Calls Tryd.prog 4 #[.int .i64 n, v] w fun e w' => ∃ v l er, e = .returned (.tuple #[v, .int .i64 er]) ∧ OW w.heap.size w' v l ∧ OR n zs l er ∧ Below w.heap.size w w' := by
  have HM : Hid (MT w) := hm
  obtain ⟨va, vc, rfl, kr⟩ := hr.form
  have HR : Hid (zs = [] ∨ ∃ g o, va = some ⟨g, o, none⟩ ∧ g < w.heap.size ∧ ∀ i, i < zs.length → w.cell? ⟨g, o + i, none⟩ = some (.int .i64 (iz zs i))) := kr
  clear hm hr kr
  generalize hN : zs.length = N at *
  have HN : Hid (zs.length = N) := hN
  clear hN
  go_enter Tryd.func4, Tryd.ntmps4
  go_wp2_with (go_at_call 15; refine (make13_ow n h _).mono ?_; rintro e w1 ⟨v, rfl, ho, hb⟩)
  obtain ⟨a, c, rfl⟩ := ho.form
  rw [List.length_replicate] at *
  go_wp2
  go_loopw [20] (fun t wr => ∃ (k : Nat) (l : List UInt8), k ≤ N ∧ t = .int .i64 k ∧ OW w.heap.size wr (.slice a ((n + 7) / 8) c) l ∧ l.length = (n + 7) / 8 ∧ (∀ i, bit l i = inn zs k i) ∧ (∀ j, j < k → 0 ≤ iz zs j ∧ iz zs j < n) ∧ Below w.heap.size w wr) (fun t _ => N - (intOf t).toNat)
  case atStart => exact ⟨0, _, Nat.zero_le _, rfl, ho, by simp, fun i => by rw [bit_zeros, inn_zero], fun j hj => absurd hj (Nat.not_lt_zero _), hb⟩
  case round =>
    clear ho hb
    obtain ⟨k, l, hk, rfl, ho, hlen, hbit, hin, hb⟩ := hrel
    by_cases hlt : k < N
    · rcases HR.out with hnil | ⟨g, o, rfl, hg, hc⟩
      · have := HN.out; rw [hnil] at this; simp at this; omega
      have hz := (hb.cell (p := ⟨g, o + k, none⟩) hg).trans (hc k hlt)
      have HI : Hid (∀ i, inn zs (k + 1) i = (inn zs k i || iz zs k == (i : Int))) := inn_succ zs k
      by_cases hbad : iz zs k < 0 ∨ (n : Int) ≤ iz zs k
      · have HO : Hid (Below w.heap.size w wr ∧ OR n zs [] 43) := ⟨hb, .inl ⟨rfl, rfl, k, by rw [HN.out]; exact hlt, hbad⟩⟩
        generalize iz zs k = z at *
        clear ho hlen hbit hin hb hc HR HI HM
        rcases hbad with hbad | hbad
        · go_wp2
          go_ret2
          exact ⟨_, [], 43, rfl, World.ownsRow_nil _ _ _ _, HO.out.2, HO.out.1⟩
        · go_wp2
          go_ret2
          exact ⟨_, [], 43, rfl, World.ownsRow_nil _ _ _ _, HO.out.2, HO.out.1⟩
      · obtain ⟨m, hmz⟩ := Int.eq_ofNat_of_zero_le (show 0 ≤ iz zs k by omega)
        have hmn : m < n := by omega
        obtain ⟨g2, rfl, hg2, h1, h2⟩ := ho.at (m / 8) (by omega)
        have h3 := (HM.out.keep hb).2 (m % 8) (Nat.mod_lt _ (by omega))
        have h4 := or_on (byt l (m / 8)) (m % 8)
        have HO : Hid (OW w.heap.size wr (.slice (some ⟨g2, 0, none⟩) ((n + 7) / 8) c) l ∧ l.length = (n + 7) / 8 ∧ (∀ i, bit l i = inn zs k i) ∧ Below w.heap.size w wr ∧ iz zs k = m ∧ ∀ j, j < k → 0 ≤ iz zs j ∧ iz zs j < n) := ⟨ho, hlen, hbit, hb, hmz, hin⟩
        have HS : Hid (∀ j, bit (l.set (m / 8) (on (byt l (m / 8)) (m % 8))) j = (decide (j = m) || bit l j)) := fun j => bit_set_on l m j (by omega)
        rw [hmz] at hz
        clear ho hlen hbit hb hin hbad hmz hc HR HN HM
        generalize on (byt l (m / 8)) (m % 8) = y at *
        generalize (byt l (m / 8)) = x at *
        generalize mk (m % 8) = mm at *
        have e1 : m / 8 < (n + 7) / 8 := by omega
        go_wp2
        go_region
        go_wp2
        refine ⟨⟨k + 1, l.set (m / 8) y, by omega, by go_num, (HO.out.1.drew _).stored _ _, by rw [List.length_set]; exact HO.out.2.1, ?_, ?_, (belowN HO.out.2.2.2.1 _).setCell (p := ⟨g2, m / 8, none⟩) hg2 _⟩, by simp [intOf]; omega⟩
        · intro i
          rw [HS.out, HO.out.2.2.1, HI.out, HO.out.2.2.2.2.1, Bool.or_comm]
          congr 1
          rw [Bool.eq_iff_iff]; simp; omega
        · intro j hj
          by_cases hjk : j = k
          · subst hjk; rw [HO.out.2.2.2.2.1]; omega
          · exact HO.out.2.2.2.2.2 j (by omega)
    · obtain rfl : k = N := by omega
      have hn := HN.out
      go_wp2
      go_ret2
      refine ⟨_, l, 0, rfl, ho, .inr ⟨rfl, by rw [hn]; exact hin, hlen, fun i => ?_⟩, hb⟩
      rw [hbit, hn]
      by_cases hi : i < n
      · simp [hi]
      · rw [inn_beyond (fun j hj => (hin j hj).2) (by omega)]; simp
end Go.Proofs.YtjhnkdhbjpddcaaDoor
