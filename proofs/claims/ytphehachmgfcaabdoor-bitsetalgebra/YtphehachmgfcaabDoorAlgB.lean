import Derived.Test.YtphehachmgfcaabDoorAlgA
import Derived.Test.YtphehachmgfcaabDoorJoinC
namespace Go.Proofs.YtphehachmgfcaabDoor
open Go.RowKit
theorem bf_take {m : Nat} {os : List Int} {k : Nat} {l r : List UInt8} (hk : k < os.length) (h0 : 0 ≤ iz os k) (h : BF m (fun j => decide ((j : Int) ∈ os.take k)) l)
    (h2 : BF m (fun j => if j = (iz os k).toNat then true else bit l j) r) : BF m (fun j => decide ((j : Int) ∈ os.take (k + 1))) r := by
  refine ⟨h2.1, fun i => ?_⟩
  rw [h2.2 i, take_snocZ os k hk]
  by_cases hi : i < m
  · simp only [hi, decide_true, Bool.true_and]
    by_cases he : i = (iz os k).toNat
    · rw [if_pos he]
      symm
      rw [decide_eq_true_eq, List.mem_append]
      exact .inr (by simp; omega)
    · rw [if_neg he, h.2 i]
      simp only [hi, decide_true, Bool.true_and]
      rw [decide_eq_decide, List.mem_append]
      simp
      intro h; omega
  · simp [hi]
theorem bf_skip {m : Nat} {os : List Int} {k : Nat} {l : List UInt8} (hk : k < os.length) (hno : ¬ (0 ≤ iz os k ∧ iz os k < m)) (h : BF m (fun j => decide ((j : Int) ∈ os.take k)) l) :
    BF m (fun j => decide ((j : Int) ∈ os.take (k + 1))) l := by
  refine ⟨h.1, fun i => ?_⟩
  rw [h.2 i, take_snocZ os k hk]
  by_cases hi : i < m
  · simp only [hi, decide_true, Bool.true_and]
    rw [decide_eq_decide, List.mem_append]
    simp
    intro h; omega
  · simp [hi]
theorem pu_ok {m : Nat} {l : List UInt8} {z : Int} {on : Bool} {r : List UInt8} (hck : ck m l = 0) (h0 : 0 ≤ z) (h1 : z < m) (h : PU m l z on r) : gE m l z = 0 ∧ BF m (fun k => if k = z.toNat then on else bit l k) r := by
  obtain ⟨e1, _⟩ := gE_ok (n := (m : Int)) (l := l) (i := z) hck (by omega)
  rcases h with ⟨h, _⟩ | ⟨_, h⟩
  · exact absurd e1 h
  · exact ⟨e1, by simpa using h⟩
theorem bE_ok {m : Nat} {l r : List UInt8} (h : ck m l = 0) (h2 : ck m r = 0) : bE m l r = 0 := by unfold bE; rw [if_neg (by simp [h])]; exact h2
theorem jr_ok {m : Nat} {l r : List UInt8} {f : Bool → Bool → Bool} {o : List UInt8} (h : ck m l = 0) (h2 : ck m r = 0) (hj : JR m l r f o) : BF m (fun i => f (bit l i) (bit r i)) o := by
  rcases hj with ⟨h3, _⟩ | ⟨_, h3⟩
  · exact absurd (bE_ok h h2) h3
  · simpa using h3
theorem no_ok {m : Nat} {r : List UInt8} {o : List UInt8} (h : ck m r = 0) (hj : NO m r o) : BF m (fun i => !bit r i) o := by
  rcases hj with ⟨h3, _⟩ | ⟨_, h3⟩
  · exact absurd h h3
  · simpa using h3
theorem make_z (m : Nat) (hm : m ≤ 65536) : ∃ z0 : List UInt8, BF m (fun _ => false) z0 ∧ ∀ w, Calls Tryd.prog 26 #[.int .i64 m] w fun e w' => ∃ v, e = .returned (.tuple #[v, .int .i64 0]) ∧ OW w.heap.size w' v z0 ∧ Below w.heap.size w w' :=
  ⟨_, BF.zeros m, fun w => make13_ow m hm w⟩
end Go.Proofs.YtphehachmgfcaabDoor
