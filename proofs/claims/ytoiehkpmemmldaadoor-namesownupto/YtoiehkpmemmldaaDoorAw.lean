import Derived.Test.YtoiehkpmemmldaaDoorGs
import Derived.Test.YtoiehkpmemmldaaDoorLe
namespace Go.Proofs.YtoiehkpmemmldaaDoor
open Go.RowKit
theorem drN (w : World) (n : Nat) : Below w.heap.size w (w.drewN n) := ⟨rfl, rfl, rfl, Nat.le_refl _, fun _ _ => rfl⟩
theorem smB_self (l : List ByteArray) : smB l l = true := by simp [smB]
set_option maxHeartbeats 400000 in
theorem num13 (z : Int) (w : World) : Calls Tryd.prog 8 #[.int .i64 z] w fun e w' => e = .returned (.int .i64 z) ∧ w' = w := by
  go_enter Tryd.func8, Tryd.ntmps8
  go_wp2
  go_ret
  exact ⟨rfl, rfl⟩
/-- plain signs alone: no fault -/
theorem ua_ascii (s : ByteArray) (h : ∀ i, i < s.size → bt s i < 128) : ∀ (n i : Nat), s.size - i ≤ n → ua s i = -1 := by
  intro n
  induction n with
  | zero => intro i hi; exact ua_end (by omega)
  | succ n ih =>
    intro i hi
    by_cases hs : i < s.size
    · have f := fm1 (h i hs)
      rw [ua_on hs (by rw [f]; omega), f]; exact ih _ (by omega)
    · exact ua_end hs
def sA : ByteArray := ⟨#[97]⟩
def sB : ByteArray := ⟨#[98, 32, 99]⟩
def sC : ByteArray := ⟨#[98]⟩
def sT : ByteArray := ⟨#[97, 47, 98, 32, 99]⟩
theorem ce_A : ce sA = 0 := ce6 (by decide) (by decide) (ua_ascii sA (by decide) 1 0 (by decide)) (by decide +kernel) (by decide +kernel)
theorem ce_B : ce sB = 0 := ce6 (by decide) (by decide) (ua_ascii sB (by decide) 3 0 (by decide)) (by decide +kernel) (by decide +kernel)
theorem pe_AB : pe [sA, sB] = 0 := by
  rw [pe2 (by simp) (by simp), fe, if_pos ce_A, fe, if_pos ce_B]; rfl
theorem jo_AB : jo [sA, sB] = sT := by decide +kernel
theorem spb_T : spb 16 sT = [sA, sB] := join_spb [sA, sB] 16 sT (by simp) (by simp) (by decide +kernel) (by decide +kernel)
theorem sq_T : sq sT = [sA, sB] := by unfold sq; rw [spb_T, if_pos pe_AB]
theorem lx_AC : lx [sA, sB] [sC] = true := by decide +kernel
theorem two_sr (w : World) : SR (w.alloc (.cells #[.string ⟨#[97]⟩, .string ⟨#[98, 32, 99]⟩] 9)) [sA, sB] (.slice (some ⟨w.heap.size, 0, none⟩) 2 2) :=
  ⟨_, 2, rfl, Nat.le_refl _, .inr ⟨_, 0, rfl, by simp, fun i hi => by
    rw [Nat.zero_add]
    refine cell_new w _ 9 i _ ?_
    match i, hi with
    | 0, _ => rfl
    | 1, _ => rfl⟩⟩
theorem one_sr (w : World) (s : ByteArray) : SR (w.alloc (.cells #[.string s] 9)) [s] (.slice (some ⟨w.heap.size, 0, none⟩) 1 1) :=
  ⟨_, 1, rfl, Nat.le_refl _, .inr ⟨_, 0, rfl, by simp, fun i hi => by
    rw [Nat.zero_add]
    refine cell_new w _ 9 i _ ?_
    match i, hi with
    | 0, _ => rfl⟩⟩
theorem fl_AB : FL [sA, sB] := ⟨by simp, by decide +kernel⟩
theorem joinAB (v : Value) (w : World) (h : SR w [sA, sB] v) : Calls Tryd.prog 16 #[v] w fun e w' => e = .returned (.tuple #[.string ⟨#[97, 47, 98, 32, 99]⟩, .int .i64 0]) ∧ Below w.heap.size w w' := by
  have := join23 [sA, sB] v w fl_AB h
  rw [pe_AB, if_pos rfl, jo_AB] at this
  exact this
theorem splitT (w : World) : Calls Tryd.prog 13 #[.string ⟨#[97, 47, 98, 32, 99]⟩] w fun e w' => ∃ a c, e = .returned (.tuple #[.slice a 2 c, .int .i64 0]) ∧ SR w' [sA, sB] (.slice a 2 c) ∧ Below w.heap.size w w' := by
  have := split8 sT w (by decide)
  rw [sq_T, spb_T, pe_AB] at this
  exact this
theorem lessT (v1 v2 : Value) (w : World) (h1 : SR w [sA, sB] v1) (h2 : SR w [sC] v2) : Calls Tryd.prog 12 #[v1, v2] w fun e w' => e = .returned (.bool true) ∧ w' = w := by
  have := less12 v1 v2 _ _ w (by simp) (by simp) h1 h2
  rw [lx_AC] at this
  exact this
theorem sameT (v1 v2 : Value) (w : World) (h1 : SR w [sA, sB] v1) (h2 : SR w [sA, sB] v2) : Calls Tryd.prog 14 #[v1, v2] w fun e w' => e = .returned (.bool true) ∧ ∃ n, w' = w.drewN n := by
  have := same14 v1 v2 _ _ w (by simp) (by simp) h1 h2
  rw [smB_self] at this
  exact this
theorem oneT (w : World) : SR (w.alloc (.cells #[.string ⟨#[98]⟩] 9)) [sC] (.slice (some ⟨w.heap.size, 0, none⟩) 1 1) := one_sr w sC
theorem bel1 (w : World) (o : Obj) : Below w.heap.size w (w.alloc o) := (Below.refl _ _).alloc (Nat.le_refl _) _
theorem bel2 (w : World) (o : Obj) (n : Nat) : Below w.heap.size w ((w.alloc o).drewN n) := (bel1 w o).trans ((drN _ n).mono (by simp))
set_option maxHeartbeats 1000000 in
theorem awake11 (w : World) : Calls Tryd.prog 6 #[] w fun e w' => e = .returned (.bool true) ∧ Below w.heap.size w w' := by
  go_enter Tryd.func6, Tryd.ntmps6
  go_wp2_with fail
  refine (joinAB _ _ (two_sr w)).mono ?_
  rintro e w1 ⟨rfl, hb1⟩
  have B1 : Hid (Below w.heap.size w w1) := (bel1 w _).trans (hb1.mono (by simp))
  clear hb1
  go_wp2_with fail
  refine (splitT _).mono ?_
  rintro e w2 ⟨a, c, rfl, hr, hb2⟩
  have B2 : Hid (Below w.heap.size w w2) := B1.out.trans (hb2.mono B1.out.size)
  have R2 : Hid (SR w2 [sA, sB] (.slice a 2 c)) := hr
  clear hb2 hr B1
  go_wp2_with fail
  refine (lessT _ _ _ (R2.out.keep (bel1 _ _)) (oneT w2)).mono ?_
  rintro e w3 ⟨rfl, rfl⟩
  have R3 : Hid (SR (w2.alloc (Obj.cells #[.string ⟨#[98]⟩] 9)) [sA, sB] (.slice a 2 c)) := R2.out.keep (bel1 _ _)
  have B3 : Hid (Below w.heap.size w (w2.alloc (Obj.cells #[.string ⟨#[98]⟩] 9))) := B2.out.trans ((bel1 _ _).mono B2.out.size)
  generalize (w2.alloc (Obj.cells #[.string ⟨#[98]⟩] 9)) = w3 at *
  go_wp2_with fail
  refine (num13 _ _).mono ?_
  rintro e w' ⟨rfl, rfl⟩
  go_wp2_with fail
  refine (num13 _ _).mono ?_
  rintro e w' ⟨rfl, rfl⟩
  go_wp2_with fail
  have T1 := two_sr w'
  have T2 := R3.out.keep (bel1 w' (Obj.cells #[.string ⟨#[97]⟩, .string ⟨#[98, 32, 99]⟩] 9))
  refine (sameT _ _ _ T2 T1).mono ?_
  rintro e w'' ⟨rfl, n, rfl⟩
  clear T1 T2
  go_wp2
  go_ret
  exact ⟨rfl, B3.out.trans ((bel2 _ _ _).mono B3.out.size)⟩
end Go.Proofs.YtoiehkpmemmldaaDoor
