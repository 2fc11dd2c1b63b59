import Derived.Test.YtkbfphdedgeofaaRf
namespace Go.Proofs.Ytkbfphdedgeofaa
open Go.RowKit
/-- the reference's read, whole -/
theorem readT (w : World) (S : Nat) (h : Bool) (av : Value) (f : Int) (k : RF w S h av f) (v : Value) (l : List UInt8) (hl : l.length ≤ 33554432) (hr : RB w v l) :
    Calls Try.prog 30 #[.pointer (some ⟨S, 0, none⟩), v] w fun e w' => ∃ mv bv met bs kk h' er, e = .returned (.tuple #[mv, bv, .int .i64 (kk : Nat), .int .i64 er]) ∧ Rd h l met bs h' (l.drop kk) er ∧ kk ≤ l.length ∧ OM w.heap.size w' mv met ∧ OR w.heap.size w' bv bs ∧ Below w.heap.size w w' := by
  cases h with
  | false =>
    refine (read_frames w S av f k v l hl hr).mono ?_
    rintro e w' ⟨bv, bs, kk, er, he, h1, h2, h3, h4⟩
    exact ⟨_, bv, [], bs, kk, false, er, he, h1, by have := (h1.frames rfl).2.2.1; omega, OM.nil _ _, h3, h4⟩
  | true =>
    by_cases hno : sok l 0 = false ∨ l.length < 68
    · refine (read_hello_no w S av f k v l hl hr hno).mono ?_
      rintro e w' ⟨er, he, h1, h2⟩
      exact ⟨_, _, [], [], 0, true, er, he, by rw [List.drop_zero]; exact h1, Nat.zero_le _, OM.nil _ _, OR.nil _ _, h2⟩
    · have hs : sok l 0 = true := by simp at hno; exact hno.1
      have h68 : 68 ≤ l.length := by simp at hno; exact hno.2
      refine (read_hello_yes w S av f k v l hl hr hs h68).mono ?_
      rintro e w' ⟨mv, bv, bs, kk, er, he, h1, h2, h3, h4, h5⟩
      refine ⟨mv, bv, _, bs, kk, false, er, he, h1, ?_, h3, h4, h5⟩
      cases h1 with
      | hello _ _ _ _ _ _ _ _ y =>
        have := (y.frames rfl).2.2.1
        rw [List.length_drop] at this
        omega
set_option maxHeartbeats 1000000 in
theorem refHeld (w : World) (S : Nat) (h : Bool) (av : Value) (A : List UInt8) (k : RF w S h av 0) (hl : A.length ≤ 33554432) (hr : RB w av A) {met bs : List (List UInt8)} {h' : Bool} {r : List UInt8} {e : Int} (hrd : Rd h A met bs h' r e) :
    Calls Try.prog 21 #[.pointer (some ⟨S, 0, none⟩)] w fun e w' => e = .returned (.int .i64 (r.length : Nat)) ∧ Below w.heap.size w w' := by
  have c1 := k.c1
  have c2 := k.c2
  have RT : Hid (Calls Try.prog 30 #[.pointer (some ⟨S, 0, none⟩), av] w fun e w' => ∃ mv bv kk er, e = .returned (.tuple #[mv, bv, .int .i64 (kk : Nat), .int .i64 er]) ∧ (A.length : Int) - (kk : Int) = (r.length : Int) ∧ kk ≤ A.length ∧ RF w' S h av 0 ∧ Below w.heap.size w w') := by
    refine (readT w S h av 0 k av A hl hr).mono ?_
    rintro e w' ⟨mv, bv, met2, bs2, kk, h2, er, he, g1, g2, _, _, g5⟩
    obtain ⟨_, _, _, q4, _⟩ := hrd.det g1
    have := congrArg List.length q4
    rw [List.length_drop] at this
    exact ⟨mv, bv, kk, er, he, by omega, g2, (g5.block S k.lt).trans k, g5⟩
  obtain ⟨a, c, rfl, _, _⟩ := hr
  clear k hrd
  go_enter Try.func21, Try.ntmps21
  go_wp2_with fail
  refine RT.out.mono ?_
  rintro e w1 ⟨mv, bv, kk, er, rfl, h1, h2, h3, h4⟩
  have c1' := h3.c1
  have HB : Hid (Below w.heap.size w w1) := h4
  clear h3 h4 RT
  go_wp2
  go_ret
  exact ⟨by simp [← h1], HB.out⟩
end Go.Proofs.Ytkbfphdedgeofaa
