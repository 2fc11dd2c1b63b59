import Derived.Test.YtglknmelcianjaaRo2
import Derived.Test.YtglknmelcianjaaIs
import Derived.Test.YtglknmelcianjaaCq
namespace Go.Proofs.Ytglknmelcianjaa
open Go.RowKit
/-- one place of both sides: no disk, or the same disk -/
inductive PD (Sa Sb : Nat → Prop) (w : World) : Value → Value → Option Dk → Prop where
  | no : PD Sa Sb w (.pointer none) (.pointer none) none
  | yes (p q : Nat) (D : Dk) (ha : DK Sa w p D) (hb : RK Sb w q D) : PD Sa Sb w (.pointer (some ⟨p, 0, none⟩)) (.pointer (some ⟨q, 0, none⟩)) (some D)
/-- how many writes wait -/
def nW : Option Dk → Nat
  | none => 0
  | some D => D.ws.length
def rdOk (s : Int) (D : Dk) : Bool := decide (0 ≤ s ∧ 64 * s + 64 ≤ D.last.length)
def rdL (s : Int) : Option Dk → List UInt8
  | none => []
  | some D => if rdOk s D then seen D s.toNat else []
def rdN (s : Int) : Option Dk → Int
  | none => 1
  | some D => if rdOk s D then 0 else 120
/-- bytes and an error were answered -/
def QB (w : World) (l : List UInt8) (n : Int) (e : Ending) (w' : World) : Prop := ∃ a c, e = .returned (.tuple #[.slice a l.length c, .int .i64 n]) ∧ RB w' (.slice a l.length c) l ∧ Below w.heap.size w w'
def QL (w : World) (l : List UInt8) (e : Ending) (w' : World) : Prop := ∃ a c, e = .returned (.slice a l.length c) ∧ RB w' (.slice a l.length c) l ∧ Below w.heap.size w w'
def QI (w : World) (l : List Nat) (e : Ending) (w' : World) : Prop := ∃ a c, e = .returned (.slice a l.length c) ∧ RN w' (.slice a l.length c) l ∧ Below w.heap.size w w'
theorem rb_nil (w : World) : RB w (.slice none 0 0) [] := ⟨none, 0, rfl, Nat.le_refl _, .inl rfl⟩
theorem QB.of {w : World} {l : List UInt8} {e : Ending} {w' : World} (h : BytE w l e w') : QB w l 0 e w' := by
  obtain ⟨v, rfl, ho, hb⟩ := h
  obtain ⟨a, c, rfl⟩ := ho.form
  exact ⟨a, c, rfl, ho.rb, hb⟩
theorem QL.of {w : World} {l : List UInt8} {e : Ending} {w' : World} (h : LisE w l e w') : QL w l e w' := by
  obtain ⟨v, rfl, ho, hb⟩ := h
  obtain ⟨a, c, rfl⟩ := ho.form
  exact ⟨a, c, rfl, ho.rb, hb⟩
theorem QI.of {w : World} {ws : List Wt} {e : Ending} {w' : World} (h : IntE w ws e w') : QI w (ws.map (·.at_)) e w' := by
  obtain ⟨v, rfl, ho, hb⟩ := h
  have hr := rn_of ho
  obtain ⟨a, c, rfl, _⟩ := id hr
  exact ⟨a, c, rfl, hr, hb⟩
section
variable {Sa Sb : Nat → Prop} {w : World} {va vb : Value} {o : Option Dk}
theorem qread (h : PD Sa Sb w va vb o) (s : Int) : Calls Try.prog 20 #[va, .int .i64 s] w (QB w (rdL s o) (rdN s o)) := by
  cases h with
  | no => exact (read_nil s w).mono (by rintro e w' ⟨rfl, rfl⟩; exact ⟨none, 0, rfl, rb_nil _, Below.refl _ _⟩)
  | yes p q D ha hb =>
    cases hr : rdOk s D with
    | true =>
      have h1 := of_decide_eq_true hr
      have e : s = (s.toNat : Int) := by omega
      have := read ha s.toNat (by omega)
      rw [← e] at this
      refine this.mono (fun e w' h => ?_)
      simp only [rdL, rdN, hr, if_true]
      exact QB.of h
    | false =>
      have h1 := of_decide_eq_false hr
      refine (read_no ha s (by omega)).mono ?_
      rintro e w' ⟨rfl, rfl⟩
      simp only [rdL, rdN, hr]
      exact ⟨none, 0, rfl, rb_nil _, Below.refl _ _⟩
theorem qrread (h : PD Sa Sb w va vb o) (hn : nW o ≤ 1073741824) (s : Int) : Calls Try.prog 21 #[vb, .int .i64 s] w (QB w (rdL s o) (rdN s o)) := by
  cases h with
  | no => exact (rread_nil s w).mono (by rintro e w' ⟨rfl, rfl⟩; exact ⟨none, 0, rfl, rb_nil _, Below.refl _ _⟩)
  | yes p q D ha hb =>
    obtain ⟨lb, cap, wv, ps, lf, hb⟩ := hb
    have hl : ps.length ≤ 1073741824 := by have h9 : D.ws.length ≤ 1073741824 := hn; rw [hb.ws, List.length_map] at h9; exact h9
    cases hr : rdOk s D with
    | true =>
      have h1 := of_decide_eq_true hr
      have e : s = (s.toNat : Int) := by omega
      have := rreadT hb s.toNat (by omega) hl
      rw [← e] at this
      refine this.mono (fun e w' h => ?_)
      simp only [rdL, rdN, hr, if_true]
      exact QB.of h
    | false =>
      have h1 := of_decide_eq_false hr
      refine (rreadNo hb s (by omega)).mono ?_
      rintro e w' ⟨rfl, rfl⟩
      simp only [rdL, rdN, hr]
      exact ⟨none, 0, rfl, rb_nil _, Below.refl _ _⟩
def peL : Option Dk → List Nat
  | none => []
  | some D => D.ws.map (·.at_)
def imL : Option Dk → List UInt8
  | none => []
  | some D => img D.last D.ws
def duL : Option Dk → List UInt8
  | none => []
  | some D => D.last
def szN : Option Dk → Int
  | none => 0
  | some D => ((D.last.length / 64 : Nat) : Int)
theorem qi_nil : QI w [] (.returned (.slice none 0 0)) w := ⟨none, 0, rfl, ⟨none, 0, rfl, Nat.le_refl _, .inl rfl⟩, Below.refl _ _⟩
theorem ql_nil : QL w [] (.returned (.slice none 0 0)) w := ⟨none, 0, rfl, rb_nil _, Below.refl _ _⟩
theorem qpend (h : PD Sa Sb w va vb o) (hn : nW o ≤ 1073741824) : Calls Try.prog 18 #[va] w (QI w (peL o)) := by
  cases h with
  | no => exact (pending_nil w).mono (by rintro e w' ⟨rfl, rfl⟩; exact qi_nil)
  | yes p q D ha hb => exact (pending ha hn).mono (fun e w' h => QI.of h)
theorem qrpend (h : PD Sa Sb w va vb o) (hn : nW o ≤ 1073741824) : Calls Try.prog 23 #[vb] w (QI w (peL o)) := by
  cases h with
  | no => exact (rpending_nil w).mono (by rintro e w' ⟨rfl, rfl⟩; exact qi_nil)
  | yes p q D ha hb =>
    obtain ⟨lb, cap, wv, ps, lf, hb⟩ := hb
    exact (rpending hb (by have h9 : D.ws.length ≤ 1073741824 := hn; rw [hb.ws, List.length_map] at h9; exact h9)).mono (fun e w' h => QI.of h)
theorem qimage (h : PD Sa Sb w va vb o) : Calls Try.prog 26 #[va] w (QL w (imL o)) := by
  cases h with
  | no => exact (image_nil w).mono (by rintro e w' ⟨rfl, rfl⟩; exact ql_nil)
  | yes p q D ha hb => exact (image ha).mono (fun e w' h => QL.of h)
theorem qrimage (h : PD Sa Sb w va vb o) (hn : nW o ≤ 1073741824) : Calls Try.prog 27 #[vb] w (QL w (imL o)) := by
  cases h with
  | no => exact (rimage_nil w).mono (by rintro e w' ⟨rfl, rfl⟩; exact ql_nil)
  | yes p q D ha hb =>
    obtain ⟨lb, cap, wv, ps, lf, hb⟩ := hb
    exact (rimageT hb (by have h9 : D.ws.length ≤ 1073741824 := hn; rw [hb.ws, List.length_map] at h9; exact h9)).mono (fun e w' h => QL.of h)
theorem qdur (h : PD Sa Sb w va vb o) : Calls Try.prog 17 #[va] w (QL w (duL o)) := by
  cases h with
  | no => exact (durable_nil w).mono (by rintro e w' ⟨rfl, rfl⟩; exact ql_nil)
  | yes p q D ha hb => exact (durable ha).mono (fun e w' h => QL.of h)
theorem qrdur (h : PD Sa Sb w va vb o) : Calls Try.prog 28 #[vb] w (QL w (duL o)) := by
  cases h with
  | no => exact (rdurable_nil w).mono (by rintro e w' ⟨rfl, rfl⟩; exact ql_nil)
  | yes p q D ha hb =>
    obtain ⟨lb, cap, wv, ps, lf, hb⟩ := hb
    exact (rdurable hb).mono (fun e w' h => QL.of h)
theorem qsize (h : PD Sa Sb w va vb o) : Calls Try.prog 24 #[va] w fun e w' => e = .returned (.int .i64 (szN o)) ∧ w' = w := by
  cases h with
  | no => exact size_nil w
  | yes p q D ha hb => exact size ha
theorem qrsize (h : PD Sa Sb w va vb o) : Calls Try.prog 25 #[vb] w fun e w' => e = .returned (.int .i64 (szN o)) ∧ w' = w := by
  cases h with
  | no => exact rsize_nil w
  | yes p q D ha hb =>
    obtain ⟨lb, cap, wv, ps, lf, hb⟩ := hb
    exact rsizeT hb
theorem PD.lens (h : PD Sa Sb w va vb o) (hn : nW o ≤ 1073741824) (s : Int) : (rdL s o).length ≤ 4194304 ∧ (imL o).length ≤ 4194304 ∧ (duL o).length ≤ 4194304 ∧ (peL o).length ≤ 1073741824 := by
  cases h with
  | no => simp [rdL, imL, duL, peL]
  | yes p q D ha hb =>
    have hg := ha.gd
    refine ⟨?_, by show (img D.last D.ws).length ≤ _; rw [img_len]; exact hg.max, hg.max, by show (D.ws.map (·.at_)).length ≤ _; rw [List.length_map]; exact hn⟩
    show (if rdOk s D then seen D s.toNat else []).length ≤ _
    split
    · next hr =>
      have h1 := of_decide_eq_true hr
      rw [seen_sec hg s.toNat (by omega), sec_len _ _ (by rw [img_len]; omega)]
      omega
    · simp
theorem PD.below {w' : World} (h : PD Sa Sb w va vb o) (hb : Below w.heap.size w w') : PD Sa Sb w' va vb o := by
  cases h with
  | no => exact .no
  | yes p q D ha hb2 => exact .yes p q D (ha.below hb) (hb2.below hb)
end
end Go.Proofs.Ytglknmelcianjaa
