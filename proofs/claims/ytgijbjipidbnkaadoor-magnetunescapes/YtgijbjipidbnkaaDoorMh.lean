import Derived.Test.YtgijbjipidbnkaaDoorMg
namespace Go.Proofs.YtgijbjipidbnkaaDoor
open Go.Shelf Go.RowKit
/-- what Unescape answers -/
def unT (l : List UInt8) : ByteArray := if 0 ≤ (uneL l).2 then ⟨#[]⟩ else ⟨(uneL l).1.toArray⟩
def unE (l : List UInt8) : Int := if 0 ≤ (uneL l).2 then 222 else 0
set_option maxHeartbeats 1000000 in
theorem unescape (s : ByteArray) (w : World) (hT : BT w) (hs : s.size ≤ 140737488351232) :
    Calls Tryd.prog 7 #[.string s] w fun e w' => e = .returned (.tuple #[.string (unT s.data.toList), .int .i64 (unE s.data.toList)]) ∧ Below w.heap.size w w' := by
  have HT : Hid (BT w) := hT
  clear hT
  go_enter Tryd.func7, Tryd.ntmps7
  go_wp2_with fail
  refine (plain s _ HT.out hs).mono ?_
  rintro e w1 ⟨rfl, b1⟩
  have HB : Hid (Below w.heap.size w w1) := b1
  clear b1
  have H1 : Hid (unT s.data.toList = if 0 ≤ (uneL s.data.toList).2 then ⟨#[]⟩ else ⟨(uneL s.data.toList).1.toArray⟩) := rfl
  have H2 : Hid (unE s.data.toList = if 0 ≤ (uneL s.data.toList).2 then 222 else 0) := rfl
  generalize (uneL s.data.toList).2 = p at *
  generalize (⟨(uneL s.data.toList).1.toArray⟩ : ByteArray) = t at *
  by_cases hp : 0 ≤ p
  · have HR : Hid ((⟨#[]⟩ : ByteArray) = unT s.data.toList ∧ 222 = unE s.data.toList) := by
      have e1 := H1.out
      have e2 := H2.out
      rw [if_pos hp] at e1 e2
      exact (⟨e1.symm, e2.symm⟩ : (⟨#[]⟩ : ByteArray) = unT s.data.toList ∧ 222 = unE s.data.toList)
    clear H1 H2
    go_wp2
    go_ret2
    exact ⟨ret_si HR.out.1 HR.out.2, HB.out⟩
  · have HR : Hid (t = unT s.data.toList ∧ 0 = unE s.data.toList) := by
      have e1 := H1.out
      have e2 := H2.out
      rw [if_neg hp] at e1 e2
      exact (⟨e1.symm, e2.symm⟩ : t = unT s.data.toList ∧ 0 = unE s.data.toList)
    clear H1 H2
    go_wp2
    go_ret2
    exact ⟨ret_si HR.out.1 HR.out.2, HB.out⟩
set_option maxHeartbeats 1000000 in
theorem rUnescape (s : ByteArray) (w : World) (hs : s.size ≤ 140737488351232) :
    Calls Tryd.prog 8 #[.string s] w fun e w' => e = .returned (.tuple #[.string (unT s.data.toList), .int .i64 (unE s.data.toList)]) ∧ Below w.heap.size w w' := by
  go_enter Tryd.func8, Tryd.ntmps8
  go_wp2_with fail
  refine (runescape s _ hs).mono ?_
  rintro e w1 ⟨rfl, b1⟩
  have HB : Hid (Below w.heap.size w w1) := b1
  clear b1
  have H1 : Hid (unT s.data.toList = if 0 ≤ (uneL s.data.toList).2 then ⟨#[]⟩ else ⟨(uneL s.data.toList).1.toArray⟩) := rfl
  have H2 : Hid (unE s.data.toList = if 0 ≤ (uneL s.data.toList).2 then 222 else 0) := rfl
  generalize (uneL s.data.toList).2 = p at *
  generalize (⟨(uneL s.data.toList).1.toArray⟩ : ByteArray) = t at *
  by_cases hp : 0 ≤ p
  · have HR : Hid ((⟨#[]⟩ : ByteArray) = unT s.data.toList ∧ 222 = unE s.data.toList) := by
      have e1 := H1.out
      have e2 := H2.out
      rw [if_pos hp] at e1 e2
      exact (⟨e1.symm, e2.symm⟩ : (⟨#[]⟩ : ByteArray) = unT s.data.toList ∧ 222 = unE s.data.toList)
    clear H1 H2
    go_wp2
    go_ret2
    exact ⟨ret_si HR.out.1 HR.out.2, HB.out⟩
  · have HR : Hid (t = unT s.data.toList ∧ 0 = unE s.data.toList) := by
      have e1 := H1.out
      have e2 := H2.out
      rw [if_neg hp] at e1 e2
      exact (⟨e1.symm, e2.symm⟩ : t = unT s.data.toList ∧ 0 = unE s.data.toList)
    clear H1 H2
    go_wp2
    go_ret2
    exact ⟨ret_si HR.out.1 HR.out.2, HB.out⟩
set_option maxHeartbeats 1000000 in
theorem unescapesLaw (s : ByteArray) (w : World) (hT : BT w) (hs : s.size ≤ 140737488351232) :
    Calls Tryd.prog 4 #[.string s] w fun e w' => e = .returned (.bool true) ∧ Below w.heap.size w w' := by
  have HT : Hid (BT w) := hT
  clear hT
  go_enter Tryd.func4, Tryd.ntmps4
  go_wp2_with fail
  refine (unescape s _ HT.out hs).mono ?_
  rintro e w1 ⟨rfl, b1⟩
  have HB : Hid (Below w.heap.size w w1) := b1
  clear b1
  go_wp2_with fail
  refine (rUnescape s _ hs).mono ?_
  rintro e w2 ⟨rfl, b2⟩
  have HB2 : Hid (Below w.heap.size w w2) := HB.out.trans (b2.mono HB.out.size)
  clear b2
  generalize unT s.data.toList = T
  generalize unE s.data.toList = E
  go_wp2
  go_ret
  exact ⟨rfl, HB2.out⟩
end Go.Proofs.YtgijbjipidbnkaaDoor
