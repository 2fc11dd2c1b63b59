import Derived.Test.YtmfbhihjiebagaaDoorMe
namespace Go.Proofs.YtmfbhihjiebagaaDoor
open Go.Shelf Go.RowKit
/-- what the bytes from a place on stand for: the text, or the place of the first fault -/
def une : Nat → List UInt8 → Nat → List UInt8 → List UInt8 × Int
  | 0, _, _, acc => (acc, -1)
  | f + 1, l, k, acc => if l.length ≤ k then (acc, -1) else if stN (l.drop k) = 0 then ([], (k : Int)) else une f l (k + stN (l.drop k)) (acc ++ [stC (l.drop k)])
def uneL (l : List UInt8) : List UInt8 × Int := une (l.length + 1) l 0 []
theorem stN_le {l : List UInt8} (h : l ≠ []) : stN l ≤ l.length := by
  have h1 : 1 ≤ l.length := List.length_pos_iff.2 h
  unfold stN stp
  split
  · rename_i c n e
    split at e
    · cases e; exact h1
    · split at e
      · cases e
      · rename_i h3
        split at e
        · cases e
        · split at e
          · cases e
          · cases e; omega
  · omega
theorem stN_drop {l : List UInt8} {k : Nat} (h : k < l.length) : k + stN (l.drop k) ≤ l.length := by
  have := stN_le (l := l.drop k) (by intro e; have := congrArg List.length e; simp at this; omega)
  rw [List.length_drop] at this; omega
theorem extD (s : ByteArray) (k : Nat) : (s.extract k s.size).data.toList = s.data.toList.drop k := by
  rw [ByteArray.data_extract, Array.toList_extract]; simp
  exact List.take_of_length_le (by simp)
theorem ret_si {a b : ByteArray} {m n : Int} (h1 : a = b) (h2 : m = n) : Ending.returned (.tuple #[.string a, .int .i64 m]) = .returned (.tuple #[.string b, .int .i64 n]) := by rw [h1, h2]
set_option maxHeartbeats 1000000 in
set_option maxRecDepth 100000 in
theorem plain (s : ByteArray) (w : World) (hT : BT w) (hs : s.size ≤ 140737488351232) :
    Calls Tryd.prog 18 #[.string s] w fun e w' => e = .returned (.tuple #[.string ⟨(uneL s.data.toList).1.toArray⟩, .int .i64 (uneL s.data.toList).2]) ∧ Below w.heap.size w w' := by
  have HT : Hid (BT w) := hT
  clear hT
  have HZ : Hid (s.data.toList.length = s.size) := (by simp : s.data.toList.length = s.size)
  go_enter Tryd.func18, Tryd.ntmps18
  go_wp2
  go_loopw [5] (fun t wr => ∃ k : Nat, k ≤ s.size ∧ t = .int .i64 k ∧ Hid (∃ acc f, acc.length ≤ k ∧ s.size - k < f ∧ uneL s.data.toList = une f s.data.toList k acc ∧ BI w.heap.size w.heap.size acc wr) ∧ Hid (Below w.heap.size w wr)) (fun t _ => s.size - (intOf t).toNat)
  case atStart => exact ⟨0, Nat.zero_le _, rfl, (⟨[], s.data.toList.length + 1, Nat.le_refl _, by have := HZ.out; omega, rfl, Lib.fresh_isBuilder 73 5 w⟩ : ∃ (acc : List UInt8) (f : Nat), acc.length ≤ 0 ∧ s.size - 0 < f ∧ uneL s.data.toList = une f s.data.toList 0 acc ∧ BI w.heap.size w.heap.size acc _), ((Below.refl _ _).alloc (Nat.le_refl _) _ : Below w.heap.size w _)⟩
  case round =>
    obtain ⟨k, hk, rfl, hh, hbel⟩ := hrel
    obtain ⟨acc, f, ha, hf, hu, hbi⟩ := hh.out
    obtain ⟨g, rfl⟩ : ∃ g, f = g + 1 := ⟨f - 1, by omega⟩
    have HI : Hid (acc.length ≤ k ∧ s.size - k < g + 1 ∧ uneL s.data.toList = une (g + 1) s.data.toList k acc ∧ BI w.heap.size w.heap.size acc wr) := ⟨ha, hf, hu, hbi⟩
    clear hh ha hf hu hbi
    by_cases hlt : k < s.size
    · have hlt' : (k : Int) < (s.size : Int) := by omega
      have hsl : ∀ w : World, (Instr.slice 9 (.string s) (some (.int .i64 (k : Int))) none none).run Tryd.prog w = .ok (.string (s.extract k s.size)) w := fun w => by
        simp [go_sem, Tryd.underlying9]; omega
      have HX : Hid ((s.extract k s.size).data.toList = s.data.toList.drop k ∧ 0 < (s.extract k s.size).size ∧ (s.extract k s.size).size ≤ s.size) := (⟨extD s k, by simp; omega, by simp⟩ : (s.extract k s.size).data.toList = s.data.toList.drop k ∧ 0 < (s.extract k s.size).size ∧ (s.extract k s.size).size ≤ s.size)
      generalize s.extract k s.size = t at *
      go_wp2_with fail
      refine (firstByte t _ (HT.out.keep hbel.out) HX.out.2.1 (by have := HX.out.2.2; omega)).mono ?_
      rintro e w1 ⟨rfl, nq, rfl⟩
      rw [HX.out.1]
      have HN : Hid (k + stN (s.data.toList.drop k) ≤ s.size) := by have := HZ.out; have h2 := stN_drop (l := s.data.toList) (k := k) (by omega); rw [this] at h2; exact h2
      have HU : Hid (uneL s.data.toList = if stN (s.data.toList.drop k) = 0 then ([], (k : Int)) else une g s.data.toList (k + stN (s.data.toList.drop k)) (acc ++ [stC (s.data.toList.drop k)])) := by
        have h2 := HI.out.2.2.1
        have h3 := HZ.out
        rw [une, if_neg (by omega)] at h2
        exact h2
      clear HX hsl
      generalize stN (s.data.toList.drop k) = n at *
      generalize stC (s.data.toList.drop k) = c at *
      by_cases hn : n = 0
      · have HR : Hid ((⟨#[]⟩ : ByteArray) = ⟨(uneL s.data.toList).1.toArray⟩ ∧ (k : Int) = (uneL s.data.toList).2) := by
          have h2 := HU.out
          rw [if_pos hn] at h2
          exact (⟨by rw [h2], by rw [h2]⟩ : (⟨#[]⟩ : ByteArray) = ⟨(uneL s.data.toList).1.toArray⟩ ∧ (k : Int) = (uneL s.data.toList).2)
        subst hn
        clear HU HI HN
        go_wp2
        go_ret2
        exact ⟨ret_si HR.out.1 HR.out.2, belowN hbel.out _⟩
      · have hn' : ¬ (n : Int) = 0 := by omega
        have HB1 : Hid (Below w.heap.size w (wr.drewN nq)) := belowN hbel.out nq
        have HI1 : Hid (BI w.heap.size w.heap.size acc (wr.drewN nq)) := HI.out.2.2.2
        have HA : Hid (acc.length ≤ k) := HI.out.1
        have HF : Hid (s.size - k < g + 1) := HI.out.2.1
        clear HI hbel
        generalize wr.drewN nq = w1 at *
        go_wp2_with fail
        refine (writeByte _ _ acc c _ HI1.out (by have := HA.out; omega) HB1.out.size).mono ?_
        rintro e w2 ⟨rfl, h2, b2⟩
        have HI2 : Hid (∃ (acc' : List UInt8) (f : Nat), acc'.length ≤ k + n ∧ s.size - (k + n) < f ∧ uneL s.data.toList = une f s.data.toList (k + n) acc' ∧ BI w.heap.size w.heap.size acc' w2) := by
          have h3 := HU.out
          rw [if_neg hn] at h3
          have h4 := HA.out
          have h5 := HF.out
          exact (⟨acc ++ [c], g, by simp; omega, by omega, h3, h2⟩ : ∃ (acc' : List UInt8) (f : Nat), acc'.length ≤ k + n ∧ s.size - (k + n) < f ∧ uneL s.data.toList = une f s.data.toList (k + n) acc' ∧ BI w.heap.size w.heap.size acc' w2)
        have HB2 : Hid (Below w.heap.size w w2) := HB1.out.trans b2
        have hkn : k + n ≤ s.size := HN.out
        clear h2 b2 HI1 HB1 HU HA HF HN
        go_wp2
        go_roundw
        case rel => exact ⟨k + n, by omega, by go_num, HI2, HB2⟩
        case measure => simp [intOf]; omega
    · have hkl : k = s.size := by omega
      subst hkl
      have HR : Hid ((⟨acc.toArray⟩ : ByteArray) = ⟨(uneL s.data.toList).1.toArray⟩ ∧ -1 = (uneL s.data.toList).2) := by
        have h2 := HI.out.2.2.1
        have h3 := HZ.out
        rw [une, if_pos (by omega)] at h2
        exact (⟨by rw [h2], by rw [h2]⟩ : (⟨acc.toArray⟩ : ByteArray) = ⟨(uneL s.data.toList).1.toArray⟩ ∧ -1 = (uneL s.data.toList).2)
      have HI1 : Hid (BI w.heap.size w.heap.size acc wr) := HI.out.2.2.2
      clear HI
      go_wp2_with fail
      refine (bString _ _ _ _ HI1.out hbel.out.size).mono ?_
      rintro e w2 ⟨rfl, b2⟩
      have HB : Hid (Below w.heap.size w w2) := hbel.out.trans b2
      clear b2 hbel
      go_wp2
      go_ret2
      exact ⟨ret_si HR.out.1 HR.out.2, HB.out⟩
end Go.Proofs.YtmfbhihjiebagaaDoor
