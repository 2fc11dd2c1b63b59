import Derived.Test.YtoiehkpmemmldaaDoorUt
import Derived.Test.YtoiehkpmemmldaaDoorRows
import Derived.WalkKit
import Derived.BigQuiet
import Derived.Deep.QuietTactic
import Derived.WalkLawsBesides
namespace Go.Proofs.YtoiehkpmemmldaaDoor
open Go.RowKit
theorem ret_i {a b : Int} (h : a = b) : Ending.returned (.int .i64 a) = .returned (.int .i64 b) := by rw [h]
theorem bt_list (t : ByteArray) (k : Nat) : bt t k = (t.data.toList[k]?.getD 0).toNat := by
  obtain ⟨d⟩ := t
  show (d[k]!).toNat = _
  rw [Array.getElem!_eq_getD, Array.getD_eq_getD_getElem?, Array.getElem?_toList]; rfl
theorem ext_data (s : ByteArray) (i j : Nat) : (s.extract i j).data.toList = (s.data.toList.take j).drop i := by
  rw [ByteArray.data_extract, Array.toList_extract]; simp [List.drop_take]
theorem ext_drop (s : ByteArray) (i : Nat) : (s.extract i s.size).data.toList = s.data.toList.drop i := by
  rw [ext_data, List.take_of_length_le (by simp)]
theorem ext_sz (s : ByteArray) (i : Nat) : (s.extract i s.size).size = s.size - i := by
  simp
theorem bt_ext (s : ByteArray) (i k : Nat) : bt (s.extract i s.size) k = bt s (i + k) := by
  rw [bt_list, bt_list, ext_drop, List.getElem?_drop]
def pf (t : ByteArray) : Bool := decide (3 ≤ t.size) && ((t.extract 0 3).toList == [239, 191, 189])
theorem pf_iff (t : ByteArray) : pf t = true ↔ 3 ≤ t.size ∧ bt t 0 = 239 ∧ bt t 1 = 191 ∧ bt t 2 = 189 := by
  unfold pf
  rw [Bool.and_eq_true, decide_eq_true_eq, beq_iff_eq, ByteArray.toList_eq, ext_data, bt_list, bt_list, bt_list]
  have hl : t.data.toList.length = t.size := by simp
  constructor
  · rintro ⟨a, b⟩
    match h : t.data.toList, hl with
    | x :: y :: z :: r, _ => rw [h] at b; simp at b; obtain ⟨rfl, rfl, rfl⟩ := b; exact ⟨a, rfl, rfl, rfl⟩
    | [x, y], hl => simp at hl; omega
    | [x], hl => simp at hl; omega
    | [], hl => simp at hl; omega
  · rintro ⟨a, b, c, d⟩
    refine ⟨a, ?_⟩
    match h : t.data.toList, hl with
    | x :: y :: z :: r, _ =>
      rw [h] at b c d; simp at b c d
      have e1 : x = 239 := UInt8.toNat_inj.1 b
      have e2 : y = 191 := UInt8.toNat_inj.1 c
      have e3 : z = 189 := UInt8.toNat_inj.1 d
      subst e1 e2 e3; simp
    | [x, y], hl => simp at hl; omega
    | [x], hl => simp at hl; omega
    | [], hl => simp at hl; omega
theorem pf_at {s : ByteArray} {i : Nat} (hi : i < s.size) : pf (s.extract i s.size) = true ↔ i + 3 ≤ s.size ∧ bt s i = 239 ∧ bt s (i+1) = 191 ∧ bt s (i+2) = 189 := by
  rw [pf_iff, ext_sz, bt_ext, bt_ext, bt_ext]; constructor <;> (rintro ⟨a, b⟩; exact ⟨by omega, b⟩)
theorem pf_bad {s : ByteArray} {i : Nat} (hi : i < s.size) (h : fm s i = 0) : pf (s.extract i s.size) = false := by
  cases e : pf (s.extract i s.size) with
  | false => rfl
  | true =>
    obtain ⟨a, b, c, d⟩ := (pf_at hi).1 e
    rw [fm3 ⟨by omega, by omega⟩, if_pos] at h
    · cases h
    · unfold C3; omega
theorem pf_good {s : ByteArray} {i : Nat} (hi : i < s.size) (h : fm s i ≠ 0) (h1 : (Utf8.decode s i).1 = 65533) : pf (s.extract i s.size) = true := by
  obtain ⟨_, a, b, c, d⟩ := (fm_some h).2 h1
  exact (pf_at hi).2 ⟨a, b, c, d⟩
set_option maxHeartbeats 400000 in
theorem hasPrefix35 (t : ByteArray) (w : World) (hs : t.size ≤ maxLen) :
    Calls Tryd.prog 62 #[.string t, .string ⟨#[239, 191, 189]⟩] w fun e w' => e = .returned (.bool (pf t)) ∧ w' = w := by
  unfold maxLen at hs
  by_cases h : 3 ≤ t.size
  · go_enter Tryd.func62, Tryd.ntmps62
    go_wp2
    go_ret
    exact ⟨by simp [pf, h], rfl⟩
  · go_enter Tryd.func62, Tryd.ntmps62
    go_wp2
    go_ret
    exact ⟨by simp [pf, h], rfl⟩
theorem hasPrefix25 (t : ByteArray) (w : World) (hs : t.size ≤ maxLen) :
    Calls Tryd.prog 51 #[.string t, .string ⟨#[239, 191, 189]⟩] w fun e w' => e = .returned (.bool (pf t)) ∧ w' = w := by
  go_enter Tryd.func51, Tryd.ntmps51
  go_wp2_with (go_at_call 62; refine (hasPrefix35 t _ hs).mono ?_; rintro e w' ⟨rfl, rfl⟩)
  go_ret
  exact ⟨rfl, rfl⟩
set_option maxRecDepth 100000 in
set_option maxHeartbeats 1000000 in
theorem utf9 (s : ByteArray) (w : World) (hs : s.size ≤ maxLen) :
    Calls Tryd.prog 34 #[.string s] w fun e w' => e = .returned (.int .i64 (ua s 0)) ∧ ∃ pos, w' = w.iter s pos := by
  have HS : Hid (s.size ≤ maxLen) := hs
  unfold maxLen at hs
  go_enter Tryd.func34, Tryd.ntmps34
  go_wp2
  go_loopw [] (fun w' => ∃ (pos : Nat), w' = w.iter s pos ∧ ua s pos = ua s 0 ∧ pos ≤ s.size) (fun w' => s.size - w'.iterPos w.heap.size)
  case atStart => exact ⟨0, rfl, rfl, Nat.zero_le _⟩
  case round =>
    obtain ⟨pos, rfl, hu, hb⟩ := hrel
    have HU : Hid (ua s pos = ua s 0) := hu
    clear hu
    have hw1 := dec_pos s pos
    by_cases hp : pos < s.size
    · have hnx : ∀ ty, (Instr.next (.pointer (some ⟨w.heap.size, 0, none⟩)) true ty).run Tryd.prog (w.iter s pos) = _ := fun ty => run_next_any w s pos ty hp
      have hw2 := hw1.2 hp
      by_cases hf : fm s pos = 0
      · have hd := fm_zero hf
        have HP : Hid (pf (s.extract pos s.size) = false) := pf_bad hp hf
        have HB : Hid (ua s pos = pos) := ua_bad hp hf
        have hz := ext_sz s pos
        rw [hd] at hnx
        clear hw1 hw2 hf hd
        go_wp2_with (go_at_call 51; refine (hasPrefix25 (s.extract pos s.size) _ (by have := HS.out; omega)).mono ?_; rintro e w' ⟨rfl, rfl⟩; rw [HP.out])
        go_ret
        exact ⟨ret_i (by rw [← HU.out, HB.out]), _, rfl⟩
      · have hg := fm_some hf
        have HO : Hid (ua s pos = ua s (pos + (Utf8.decode s pos).2)) := by rw [hg.1]; exact ua_on hp hf
        have HG : Hid ((Utf8.decode s pos).1 = 65533 → pf (s.extract pos s.size) = true) := pf_good hp hf
        clear hf hg
        have hz := ext_sz s pos
        have hdl := decode_le s pos
        generalize (Utf8.decode s pos).2 = wd2 at *
        generalize (Utf8.decode s pos).1 = r at *
        by_cases hr : r = 65533
        · subst hr
          go_wp2_with (go_at_call 51; refine (hasPrefix25 (s.extract pos s.size) _ (by have := HS.out; omega)).mono ?_; rintro e w' ⟨rfl, rfl⟩; rw [HG.out rfl])
          go_roundw
          case rel => exact ⟨_, rfl, by rw [← HO.out, HU.out], by omega⟩
          case measure => simp; omega
        · go_wp2
          go_roundw
          case rel => exact ⟨_, rfl, by rw [← HO.out, HU.out], by omega⟩
          case measure => simp; omega
    · have hnx : ∀ ty, (Instr.next (.pointer (some ⟨w.heap.size, 0, none⟩)) true ty).run Tryd.prog (w.iter s pos) = _ := fun ty => run_next_end w s pos ty hp
      have HE := ua_end hp
      have HE' : Hid (ua s pos = -1) := HE
      clear HE
      go_wp2
      go_ret
      exact ⟨ret_i (by rw [← HU.out, HE'.out]), _, rfl⟩
end Go.Proofs.YtoiehkpmemmldaaDoor
