import Derived.Test.YtmfbhihjiebagaaDoorPd
namespace Go.Proofs.YtmfbhihjiebagaaDoor
open Go.Shelf Go.RowKit Go.Deep
/-- the one string is greater (where they are not the same) -/
def strGt (a b : ByteArray) : Bool := !Op.bytesLess a.toList b.toList
/-- the rules of order and of parameters twice -/
def ordR (ts ps : List ByteArray) (ahead key value : ByteArray) (gt : Bool) : Int :=
  if kdR key < kdR ahead then 227
  else if ((kdR key = 1 ∨ kdR key = 2) ∧ kdR ahead = kdR key) ∨ (kdR key = 3 ∧ winB ts value = true) ∨ (kdR key = 4 ∧ winB ps value = true) ∨ (kdR key = 5 ∧ (ahead.toList == key.toList) = true) then 225
  else if kdR key = 5 ∧ kdR ahead = 5 ∧ gt = true then 227 else 0
theorem kdR_le (k : ByteArray) : kdR k ≤ 5 := by
  unfold kdR
  repeat' split
  all_goals omega
set_option maxHeartbeats 4000000 in
set_option maxRecDepth 100000 in
theorem rordered (l : List UInt8) (nm : ByteArray) (tr pe on mo : Value) (ts ps : List ByteArray) (ahead key value : ByteArray) (w : World) (hl : l.length = 32) (h1 : RS (fun _ => True) w tr ts) (h2 : RS (fun _ => True) w pe ps) (hn1 : ts.length ≤ 4096) (hn2 : ps.length ≤ 4096) :
    Calls Tryd.prog 25 #[.agg (lkC l nm tr pe on mo), .string ahead, .string key, .string value] w fun e w' => e = .returned (.int .i64 (ordR ts ps ahead key value (strGt ahead key))) ∧ Below w.heap.size w w' := by
  have B0 : Hid (Below w.heap.size w (w.alloc (Obj.cells (lkC l nm tr pe on mo) 28))) := (Below.refl _ _).alloc (Nat.le_refl _) _
  have LA : Hid (LB (w.alloc (Obj.cells (lkC l nm tr pe on mo) 28)) w.heap.size l nm tr pe on mo) := heap_new _ _
  have HW1 : Hid (RS (fun _ => True) (w.alloc (Obj.cells (lkC l nm tr pe on mo) 28)) tr ts ∧ RS (fun _ => True) (w.alloc (Obj.cells (lkC l nm tr pe on mo) 28)) pe ps) := ⟨h1.move (fun _ h _ => h) B0.out.size (fun b _ hl => B0.out.block b hl), h2.move (fun _ h _ => h) B0.out.size (fun b _ hl => B0.out.block b hl)⟩
  have HO : Hid (ordR ts ps ahead key value (strGt ahead key) = if kdR key < kdR ahead then 227
    else if ((kdR key = 1 ∨ kdR key = 2) ∧ kdR ahead = kdR key) ∨ (kdR key = 3 ∧ winB ts value = true) ∨ (kdR key = 4 ∧ winB ps value = true) ∨ (kdR key = 5 ∧ (ahead.toList == key.toList) = true) then 225
    else if kdR key = 5 ∧ kdR ahead = 5 ∧ strGt ahead key = true then 227 else 0) := rfl
  generalize ordR ts ps ahead key value (strGt ahead key) = res at *
  clear h1 h2
  have k5 := kdR_le key
  have a5 := kdR_le ahead
  go_enter Tryd.func25, Tryd.ntmps25
  go_upto_region 1 with fail
  generalize (w.alloc (Obj.cells (lkC l nm tr pe on mo) 28)) = w0 at *
  generalize hvb : w.heap.size = H at *
  have HS : Hid (w.heap.size = H) := hvb
  have HBW : Hid (Below w.heap.size w w0) := by rw [hvb]; exact B0
  clear hvb
  obtain ⟨_, s33, s34, _, _⟩ := LA.out.cells hl
  clear LA B0
  go_wp2_with fail
  refine (rkind ahead w0).mono ?_
  rintro e w1 ⟨rfl, rfl⟩
  simp only [Nat.add_zero]
  go_wp2_with fail
  refine (rkind key w1).mono ?_
  rintro e w2 ⟨rfl, rfl⟩
  simp only [Nat.add_zero]
  generalize hka : kdR ahead = a at *
  generalize hkk : kdR key = k at *
  clear hka hkk
  by_cases hgt : k < a
  · have hgt' : (k : Int) < (a : Int) := by omega
    have HR : Hid (227 = res) := by have h9 := HO.out; rw [if_pos hgt] at h9; exact h9.symm
    clear HO
    go_wp2
    go_ret
    exact ⟨ret_i HR.out, HBW.out⟩
  have hgt' : ¬ (k : Int) < (a : Int) := by omega
  have HO2 : Hid (res = if ((k = 1 ∨ k = 2) ∧ a = k) ∨ (k = 3 ∧ winB ts value = true) ∨ (k = 4 ∧ winB ps value = true) ∨ (k = 5 ∧ (ahead.toList == key.toList) = true) then 225
    else if k = 5 ∧ a = 5 ∧ strGt ahead key = true then 227 else 0) := by have h9 := HO.out; rw [if_neg hgt] at h9; exact h9
  clear HO
  go_wp2_with fail
  refine (rwithin tr ts value w2 HW1.out.1 (by omega)).mono ?_
  rintro e w3 ⟨rfl, rfl⟩
  go_wp2_with fail
  refine (rwithin pe ps value w3 HW1.out.2 (by omega)).mono ?_
  rintro e w4 ⟨rfl, rfl⟩
  clear s33 s34 HW1
  generalize winB ts value = bt at *
  generalize winB ps value = bp at *
  have HGT : Hid (strGt ahead key = !Op.bytesLess ahead.toList key.toList) := rfl
  rw [HGT.out] at HO2
  generalize hee : (ahead.toList == key.toList) = ee at *
  generalize hgg : Op.bytesLess ahead.toList key.toList = gg at *
  have hk : k = 0 ∨ k = 1 ∨ k = 2 ∨ k = 3 ∨ k = 4 ∨ k = 5 := by omega
  rcases hk with rfl | rfl | rfl | rfl | rfl | rfl
  · have HR : Hid (0 = res) := by have h9 := HO2.out; simp at h9; exact h9.symm
    clear HO2
    go_wp2
    all_goals go_ret
    all_goals exact ⟨ret_i HR.out, HBW.out⟩
  · by_cases hak : a = 1
    · subst hak
      have HR : Hid (225 = res) := by have h9 := HO2.out; simp at h9; exact h9.symm
      clear HO2
      go_wp2
      all_goals go_ret
      all_goals exact ⟨ret_i HR.out, HBW.out⟩
    · have hak' : ¬ (a : Int) = 1 := by omega
      have HR : Hid (0 = res) := by have h9 := HO2.out; simp [hak] at h9; exact h9.symm
      clear HO2
      go_wp2
      all_goals go_ret
      all_goals exact ⟨ret_i HR.out, HBW.out⟩
  · by_cases hak : a = 2
    · subst hak
      have HR : Hid (225 = res) := by have h9 := HO2.out; simp at h9; exact h9.symm
      clear HO2
      go_wp2
      all_goals go_ret
      all_goals exact ⟨ret_i HR.out, HBW.out⟩
    · have hak' : ¬ (a : Int) = 2 := by omega
      have HR : Hid (0 = res) := by have h9 := HO2.out; simp [hak] at h9; exact h9.symm
      clear HO2
      go_wp2
      all_goals go_ret
      all_goals exact ⟨ret_i HR.out, HBW.out⟩
  · cases bt with
    | true =>
      have HR : Hid (225 = res) := by have h9 := HO2.out; simp at h9; exact h9.symm
      clear HO2
      go_wp2
      all_goals go_ret
      all_goals exact ⟨ret_i HR.out, HBW.out⟩
    | false =>
      have HR : Hid (0 = res) := by have h9 := HO2.out; simp at h9; exact h9.symm
      clear HO2
      go_wp2
      all_goals go_ret
      all_goals exact ⟨ret_i HR.out, HBW.out⟩
  · cases bp with
    | true =>
      have HR : Hid (225 = res) := by have h9 := HO2.out; simp at h9; exact h9.symm
      clear HO2
      go_wp2
      all_goals go_ret
      all_goals exact ⟨ret_i HR.out, HBW.out⟩
    | false =>
      have HR : Hid (0 = res) := by have h9 := HO2.out; simp at h9; exact h9.symm
      clear HO2
      go_wp2
      all_goals go_ret
      all_goals exact ⟨ret_i HR.out, HBW.out⟩
  · cases ee with
    | true =>
      have HR : Hid (225 = res) := by have h9 := HO2.out; simp at h9; exact h9.symm
      clear HO2
      go_wp2
      all_goals go_ret
      all_goals exact ⟨ret_i HR.out, HBW.out⟩
    | false =>
      by_cases hak : a = 5
      · subst hak
        cases gg with
        | true =>
          have HR : Hid (0 = res) := by have h9 := HO2.out; simp at h9; exact h9.symm
          clear HO2
          go_wp2
          all_goals go_ret
          all_goals exact ⟨ret_i HR.out, HBW.out⟩
        | false =>
          have HR : Hid (227 = res) := by have h9 := HO2.out; simp at h9; exact h9.symm
          clear HO2
          go_wp2
          all_goals go_ret
          all_goals exact ⟨ret_i HR.out, HBW.out⟩
      · have hak' : ¬ (a : Int) = 5 := by omega
        have HR : Hid (0 = res) := by have h9 := HO2.out; simp [hak] at h9; exact h9.symm
        clear HO2
        go_wp2
        all_goals go_ret
        all_goals exact ⟨ret_i HR.out, HBW.out⟩
end Go.Proofs.YtmfbhihjiebagaaDoor
