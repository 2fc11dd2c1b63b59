import Derived.Test.YtnjdopdlafcbgaaGg
namespace Go.Proofs.Ytnjdopdlafcbgaa
open Go.RowKit Go.Deep
set_option maxHeartbeats 1000000 in
theorem own49 (s : ByteArray) (w : World) : Calls Try.prog 49 #[.string s] w fun e w' => e = .returned (.bool (owB s)) ∧ w' = w := by
  have HO : owB s = (s.toList == [109] || (s.toList == [109, 101, 116, 97, 100, 97, 116, 97, 95, 115, 105, 122, 101] || (s.toList == [114, 101, 113, 113] || s.toList == [118]))) := rfl
  have HO2 := Lib.hid HO
  clear HO
  by_cases h1 : s.toList = [109]
  · have HE : Hid (owB s = true) := by
      show _ = true
      rw [HO2.out]
      simp [h1]
    clear HO2
    go_enter Try.func49, Try.ntmps49
    go_wp2
    go_ret
    exact ⟨by rw [HE.out]; rfl, rfl⟩
  by_cases h2 : s.toList = [109, 101, 116, 97, 100, 97, 116, 97, 95, 115, 105, 122, 101]
  · have HE : Hid (owB s = true) := by
      show _ = true
      rw [HO2.out]
      simp [h2]
    clear HO2
    go_enter Try.func49, Try.ntmps49
    go_wp2
    go_ret
    exact ⟨by rw [HE.out]; rfl, rfl⟩
  by_cases h3 : s.toList = [114, 101, 113, 113]
  · have HE : Hid (owB s = true) := by
      show _ = true
      rw [HO2.out]
      simp [h3]
    clear HO2
    go_enter Try.func49, Try.ntmps49
    go_wp2
    go_ret
    exact ⟨by rw [HE.out]; rfl, rfl⟩
  by_cases h4 : s.toList = [118]
  · have HE : Hid (owB s = true) := by
      show _ = true
      rw [HO2.out]
      simp [h4]
    clear HO2
    go_enter Try.func49, Try.ntmps49
    go_wp2
    go_ret
    exact ⟨by rw [HE.out]; rfl, rfl⟩
  have HE : Hid (owB s = false) := by
    show _ = false
    rw [HO2.out]
    simp [h1, h2, h3, h4]
  clear HO2
  go_enter Try.func49, Try.ntmps49
  go_wp2
  go_ret
  exact ⟨by rw [HE.out]; simp [Array.getD, h1, h2, h3, h4], rfl⟩
set_option maxHeartbeats 1000000 in
theorem number67 (n : Int) (w : World) : Calls Try.prog 67 #[.int .i64 n] w fun e w' => e = .returned (.agg #[.int .i64 1, .int .i64 n, .string ⟨#[]⟩, .slice none 0 0, .slice none 0 0]) ∧ Below w.heap.size w w' := by
  have HW : Hid (∀ o, Below w.heap.size w (w.alloc o)) := fun _ => (Below.refl _ _).alloc (Nat.le_refl _) _
  go_enter Try.func67, Try.ntmps67
  go_wp2
  exact bodyPost_ret (v := .agg #[.int .i64 1, .int .i64 n, .string ⟨#[]⟩, .slice none 0 0, .slice none 0 0]) (results_cell_row Try.results67 _ _ w.heap.size 56 _ (0, 0) _ rfl (heap_new _ _) Try.underlying56 rfl info35s56) rfl ⟨rfl, HW.out _⟩
end Go.Proofs.Ytnjdopdlafcbgaa
