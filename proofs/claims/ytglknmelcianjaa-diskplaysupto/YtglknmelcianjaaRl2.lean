import Derived.Test.YtglknmelcianjaaRk2
namespace Go.Proofs.Ytglknmelcianjaa
open Go.RowKit
/-- a new disk of the reference's was answered -/
def RNw (w : World) (l : List UInt8) (e : Ending) (w' : World) : Prop := ∃ q, e = .returned (.tuple #[.pointer (some ⟨q, 0, none⟩), .int .i64 0]) ∧ RK (fun k => w.heap.size ≤ k) w' q ⟨l, [], none⟩ ∧ Below w.heap.size w w'
set_option maxHeartbeats 1000000 in
theorem rnewT (n : Nat) (w : World) (h1 : 1 ≤ n) (h2 : n ≤ 65536) : Calls Try.prog 5 #[.int .i64 n] w (RNw w (zr (64 * n))) := by
  have hmk := make_sec n h2
  have hO : OW w.heap.size (w.alloc (.cells (bc (zr (64 * n))) 5)) (.slice (some ⟨w.heap.size, 0, none⟩) (zr (64 * n)).length (64 * n)) (zr (64 * n)) :=
    OW.of_block (Nat.le_refl _) (heapNew _ _) (by rw [zr_len]) (by simp) (Nat.le_refl _) (by rw [zr_len]; unfold maxLen; omega)
  have hF := ri_new hO (by simp) (gd_new _ (by rw [zr_len]; omega) (by rw [zr_len]; omega) (by rw [zr_len]; omega))
  rw [zr_len] at hF
  have hs : (w.alloc (.cells (bc (zr (64 * n))) 5)).heap.size = w.heap.size + 1 := by simp
  have HF : Hid (RK (fun k => w.heap.size ≤ k) ((w.alloc (.cells (bc (zr (64 * n))) 5)).alloc (.cells #[.slice (some ⟨w.heap.size, 0, none⟩) (64 * n) (64 * n), .slice none 0 0, .bool false, .int .i64 0] 47)) (w.heap.size + 1) ⟨zr (64 * n), [], none⟩) := by rw [← hs]; exact hF
  clear hF hO hs
  have HB : Hid (∀ o1 o2, Below w.heap.size w ((w.alloc o1).alloc o2)) := fun _ _ => ((Below.refl _ _).alloc (Nat.le_refl _) _).alloc (by simp) _
  generalize bc (zr (64 * n)) = cs at *
  go_enter Try.func5, Try.ntmps5
  go_wp2
  go_ret2
  exact ⟨_, rfl, HF.out, HB.out _ _⟩
set_option maxHeartbeats 1000000 in
theorem rloadT (v : Value) (l : List UInt8) (w : World) (hr : RB w v l) (h1 : l.length % 64 = 0) (h2 : 64 ≤ l.length) (h3 : l.length ≤ 4194304) : Calls Try.prog 8 #[v] w (RNw w l) := by
  have HC := Lib.hid (bytesOf v l w hr (by omega))
  have HG := Lib.hid (gd_new l h1 h2 h3)
  obtain ⟨a, c, rfl, _, _⟩ := hr
  generalize hn : l.length = n at *
  have HL : Hid (l.length = n) := hn
  clear hn
  have hm : (n : Int) % 64 = 0 := by omega
  have hn0 : ((n : Int) == 0) = false := by simp; omega
  have hn4 : decide (4194304 < (n : Int)) = false := by simp; omega
  go_enter Try.func8, Try.ntmps8
  go_wp2_with fail
  refine HC.out.mono ?_
  rintro e w1 ⟨v1, rfl, ho, hb⟩
  obtain ⟨lb, c', rfl⟩ : ∃ lb c', v1 = .slice (some ⟨lb, 0, none⟩) l.length c' := by
    rcases ho.2 with ⟨_, e⟩ | ⟨g, c', cur, e, _⟩
    · have := HL.out; omega
    · exact ⟨g, c', e⟩
  have HF : Hid (RK (fun k => w.heap.size ≤ k) (w1.alloc (.cells #[.slice (some ⟨lb, 0, none⟩) l.length c', .slice none 0 0, .bool false, .int .i64 0] 47)) w1.heap.size ⟨l, [], none⟩ ∧ Below w.heap.size w (w1.alloc (.cells #[.slice (some ⟨lb, 0, none⟩) l.length c', .slice none 0 0, .bool false, .int .i64 0] 47))) := ⟨ri_new ho hb.size HG.out, hb.alloc hb.size _⟩
  clear ho hb HC
  rw [HL.out] at *
  go_wp2
  go_ret2
  exact ⟨_, rfl, HF.out.1, HF.out.2⟩
end Go.Proofs.Ytglknmelcianjaa
