import Derived.Test.YtphehachmgfcaaaDoorOwn
import Derived.Test.YtphehachmgfcaaaDoorCheck
namespace Go.Proofs.YtphehachmgfcaaaDoor
open Go.RowKit
set_option maxHeartbeats 1000000 in
theorem checks3 (n : Int) (h0 : -9223372036854775808 ≤ n) (h1 : n ≤ 9223372036854775807) (v : Value) (l : List UInt8) (w : World) (hr : RB w v l) (hm : MT w) (hl : l.length ≤ 140737488351232) :
    Calls Tryd.prog 3 #[.int .i64 n, v] w fun e w' => e = .returned (.bool true) ∧ Below w.heap.size w w' := by
  have HR : Hid (RB w v l ∧ MT w) := ⟨hr, hm⟩
  clear hm
  obtain ⟨a, c, rfl, _⟩ := hr
  generalize hz : ck n l = z
  have HZ : Hid (ck n l = z) := hz
  clear hz
  go_enter Tryd.func3, Tryd.ntmps3
  go_wp2_with (go_at_call 9; refine (copied9 HR.out.1 hl).mono ?_; rintro e w1 ⟨v1, rfl, ho, hb1⟩)
  obtain ⟨a1, c1, rfl⟩ := ho.form
  go_wp2_with (go_at_call 10; refine (check10 n h0 h1 _ l _ ho.rb (HR.out.2.keep hb1) hl).mono ?_; rw [HZ.out]; rintro e w2 ⟨rfl, nq, rfl⟩)
  go_wp2_with (go_at_call 11; refine (check11 n h0 h1 _ l _ ((HR.out.1.keep hb1).keep (belowDrew _ _)) hl).mono ?_; rw [HZ.out]; rintro e w3 ⟨rfl, nq2, rfl⟩)
  have hb2 : Below w.heap.size w (w1.drewN (nq + nq2)) := hb1.trans ((belowDrew w1 (nq + nq2)).mono hb1.size)
  refine (same12 _ _ l _ hl (ho.rb.keep (belowDrew _ _)) (HR.out.1.keep hb2)).mono ?_
  rintro e w4 ⟨rfl, n4, rfl⟩
  go_wp2
  go_ret
  exact ⟨rfl, belowN hb1 _⟩
end Go.Proofs.YtphehachmgfcaaaDoor
