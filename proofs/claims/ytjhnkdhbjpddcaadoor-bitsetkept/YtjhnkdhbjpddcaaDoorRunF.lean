import Derived.Test.YtjhnkdhbjpddcaaDoorRunE
namespace Go.Proofs.YtjhnkdhbjpddcaaDoor
open Go.RowKit
set_option maxHeartbeats 1000000 in
theorem runs17_no (n : Int) (h0 : -9223372036854775808 ≤ n) (h1 : n ≤ 9223372036854775807) (v : Value) (l : List UInt8) (w : World) (hr : RB w v l) (hm : MT w) (hl : l.length ≤ 140737488351232) (hck : ck n l ≠ 0) :
    Calls Tryd.prog 26 #[.int .i64 n, v] w fun e w' => e = .returned (.tuple #[.slice none 0 0, .int .i64 (ck n l)]) ∧ Below w.heap.size w w' := by
  have HC : Hid (Calls Tryd.prog 8 #[.int .i64 n, v] w fun e w' => e = .returned (.int .i64 (ck n l)) ∧ ∃ nq, w' = w.drewN nq) := check10 n h0 h1 v l w hr hm hl
  obtain ⟨a, c, rfl, _⟩ := hr
  have hz : (ck n l != 0) = true := by simpa using hck
  clear hck hm
  generalize ck n l = z at *
  go_enter Tryd.func26, Tryd.ntmps26
  go_wp2_with (go_at_call 8; refine HC.out.mono ?_; rintro e w1 ⟨rfl, nq, rfl⟩)
  go_ret2
  exact ⟨rfl, belowDrew _ _⟩
theorem rp_whole {n : Int} {l : List UInt8} (h : ck n l = 0) : (rp (pls (on1 l (8 * l.length)))).1 = rs l n.toNat := by
  obtain ⟨k0, k1, k2, k3⟩ := ck_ok h
  obtain ⟨d, hd⟩ := Nat.exists_eq_add_of_le (show n.toNat ≤ 8 * l.length by omega)
  rw [hd, on1_ext l n.toNat d k3]
  exact (rp_rs l n.toNat (by omega)).1
end Go.Proofs.YtjhnkdhbjpddcaaDoor
