import Derived.Test.YtglknmelcianjaaCr
namespace Go.Proofs.Ytglknmelcianjaa
open Go.RowKit
section
variable {S : Nat → Prop} {w : World} {p : Nat} {D : Dk}
theorem dk_fuse (h : DK S w p D) (n : Nat) (hn : n ≤ 9223372036854775807) : DK S ((w.setCell ⟨p, 3, none⟩ (.bool true)).setCell ⟨p, 4, none⟩ (.int .i64 n)) p ⟨D.last, D.ws, some n⟩ ∧ Fr (fun k => ¬ S k) w ((w.setCell ⟨p, 3, none⟩ (.bool true)).setCell ⟨p, 4, none⟩ (.int .i64 n)) := by
  obtain ⟨lb, cap, mb, ov, M, L, h⟩ := h
  have hp : DP S ((w.setCell ⟨p, 3, none⟩ (.bool true)).setCell ⟨p, 4, none⟩ (.int .i64 n)) p lb cap mb D.ws.length ov ov M L (fun s => lv s 0 D.ws) D.last (D.ws.map (·.at_)) (some n) := by
    refine h.dp.own rfl rfl ?_ (((Fr.refl _ w).setCell p 3 _ (fun _ h => h rfl)).setCell p 4 _ (fun _ h => h rfl))
    have h1 : (w.setCell ⟨p, 3, none⟩ (.bool true)).heap[p]? = some (.cells #[.slice (some ⟨lb, 0, none⟩) D.last.length cap, .map (some mb), ov, .bool true, .int .i64 (D.fu.getD 0)] 55 (0, 0)) := by
      rw [setCell_eq_setRow w p _ _ _ _ _ h.blk]
      exact heapSetRow _ _ _ _ _ h.blk
    rw [setCell_eq_setRow _ p _ _ _ _ _ h1]
    exact heapSetRow _ _ _ _ _ h1
  refine ⟨⟨lb, cap, mb, ov, M, L, hp.blk, hp.las, hp.map, ?_, h.key, h.got, hp.liv, h.nol, hp.dis, hp.sp, hp.sl, hp.sm, hp.so, hp.sv, h.gd.mul, h.gd.pos, h.gd.max, h.gd.ws, fun k hk => ?_⟩, ((Fr.refl _ w).setCell _ _ _ (fun _ hn => hn h.sp)).setCell _ _ _ (fun _ hn => hn h.sp)⟩
  · have := hp.ord
    rw [List.length_map, List.map_map] at this
    exact this
  · cases hk
    exact hn
set_option maxHeartbeats 1000000 in
theorem fuse_ok (h : DK S w p D) (hf : D.fu = none) (n : Nat) (hn : n ≤ 9223372036854775807) : Calls Try.prog 33 #[.pointer (some ⟨p, 0, none⟩), .int .i64 n] w fun e w' => e = .returned (.int .i64 0) ∧ DK S w' p ⟨D.last, D.ws, some n⟩ ∧ Fr (fun k => ¬ S k) w w' := by
  have HC := Lib.hid (blown D.fu w)
  have HB : Hid (blownF D.fu = false) := by rw [hf]; rfl
  have HD : Hid (DK S w p D) := h
  obtain ⟨lb, cap, mb, ov, M, L, h⟩ := h
  have c3 := h.c3
  have c4 := h.c4
  rw [hf] at c3 c4
  rw [hf] at HC
  have hsz : (w.heap[p]?).isSome = true := by rw [h.blk]; rfl
  clear h
  go_enter Try.func33, Try.ntmps33
  go_wp2_with fail
  refine HC.out.mono ?_
  rintro e w1 ⟨rfl, hb1⟩
  have H1 : Hid (DK S w1 p D ∧ Below w.heap.size w w1) := ⟨HD.out.below hb1, hb1⟩
  obtain ⟨lb1, cap1, mb1, ov1, M1, L1, h1⟩ := H1.out.1
  have d3 := h1.c3
  have d4 := h1.c4
  have f3 := h1.frz 3
  have f4 := h1.frz 4
  have H2 := Lib.hid (dk_fuse H1.out.1 n hn)
  clear h1 hb1 HC c3 c4 HD
  rw [show blownF none = false from rfl]
  go_wp2_with fail
  go_ret
  exact ⟨rfl, H2.out.1, (Fr.of_below H1.out.2).trans H2.out.2 (fun _ _ h => h)⟩
theorem fuse_arg (_h : DK S w p D) (n : Int) (hn : n < 0) : Calls Try.prog 33 #[.pointer (some ⟨p, 0, none⟩), .int .i64 n] w fun e w' => e = .returned (.int .i64 2) ∧ w' = w := by
  have hq : decide (n < 0) = true := decide_eq_true hn
  go_enter Try.func33, Try.ntmps33
  go_wp2_with fail
  go_ret
  exact ⟨rfl, rfl⟩
end
end Go.Proofs.Ytglknmelcianjaa
