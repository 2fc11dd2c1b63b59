import Derived.Test.YtglknmelcianjaaRi2
import Derived.Test.YtglknmelcianjaaFz
namespace Go.Proofs.Ytglknmelcianjaa
open Go.RowKit
section
variable {S : Nat → Prop} {w w' : World} {p q lb cap : Nat} {wv : Value} {ps : List (Wt × Value)} {lf : Int} {D : Dk}
/-- the disk behind a Fuse -/
def fuD (n : Nat) (D : Dk) : Dk := if blownF D.fu then D else ⟨D.last, D.ws, some n⟩
theorem fuD_t {n : Nat} (h : blownF D.fu = true) : fuD n D = D := by unfold fuD; rw [if_pos h]
theorem fuD_f {n : Nat} (h : blownF D.fu = false) : fuD n D = ⟨D.last, D.ws, some n⟩ := by unfold fuD; rw [if_neg (by rw [h]; decide)]
set_option maxHeartbeats 1000000 in
theorem fuseT (h : DK S w p D) (n : Nat) (hn : n ≤ 9223372036854775807) : Calls Try.prog 33 #[.pointer (some ⟨p, 0, none⟩), .int .i64 n] w fun e w' => e = .returned (.int .i64 0) ∧ DK S w' p (fuD n D) ∧ Fr (fun k => ¬ S k) w w' := by
  have HC := Lib.hid (blown D.fu w)
  have HD : Hid (DK S w p D) := h
  obtain ⟨lb, cap, mb, ov, M, L, h⟩ := h
  have c3 := h.c3
  have c4 := h.c4
  have hsz : (w.heap[p]?).isSome = true := by rw [h.blk]; rfl
  clear h
  go_enter Try.func33, Try.ntmps33
  go_wp2_with fail
  refine HC.out.mono ?_
  rintro e w1 ⟨rfl, hb1⟩
  have H1 : Hid (DK S w1 p D ∧ Below w.heap.size w w1) := ⟨HD.out.below hb1, hb1⟩
  obtain ⟨lb1, cap1, mb1, ov1, M1, L1, h1⟩ := H1.out.1
  have d3 := h1.c3
  have d4 := h1.c4
  have f3 := h1.frz 3
  have f4 := h1.frz 4
  rcases hb : blownF D.fu with _ | _
  · have H2 : Hid (DK S ((w1.setCell ⟨p, 3, none⟩ (.bool true)).setCell ⟨p, 4, none⟩ (.int .i64 n)) p (fuD n D) ∧ Fr (fun k => ¬ S k) w1 ((w1.setCell ⟨p, 3, none⟩ (.bool true)).setCell ⟨p, 4, none⟩ (.int .i64 n))) := by
      rw [fuD_f hb]
      exact dk_fuse H1.out.1 n hn
    clear h1 hb1 HC c3 c4 HD hb
    go_wp2_with fail
    go_ret
    exact ⟨rfl, H2.out.1, (Fr.of_below H1.out.2).trans H2.out.2 (fun _ _ h => h)⟩
  · have H2 : Hid (DK S w1 p (fuD n D)) := by
      rw [fuD_t hb]
      exact H1.out.1
    clear h1 hb1 HC c3 c4 HD hb
    go_wp2_with fail
    go_ret
    exact ⟨rfl, H2.out, Fr.of_below H1.out.2⟩
theorem RI.fused (h : RI S w q lb cap wv ps lf D) (n : Nat) (hn : n ≤ 9223372036854775807) : RI S ((w.setCell ⟨q, 2, none⟩ (.bool true)).setCell ⟨q, 3, none⟩ (.int .i64 n)) q lb cap wv ps n ⟨D.last, D.ws, some n⟩ := by
  have hb : (w.setCell ⟨q, 2, none⟩ (.bool true)).heap[q]? = some (.cells #[.slice (some ⟨lb, 0, none⟩) D.last.length cap, wv, .bool true, .int .i64 lf] 47 (0, 0)) := by
    rw [setCell_eq_setRow w q _ _ _ _ _ h.blk]
    exact heapSetRow _ _ _ _ _ h.blk
  have hf : Fr (fun k => k ≠ q) w ((w.setCell ⟨q, 2, none⟩ (.bool true)).setCell ⟨q, 3, none⟩ (.int .i64 n)) := ((Fr.refl _ w).setCell q 2 _ (fun _ e => e rfl)).setCell q 3 _ (fun _ e => e rfl)
  refine ⟨?_, fun k hk => by cases hk; rfl, ownsRow_fr h.las hf (fun g hg => by simp [Value.ownBlock] at hg; subst hg; exact h.lbq), h.ws, ownsRow_fr h.row hf (fun g hg e => h.wq (by rw [← e]; exact hg)), fun p hp => ⟨ownsRow_fr (h.dat p hp).1 hf (fun g hg e => h.dq hp (by rw [← e]; exact hg)), (h.dat p hp).2⟩, h.sq, h.sl, h.sw, ⟨h.gd.mul, h.gd.pos, h.gd.max, h.gd.ws, fun k hk => by cases hk; exact hn⟩⟩
  rw [setCell_eq_setRow _ q _ _ _ _ _ hb]
  exact heapSetRow _ _ _ _ _ hb
set_option maxHeartbeats 1000000 in
theorem rfuseT (h : RI S w q lb cap wv ps lf D) (n : Nat) (hn : n ≤ 9223372036854775807) : Calls Try.prog 34 #[.pointer (some ⟨q, 0, none⟩), .int .i64 n] w fun e w' => e = .returned (.int .i64 0) ∧ RK S w' q (fuD n D) ∧ Fr (fun k => ¬ S k) w w' := by
  have c2 := h.c2
  have c3 := h.c3
  have f2 := h.frz 2
  have f3 := h.frz 3
  rcases hb : blownF D.fu with _ | _
  · have H2 : Hid (RK S ((w.setCell ⟨q, 2, none⟩ (.bool true)).setCell ⟨q, 3, none⟩ (.int .i64 n)) q (fuD n D) ∧ Fr (fun k => ¬ S k) w ((w.setCell ⟨q, 2, none⟩ (.bool true)).setCell ⟨q, 3, none⟩ (.int .i64 n))) := by
      rw [fuD_f hb]
      exact ⟨⟨_, _, _, _, _, h.fused n hn⟩, ((Fr.refl _ w).setCell q 2 _ (fun _ hk => hk h.sq)).setCell q 3 _ (fun _ hk => hk h.sq)⟩
    cases hfu : D.fu with
    | none =>
      rw [hfu] at c2
      clear h hb hfu
      go_enter Try.func34, Try.ntmps34
      go_wp2
      go_ret
      exact ⟨rfl, H2.out.1, H2.out.2⟩
    | some k =>
      rw [hfu] at c2
      have hlf := h.left k hfu
      have hk : decide ((0 : Int) < lf) = true := by
        cases k with
        | zero => rw [hfu] at hb; cases hb
        | succ j => rw [hlf]; exact decide_eq_true (by omega)
      clear h hb hfu hlf
      go_enter Try.func34, Try.ntmps34
      go_wp2
      go_ret
      exact ⟨rfl, H2.out.1, H2.out.2⟩
  · have H2 : Hid (RK S w q (fuD n D)) := by
      rw [fuD_t hb]
      exact ⟨_, _, _, _, _, h⟩
    cases hfu : D.fu with
    | none => rw [hfu] at hb; cases hb
    | some k =>
      rw [hfu] at c2
      have hlf := h.left k hfu
      have hk : lf = 0 := by
        cases k with
        | zero => exact hlf
        | succ j => rw [hfu] at hb; cases hb
      subst hk
      clear h hb hfu hlf
      go_enter Try.func34, Try.ntmps34
      go_wp2
      go_ret
      exact ⟨rfl, H2.out, Fr.refl _ _⟩
theorem rfuse_arg (q : Nat) (w : World) (n : Int) (hn : n < 0) : Calls Try.prog 34 #[.pointer (some ⟨q, 0, none⟩), .int .i64 n] w fun e w' => e = .returned (.int .i64 2) ∧ w' = w := by
  have hq : decide (n < 0) = true := decide_eq_true hn
  go_enter Try.func34, Try.ntmps34
  go_wp2_with fail
  go_ret
  exact ⟨rfl, rfl⟩
theorem rfuse_nil (w : World) (n : Int) : Calls Try.prog 34 #[.pointer none, .int .i64 n] w fun e w' => e = .returned (.int .i64 1) ∧ w' = w := by
  go_enter Try.func34, Try.ntmps34
  go_wp2_with fail
  go_ret
  exact ⟨rfl, rfl⟩
theorem fuse_nil (w : World) (n : Int) : Calls Try.prog 33 #[.pointer none, .int .i64 n] w fun e w' => e = .returned (.int .i64 1) ∧ w' = w := by
  go_enter Try.func33, Try.ntmps33
  go_wp2_with fail
  go_ret
  exact ⟨rfl, rfl⟩
theorem rsync_nil (w : World) : Calls Try.prog 32 #[.pointer none] w fun e w' => e = .returned (.int .i64 1) ∧ w' = w := by
  go_enter Try.func32, Try.ntmps32
  go_wp2_with fail
  go_ret
  exact ⟨rfl, rfl⟩
theorem rwrite_nil (w : World) (n : Int) (v : Value) : Calls Try.prog 30 #[.pointer none, .int .i64 n, v] w fun e w' => e = .returned (.int .i64 1) ∧ w' = w := by
  go_enter Try.func30, Try.ntmps30
  go_wp2_with fail
  go_ret
  exact ⟨rfl, rfl⟩
theorem rcrash_nil (w : World) (v : Value) (a b : Int) : Calls Try.prog 36 #[.pointer none, v, .int .i64 a, .int .i64 b] w fun e w' => e = .returned (.int .i64 1) ∧ w' = w := by
  go_enter Try.func36, Try.ntmps36
  go_wp2_with fail
  go_ret
  exact ⟨rfl, rfl⟩
theorem rcopy_nil (w : World) : Calls Try.prog 11 #[.pointer none] w fun e w' => e = .returned (.pointer none) ∧ w' = w := by
  go_enter Try.func11, Try.ntmps11
  go_wp2_with fail
  go_ret
  exact ⟨rfl, rfl⟩
end
end Go.Proofs.Ytglknmelcianjaa
