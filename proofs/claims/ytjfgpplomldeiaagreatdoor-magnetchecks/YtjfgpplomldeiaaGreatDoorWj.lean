import Derived.Test.YtjfgpplomldeiaaGreatDoorWi
namespace Go.Proofs.YtjfgpplomldeiaaGreatDoor
open Go.RowKit Go.Deep
theorem belowDrewN (w : World) (n : Nat) : Below w.heap.size w (w.drewN n) := ⟨rfl, rfl, rfl, Nat.le_refl _, fun _ _ => rfl⟩
set_option maxHeartbeats 4000000 in
set_option maxRecDepth 100000 in
theorem linkSame (k : Lk) (tr pe on mo t2 p2 o2 m2 : Value) (w : World) (hk : k.ok) (h1 : RL4 (fun _ => True) w k tr pe on mo) (h2 : RL4 (fun _ => True) w k t2 p2 o2 m2) :
    Calls Tryz.prog 9 #[.agg (lkC k.l k.nm tr pe on mo), .agg (lkC k.l k.nm t2 p2 o2 m2)] w fun e w' => e = .returned (.bool true) ∧ Below w.heap.size w w' := by
  obtain ⟨oa, oc, rfl⟩ : ∃ a c, on = .slice a k.rs.length c := by obtain ⟨p, q, e, _⟩ := h1.2.2.1; exact ⟨p, q, e⟩
  obtain ⟨ob, od, rfl⟩ : ∃ a c, o2 = .slice a k.rs.length c := by obtain ⟨p, q, e, _⟩ := h2.2.2.1; exact ⟨p, q, e⟩
  have hl := hk.l
  have hrs := hk.rs
  have HK : Hid k.ok := hk
  have B0 : Hid (Below w.heap.size w ((w.alloc (Obj.cells (lkC k.l k.nm tr pe (.slice oa k.rs.length oc) mo) 28)).alloc (Obj.cells (lkC k.l k.nm t2 p2 (.slice ob k.rs.length od) m2) 28))) := ((Below.refl _ _).alloc (Nat.le_refl _) _).alloc (by simp) _
  have LA : Hid (LB ((w.alloc (Obj.cells (lkC k.l k.nm tr pe (.slice oa k.rs.length oc) mo) 28)).alloc (Obj.cells (lkC k.l k.nm t2 p2 (.slice ob k.rs.length od) m2) 28)) w.heap.size k.l k.nm tr pe (.slice oa k.rs.length oc) mo) := (Below.heap_alloc _ _ _ (by simp)).trans (heap_new _ _)
  have LBb : Hid (LB ((w.alloc (Obj.cells (lkC k.l k.nm tr pe (.slice oa k.rs.length oc) mo) 28)).alloc (Obj.cells (lkC k.l k.nm t2 p2 (.slice ob k.rs.length od) m2) 28)) (w.heap.size + 1) k.l k.nm t2 p2 (.slice ob k.rs.length od) m2) := by
    have h9 := heap_new (w.alloc (Obj.cells (lkC k.l k.nm tr pe (.slice oa k.rs.length oc) mo) 28)) (Obj.cells (lkC k.l k.nm t2 p2 (.slice ob k.rs.length od) m2) 28)
    have e9 : (w.alloc (Obj.cells (lkC k.l k.nm tr pe (.slice oa k.rs.length oc) mo) 28)).heap.size = w.heap.size + 1 := by simp
    rw [e9] at h9
    exact h9
  have R1 : Hid (RL4 (fun _ => True) ((w.alloc (Obj.cells (lkC k.l k.nm tr pe (.slice oa k.rs.length oc) mo) 28)).alloc (Obj.cells (lkC k.l k.nm t2 p2 (.slice ob k.rs.length od) m2) 28)) k tr pe (.slice oa k.rs.length oc) mo ∧ RL4 (fun _ => True) ((w.alloc (Obj.cells (lkC k.l k.nm tr pe (.slice oa k.rs.length oc) mo) 28)).alloc (Obj.cells (lkC k.l k.nm t2 p2 (.slice ob k.rs.length od) m2) 28)) k t2 p2 (.slice ob k.rs.length od) m2) := ⟨h1.move (fun _ h _ => h) B0.out.size (fun b _ hl => B0.out.block b hl), h2.move (fun _ h _ => h) B0.out.size (fun b _ hl => B0.out.block b hl)⟩
  clear h1 h2 hk
  go_enter Tryz.func9, Tryz.ntmps9
  go_upto_region 1 with fail
  generalize ((w.alloc (Obj.cells (lkC k.l k.nm tr pe (.slice oa k.rs.length oc) mo) 28)).alloc (Obj.cells (lkC k.l k.nm t2 p2 (.slice ob k.rs.length od) m2) 28)) = w0 at *
  generalize hvb : w.heap.size = H at *
  have HS : Hid (w.heap.size = H) := hvb
  clear hvb
  obtain ⟨a32, a33, a34, a35, a36⟩ := LA.out.cells hl
  obtain ⟨b32, b33, b34, b35, b36⟩ := LBb.out.cells hl
  have hq := fun w => neq_hash w k.l hl
  go_wp2_with (first | (refine load_mid_if rfl 23 _ rfl H 0 rfl (Lib.byteCells k.l) _ LA.out.range Tryz.underlying23 rfl (infoHs hl) ?_) | (refine load_mid_if rfl 23 _ rfl (H + 1) 0 rfl (Lib.byteCells k.l) _ LBb.out.range Tryz.underlying23 rfl (infoHs hl) ?_))
  refine (textsSame tr t2 k.ts w0 HK.out.ts.1 R1.out.1.1 R1.out.2.1).mono ?_
  rintro e w1 ⟨rfl, nq, rfl⟩
  go_wp2_with fail
  refine (textsSame pe p2 k.ps (w0.drewN nq) HK.out.ps.1 (R1.out.1.2.1.move (fun _ h _ => h) (Nat.le_refl _) (fun _ _ _ => rfl)) (R1.out.2.2.1.move (fun _ h _ => h) (Nat.le_refl _) (fun _ _ _ => rfl))).mono ?_
  rintro e w1 ⟨rfl, nq2, rfl⟩
  clear hq a32 a33 a34 b32 b33 b34
  go_wp2
  have HD : Hid (Below w0.heap.size w0 (w0.drewN (nq + nq2))) := belowDrewN w0 (nq + nq2)
  replace a35 : (w0.drewN (nq + nq2)).cell? ⟨H, 35, none⟩ = some (.slice oa k.rs.length oc) := a35
  replace a36 : (w0.drewN (nq + nq2)).cell? ⟨H, 36, none⟩ = some mo := a36
  replace b35 : (w0.drewN (nq + nq2)).cell? ⟨H + 1, 35, none⟩ = some (.slice ob k.rs.length od) := b35
  replace b36 : (w0.drewN (nq + nq2)).cell? ⟨H + 1, 36, none⟩ = some m2 := b36
  generalize (w0.drewN (nq + nq2)) = w1 at *
  have R2 : Hid (RL4 (fun _ => True) w1 k tr pe (.slice oa k.rs.length oc) mo ∧ RL4 (fun _ => True) w1 k t2 p2 (.slice ob k.rs.length od) m2) := ⟨R1.out.1.move (fun _ h _ => h) HD.out.size (fun b _ hl => HD.out.block b hl), R1.out.2.move (fun _ h _ => h) HD.out.size (fun b _ hl => HD.out.block b hl)⟩
  have HB1 : Hid (Below H w w1) := B0.out.trans (HD.out.mono (by have := LA.out.lt; omega))
  clear R1 HD LA LBb B0
  generalize hn : k.rs.length = n at *
  have HN : Hid (k.rs.length = n) := hn
  clear hn
  go_loopw [5] (fun i wr => ∃ j nq : Nat, j ≤ n ∧ i = .int .i64 j ∧ wr = w1.drewN nq) (fun i _ => n - (intOf i).toNat)
  case atStart => exact ⟨0, 0, Nat.zero_le _, rfl, rfl⟩
  case round =>
    obtain ⟨j, nr, hj, rfl, rfl⟩ := hrel
    by_cases hlt : j < n
    · obtain ⟨p1, q1, e1, h1⟩ := R2.out.1.2.2.1
      obtain ⟨p2', q2, e2, h2⟩ := R2.out.2.2.2.1
      rw [HN.out] at e1 e2 h1 h2
      rcases h1 with h | ⟨b1, o1, rfl, _, _, h1⟩
      · omega
      rcases h2 with h | ⟨bb, oo, rfl, _, _, h2⟩
      · omega
      simp only [Value.slice.injEq, true_and] at e1 e2
      obtain ⟨rfl, rfl⟩ := e1
      obtain ⟨rfl, rfl⟩ := e2
      obtain ⟨x, hx⟩ : ∃ x, k.rs[j]? = some x := ⟨_, List.getElem?_eq_getElem (by have := HN.out; omega)⟩
      obtain ⟨g1, g2⟩ := h1 j x hx
      obtain ⟨g3, g4⟩ := h2 j x hx
      obtain ⟨x1, x2⟩ := x
      clear h1 h2 hx
      go_wp2
      go_quiet (fail)
      go_wp2
      go_roundw
      case rel => exact ⟨j + 1, _, by omega, by go_num, rfl⟩
      case measure => simp [intOf]; omega
    · obtain rfl : j = n := by omega
      go_wp2_with fail
      refine (pairsSame k.dn k.ky k.dv (fun i _ => valueSame (k.dv i)) mo m2 (w1.drewN nr) HK.out.dn.1 (fun i hi => (HK.out.dn.2 i hi).2) (RD.move (w := w1) (w' := w1.drewN nr) (fun _ h _ => h) (Nat.le_refl w1.heap.size) (fun _ _ _ => rfl) R2.out.1.2.2.2) (RD.move (w := w1) (w' := w1.drewN nr) (fun _ h _ => h) (Nat.le_refl w1.heap.size) (fun _ _ _ => rfl) R2.out.2.2.2.2)).mono ?_
      rintro e w2 ⟨rfl, b2⟩
      have HB2 : Hid (Below w.heap.size w w2) := by
        have h9 : Below H w w2 := (HB1.out.trans ((belowDrewN w1 nr).mono (by have := HB1.out.size; have := HS.out; omega))).trans (b2.mono (by have h8 := HB1.out.size; have := HS.out; show H ≤ w1.heap.size; omega))
        rw [HS.out]; exact h9
      clear b2
      go_wp2
      go_ret
      exact ⟨rfl, HB2.out⟩
end Go.Proofs.YtjfgpplomldeiaaGreatDoor
