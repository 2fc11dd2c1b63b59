import Derived.Test.YtdlnnnlmlaploabDoorM08
namespace Go.Proofs.YtdlnnnlmlaploabDoor
open Go.RowKit Go.Deep
set_option maxRecDepth 10000 in
set_option maxHeartbeats 1000000 in
theorem due54z {B rb : Nat} {w : World} {a : Option Addr} {c : Nat} {b : List UInt8} {i n : Nat} {ov : Value} {us : List Value} (h : SR B rb w a c b i n ov 0 us) (hn : n ≤ 1048577) :
    Calls Tryd.prog 81 #[.pointer (some ⟨rb, 0, none⟩)] w fun e w' => e = .returned (.agg (sv9 0 i 0 0 (-1) 0 ByteArray.empty n 0)) ∧ SR B rb w' a c b i (n + 1) ov 0 us ∧ Besides rb w w' := by
  obtain ⟨c0, c1, c2, c3, f1, f2, f3⟩ := h.cells
  have hov : ∃ oa oc, ov = .slice oa 0 oc := by
    rcases h.own.2 with ⟨rfl, _⟩ | ⟨g, cap, cur, q1, _⟩
    · exact ⟨_, _, rfl⟩
    · exact ⟨_, _, q1⟩
  obtain ⟨oa, oc, rfl⟩ := hov
  have hn1 : (n : Int) ≤ 1048577 := by omega
  have n1 := World.new_ne w _ c1
  have hb0 : Below w.heap.size w (w.alloc zero9) := (Below.refl _ _).alloc (Nat.le_refl _) _
  have HX := Lib.hid (And.intro h (And.intro hb0 (h.keep hb0)))
  obtain ⟨d0, d1, d2, d3, e1, e2, e3⟩ := HX.out.2.2.cells
  have k0 : blk (w.alloc zero9) w.heap.size 60 #[.int .i64 0, .int .i64 0, .int .i64 0, .int .i64 0, .int .i64 0, .int .i64 0, .string { data := #[] }, .int .i64 0, .int .i64 0] := heap_new w zero9
  have hb1 : Below w.heap.size w ((w.alloc zero9).alloc (Obj.cells #[.int .i64 0, .int .i64 0, .int .i64 0, .int .i64 0, .int .i64 0, .int .i64 0, .string { data := #[] }, .int .i64 n, .int .i64 0] 60)) := hb0.alloc (by simp) _
  have HY : Hid (SR B rb ((w.alloc zero9).alloc (Obj.cells #[.int .i64 0, .int .i64 0, .int .i64 0, .int .i64 0, .int .i64 0, .int .i64 0, .string { data := #[] }, .int .i64 n, .int .i64 0] 60)) a c b i n (.slice oa 0 oc) 0 us ∧ Below w.heap.size w ((w.alloc zero9).alloc (Obj.cells #[.int .i64 0, .int .i64 0, .int .i64 0, .int .i64 0, .int .i64 0, .int .i64 0, .string { data := #[] }, .int .i64 n, .int .i64 0] 60)) ∧
      blk ((w.alloc zero9).alloc (Obj.cells #[.int .i64 0, .int .i64 0, .int .i64 0, .int .i64 0, .int .i64 0, .int .i64 0, .string { data := #[] }, .int .i64 n, .int .i64 0] 60)) w.heap.size 60 #[.int .i64 0, .int .i64 0, .int .i64 0, .int .i64 0, .int .i64 0, .int .i64 0, .string { data := #[] }, .int .i64 0, .int .i64 0] ∧
      blk ((w.alloc zero9).alloc (Obj.cells #[.int .i64 0, .int .i64 0, .int .i64 0, .int .i64 0, .int .i64 0, .int .i64 0, .string { data := #[] }, .int .i64 n, .int .i64 0] 60)) (w.heap.size + 1) 60 #[.int .i64 0, .int .i64 0, .int .i64 0, .int .i64 0, .int .i64 0, .int .i64 0, .string { data := #[] }, .int .i64 n, .int .i64 0]) :=
    ⟨h.keep hb1, hb1, k0.keep (Below.heap_alloc _ _ _ k0.lt), by have h2 := heap_new (w.alloc zero9) (Obj.cells #[.int .i64 0, .int .i64 0, .int .i64 0, .int .i64 0, .int .i64 0, .int .i64 0, .string { data := #[] }, .int .i64 n, .int .i64 0] 60); rw [show (w.alloc zero9).heap.size = w.heap.size + 1 from Array.size_push ..] at h2; exact h2⟩
  obtain ⟨_, g1, g2, g3, u1, u2, u3⟩ := HY.out.1.cells
  clear h hb0 hb1 c0 c1 c2 c3 f1 f2 f3 k0
  go_enter Tryd.func81, Tryd.ntmps81
  go_wp2_with fail
  have HZ := HY
  generalize ((w.alloc (Obj.cells #[.int .i64 0, .int .i64 0, .int .i64 0, .int .i64 0, .int .i64 0, .int .i64 0, .string { data := #[] }, .int .i64 0, .int .i64 0] 60)).alloc (Obj.cells #[.int .i64 0, .int .i64 0, .int .i64 0, .int .i64 0, .int .i64 0, .int .i64 0, .string { data := #[] }, .int .i64 n, .int .i64 0] 60)) = W0 at *
  generalize hH : w.heap.size = H at *
  have hrH : rb ≠ H := fun e => n1 e.symm
  have hrH1 : rb ≠ H + 1 := by have := HX.out.1.bk.lt; omega
  have h1r : H + 1 ≠ rb := fun e => hrH1 e.symm
  have HW : Hid (SR B rb (W0.setCell ⟨rb, 2, none⟩ (.int .i64 ((n : Int) + 1))) a c b i (n + 1) (.slice oa 0 oc) 0 us ∧ blk (W0.setCell ⟨rb, 2, none⟩ (.int .i64 ((n : Int) + 1))) H 60 #[.int .i64 0, .int .i64 0, .int .i64 0, .int .i64 0, .int .i64 0, .int .i64 0, .string { data := #[] }, .int .i64 0, .int .i64 0] ∧ blk (W0.setCell ⟨rb, 2, none⟩ (.int .i64 ((n : Int) + 1))) (H + 1) 60 #[.int .i64 0, .int .i64 0, .int .i64 0, .int .i64 0, .int .i64 0, .int .i64 0, .string { data := #[] }, .int .i64 n, .int .i64 0] ∧ Besides rb w (W0.setCell ⟨rb, 2, none⟩ (.int .i64 ((n : Int) + 1)))) := by
    obtain ⟨q1, q2, q3, q4⟩ := HY.out
    refine ⟨q1.set q1.le rfl, q3.keep (Below.heap_setCell _ _ _ _ hrH.symm), q4.keep (Below.heap_setCell _ _ _ _ hrH1.symm), (Besides.of_below (by rw [hH]; exact q2)).set1⟩
  generalize (W0.setCell ⟨rb, 2, none⟩ (.int .i64 ((n : Int) + 1))) = W at *
  have HH := Lib.hid hH
  clear HY HZ hH d0 d1 d2 d3 e1 e2 e3 g1 g2 g3 u1 u2 u3
  obtain ⟨_, g1, g2, g3, u1, u2, u3⟩ := HW.out.1.cells
  obtain ⟨b0, b1, b2, b3, b4, b5, b6, b7, b8⟩ := HW.out.2.2.1.cells9
  obtain ⟨x0, x1, x2, x3, x4, x5, x6, x7, x8⟩ := HW.out.2.2.1.frozen9
  go_region_held3 (fun w' => w'.cell? ⟨rb, 1, none⟩ = some (.int .i64 i) ∧ w'.cell? ⟨rb, 3, none⟩ = some (.slice oa 0 oc)) (go_keep) (fail)
  have HV : Hid (SR B rb (((W.setCell ⟨H + 1, 1, none⟩ (.int .i64 i)).setCell ⟨H + 1, 3, none⟩ (.int .i64 0)).setCell ⟨H + 1, 4, none⟩ (.int .i64 (-1))) a c b i (n + 1) (.slice oa 0 oc) 0 us ∧ blk (((W.setCell ⟨H + 1, 1, none⟩ (.int .i64 i)).setCell ⟨H + 1, 3, none⟩ (.int .i64 0)).setCell ⟨H + 1, 4, none⟩ (.int .i64 (-1))) H 60 #[.int .i64 0, .int .i64 0, .int .i64 0, .int .i64 0, .int .i64 0, .int .i64 0, .string { data := #[] }, .int .i64 0, .int .i64 0] ∧ blk (((W.setCell ⟨H + 1, 1, none⟩ (.int .i64 i)).setCell ⟨H + 1, 3, none⟩ (.int .i64 0)).setCell ⟨H + 1, 4, none⟩ (.int .i64 (-1))) (H + 1) 60 #[.int .i64 0, .int .i64 i, .int .i64 0, .int .i64 0, .int .i64 (-1), .int .i64 0, .string { data := #[] }, .int .i64 n, .int .i64 0] ∧ Besides rb w (((W.setCell ⟨H + 1, 1, none⟩ (.int .i64 i)).setCell ⟨H + 1, 3, none⟩ (.int .i64 0)).setCell ⟨H + 1, 4, none⟩ (.int .i64 (-1)))) := by
    obtain ⟨q1, q2, q3, q4⟩ := HW.out
    have hz : w.heap.size ≤ H + 1 := by have := HH.out; omega
    have hne : H ≠ H + 1 := by omega
    have s1 := HX.out.1.setFar q4 q1 hz 1 (.int .i64 i)
    have m1 := Besides.setOld (o := 1) (u := .int .i64 i) hz q4
    have s2 := HX.out.1.setFar m1 s1 hz 3 (.int .i64 0)
    have m2 := Besides.setOld (o := 3) (u := .int .i64 0) hz m1
    have s3 := HX.out.1.setFar m2 s2 hz 4 (.int .i64 (-1))
    have m3 := Besides.setOld (o := 4) (u := .int .i64 (-1)) hz m2
    exact ⟨s3, ((q2.keep (Below.heap_setCell _ _ _ _ hne)).keep (Below.heap_setCell _ _ _ _ hne)).keep (Below.heap_setCell _ _ _ _ hne), ((q3.set 1 _).set 3 _).set 4 _, m3⟩
  generalize (((W.setCell ⟨H + 1, 1, none⟩ (.int .i64 i)).setCell ⟨H + 1, 3, none⟩ (.int .i64 0)).setCell ⟨H + 1, 4, none⟩ (.int .i64 (-1))) = V at *
  clear HW b0 b1 b2 b3 b4 b5 b6 b7 b8 x0 x1 x2 x3 x4 x5 x6 x7 x8 g1 g2 g3 u1 u2 u3
  obtain ⟨b0, b1, b2, b3, b4, b5, b6, b7, b8⟩ := HV.out.2.2.1.cells9
  obtain ⟨z0, z1, z2, z3, z4, z5, z6, z7, z8⟩ := HV.out.2.1.cells9
  obtain ⟨x0, x1, x2, x3, x4, x5, x6, x7, x8⟩ := HV.out.2.1.frozen9
  go_wp2
  obtain ⟨y1, y2, y3⟩ := HX.out.1.box9 HV.out.2.2.2 HV.out.1 (Nat.le_of_eq HH.out) HV.out.2.1 (.int .i64 0) (.int .i64 i) (.int .i64 0) (.int .i64 0) (.int .i64 (-1)) (.int .i64 0) (.string { data := #[] }) (.int .i64 n) (.int .i64 0)
  generalize hX : set9 V H (.int .i64 0) (.int .i64 i) (.int .i64 0) (.int .i64 0) (.int .i64 (-1)) (.int .i64 0) (.string { data := #[] }) (.int .i64 n) (.int .i64 0) = X at *
  unfold set9 at hX
  rw [hX]
  have y4 : blk X.drew H 60 _ := y3.keep rfl
  refine bodyPost_ret (v := .agg (sv9 0 i 0 0 (-1) 0 ByteArray.empty n 0)) (results_cell47 Tryd.results81 _ _ H _ rfl y4 rfl) rfl ?_
  exact ⟨rfl, y1.keep (below_drew _), y2.drew⟩
end Go.Proofs.YtdlnnnlmlaploabDoor
