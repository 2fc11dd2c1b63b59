import Derived.Test.YtdlnnnlmlaploaaDoorS1
namespace Go.Proofs.YtdlnnnlmlaploaaDoor
open Go.RowKit Go.Deep
theorem setCell_size (w : World) (p : Addr) (v : Value) : (w.setCell p v).heap.size = w.heap.size := by simp [World.setCell]
/-- a row without its last element -/
theorem own_pop {w : World} {B e s k : Nat} {us : List Value} {g oc : Nat} (h : w.ownsRow B e s (.slice (some ⟨g, 0, none⟩) (k + 1) oc) (k + 1) us) : w.ownsRow B e s (.slice (some ⟨g, 0, none⟩) k oc) k (us.take (k * s)) := by
  have hle : k * s ≤ (k + 1) * s := Nat.mul_le_mul_right _ (Nat.le_succ k)
  refine ⟨by rw [List.length_take, h.1]; omega, ?_⟩
  rcases h.2 with ⟨e, _⟩ | ⟨g', cap, cur, q1, q2, q3, q4, q5, q6, q7⟩
  · cases e
  · injection q1 with e1 e2 e3
    injection e1 with e1
    injection e1 with e1
    subst e1 e3
    refine .inr ⟨g, oc, cur, rfl, q2, q3, by omega, q5, q6, ?_⟩
    rw [← q7, List.take_take, Nat.min_eq_left hle]
theorem SR.remake {B rb : Nat} {w w' : World} {a : Option Addr} {c : Nat} {b : List UInt8} {i n i' n' : Nat} {ov ov' : Value} {k k' : Nat} {us us' : List Value} (h : SR B rb w a c b i n ov k us) (hb : Besides rb w w') (hbk : blk w' rb 76 #[.slice a b.length c, .int .i64 i', .int .i64 n', ov']) (hown : w'.ownsRow B 94 12 ov' k' us') (hne : ov'.ownBlock ≠ some rb) (hi : i' ≤ b.length) : SR B rb w' a c b i' n' ov' k' us' where
  bk := hbk
  own := hown
  low := h.low
  ne := hne
  le := hi
  lim := h.lim
  cap := h.cap
  tx := by
    rcases h.tx with e | ⟨g, o, h1, h2, h3⟩
    · exact .inl e
    · exact .inr ⟨g, o, h1, h2, fun j hj => hb.cell (p := ⟨g, o + j, none⟩) (by have := h.low; show g ≠ rb; omega) (h3 j hj)⟩
  ev := by
    obtain ⟨⟨t, p, h1⟩, ⟨t', p', h2⟩⟩ := h.ev
    have := h.low; have := h.evB
    exact ⟨⟨t, p, hb.cell (p := ⟨3, 0, none⟩) (by show (3 : Nat) ≠ rb; omega) h1⟩, ⟨t', p', hb.cell (p := ⟨4, 0, none⟩) (by show (4 : Nat) ≠ rb; omega) h2⟩⟩
  evB := h.evB
theorem box9b {rb g : Nat} {w w1 : World} (hb : Besides rb w w1) (hg : w.heap.size ≤ g) {c0 c1 c2 c3 c4 c5 c6 c7 c8 : Value} (hk : blk w1 g 47 #[c0, c1, c2, c3, c4, c5, c6, c7, c8]) (v0 v1 v2 v3 v4 v5 v6 v7 v8 : Value) :
    Besides rb w (set9 w1 g v0 v1 v2 v3 v4 v5 v6 v7 v8) ∧ blk (set9 w1 g v0 v1 v2 v3 v4 v5 v6 v7 v8) g 47 #[v0, v1, v2, v3, v4, v5, v6, v7, v8] ∧ ∀ r ty cs, r ≠ g → blk w1 r ty cs → blk (set9 w1 g v0 v1 v2 v3 v4 v5 v6 v7 v8) r ty cs := by
  have m0 := Besides.setOld (o := 0) (u := v0) hg hb
  have m1 := Besides.setOld (o := 1) (u := v1) hg m0
  have m2 := Besides.setOld (o := 2) (u := v2) hg m1
  have m3 := Besides.setOld (o := 3) (u := v3) hg m2
  have m4 := Besides.setOld (o := 4) (u := v4) hg m3
  have m5 := Besides.setOld (o := 5) (u := v5) hg m4
  have m6 := Besides.setOld (o := 6) (u := v6) hg m5
  have m7 := Besides.setOld (o := 7) (u := v7) hg m6
  have m8 := Besides.setOld (o := 8) (u := v8) hg m7
  have k0 := hk.s0 v0
  have k1 := k0.s1 v1
  have k2 := k1.s2 v2
  have k3 := k2.s3 v3
  have k4 := k3.s4 v4
  have k5 := k4.s5 v5
  have k6 := k5.s6 v6
  have k7 := k6.s7 v7
  have k8 := k7.s8 v8
  refine ⟨m8, k8, fun r ty cs hr h => h.keep ?_⟩
  rw [Below.heap_setCell _ _ _ _ hr, Below.heap_setCell _ _ _ _ hr, Below.heap_setCell _ _ _ _ hr, Below.heap_setCell _ _ _ _ hr, Below.heap_setCell _ _ _ _ hr, Below.heap_setCell _ _ _ _ hr, Below.heap_setCell _ _ _ _ hr, Below.heap_setCell _ _ _ _ hr, Below.heap_setCell _ _ _ _ hr]
theorem own_beside {B rb : Nat} {w w' : World} {e s k : Nat} {v : Value} {us : List Value} (h : w.ownsRow B e s v k us) (hb : Besides rb w w') (hne : v.ownBlock ≠ some rb) : w'.ownsRow B e s v k us := by
  refine ⟨h.1, ?_⟩
  rcases h.2 with e | ⟨g', cap, cur, q1, q2, q3, q4⟩
  · exact .inl e
  · exact .inr ⟨g', cap, cur, q1, q2, (hb.block g' (Array.getElem?_eq_some_iff.1 q3).1 (fun e => hne (by rw [q1]; show some g' = some rb; rw [e]))).trans q3, q4⟩
set_option maxRecDepth 10000 in
set_option maxHeartbeats 1000000 in
theorem end42 {B rb : Nat} {w : World} {a : Option Addr} {c : Nat} {b : List UInt8} {i n m : Nat} {ov : Value} {us : List Value} (h : SR B rb w a c b i n ov (m + 1) us) (hi : i < b.length) (hm : m ≤ 1048577) {kd fr to dp up nt pl fi : Int} {ky : ByteArray}
    (t0 : us[m * 12]? = some (.int .i64 kd)) (t1 : us[m * 12 + 1]? = some (.int .i64 fr)) (t2 : us[m * 12 + 2]? = some (.int .i64 to)) (t3 : us[m * 12 + 3]? = some (.int .i64 dp)) (t4 : us[m * 12 + 4]? = some (.int .i64 up)) (t5 : us[m * 12 + 5]? = some (.int .i64 nt)) (t6 : us[m * 12 + 6]? = some (.string ky)) (t7 : us[m * 12 + 7]? = some (.int .i64 pl)) (t8 : us[m * 12 + 8]? = some (.int .i64 fi)) :
    Calls Tryd.prog 42 #[.pointer (some ⟨rb, 0, none⟩)] w fun e w' => ∃ ov', e = .returned (.agg (sv9 kd fr ((i : Int) + 1) dp up nt ky pl fi)) ∧ SR B rb w' a c b (i + 1) n ov' m (us.take (m * 12)) ∧ Besides rb w w' := by
  obtain ⟨c0, c1, c2, c3, f1, f2, f3⟩ := h.cells
  have hov : ∃ g oc, ov = .slice (some ⟨g, 0, none⟩) (m + 1) oc ∧ m + 1 ≤ oc := by
    rcases h.own.2 with ⟨_, e⟩ | ⟨g, cap, cur, q1, q2, q3, q4, _⟩
    · omega
    · exact ⟨_, _, q1, q4⟩
  obtain ⟨g, oc, rfl, hoc⟩ := hov
  have n1 := World.new_ne w _ c1
  have hb0 : Below w.heap.size w (w.alloc zero9) := (Below.refl _ _).alloc (Nat.le_refl _) _
  have HX := Lib.hid (And.intro h (And.intro hb0 (And.intro (h.keep hb0) (show blk (w.alloc zero9) w.heap.size 47 #[.int .i64 0, .int .i64 0, .int .i64 0, .int .i64 0, .int .i64 0, .int .i64 0, .string { data := #[] }, .int .i64 0, .int .i64 0] from heap_new w zero9))))
  obtain ⟨d0, d1, d2, d3, e1, e2, e3⟩ := HX.out.2.2.1.cells
  obtain ⟨_, -, hcl⟩ := own_form HX.out.2.2.1.own (g := g) rfl
  have r0 := hcl _ _ t0
  have r1 := hcl _ _ t1
  have r2 := hcl _ _ t2
  have r3 := hcl _ _ t3
  have r4 := hcl _ _ t4
  have r5 := hcl _ _ t5
  have r6 := hcl _ _ t6
  have r7 := hcl _ _ t7
  have r8 := hcl _ _ t8
  have hl := h.lim
  have i0 : (i : Int) ≤ 1048575 := by omega
  have hgr : g ≠ rb := fun e => h.ne (by show some g = some rb; rw [e])
  have hrg : rb ≠ g := fun e => hgr e.symm
  have km2 : (m : Int) + 1 - 1 = (m : Int) := by omega
  have km3 : (m : Int) < (m : Int) + 1 := by omega
  have km4 : (m : Int) ≤ 1048577 := by omega
  have m0i : (0 : Int) ≤ (m : Int) := by omega
  have HYf : ∀ tt : Int, (SR B rb (((w.alloc zero9).setCell ⟨rb, 1, none⟩ (.int .i64 ((i : Int) + 1))).alloc (Obj.cells #[.int .i64 kd, .int .i64 fr, .int .i64 tt, .int .i64 dp, .int .i64 up, .int .i64 nt, .string ky, .int .i64 pl, .int .i64 fi] 47)) a c b (i + 1) n (.slice (some ⟨g, 0, none⟩) (m + 1) oc) (m + 1) us ∧ blk (((w.alloc zero9).setCell ⟨rb, 1, none⟩ (.int .i64 ((i : Int) + 1))).alloc (Obj.cells #[.int .i64 kd, .int .i64 fr, .int .i64 tt, .int .i64 dp, .int .i64 up, .int .i64 nt, .string ky, .int .i64 pl, .int .i64 fi] 47)) w.heap.size 47 #[.int .i64 0, .int .i64 0, .int .i64 0, .int .i64 0, .int .i64 0, .int .i64 0, .string { data := #[] }, .int .i64 0, .int .i64 0] ∧ blk (((w.alloc zero9).setCell ⟨rb, 1, none⟩ (.int .i64 ((i : Int) + 1))).alloc (Obj.cells #[.int .i64 kd, .int .i64 fr, .int .i64 tt, .int .i64 dp, .int .i64 up, .int .i64 nt, .string ky, .int .i64 pl, .int .i64 fi] 47)) (w.heap.size + 1) 47 #[.int .i64 kd, .int .i64 fr, .int .i64 tt, .int .i64 dp, .int .i64 up, .int .i64 nt, .string ky, .int .i64 pl, .int .i64 fi] ∧ Besides rb w (((w.alloc zero9).setCell ⟨rb, 1, none⟩ (.int .i64 ((i : Int) + 1))).alloc (Obj.cells #[.int .i64 kd, .int .i64 fr, .int .i64 tt, .int .i64 dp, .int .i64 up, .int .i64 nt, .string ky, .int .i64 pl, .int .i64 fi] 47))) := by
    intro tt
    obtain ⟨q1, q2, q3, q4⟩ := HX.out
    have s1 := q3.set (o := 1) (u := .int .i64 ((i : Int) + 1)) (i' := i + 1) (n' := n) hi rfl
    have hz : ((w.alloc zero9).setCell ⟨rb, 1, none⟩ (.int .i64 ((i : Int) + 1))).heap.size = w.heap.size + 1 := (setCell_size _ _ _).trans (Array.size_push ..)
    have hb2 : Below ((w.alloc zero9).setCell ⟨rb, 1, none⟩ (.int .i64 ((i : Int) + 1))).heap.size ((w.alloc zero9).setCell ⟨rb, 1, none⟩ (.int .i64 ((i : Int) + 1))) (((w.alloc zero9).setCell ⟨rb, 1, none⟩ (.int .i64 ((i : Int) + 1))).alloc (Obj.cells #[.int .i64 kd, .int .i64 fr, .int .i64 tt, .int .i64 dp, .int .i64 up, .int .i64 nt, .string ky, .int .i64 pl, .int .i64 fi] 47)) := (Below.refl _ _).alloc (Nat.le_refl _) _
    have b1 : blk ((w.alloc zero9).setCell ⟨rb, 1, none⟩ (.int .i64 ((i : Int) + 1))) w.heap.size 47 _ := q4.keep (Below.heap_setCell _ _ _ _ n1)
    have b2 := heap_new ((w.alloc zero9).setCell ⟨rb, 1, none⟩ (.int .i64 ((i : Int) + 1))) (Obj.cells #[.int .i64 kd, .int .i64 fr, .int .i64 tt, .int .i64 dp, .int .i64 up, .int .i64 nt, .string ky, .int .i64 pl, .int .i64 fi] 47)
    rw [hz] at b2
    have m1 : Besides rb w ((w.alloc zero9).setCell ⟨rb, 1, none⟩ (.int .i64 ((i : Int) + 1))) := (Besides.of_below q2).set1
    exact ⟨s1.keep hb2, b1.keep (hb2.block _ b1.lt), b2, m1.trans (Besides.of_below hb2)⟩
  have HY := Lib.hid (HYf to)
  have HZ := Lib.hid (HYf ((i : Int) + 1))
  clear HYf
  obtain ⟨_, g1, g2, g3, u1, u2, u3⟩ := HY.out.1.cells
  obtain ⟨_, j1, j2, j3, l1, l2, l3⟩ := HZ.out.1.cells
  obtain ⟨b0, b1, b2, b3, b4, b5, b6, b7, b8⟩ := HZ.out.2.2.1.cells9
  have x2 := HY.out.2.2.1.frozen 2
  obtain ⟨z0, z1, z2, z3, z4, z5, z6, z7, z8⟩ := HZ.out.2.1.cells9
  obtain ⟨v0, v1, v2, v3, v4, v5, v6, v7, v8⟩ := HZ.out.2.1.frozen9
  have h1r : w.heap.size + 1 ≠ rb := by have := HX.out.1.bk.lt; omega
  have mo : (m : Int) ≤ (oc : Int) := by omega
  clear h hb0 c0 c1 c2 c3 f1 f2 f3 hcl t0 t1 t2 t3 t4 t5 t6 t7 t8
  go_enter Tryd.func42, Tryd.ntmps42
  go_wp2_with fail
  generalize ((((w.alloc (Obj.cells #[.int .i64 0, .int .i64 0, .int .i64 0, .int .i64 0, .int .i64 0, .int .i64 0, .string { data := #[] }, .int .i64 0, .int .i64 0] 47)).setCell ⟨rb, 1, none⟩ (.int .i64 ((i : Int) + 1))).alloc (Obj.cells #[.int .i64 kd, .int .i64 fr, .int .i64 ((i : Int) + 1), .int .i64 dp, .int .i64 up, .int .i64 nt, .string ky, .int .i64 pl, .int .i64 fi] 47))) = Z at *
  have hB3 : Besides rb w (Z.setCell ⟨rb, 3, none⟩ (.slice (some ⟨g, 0, none⟩) m oc)) := HZ.out.2.2.2.set1
  have hrb3 : blk (Z.setCell ⟨rb, 3, none⟩ (.slice (some ⟨g, 0, none⟩) m oc)) rb 76 #[.slice a b.length c, .int .i64 ((i + 1 : Nat) : Int), .int .i64 n, .slice (some ⟨g, 0, none⟩) m oc] := HZ.out.1.bk.set 3 _
  have hz3 : blk (Z.setCell ⟨rb, 3, none⟩ (.slice (some ⟨g, 0, none⟩) m oc)) w.heap.size 47 _ := HZ.out.2.1.keep (Below.heap_setCell _ _ _ _ n1)
  generalize Z.setCell ⟨rb, 3, none⟩ (.slice (some ⟨g, 0, none⟩) m oc) = Y at *
  obtain ⟨y1, y2, y3⟩ := box9b hB3 (Nat.le_refl _) hz3 (.int .i64 kd) (.int .i64 fr) (.int .i64 ((i : Int) + 1)) (.int .i64 dp) (.int .i64 up) (.int .i64 nt) (.string ky) (.int .i64 pl) (.int .i64 fi)
  generalize hX : set9 Y w.heap.size (.int .i64 kd) (.int .i64 fr) (.int .i64 ((i : Int) + 1)) (.int .i64 dp) (.int .i64 up) (.int .i64 nt) (.string ky) (.int .i64 pl) (.int .i64 fi) = X at *
  unfold set9 at hX
  rw [hX]
  refine bodyPost_ret (v := .agg (sv9 kd fr ((i : Int) + 1) dp up nt ky pl fi)) (results_cell47 Tryd.results42 _ _ w.heap.size _ rfl y2 rfl) rfl ?_
  exact ⟨_, rfl, HX.out.1.remake y1 (y3 rb _ _ n1.symm hrb3) (own_pop (own_beside HX.out.1.own y1 HX.out.1.ne)) (fun e => hgr (Option.some.inj e)) hi, y1⟩
end Go.Proofs.YtdlnnnlmlaploaaDoor
