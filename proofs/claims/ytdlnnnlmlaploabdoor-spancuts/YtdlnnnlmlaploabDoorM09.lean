import Derived.Test.YtdlnnnlmlaploabDoorM08
namespace Go.Proofs.YtdlnnnlmlaploabDoor
open Go.RowKit Go.Deep
theorem setCell_size (w : World) (p : Addr) (v : Value) : (w.setCell p v).heap.size = w.heap.size := by simp [World.setCell]
/-- a row without its last element -/
theorem own_pop {w : World} {B e s k : Nat} {us : List Value} {g oc : Nat} (h : w.ownsRow B e s (.slice (some ⟨g, 0, none⟩) (k + 1) oc) (k + 1) us) : w.ownsRow B e s (.slice (some ⟨g, 0, none⟩) k oc) k (us.take (k * s)) := by
  have hle : k * s ≤ (k + 1) * s := Nat.mul_le_mul_right _ (Nat.le_succ k)
  refine ⟨by rw [List.length_take, h.1]; omega, ?_⟩
  rcases h.2 with ⟨e, _⟩ | ⟨g', cap, cur, q1, q2, q3, q4, q5, q6, q7⟩
  · cases e
  · injection q1 with e1 e2 e3
    injection e1 with e1
    injection e1 with e1
    subst e1 e3
    refine .inr ⟨g, oc, cur, rfl, q2, q3, by omega, q5, q6, ?_⟩
    rw [← q7, List.take_take, Nat.min_eq_left hle]
theorem SR.remake {B rb : Nat} {w w' : World} {a : Option Addr} {c : Nat} {b : List UInt8} {i n i' n' : Nat} {ov ov' : Value} {k k' : Nat} {us us' : List Value} (h : SR B rb w a c b i n ov k us) (hb : Besides rb w w') (hbk : blk w' rb 97 #[.slice a b.length c, .int .i64 i', .int .i64 n', ov']) (hown : w'.ownsRow B 128 12 ov' k' us') (hne : ov'.ownBlock ≠ some rb) (hi : i' ≤ b.length) : SR B rb w' a c b i' n' ov' k' us' where
  bk := hbk
  own := hown
  low := h.low
  ne := hne
  le := hi
  lim := h.lim
  cap := h.cap
  tx := by
    rcases h.tx with e | ⟨g, o, h1, h2, h3⟩
    · exact .inl e
    · exact .inr ⟨g, o, h1, h2, fun j hj => hb.cell (p := ⟨g, o + j, none⟩) (by have := h.low; show g ≠ rb; omega) (h3 j hj)⟩
  ev := by
    obtain ⟨⟨t, p, h1⟩, ⟨t', p', h2⟩⟩ := h.ev
    have := h.low; have := h.evB
    exact ⟨⟨t, p, hb.cell (p := ⟨0, 0, none⟩) (by show (0 : Nat) ≠ rb; omega) h1⟩, ⟨t', p', hb.cell (p := ⟨1, 0, none⟩) (by show (1 : Nat) ≠ rb; omega) h2⟩⟩
  evB := h.evB
theorem box9b {rb g : Nat} {w w1 : World} (hb : Besides rb w w1) (hg : w.heap.size ≤ g) {c0 c1 c2 c3 c4 c5 c6 c7 c8 : Value} (hk : blk w1 g 60 #[c0, c1, c2, c3, c4, c5, c6, c7, c8]) (v0 v1 v2 v3 v4 v5 v6 v7 v8 : Value) :
    Besides rb w (set9 w1 g v0 v1 v2 v3 v4 v5 v6 v7 v8) ∧ blk (set9 w1 g v0 v1 v2 v3 v4 v5 v6 v7 v8) g 60 #[v0, v1, v2, v3, v4, v5, v6, v7, v8] ∧ ∀ r ty cs, r ≠ g → blk w1 r ty cs → blk (set9 w1 g v0 v1 v2 v3 v4 v5 v6 v7 v8) r ty cs := by
  have m0 := Besides.setOld (o := 0) (u := v0) hg hb
  have m1 := Besides.setOld (o := 1) (u := v1) hg m0
  have m2 := Besides.setOld (o := 2) (u := v2) hg m1
  have m3 := Besides.setOld (o := 3) (u := v3) hg m2
  have m4 := Besides.setOld (o := 4) (u := v4) hg m3
  have m5 := Besides.setOld (o := 5) (u := v5) hg m4
  have m6 := Besides.setOld (o := 6) (u := v6) hg m5
  have m7 := Besides.setOld (o := 7) (u := v7) hg m6
  have m8 := Besides.setOld (o := 8) (u := v8) hg m7
  have k0 := hk.s0 v0
  have k1 := k0.s1 v1
  have k2 := k1.s2 v2
  have k3 := k2.s3 v3
  have k4 := k3.s4 v4
  have k5 := k4.s5 v5
  have k6 := k5.s6 v6
  have k7 := k6.s7 v7
  have k8 := k7.s8 v8
  refine ⟨m8, k8, fun r ty cs hr h => h.keep ?_⟩
  rw [Below.heap_setCell _ _ _ _ hr, Below.heap_setCell _ _ _ _ hr, Below.heap_setCell _ _ _ _ hr, Below.heap_setCell _ _ _ _ hr, Below.heap_setCell _ _ _ _ hr, Below.heap_setCell _ _ _ _ hr, Below.heap_setCell _ _ _ _ hr, Below.heap_setCell _ _ _ _ hr, Below.heap_setCell _ _ _ _ hr]
theorem own_beside {B rb : Nat} {w w' : World} {e s k : Nat} {v : Value} {us : List Value} (h : w.ownsRow B e s v k us) (hb : Besides rb w w') (hne : v.ownBlock ≠ some rb) : w'.ownsRow B e s v k us := by
  refine ⟨h.1, ?_⟩
  rcases h.2 with e | ⟨g', cap, cur, q1, q2, q3, q4⟩
  · exact .inl e
  · exact .inr ⟨g', cap, cur, q1, q2, (hb.block g' (Array.getElem?_eq_some_iff.1 q3).1 (fun e => hne (by rw [q1]; show some g' = some rb; rw [e]))).trans q3, q4⟩
set_option maxRecDepth 10000 in
set_option maxHeartbeats 1000000 in
theorem end42 {B rb : Nat} {w : World} {a : Option Addr} {c : Nat} {b : List UInt8} {i n m : Nat} {ov : Value} {us : List Value} (h : SR B rb w a c b i n ov (m + 1) us) (hi : i < b.length) (hm : m ≤ 1048577) {kd fr to dp up nt pl fi : Int} {ky : ByteArray}
    (t0 : us[m * 12]? = some (.int .i64 kd)) (t1 : us[m * 12 + 1]? = some (.int .i64 fr)) (t2 : us[m * 12 + 2]? = some (.int .i64 to)) (t3 : us[m * 12 + 3]? = some (.int .i64 dp)) (t4 : us[m * 12 + 4]? = some (.int .i64 up)) (t5 : us[m * 12 + 5]? = some (.int .i64 nt)) (t6 : us[m * 12 + 6]? = some (.string ky)) (t7 : us[m * 12 + 7]? = some (.int .i64 pl)) (t8 : us[m * 12 + 8]? = some (.int .i64 fi)) :
    Calls Tryd.prog 60 #[.pointer (some ⟨rb, 0, none⟩)] w fun e w' => ∃ ov', e = .returned (.agg (sv9 kd fr ((i : Int) + 1) dp up nt ky pl fi)) ∧ SR B rb w' a c b (i + 1) n ov' m (us.take (m * 12)) ∧ Besides rb w w' := by
  obtain ⟨c0, c1, c2, c3, f1, f2, f3⟩ := h.cells
  have hov : ∃ g oc, ov = .slice (some ⟨g, 0, none⟩) (m + 1) oc ∧ m + 1 ≤ oc := by
    rcases h.own.2 with ⟨_, e⟩ | ⟨g, cap, cur, q1, q2, q3, q4, _⟩
    · omega
    · exact ⟨_, _, q1, q4⟩
  obtain ⟨g, oc, rfl, hoc⟩ := hov
  have n1 := World.new_ne w _ c1
  have hb0 : Below w.heap.size w (w.alloc zero9) := (Below.refl _ _).alloc (Nat.le_refl _) _
  have HX := Lib.hid (And.intro h (And.intro hb0 (And.intro (h.keep hb0) (show blk (w.alloc zero9) w.heap.size 60 #[.int .i64 0, .int .i64 0, .int .i64 0, .int .i64 0, .int .i64 0, .int .i64 0, .string { data := #[] }, .int .i64 0, .int .i64 0] from heap_new w zero9))))
  obtain ⟨d0, d1, d2, d3, e1, e2, e3⟩ := HX.out.2.2.1.cells
  obtain ⟨_, -, hcl⟩ := own_form HX.out.2.2.1.own (g := g) rfl
  have r0 := hcl _ _ t0
  have r1 := hcl _ _ t1
  have r2 := hcl _ _ t2
  have r3 := hcl _ _ t3
  have r4 := hcl _ _ t4
  have r5 := hcl _ _ t5
  have r6 := hcl _ _ t6
  have r7 := hcl _ _ t7
  have r8 := hcl _ _ t8
  have hl := h.lim
  have i0 : (i : Int) ≤ 1048575 := by omega
  have hgr : g ≠ rb := fun e => h.ne (by show some g = some rb; rw [e])
  have hrg : rb ≠ g := fun e => hgr e.symm
  have km2 : (m : Int) + 1 - 1 = (m : Int) := by omega
  have km3 : (m : Int) < (m : Int) + 1 := by omega
  have km4 : (m : Int) ≤ 1048577 := by omega
  have m0i : (0 : Int) ≤ (m : Int) := by omega
  have HYf : ∀ tt : Int, (SR B rb (((w.alloc zero9).setCell ⟨rb, 1, none⟩ (.int .i64 ((i : Int) + 1))).alloc (Obj.cells #[.int .i64 kd, .int .i64 fr, .int .i64 tt, .int .i64 dp, .int .i64 up, .int .i64 nt, .string ky, .int .i64 pl, .int .i64 fi] 60)) a c b (i + 1) n (.slice (some ⟨g, 0, none⟩) (m + 1) oc) (m + 1) us ∧ blk (((w.alloc zero9).setCell ⟨rb, 1, none⟩ (.int .i64 ((i : Int) + 1))).alloc (Obj.cells #[.int .i64 kd, .int .i64 fr, .int .i64 tt, .int .i64 dp, .int .i64 up, .int .i64 nt, .string ky, .int .i64 pl, .int .i64 fi] 60)) w.heap.size 60 #[.int .i64 0, .int .i64 0, .int .i64 0, .int .i64 0, .int .i64 0, .int .i64 0, .string { data := #[] }, .int .i64 0, .int .i64 0] ∧ blk (((w.alloc zero9).setCell ⟨rb, 1, none⟩ (.int .i64 ((i : Int) + 1))).alloc (Obj.cells #[.int .i64 kd, .int .i64 fr, .int .i64 tt, .int .i64 dp, .int .i64 up, .int .i64 nt, .string ky, .int .i64 pl, .int .i64 fi] 60)) (w.heap.size + 1) 60 #[.int .i64 kd, .int .i64 fr, .int .i64 tt, .int .i64 dp, .int .i64 up, .int .i64 nt, .string ky, .int .i64 pl, .int .i64 fi] ∧ Besides rb w (((w.alloc zero9).setCell ⟨rb, 1, none⟩ (.int .i64 ((i : Int) + 1))).alloc (Obj.cells #[.int .i64 kd, .int .i64 fr, .int .i64 tt, .int .i64 dp, .int .i64 up, .int .i64 nt, .string ky, .int .i64 pl, .int .i64 fi] 60))) := by
    intro tt
    obtain ⟨q1, q2, q3, q4⟩ := HX.out
    have s1 := q3.set (o := 1) (u := .int .i64 ((i : Int) + 1)) (i' := i + 1) (n' := n) hi rfl
    have hz : ((w.alloc zero9).setCell ⟨rb, 1, none⟩ (.int .i64 ((i : Int) + 1))).heap.size = w.heap.size + 1 := (setCell_size _ _ _).trans (Array.size_push ..)
    have hb2 : Below ((w.alloc zero9).setCell ⟨rb, 1, none⟩ (.int .i64 ((i : Int) + 1))).heap.size ((w.alloc zero9).setCell ⟨rb, 1, none⟩ (.int .i64 ((i : Int) + 1))) (((w.alloc zero9).setCell ⟨rb, 1, none⟩ (.int .i64 ((i : Int) + 1))).alloc (Obj.cells #[.int .i64 kd, .int .i64 fr, .int .i64 tt, .int .i64 dp, .int .i64 up, .int .i64 nt, .string ky, .int .i64 pl, .int .i64 fi] 60)) := (Below.refl _ _).alloc (Nat.le_refl _) _
    have b1 : blk ((w.alloc zero9).setCell ⟨rb, 1, none⟩ (.int .i64 ((i : Int) + 1))) w.heap.size 60 _ := q4.keep (Below.heap_setCell _ _ _ _ n1)
    have b2 := heap_new ((w.alloc zero9).setCell ⟨rb, 1, none⟩ (.int .i64 ((i : Int) + 1))) (Obj.cells #[.int .i64 kd, .int .i64 fr, .int .i64 tt, .int .i64 dp, .int .i64 up, .int .i64 nt, .string ky, .int .i64 pl, .int .i64 fi] 60)
    rw [hz] at b2
    have m1 : Besides rb w ((w.alloc zero9).setCell ⟨rb, 1, none⟩ (.int .i64 ((i : Int) + 1))) := (Besides.of_below q2).set1
    exact ⟨s1.keep hb2, b1.keep (hb2.block _ b1.lt), b2, m1.trans (Besides.of_below hb2)⟩
  have HY := Lib.hid (HYf to)
  have HZ := Lib.hid (HYf ((i : Int) + 1))
  clear HYf
  obtain ⟨_, g1, g2, g3, u1, u2, u3⟩ := HY.out.1.cells
  obtain ⟨_, j1, j2, j3, l1, l2, l3⟩ := HZ.out.1.cells
  obtain ⟨b0, b1, b2, b3, b4, b5, b6, b7, b8⟩ := HZ.out.2.2.1.cells9
  have x2 := HY.out.2.2.1.frozen 2
  obtain ⟨z0, z1, z2, z3, z4, z5, z6, z7, z8⟩ := HZ.out.2.1.cells9
  obtain ⟨v0, v1, v2, v3, v4, v5, v6, v7, v8⟩ := HZ.out.2.1.frozen9
  have h1r : w.heap.size + 1 ≠ rb := by have := HX.out.1.bk.lt; omega
  have mo : (m : Int) ≤ (oc : Int) := by omega
  clear h hb0 c0 c1 c2 c3 f1 f2 f3 hcl t0 t1 t2 t3 t4 t5 t6 t7 t8
  go_enter Tryd.func60, Tryd.ntmps60
  go_wp2_with fail
  generalize ((((w.alloc (Obj.cells #[.int .i64 0, .int .i64 0, .int .i64 0, .int .i64 0, .int .i64 0, .int .i64 0, .string { data := #[] }, .int .i64 0, .int .i64 0] 60)).setCell ⟨rb, 1, none⟩ (.int .i64 ((i : Int) + 1))).alloc (Obj.cells #[.int .i64 kd, .int .i64 fr, .int .i64 ((i : Int) + 1), .int .i64 dp, .int .i64 up, .int .i64 nt, .string ky, .int .i64 pl, .int .i64 fi] 60))) = Z at *
  have hB3 : Besides rb w (Z.setCell ⟨rb, 3, none⟩ (.slice (some ⟨g, 0, none⟩) m oc)) := HZ.out.2.2.2.set1
  have hrb3 : blk (Z.setCell ⟨rb, 3, none⟩ (.slice (some ⟨g, 0, none⟩) m oc)) rb 97 #[.slice a b.length c, .int .i64 ((i + 1 : Nat) : Int), .int .i64 n, .slice (some ⟨g, 0, none⟩) m oc] := HZ.out.1.bk.set 3 _
  have hz3 : blk (Z.setCell ⟨rb, 3, none⟩ (.slice (some ⟨g, 0, none⟩) m oc)) w.heap.size 60 _ := HZ.out.2.1.keep (Below.heap_setCell _ _ _ _ n1)
  generalize Z.setCell ⟨rb, 3, none⟩ (.slice (some ⟨g, 0, none⟩) m oc) = Y at *
  obtain ⟨y1, y2, y3⟩ := box9b hB3 (Nat.le_refl _) hz3 (.int .i64 kd) (.int .i64 fr) (.int .i64 ((i : Int) + 1)) (.int .i64 dp) (.int .i64 up) (.int .i64 nt) (.string ky) (.int .i64 pl) (.int .i64 fi)
  generalize hX : set9 Y w.heap.size (.int .i64 kd) (.int .i64 fr) (.int .i64 ((i : Int) + 1)) (.int .i64 dp) (.int .i64 up) (.int .i64 nt) (.string ky) (.int .i64 pl) (.int .i64 fi) = X at *
  unfold set9 at hX
  rw [hX]
  refine bodyPost_ret (v := .agg (sv9 kd fr ((i : Int) + 1) dp up nt ky pl fi)) (results_cell47 Tryd.results60 _ _ w.heap.size _ rfl y2 rfl) rfl ?_
  exact ⟨_, rfl, HX.out.1.remake y1 (y3 rb _ _ n1.symm hrb3) (own_pop (own_beside HX.out.1.own y1 HX.out.1.ne)) (fun e => hgr (Option.some.inj e)) hi, y1⟩
end Go.Proofs.YtdlnnnlmlaploabDoor
namespace Go.Proofs.YtdlnnnlmlaploabDoor
open Go.RowKit Go.Deep
/-- all blocks but the reader's and its row's are as they were -/
structure Near (rb : Nat) (ov : Value) (w w' : World) : Prop where
  os : w'.os = w.os
  tape : w'.tape = w.tape
  output : w'.output = w.output
  size : w.heap.size ≤ w'.heap.size
  block : ∀ k, k < w.heap.size → k ≠ rb → ov.ownBlock ≠ some k → w'.heap[k]? = w.heap[k]?
theorem Near.of {rb : Nat} {ov : Value} {w w' : World} (h : Besides rb w w') : Near rb ov w w' := ⟨h.os, h.tape, h.output, h.size, fun k hk hn _ => h.block k hk hn⟩
theorem Near.refl (rb : Nat) (ov : Value) (w : World) : Near rb ov w w := ⟨rfl, rfl, rfl, Nat.le_refl _, fun _ _ _ _ => rfl⟩
theorem Near.trans {rb : Nat} {ov : Value} {w w1 w2 : World} (h : Near rb ov w w1) (g : Near rb ov w1 w2) : Near rb ov w w2 :=
  ⟨g.os.trans h.os, g.tape.trans h.tape, g.output.trans h.output, Nat.le_trans h.size g.size, fun k hk hn ho => (g.block k (Nat.lt_of_lt_of_le hk h.size) hn ho).trans (h.block k hk hn ho)⟩
theorem Near.row {rb g o : Nat} {ov u : Value} (hg : ov.ownBlock = some g) (w : World) : Near rb ov w (w.setCell ⟨g, o, none⟩ u) :=
  ⟨rfl, rfl, rfl, Nat.le_of_eq (setCell_size _ _ _).symm, fun k _ _ ho => Below.heap_setCell _ _ _ _ (fun e => ho (by rw [hg]; show some g = some k; rw [show k = g from e]))⟩
/-- a cell of the row is set -/
theorem SR.setRow {B rb : Nat} {w : World} {a : Option Addr} {c : Nat} {b : List UInt8} {i n : Nat} {ov : Value} {k : Nat} {us : List Value} (h : SR B rb w a c b i n ov k us) {g o : Nat} (hg : ov.ownBlock = some g) (ho : o < k * 12) (u : Value) : SR B rb (w.setCell ⟨g, o, none⟩ u) a c b i n ov k (us.set o u) where
  bk := h.bk.keep (Below.heap_setCell _ _ _ _ (fun e => h.ne (by rw [hg]; show some g = some rb; rw [show rb = g from e])))
  own := own_set h.own hg ho
  low := h.low
  ne := h.ne
  le := h.le
  lim := h.lim
  cap := h.cap
  tx := by
    have hl := (own_lt h.own hg).1
    rcases h.tx with e | ⟨g', o', h1, h2, h3⟩
    · exact .inl e
    · exact .inr ⟨g', o', h1, h2, fun j hj => (World.cell?_of_block (w := w) (Below.heap_setCell _ _ _ _ (by show g' ≠ g; omega))).trans (h3 j hj)⟩
  ev := by
    have hl := (own_lt h.own hg).1
    obtain ⟨⟨t, p, h1⟩, ⟨t', p', h2⟩⟩ := h.ev
    have := h.evB
    exact ⟨⟨t, p, (World.cell?_of_block (w := w) (Below.heap_setCell _ _ _ _ (by show (0 : Nat) ≠ g; omega))).trans h1⟩, ⟨t', p', (World.cell?_of_block (w := w) (Below.heap_setCell _ _ _ _ (by show (1 : Nat) ≠ g; omega))).trans h2⟩⟩
  evB := h.evB
set_option maxRecDepth 10000 in
set_option maxHeartbeats 1000000 in
/-- an element of a list begins -/
theorem part43L {B rb : Nat} {w : World} {a : Option Addr} {c : Nat} {b : List UInt8} {i n m : Nat} {ov : Value} {us : List Value} (h : SR B rb w a c b i n ov (m + 1) us) (hm : m ≤ 1048577) {p x : Int}
    (t0 : us[m * 12]? = some (.int .i64 3)) (t9 : us[m * 12 + 9]? = some (.int .i64 p)) (t11 : us[m * 12 + 11]? = some (.int .i64 x)) (hp0 : 0 ≤ p) (hp1 : p ≤ 1048577) :
    Calls Tryd.prog 61 #[.pointer (some ⟨rb, 0, none⟩)] w fun e w' => e = .returned (.int .i64 0) ∧ SR B rb w' a c b i n ov (m + 1) ((us.set (m * 12 + 11) (.int .i64 i)).set (m * 12 + 9) (.int .i64 (p + 1))) ∧ Near rb ov w w' := by
  obtain ⟨c0, c1, c2, c3, f1, f2, f3⟩ := h.cells
  have hov : ∃ g oc, ov = .slice (some ⟨g, 0, none⟩) (m + 1) oc := by
    rcases h.own.2 with ⟨_, e⟩ | ⟨g, cap, cur, q1, _⟩
    · omega
    · exact ⟨_, _, q1⟩
  obtain ⟨g, oc, rfl⟩ := hov
  have hgr : g ≠ rb := fun e => h.ne (by show some g = some rb; rw [e])
  have hrg : rb ≠ g := fun e => hgr e.symm
  obtain ⟨_, -, hcl⟩ := own_form h.own (g := g) rfl
  have r0 := hcl _ _ t0
  have r9 := hcl _ _ t9
  have r11 := hcl _ _ t11
  have hfr : ∀ o, w.frozen? ⟨g, o, none⟩ = false := by
    rcases h.own.2 with ⟨e, _⟩ | ⟨g', cap, cur, q1, q2, q3, _⟩
    · cases e
    · injection q1 with e1
      injection e1 with e1
      injection e1 with e1
      subst e1
      exact fun o => blk.frozen (show blk w g 128 cur from q3) o
  have y9 := hfr (m * 12 + 9)
  have y11 := hfr (m * 12 + 11)
  have km2 : (m : Int) + 1 - 1 = (m : Int) := by omega
  have km3 : (m : Int) < (m : Int) + 1 := by omega
  have km4 : (m : Int) ≤ 1048577 := by omega
  have m0i : (0 : Int) ≤ (m : Int) := by omega
  have HX := Lib.hid h
  clear h hcl hfr t0 t9 t11
  go_enter Tryd.func61, Tryd.ntmps61
  go_wp2_with fail
  go_quiet (fail)
  go_wp2_with fail
  go_ret
  have hd : Below w.heap.size w (w.drewN nq) := ⟨rfl, rfl, rfl, Nat.le_refl _, fun _ _ => rfl⟩
  have s1 := (HX.out.keep hd).setRow (g := g) (o := m * 12 + 11) rfl (by omega) (.int .i64 i)
  have s2 := s1.setRow (g := g) (o := m * 12 + 9) rfl (by omega) (.int .i64 (p + 1))
  refine ⟨rfl, s2, ((Near.of (Besides.of_below hd)).trans (Near.row (g := g) rfl _)).trans (Near.row (g := g) rfl _)⟩
end Go.Proofs.YtdlnnnlmlaploabDoor
namespace Go.Proofs.YtdlnnnlmlaploabDoor
open Go.RowKit Go.Deep
/-- how the beginning of a pair ends -/
def PDx (b : List UInt8) (i : Nat) (p : Int) (lk : ByteArray) (us1 : List Value) (o : Nat) (i' : Nat) (us' : List Value) (er : Int) : Prop :=
  ((byt b i = 105 ∨ byt b i = 108 ∨ byt b i = 100) ∧ er = 22 ∧ i' = i) ∨
  (¬ (byt b i = 105 ∨ byt b i = 108 ∨ byt b i = 100) ∧ ((∃ j, leafO b i = .bad j er ∧ er ≠ 0 ∧ i' = i + j) ∨
    ∃ t j, leafO b i = .val t j ∧ ((1 ≤ p ∧ leB t.s lk = true ∧ er = 25 ∧ i' = i) ∨ (¬ (1 ≤ p ∧ leB t.s lk = true) ∧ er = 0 ∧ i' = i + j ∧ us' = us1.set o (.string t.s)))))
set_option maxRecDepth 10000 in
set_option maxHeartbeats 1000000 in
/-- a pair of a dictionary begins -/
theorem part43D {B rb : Nat} {w : World} {a : Option Addr} {c : Nat} {b : List UInt8} {i n m : Nat} {ov : Value} {us : List Value} (h : SR B rb w a c b i n ov (m + 1) us) (hm : m ≤ 1048577) {p x : Int} {lk : ByteArray}
    (t0 : us[m * 12]? = some (.int .i64 4)) (t10 : us[m * 12 + 10]? = some (.string lk)) (t9 : us[m * 12 + 9]? = some (.int .i64 p)) (t11 : us[m * 12 + 11]? = some (.int .i64 x)) (hp0 : 0 ≤ p) (hp1 : p ≤ 1048577) :
    Calls Tryd.prog 61 #[.pointer (some ⟨rb, 0, none⟩)] w fun e w' => ∃ i' us' er, e = .returned (.int .i64 er) ∧ SR B rb w' a c b i' n ov (m + 1) us' ∧ Near rb ov w w' ∧ PDx b i p lk ((us.set (m * 12 + 11) (.int .i64 i)).set (m * 12 + 9) (.int .i64 (p + 1))) (m * 12 + 10) i' us' er := by
  obtain ⟨c0, c1, c2, c3, f1, f2, f3⟩ := h.cells
  have hov : ∃ g oc, ov = .slice (some ⟨g, 0, none⟩) (m + 1) oc := by
    rcases h.own.2 with ⟨_, e⟩ | ⟨g, cap, cur, q1, _⟩
    · omega
    · exact ⟨_, _, q1⟩
  obtain ⟨g, oc, rfl⟩ := hov
  have hgr : g ≠ rb := fun e => h.ne (by show some g = some rb; rw [e])
  have hrg : rb ≠ g := fun e => hgr e.symm
  obtain ⟨_, -, hcl⟩ := own_form h.own (g := g) rfl
  have r0 := hcl _ _ t0
  have r9 := hcl _ _ t9
  have r11 := hcl _ _ t11
  have r10 := hcl _ _ t10
  have hfr : ∀ o, w.frozen? ⟨g, o, none⟩ = false := by
    rcases h.own.2 with ⟨e, _⟩ | ⟨g', cap, cur, q1, q2, q3, _⟩
    · cases e
    · injection q1 with e1
      injection e1 with e1
      injection e1 with e1
      subst e1
      exact fun o => blk.frozen (show blk w g 128 cur from q3) o
  have y9 := hfr (m * 12 + 9)
  have y11 := hfr (m * 12 + 11)
  have y10 := hfr (m * 12 + 10)
  have km2 : (m : Int) + 1 - 1 = (m : Int) := by omega
  have km3 : (m : Int) < (m : Int) + 1 := by omega
  have km4 : (m : Int) ≤ 1048577 := by omega
  have m0i : (0 : Int) ≤ (m : Int) := by omega
  have HX := Lib.hid h
  have HT : Hid (((us.set (m * 12 + 11) (.int .i64 i)).set (m * 12 + 9) (.int .i64 (p + 1)))[m * 12 + 9]? = some (.int .i64 (p + 1)) ∧ ((us.set (m * 12 + 11) (.int .i64 i)).set (m * 12 + 9) (.int .i64 (p + 1)))[m * 12 + 10]? = some (.string lk) ∧ ((us.set (m * 12 + 11) (.int .i64 i)).set (m * 12 + 9) (.int .i64 (p + 1)))[m * 12 + 11]? = some (.int .i64 i)) := by
    have hlen : us.length = (m + 1) * 12 := h.own.1
    refine ⟨?_, ?_, ?_⟩
    · rw [List.getElem?_set_self (by rw [List.length_set]; omega)]
    · rw [List.getElem?_set_ne (by omega), List.getElem?_set_ne (by omega)]; exact t10
    · rw [List.getElem?_set_ne (by omega), List.getElem?_set_self (by omega)]
  clear h hcl hfr t0 t9 t10 t11
  go_enter Tryd.func61, Tryd.ntmps61
  go_wp2_with fail
  go_quiet (fail)
  go_wp2_with fail
  have HW : Hid (SR B rb (((w.drewN nq).setCell ⟨g, m * 12 + 11, none⟩ (.int .i64 i)).setCell ⟨g, m * 12 + 9, none⟩ (.int .i64 (p + 1))) a c b i n (.slice (some ⟨g, 0, none⟩) (m + 1) oc) (m + 1) ((us.set (m * 12 + 11) (.int .i64 i)).set (m * 12 + 9) (.int .i64 (p + 1))) ∧ Near rb (.slice (some ⟨g, 0, none⟩) (m + 1) oc) w (((w.drewN nq).setCell ⟨g, m * 12 + 11, none⟩ (.int .i64 i)).setCell ⟨g, m * 12 + 9, none⟩ (.int .i64 (p + 1)))) := by
    have hd : Below w.heap.size w (w.drewN nq) := ⟨rfl, rfl, rfl, Nat.le_refl _, fun _ _ => rfl⟩
    have s1 := (HX.out.keep hd).setRow (g := g) (o := m * 12 + 11) rfl (by omega) (.int .i64 i)
    have s2 := s1.setRow (g := g) (o := m * 12 + 9) rfl (by omega) (.int .i64 (p + 1))
    exact ⟨s2, ((Near.of (Besides.of_below hd)).trans (Near.row (g := g) rfl _)).trans (Near.row (g := g) rfl _)⟩
  generalize ((w.drewN nq).setCell ⟨g, m * 12 + 11, none⟩ (.int .i64 i)).setCell ⟨g, m * 12 + 9, none⟩ (.int .i64 (p + 1)) = W1 at *
  clear c0 c1 c2 c3 f1 f2 f3 r0 r9 r10 r11 y9 y10 y11
  refine (next41 HW.out.1).mono ?_
  rintro e w2 ⟨rfl, hb2⟩
  have H2 := Lib.hid (And.intro (HW.out.1.keep hb2) (HW.out.2.trans (Near.of (Besides.of_below hb2))))
  clear hb2 HW
  by_cases h105 : byt b i = 105
  · rw [h105]
    go_wp2
    go_ret
    exact ⟨i, _, 22, rfl, H2.out.1, H2.out.2, .inl ⟨.inl h105, rfl, rfl⟩⟩
  by_cases h108 : byt b i = 108
  · rw [h108]
    go_wp2
    go_ret
    exact ⟨i, _, 22, rfl, H2.out.1, H2.out.2, .inl ⟨.inr (.inl h108), rfl, rfl⟩⟩
  by_cases h100 : byt b i = 100
  · rw [h100]
    go_wp2
    go_ret
    exact ⟨i, _, 22, rfl, H2.out.1, H2.out.2, .inl ⟨.inr (.inr h100), rfl, rfl⟩⟩
  have hno : ¬ (byt b i = 105 ∨ byt b i = 108 ∨ byt b i = 100) := by rintro (h | h | h) <;> contradiction
  have HN := Lib.hid hno
  have z105 : ((byt b i).toNat : Int) ≠ 105 := u8_ne h105
  have z108 : ((byt b i).toNat : Int) ≠ 108 := u8_ne h108
  have z100 : ((byt b i).toNat : Int) ≠ 100 := u8_ne h100
  have HL := Lib.hid (leaf55 H2.out.1 h108 h100)
  clear hno h105 h108 h100
  generalize ((byt b i).toNat : Int) = zz at *
  go_wp2_with fail
  refine HL.out.mono ?_
  rintro e w3 ⟨t, xa, xn, xc, ya, yn, yc, j, er, rfl, hO, hij, hs3, hb3⟩
  have H3 := Lib.hid (And.intro hs3 (H2.out.2.trans (Near.of hb3)))
  have HV : Hid ((er = 0 ∧ leafO b i = .val t j) ∨ (er ≠ 0 ∧ leafO b i = .bad j er)) := hO
  clear hO hs3 hb3 HL H2
  unfold vv
  have HA : Hid (SR B rb (w3.alloc (Obj.cells #[Value.int .i64 t.k, Value.int .i64 t.n, Value.string t.s, Value.slice xa xn xc, Value.slice ya yn yc] 31)) a c b (i + j) n (.slice (some ⟨g, 0, none⟩) (m + 1) oc) (m + 1) ((us.set (m * 12 + 11) (.int .i64 i)).set (m * 12 + 9) (.int .i64 (p + 1))) ∧ Near rb (.slice (some ⟨g, 0, none⟩) (m + 1) oc) w (w3.alloc (Obj.cells #[Value.int .i64 t.k, Value.int .i64 t.n, Value.string t.s, Value.slice xa xn xc, Value.slice ya yn yc] 31)) ∧ obj (w3.alloc (Obj.cells #[Value.int .i64 t.k, Value.int .i64 t.n, Value.string t.s, Value.slice xa xn xc, Value.slice ya yn yc] 31)) w3.heap.size (.int .i64 t.k) (.int .i64 t.n) (.string t.s) (.slice xa xn xc) (.slice ya yn yc)) := by
    have hba : Below w3.heap.size w3 (w3.alloc (Obj.cells #[Value.int .i64 t.k, Value.int .i64 t.n, Value.string t.s, Value.slice xa xn xc, Value.slice ya yn yc] 31)) := (Below.refl _ _).alloc (Nat.le_refl _) _
    exact ⟨H3.out.1.keep hba, H3.out.2.trans (Near.of (Besides.of_below hba)), heap_new _ _⟩
  by_cases he : er = 0
  · subst he
    have hv : leafO b i = .val t j := by
      rcases HV.out with ⟨_, h⟩ | ⟨h, _⟩
      · exact h
      · exact absurd rfl h
    have HVV := Lib.hid hv
    obtain ⟨_, d1, _, _, e1, _⟩ := HA.out.1.cells
    obtain ⟨_, -, hcl⟩ := own_form HA.out.1.own (g := g) rfl
    have r9 := hcl _ _ HT.out.1
    have r10 := hcl _ _ HT.out.2.1
    have r11 := hcl _ _ HT.out.2.2
    obtain ⟨o0, o1, o2, o3, o4⟩ := HA.out.2.2.cells
    have hfr : ∀ o, (w3.alloc (Obj.cells #[Value.int .i64 t.k, Value.int .i64 t.n, Value.string t.s, Value.slice xa xn xc, Value.slice ya yn yc] 31)).frozen? ⟨g, o, none⟩ = false := by
      rcases HA.out.1.own.2 with ⟨e, _⟩ | ⟨g', cap, cur, q1, q2, q3, _⟩
      · cases e
      · injection q1 with e1
        injection e1 with e1
        injection e1 with e1
        subst e1
        exact fun o => blk.frozen (show blk (w3.alloc (Obj.cells #[Value.int .i64 t.k, Value.int .i64 t.n, Value.string t.s, Value.slice xa xn xc, Value.slice ya yn yc] 31)) g 128 cur from q3) o
    have y10 := hfr (m * 12 + 10)
    clear hcl hfr hv HV H3
    by_cases hp : 1 ≤ p
    · have hp2 : ¬ (p + 1 ≤ 1) := by omega
      have hp3 : (1 : Int) < p + 1 := by omega
      go_wp2
      generalize (w3.alloc (Obj.cells #[Value.int .i64 t.k, Value.int .i64 t.n, Value.string t.s, Value.slice xa xn xc, Value.slice ya yn yc] 31)) = A at *
      go_quiet (fail)
      go_wp2
      · rename_i hcmp
        go_ret
        have hd : Below A.heap.size A (A.drewN nq) := ⟨rfl, rfl, rfl, Nat.le_refl _, fun _ _ => rfl⟩
        have sA := HA.out.1.keep hd
        have nA := HA.out.2.1.trans (Near.of (Besides.of_below hd))
        have hle : leB t.s lk = true := by unfold leB; rcases hcmp with h | h <;> simp [h]
        exact ⟨i, _, 25, rfl, sA.set (o := 1) (i' := i) (n' := n) (Nat.le_trans (Nat.le_add_right _ _) hij) rfl, nA.trans (Near.of (Besides.refl rb _).set1), .inr ⟨HN.out, .inr ⟨t, j, HVV.out, .inl ⟨hp, hle, rfl, rfl⟩⟩⟩⟩
      · rename_i hcmp
        go_ret
        have hd : Below A.heap.size A (A.drewN nq) := ⟨rfl, rfl, rfl, Nat.le_refl _, fun _ _ => rfl⟩
        have sA := HA.out.1.keep hd
        have nA := HA.out.2.1.trans (Near.of (Besides.of_below hd))
        have hle : leB t.s lk = false := by unfold leB; simp [hcmp.1, hcmp.2]
        exact ⟨i + j, _, 0, rfl, sA.setRow (g := g) (o := m * 12 + 10) rfl (by omega) (.string t.s), nA.trans (Near.row (g := g) rfl _), .inr ⟨HN.out, .inr ⟨t, j, HVV.out, .inr ⟨(fun h => by rw [hle] at h; exact absurd h.2 (by decide)), rfl, rfl, rfl⟩⟩⟩⟩
    · obtain rfl : p = 0 := by omega
      go_wp2
      generalize (w3.alloc (Obj.cells #[Value.int .i64 t.k, Value.int .i64 t.n, Value.string t.s, Value.slice xa xn xc, Value.slice ya yn yc] 31)) = A at *
      go_quiet (fail)
      go_wp2
      go_ret
      have hd : Below A.heap.size A (A.drewN nq) := ⟨rfl, rfl, rfl, Nat.le_refl _, fun _ _ => rfl⟩
      have sA := HA.out.1.keep hd
      have nA := HA.out.2.1.trans (Near.of (Besides.of_below hd))
      exact ⟨i + j, _, 0, rfl, sA.setRow (g := g) (o := m * 12 + 10) rfl (by omega) (.string t.s), nA.trans (Near.row (g := g) rfl _), .inr ⟨HN.out, .inr ⟨t, j, HVV.out, .inr ⟨(fun h => by have := h.1; omega), rfl, rfl, rfl⟩⟩⟩⟩
  · have he' : (er == 0) = false := beq_eq_false_iff_ne.2 he
    have hbad : leafO b i = .bad j er := by
      rcases HV.out with ⟨h, _⟩ | ⟨_, h⟩
      · exact absurd h he
      · exact h
    have HBD := Lib.hid hbad
    clear hbad
    go_wp2
    go_ret
    exact ⟨i + j, _, er, rfl, HA.out.1, HA.out.2.1, .inr ⟨HN.out, .inl ⟨j, HBD.out, he, rfl⟩⟩⟩
end Go.Proofs.YtdlnnnlmlaploabDoor
