import Derived.Test.YtdlnnnlmlaploaaDoorS5
import Derived.Test.YtdlnnnlmlaploaaDoorRdx
namespace Go.Proofs.YtdlnnnlmlaploaaDoor
open Go.RowKit Go.Deep
theorem info94 : (Tryd.prog.info? 94).map (fun i => (i.zero, i.size, i.bytes)) = some (some (.agg #[.int .i64 0, .int .i64 0, .int .i64 0, .int .i64 0, .int .i64 0, .int .i64 0, .string ByteArray.empty, .int .i64 0, .int .i64 0, .int .i64 0, .string ByteArray.empty, .int .i64 0]), 12, 112) := by kernel_rfl
/-- one level more on the row -/
theorem append_level (ot : TypeId) {w : World} {B k : Nat} {ov : Value} {us : List Value} (h : w.ownsRow B 94 12 ov k us) (g : Nat) {kd fr to dp up nt pl fi pa be : Int} {ky kk : ByteArray}
    (hc : blk w g 94 #[.int .i64 kd, .int .i64 fr, .int .i64 to, .int .i64 dp, .int .i64 up, .int .i64 nt, .string ky, .int .i64 pl, .int .i64 fi, .int .i64 pa, .string kk, .int .i64 be]) (hB : B ≤ w.heap.size) (hk : k ≤ 32) : ∃ sa sc w', Sem.run Tryd.prog (Builtin.append_ #[74, 74] ot #[ov, .slice (some ⟨g, 0, none⟩) 1 1]) w = Result.ok (.slice sa (k + 1) sc) w' ∧ w'.ownsRow B 94 12 (.slice sa (k + 1) sc) (k + 1) (us ++ [.int .i64 kd, .int .i64 fr, .int .i64 to, .int .i64 dp, .int .i64 up, .int .i64 nt, .string ky, .int .i64 pl, .int .i64 fi, .int .i64 pa, .string kk, .int .i64 be]) ∧ w.grownBy w' ov.ownBlock ∧ ((Value.slice sa (k + 1) sc).ownBlock = ov.ownBlock ∨ (Value.slice sa (k + 1) sc).ownBlock = some w.heap.size) := by
  obtain ⟨i0, hi, hz0, hz1, hz2⟩ := info_parts info94
  obtain ⟨v', w', hr, hown', hgrow, _, hatb⟩ := run_append_own_at (P := Tryd.prog) w B 74 ot 94 i0 _ 12 112 Tryd.underlying74 hi hz0 hz1 hz2 rfl (by omega) ov k us h ⟨g, 0, none⟩ 1 1 [.int .i64 kd, .int .i64 fr, .int .i64 to, .int .i64 dp, .int .i64 up, .int .i64 nt, .string ky, .int .i64 pl, .int .i64 fi, .int .i64 pa, .string kk, .int .i64 be] rfl
    (fun j u hu => by
      match j, hu with
      | 0, hu => simp at hu; subst hu; simpa [Addr.add] using hc.cell 0
      | 1, hu => simp at hu; subst hu; simpa [Addr.add] using hc.cell 1
      | 2, hu => simp at hu; subst hu; simpa [Addr.add] using hc.cell 2
      | 3, hu => simp at hu; subst hu; simpa [Addr.add] using hc.cell 3
      | 4, hu => simp at hu; subst hu; simpa [Addr.add] using hc.cell 4
      | 5, hu => simp at hu; subst hu; simpa [Addr.add] using hc.cell 5
      | 6, hu => simp at hu; subst hu; simpa [Addr.add] using hc.cell 6
      | 7, hu => simp at hu; subst hu; simpa [Addr.add] using hc.cell 7
      | 8, hu => simp at hu; subst hu; simpa [Addr.add] using hc.cell 8
      | 9, hu => simp at hu; subst hu; simpa [Addr.add] using hc.cell 9
      | 10, hu => simp at hu; subst hu; simpa [Addr.add] using hc.cell 10
      | 11, hu => simp at hu; subst hu; simpa [Addr.add] using hc.cell 11) (fun u hu => by simp at hu; rcases hu with rfl | rfl | rfl | rfl | rfl | rfl | rfl | rfl | rfl | rfl | rfl | rfl <;> rfl) (by unfold maxLen; omega) (by omega) hB
  obtain ⟨sa, sc, rfl⟩ := ownForm hown'
  exact ⟨sa, sc, w', hr, hown', hgrow, hatb⟩
theorem SR.remakeN {B rb : Nat} {w w' : World} {a : Option Addr} {c : Nat} {b : List UInt8} {i n i' n' : Nat} {ov ov' : Value} {k k' : Nat} {us us' : List Value} (h : SR B rb w a c b i n ov k us) (hb : Near rb ov w w') (hbk : blk w' rb 76 #[.slice a b.length c, .int .i64 i', .int .i64 n', ov']) (hown : w'.ownsRow B 94 12 ov' k' us') (hne : ov'.ownBlock ≠ some rb) (hi : i' ≤ b.length) : SR B rb w' a c b i' n' ov' k' us' where
  bk := hbk
  own := hown
  low := h.low
  ne := hne
  le := hi
  lim := h.lim
  cap := h.cap
  tx := by
    rcases h.tx with e | ⟨g, o, h1, h2, h3⟩
    · exact .inl e
    · exact .inr ⟨g, o, h1, h2, fun j hj => (World.cell?_of_block (w := w) (hb.block g (World.block_lt_of_cell? w _ (h3 j hj)) (by have := h.low; omega) (fun e => by have := (own_lt h.own e).1; omega))).trans (h3 j hj)⟩
  ev := by
    obtain ⟨⟨t, p, h1⟩, ⟨t', p', h2⟩⟩ := h.ev
    have := h.low; have := h.evB
    exact ⟨⟨t, p, (World.cell?_of_block (w := w) (hb.block 3 (World.block_lt_of_cell? w _ h1) (by omega) (fun e => by have := (own_lt h.own e).1; omega))).trans h1⟩, ⟨t', p', (World.cell?_of_block (w := w) (hb.block 4 (World.block_lt_of_cell? w _ h2) (by omega) (fun e => by have := (own_lt h.own e).1; omega))).trans h2⟩⟩
  evB := h.evB
theorem Near.setOld {rb H o : Nat} {ov : Value} {w w1 : World} {u : Value} (hH : w.heap.size ≤ H) (h : Near rb ov w w1) : Near rb ov w (w1.setCell ⟨H, o, none⟩ u) :=
  ⟨h.os, h.tape, h.output, by rw [setCell_size]; exact h.size, fun k hk hn ho => by rw [Below.heap_setCell _ _ _ _ (show k ≠ H by omega)]; exact h.block k hk hn ho⟩
theorem own_far {B e s k : Nat} {w : World} {v : Value} {us : List Value} {H o : Nat} {u : Value} (h : w.ownsRow B e s v k us) (hne : v.ownBlock ≠ some H) : (w.setCell ⟨H, o, none⟩ u).ownsRow B e s v k us := by
  refine ⟨h.1, ?_⟩
  rcases h.2 with e | ⟨g', cap, cur, q1, q2, q3, q4⟩
  · exact .inl e
  · exact .inr ⟨g', cap, cur, q1, q2, (Below.heap_setCell _ _ _ _ (show g' ≠ H from fun e => hne (by rw [q1]; show some g' = some H; rw [e]))).trans q3, q4⟩
theorem box9c {rb g : Nat} {ov ov' : Value} {B k : Nat} {us : List Value} {w w1 : World} (hb : Near rb ov w w1) (hg : w.heap.size ≤ g) (hown : w1.ownsRow B 94 12 ov' k us) (hne : ov'.ownBlock ≠ some g) {c0 c1 c2 c3 c4 c5 c6 c7 c8 : Value} (hk : blk w1 g 47 #[c0, c1, c2, c3, c4, c5, c6, c7, c8]) (v0 v1 v2 v3 v4 v5 v6 v7 v8 : Value) :
    Near rb ov w (set9 w1 g v0 v1 v2 v3 v4 v5 v6 v7 v8) ∧ blk (set9 w1 g v0 v1 v2 v3 v4 v5 v6 v7 v8) g 47 #[v0, v1, v2, v3, v4, v5, v6, v7, v8] ∧ (set9 w1 g v0 v1 v2 v3 v4 v5 v6 v7 v8).ownsRow B 94 12 ov' k us ∧ ∀ r ty cs, r ≠ g → blk w1 r ty cs → blk (set9 w1 g v0 v1 v2 v3 v4 v5 v6 v7 v8) r ty cs := by
  have m0 := Near.setOld (o := 0) (u := v0) hg hb
  have m1 := Near.setOld (o := 1) (u := v1) hg m0
  have m2 := Near.setOld (o := 2) (u := v2) hg m1
  have m3 := Near.setOld (o := 3) (u := v3) hg m2
  have m4 := Near.setOld (o := 4) (u := v4) hg m3
  have m5 := Near.setOld (o := 5) (u := v5) hg m4
  have m6 := Near.setOld (o := 6) (u := v6) hg m5
  have m7 := Near.setOld (o := 7) (u := v7) hg m6
  have m8 := Near.setOld (o := 8) (u := v8) hg m7
  have o0 := own_far (o := 0) (u := v0) hown hne
  have o1 := own_far (o := 1) (u := v1) o0 hne
  have o2 := own_far (o := 2) (u := v2) o1 hne
  have o3 := own_far (o := 3) (u := v3) o2 hne
  have o4 := own_far (o := 4) (u := v4) o3 hne
  have o5 := own_far (o := 5) (u := v5) o4 hne
  have o6 := own_far (o := 6) (u := v6) o5 hne
  have o7 := own_far (o := 7) (u := v7) o6 hne
  have o8 := own_far (o := 8) (u := v8) o7 hne
  have k0 := hk.s0 v0
  have k1 := k0.s1 v1
  have k2 := k1.s2 v2
  have k3 := k2.s3 v3
  have k4 := k3.s4 v4
  have k5 := k4.s5 v5
  have k6 := k5.s6 v6
  have k7 := k6.s7 v7
  have k8 := k7.s8 v8
  refine ⟨m8, k8, o8, fun r ty cs hr h => h.keep ?_⟩
  rw [Below.heap_setCell _ _ _ _ hr, Below.heap_setCell _ _ _ _ hr, Below.heap_setCell _ _ _ _ hr, Below.heap_setCell _ _ _ _ hr, Below.heap_setCell _ _ _ _ hr, Below.heap_setCell _ _ _ _ hr, Below.heap_setCell _ _ _ _ hr, Below.heap_setCell _ _ _ _ hr, Below.heap_setCell _ _ _ _ hr]
end Go.Proofs.YtdlnnnlmlaploaaDoor
