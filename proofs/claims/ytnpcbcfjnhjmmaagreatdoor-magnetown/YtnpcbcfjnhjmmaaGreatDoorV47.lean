import Derived.Test.YtnpcbcfjnhjmmaaGreatDoorV46
import Derived.Test.YtnpcbcfjnhjmmaaGreatDoorV39
import Derived.Maps.AppendAt
namespace Go.Proofs.YtnpcbcfjnhjmmaaGreatDoor
open Go.Shelf Go.RowKit Go.Deep
namespace Ow
theorem own_pre {w : World} {e sz n m g cap : Nat} {xs us : List Value} (h : w.ownsRow 0 e sz (.slice (some ⟨g, 0, none⟩) (n + m) cap) (n + m) (xs ++ us)) (hx : xs.length = n * sz) : w.ownsRow 0 e sz (.slice (some ⟨g, 0, none⟩) n cap) n xs ∧ n + m ≤ cap := by
  rcases h.2 with ⟨h', _⟩ | ⟨g', cap', cur, h', h2, h3, h4, h5, h6, h7⟩
  · simp at h'
  · simp only [Value.slice.injEq, Option.some.injEq, Addr.mk.injEq, and_true, true_and] at h'
    obtain ⟨rfl, rfl⟩ := h'
    refine ⟨⟨hx, .inr ⟨g, cap, cur, rfl, h2, h3, by omega, h5, h6, ?_⟩⟩, h4⟩
    have h8 : (cur.toList.take ((n + m) * sz)).take (n * sz) = cur.toList.take (n * sz) := by
      rw [List.take_take, Nat.min_eq_left (Nat.mul_le_mul_right _ (Nat.le_add_right _ _))]
    rw [← h8, h7, ← hx, List.take_left' rfl]
theorem own_at {w : World} {e sz n m g cap : Nat} {xs us : List Value} (h : w.ownsRow 0 e sz (.slice (some ⟨g, 0, none⟩) (n + m) cap) (n + m) (xs ++ us)) (hx : xs.length = n * sz) (j : Nat) (hj : j < m * sz) : w.cell? ⟨g, n * sz + j, none⟩ = us[j]? := by
  rw [World.ownsRow.cellAt h (n * sz + j) (by rw [Nat.add_mul]; omega), ← hx, List.getElem?_append_right (by omega)]
  congr 1
  omega
theorem wp_append_gen {o : Oper} {a : Act} {K : Act → World → Prop} {Q : Exit → Act → World → Prop} {w : World} {sv xv : Value} {t : TypeId} (s x : Operand) (ho : o.op = .call { callee := .builtin .append, args := #[s, x], argTypes := #[t, t] }) {v' : Value} {w' : World} (hs : a.eval s = sv) (hx : a.eval x = xv)
    (hrun : ∀ ty, (Builtin.append_ #[t, t] ty #[sv, xv]).run Tryz.prog w = .ok v' w') (h : K (a.put o.dst v') w') : o.wp Tryz.prog a w K Q := by
  unfold Oper.wp execOp
  simp only [ho, resolve, invoke, builtin, Sem.run_bind, Sem.run_pure, Result.andThen_ok, List.map_toArray, List.map_cons, List.map_nil, hs, hx, hrun]
  exact h
/-- one more onto an own row -/
theorem ap_run {w : World} {t e sz n bytes b : Nat} {sv z : Value} {xs us : List Value} (ht : Tryz.prog.underlying t = some (.slice e)) (hi : (Tryz.prog.info? e).map (fun i => (i.zero, i.size, i.bytes)) = some (some z, sz, bytes)) (hzs : z.cells.size = sz) (hsz : 0 < sz) (hown : w.ownsRow 0 e sz sv n xs)
    (hul : us.length = sz) (h1 : ∀ u ∈ us, u.oneCell' = true) (hc : w.heap[b]? = some (.cells us.toArray e (0, 0))) (hn : n ≤ 2147483647) (hb : bytes ≤ 96) :
    ∃ g cap w', (∀ ty, (Builtin.append_ #[t, t] ty #[sv, .slice (some ⟨b, 0, none⟩) 1 1]).run Tryz.prog w = .ok (.slice (some ⟨g, 0, none⟩) (n + 1) cap) w') ∧ w'.ownsRow 0 e sz (.slice (some ⟨g, 0, none⟩) (n + 1) cap) (n + 1) (xs ++ us) ∧ w.grownBy w' sv.ownBlock ∧ (sv.ownBlock = some g ∨ g = w.heap.size) := by
  obtain ⟨i0, hi, hz0, hz1, hz2⟩ := info_parts hi
  obtain ⟨v', w', h1', h2, h3, _, h5⟩ := run_append_own_at (P := Tryz.prog) w 0 t 0 e i0 _ sz bytes ht hi hz0 hz1 hz2 hzs hsz sv n xs hown ⟨b, 0, none⟩ 1 1 us (by rw [hul, Nat.one_mul]) (fun j u hj => by
    rw [addAt, Nat.zero_add, cellH2 hc]
    simpa using hj) h1 (by unfold maxLen; omega) (by have : (n + 1) * bytes ≤ 2147483648 * 96 := Nat.mul_le_mul (by omega) hb; omega) (Nat.zero_le _)
  obtain ⟨g, cap, rfl⟩ := ownsRow_succ h2
  refine ⟨g, cap, w', fun ty => h1', h2, h3, ?_⟩
  rcases h5 with h5 | h5
  · exact .inl h5.symm
  · exact .inr (by simpa [Value.ownBlock] using h5)
def RQ (A : Act) (W : World) : Exit → Act → World → Prop := fun x a w => x = .normal ∧ a = A ∧ w = W
theorem wp_meet {c : Code} {Q' : Exit → Act → World → Prop} {a : Act} {w W : World} (h : ∃ A, c.wp Tryz.prog (RQ A W) a w ∧ Q' .normal A W) : c.wp Tryz.prog Q' a w := by
  obtain ⟨A, h1, h2⟩ := h
  exact wp_mono h1 (fun x a' w' hq => by obtain ⟨rfl, rfl, rfl⟩ := hq; exact h2)
/-- what stands while the twin's lists are gone on with -/
structure PB (w00 w : World) (H G1 G2 G3 : Nat) (k : Lk) (tr pe on mo : Value) (q : Lk) (t1 p1 o1 m1 t2 p2 o2 m2 t3 p3 o3 m3 : Value) : Prop where
  be : Below w00.heap.size w00 w
  l0 : LB w H k.l k.nm tr pe on mo
  l1 : LB w G1 q.l q.nm t1 p1 o1 m1
  l2 : LB w G2 q.l q.nm t2 p2 o2 m2
  l3 : LB w G3 k.l k.nm t3 p3 o3 m3
  r1 : RLo (fun b => H < b ∧ b < G1) w q t1 p1 o1 m1
  r2 : RLo (fun b => G1 < b ∧ b < G2) w q t2 p2 o2 m2
  r3 : RLo (fun b => G2 < b ∧ b ≠ G3) w k t3 p3 o3 m3
  h0 : w00.heap.size ≤ H
  h1 : H < G1
  h2 : G1 < G2
  h3 : G2 < G3
section
variable {w00 w w' : World} {H G1 G2 G3 : Nat} {k : Lk} {tr pe on mo : Value} {q : Lk} {t1 p1 o1 m1 t2 p2 o2 m2 t3 p3 o3 m3 : Value}
theorem PB.below (h : PB w00 w H G1 G2 G3 k tr pe on mo q t1 p1 o1 m1 t2 p2 o2 m2 t3 p3 o3 m3) (b : Below w.heap.size w w') : PB w00 w' H G1 G2 G3 k tr pe on mo q t1 p1 o1 m1 t2 p2 o2 m2 t3 p3 o3 m3 :=
  ⟨h.be.trans (b.mono h.be.size), h.l0.keep (b.block _ h.l0.lt), h.l1.keep (b.block _ h.l1.lt), h.l2.keep (b.block _ h.l2.lt), h.l3.keep (b.block _ h.l3.lt), h.r1.below b, h.r2.below b, h.r3.below b, h.h0, h.h1, h.h2, h.h3⟩
theorem PB.in3 (h : PB w00 w H G1 G2 G3 k tr pe on mo q t1 p1 o1 m1 t2 p2 o2 m2 t3 p3 o3 m3) {v t3' p3' o3' m3' : Value} (f : Fr (fun b => v.ownBlock ≠ some b ∧ b ≠ G3) w w') (hv : ∀ g, v.ownBlock = some g → G2 < g ∧ g ≠ G3)
    (r3' : RLo (fun b => G2 < b ∧ b ≠ G3) w' k t3' p3' o3' m3') (l3' : LB w' G3 k.l k.nm t3' p3' o3' m3') : PB w00 w' H G1 G2 G3 k tr pe on mo q t1 p1 o1 m1 t2 p2 o2 m2 t3' p3' o3' m3' := by
  have g1 := h.h1; have g2 := h.h2; have g3 := h.h3; have g0 := h.h0
  have low : ∀ b, b ≤ G2 → v.ownBlock ≠ some b ∧ b ≠ G3 := fun b hb => ⟨fun e => by have := (hv b e).1; omega, by omega⟩
  refine ⟨⟨f.os.trans h.be.os, f.tape.trans h.be.tape, f.output.trans h.be.output, Nat.le_trans h.be.size f.size, fun b hb => ?_⟩, h.l0.keep (f.block _ h.l0.lt (low _ (by omega))), h.l1.keep (f.block _ h.l1.lt (low _ (by omega))), h.l2.keep (f.block _ h.l2.lt (low _ (by omega))), l3', h.r1.fr f (fun b hb => low b (by omega)), h.r2.fr f (fun b hb => low b (by omega)), r3', g0, g1, g2, g3⟩
  have := h.be.size
  rw [f.block b (by omega) (low b (by omega)), h.be.block b hb]
theorem PB.apT (h : PB w00 w H G1 G2 G3 k tr pe on mo q t1 p1 o1 m1 t2 p2 o2 m2 t3 p3 o3 m3) (hl : k.l.length = 32) {us : List Value} {g cap : Nat} (f : Fr (fun b => t3.ownBlock ≠ some b) w w') (hrow : w'.ownsRow 0 9 1 (.slice (some ⟨g, 0, none⟩) (k.ts.length + 1) cap) (k.ts.length + 1) (tsC k.ts ++ us)) (a : t3.ownBlock = some g ∨ w.heap.size ≤ g) :
    PB w00 (w'.setCell ⟨G3, 33, none⟩ (.slice (some ⟨g, 0, none⟩) k.ts.length cap)) H G1 G2 G3 k tr pe on mo q t1 p1 o1 m1 t2 p2 o2 m2 (.slice (some ⟨g, 0, none⟩) k.ts.length cap) p3 o3 m3 ∧ k.ts.length + 1 ≤ cap ∧ g ≠ G3 ∧ (∀ j, j < 1 → (w'.setCell ⟨G3, 33, none⟩ (.slice (some ⟨g, 0, none⟩) k.ts.length cap)).cell? ⟨g, k.ts.length * 1 + j, none⟩ = us[j]?) := by
  have hv : ∀ b, t3.ownBlock = some b → G2 < b ∧ b ≠ G3 := fun b hb => (h.r3.o1).2 b hb
  have hx : (tsC k.ts).length = k.ts.length * 1 := by simp [tsC]
  obtain ⟨e1, e2⟩ := own_pre hrow hx
  have g3 := h.l3.lt
  have g32 := h.h3
  have hg : G2 < g ∧ g ≠ G3 := by
    rcases a with a | a
    · exact hv g a
    · omega
  have hat : At w t3 (.slice (some ⟨g, 0, none⟩) k.ts.length cap) := by
    rcases a with a | a
    · exact .inl a.symm
    · exact .inr (fun b hb => by have e : g = b := by simpa [Value.ownBlock] using hb
                                 omega)
  have fs := frSet w' G3 33 (.slice (some ⟨g, 0, none⟩) k.ts.length cap)
  have f2 : Fr (fun b => t3.ownBlock ≠ some b ∧ b ≠ G3) w (w'.setCell ⟨G3, 33, none⟩ (.slice (some ⟨g, 0, none⟩) k.ts.length cap)) := (f.mono (fun _ _ hb => hb.1)).trans fs (fun _ _ hb => hb.2)
  have hn : RSo (fun b => G2 < b ∧ b ≠ G3) w' (.slice (some ⟨g, 0, none⟩) k.ts.length cap) k.ts := ⟨e1, fun b hb => by
    have e : g = b := by simpa [Value.ownBlock] using hb
    subst e; exact hg⟩
  have r := (h.r3.putT f hn (fun _ hb _ => hb) hat).fr fs (fun _ hb => hb.2)
  refine ⟨h.in3 f2 hv r ?_, e2, hg.2, fun j hj => ?_⟩
  · have h9 := setAt (h.l3.keep (f.block G3 g3 (fun e => (hv G3 e).2 rfl))) 33 (.slice (some ⟨g, 0, none⟩) k.ts.length cap)
    rw [(lkC_set hl k.nm t3 p3 o3 m3 (.slice (some ⟨g, 0, none⟩) k.ts.length cap)).1] at h9
    exact h9
  · rw [World.cell?_of_block (w := w') (a := ⟨g, k.ts.length * 1 + j, none⟩) (Below.heap_setCell _ _ _ _ (by show g ≠ G3; exact hg.2))]
    exact own_at hrow hx j (by omega)
theorem PB.apP (h : PB w00 w H G1 G2 G3 k tr pe on mo q t1 p1 o1 m1 t2 p2 o2 m2 t3 p3 o3 m3) (hl : k.l.length = 32) {us : List Value} {g cap : Nat} (f : Fr (fun b => p3.ownBlock ≠ some b) w w') (hrow : w'.ownsRow 0 9 1 (.slice (some ⟨g, 0, none⟩) (k.ps.length + 1) cap) (k.ps.length + 1) (tsC k.ps ++ us)) (a : p3.ownBlock = some g ∨ w.heap.size ≤ g) :
    PB w00 (w'.setCell ⟨G3, 34, none⟩ (.slice (some ⟨g, 0, none⟩) k.ps.length cap)) H G1 G2 G3 k tr pe on mo q t1 p1 o1 m1 t2 p2 o2 m2 t3 (.slice (some ⟨g, 0, none⟩) k.ps.length cap) o3 m3 ∧ k.ps.length + 1 ≤ cap ∧ g ≠ G3 ∧ (∀ j, j < 1 → (w'.setCell ⟨G3, 34, none⟩ (.slice (some ⟨g, 0, none⟩) k.ps.length cap)).cell? ⟨g, k.ps.length * 1 + j, none⟩ = us[j]?) := by
  have hv : ∀ b, p3.ownBlock = some b → G2 < b ∧ b ≠ G3 := fun b hb => (h.r3.o2).2 b hb
  have hx : (tsC k.ps).length = k.ps.length * 1 := by simp [tsC]
  obtain ⟨e1, e2⟩ := own_pre hrow hx
  have g3 := h.l3.lt
  have g32 := h.h3
  have hg : G2 < g ∧ g ≠ G3 := by
    rcases a with a | a
    · exact hv g a
    · omega
  have hat : At w p3 (.slice (some ⟨g, 0, none⟩) k.ps.length cap) := by
    rcases a with a | a
    · exact .inl a.symm
    · exact .inr (fun b hb => by have e : g = b := by simpa [Value.ownBlock] using hb
                                 omega)
  have fs := frSet w' G3 34 (.slice (some ⟨g, 0, none⟩) k.ps.length cap)
  have f2 : Fr (fun b => p3.ownBlock ≠ some b ∧ b ≠ G3) w (w'.setCell ⟨G3, 34, none⟩ (.slice (some ⟨g, 0, none⟩) k.ps.length cap)) := (f.mono (fun _ _ hb => hb.1)).trans fs (fun _ _ hb => hb.2)
  have hn : RSo (fun b => G2 < b ∧ b ≠ G3) w' (.slice (some ⟨g, 0, none⟩) k.ps.length cap) k.ps := ⟨e1, fun b hb => by
    have e : g = b := by simpa [Value.ownBlock] using hb
    subst e; exact hg⟩
  have r := (h.r3.putP f hn (fun _ hb _ => hb) hat).fr fs (fun _ hb => hb.2)
  refine ⟨h.in3 f2 hv r ?_, e2, hg.2, fun j hj => ?_⟩
  · have h9 := setAt (h.l3.keep (f.block G3 g3 (fun e => (hv G3 e).2 rfl))) 34 (.slice (some ⟨g, 0, none⟩) k.ps.length cap)
    rw [(lkC_set hl k.nm t3 p3 o3 m3 (.slice (some ⟨g, 0, none⟩) k.ps.length cap)).2.1] at h9
    exact h9
  · rw [World.cell?_of_block (w := w') (a := ⟨g, k.ps.length * 1 + j, none⟩) (Below.heap_setCell _ _ _ _ (by show g ≠ G3; exact hg.2))]
    exact own_at hrow hx j (by omega)
theorem PB.apO (h : PB w00 w H G1 G2 G3 k tr pe on mo q t1 p1 o1 m1 t2 p2 o2 m2 t3 p3 o3 m3) (hl : k.l.length = 32) {us : List Value} {g cap : Nat} (f : Fr (fun b => o3.ownBlock ≠ some b) w w') (hrow : w'.ownsRow 0 36 2 (.slice (some ⟨g, 0, none⟩) (k.rs.length + 1) cap) (k.rs.length + 1) (rsC k.rs ++ us)) (a : o3.ownBlock = some g ∨ w.heap.size ≤ g) :
    PB w00 (w'.setCell ⟨G3, 35, none⟩ (.slice (some ⟨g, 0, none⟩) k.rs.length cap)) H G1 G2 G3 k tr pe on mo q t1 p1 o1 m1 t2 p2 o2 m2 t3 p3 (.slice (some ⟨g, 0, none⟩) k.rs.length cap) m3 ∧ k.rs.length + 1 ≤ cap ∧ g ≠ G3 ∧ (∀ j, j < 2 → (w'.setCell ⟨G3, 35, none⟩ (.slice (some ⟨g, 0, none⟩) k.rs.length cap)).cell? ⟨g, k.rs.length * 2 + j, none⟩ = us[j]?) := by
  have hv : ∀ b, o3.ownBlock = some b → G2 < b ∧ b ≠ G3 := fun b hb => (h.r3.o3).2 b hb
  have hx : (rsC k.rs).length = k.rs.length * 2 := rsC_len _
  obtain ⟨e1, e2⟩ := own_pre hrow hx
  have g3 := h.l3.lt
  have g32 := h.h3
  have hg : G2 < g ∧ g ≠ G3 := by
    rcases a with a | a
    · exact hv g a
    · omega
  have hat : At w o3 (.slice (some ⟨g, 0, none⟩) k.rs.length cap) := by
    rcases a with a | a
    · exact .inl a.symm
    · exact .inr (fun b hb => by have e : g = b := by simpa [Value.ownBlock] using hb
                                 omega)
  have fs := frSet w' G3 35 (.slice (some ⟨g, 0, none⟩) k.rs.length cap)
  have f2 : Fr (fun b => o3.ownBlock ≠ some b ∧ b ≠ G3) w (w'.setCell ⟨G3, 35, none⟩ (.slice (some ⟨g, 0, none⟩) k.rs.length cap)) := (f.mono (fun _ _ hb => hb.1)).trans fs (fun _ _ hb => hb.2)
  have hn : RRo (fun b => G2 < b ∧ b ≠ G3) w' (.slice (some ⟨g, 0, none⟩) k.rs.length cap) k.rs := ⟨e1, fun b hb => by
    have e : g = b := by simpa [Value.ownBlock] using hb
    subst e; exact hg⟩
  have r := (h.r3.putO f hn (fun _ hb _ => hb) hat).fr fs (fun _ hb => hb.2)
  refine ⟨h.in3 f2 hv r ?_, e2, hg.2, fun j hj => ?_⟩
  · have h9 := setAt (h.l3.keep (f.block G3 g3 (fun e => (hv G3 e).2 rfl))) 35 (.slice (some ⟨g, 0, none⟩) k.rs.length cap)
    rw [(lkC_set hl k.nm t3 p3 o3 m3 (.slice (some ⟨g, 0, none⟩) k.rs.length cap)).2.2] at h9
    exact h9
  · rw [World.cell?_of_block (w := w') (a := ⟨g, k.rs.length * 2 + j, none⟩) (Below.heap_setCell _ _ _ _ (by show g ≠ G3; exact hg.2))]
    exact own_at hrow hx j (by omega)
theorem lkC_set4 {l : List UInt8} (hl : l.length = 32) (nm : ByteArray) (tr pe on mo v : Value) : (lkC l nm tr pe on mo).setIfInBounds 36 v = lkC l nm tr pe on v := by
  obtain ⟨x0, x1, x2, x3, x4, x5, x6, x7, x8, x9, x10, x11, x12, x13, x14, x15, x16, x17, x18, x19, x20, x21, x22, x23, x24, x25, x26, x27, x28, x29, x30, x31, rfl⟩ := len32 hl
  rfl
theorem PB.apM (h : PB w00 w H G1 G2 G3 k tr pe on mo q t1 p1 o1 m1 t2 p2 o2 m2 t3 p3 o3 m3) (hl : k.l.length = 32) {X Y : Nat → Value} (hX : ∀ i, i < k.dn → RV (fun b => ((G2 < b ∧ b ≠ G3) ∧ t3.ownBlock ≠ some b ∧ p3.ownBlock ≠ some b ∧ o3.ownBlock ≠ some b) ∧ m3.ownBlock ≠ some b) w (k.dv i) (X i) (Y i)) {us : List Value} {g cap : Nat} (f : Fr (fun b => m3.ownBlock ≠ some b) w w') (hrow : w'.ownsRow 0 41 6 (.slice (some ⟨g, 0, none⟩) (k.dn + 1) cap) (k.dn + 1) (rowD k.ky k.dv X Y k.dn ++ us)) (a : m3.ownBlock = some g ∨ w.heap.size ≤ g) :
    PB w00 (w'.setCell ⟨G3, 36, none⟩ (.slice (some ⟨g, 0, none⟩) k.dn cap)) H G1 G2 G3 k tr pe on mo q t1 p1 o1 m1 t2 p2 o2 m2 t3 p3 o3 (.slice (some ⟨g, 0, none⟩) k.dn cap) ∧ k.dn + 1 ≤ cap ∧ g ≠ G3 ∧ (∀ j, j < 6 → (w'.setCell ⟨G3, 36, none⟩ (.slice (some ⟨g, 0, none⟩) k.dn cap)).cell? ⟨g, k.dn * 6 + j, none⟩ = us[j]?) := by
  have hv : ∀ b, m3.ownBlock = some b → G2 < b ∧ b ≠ G3 := fun b hb => (h.r3.o4.lt hb).2.1
  have hx : (rowD k.ky k.dv X Y k.dn).length = k.dn * 6 := rowD_len _ _ _ _ _
  obtain ⟨e1, e2⟩ := own_pre hrow hx
  have g3 := h.l3.lt
  have g32 := h.h3
  have hg : G2 < g ∧ g ≠ G3 := by
    rcases a with a | a
    · exact hv g a
    · omega
  have hat : At w m3 (.slice (some ⟨g, 0, none⟩) k.dn cap) := by
    rcases a with a | a
    · exact .inl a.symm
    · exact .inr (fun b hb => by have e : g = b := by simpa [Value.ownBlock] using hb
                                 omega)
  have hne : t3.ownBlock ≠ some g ∧ p3.ownBlock ≠ some g ∧ o3.ownBlock ≠ some g := by
    rcases a with a | a
    · exact h.r3.mo_ne a
    · exact ⟨fun e => by have := OwS.lt h.r3.o1 e; omega, fun e => by have := OwS.lt h.r3.o2 e; omega, fun e => by have := OwS.lt h.r3.o3 e; omega⟩
  have fs := frSet w' G3 36 (.slice (some ⟨g, 0, none⟩) k.dn cap)
  have f2 : Fr (fun b => m3.ownBlock ≠ some b ∧ b ≠ G3) w (w'.setCell ⟨G3, 36, none⟩ (.slice (some ⟨g, 0, none⟩) k.dn cap)) := (f.mono (fun _ _ hb => hb.1)).trans fs (fun _ _ hb => hb.2)
  have hn : RDo (fun b => (G2 < b ∧ b ≠ G3) ∧ t3.ownBlock ≠ some b ∧ p3.ownBlock ≠ some b ∧ o3.ownBlock ≠ some b) w' k.dn k.ky k.dv (.slice (some ⟨g, 0, none⟩) k.dn cap) :=
    ⟨X, Y, ⟨e1, fun b hb => by
      have e : g = b := by simpa [Value.ownBlock] using hb
      subst e; exact ⟨hg, hne⟩⟩, fun i hi => RV.move (fun b hb hl => ⟨hb.1, at_ne hat hl hb.2⟩) f.size (fun b hb hl => f.block b hl hb.2) _ _ _ (hX i hi)⟩
  have r := (h.r3.putM f (fun _ hb _ => hb) hn).fr fs (fun _ hb => hb.2)
  refine ⟨h.in3 f2 hv r ?_, e2, hg.2, fun j hj => ?_⟩
  · have h9 := setAt (h.l3.keep (f.block G3 g3 (fun e => (hv G3 e).2 rfl))) 36 (.slice (some ⟨g, 0, none⟩) k.dn cap)
    rw [lkC_set4 hl k.nm t3 p3 o3 m3 (.slice (some ⟨g, 0, none⟩) k.dn cap)] at h9
    exact h9
  · rw [World.cell?_of_block (w := w') (a := ⟨g, k.dn * 6 + j, none⟩) (Below.heap_setCell _ _ _ _ (by show g ≠ G3; exact hg.2))]
    exact own_at hrow hx j (by omega)
end
end Ow
end Go.Proofs.YtnpcbcfjnhjmmaaGreatDoor
namespace Go.Proofs.YtnpcbcfjnhjmmaaGreatDoor
open Go.Shelf Go.RowKit Go.Deep
namespace Ow
/-- four own rows in unlike blocks, whatever they hold -/
structure R4 (S : Nat → Prop) (w : World) (n1 n2 n3 n4 : Nat) (t p o m : Value) : Prop where
  o1 : ∃ xs, OwS S w 9 1 t n1 xs
  o2 : ∃ xs, OwS S w 9 1 p n2 xs
  o3 : ∃ xs, OwS S w 36 2 o n3 xs
  o4 : ∃ xs, OwS S w 41 6 m n4 xs
  d1 : Dj t p
  d2 : Dj t o
  d3 : Dj t m
  d4 : Dj p o
  d5 : Dj p m
  d6 : Dj o m
theorem RLo.r4 {S : Nat → Prop} {w : World} {k : Lk} {t p o m : Value} (h : RLo S w k t p o m) : R4 S w k.ts.length k.ps.length k.rs.length k.dn t p o m := by
  obtain ⟨X, Y, h1, _⟩ := h.o4
  exact ⟨⟨_, h.o1⟩, ⟨_, h.o2⟩, ⟨_, h.o3⟩, ⟨_, h1.1, fun g hg => (h1.2 g hg).1⟩, h.d1, h.d2, fun g h1 h2 => (h.mo_ne h2).1 h1, h.d4, fun g h1 h2 => (h.mo_ne h2).2.1 h1, fun g h1 h2 => (h.mo_ne h2).2.2 h1⟩
theorem ex_fr {S P : Nat → Prop} {w w' : World} {e sz n : Nat} {v : Value} (h : ∃ xs, OwS S w e sz v n xs) (f : Fr P w w') (hP : ∀ b, v.ownBlock = some b → P b) : ∃ xs, OwS S w' e sz v n xs := by
  obtain ⟨xs, h⟩ := h
  exact ⟨xs, OwS.fr h f (fun _ hb _ => hb) hP⟩
theorem ex_S {S : Nat → Prop} {w : World} {e sz n : Nat} {v : Value} (h : ∃ xs, OwS S w e sz v n xs) {g : Nat} (hg : v.ownBlock = some g) : S g ∧ g < w.heap.size := by
  obtain ⟨xs, h⟩ := h
  exact ⟨h.2 g hg, h.lt hg⟩
section
variable {S : Nat → Prop} {w w' : World} {n1 n2 n3 n4 : Nat} {t p o m : Value}
theorem R4.fr {P : Nat → Prop} (h : R4 S w n1 n2 n3 n4 t p o m) (f : Fr P w w') (hP : ∀ b, S b → P b) : R4 S w' n1 n2 n3 n4 t p o m :=
  ⟨ex_fr h.o1 f (fun b hb => hP b (ex_S h.o1 hb).1), ex_fr h.o2 f (fun b hb => hP b (ex_S h.o2 hb).1), ex_fr h.o3 f (fun b hb => hP b (ex_S h.o3 hb).1), ex_fr h.o4 f (fun b hb => hP b (ex_S h.o4 hb).1), h.d1, h.d2, h.d3, h.d4, h.d5, h.d6⟩
theorem R4.putT (h : R4 S w n1 n2 n3 n4 t p o m) (f : Fr (fun b => t.ownBlock ≠ some b) w w') (n : ∃ xs, OwS S w' 9 1 t n1 xs) : R4 S w' n1 n2 n3 n4 t p o m :=
  ⟨n, ex_fr h.o2 f (fun _ hb e => h.d1 _ e hb), ex_fr h.o3 f (fun _ hb e => h.d2 _ e hb), ex_fr h.o4 f (fun _ hb e => h.d3 _ e hb), h.d1, h.d2, h.d3, h.d4, h.d5, h.d6⟩
theorem R4.putP (h : R4 S w n1 n2 n3 n4 t p o m) (f : Fr (fun b => p.ownBlock ≠ some b) w w') (n : ∃ xs, OwS S w' 9 1 p n2 xs) : R4 S w' n1 n2 n3 n4 t p o m :=
  ⟨ex_fr h.o1 f (fun _ hb e => h.d1 _ hb e), n, ex_fr h.o3 f (fun _ hb e => h.d4 _ e hb), ex_fr h.o4 f (fun _ hb e => h.d5 _ e hb), h.d1, h.d2, h.d3, h.d4, h.d5, h.d6⟩
theorem R4.putO (h : R4 S w n1 n2 n3 n4 t p o m) (f : Fr (fun b => o.ownBlock ≠ some b) w w') (n : ∃ xs, OwS S w' 36 2 o n3 xs) : R4 S w' n1 n2 n3 n4 t p o m :=
  ⟨ex_fr h.o1 f (fun _ hb e => h.d2 _ hb e), ex_fr h.o2 f (fun _ hb e => h.d4 _ hb e), n, ex_fr h.o4 f (fun _ hb e => h.d6 _ e hb), h.d1, h.d2, h.d3, h.d4, h.d5, h.d6⟩
theorem R4.putM (h : R4 S w n1 n2 n3 n4 t p o m) (f : Fr (fun b => m.ownBlock ≠ some b) w w') (n : ∃ xs, OwS S w' 41 6 m n4 xs) : R4 S w' n1 n2 n3 n4 t p o m :=
  ⟨ex_fr h.o1 f (fun _ hb e => h.d3 _ hb e), ex_fr h.o2 f (fun _ hb e => h.d5 _ hb e), ex_fr h.o3 f (fun _ hb e => h.d6 _ hb e), n, h.d1, h.d2, h.d3, h.d4, h.d5, h.d6⟩
end
theorem fr_cells (w : World) (g o : Nat) (us : List Value) : Fr (fun b => b ≠ g) w (w.setCells g o us) := by
  obtain ⟨h1, h2, h3, h4⟩ := setCells_rest us w g o
  exact ⟨h1, h2, h3, by rw [h4]; exact Nat.le_refl _, fun b _ hb => setCells_other us w g o b hb⟩
theorem own_cells {S : Nat → Prop} {e sz n g cap : Nat} : ∀ (us : List Value) (w : World) (o : Nat), (∃ xs, OwS S w e sz (.slice (some ⟨g, 0, none⟩) n cap) n xs) → ∃ xs, OwS S (w.setCells g o us) e sz (.slice (some ⟨g, 0, none⟩) n cap) n xs
  | [], _, _, h => h
  | u :: us, w, o, h => by
    obtain ⟨xs, h⟩ := h
    exact own_cells us _ (o + 1) ⟨_, (World.ownsRow.stored h.1 o u).1, h.2⟩
/-- what stands while what was read is spoilt and gone on with -/
structure PH (w00 w : World) (H G1 G2 G3 G4 U : Nat) (k : Lk) (tr pe on mo : Value) (q : Lk) (t1 p1 o1 m1 t2 p2 o2 m2 t3 p3 o3 m3 t4 p4 o4 m4 : Value) : Prop where
  be : Below w00.heap.size w00 w
  l0 : LB w H k.l k.nm tr pe on mo
  l1 : LB w G1 q.l q.nm t1 p1 o1 m1
  l2 : LB w G2 q.l q.nm t2 p2 o2 m2
  l3 : LB w G3 k.l k.nm t3 p3 o3 m3
  l4 : LB w G4 q.l q.nm t4 p4 o4 m4
  r1 : RLo (fun b => H < b ∧ b < G1) w q t1 p1 o1 m1
  r2 : R4 (fun b => G1 < b ∧ b < G2) w q.ts.length q.ps.length q.rs.length q.dn t2 p2 o2 m2
  r3 : RLo (fun b => G2 < b ∧ b ≠ G3 ∧ b < U) w k t3 p3 o3 m3
  r4 : RL4 (fun b => U ≤ b ∧ b < G4) w q t4 p4 o4 m4
  h0 : w00.heap.size ≤ H
  h1 : H < G1
  h2 : G1 < G2
  h3 : G2 < G3
  h4 : G3 < U
  h5 : U ≤ G4
section
variable {w00 w w' : World} {H G1 G2 G3 G4 U : Nat} {k : Lk} {tr pe on mo : Value} {q : Lk} {t1 p1 o1 m1 t2 p2 o2 m2 t3 p3 o3 m3 t4 p4 o4 m4 : Value}
theorem PH.below (h : PH w00 w H G1 G2 G3 G4 U k tr pe on mo q t1 p1 o1 m1 t2 p2 o2 m2 t3 p3 o3 m3 t4 p4 o4 m4) (b : Below w.heap.size w w') : PH w00 w' H G1 G2 G3 G4 U k tr pe on mo q t1 p1 o1 m1 t2 p2 o2 m2 t3 p3 o3 m3 t4 p4 o4 m4 :=
  ⟨h.be.trans (b.mono h.be.size), h.l0.keep (b.block _ h.l0.lt), h.l1.keep (b.block _ h.l1.lt), h.l2.keep (b.block _ h.l2.lt), h.l3.keep (b.block _ h.l3.lt), h.l4.keep (b.block _ h.l4.lt), h.r1.below b, h.r2.fr (P := fun _ => True) ⟨b.os, b.tape, b.output, b.size, fun x hx _ => b.block x hx⟩ (fun _ _ => trivial), h.r3.below b, h.r4.move (fun _ x _ => x) b.size (fun x _ hx => b.block x hx), h.h0, h.h1, h.h2, h.h3, h.h4, h.h5⟩
theorem PH.two (h : PH w00 w H G1 G2 G3 G4 U k tr pe on mo q t1 p1 o1 m1 t2 p2 o2 m2 t3 p3 o3 m3 t4 p4 o4 m4) {v : Value} (f : Fr (fun b => v.ownBlock ≠ some b) w w') (hv : ∀ g, v.ownBlock = some g → G1 < g ∧ g < G2) (r2' : R4 (fun b => G1 < b ∧ b < G2) w' q.ts.length q.ps.length q.rs.length q.dn t2 p2 o2 m2) : PH w00 w' H G1 G2 G3 G4 U k tr pe on mo q t1 p1 o1 m1 t2 p2 o2 m2 t3 p3 o3 m3 t4 p4 o4 m4 := by
  have g0 := h.h0; have g1 := h.h1; have g2 := h.h2; have g3 := h.h3; have g4 := h.h4; have g5 := h.h5
  have lo : ∀ b, b ≤ G1 ∨ G2 ≤ b → v.ownBlock ≠ some b := fun b hb e => by have := hv b e; omega
  have hs := h.be.size
  refine ⟨⟨f.os.trans h.be.os, f.tape.trans h.be.tape, f.output.trans h.be.output, Nat.le_trans hs f.size, fun b hb => (f.block b (by omega) (lo b (by omega))).trans (h.be.block b hb)⟩, h.l0.keep (f.block _ h.l0.lt (lo _ (by omega))), h.l1.keep (f.block _ h.l1.lt (lo _ (by omega))), h.l2.keep (f.block _ h.l2.lt (lo _ (by omega))), h.l3.keep (f.block _ h.l3.lt (lo _ (by omega))), h.l4.keep (f.block _ h.l4.lt (lo _ (by omega))), h.r1.fr f (fun b hb => lo b (by omega)), r2', h.r3.fr f (fun b hb => lo b (by omega)), h.r4.move (fun _ x _ => x) f.size (fun b hb hl => f.block b hl (lo b (by omega))), g0, g1, g2, g3, g4, g5⟩
theorem PH.one (h : PH w00 w H G1 G2 G3 G4 U k tr pe on mo q t1 p1 o1 m1 t2 p2 o2 m2 t3 p3 o3 m3 t4 p4 o4 m4) {v : Value} (f : Fr (fun b => v.ownBlock ≠ some b) w w') (hv : ∀ g, v.ownBlock = some g → H < g ∧ g < G1) (r1' : RLo (fun b => H < b ∧ b < G1) w' q t1 p1 o1 m1) : PH w00 w' H G1 G2 G3 G4 U k tr pe on mo q t1 p1 o1 m1 t2 p2 o2 m2 t3 p3 o3 m3 t4 p4 o4 m4 := by
  have g0 := h.h0; have g1 := h.h1; have g2 := h.h2; have g3 := h.h3; have g4 := h.h4; have g5 := h.h5
  have lo : ∀ b, b ≤ H ∨ G1 ≤ b → v.ownBlock ≠ some b := fun b hb e => by have := hv b e; omega
  have hs := h.be.size
  refine ⟨⟨f.os.trans h.be.os, f.tape.trans h.be.tape, f.output.trans h.be.output, Nat.le_trans hs f.size, fun b hb => (f.block b (by omega) (lo b (by omega))).trans (h.be.block b hb)⟩, h.l0.keep (f.block _ h.l0.lt (lo _ (by omega))), h.l1.keep (f.block _ h.l1.lt (lo _ (by omega))), h.l2.keep (f.block _ h.l2.lt (lo _ (by omega))), h.l3.keep (f.block _ h.l3.lt (lo _ (by omega))), h.l4.keep (f.block _ h.l4.lt (lo _ (by omega))), r1', h.r2.fr f (fun b hb => lo b (by omega)), h.r3.fr f (fun b hb => lo b (by omega)), h.r4.move (fun _ x _ => x) f.size (fun b hb hl => f.block b hl (lo b (by omega))), g0, g1, g2, g3, g4, g5⟩
end
/-- a list that was gone on with: its block is the old one's, or one from N on -/
structure NW (w : World) (N e sz : Nat) (v a : Value) (n : Nat) (xs : List Value) : Prop where
  own : w.ownsRow 0 e sz a n xs
  at_ : a.ownBlock = v.ownBlock ∨ ∀ g, a.ownBlock = some g → N ≤ g
theorem NW.keep {w w' : World} {N e sz n : Nat} {v a v2 : Value} {xs : List Value} (h : NW w N e sz v a n xs) (f : Fr (fun b => v2.ownBlock ≠ some b) w w') (hd : Dj v v2) (hv : ∀ g, v2.ownBlock = some g → g < N) : NW w' N e sz v a n xs :=
  ⟨own_keep h.own fun g hg => f.block g (World.ownsRow.lt h.own g hg).2 (fun e => by
    rcases h.at_ with h1 | h1
    · exact hd g (h1 ▸ hg) e
    · have := h1 g hg; have := hv g e; omega), h.at_⟩
theorem repV_get (us : List Value) : ∀ (k i : Nat), i < k → us ≠ [] → (repV us k)[i * us.length]? = us[0]?
  | 0, i, h, _ => absurd h (Nat.not_lt_zero i)
  | k + 1, i, h, hu => by
    have hp := List.length_pos_iff.2 hu
    rw [repV_succ]
    rcases Nat.lt_succ_iff_lt_or_eq.1 h with h1 | rfl
    · rw [List.getElem?_append_left (by rw [repV_len]; exact Nat.mul_lt_mul_of_pos_right h1 hp)]
      exact repV_get us k i h1 hu
    · rw [List.getElem?_append_right (by rw [repV_len]; exact Nat.le_refl _), repV_len, Nat.sub_self]
theorem NW.cell {w : World} {N e sz n : Nat} {v a : Value} {xs us : List Value} (h : NW w N e sz v a (n + 70) (xs ++ repV us 70)) (hx : xs.length = n * sz) (hu : us.length = sz) (hp : 0 < sz) : ∃ g c, a = .slice (some ⟨g, 0, none⟩) (n + 70) c ∧ ∀ i, i < 70 → w.cell? ⟨g, (n + i) * sz, none⟩ = us[0]? := by
  obtain ⟨g, c, rfl⟩ : ∃ g c, a = .slice (some ⟨g, 0, none⟩) (n + 70) c := by
    rcases h.own.2 with ⟨_, h0⟩ | ⟨g, cap, _, e, _⟩
    · omega
    · exact ⟨g, cap, e⟩
  refine ⟨g, c, rfl, fun i hi => ?_⟩
  have h1 := own_at h.own hx (i * sz) (Nat.mul_lt_mul_of_pos_right hi hp)
  rw [← Nat.add_mul] at h1
  rw [h1]
  subst hu
  exact repV_get us 70 i hi (List.length_pos_iff.1 hp)
theorem own_there {w : World} {e sz n g cap : Nat} {xs : List Value} (h : w.ownsRow 0 e sz (.slice (some ⟨g, 0, none⟩) n cap) n xs) (i : Nat) (hi : i < n) : w.there g (i * sz) sz := fun j hj => by
  have hlt : i * sz + j < n * sz := by
    have h1 : (i + 1) * sz ≤ n * sz := Nat.mul_le_mul_right _ hi
    rw [Nat.succ_mul] at h1
    omega
  refine ⟨?_, World.ownsRow.frozenAt h _⟩
  rw [World.ownsRow.cellAt h _ hlt, List.getElem?_eq_getElem (by rw [h.1]; exact hlt)]
  rfl
end Ow
end Go.Proofs.YtnpcbcfjnhjmmaaGreatDoor
