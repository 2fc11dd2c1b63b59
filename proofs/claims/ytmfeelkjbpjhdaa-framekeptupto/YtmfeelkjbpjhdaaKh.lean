import Derived.Test.YtmfeelkjbpjhdaaKg
namespace Go.Proofs.Ytmfeelkjbpjhdaa
open Go.RowKit
/-- a handshake is loaded behind a guard that lets it through -/
theorem load_hello_if {ops : Array Oper} {rest : List Oper} {o : Oper} {a : Act} {w : World} {Q : Exit → Act → World → Prop} (hw : Region.wanted o (yielded ops a.tmps) = true) (x : Operand) (ho : o.op = .load 25 x)
    (g : Nat) (hx : a.eval x = .pointer (some ⟨g, 0, none⟩)) (cs : Array Value) (hg : w.heap[g]? = some (.cells cs 25 (0, 0))) (hi : (Try.prog.info? 25).map (·.size) = some cs.size)
    (h : wpList Try.prog ops Q rest (a.put o.dst (.agg cs)) w) : wpList Try.prog ops Q (o :: rest) a w := by
  unfold wpList
  rw [if_pos hw]
  exact .inl (wp_load_row 25 x ho g hx 25 cs (0, 0) _ hg Try.underlying25 rfl hi h)
/-- what stands while all is gone on with -/
structure KY (W : World) (N : Nat) (hb l : List UInt8) (D : Nat → Prop) (BS : List (List UInt8)) (m1 m2 m3 m4 m5 m6 m7 X Y : Nat) (bv kv b1 b2 xv yv mx my ov tv : Value) (wz : World) : Prop where
  o1 : PB wz m1 m5 b1 (fun g => m1 ≤ g ∧ g < m2) BS
  o2 : PB wz m1 m5 b2 (fun g => m2 ≤ g ∧ g < m3) BS
  ox : PB wz m1 m5 xv (fun g => m3 ≤ g ∧ g < m4) BS
  oy : PB wz m1 m5 yv (fun g => m4 ≤ g ∧ g < m5) BS
  bx : wz.heap[X]? = some (.cells #[mx, xv, .int .i64 0] 41 (0, 0))
  by_ : wz.heap[Y]? = some (.cells #[my, yv, .int .i64 0] 41 (0, 0))
  on : BK (fun g => ((W.heap.size ≤ g ∧ ¬ D g) ∧ m5 ≤ g) ∧ g < m6) wz ov (sgn ++ hb)
  tw : BK (fun g => ((W.heap.size ≤ g ∧ ¬ D g) ∧ m6 ≤ g) ∧ g < m7) wz tv (sgn ++ hb)
  kb : OW W.heap.size wz kv (sgn ++ hb)
  bb : OW W.heap.size wz bv l
  bo : wz.heap[N]? = some (.cells (bc hb) 25 (0, 0))
theorem KY.keep {W : World} {N : Nat} {hb l : List UInt8} {D : Nat → Prop} {BS : List (List UInt8)} {m1 m2 m3 m4 m5 m6 m7 X Y : Nat} {bv kv b1 b2 xv yv mx my ov tv : Value} {wz w' : World} (h : KY W N hb l D BS m1 m2 m3 m4 m5 m6 m7 X Y bv kv b1 b2 xv yv mx my ov tv wz) (b : Below wz.heap.size wz w') : KY W N hb l D BS m1 m2 m3 m4 m5 m6 m7 X Y bv kv b1 b2 xv yv mx my ov tv w' :=
  ⟨h.o1.keep b, h.o2.keep b, h.ox.keep b, h.oy.keep b, (b.block X (Array.getElem?_eq_some_iff.1 h.bx).1).trans h.bx, (b.block Y (Array.getElem?_eq_some_iff.1 h.by_).1).trans h.by_, h.on.keep (fun k _ hl _ => b.block k hl) (fun _ x _ => x), h.tw.keep (fun k _ hl _ => b.block k hl) (fun _ x _ => x), h.kb.grow b, h.bb.grow b, (b.block N (Array.getElem?_eq_some_iff.1 h.bo).1).trans h.bo⟩
theorem KY.kk {W : World} {N : Nat} {hb l : List UInt8} {D : Nat → Prop} {BS : List (List UInt8)} {m1 m2 m3 m4 m5 m6 m7 X Y : Nat} {bv kv b1 b2 xv yv mx my ov tv : Value} {wz w' : World} (h : KY W N hb l D BS m1 m2 m3 m4 m5 m6 m7 X Y bv kv b1 b2 xv yv mx my ov tv wz) (b : KK m1 m5 wz w') : KY W N hb l D BS m1 m2 m3 m4 m5 m6 m7 X Y bv kv b1 b2 xv yv mx my ov tv w' :=
  ⟨b.pb _ _ _ h.o1, b.pb _ _ _ h.o2, b.pb _ _ _ h.ox, b.pb _ _ _ h.oy, b.cells _ _ _ _ h.bx (by decide), b.cells _ _ _ _ h.by_ (by decide), b.bk h.on, b.bk h.tw, b.ow h.kb, b.ow h.bb, b.cells _ _ _ _ h.bo (by decide)⟩
/-- both: all, and what stands -/
structure KX (W : World) (N : Nat) (hb l : List UInt8) (D : Nat → Prop) (BS AL : List (List UInt8)) (P m1 m2 m3 m4 m5 m6 m7 X Y : Nat) (av bv kv b1 b2 xv yv mx my ov tv : Value) (wz : World) : Prop where
  ka : KA W D AL P m1 m5 av wz
  ky : KY W N hb l D BS m1 m2 m3 m4 m5 m6 m7 X Y bv kv b1 b2 xv yv mx my ov tv wz
theorem KX.keep {W : World} {N : Nat} {hb l : List UInt8} {D : Nat → Prop} {BS AL : List (List UInt8)} {P m1 m2 m3 m4 m5 m6 m7 X Y : Nat} {av bv kv b1 b2 xv yv mx my ov tv : Value} {wz w' : World} (h : KX W N hb l D BS AL P m1 m2 m3 m4 m5 m6 m7 X Y av bv kv b1 b2 xv yv mx my ov tv wz) (b : Below wz.heap.size wz w') : KX W N hb l D BS AL P m1 m2 m3 m4 m5 m6 m7 X Y av bv kv b1 b2 xv yv mx my ov tv w' := ⟨h.ka.keep b, h.ky.keep b⟩
/-- the beginning, out of what the readers left -/
theorem KZ.kx {W wz wa wb wd : World} {N : Nat} {hb l : List UInt8} {BS : List (List UInt8)} {m1 m2 m3 m4 m5 X Y : Nat} {bv sv av b1 b2 xv yv mx my ov kv tv : Value} (h : KZ W l BS m1 m2 m3 m4 m5 X Y bv sv av b1 b2 xv yv mx my wz)
    (hN : W.heap[N]? = some (.cells (bc hb) 25 (0, 0))) (ba : Below wz.heap.size wz wa) (bb : Below wa.heap.size wa wb) (bd : Below wb.heap.size wb wd) (ha : BK (fun g => wz.heap.size ≤ g) wa ov (sgn ++ hb)) (hk : OW wa.heap.size wb kv (sgn ++ hb)) (ht : BK (fun g => wb.heap.size ≤ g) wd tv (sgn ++ hb)) :
    KX W N hb l (fun g => bv.ownBlock = some g ∨ kv.ownBlock = some g) BS (dbl BS) m1 m1 m2 m3 m4 m5 wa.heap.size wd.heap.size X Y av bv kv b1 b2 xv yv mx my ov tv wd := by
  have bzd : Below wz.heap.size wz wd := (ba.trans (bb.mono ba.size)).trans (bd.mono (Nat.le_trans ba.size bb.size))
  have bad : Below wa.heap.size wa wd := bb.trans (bd.mono bb.size)
  have hz := h.keep bzd
  obtain ⟨q1, q2, q3, q4, q5, q6⟩ := h.ord
  have hkb : ∀ g, kv.ownBlock = some g → wa.heap.size ≤ g ∧ g < wb.heap.size := fun g e => hk.blk g e
  have s1 := ba.size
  have s2 := bb.size
  refine ⟨⟨hz.kj.al.keep (fun _ _ _ => rfl) (fun _ x => x.1.1) (fun g x _ => ⟨⟨x.1.1, fun e => ?_⟩, x.2⟩), fun k hk => .inl (h.ab k hk), hz.kj.bel, by have := bzd.size; omega⟩, ⟨hz.o1, hz.o2, hz.ox, hz.oy, hz.bx, hz.by_, ?_, ?_, (hk.grow bd).mono (by omega), hz.kj.ow, (hz.kj.bel.block N (Array.getElem?_eq_some_iff.1 hN).1).trans hN⟩⟩
  · rcases e with e | e
    · exact x.1.2 e
    · have := hkb g e
      have := x.2
      omega
  · refine ha.keep (fun k _ hl _ => bad.block k hl) (fun g x hl => ⟨⟨⟨by omega, fun e => ?_⟩, by omega⟩, hl⟩)
    rcases e with e | e
    · have := h.bb g e
      omega
    · have := hkb g e
      omega
  · refine ht.keep (fun _ _ _ _ => rfl) (fun g x hl => ⟨⟨⟨by omega, fun e => ?_⟩, by omega⟩, hl⟩)
    rcases e with e | e
    · have := h.bb g e
      omega
    · have := hkb g e
      omega
end Go.Proofs.Ytmfeelkjbpjhdaa
