import Derived.Test.YtpembmfpgolniaaDoorRr
namespace Go.Proofs.YtpembmfpgolniaaDoor
open Go.RowKit
/-- the reference's reading under way: its message lies in block M, the answer's box is the first new block -/
structure RS (w X : World) (M : Nat) (m : Mv) (D hb : List UInt8) : Prop where
  ok : m.ok
  mb : MB X M m
  z : X.heap[w.heap.size]? = some (.cells z40 27 (0, 0))
  b : Below w.heap.size w X
  lt : w.heap.size < M
  d : OW w.heap.size X m.d D
  h : OH w.heap.size X m.h hb
theorem RS.move {w X X' : World} {M : Nat} {m m' : Mv} {D hb : List UInt8} (h : RS w X M m D hb) (hb' : Besides M X X') (hm : MB X' M m') (ok : m'.ok) (hd : m'.d = m.d) (hh : m'.h = m.h) : RS w X' M m' D hb :=
  ⟨ok, hm, (hb'.block _ (Array.getElem?_eq_some_iff.1 h.z).1 (Nat.ne_of_lt h.lt)).trans h.z, hb'.below h.b (Nat.le_of_lt h.lt) h.b.size, h.lt, by rw [hd]; exact h.d.besides h.mb hb', by rw [hh]; exact h.h.besides h.mb hb'⟩
theorem RS.below {w X X' : World} {M : Nat} {m : Mv} {D hb : List UInt8} (h : RS w X M m D hb) (hb' : Below X.heap.size X X') : RS w X' M m D hb :=
  h.move (Besides.of_below hb') (h.mb.below hb') h.ok rfl rfl
theorem RS.num {w X : World} {M : Nat} {m m' : Mv} {D hb : List UInt8} (h : RS w X M m D hb) (n j : Nat) (x : Int) (hm : m.ls.set j (.int .i64 x) = m'.ls) (ok : m'.ok) (hd : m'.d = m.d) (hh : m'.h = m.h) : RS w ((X.drewN n).setCell ⟨M, j, none⟩ (.int .i64 x)) M m' D hb := by
  have h1 := h.below (belowDrew X n)
  exact h1.move (Besides.setCell _ _ _ _) (h1.mb.set j _ hm) ok hd hh
theorem RS.data {w X X' : World} {M : Nat} {m : Mv} {D D' hb : List UInt8} {v : Value} (h : RS w X M m D hb) (hb' : Below X.heap.size X X') (ho : OW X.heap.size X' v D') : RS w (X'.setCell ⟨M, 4, none⟩ v) M { m with d := v } D' hb := by
  have h1 := h.below hb'
  have bb := Besides.setCell X' M 4 v
  have hv := ho.form3
  refine ⟨⟨h.ok.r, hv, h.ok.h⟩, h1.mb.set 4 _ rfl, (bb.block _ (Array.getElem?_eq_some_iff.1 h1.z).1 (Nat.ne_of_lt h.lt)).trans h1.z, bb.below h1.b (Nat.le_of_lt h.lt) h1.b.size, h.lt, ?_, h1.h.besides h1.mb bb⟩
  exact (ho.mono h.b.size).besides h1.mb bb
theorem RS.root {w X X' : World} {M : Nat} {m : Mv} {D hb r : List UInt8} (h : RS w X M m D hb) (hb' : Below X.heap.size X X') (hr : r.length = 32) : RS w (X'.setCells M 5 (Lib.byteCells r)) M { m with r := r } D hb := by
  have h1 := h.below hb'
  exact h1.move (besides_setCells M _ 5 X') (h1.mb.setRoot h1.ok r hr) ⟨hr, h.ok.d, h.ok.h⟩ rfl rfl
theorem RS.done {w X : World} {M : Nat} {m : Mv} {D hb l : List UInt8} (h : RS w X M m D hb) (hE : decE l = 0) (hD : (decS l).D = D) (hH : (decS l).hb = hb) (hm : { (decS l).m with d := m.d, h := m.h } = m) : DCR w (X.setRow w.heap.size m.cs) (.returned (.tuple #[.agg m.cs, .int .i64 0])) l := by
  unfold DCR
  rw [hE, hD, hH]
  exact ⟨m.d, m.h, by rw [hm], h.d.besides (m := zm) h.z (Besides.setRow _ _ _), h.h.besides (m := zm) h.z (Besides.setRow _ _ _), belowSetRow h.b (Nat.le_refl _) _⟩
theorem RS.start {w : World} (k : Int) (X : World) (hX : Below w.heap.size w X) (hz : X.heap[w.heap.size]? = some (.cells z40 27 (0, 0))) : RS w ((X.alloc (.cells z40 27)).setRow X.heap.size (zk40 k)) X.heap.size (zmk k) [] [] := by
  have hlt := (Array.getElem?_eq_some_iff.1 hz).1
  have hs := heapSetRow _ _ _ (zk40 k) _ (heapNew X (.cells z40 27))
  exact ⟨zmk_ok k, hs, (setRow_other _ _ _ _ (Nat.ne_of_lt hlt)).trans ((heapOld _ _ _ hlt).trans hz), belowSetRow (hX.alloc (Nat.le_of_lt hlt) _) (Nat.le_of_lt hlt) _, hlt, World.ownsRow_nil _ _ _ _, OH.nil _ _⟩
theorem decS_of {l : List UInt8} {r : Kr} (h1 : ¬ 32768 < l.length) (hr : rowFor (kindB l) = some r) (hf : r.fit (l.length : Int) = true) (hl : lks r.cs (decR r l).m = true) : decE l = 0 ∧ decS l = decR r l := by
  have hE : decE l = 0 := by unfold decE; rw [if_neg h1, hr]; simp [hf, hl]
  refine ⟨hE, ?_⟩
  unfold decS
  rw [if_pos hE, hr]

end Go.Proofs.YtpembmfpgolniaaDoor
