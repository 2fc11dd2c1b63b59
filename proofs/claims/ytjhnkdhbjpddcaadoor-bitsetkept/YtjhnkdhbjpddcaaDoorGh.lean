import Derived.Test.YtjhnkdhbjpddcaaDoorGg
namespace Go.Proofs.YtjhnkdhbjpddcaaDoor
open Go.RowKit
theorem append_nothingL {w : World} {B e t : Nat} {sz : Nat} {v : Value} {n : Nat} {xs : List Value} (i0 : TypeInfo) (h1 : Tryd.prog.underlying t = some (.slice e)) (h2 : Tryd.prog.info? e = some i0) (ty : TypeId) (c : Nat) (hown : w.ownsRow B e sz v n xs) :
    (Builtin.append_ #[t, t] ty #[v, .slice none 0 c]).run Tryd.prog w = .ok v w := by
  rcases hown.2 with ⟨rfl, rfl⟩ | ⟨g, cap, cur, rfl, _, _, hnc, _⟩
  · simp [Builtin.append_, run_underlying h1, sizeOf, typeInfo, h2, Builtin.lenOf, Builtin.firstCells]
  · simp [Builtin.append_, run_underlying h1, sizeOf, typeInfo, h2, Builtin.lenOf, Builtin.firstCells, hnc, storeCells]
/-- append(x, y...) of two lists that the call owns -/
theorem append_ownL {ops : Array Oper} {rest : List Oper} {o : Oper} {a : Act} {Q : Exit → Act → World → Prop} {w : World} {B B' : Nat} {e t : TypeId} {sv xv : Value} {n sz m : Nat} {xs us : List Value} (i0 : TypeInfo) (z : Value) (bytes : Nat) (hgd : o.guard = none) (s x : Operand)
    (ho : o.op = .call { callee := .builtin .append, args := #[s, x], argTypes := #[t, t] }) (h1 : Tryd.prog.underlying t = some (.slice e)) (h2 : Tryd.prog.info? e = some i0) (h3 : i0.zero = some z) (h4 : i0.size = sz) (h5 : i0.bytes = bytes) (h6 : z.cells.size = sz) (h7 : 0 < sz)
    (hs : a.eval s = sv) (hown : w.ownsRow B e sz sv n xs) (hx : a.eval x = xv) (hxo : w.ownsRow B' e sz xv m us) (h1c : ∀ u ∈ us, u.oneCell' = true) (hB : B ≤ w.heap.size) (b1 : n + m ≤ maxLen) (b2 : (n + m) * bytes ≤ 140737488355328)
    (h : ∀ v' w', w'.ownsRow B e sz v' (n + m) (xs ++ us) → w.grownBy w' sv.ownBlock → wpList Tryd.prog ops Q rest (a.put o.dst v') w') : wpList Tryd.prog ops Q (o :: rest) a w := by
  rcases hxo.2 with ⟨rfl, rfl⟩ | ⟨g, cap, cur, rfl, hBg, hg, hnc, hcm, hsz, htk⟩
  · obtain rfl : us = [] := List.eq_nil_of_length_eq_zero (by simpa using hxo.1)
    refine wpList_plain hgd fun K hK => ?_
    have hrun := append_nothingL i0 h1 h2 o.type 0 hown
    unfold Oper.wp
    simp [execOp, ho, resolve, invoke, builtin, hs, hx, hrun, Result.andThen]
    exact hK _ _ (h _ _ (by simpa using hown) ⟨rfl, rfl, rfl, Nat.le_refl _, fun _ _ _ => rfl⟩)
  · refine wpList_append_own w hgd s x t ho B e i0 z sz bytes h1 h2 h3 h4 h5 h6 h7 sv n xs hs hown ⟨g, 0, none⟩ m cap us hx hxo.1 (fun j u hu => ?_) h1c b1 b2 hB (fun v' w' q1 q2 _ => h v' w' q1 q2)
    have hj : j < m * sz := by
      have := (List.getElem?_eq_some_iff.1 hu).1
      rwa [hxo.1] at this
    rw [addr0, World.ownsRow.cellAt hxo j hj]
    exact hu
theorem Off.add {lv rv : Value} {fs : List Fc} {K : Nat} {w' : World} (h : Off lv rv fs) (h1 : ∀ g, lv.ownBlock = some g → g < K) (h2 : ∀ g, rv.ownBlock = some g → g < K) (f : Fc) (hf : f.on K w') : Off lv rv (f :: fs) := fun x hx g hg => by
  rcases List.mem_cons.1 hx with rfl | hx
  · have := (Fc.blk hf g hg).1
    exact ⟨fun e => by have := h1 g e; omega, fun e => by have := h2 g e; omega⟩
  · exact h x hx g hg
theorem Off.of {lv rv : Value} {fs : List Fc} {B : Nat} {w : World} (h : All B w fs) (h1 : ∀ g, lv.ownBlock = some g → g < B) (h2 : ∀ g, rv.ownBlock = some g → w.heap.size ≤ g) : Off lv rv fs := fun x hx g hg => by
  have := Fc.blk (h x hx) g hg
  exact ⟨fun e => by have := h1 g e; omega, fun e => by have := h2 g e; omega⟩
/-- the two lists that will be written over, and the other answers -/
structure LS (w w1 : World) (lv rv : Value) (za : List Int) (ra : List (Nat × Nat)) (fs : List Fc) (wk : World) : Prop where
  bel : Below w.heap.size w wk
  l : OZ w.heap.size wk lv za
  r : OU w.heap.size wk rv ra
  al : All w1.heap.size wk fs
  sz : w1.heap.size ≤ wk.heap.size
  off : Off lv rv fs
theorem LS.keep {w w1 : World} {lv rv : Value} {za : List Int} {ra : List (Nat × Nat)} {fs : List Fc} {wk w' : World} (h : LS w w1 lv rv za ra fs wk) (hb : Below wk.heap.size wk w') : LS w w1 lv rv za ra fs w' :=
  have f : Fr (fun _ => True) wk w' := Fr.of_below hb
  ⟨h.bel.trans (hb.mono h.bel.size), ownsRow_fr h.l f (fun _ _ => trivial), ownsRow_fr h.r f (fun _ _ => trivial), h.al.keep hb, Nat.le_trans h.sz hb.size, h.off⟩
theorem LS.add {w w1 : World} {lv rv : Value} {za : List Int} {ra : List (Nat × Nat)} {fs : List Fc} {wk w' : World} (h : LS w w1 lv rv za ra fs wk) (hb : Below wk.heap.size wk w') (f : Fc) (hf : f.on wk.heap.size w') : LS w w1 lv rv za ra (f :: fs) w' :=
  have k := h.keep hb
  ⟨k.bel, k.l, k.r, h.al.add hb h.sz f hf, k.sz, h.off.add (fun g hg => (World.ownsRow.lt h.l g hg).2) (fun g hg => (World.ownsRow.lt h.r g hg).2) f hf⟩
theorem LR.bel {w w8 : World} {B : Nat} {lv0 rv0 lv rv : Value} {n q : Nat} {wr : World} (h : LR w8 B lv0 rv0 lv n rv q wr) (hb : Below w.heap.size w w8) (h1 : ∀ g, lv0.ownBlock = some g → w.heap.size ≤ g) (h2 : ∀ g, rv0.ownBlock = some g → w.heap.size ≤ g) : Below w.heap.size w wr :=
  ⟨h.fr.os.trans hb.os, h.fr.tape.trans hb.tape, h.fr.output.trans hb.output, Nat.le_trans hb.size h.fr.size, fun k hk => (h.fr.block k (Nat.lt_of_lt_of_le hk hb.size) ⟨fun e => by have := h1 k e; omega, fun e => by have := h2 k e; omega⟩).trans (hb.block k hk)⟩
theorem Below.ofGrown {w w' : World} {row : Option Nat} (h : w.grownBy w' row) (hr : ∀ k, row = some k → w.heap.size ≤ k) : Below w.heap.size w w' := ⟨h.os, h.tape, h.output, h.size, fun k hk => h.block k hk (fun e => by have := hr k e.symm; omega)⟩
theorem ints_one (zs : List Int) : ∀ u ∈ zs.map (Value.int .i64), u.oneCell' = true := by
  intro u hu
  obtain ⟨z, _, rfl⟩ := List.mem_map.1 hu
  rfl
theorem flat_one (r : List (Nat × Nat)) : ∀ u ∈ flat r, u.oneCell' = true := by
  intro u hu
  unfold flat at hu
  simp at hu
  rcases hu with ⟨a, b, h, rfl | rfl⟩ <;> rfl
end Go.Proofs.YtjhnkdhbjpddcaaDoor
