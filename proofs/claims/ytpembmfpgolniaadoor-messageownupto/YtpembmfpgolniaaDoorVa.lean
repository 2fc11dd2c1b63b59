import Derived.Test.YtpembmfpgolniaaDoorSm
namespace Go.Proofs.YtpembmfpgolniaaDoor
open Go.RowKit
theorem MM.big {w : World} {m : Mv} {D hb : List UInt8} (h : MM w m D hb) : sln m.h ≤ 140737488351232 ∧ sln m.d ≤ 140737488351232 := by
  have h1 := h.sh
  have h2 := h.sd
  have h3 := h.dl
  have h4 := h.hl
  omega
theorem wpList_load_msg {ops : Array Oper} {rest : List Oper} {o : Oper} {a : Act} {w : World} {Q : Exit → Act → World → Prop} (hw : Region.wanted o (yielded ops a.tmps) = true) (x : Operand) (ho : o.op = .load 27 x)
    (g : Nat) (hx : a.eval x = .pointer (some ⟨g, 0, none⟩)) (m : Mv) (hg : w.heap[g]? = some (.cells m.cs 27 (0, 0))) (hi : (Tryd.prog.info? 27).map (·.size) = some m.cs.size)
    (h : wpList Tryd.prog ops Q rest (a.put o.dst (.agg m.cs)) w) : wpList Tryd.prog ops Q (o :: rest) a w :=
  wpList_step fun K hK => by
    rw [if_pos hw]
    exact wp_load_row 27 x ho g hx 27 m.cs (0, 0) _ hg Tryd.underlying27 rfl hi (hK _ _ h)
theorem sz_same (m : Mv) (d h : Value) (e1 : sln d = sln m.d) (e2 : sln h = sln m.h) (c : Nat) : sz c { m with d := d, h := h } = sz c m := by
  unfold sz
  split <;> simp [e1, e2]
theorem lk_same (m : Mv) (d h : Value) (c : Nat) : lk c { m with d := d, h := h } = lk c m := by
  unfold lk
  split <;> rfl
theorem frn_same (m : Mv) (d h : Value) (e1 : sln d = sln m.d) (e2 : sln h = sln m.h) (cs : List Nat) : frn (blks cs { m with d := d, h := h }) = frn (blks cs m) := by
  suffices H : ∀ cs (m m' : Mv), m'.i = m.i → m'.b = m.b → m'.l = m.l → m'.ba = m.ba → m'.pr = m.pr → m'.r = m.r → sln m'.d = sln m.d → sln m'.h = sln m.h → frn (blks cs m') = frn (blks cs m) from H cs m _ rfl rfl rfl rfl rfl rfl e1 e2
  intro cs
  induction cs with
  | nil => intro m m' h1 h2 h3 h4 h5 h6 h7 h8; show frn m' = frn m; unfold frn; rw [h1, h2, h3, h4, h5, h6, h7, h8]
  | cons c l ih =>
    intro m m' h1 h2 h3 h4 h5 h6 h7 h8
    refine ih (blk c m) (blk c m') ?_ ?_ ?_ ?_ ?_ ?_ ?_ ?_
    all_goals (unfold blk; split <;> first | assumption | rfl)
theorem valE_same (m : Mv) (d h : Value) (e1 : sln d = sln m.d) (e2 : sln h = sln m.h) : valE { m with d := d, h := h } = valE m := by
  unfold valE
  show (match rowFor m.k with | none => _ | some r => _) = _
  cases rowFor m.k with
  | none => rfl
  | some r =>
    have h1 : lks r.cs { m with d := d, h := h } = lks r.cs m := by simp only [lks, lk_same]
    have h2 : szs r.cs { m with d := d, h := h } = szs r.cs m := by simp only [szs, sz_same m d h e1 e2]
    simp only [frn_same m d h e1 e2, h1, h2]
end Go.Proofs.YtpembmfpgolniaaDoor
