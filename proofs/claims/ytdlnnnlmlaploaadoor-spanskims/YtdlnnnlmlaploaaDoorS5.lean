import Derived.Test.YtdlnnnlmlaploaaDoorS4
namespace Go.Proofs.YtdlnnnlmlaploaaDoor
open Go.RowKit Go.Deep
/-- all blocks but the reader's and its row's are as they were -/
structure Near (rb : Nat) (ov : Value) (w w' : World) : Prop where
  os : w'.os = w.os
  tape : w'.tape = w.tape
  output : w'.output = w.output
  size : w.heap.size ≤ w'.heap.size
  block : ∀ k, k < w.heap.size → k ≠ rb → ov.ownBlock ≠ some k → w'.heap[k]? = w.heap[k]?
theorem Near.of {rb : Nat} {ov : Value} {w w' : World} (h : Besides rb w w') : Near rb ov w w' := ⟨h.os, h.tape, h.output, h.size, fun k hk hn _ => h.block k hk hn⟩
theorem Near.refl (rb : Nat) (ov : Value) (w : World) : Near rb ov w w := ⟨rfl, rfl, rfl, Nat.le_refl _, fun _ _ _ _ => rfl⟩
theorem Near.trans {rb : Nat} {ov : Value} {w w1 w2 : World} (h : Near rb ov w w1) (g : Near rb ov w1 w2) : Near rb ov w w2 :=
  ⟨g.os.trans h.os, g.tape.trans h.tape, g.output.trans h.output, Nat.le_trans h.size g.size, fun k hk hn ho => (g.block k (Nat.lt_of_lt_of_le hk h.size) hn ho).trans (h.block k hk hn ho)⟩
theorem Near.row {rb g o : Nat} {ov u : Value} (hg : ov.ownBlock = some g) (w : World) : Near rb ov w (w.setCell ⟨g, o, none⟩ u) :=
  ⟨rfl, rfl, rfl, Nat.le_of_eq (setCell_size _ _ _).symm, fun k _ _ ho => Below.heap_setCell _ _ _ _ (fun e => ho (by rw [hg]; show some g = some k; rw [show k = g from e]))⟩
/-- a cell of the row is set -/
theorem SR.setRow {B rb : Nat} {w : World} {a : Option Addr} {c : Nat} {b : List UInt8} {i n : Nat} {ov : Value} {k : Nat} {us : List Value} (h : SR B rb w a c b i n ov k us) {g o : Nat} (hg : ov.ownBlock = some g) (ho : o < k * 12) (u : Value) : SR B rb (w.setCell ⟨g, o, none⟩ u) a c b i n ov k (us.set o u) where
  bk := h.bk.keep (Below.heap_setCell _ _ _ _ (fun e => h.ne (by rw [hg]; show some g = some rb; rw [show rb = g from e])))
  own := own_set h.own hg ho
  low := h.low
  ne := h.ne
  le := h.le
  lim := h.lim
  cap := h.cap
  tx := by
    have hl := (own_lt h.own hg).1
    rcases h.tx with e | ⟨g', o', h1, h2, h3⟩
    · exact .inl e
    · exact .inr ⟨g', o', h1, h2, fun j hj => (World.cell?_of_block (w := w) (Below.heap_setCell _ _ _ _ (by show g' ≠ g; omega))).trans (h3 j hj)⟩
  ev := by
    have hl := (own_lt h.own hg).1
    obtain ⟨⟨t, p, h1⟩, ⟨t', p', h2⟩⟩ := h.ev
    have := h.evB
    exact ⟨⟨t, p, (World.cell?_of_block (w := w) (Below.heap_setCell _ _ _ _ (by show (3 : Nat) ≠ g; omega))).trans h1⟩, ⟨t', p', (World.cell?_of_block (w := w) (Below.heap_setCell _ _ _ _ (by show (4 : Nat) ≠ g; omega))).trans h2⟩⟩
  evB := h.evB
set_option maxRecDepth 10000 in
set_option maxHeartbeats 1000000 in
/-- an element of a list begins -/
theorem part43L {B rb : Nat} {w : World} {a : Option Addr} {c : Nat} {b : List UInt8} {i n m : Nat} {ov : Value} {us : List Value} (h : SR B rb w a c b i n ov (m + 1) us) (hm : m ≤ 1048577) {p x : Int}
    (t0 : us[m * 12]? = some (.int .i64 3)) (t9 : us[m * 12 + 9]? = some (.int .i64 p)) (t11 : us[m * 12 + 11]? = some (.int .i64 x)) (hp0 : 0 ≤ p) (hp1 : p ≤ 1048577) :
    Calls Tryd.prog 43 #[.pointer (some ⟨rb, 0, none⟩)] w fun e w' => e = .returned (.int .i64 0) ∧ SR B rb w' a c b i n ov (m + 1) ((us.set (m * 12 + 11) (.int .i64 i)).set (m * 12 + 9) (.int .i64 (p + 1))) ∧ Near rb ov w w' := by
  obtain ⟨c0, c1, c2, c3, f1, f2, f3⟩ := h.cells
  have hov : ∃ g oc, ov = .slice (some ⟨g, 0, none⟩) (m + 1) oc := by
    rcases h.own.2 with ⟨_, e⟩ | ⟨g, cap, cur, q1, _⟩
    · omega
    · exact ⟨_, _, q1⟩
  obtain ⟨g, oc, rfl⟩ := hov
  have hgr : g ≠ rb := fun e => h.ne (by show some g = some rb; rw [e])
  have hrg : rb ≠ g := fun e => hgr e.symm
  obtain ⟨_, -, hcl⟩ := own_form h.own (g := g) rfl
  have r0 := hcl _ _ t0
  have r9 := hcl _ _ t9
  have r11 := hcl _ _ t11
  have hfr : ∀ o, w.frozen? ⟨g, o, none⟩ = false := by
    rcases h.own.2 with ⟨e, _⟩ | ⟨g', cap, cur, q1, q2, q3, _⟩
    · cases e
    · injection q1 with e1
      injection e1 with e1
      injection e1 with e1
      subst e1
      exact fun o => blk.frozen (show blk w g 94 cur from q3) o
  have y9 := hfr (m * 12 + 9)
  have y11 := hfr (m * 12 + 11)
  have km2 : (m : Int) + 1 - 1 = (m : Int) := by omega
  have km3 : (m : Int) < (m : Int) + 1 := by omega
  have km4 : (m : Int) ≤ 1048577 := by omega
  have m0i : (0 : Int) ≤ (m : Int) := by omega
  have HX := Lib.hid h
  clear h hcl hfr t0 t9 t11
  go_enter Tryd.func43, Tryd.ntmps43
  go_wp2_with fail
  go_quiet (fail)
  go_wp2_with fail
  go_ret
  have hd : Below w.heap.size w (w.drewN nq) := ⟨rfl, rfl, rfl, Nat.le_refl _, fun _ _ => rfl⟩
  have s1 := (HX.out.keep hd).setRow (g := g) (o := m * 12 + 11) rfl (by omega) (.int .i64 i)
  have s2 := s1.setRow (g := g) (o := m * 12 + 9) rfl (by omega) (.int .i64 (p + 1))
  refine ⟨rfl, s2, ((Near.of (Besides.of_below hd)).trans (Near.row (g := g) rfl _)).trans (Near.row (g := g) rfl _)⟩
end Go.Proofs.YtdlnnnlmlaploaaDoor
