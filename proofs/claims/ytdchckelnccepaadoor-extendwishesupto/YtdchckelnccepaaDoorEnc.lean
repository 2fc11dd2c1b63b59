import Derived.Test.YtdchckelnccepaaDoorSize
import Derived.Test.YtdchckelnccepaaDoorValid
namespace Go.Proofs.YtdchckelnccepaaDoor
open Go.RowKit Go.Deep
/-- two texts in memory that are one -/
theorem ow_cell {B : Nat} {w : World} {v : Value} {l : List UInt8} (h : OW B w v l) : (v = .slice none 0 0 ∧ l = []) ∨ ∃ g c, v = .slice (some ⟨g, 0, none⟩) l.length c ∧ ∀ i (hi : i < l.length), w.cell? ⟨g, i, none⟩ = some (.int .u8 (l[i].toNat : Int)) := by
  rcases h.2 with ⟨h1, h2⟩ | ⟨g, cap, cur, rfl, _⟩
  · exact .inl ⟨h1, List.length_eq_zero_iff.1 h2⟩
  · refine .inr ⟨g, cap, rfl, fun i hi => ?_⟩
    have := World.ownsRow.cellAt h i (by omega)
    rw [this]
    simp [Lib.byteCells, hi]

def EP (t : T) (w w' : World) (v : Value) (er : Int) : Prop := ∃ B l, w.heap.size ≤ B ∧ OW B w' v l ∧ er = (if wk t 0 = 0 then (if 1048576 < (txt t).length then 20 else 0) else wk t 0) ∧ l = (if wk t 0 = 0 ∧ (txt t).length ≤ 1048576 then txt t else []) ∧ Below w.heap.size w w'
theorem EP.bad {t : T} {w w' : World} (h : wk t 0 ≠ 0) (hb : Below w.heap.size w w') : EP t w w' (.slice none 0 0) (wk t 0) :=
  ⟨w.heap.size, [], Nat.le_refl _, World.ownsRow_nil _ _ _ _, by rw [if_neg h], by rw [if_neg (fun h' => h h'.1)], hb⟩
theorem EP.long {t : T} {w w' : World} (h : wk t 0 = 0) (h2 : 1048576 < (txt t).length) (hb : Below w.heap.size w w') : EP t w w' (.slice none 0 0) 20 :=
  ⟨w.heap.size, [], Nat.le_refl _, World.ownsRow_nil _ _ _ _, by rw [if_pos h, if_pos h2], by rw [if_neg (fun h' => by omega)], hb⟩
theorem EP.good {t : T} {w w' : World} {B : Nat} {v : Value} (h : wk t 0 = 0) (h2 : (txt t).length ≤ 1048576) (ho : OW B w' v (txt t)) (hB : w.heap.size ≤ B) (hb : Below w.heap.size w w') : EP t w w' v 0 :=
  ⟨B, txt t, hB, ho, by rw [if_pos h, if_neg (by omega)], by rw [if_pos ⟨h, h2⟩], hb⟩
theorem ow_slice {B : Nat} {w : World} {v : Value} {l : List UInt8} (h : OW B w v l) : ∃ a c, v = .slice a l.length c := by
  rcases ow_cell h with ⟨rfl, rfl⟩ | ⟨g, c, rfl, _⟩
  · exact ⟨_, _, rfl⟩
  · exact ⟨_, _, rfl⟩
set_option maxRecDepth 10000 in
set_option maxHeartbeats 1000000 in
theorem encode8 (t : T) (x y : Value) (w : World) (hok : t.ok) (hrng : t.rng) (hwt : (txt t).length ≤ 80000000000000) (hT : TB w.heap.size w) (hr : RV (fun _ => True) w t x y) :
    Calls Tryd.prog 16 #[vv t x y] w fun e w' => ∃ v er, e = .returned (.tuple #[v, .int .i64 er]) ∧ EP t w w' v er := by
  obtain ⟨⟨xa, xn, xc, rfl⟩, ⟨ya, yn, yc, rfl⟩⟩ := hr.slices
  have HR := Lib.hid hr
  clear hr
  have HB0 : Hid (Below w.heap.size w (w.alloc (Obj.cells #[.int .i64 t.k, .int .i64 t.n, .string t.s, .slice xa xn xc, .slice ya yn yc] 41)) ∧ obj (w.alloc (Obj.cells #[.int .i64 t.k, .int .i64 t.n, .string t.s, .slice xa xn xc, .slice ya yn yc] 41)) w.heap.size (.int .i64 t.k) (.int .i64 t.n) (.string t.s) (.slice xa xn xc) (.slice ya yn yc)) := ⟨(Below.refl _ _).alloc (Nat.le_refl _) _, heap_new _ _⟩
  unfold vv
  go_enter Tryd.func16, Tryd.ntmps16
  go_wp2_with fail
  refine (valid13 t _ _ _ hok (Below.rv HB0.out.1 (Nat.le_refl _) HR.out)).mono ?_
  rintro e w1 ⟨rfl, hb1⟩
  have HB1 : Hid (Below w.heap.size w w1 ∧ obj w1 w.heap.size (.int .i64 t.k) (.int .i64 t.n) (.string t.s) (.slice xa xn xc) (.slice ya yn yc)) := ⟨HB0.out.1.trans (hb1.mono (by simp)), HB0.out.2.keep (hb1.block _ HB0.out.2.lt)⟩
  clear hb1 HB0
  by_cases hk : wk t 0 = 0
  case neg =>
    have hk' : (wk t 0 != 0) = true := by simpa using hk
    have HE := Lib.hid (EP.bad hk HB1.out.1)
    generalize wk t 0 = q at *
    go_wp2
    go_ret2
    exact ⟨_, _, rfl, HE.out⟩
  have HK := Lib.hid hk
  rw [hk]
  obtain ⟨c0, c1, c2, c3, c4⟩ := HB1.out.2.cells
  go_wp2_with fail
  refine (text19 t w1.heap.size _ _ _ [] w1 (RV.move (fun b _ hl => Nat.lt_of_lt_of_le hl HB1.out.1.size) HB1.out.1.size (fun b _ hl => HB1.out.1.block b hl) _ _ _ HR.out) hok hrng (World.ownsRow_nil _ _ _ _) (Nat.le_refl _) (tb_up (hT.on HB1.out.1) HB1.out.1.size) (by simpa using hwt)).mono ?_
  rintro e w2 ⟨v2, rfl, ho2, hb2⟩
  rw [List.nil_append] at ho2
  obtain ⟨a2, c2', rfl⟩ := ow_slice ho2
  have HB2 := Lib.hid (And.intro (HB1.out.1.trans (hb2.1.mono HB1.out.1.size)) ho2)
  clear ho2 hb2 c0 c1 c2 c3 c4
  by_cases hlen : 1048576 < (txt t).length
  · have HE := Lib.hid (EP.long HK.out hlen HB2.out.1)
    have hl2 : (1048576 : Int) < ((txt t).length : Int) := by omega
    generalize (txt t).length = q at *
    go_wp2
    go_ret2
    exact ⟨_, _, rfl, HE.out⟩
  · have HE := Lib.hid (EP.good HK.out (by omega) HB2.out.2 HB1.out.1.size HB2.out.1)
    have hl2 : ((txt t).length : Int) ≤ (1048576 : Int) := by omega
    generalize (txt t).length = q at *
    go_wp2
    go_ret2
    exact ⟨_, _, rfl, HE.out⟩
end Go.Proofs.YtdchckelnccepaaDoor
