import Derived.Test.YtgjimphkkaibeaaDoorEncp
import Derived.Test.YtgjimphkkaibeaaDoorLen
import Derived.Test.YtgjimphkkaibeaaDoorInts
import Derived.Test.YtgjimphkkaibeaaDoorCopy
import Derived.Test.YtgjimphkkaibeaaDoorOpen
namespace Go.Proofs.YtgjimphkkaibeaaDoor
open Go.ChangeShapes Go.WideShapes Go.ChangeAt Go.RowKit Go.Deep
/-- in block b a value lies that reads as t -/
def VS (w : World) (b : Nat) (t : T) (x y : Value) : Prop := obj w b (.int .i64 t.k) (.int .i64 t.n) (.string t.s) x y ∧ RV (fun _ => True) w t x y
theorem VS.keep {w w' : World} {b : Nat} {t : T} {x y : Value} (h : VS w b t x y) (hb : Below w.heap.size w w') : VS w' b t x y :=
  ⟨h.1.keep (hb.block _ h.1.lt), Below.rv hb (Nat.le_refl _) h.2⟩
set_option maxHeartbeats 4000000 in
theorem encodes3 (t : T) (x y : Value) (w : World) (hok : t.ok) (hin : t.ints) (hT : TB w.heap.size w) (hr : RV (fun _ => True) w t x y) :
    Calls Tryd.prog 3 #[vv t x y] w fun e w' => e = .returned (.bool true) ∧ Below w.heap.size w w' := by
  obtain ⟨⟨xa, xn, xc, rfl⟩, ⟨ya, yn, yc, rfl⟩⟩ := hr.slices
  have HO : Hid (t.ok ∧ t.ints) := ⟨hok, hin⟩
  have HT := Lib.hid hT
  have B0 : Hid (Below w.heap.size w (w.alloc (Obj.cells #[.int .i64 t.k, .int .i64 t.n, .string t.s, .slice xa xn xc, .slice ya yn yc] 25))) := (Below.refl _ _).alloc (Nat.le_refl _) _
  have V0 : Hid (VS (w.alloc (Obj.cells #[.int .i64 t.k, .int .i64 t.n, .string t.s, .slice xa xn xc, .slice ya yn yc] 25)) w.heap.size t (.slice xa xn xc) (.slice ya yn yc)) :=
    ⟨heap_new _ _, Below.rv B0.out (Nat.le_refl _) hr⟩
  clear hok hin hT hr
  unfold vv
  go_enter Tryd.func3, Tryd.ntmps3
  go_wp2_with fail
  refine (far7 t _ _ _ HO.out.1 V0.out.2).mono ?_
  rintro e w1 ⟨r, rfl, hb1, hsm⟩
  have B1 : Hid (Below w.heap.size w w1) := B0.out.trans (hb1.mono (by simp))
  replace V0 : Hid _ := VS.keep V0.out hb1
  clear hb1 B0
  generalize hvb : w.heap.size = vb at *
  have HS : Hid (w.heap.size = vb) := hvb
  clear hvb
  cases r with
  | true =>
    clear hsm
    go_wp2
    go_ret
    exact ⟨rfl, HS.out ▸ B1.out⟩
  | false =>
  have S1 : Hid t.small := (hsm rfl).1
  have R1 : Hid t.rng := rng_of t HO.out.2 S1.out
  have L1 : Hid ((txt t).length ≤ 80000000000000) := by
    have h1 := txt_len t HO.out.1 R1.out
    have h2 := (hsm rfl).2
    exact Lib.hid (by omega)
  clear hsm
  obtain ⟨c0, c1, c2, c3, c4⟩ := V0.out.1.cells
  go_wp2_with fail
  refine (copy8 t _ _ _ HO.out.1 S1.out V0.out.2).mono ?_
  rintro e w3 ⟨x3, y3, rfl, hr3, hb1⟩
  obtain ⟨⟨xa3, xn3, xc3, rfl⟩, ⟨ya3, yn3, yc3, rfl⟩⟩ := hr3.slices
  have B3 : Hid (Below vb w (w3.alloc (Obj.cells #[.int .i64 t.k, .int .i64 t.n, .string t.s, .slice xa3 xn3 xc3, .slice ya3 yn3 yc3] 25))) := (B1.out.trans (hb1.mono (HS.out ▸ B1.out.size))).alloc (by have := B1.out.size; have := hb1.size; have := HS.out; omega) _
  have hA : Below w3.heap.size w3 (w3.alloc (Obj.cells #[.int .i64 t.k, .int .i64 t.n, .string t.s, .slice xa3 xn3 xc3, .slice ya3 yn3 yc3] 25)) := (Below.refl _ _).alloc (Nat.le_refl _) _
  have V2 : Hid (VS (w3.alloc (Obj.cells #[.int .i64 t.k, .int .i64 t.n, .string t.s, .slice xa3 xn3 xc3, .slice ya3 yn3 yc3] 25)) w3.heap.size t (.slice xa3 xn3 xc3) (.slice ya3 yn3 yc3)) := ⟨heap_new _ _, Below.rv hA (Nat.le_refl _) (RV.keep (fun _ _ => trivial) (Nat.le_refl _) (fun _ _ _ => rfl) _ _ _ hr3)⟩
  replace V0 : Hid _ := VS.keep (VS.keep V0.out hb1) hA
  obtain ⟨d0, d1, d2, d3, d4⟩ := V0.out.1.cells
  unfold vv
  clear hb1 B1 c0 c1 c2 c3 c4 hr3 hA
  go_wp2_with fail
  generalize (w3.alloc (Obj.cells #[.int .i64 t.k, .int .i64 t.n, .string t.s, .slice xa3 xn3 xc3, .slice ya3 yn3 yc3] 25)) = w4 at *
  generalize w3.heap.size = b3 at *
  clear d0 d1 d2 d3 d4
  have hsz4 : vb ≤ w4.heap.size := HS.out ▸ B3.out.size
  refine (encode7 t _ _ w4 HO.out.1 S1.out R1.out L1.out (tb_up (HT.out.on B3.out) hsz4) V0.out.2).mono ?_
  rintro e w5 ⟨v, er, rfl, B, l, ho, her, hl, hb1⟩
  obtain ⟨va, vc, rfl⟩ := ow_slice ho
  have E1 : Hid (er = _ ∧ l = _) := ⟨her, hl⟩
  have B5 : Hid (Below vb w w5) := B3.out.trans (hb1.mono hsz4)
  replace V0 : Hid _ := VS.keep V0.out hb1
  replace V2 : Hid _ := VS.keep V2.out hb1
  have O5 : Hid (OW B w5 (.slice va l.length vc) l) := ho
  obtain ⟨d0, d1, d2, d3, d4⟩ := V2.out.1.cells
  clear hb1 B3 ho her hl hsz4
  go_wp2_with fail
  clear d0 d1 d2 d3 d4
  have hsz5 : vb ≤ w5.heap.size := HS.out ▸ B5.out.size
  refine (encode8 t _ _ w5 HO.out.1 R1.out L1.out (tb_up (HT.out.on B5.out) hsz5) V2.out.2).mono ?_
  rintro e w6 ⟨v', er', rfl, B', l', ho, her, hl, hb1⟩
  obtain ⟨va', vc', rfl⟩ := ow_slice ho
  obtain rfl : er' = er := her.trans E1.out.1.symm
  obtain rfl : l' = l := hl.trans E1.out.2.symm
  have LL : Hid (l'.length ≤ 100000000000000) := by
    have h1 := L1.out
    refine Lib.hid ?_
    rw [hl]; split
    · omega
    · simp
  have B6 : Hid (Below vb w w6) := B5.out.trans (hb1.mono hsz5)
  replace V0 : Hid _ := VS.keep V0.out hb1
  replace V2 : Hid _ := VS.keep V2.out hb1
  have O6 : Hid (OW B w6 (.slice va l'.length vc) l') := O5.out.keep hb1
  have O7 : Hid (OW B' w6 (.slice va' l'.length vc') l') := ho
  clear hb1 B5 ho her hl hsz5 O5 E1
  go_wp2_with fail
  refine (bytesSame9 B B' _ _ l' w6 O6.out O7.out LL.out).mono ?_
  rintro e w7 ⟨rfl, hb1⟩
  have B7 : Hid (Below vb w w7) := B6.out.trans (hb1.mono (HS.out ▸ B6.out.size))
  replace V0 : Hid _ := VS.keep V0.out hb1
  replace V2 : Hid _ := VS.keep V2.out hb1
  obtain ⟨c0, c1, c2, c3, c4⟩ := V0.out.1.cells
  obtain ⟨d0, d1, d2, d3, d4⟩ := V2.out.1.cells
  clear hb1 B6 O6 O7
  go_wp2_with fail
  clear c0 c1 c2 c3 c4 d0 d1 d2 d3 d4
  refine (same11 t _ _ _ _ _ HO.out.1 V0.out.2 V2.out.2).mono ?_
  rintro e w8 ⟨rfl, hb1⟩
  have B8 := B7.out.trans (hb1.mono (HS.out ▸ B7.out.size))
  go_wp2
  go_ret
  exact ⟨rfl, HS.out ▸ B8⟩
end Go.Proofs.YtgjimphkkaibeaaDoor
