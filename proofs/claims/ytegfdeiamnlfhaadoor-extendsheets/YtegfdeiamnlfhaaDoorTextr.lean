import Derived.Test.YtegfdeiamnlfhaaDoorLaid
import Derived.Test.YtegfdeiamnlfhaaDoorTextd
namespace Go.Proofs.YtegfdeiamnlfhaaDoor
open Go.RowKit Go.Deep
/-- a node writes its text -/
theorem texts (t : T) : TC t := by
  induction t with
  | no => intro B ty u sv l w h; exact h.elim
  | mk k n s ln l dn ky dv il id =>
    intro B ty u sv ls w h hrng hown hB hT hlim
    obtain ⟨r1, r2, r3, r4, r5, r6⟩ := hrng
    rcases h with ⟨rfl, h⟩ | ⟨rfl, h⟩ | ⟨rfl, b, c, h, h1, h2, h3⟩ | ⟨rfl, b, c, h, h1, h2, h3⟩ <;> cases h
    · have e : txt (.mk 1 n s ln l dn ky dv) = 105 :: (Lib.itoa n ++ [101]) := if_pos rfl
      rw [e] at hlim ⊢
      exact number96 B n r1 r2 sv ls w hown hB hT (by omega)
    · have e : txt (.mk 2 n s ln l dn ky dv) = wtx s := rfl
      have e2 : (wtx s).length = (Lib.itoa (s.size : Int)).length + (s.size + 1) := by
        show (Lib.itoa (s.size : Int) ++ 58 :: s.data.toList).length = _
        rw [List.length_append, List.length_cons, Array.length_toList]; rfl
      rw [e] at hlim ⊢
      exact word100 B s sv ls w hown hB hT (by omega)
    · have e : txt (.mk 3 n s ln l dn ky dv) = 108 :: (catN (fun i => txt (l i)) ln ++ [101]) := rfl
      rw [e] at hlim ⊢
      exact list101 ln l il B b c sv ls w h1 h2 h3 r5 r3 hown hB hT (by simp only [List.length_cons, List.length_append, List.length_nil] at hlim; omega)
    · have e : txt (.mk 4 n s ln l dn ky dv) = 100 :: (catN (fun i => wtx (ky i) ++ txt (dv i)) dn ++ [101]) := rfl
      rw [e] at hlim ⊢
      exact dict102 dn ky dv id B b c sv ls w h1 h2 h3 r6 r4 hown hB hT (by simp only [List.length_cons, List.length_append, List.length_nil] at hlim; omega)
def RC (t : T) : Prop := ∀ (B : Nat) (x y sv : Value) (l : List UInt8) (w : World), RV (fun b => b < B) w t x y → t.ok → t.rng → OW B w sv l → B ≤ w.heap.size → TB B w → l.length + (txt t).length ≤ 80000000000000 →
  Calls Tryd.prog 22 #[sv, vv t x y] w fun e w' => ∃ v', e = .returned v' ∧ OW B w' v' (l ++ txt t) ∧ BW B w w'
set_option maxRecDepth 10000 in
set_option maxHeartbeats 4000000 in
theorem text19 (t : T) : RC t := by
  induction t with
  | no => intro B x y sv l w h; exact h.elim
  | mk k n s ln l dn ky dv il id =>
    intro B x y sv ls w hr hok hrng hown hB hT hlim
    obtain ⟨⟨xa, xn, xc, rfl⟩, ⟨ya, yn, yc, rfl⟩⟩ := hr.slices
    obtain ⟨r1, r2, r3, r4, r5, r6⟩ := hrng
    obtain ⟨ok1, ok2, ok3, ok4, ok5⟩ := hok
    have hB1 : B ≤ w.heap.size + 1 := by omega
    by_cases hk1 : k = 1
    · subst hk1
      have e : txt (.mk 1 n s ln l dn ky dv) = 105 :: (Lib.itoa n ++ [101]) := rfl
      have hlen := Lib.itoa_length_le n r1 r2
      rw [e] at hlim ⊢
      have hz : (({ data := (Lib.itoa n).toArray } : ByteArray)).size = (Lib.itoa n).length := List.size_toArray
      have HZ := Lib.hid hz
      have hl1 : ls.length ≤ 80000000000000 := by omega
      clear hz hr il id r5 r6 ok4 ok5 e hlim
      show Calls Tryd.prog 22 #[_, .agg #[.int .i64 1, .int .i64 n, .string s, .slice xa xn xc, .slice ya yn yc]] w _
      go_enter Tryd.func22, Tryd.ntmps22
      go_wp2_with (at_builtin; refine append_byte rfl _ _ rfl rfl ((hown.alloc _).alloc _) _ 105 rfl (by go_simp) (by simp; omega) (by omega) ?_)
      intro v1 w1 ho1 hb1
      have hbw0 : BW B w ((w.alloc (Obj.cells #[.int .i64 1, .int .i64 n, .string s, .slice xa xn xc, .slice ya yn yc] 35)).alloc (Obj.cells #[Value.int .u8 105] 5)) := ((BW.refl B w).alloc hB _).alloc (by simp; omega) _
      have hx0 : blk ((w.alloc (Obj.cells #[.int .i64 1, .int .i64 n, .string s, .slice xa xn xc, .slice ya yn yc] 35)).alloc (Obj.cells #[Value.int .u8 105] 5)) w.heap.size 35 #[.int .i64 1, .int .i64 n, .string s, .slice xa xn xc, .slice ya yn yc] := (Below.heap_alloc _ _ _ (by simp)).trans (heap_new _ _)
      have hx1 : blk w1 w.heap.size 35 #[.int .i64 1, .int .i64 n, .string s, .slice xa xn xc, .slice ya yn yc] := hb1.2 _ _ hx0 (by simp) (fun cc fz h => by cases h)
      have hbw1 := Lib.hid (hbw0.trans hb1)
      have hBw1 := Nat.le_trans hB hbw1.out.1.size
      have cn : w1.cell? ⟨w.heap.size, 1, none⟩ = some (.int .i64 n) := hx1.cell 1
      clear hb1 hbw0 hx0 hx1
      go_wp2_with fail
      clear cn
      refine (itoa25 n r1 r2 w1 (tb_up (hT.on hbw1.out.1) hBw1)).mono ?_
      rintro e w2 ⟨rfl, hb2⟩
      have ho2 : OW B w2 v1 _ := ho1.keep hb2
      have hbw2 := Lib.hid (hbw1.out.below hBw1 hb2)
      have hBw2 := Nat.le_trans hB hbw2.out.1.size
      clear hb2 ho1 hbw1
      go_wp2_with fail
      refine (laid30 B _ v1 _ w2 ho2 hBw2 (by rw [HZ.out]; simp; omega)).mono ?_
      rintro e w3 ⟨v3, rfl, ho3, hb3⟩
      have hbw3 := Lib.hid (hbw2.out.trans hb3)
      have hBw3 := Nat.le_trans hB hbw3.out.1.size
      clear hb3 ho2 hbw2
      go_wp2_with (at_builtin; refine append_byte rfl _ _ rfl rfl (ho3.alloc _) _ 101 rfl (by go_simp) (by simp; omega) (by simp; omega) ?_)
      intro v4 w4 ho4 hb4
      go_wp2
      go_ret
      exact ⟨v4, rfl, by simpa using ho4, (hbw3.out.alloc hBw3 _).trans hb4⟩
    by_cases hk2 : k = 2
    · subst hk2
      have e : txt (.mk 2 n s ln l dn ky dv) = wtx s := rfl
      have e2 : (wtx s).length = (Lib.itoa (s.size : Int)).length + (s.size + 1) := by
        show (Lib.itoa (s.size : Int) ++ 58 :: s.data.toList).length = _
        rw [List.length_append, List.length_cons, Array.length_toList]; rfl
      rw [e] at hlim ⊢
      have hl1 : ls.length + s.size ≤ 80000000000000 := by omega
      clear hr il id r5 r6 ok4 ok5 e hlim e2
      show Calls Tryd.prog 22 #[_, .agg #[.int .i64 2, .int .i64 n, .string s, .slice xa xn xc, .slice ya yn yc]] w _
      go_enter Tryd.func22, Tryd.ntmps22
      go_wp2_with fail
      refine (told31 B s sv ls _ (hown.alloc _) (by simp; omega) (hT.on ((Below.refl _ _).alloc hB _)) (by omega)).mono ?_
      rintro e w1 ⟨v1, rfl, ho1, hb1⟩
      go_wp2
      go_ret
      exact ⟨v1, rfl, ho1, ((BW.refl B w).alloc hB _).trans hb1⟩
    have hk1' : (k == 1) = false := by simpa using hk1
    have hk2' : (k == 2) = false := by simpa using hk2
    by_cases hk3 : k = 3
    · subst hk3
      have e : txt (.mk 3 n s ln l dn ky dv) = 108 :: (catN (fun i => txt (l i)) ln ++ [101]) := rfl
      rw [e] at hlim ⊢
      have hl1 : ls.length + (catN (fun i => txt (l i)) ln).length + 2 ≤ 80000000000000 := by simp only [List.length_cons, List.length_append, List.length_nil] at hlim; omega
      obtain ⟨hL, _⟩ := hr
      obtain ⟨a, ca, ha, hL⟩ := hL
      obtain ⟨rfl, rfl, rfl⟩ : a = xa ∧ ln = xn ∧ ca = xc := by cases ha; exact ⟨rfl, rfl, rfl⟩
      clear ha
      have HC : Hid ((∀ i, RC (l i)) ∧ (∀ i, i < ln → (l i).ok) ∧ (∀ i, i < ln → (l i).rng) ∧ (ln = 0 ∨ ∃ b o, a = some ⟨b, o, none⟩ ∧ b < B ∧ b < w.heap.size ∧ ∀ i, i < ln → ∃ x' y', RV (fun b => b < B) w (l i) x' y' ∧ five w b (o + i * 5) (l i) x' y')) := ⟨il, ok4, r5, hL⟩
      clear il id r5 r6 ok4 ok5 e hlim hL hk1 hk2 hk1' hk2'
      show Calls Tryd.prog 22 #[_, .agg #[.int .i64 3, .int .i64 n, .string s, .slice a ln ca, .slice ya yn yc]] w _
      go_enter Tryd.func22, Tryd.ntmps22
      go_wp2_with (at_builtin; refine append_byte rfl _ _ rfl rfl ((hown.alloc _).alloc _) _ 108 rfl (by go_simp) (by simp; omega) (by omega) ?_)
      intro v1 w1 ho1 hb1
      have hbw0 : BW B w ((w.alloc (Obj.cells #[.int .i64 3, .int .i64 n, .string s, .slice a ln ca, .slice ya yn yc] 35)).alloc (Obj.cells #[Value.int .u8 108] 5)) := ((BW.refl B w).alloc hB _).alloc (by simp; omega) _
      have hx0 : blk ((w.alloc (Obj.cells #[.int .i64 3, .int .i64 n, .string s, .slice a ln ca, .slice ya yn yc] 35)).alloc (Obj.cells #[Value.int .u8 108] 5)) w.heap.size 35 #[.int .i64 3, .int .i64 n, .string s, .slice a ln ca, .slice ya yn yc] := (Below.heap_alloc _ _ _ (by simp)).trans (heap_new _ _)
      have hx1 : blk w1 w.heap.size 35 #[.int .i64 3, .int .i64 n, .string s, .slice a ln ca, .slice ya yn yc] := hb1.2 _ _ hx0 (by simp) (fun cc fz h => by cases h)
      have hbw1 := hbw0.trans hb1
      generalize hvb : w.heap.size = vb at *
      have HVB := Lib.hid hvb
      clear hb1 hbw0 hx0 hvb
      go_wp2
      go_loopw [0, 5] (fun o i wr => ∃ (j : Nat), j ≤ ln ∧ i = .int .i64 j ∧ Hid (OW B wr o (ls ++ 108 :: catN (fun i => txt (l i)) j) ∧ BW B w wr ∧ blk wr vb 35 #[.int .i64 3, .int .i64 n, .string s, .slice a ln ca, .slice ya yn yc])) (fun _ i _ => ln - (intOf i).toNat)
      case atStart => exact ⟨0, Nat.zero_le _, rfl, ho1, hbw1, hx1⟩
      case round =>
        clear ho1 hbw1 hx1
        obtain ⟨j, hj, rfl, HO⟩ := hrel
        have cl : _ = some (Value.slice a ln ca) := HO.out.2.2.cell 3
        by_cases hlt : j < ln
        · obtain ⟨il, ok4, r5, hL⟩ := HC.out
          rcases hL with h | ⟨b, o, rfl, hb, hbl, hL⟩
          · omega
          obtain ⟨x1, y1, hv, g1, g2, g3, g4, g5⟩ := hL j hlt
          have hle := catN_le (f := fun i => txt (l i)) hlt
          obtain ⟨ho, hbw, hx⟩ := HO.out
          have hk := hbw.1.block b hb
          replace g1 := (World.cell?_of_block (w := w) hk).trans g1
          replace g2 := (World.cell?_of_block (w := w) hk).trans g2
          replace g3 := (World.cell?_of_block (w := w) hk).trans g3
          replace g4 := (World.cell?_of_block (w := w) hk).trans g4
          replace g5 := (World.cell?_of_block (w := w) hk).trans g5
          have hv' := RV.move (fun _ h _ => h) hbw.1.size (fun b hb' _ => hbw.1.block b hb') _ _ _ hv
          obtain ⟨⟨xa1, xn1, xc1, rfl⟩, ⟨ya1, yn1, yc1, rfl⟩⟩ := hv.slices
          have HX := Lib.hid (il j B _ _ _ _ _ hv' (ok4 j hlt) (r5 j hlt) ho (by have := hbw.1.size; have := HVB.out; omega) (hT.on hbw.1) (by simp only [List.length_append, List.length_cons]; omega))
          have HRX := Lib.hid (show ∀ w2 v2, OW B w2 v2 ((ls ++ 108 :: catN (fun i => txt (l i)) j) ++ txt (l j)) → BW B _ w2 → Hid (OW B w2 v2 (ls ++ 108 :: catN (fun i => txt (l i)) (j + 1)) ∧ BW B w w2 ∧ blk w2 vb 35 #[.int .i64 3, .int .i64 n, .string s, .slice (some ⟨b, o, none⟩) ln ca, .slice ya yn yc]) from fun w2 v2 q1 q2 => ⟨by simpa [catN] using q1, hbw.trans q2, q2.2 _ _ hx (by simp) (fun cc fz h => by cases h)⟩)
          have j0 : (0 : Int) ≤ (j : Int) := by omega
          have j1 : (j : Int) < (ln : Int) := by omega
          clear il ok4 r5 hL hv hv' hle ho hbw hx hk HO
          go_wp2_with fail
          refine HX.out.mono ?_
          rintro e w2 ⟨v2, rfl, q1, q2⟩
          have HN := HRX.out w2 v2 q1 q2
          clear q1 q2 HX HRX g1 g2 g3 g4 g5 cl
          go_wp2
          go_roundw
          case rel => exact ⟨j + 1, by omega, by go_num, HN⟩
          case measure => simp [intOf]; omega
        · obtain rfl : j = ln := by omega
          obtain ⟨ho, hbw, hx⟩ := HO.out
          have HBW := Lib.hid hbw
          have hBw := Nat.le_trans hB (HVB.out ▸ hbw.1.size)
          clear hbw hx HO
          go_wp2_with (at_builtin; refine append_byte rfl _ _ rfl rfl (ho.alloc _) _ 101 rfl (by go_simp) (by simp; omega) (by simp; omega) ?_)
          intro v4 w4 ho4 hb4
          go_wp2
          go_ret
          exact ⟨v4, rfl, by simpa using ho4, (HBW.out.alloc hBw _).trans hb4⟩
    have hk3' : (k == 3) = false := by simpa using hk3
    have e : txt (.mk k n s ln l dn ky dv) = 100 :: (catN (fun i => wtx (ky i) ++ txt (dv i)) dn ++ [101]) := (if_neg hk1).trans ((if_neg hk2).trans (if_neg hk3))
    rw [e] at hlim ⊢
    have hl1 : ls.length + (catN (fun i => wtx (ky i) ++ txt (dv i)) dn).length + 2 ≤ 80000000000000 := by simp only [List.length_cons, List.length_append, List.length_nil] at hlim; omega
    obtain ⟨_, hL⟩ := hr
    obtain ⟨a, ca, ha, hL⟩ := hL
    obtain ⟨rfl, rfl, rfl⟩ : a = ya ∧ dn = yn ∧ ca = yc := by cases ha; exact ⟨rfl, rfl, rfl⟩
    clear ha
    have HC : Hid ((∀ i, RC (dv i)) ∧ (∀ i, i < dn → (ky i).size ≤ 140737488351232 ∧ (dv i).ok) ∧ (∀ i, i < dn → (dv i).rng) ∧ (dn = 0 ∨ ∃ b o, a = some ⟨b, o, none⟩ ∧ b < B ∧ b < w.heap.size ∧ ∀ i, i < dn → ∃ x' y', RV (fun b => b < B) w (dv i) x' y' ∧ w.cell? ⟨b, o + i * 6, none⟩ = some (.string (ky i)) ∧ five w b (o + i * 6 + 1) (dv i) x' y')) := ⟨id, ok5, r6, hL⟩
    clear il id r5 r6 ok4 ok5 e hlim hL hk1 hk2 hk3
    show Calls Tryd.prog 22 #[_, .agg #[.int .i64 k, .int .i64 n, .string s, .slice xa xn xc, .slice a dn ca]] w _
    go_enter Tryd.func22, Tryd.ntmps22
    go_wp2_with (at_builtin; refine append_byte rfl _ _ rfl rfl ((hown.alloc _).alloc _) _ 100 rfl (by go_simp) (by simp; omega) (by omega) ?_)
    intro v1 w1 ho1 hb1
    have hbw0 : BW B w ((w.alloc (Obj.cells #[.int .i64 k, .int .i64 n, .string s, .slice xa xn xc, .slice a dn ca] 35)).alloc (Obj.cells #[Value.int .u8 100] 5)) := ((BW.refl B w).alloc hB _).alloc (by simp; omega) _
    have hx0 : blk ((w.alloc (Obj.cells #[.int .i64 k, .int .i64 n, .string s, .slice xa xn xc, .slice a dn ca] 35)).alloc (Obj.cells #[Value.int .u8 100] 5)) w.heap.size 35 #[.int .i64 k, .int .i64 n, .string s, .slice xa xn xc, .slice a dn ca] := (Below.heap_alloc _ _ _ (by simp)).trans (heap_new _ _)
    have hx1 : blk w1 w.heap.size 35 #[.int .i64 k, .int .i64 n, .string s, .slice xa xn xc, .slice a dn ca] := hb1.2 _ _ hx0 (by simp) (fun cc fz h => by cases h)
    have hbw1 := hbw0.trans hb1
    generalize hvb : w.heap.size = vb at *
    have HVB := Lib.hid hvb
    clear hb1 hbw0 hx0 hvb
    go_wp2
    go_loopw [0, 6] (fun o i wr => ∃ (j : Nat), j ≤ dn ∧ i = .int .i64 j ∧ Hid (OW B wr o (ls ++ 100 :: catN (fun i => wtx (ky i) ++ txt (dv i)) j) ∧ BW B w wr ∧ blk wr vb 35 #[.int .i64 k, .int .i64 n, .string s, .slice xa xn xc, .slice a dn ca])) (fun _ i _ => dn - (intOf i).toNat)
    case atStart => exact ⟨0, Nat.zero_le _, rfl, ho1, hbw1, hx1⟩
    case round =>
      clear ho1 hbw1 hx1
      obtain ⟨j, hj, rfl, HO⟩ := hrel
      have cl : _ = some (Value.slice a dn ca) := HO.out.2.2.cell 4
      by_cases hlt : j < dn
      · obtain ⟨il, ok4, r5, hL⟩ := HC.out
        rcases hL with h | ⟨b, o, rfl, hb, hbl, hL⟩
        · omega
        obtain ⟨x1, y1, hv, g0, g1, g2, g3, g4, g5⟩ := hL j hlt
        have hle := catN_le (f := fun i => wtx (ky i) ++ txt (dv i)) hlt
        have hl2 : (wtx (ky j) ++ txt (dv j)).length = (wtx (ky j)).length + (txt (dv j)).length := List.length_append
        have hl3 : (wtx (ky j)).length = (Lib.itoa ((ky j).size : Int)).length + ((ky j).size + 1) := by
          show (Lib.itoa ((ky j).size : Int) ++ 58 :: (ky j).data.toList).length = _
          rw [List.length_append, List.length_cons, Array.length_toList]; rfl
        obtain ⟨ho, hbw, hx⟩ := HO.out
        have hk := hbw.1.block b hb
        have hBr := Nat.le_trans hB (HVB.out ▸ hbw.1.size)
        replace g0 := (World.cell?_of_block (w := w) hk).trans g0
        obtain ⟨⟨xa1, xn1, xc1, rfl⟩, ⟨ya1, yn1, yc1, rfl⟩⟩ := hv.slices
        have HC1 := Lib.hid (told31 B (ky j) _ _ _ ho hBr (hT.on hbw.1) (by simp only [List.length_append, List.length_cons]; omega))
        have HC2 := Lib.hid (show ∀ w2 v2, OW B w2 v2 ((ls ++ 100 :: catN (fun i => wtx (ky i) ++ txt (dv i)) j) ++ wtx (ky j)) → BW B _ w2 →
            w2.cell? ⟨vb, 4, none⟩ = some (.slice (some ⟨b, o, none⟩) dn ca) ∧ five w2 b (o + j * 6 + 1) (dv j) (.slice xa1 xn1 xc1) (.slice ya1 yn1 yc1) ∧ Hid (Calls Tryd.prog 22 #[v2, vv (dv j) (.slice xa1 xn1 xc1) (.slice ya1 yn1 yc1)] w2 fun e w3 => ∃ v3, e = .returned v3 ∧
              Hid (OW B w3 v3 (ls ++ 100 :: catN (fun i => wtx (ky i) ++ txt (dv i)) (j + 1)) ∧ BW B w w3 ∧ blk w3 vb 35 #[.int .i64 k, .int .i64 n, .string s, .slice xa xn xc, .slice (some ⟨b, o, none⟩) dn ca])) from fun w2 v2 q1 q2 => by
          have hbw2 := hbw.trans q2
          have hx2 : blk w2 vb 35 #[.int .i64 k, .int .i64 n, .string s, .slice xa xn xc, .slice (some ⟨b, o, none⟩) dn ca] := q2.2 _ _ hx (by simp) (fun cc fz h => by cases h)
          have hk2 := hbw2.1.block b hb
          refine ⟨hx2.cell 4, ⟨(World.cell?_of_block (w := w) hk2).trans g1, (World.cell?_of_block (w := w) hk2).trans g2, (World.cell?_of_block (w := w) hk2).trans g3, (World.cell?_of_block (w := w) hk2).trans g4, (World.cell?_of_block (w := w) hk2).trans g5⟩, ?_⟩
          refine Lib.hid ((il j B _ _ v2 _ w2 (RV.move (fun _ h _ => h) hbw2.1.size (fun b hb' _ => hbw2.1.block b hb') _ _ _ hv) (ok4 j hlt).2 (r5 j hlt) q1 (Nat.le_trans hB (HVB.out ▸ hbw2.1.size)) (hT.on hbw2.1) (by simp only [List.length_append, List.length_cons]; omega)).mono ?_)
          rintro e w3 ⟨v3, rfl, q3, q4⟩
          exact ⟨v3, rfl, by simpa [catN] using q3, hbw2.trans q4, q4.2 _ _ hx2 (by simp) (fun cc fz h => by cases h)⟩)
        have j0 : (0 : Int) ≤ (j : Int) := by omega
        have j1 : (j : Int) < (dn : Int) := by omega
        clear il ok4 r5 hL hv hle ho hbw hx hk HO hl2 hl3 g1 g2 g3 g4 g5
        go_wp2_with fail
        refine HC1.out.mono ?_
        rintro e w2 ⟨v2, rfl, q1, q2⟩
        obtain ⟨c2, ⟨g1, g2, g3, g4, g5⟩, HX⟩ := HC2.out w2 v2 q1 q2
        clear q1 q2 HC1 HC2 cl g0
        go_wp2_with fail
        refine HX.out.mono ?_
        rintro e w3 ⟨v3, rfl, HN⟩
        clear HX g1 g2 g3 g4 g5 c2
        go_wp2
        go_roundw
        case rel => exact ⟨j + 1, by omega, by go_num, HN⟩
        case measure => simp [intOf]; omega
      · obtain rfl : j = dn := by omega
        obtain ⟨ho, hbw, hx⟩ := HO.out
        have HBW := Lib.hid hbw
        have hBw := Nat.le_trans hB (HVB.out ▸ hbw.1.size)
        clear hbw hx HO
        go_wp2_with (at_builtin; refine append_byte rfl _ _ rfl rfl (ho.alloc _) _ 101 rfl (by go_simp) (by simp; omega) (by simp; omega) ?_)
        intro v4 w4 ho4 hb4
        go_wp2
        go_ret
        exact ⟨v4, rfl, by simpa using ho4, (HBW.out.alloc hBw _).trans hb4⟩
end Go.Proofs.YtegfdeiamnlfhaaDoor
