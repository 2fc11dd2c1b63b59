import Derived.Test.YtegdlkbilgkfoaaDoorM16
import Derived.Test.YtegdlkbilgkfoaaDoorM17
import Derived.Test.YtegdlkbilgkfoaaDoorM05
import Derived.Deep.RegionHeld3
import Derived.Test.YtegdlkbilgkfoaaDoorM15
import Derived.Lib.SmallJoins
import Derived.Laws.IdiomStrings
import Derived.Test.YtegdlkbilgkfoaaDoorM00
namespace Go.Proofs.YtegdlkbilgkfoaaDoor
open Go.RowKit Go.Deep
/-- a node writes its text -/
theorem texts (t : T) : TC t := by
  induction t with
  | no => intro B ty u sv l w h; exact h.elim
  | mk k n s ln l dn ky dv il id =>
    intro B ty u sv ls w h hrng hown hB hT hlim
    obtain ⟨r1, r2, r3, r4, r5, r6⟩ := hrng
    rcases h with ⟨rfl, h⟩ | ⟨rfl, h⟩ | ⟨rfl, b, c, h, h1, h2, h3⟩ | ⟨rfl, b, c, h, h1, h2, h3⟩ <;> cases h
    · have e : txt (.mk 1 n s ln l dn ky dv) = 105 :: (Lib.itoa n ++ [101]) := if_pos rfl
      rw [e] at hlim ⊢
      exact number96 B n r1 r2 sv ls w hown hB hT (by omega)
    · have e : txt (.mk 2 n s ln l dn ky dv) = wtx s := rfl
      have e2 : (wtx s).length = (Lib.itoa (s.size : Int)).length + (s.size + 1) := by
        show (Lib.itoa (s.size : Int) ++ 58 :: s.data.toList).length = _
        rw [List.length_append, List.length_cons, Array.length_toList]; rfl
      rw [e] at hlim ⊢
      exact word100 B s sv ls w hown hB hT (by omega)
    · have e : txt (.mk 3 n s ln l dn ky dv) = 108 :: (catN (fun i => txt (l i)) ln ++ [101]) := rfl
      rw [e] at hlim ⊢
      exact list101 ln l il B b c sv ls w h1 h2 h3 r5 r3 hown hB hT (by simp only [List.length_cons, List.length_append, List.length_nil] at hlim; omega)
    · have e : txt (.mk 4 n s ln l dn ky dv) = 100 :: (catN (fun i => wtx (ky i) ++ txt (dv i)) dn ++ [101]) := rfl
      rw [e] at hlim ⊢
      exact dict102 dn ky dv id B b c sv ls w h1 h2 h3 r6 r4 hown hB hT (by simp only [List.length_cons, List.length_append, List.length_nil] at hlim; omega)

end Go.Proofs.YtegdlkbilgkfoaaDoor
namespace Go.Proofs.YtegdlkbilgkfoaaDoor
open Go.RowKit Go.Deep
/-- the size, or something beyond the bound -/
def SZ (m len : Nat) : Prop := m ≤ len ∧ (m = len ∨ 1048576 < m)
def SC16 (t : T) : Prop := ∀ (x y : Value) (w : World), RV (fun _ => True) w t x y → t.ok → t.rng → VT t → TB w.heap.size w → (txt t).length ≤ 80000000000000 →
  Calls Tryd.prog 26 #[vv t x y] w fun e w' => ∃ m : Nat, e = .returned (.int .i64 m) ∧ SZ m (txt t).length ∧ Below w.heap.size w w'
set_option maxRecDepth 10000 in
set_option maxHeartbeats 4000000 in
theorem size16 (t : T) : SC16 t := by
  induction t with
  | no => intro x y w h; exact h.elim
  | mk k n s ln l dn ky dv il id =>
    intro x y w hr hok hrng hvt hT hlim
    obtain ⟨⟨xa, xn, xc, rfl⟩, ⟨ya, yn, yc, rfl⟩⟩ := hr.slices
    obtain ⟨r1, r2, r3, r4, r5, r6⟩ := hrng
    obtain ⟨ok1, ok2, ok3, ok4, ok5⟩ := hok
    by_cases hk1 : k = 1
    · subst hk1
      have e : txt (.mk 1 n s ln l dn ky dv) = 105 :: (Lib.itoa n ++ [101]) := rfl
      have hlen := Lib.itoa_length_le n r1 r2
      have hz : (({ data := (Lib.itoa n).toArray } : ByteArray)).size = (Lib.itoa n).length := List.size_toArray
      rw [e]
      clear hr il id r5 r6 ok4 ok5 e hlim hvt
      show Calls Tryd.prog 26 #[.agg #[.int .i64 1, .int .i64 n, .string s, .slice xa xn xc, .slice ya yn yc]] w _
      go_enter Tryd.func26, Tryd.ntmps26
      go_wp2_with fail
      refine (itoa25 n r1 r2 _ (tb_up (hT.on ((Below.refl _ _).alloc (Nat.le_refl _) _)) (by simp))).mono ?_
      rintro e w2 ⟨rfl, hb2⟩
      go_wp2
      go_ret
      exact ⟨(Lib.itoa n).length + 2, by show Ending.returned (Value.int .i64 (2 + ((Lib.itoa n).length : Int))) = _; congr 2; omega, by simp [SZ], ((Below.refl _ _).alloc (Nat.le_refl _) _).trans (hb2.mono (by simp))⟩
    by_cases hk2 : k = 2
    · subst hk2
      have e : txt (.mk 2 n s ln l dn ky dv) = wtx s := rfl
      rw [e]
      clear hr il id r5 r6 ok4 ok5 e hlim hvt
      show Calls Tryd.prog 26 #[.agg #[.int .i64 2, .int .i64 n, .string s, .slice xa xn xc, .slice ya yn yc]] w _
      go_enter Tryd.func26, Tryd.ntmps26
      go_wp2_with fail
      refine (wordSize26 s _ (tb_up (hT.on ((Below.refl _ _).alloc (Nat.le_refl _) _)) (by simp)) ok1).mono ?_
      rintro e w2 ⟨rfl, hb2⟩
      go_wp2
      go_ret
      exact ⟨(wtx s).length, rfl, ⟨Nat.le_refl _, .inl rfl⟩, ((Below.refl _ _).alloc (Nat.le_refl _) _).trans (hb2.mono (by simp))⟩
    have hk1' : (k == 1) = false := by simpa using hk1
    have hk2' : (k == 2) = false := by simpa using hk2
    show Calls Tryd.prog 26 #[.agg #[.int .i64 k, .int .i64 n, .string s, .slice xa xn xc, .slice ya yn yc]] w _
    have HLN : Hid ((txt (.mk k n s ln l dn ky dv)).length = 2 + (catN (fun i => txt (l i)) ln).length + (catN (fun i => wtx (ky i) ++ txt (dv i)) dn).length) := by
      refine Lib.hid ?_
      obtain ⟨o1, o2, o3, o4, o5, o6⟩ : 1 ≤ k ∧ k ≤ 4 ∧ (k = 1 ∨ n = 0) ∧ (k = 2 ∨ s.toList = []) ∧ (k = 3 ∨ ln = 0) ∧ (k = 4 ∨ dn = 0) := of_decide_eq_true hvt.1
      by_cases hk3 : k = 3
      · obtain rfl : dn = 0 := by omega
        have e : txt (.mk k n s ln l 0 ky dv) = 108 :: (catN (fun i => txt (l i)) ln ++ [101]) := (if_neg hk1).trans ((if_neg hk2).trans (if_pos hk3))
        rw [e]; simp [catN]; omega
      · obtain rfl : ln = 0 := by omega
        have e : txt (.mk k n s 0 l dn ky dv) = 100 :: (catN (fun i => wtx (ky i) ++ txt (dv i)) dn ++ [101]) := (if_neg hk1).trans ((if_neg hk2).trans (if_neg hk3))
        rw [e]; simp [catN]; omega
    obtain ⟨hL, hD⟩ := hr
    obtain ⟨a, ca, ha, hL⟩ := hL
    obtain ⟨rfl, rfl, rfl⟩ : a = xa ∧ ln = xn ∧ ca = xc := by cases ha; exact ⟨rfl, rfl, rfl⟩
    clear ha
    obtain ⟨a', ca', ha, hD⟩ := hD
    obtain ⟨rfl, rfl, rfl⟩ : a' = ya ∧ dn = yn ∧ ca' = yc := by cases ha; exact ⟨rfl, rfl, rfl⟩
    clear ha
    have HC : Hid ((∀ i, SC16 (l i)) ∧ (∀ i, i < ln → (l i).ok) ∧ (∀ i, i < ln → (l i).rng) ∧ (∀ i, i < ln → VT (l i)) ∧ (ln = 0 ∨ ∃ b o, a = some ⟨b, o, none⟩ ∧ True ∧ b < w.heap.size ∧ ∀ i, i < ln → ∃ x' y', RV (fun _ => True) w (l i) x' y' ∧ five w b (o + i * 5) (l i) x' y')) := ⟨il, ok4, r5, hvt.2.1, hL⟩
    have HD : Hid ((∀ i, SC16 (dv i)) ∧ (∀ i, i < dn → (ky i).size ≤ 140737488351232 ∧ (dv i).ok) ∧ (∀ i, i < dn → (dv i).rng) ∧ (∀ i, i < dn → VT (dv i)) ∧ (dn = 0 ∨ ∃ b o, a' = some ⟨b, o, none⟩ ∧ True ∧ b < w.heap.size ∧ ∀ i, i < dn → ∃ x' y', RV (fun _ => True) w (dv i) x' y' ∧ w.cell? ⟨b, o + i * 6, none⟩ = some (.string (ky i)) ∧ five w b (o + i * 6 + 1) (dv i) x' y')) := ⟨id, ok5, r6, fun i hi => (hvt.2.2 i hi).2, hD⟩
    have hlim2 : 2 + (catN (fun i => txt (l i)) ln).length + (catN (fun i => wtx (ky i) ++ txt (dv i)) dn).length ≤ 80000000000000 := HLN.out ▸ hlim
    have HL2 := Lib.hid hlim2
    clear il id ok4 ok5 r5 r6 hvt hlim hL hD hlim2 hk1 hk2
    go_enter Tryd.func26, Tryd.ntmps26
    go_wp2
    have HB0 : Hid (Below w.heap.size w (w.alloc (Obj.cells #[.int .i64 k, .int .i64 n, .string s, .slice a ln ca, .slice a' dn ca'] 27)) ∧ obj (w.alloc (Obj.cells #[.int .i64 k, .int .i64 n, .string s, .slice a ln ca, .slice a' dn ca'] 27)) w.heap.size (.int .i64 k) (.int .i64 n) (.string s) (.slice a ln ca) (.slice a' dn ca')) := ⟨(Below.refl _ _).alloc (Nat.le_refl _) _, heap_new _ _⟩
    generalize (w.alloc (Obj.cells #[.int .i64 k, .int .i64 n, .string s, .slice a ln ca, .slice a' dn ca'] 27)) = w0 at *
    generalize hvb : w.heap.size = vb at *
    have HVB := Lib.hid hvb
    clear hvb
    go_loopw [3, 4] (fun c i wr => ∃ (j m : Nat), j ≤ ln ∧ i = .int .i64 j ∧ c = .int .i64 m ∧ Hid (SZ m (2 + (catN (fun i => txt (l i)) j).length) ∧ Below vb w wr ∧ obj wr vb (.int .i64 k) (.int .i64 n) (.string s) (.slice a ln ca) (.slice a' dn ca'))) (fun _ i _ => ln - (intOf i).toNat)
    case atStart => exact ⟨0, 2, Nat.zero_le _, rfl, rfl, ⟨Nat.le_refl _, .inl rfl⟩, HB0.out⟩
    case round =>
      clear HB0
      obtain ⟨j, m, hj, rfl, rfl, HO⟩ := hrel
      obtain ⟨_, _, _, cl, cd⟩ := HO.out.2.2.cells
      by_cases hlt : j < ln ∧ m ≤ 1048576
      · obtain ⟨hlt, hm⟩ := hlt
        obtain ⟨il, ok4, r5, hvl, hL⟩ := HC.out
        rcases hL with h | ⟨b, o, rfl, _, hb, hL⟩
        · omega
        obtain ⟨x1, y1, hv, g1, g2, g3, g4, g5⟩ := hL j hlt
        have hle : (catN (fun i => txt (l i)) j).length + (txt (l j)).length ≤ (catN (fun i => txt (l i)) ln).length := catN_le hlt
        obtain ⟨hsz, hbw, hx⟩ := HO.out
        have hk := hbw.block b hb
        replace g1 := (World.cell?_of_block (w := w) hk).trans g1
        replace g2 := (World.cell?_of_block (w := w) hk).trans g2
        replace g3 := (World.cell?_of_block (w := w) hk).trans g3
        replace g4 := (World.cell?_of_block (w := w) hk).trans g4
        replace g5 := (World.cell?_of_block (w := w) hk).trans g5
        have hv' := Below.rv hbw (Nat.le_of_eq HVB.out) hv
        obtain ⟨⟨xa1, xn1, xc1, rfl⟩, ⟨ya1, yn1, yc1, rfl⟩⟩ := hv.slices
        have hlj : (txt (l j)).length ≤ 80000000000000 := by have := HL2.out; omega
        have HX := Lib.hid (il j _ _ _ hv' (ok4 j hlt) (r5 j hlt) (hvl j hlt) (tb_up (hT.on hbw) (by have := hbw.size; have := HVB.out; omega)) hlj)
        have hm2 : m = 2 + (catN (fun i => txt (l i)) j).length := by rcases hsz.2 with h | h <;> omega
        have HM := Lib.hid (And.intro hm2 (And.intro hlj (And.intro hbw hx)))
        have j0 : (0 : Int) ≤ (j : Int) := by omega
        have j1 : (j : Int) < (ln : Int) := by omega
        have m1 : (m : Int) ≤ 1048576 := by omega
        clear il ok4 r5 hvl hL hv hv' hle hbw hx hk HO hm2 hsz
        go_wp2_with fail
        refine HX.out.mono ?_
        rintro e w2 ⟨m2, rfl, q1, q2⟩
        have hq := q1.1
        have HN : Hid (SZ (m + m2) (2 + (catN (fun i => txt (l i)) (j + 1)).length) ∧ Below vb w w2 ∧ obj w2 vb (.int .i64 k) (.int .i64 n) (.string s) (.slice (some ⟨b, o, none⟩) ln ca) (.slice a' dn ca')) := by
          obtain ⟨z1, z2, z3, z4⟩ := HM.out
          have e2 : (catN (fun i => txt (l i)) (j + 1)).length = (catN (fun i => txt (l i)) j).length + (txt (l j)).length := List.length_append
          refine ⟨⟨by rw [e2]; omega, ?_⟩, z3.trans (q2.mono (by have := z3.size; have := HVB.out; omega)), z4.keep (q2.block _ z4.lt)⟩
          rcases q1.2 with h | h
          · exact .inl (by rw [e2]; omega)
          · exact .inr (by omega)
        have hm3 : (m2 : Int) ≤ 80000000000000 := by have := HM.out.2.1; omega
        clear HM q1 q2 HX g1 g2 g3 g4 g5 cl cd
        go_wp2
        go_roundw
        case rel => exact ⟨j + 1, m + m2, by omega, by go_num, by go_num, HN⟩
        case measure => simp [intOf]; omega
      · have HE : Hid (SZ m (2 + (catN (fun i => txt (l i)) ln).length)) := by
          obtain ⟨h1, h2⟩ := HO.out.1
          by_cases e : j = ln
          · subst e; exact ⟨h1, h2⟩
          · have hle : (catN (fun i => txt (l i)) j).length + (txt (l j)).length ≤ (catN (fun i => txt (l i)) ln).length := catN_le (show j < ln by omega)
            exact ⟨by omega, .inr (by omega)⟩
        have HP : Hid (Below vb w _ ∧ obj _ vb (.int .i64 k) (.int .i64 n) (.string s) (.slice a ln ca) (.slice a' dn ca')) := HO.out.2
        have HG : Hid (((j : Int) < (ln : Int) ∧ ¬ ((m : Int) ≤ 1048576)) ∨ ¬ ((j : Int) < (ln : Int))) := by
          refine Lib.hid ?_
          by_cases h : j < ln
          · exact .inl ⟨by omega, by omega⟩
          · exact .inr (by omega)
        clear HO hlt
        rcases HG.out with ⟨g1, g2⟩ | g1
        all_goals
          clear HG
          go_wp2
          clear cl
          go_loopw [3, 5] (fun c i wr => ∃ (j m : Nat), j ≤ dn ∧ i = .int .i64 j ∧ c = .int .i64 m ∧ Hid (SZ m (2 + (catN (fun i => txt (l i)) ln).length + (catN (fun i => wtx (ky i) ++ txt (dv i)) j).length) ∧ Below vb w wr ∧ obj wr vb (.int .i64 k) (.int .i64 n) (.string s) (.slice a ln ca) (.slice a' dn ca'))) (fun _ i _ => dn - (intOf i).toNat)
          case atStart => exact ⟨0, m, Nat.zero_le _, rfl, rfl, by simpa [catN] using HE.out, HP.out⟩
          case round =>
            clear HP HE cd
            obtain ⟨j2, m2, hj2, rfl, rfl, HO⟩ := hrel
            obtain ⟨_, _, _, _, cd⟩ := HO.out.2.2.cells
            by_cases hlt : j2 < dn ∧ m2 ≤ 1048576
            · obtain ⟨hlt, hm⟩ := hlt
              obtain ⟨il, ok4, r5, hvl, hL⟩ := HD.out
              rcases hL with h | ⟨b, o, rfl, _, hb, hL⟩
              · omega
              obtain ⟨x1, y1, hv, g0, g1, g2, g3, g4, g5⟩ := hL j2 hlt
              have hle : (catN (fun i => wtx (ky i) ++ txt (dv i)) j2).length + (wtx (ky j2) ++ txt (dv j2)).length ≤ (catN (fun i => wtx (ky i) ++ txt (dv i)) dn).length := catN_le (f := fun i => wtx (ky i) ++ txt (dv i)) hlt
              have hl2 : (wtx (ky j2) ++ txt (dv j2)).length = (wtx (ky j2)).length + (txt (dv j2)).length := List.length_append
              obtain ⟨hsz, hbw, hx⟩ := HO.out
              have hle2 := HL2.out
              obtain ⟨⟨xa1, xn1, xc1, rfl⟩, ⟨ya1, yn1, yc1, rfl⟩⟩ := hv.slices
              have hm2 : m2 = 2 + (catN (fun i => txt (l i)) ln).length + (catN (fun i => wtx (ky i) ++ txt (dv i)) j2).length := by rcases hsz.2 with h | h <;> omega
              have hcell : ∀ wq, Below vb w wq → obj wq vb (.int .i64 k) (.int .i64 n) (.string s) (.slice a ln ca) (.slice (some ⟨b, o, none⟩) dn ca') → wq.cell? ⟨vb, 4, none⟩ = some (.slice (some ⟨b, o, none⟩) dn ca') ∧ wq.cell? ⟨b, o + j2 * 6, none⟩ = some (.string (ky j2)) ∧ wq.cell? ⟨b, o + j2 * 6 + 1, none⟩ = some (.int .i64 (dv j2).k) ∧ wq.cell? ⟨b, o + j2 * 6 + 1 + 1, none⟩ = some (.int .i64 (dv j2).n) ∧ wq.cell? ⟨b, o + j2 * 6 + 1 + 2, none⟩ = some (.string (dv j2).s) ∧ wq.cell? ⟨b, o + j2 * 6 + 1 + 3, none⟩ = some (.slice xa1 xn1 xc1) ∧ wq.cell? ⟨b, o + j2 * 6 + 1 + 4, none⟩ = some (.slice ya1 yn1 yc1) := fun wq hq hxq => by
                have hk := hq.block b (HVB.out ▸ hb)
                exact ⟨hxq.cells.2.2.2.2, (World.cell?_of_block (w := w) hk).trans g0, (World.cell?_of_block (w := w) hk).trans g1, (World.cell?_of_block (w := w) hk).trans g2, (World.cell?_of_block (w := w) hk).trans g3, (World.cell?_of_block (w := w) hk).trans g4, (World.cell?_of_block (w := w) hk).trans g5⟩
              have HC1 : Hid (∀ w', w'.heap = wr.heap → w'.os = wr.os → w'.tape = wr.tape → w'.output = wr.output → Calls Tryd.prog 38 #[.string (ky j2)] w' fun e wq => e = .returned (.int .i64 (wtx (ky j2)).length) ∧ (wq.cell? ⟨vb, 4, none⟩ = some (.slice (some ⟨b, o, none⟩) dn ca') ∧ wq.cell? ⟨b, o + j2 * 6, none⟩ = some (.string (ky j2)) ∧ wq.cell? ⟨b, o + j2 * 6 + 1, none⟩ = some (.int .i64 (dv j2).k) ∧ wq.cell? ⟨b, o + j2 * 6 + 1 + 1, none⟩ = some (.int .i64 (dv j2).n) ∧ wq.cell? ⟨b, o + j2 * 6 + 1 + 2, none⟩ = some (.string (dv j2).s) ∧ wq.cell? ⟨b, o + j2 * 6 + 1 + 3, none⟩ = some (.slice xa1 xn1 xc1) ∧ wq.cell? ⟨b, o + j2 * 6 + 1 + 4, none⟩ = some (.slice ya1 yn1 yc1)) ∧
                  Hid (Calls Tryd.prog 26 #[.agg #[.int .i64 (dv j2).k, .int .i64 (dv j2).n, .string (dv j2).s, .slice xa1 xn1 xc1, .slice ya1 yn1 yc1]] wq fun e wz => ∃ m3 : Nat, e = .returned (.int .i64 m3) ∧ (wz.cell? ⟨vb, 4, none⟩ = some (.slice (some ⟨b, o, none⟩) dn ca') ∧ wz.cell? ⟨b, o + j2 * 6, none⟩ = some (.string (ky j2)) ∧ wz.cell? ⟨b, o + j2 * 6 + 1, none⟩ = some (.int .i64 (dv j2).k) ∧ wz.cell? ⟨b, o + j2 * 6 + 1 + 1, none⟩ = some (.int .i64 (dv j2).n) ∧ wz.cell? ⟨b, o + j2 * 6 + 1 + 2, none⟩ = some (.string (dv j2).s) ∧ wz.cell? ⟨b, o + j2 * 6 + 1 + 3, none⟩ = some (.slice xa1 xn1 xc1) ∧ wz.cell? ⟨b, o + j2 * 6 + 1 + 4, none⟩ = some (.slice ya1 yn1 yc1)) ∧ (m3 : Int) ≤ 80000000000000 ∧ Hid (SZ (m2 + ((wtx (ky j2)).length + m3)) (2 + (catN (fun i => txt (l i)) ln).length + (catN (fun i => wtx (ky i) ++ txt (dv i)) (j2 + 1)).length) ∧ Below vb w wz ∧ obj wz vb (.int .i64 k) (.int .i64 n) (.string s) (.slice a ln ca) (.slice (some ⟨b, o, none⟩) dn ca')))) := by
                intro w' hh h1 h2 h3
                have hbw' : Below wr.heap.size wr w' := ⟨h1, h2, h3, by rw [hh]; exact Nat.le_refl _, fun q _ => by rw [hh]⟩
                have hvw : vb ≤ wr.heap.size := by have := hbw.size; have := HVB.out; omega
                have hbq0 := hbw.trans (hbw'.mono hvw)
                refine (wordSize26 (ky j2) w' (tb_up (hT.on hbq0) (by have := hbw'.size; omega)) (ok4 j2 hlt).1).mono ?_
                rintro e wq ⟨rfl, hb2⟩
                have hbq := hbq0.trans (hb2.mono (by have := hbw'.size; omega))
                have hxq := (hx.keep (hbw'.block _ hx.lt)).keep (hb2.block _ (Nat.lt_of_lt_of_le hx.lt hbw'.size))
                refine ⟨rfl, hcell wq hbq hxq, ?_⟩
                refine Lib.hid ((il j2 _ _ wq (Below.rv hbq (Nat.le_of_eq HVB.out) hv) (ok4 j2 hlt).2 (r5 j2 hlt) (hvl j2 hlt) (tb_up (hT.on hbq) (by have := hbw'.size; have := hb2.size; omega)) (by omega)).mono ?_)
                rintro e wz ⟨m3, rfl, hs3, hb3⟩
                have hbz := hbq.trans (hb3.mono (by have := hbw'.size; have := hb2.size; omega))
                have hxz := hxq.keep (hb3.block _ hxq.lt)
                have e2 : (catN (fun i => wtx (ky i) ++ txt (dv i)) (j2 + 1)).length = (catN (fun i => wtx (ky i) ++ txt (dv i)) j2).length + ((wtx (ky j2)).length + (txt (dv j2)).length) := List.length_append.trans (by rw [hl2])
                have hs31 := hs3.1
                refine ⟨m3, rfl, hcell wz hbz hxz, by omega, ⟨by rw [e2]; omega, ?_⟩, hbz, hxz⟩
                rcases hs3.2 with h | h
                · exact .inl (by rw [e2]; omega)
                · exact .inr (by omega)
              have hcr := hcell _ hbw hx
              have hwl : ((wtx (ky j2)).length : Int) ≤ 80000000000000 := by omega
              have j0 : (0 : Int) ≤ (j2 : Int) := by omega
              have j1 : (j2 : Int) < (dn : Int) := by omega
              have m1 : (m2 : Int) ≤ 1048576 := by omega
              obtain ⟨k0, k1, k2, k3, k4, k5, k6⟩ := hcr
              clear il ok4 r5 hvl hL hv hle hle2 hbw hx HO hm2 hsz hcell hl2 g0 g1 g2 g3 g4 g5 cd
              go_wp2_with fail
              go_region_held3 (fun w' => w'.cell? ⟨vb, 4, none⟩ = some (.slice (some ⟨b, o, none⟩) dn ca') ∧ w'.cell? ⟨b, o + j2 * 6, none⟩ = some (.string (ky j2)) ∧ w'.cell? ⟨b, o + j2 * 6 + 1, none⟩ = some (.int .i64 (dv j2).k) ∧ w'.cell? ⟨b, o + j2 * 6 + 1 + 1, none⟩ = some (.int .i64 (dv j2).n) ∧ w'.cell? ⟨b, o + j2 * 6 + 1 + 2, none⟩ = some (.string (dv j2).s) ∧ w'.cell? ⟨b, o + j2 * 6 + 1 + 3, none⟩ = some (.slice xa1 xn1 xc1) ∧ w'.cell? ⟨b, o + j2 * 6 + 1 + 4, none⟩ = some (.slice ya1 yn1 yc1))
                (first | (with_reducible exact ⟨z0, z1, z2, z3, z4, z5, z6⟩) | (with_reducible exact ⟨q0, q1, q2, q3, q4, q5, q6⟩) | (exact ⟨k0, k1, k2, k3, k4, k5, k6⟩))
                (first | (go_at_call 38; refine (HC1.out wr.drew rfl rfl rfl rfl).mono ?_; rintro e wq ⟨rfl, ⟨q0, q1, q2, q3, q4, q5, q6⟩, HX⟩) | (go_at_call 26; refine HX.out.mono ?_; rintro e wz ⟨m3, rfl, ⟨z0, z1, z2, z3, z4, z5, z6⟩, hm3, HN⟩))
              clear k0 k1 k2 k3 k4 k5 k6 q0 q1 q2 q3 q4 q5 q6 z0 z1 z2 z3 z4 z5 z6 HC1 HX
              go_wp2
              go_roundw
              case rel =>
                have ew1 : IntKind.i64.wrap (((wtx (ky j2)).length : Int) + (m3 : Int)) = ((wtx (ky j2)).length : Int) + (m3 : Int) := IntWalk.i64_in _ (by omega)
                have ew2 : IntKind.i64.wrap ((m2 : Int) + (((wtx (ky j2)).length : Int) + (m3 : Int))) = (m2 : Int) + (((wtx (ky j2)).length : Int) + (m3 : Int)) := IntWalk.i64_in _ (by omega)
                exact ⟨j2 + 1, m2 + ((wtx (ky j2)).length + m3), by omega, by go_num, by first | (rw [ew1, ew2]; congr 1) | (congr 1; rw [ew1, ew2]; omega) | go_num, HN⟩
              case measure => simp [intOf]; omega
            · have HE : Hid (SZ m2 (2 + (catN (fun i => txt (l i)) ln).length + (catN (fun i => wtx (ky i) ++ txt (dv i)) dn).length)) := by
                obtain ⟨h1, h2⟩ := HO.out.1
                by_cases e : j2 = dn
                · subst e; exact ⟨h1, h2⟩
                · have hle : (catN (fun i => wtx (ky i) ++ txt (dv i)) j2).length + (wtx (ky j2) ++ txt (dv j2)).length ≤ (catN (fun i => wtx (ky i) ++ txt (dv i)) dn).length := catN_le (f := fun i => wtx (ky i) ++ txt (dv i)) (show j2 < dn by omega)
                  exact ⟨by omega, .inr (by omega)⟩
              have HP : Hid (Below vb w wr) := HO.out.2.1
              have HG : Hid (((j2 : Int) < (dn : Int) ∧ ¬ ((m2 : Int) ≤ 1048576)) ∨ ¬ ((j2 : Int) < (dn : Int))) := by
                refine Lib.hid ?_
                by_cases h : j2 < dn
                · exact .inl ⟨by omega, by omega⟩
                · exact .inr (by omega)
              clear HO hlt
              rcases HG.out with ⟨g1, g2⟩ | g1
              all_goals
                clear HG
                go_wp2
                go_ret
                exact ⟨m2, rfl, by rw [HLN.out]; exact HE.out, by rw [HVB.out]; exact HP.out⟩
end Go.Proofs.YtegdlkbilgkfoaaDoor
namespace Go.Proofs.YtegdlkbilgkfoaaDoor
open Go.RowKit Go.Deep
/-- two texts in memory that are one -/
theorem ow_cell {B : Nat} {w : World} {v : Value} {l : List UInt8} (h : OW B w v l) : (v = .slice none 0 0 ∧ l = []) ∨ ∃ g c, v = .slice (some ⟨g, 0, none⟩) l.length c ∧ ∀ i (hi : i < l.length), w.cell? ⟨g, i, none⟩ = some (.int .u8 (l[i].toNat : Int)) := by
  rcases h.2 with ⟨h1, h2⟩ | ⟨g, cap, cur, rfl, _⟩
  · exact .inl ⟨h1, List.length_eq_zero_iff.1 h2⟩
  · refine .inr ⟨g, cap, rfl, fun i hi => ?_⟩
    have := World.ownsRow.cellAt h i (by omega)
    rw [this]
    simp [Lib.byteCells, hi]
set_option maxRecDepth 10000 in
set_option maxHeartbeats 1000000 in
theorem bytesSame9 (B B' : Nat) (v v' : Value) (l : List UInt8) (w : World) (h : OW B w v l) (h' : OW B' w v' l) (hlim : l.length ≤ 100000000000000) :
    Calls Tryd.prog 13 #[v, v'] w fun e w' => e = .returned (.bool true) ∧ Below w.heap.size w w' := by
  have hs : ∃ a c, v = .slice a l.length c ∧ ∀ i (hi : i < l.length), ∃ g, a = some ⟨g, 0, none⟩ ∧ w.cell? ⟨g, i, none⟩ = some (.int .u8 (l[i].toNat : Int)) := by
    rcases ow_cell h with ⟨rfl, rfl⟩ | ⟨g, c, rfl, hc⟩
    · exact ⟨_, _, rfl, fun i hi => absurd hi (Nat.not_lt_zero _)⟩
    · exact ⟨_, _, rfl, fun i hi => ⟨g, rfl, hc i hi⟩⟩
  have hs' : ∃ a c, v' = .slice a l.length c ∧ ∀ i (hi : i < l.length), ∃ g, a = some ⟨g, 0, none⟩ ∧ w.cell? ⟨g, i, none⟩ = some (.int .u8 (l[i].toNat : Int)) := by
    rcases ow_cell h' with ⟨rfl, rfl⟩ | ⟨g, c, rfl, hc⟩
    · exact ⟨_, _, rfl, fun i hi => absurd hi (Nat.not_lt_zero _)⟩
    · exact ⟨_, _, rfl, fun i hi => ⟨g, rfl, hc i hi⟩⟩
  obtain ⟨a, c, rfl, hc⟩ := hs
  obtain ⟨a', c', rfl, hc'⟩ := hs'
  have HC := Lib.hid hc
  have HC' := Lib.hid hc'
  clear hc hc' h h'
  go_enter Tryd.func13, Tryd.ntmps13
  go_wp2
  go_loopw [5] (fun i wr => ∃ (j n : Nat), j ≤ l.length ∧ i = .int .i64 j ∧ wr = w.drewN n) (fun i _ => l.length - (intOf i).toNat)
  case atStart => exact ⟨0, 0, Nat.zero_le _, rfl, rfl⟩
  case round =>
    obtain ⟨j, n, hj, rfl, rfl⟩ := hrel
    by_cases hlt : j < l.length
    · obtain ⟨g, rfl, k1⟩ := HC.out j hlt
      obtain ⟨g', rfl, k2⟩ := HC'.out j hlt
      have j0 : (0 : Int) ≤ (j : Int) := by omega
      have j1 : (j : Int) < (l.length : Int) := by omega
      generalize (l[j].toNat : Int) = cc at k1 k2
      go_wp2
      go_quiet (fail)
      go_wp2
      go_roundw
      case rel => exact ⟨j + 1, _, by omega, by go_num, rfl⟩
      case measure => simp [intOf]; omega
    · obtain rfl : j = l.length := by omega
      go_wp2
      go_ret
      exact ⟨rfl, ⟨rfl, rfl, rfl, Nat.le_refl _, fun _ _ => rfl⟩⟩
/-- what Encode answers -/
def EP (t : T) (w w' : World) (v : Value) (er : Int) : Prop := ∃ B l, OW B w' v l ∧ er = (if wk t 0 = 0 then (if 1048576 < (txt t).length then 20 else 0) else wk t 0) ∧ l = (if wk t 0 = 0 ∧ (txt t).length ≤ 1048576 then txt t else []) ∧ Below w.heap.size w w'
theorem EP.bad {t : T} {w w' : World} (h : wk t 0 ≠ 0) (hb : Below w.heap.size w w') : EP t w w' (.slice none 0 0) (wk t 0) :=
  ⟨0, [], World.ownsRow_nil _ _ _ _, by rw [if_neg h], by rw [if_neg (fun h' => h h'.1)], hb⟩
theorem EP.long {t : T} {w w' : World} (h : wk t 0 = 0) (h2 : 1048576 < (txt t).length) (hb : Below w.heap.size w w') : EP t w w' (.slice none 0 0) 20 :=
  ⟨0, [], World.ownsRow_nil _ _ _ _, by rw [if_pos h, if_pos h2], by rw [if_neg (fun h' => by omega)], hb⟩
theorem EP.good {t : T} {w w' : World} {B : Nat} {v : Value} (h : wk t 0 = 0) (h2 : (txt t).length ≤ 1048576) (ho : OW B w' v (txt t)) (hb : Below w.heap.size w w') : EP t w w' v 0 :=
  ⟨B, txt t, ho, by rw [if_pos h, if_neg (by omega)], by rw [if_pos ⟨h, h2⟩], hb⟩
theorem ow_slice {B : Nat} {w : World} {v : Value} {l : List UInt8} (h : OW B w v l) : ∃ a c, v = .slice a l.length c := by
  rcases ow_cell h with ⟨rfl, rfl⟩ | ⟨g, c, rfl, _⟩
  · exact ⟨_, _, rfl⟩
  · exact ⟨_, _, rfl⟩

end Go.Proofs.YtegdlkbilgkfoaaDoor
namespace Go.Proofs.YtegdlkbilgkfoaaDoor
open Go.RowKit Go.Deep
theorem nil55 (u : Value) (w : World) : Sem.run Tryd.prog (nilAhead 266 76 u "torrent/bencode.text") w = .ok (some false) w := by kernel_rfl
theorem nil56 (u : Value) (w : World) : Sem.run Tryd.prog (nilAhead 266 64 u "torrent/bencode.text") w = .ok (some false) w := by kernel_rfl
theorem nil58 (u : Value) (w : World) : Sem.run Tryd.prog (nilAhead 266 78 u "torrent/bencode.text") w = .ok (some false) w := by kernel_rfl
theorem nil61 (u : Value) (w : World) : Sem.run Tryd.prog (nilAhead 266 59 u "torrent/bencode.text") w = .ok (some false) w := by kernel_rfl
/-- the five cells of a value's box -/
def C5 (w : World) (b : Nat) (t : T) (x y : Value) : Prop := w.cell? ⟨b, 0, none⟩ = some (.int .i64 t.k) ∧ w.cell? ⟨b, 1, none⟩ = some (.int .i64 t.n) ∧ w.cell? ⟨b, 2, none⟩ = some (.string t.s) ∧ w.cell? ⟨b, 3, none⟩ = some x ∧ w.cell? ⟨b, 4, none⟩ = some y
theorem obj.c5 {w : World} {b : Nat} {t : T} {x y : Value} (h : obj w b (.int .i64 t.k) (.int .i64 t.n) (.string t.s) x y) : C5 w b t x y := h.cells
theorem rn_kind {S : Nat → Prop} {w : World} {t : T} {u : Value} (h : RN S w t u) : (t.k = 1 ∧ ∃ n, u = .iface 76 n) ∨ (t.k = 2 ∧ ∃ n, u = .iface 64 n) ∨ (t.k = 3 ∧ ∃ n, u = .iface 78 n) ∨ (t.k = 4 ∧ ∃ n, u = .iface 59 n) := by
  cases t with
  | no => exact h.elim
  | mk k n s ln l dn ky dv =>
    rcases h with ⟨h, rfl⟩ | ⟨h, rfl⟩ | ⟨h, b, c, rfl, _⟩ | ⟨h, b, c, rfl, _⟩
    · exact .inl ⟨h, _, rfl⟩
    · exact .inr (.inl ⟨h, _, rfl⟩)
    · exact .inr (.inr (.inl ⟨h, _, rfl⟩))
    · exact .inr (.inr (.inr ⟨h, _, rfl⟩))
theorem vt_kind {S : Nat → Prop} {w : World} {t : T} {x y : Value} (h : VT t) (hr : RV S w t x y) : t.k = 1 ∨ t.k = 2 ∨ t.k = 3 ∨ t.k = 4 := by
  cases t with
  | no => exact hr.elim
  | mk k n s ln l dn ky dv =>
    obtain ⟨k1, k4, _⟩ := (ownB_iff _ _ _ _ _).1 h.1
    show k = 1 ∨ k = 2 ∨ k = 3 ∨ k = 4
    omega
theorem made_own (w : World) (B m : Nat) (hm : m ≤ 1048576) (hB : B ≤ w.heap.size) : OW B (w.alloc (.cells (madeCells #[.int .u8 0] m) 5)) (.slice (some ⟨w.heap.size, 0, none⟩) 0 m) [] :=
  ⟨rfl, .inr ⟨w.heap.size, m, madeCells #[.int .u8 0] m, rfl, hB, heap_new _ _, Nat.zero_le _, by unfold maxLen; omega, by rw [size_madeCells]; simp, by simp [Lib.byteCells]⟩⟩
theorem text_call (t : T) (ty : TypeId) (uu sv x y : Value) (w wt : World) (hrn : RN (NB wt) wt t (.iface ty uu)) (hrng : t.rng) (ho : OW w.heap.size wt sv []) (hb : Below w.heap.size w wt) (hT : TB w.heap.size w)
    (hx : obj wt w.heap.size (.int .i64 t.k) (.int .i64 t.n) (.string t.s) x y) (hlen : (txt t).length ≤ 80000000000000) :
    Calls Tryd.prog (mth ty) #[uu, sv] wt fun e wz => ∃ v, e = .returned v ∧ C5 wz w.heap.size t x y ∧ Hid (OW w.heap.size wz v (txt t) ∧ Below w.heap.size w wz) := by
  refine (texts t w.heap.size ty uu sv [] wt hrn hrng ho hb.size (hT.on hb) (by simp; omega)).mono ?_
  rintro e wz ⟨v, rfl, h1, h2⟩
  have hx' : obj wz w.heap.size (.int .i64 t.k) (.int .i64 t.n) (.string t.s) x y := h2.2 _ _ hx (by simp) (fun cc fz h => by cases h)
  exact ⟨v, rfl, hx'.c5, by simpa using h1, hb.trans h2.1⟩
theorem enc_callA (t : T) (ty : TypeId) (hty : ∀ S w u, RN S w t u → ∃ uu, u = .iface ty uu) (x y : Value) (w w2 : World) (m : Nat) (hok : t.ok) (hsm : t.small) (hrng : t.rng) (hVT : VT t) (hT : TB w.heap.size w) (hR : RV (fun _ => True) w t x y)
    (hB2 : Below w.heap.size w w2) (hx : obj w2 w.heap.size (.int .i64 t.k) (.int .i64 t.n) (.string t.s) x y) (hm : m ≤ 1048576) (hlen : (txt t).length ≤ 80000000000000) :
    Calls Tryd.prog 27 #[vv t x y] w2.drew fun e wq => ∃ uu, e = .returned (.iface ty uu) ∧ C5 wq w.heap.size t x y ∧ C5 (wq.alloc (.cells (madeCells #[.int .u8 0] m) 5)) w.heap.size t x y ∧
      Hid (Calls Tryd.prog (mth ty) #[uu, .slice (some ⟨wq.heap.size, 0, none⟩) 0 m] (wq.alloc (.cells (madeCells #[.int .u8 0] m) 5)) fun e wz => ∃ v, e = .returned v ∧ C5 wz w.heap.size t x y ∧ Hid (OW w.heap.size wz v (txt t) ∧ Below w.heap.size w wz)) := by
  have hBd : Below w.heap.size w w2.drew := hB2.drew
  refine (nodeOf27 t x y w2.drew hok hsm hVT (Below.rv hBd (Nat.le_refl _) hR)).mono ?_
  rintro e wq ⟨u, rfl, hrn, hb, hn⟩
  obtain ⟨uu, rfl⟩ := hty _ _ _ hrn
  have hs2 : w.heap.size ≤ w2.drew.heap.size := hBd.size
  have hBq : Below w.heap.size w wq := hBd.trans (hb.mono hs2)
  have hxq : obj wq w.heap.size (.int .i64 t.k) (.int .i64 t.n) (.string t.s) x y := hx.keep (hb.block _ hx.lt)
  have hxa : obj (wq.alloc (.cells (madeCells #[.int .u8 0] m) 5)) w.heap.size (.int .i64 t.k) (.int .i64 t.n) (.string t.s) x y := hxq.keep (Below.heap_alloc _ _ _ hxq.lt)
  have hrn' : RN (NB wq) wq t (.iface ty uu) := RN.move (fun b h _ => hn b h) (Nat.le_refl _) (fun _ _ _ => rfl) _ _ hrn
  refine ⟨uu, rfl, hxq.c5, hxa.c5, Lib.hid (text_call t ty uu _ x y w _ (RN.keepB hrn' ((BW.refl w.heap.size wq).alloc hBq.size _)) hrng (made_own wq _ m hm hBq.size) (hBq.alloc hBq.size _) hT hxa hlen)⟩
theorem enc_callB (t : T) (ty : TypeId) (hty : ∀ S w u, RN S w t u → ∃ uu, u = .iface ty uu) (x y : Value) (w w2 : World) (m : Nat) (hok : t.ok) (hsm : t.small) (hrng : t.rng) (hVT : VT t) (hT : TB w.heap.size w) (hR : RV (fun _ => True) w t x y)
    (hB2 : Below w.heap.size w w2) (hx : obj w2 w.heap.size (.int .i64 t.k) (.int .i64 t.n) (.string t.s) x y) (hm : m ≤ 1048576) (hlen : (txt t).length ≤ 80000000000000) :
    Calls Tryd.prog 27 #[vv t x y] (w2.alloc (.cells (madeCells #[.int .u8 0] m) 5)).drew fun e wq => ∃ uu, e = .returned (.iface ty uu) ∧ C5 wq w.heap.size t x y ∧
      Hid (Calls Tryd.prog (mth ty) #[uu, .slice (some ⟨w2.heap.size, 0, none⟩) 0 m] wq fun e wz => ∃ v, e = .returned v ∧ C5 wz w.heap.size t x y ∧ Hid (OW w.heap.size wz v (txt t) ∧ Below w.heap.size w wz)) := by
  have hBd : Below w.heap.size w (w2.alloc (.cells (madeCells #[.int .u8 0] m) 5)).drew := (hB2.alloc hB2.size _).drew
  have ho : OW w.heap.size (w2.alloc (.cells (madeCells #[.int .u8 0] m) 5)).drew (.slice (some ⟨w2.heap.size, 0, none⟩) 0 m) [] := made_own w2 w.heap.size m hm hB2.size
  have hxd : obj (w2.alloc (.cells (madeCells #[.int .u8 0] m) 5)).drew w.heap.size (.int .i64 t.k) (.int .i64 t.n) (.string t.s) x y := hx.keep (Below.heap_alloc w2 _ _ hx.lt)
  generalize (w2.alloc (.cells (madeCells #[.int .u8 0] m) 5)).drew = wd at *
  refine (nodeOf27 t x y wd hok hsm hVT (Below.rv hBd (Nat.le_refl _) hR)).mono ?_
  rintro e wq ⟨u, rfl, hrn, hb, hn⟩
  obtain ⟨uu, rfl⟩ := hty _ _ _ hrn
  have hBq : Below w.heap.size w wq := hBd.trans (hb.mono hBd.size)
  have hxq : obj wq w.heap.size (.int .i64 t.k) (.int .i64 t.n) (.string t.s) x y := hxd.keep (hb.block _ hxd.lt)
  have hrn' : RN (NB wq) wq t (.iface ty uu) := RN.move (fun b h _ => hn b h) (Nat.le_refl _) (fun _ _ _ => rfl) _ _ hrn
  exact ⟨uu, rfl, hxq.c5, Lib.hid (text_call t ty uu _ x y w _ hrn' hrng (ho.keep hb) hBq hT hxq hlen)⟩
set_option maxRecDepth 10000 in
set_option maxHeartbeats 1000000 in
theorem encode7 (t : T) (x y : Value) (w : World) (hok : t.ok) (hsm : t.small) (hrng : t.rng) (hwt : (txt t).length ≤ 80000000000000) (hT : TB w.heap.size w) (hr : RV (fun _ => True) w t x y) :
    Calls Tryd.prog 17 #[vv t x y] w fun e w' => ∃ v er, e = .returned (.tuple #[v, .int .i64 er]) ∧ EP t w w' v er := by
  obtain ⟨⟨xa, xn, xc, rfl⟩, ⟨ya, yn, yc, rfl⟩⟩ := hr.slices
  have HR := Lib.hid hr
  clear hr
  have HB0 : Hid (Below w.heap.size w (w.alloc (Obj.cells #[.int .i64 t.k, .int .i64 t.n, .string t.s, .slice xa xn xc, .slice ya yn yc] 27)) ∧ obj (w.alloc (Obj.cells #[.int .i64 t.k, .int .i64 t.n, .string t.s, .slice xa xn xc, .slice ya yn yc] 27)) w.heap.size (.int .i64 t.k) (.int .i64 t.n) (.string t.s) (.slice xa xn xc) (.slice ya yn yc)) := ⟨(Below.refl _ _).alloc (Nat.le_refl _) _, heap_new _ _⟩
  unfold vv
  go_enter Tryd.func17, Tryd.ntmps17
  go_wp2_with fail
  refine (valid12 t _ _ _ hok (Below.rv HB0.out.1 (Nat.le_refl _) HR.out)).mono ?_
  rintro e w1 ⟨rfl, hb1⟩
  have HB1 : Hid (Below w.heap.size w w1 ∧ obj w1 w.heap.size (.int .i64 t.k) (.int .i64 t.n) (.string t.s) (.slice xa xn xc) (.slice ya yn yc)) := ⟨HB0.out.1.trans (hb1.mono (by simp)), HB0.out.2.keep (hb1.block _ HB0.out.2.lt)⟩
  clear hb1 HB0
  by_cases hk : wk t 0 = 0
  case neg =>
    have hk' : (wk t 0 != 0) = true := by simpa using hk
    have HE := Lib.hid (EP.bad hk HB1.out.1)
    generalize wk t 0 = q at *
    go_wp2
    go_ret2
    exact ⟨_, _, rfl, HE.out⟩
  have HK := Lib.hid hk
  have HVT : Hid (VT t) := vt_of_wk t 0 hk
  rw [hk]
  obtain ⟨c0, c1, c2, c3, c4⟩ := HB1.out.2.cells
  go_wp2_with fail
  refine (size16 t _ _ w1 (Below.rv HB1.out.1 (Nat.le_refl _) HR.out) hok hrng HVT.out (tb_up (hT.on HB1.out.1) HB1.out.1.size) hwt).mono ?_
  rintro e w2 ⟨m, rfl, hsz, hb2⟩
  have HB2 : Hid (Below w.heap.size w w2 ∧ obj w2 w.heap.size (.int .i64 t.k) (.int .i64 t.n) (.string t.s) (.slice xa xn xc) (.slice ya yn yc)) := ⟨HB1.out.1.trans (hb2.mono HB1.out.1.size), HB1.out.2.keep (hb2.block _ HB1.out.2.lt)⟩
  clear hb2 HB1 c0 c1 c2 c3 c4
  by_cases hlen : 1048576 < m
  · have HE := Lib.hid (EP.long HK.out (by have := hsz.1; omega) HB2.out.1)
    have hl2 : (1048576 : Int) < (m : Int) := by omega
    clear hsz
    go_wp2
    go_ret2
    exact ⟨_, _, rfl, HE.out⟩
  have hm : m = (txt t).length := by rcases hsz.2 with h | h <;> omega
  have hl2 : (m : Int) ≤ (1048576 : Int) := by omega
  have hl3 : m ≤ 1048576 := by omega
  have HM := Lib.hid hm
  have HWT := Lib.hid hwt
  clear hsz hm hlen hwt
  obtain ⟨i0, hi, hz0, hz1, hz2⟩ := info_parts info5
  have hmk : ∀ u : World, (Instr.makeSlice 22 (.int .i64 0) (.int .i64 (m : Int))).run Tryd.prog u =
      .ok (.slice (some ⟨u.heap.size, 0, none⟩) 0 m) (u.alloc (.cells (madeCells #[.int .u8 0] m) 5)) := fun u => by
    have h := run_make (P := Tryd.prog) u 22 5 i0 (.int .u8 0) Tryd.underlying22 hi hz0 .i64 .i64 0 m (by omega) (by omega) (by rw [hz2]; omega) (by omega)
    simpa [hz1, Value.cells] using h
  clear hi hz0 hz1 hz2 i0
  have HK4 := vt_kind HVT.out HR.out
  have HALL : Hid (t.ok ∧ t.small ∧ t.rng ∧ VT t ∧ TB w.heap.size w ∧ m ≤ 1048576 ∧ (txt t).length ≤ 80000000000000 ∧ Below w.heap.size w w2 ∧ obj w2 w.heap.size (.int .i64 t.k) (.int .i64 t.n) (.string t.s) (.slice xa xn xc) (.slice ya yn yc)) := ⟨hok, hsm, hrng, HVT.out, hT, hl3, HWT.out, HB2.out⟩
  clear hok hsm hrng hT
  have hl4 : m ≤ 1048576 := hl3
  have HV : Hid ((txt t).length ≤ 1048576) := Lib.hid (HM.out ▸ hl3)
  obtain ⟨c0, c1, c2, c3, c4⟩ := HB2.out.2.cells
  obtain ⟨d0, d1, d2, d3, d4⟩ : C5 (w2.alloc (.cells (madeCells #[.int .u8 0] m) 5)).drew w.heap.size t (.slice xa xn xc) (.slice ya yn yc) := obj.c5 (HB2.out.2.keep (Below.heap_alloc w2 _ _ HB2.out.2.lt))
  rcases HK4 with hk1 | hk1 | hk1 | hk1
  · have hty : ∀ S w u, RN S w t u → ∃ uu, u = .iface 76 uu := fun S w u h => by
      rcases rn_kind h with ⟨h1, h2⟩ | ⟨h1, h2⟩ | ⟨h1, h2⟩ | ⟨h1, h2⟩ <;> first | exact h2 | omega
    obtain ⟨a1, a2, a3, a4, a5, a6, a7, a8, a9⟩ := HALL.out
    have HCA := Lib.hid (enc_callA t 76 hty _ _ w w2 m a1 a2 a3 a4 a5 HR.out a8 a9 a6 a7)
    have HCB := Lib.hid (enc_callB t 76 hty _ _ w w2 m a1 a2 a3 a4 a5 HR.out a8 a9 a6 a7)
    have hmt := meth55
    have hnl := nil55
    clear a1 a2 a3 a4 a5 a6 a7 a8 a9 hty HALL HVT HR HWT HB2 hk1
    unfold vv at HCA HCB
    go_wp2_with fail
    generalize hxb : w.heap.size = xb at *
    have HXB := Lib.hid hxb
    clear hxb
    go_region_held3 (fun w' => w'.cell? ⟨xb, 0, none⟩ = some (.int .i64 t.k) ∧ w'.cell? ⟨xb, 1, none⟩ = some (.int .i64 t.n) ∧ w'.cell? ⟨xb, 2, none⟩ = some (.string t.s) ∧ w'.cell? ⟨xb, 3, none⟩ = some (.slice xa xn xc) ∧ w'.cell? ⟨xb, 4, none⟩ = some (.slice ya yn yc))
      (first | (with_reducible exact ⟨z0, z1, z2, z3, z4⟩) | (with_reducible exact ⟨x0, x1, x2, x3, x4⟩) | (with_reducible exact ⟨q0, q1, q2, q3, q4⟩) | (with_reducible exact ⟨d0, d1, d2, d3, d4⟩) | (exact ⟨c0, c1, c2, c3, c4⟩))
      (first | (go_at_call 27; refine HCA.out.mono ?_; rintro e wq ⟨uu, rfl, ⟨q0, q1, q2, q3, q4⟩, ⟨x0, x1, x2, x3, x4⟩, HXA⟩) | (go_at_call 27; refine HCB.out.mono ?_; rintro e wq ⟨uu, rfl, ⟨q0, q1, q2, q3, q4⟩, HXC⟩) | (go_at_call 115; refine HXA.out.mono ?_; rintro e wz ⟨v3, rfl, ⟨z0, z1, z2, z3, z4⟩, HN⟩) | (go_at_call 115; refine HXC.out.mono ?_; rintro e wz ⟨v3, rfl, ⟨z0, z1, z2, z3, z4⟩, HN⟩))
    all_goals
      have HE := Lib.hid (EP.good HK.out HV.out HN.out.1 (HXB.out.symm ▸ HN.out.2))
      go_wp2
      go_ret2
      exact ⟨_, _, rfl, HE.out⟩
  · have hty : ∀ S w u, RN S w t u → ∃ uu, u = .iface 64 uu := fun S w u h => by
      rcases rn_kind h with ⟨h1, h2⟩ | ⟨h1, h2⟩ | ⟨h1, h2⟩ | ⟨h1, h2⟩ <;> first | exact h2 | omega
    obtain ⟨a1, a2, a3, a4, a5, a6, a7, a8, a9⟩ := HALL.out
    have HCA := Lib.hid (enc_callA t 64 hty _ _ w w2 m a1 a2 a3 a4 a5 HR.out a8 a9 a6 a7)
    have HCB := Lib.hid (enc_callB t 64 hty _ _ w w2 m a1 a2 a3 a4 a5 HR.out a8 a9 a6 a7)
    have hmt := meth56
    have hnl := nil56
    clear a1 a2 a3 a4 a5 a6 a7 a8 a9 hty HALL HVT HR HWT HB2 hk1
    unfold vv at HCA HCB
    go_wp2_with fail
    generalize hxb : w.heap.size = xb at *
    have HXB := Lib.hid hxb
    clear hxb
    go_region_held3 (fun w' => w'.cell? ⟨xb, 0, none⟩ = some (.int .i64 t.k) ∧ w'.cell? ⟨xb, 1, none⟩ = some (.int .i64 t.n) ∧ w'.cell? ⟨xb, 2, none⟩ = some (.string t.s) ∧ w'.cell? ⟨xb, 3, none⟩ = some (.slice xa xn xc) ∧ w'.cell? ⟨xb, 4, none⟩ = some (.slice ya yn yc))
      (first | (with_reducible exact ⟨z0, z1, z2, z3, z4⟩) | (with_reducible exact ⟨x0, x1, x2, x3, x4⟩) | (with_reducible exact ⟨q0, q1, q2, q3, q4⟩) | (with_reducible exact ⟨d0, d1, d2, d3, d4⟩) | (exact ⟨c0, c1, c2, c3, c4⟩))
      (first | (go_at_call 27; refine HCA.out.mono ?_; rintro e wq ⟨uu, rfl, ⟨q0, q1, q2, q3, q4⟩, ⟨x0, x1, x2, x3, x4⟩, HXA⟩) | (go_at_call 27; refine HCB.out.mono ?_; rintro e wq ⟨uu, rfl, ⟨q0, q1, q2, q3, q4⟩, HXC⟩) | (go_at_call 111; refine HXA.out.mono ?_; rintro e wz ⟨v3, rfl, ⟨z0, z1, z2, z3, z4⟩, HN⟩) | (go_at_call 111; refine HXC.out.mono ?_; rintro e wz ⟨v3, rfl, ⟨z0, z1, z2, z3, z4⟩, HN⟩))
    all_goals
      have HE := Lib.hid (EP.good HK.out HV.out HN.out.1 (HXB.out.symm ▸ HN.out.2))
      go_wp2
      go_ret2
      exact ⟨_, _, rfl, HE.out⟩
  · have hty : ∀ S w u, RN S w t u → ∃ uu, u = .iface 78 uu := fun S w u h => by
      rcases rn_kind h with ⟨h1, h2⟩ | ⟨h1, h2⟩ | ⟨h1, h2⟩ | ⟨h1, h2⟩ <;> first | exact h2 | omega
    obtain ⟨a1, a2, a3, a4, a5, a6, a7, a8, a9⟩ := HALL.out
    have HCA := Lib.hid (enc_callA t 78 hty _ _ w w2 m a1 a2 a3 a4 a5 HR.out a8 a9 a6 a7)
    have HCB := Lib.hid (enc_callB t 78 hty _ _ w w2 m a1 a2 a3 a4 a5 HR.out a8 a9 a6 a7)
    have hmt := meth58
    have hnl := nil58
    clear a1 a2 a3 a4 a5 a6 a7 a8 a9 hty HALL HVT HR HWT HB2 hk1
    unfold vv at HCA HCB
    go_wp2_with fail
    generalize hxb : w.heap.size = xb at *
    have HXB := Lib.hid hxb
    clear hxb
    go_region_held3 (fun w' => w'.cell? ⟨xb, 0, none⟩ = some (.int .i64 t.k) ∧ w'.cell? ⟨xb, 1, none⟩ = some (.int .i64 t.n) ∧ w'.cell? ⟨xb, 2, none⟩ = some (.string t.s) ∧ w'.cell? ⟨xb, 3, none⟩ = some (.slice xa xn xc) ∧ w'.cell? ⟨xb, 4, none⟩ = some (.slice ya yn yc))
      (first | (with_reducible exact ⟨z0, z1, z2, z3, z4⟩) | (with_reducible exact ⟨x0, x1, x2, x3, x4⟩) | (with_reducible exact ⟨q0, q1, q2, q3, q4⟩) | (with_reducible exact ⟨d0, d1, d2, d3, d4⟩) | (exact ⟨c0, c1, c2, c3, c4⟩))
      (first | (go_at_call 27; refine HCA.out.mono ?_; rintro e wq ⟨uu, rfl, ⟨q0, q1, q2, q3, q4⟩, ⟨x0, x1, x2, x3, x4⟩, HXA⟩) | (go_at_call 27; refine HCB.out.mono ?_; rintro e wq ⟨uu, rfl, ⟨q0, q1, q2, q3, q4⟩, HXC⟩) | (go_at_call 116; refine HXA.out.mono ?_; rintro e wz ⟨v3, rfl, ⟨z0, z1, z2, z3, z4⟩, HN⟩) | (go_at_call 116; refine HXC.out.mono ?_; rintro e wz ⟨v3, rfl, ⟨z0, z1, z2, z3, z4⟩, HN⟩))
    all_goals
      have HE := Lib.hid (EP.good HK.out HV.out HN.out.1 (HXB.out.symm ▸ HN.out.2))
      go_wp2
      go_ret2
      exact ⟨_, _, rfl, HE.out⟩
  · have hty : ∀ S w u, RN S w t u → ∃ uu, u = .iface 59 uu := fun S w u h => by
      rcases rn_kind h with ⟨h1, h2⟩ | ⟨h1, h2⟩ | ⟨h1, h2⟩ | ⟨h1, h2⟩ <;> first | exact h2 | omega
    obtain ⟨a1, a2, a3, a4, a5, a6, a7, a8, a9⟩ := HALL.out
    have HCA := Lib.hid (enc_callA t 59 hty _ _ w w2 m a1 a2 a3 a4 a5 HR.out a8 a9 a6 a7)
    have HCB := Lib.hid (enc_callB t 59 hty _ _ w w2 m a1 a2 a3 a4 a5 HR.out a8 a9 a6 a7)
    have hmt := meth61
    have hnl := nil61
    clear a1 a2 a3 a4 a5 a6 a7 a8 a9 hty HALL HVT HR HWT HB2 hk1
    unfold vv at HCA HCB
    go_wp2_with fail
    generalize hxb : w.heap.size = xb at *
    have HXB := Lib.hid hxb
    clear hxb
    go_region_held3 (fun w' => w'.cell? ⟨xb, 0, none⟩ = some (.int .i64 t.k) ∧ w'.cell? ⟨xb, 1, none⟩ = some (.int .i64 t.n) ∧ w'.cell? ⟨xb, 2, none⟩ = some (.string t.s) ∧ w'.cell? ⟨xb, 3, none⟩ = some (.slice xa xn xc) ∧ w'.cell? ⟨xb, 4, none⟩ = some (.slice ya yn yc))
      (first | (with_reducible exact ⟨z0, z1, z2, z3, z4⟩) | (with_reducible exact ⟨x0, x1, x2, x3, x4⟩) | (with_reducible exact ⟨q0, q1, q2, q3, q4⟩) | (with_reducible exact ⟨d0, d1, d2, d3, d4⟩) | (exact ⟨c0, c1, c2, c3, c4⟩))
      (first | (go_at_call 27; refine HCA.out.mono ?_; rintro e wq ⟨uu, rfl, ⟨q0, q1, q2, q3, q4⟩, ⟨x0, x1, x2, x3, x4⟩, HXA⟩) | (go_at_call 27; refine HCB.out.mono ?_; rintro e wq ⟨uu, rfl, ⟨q0, q1, q2, q3, q4⟩, HXC⟩) | (go_at_call 110; refine HXA.out.mono ?_; rintro e wz ⟨v3, rfl, ⟨z0, z1, z2, z3, z4⟩, HN⟩) | (go_at_call 110; refine HXC.out.mono ?_; rintro e wz ⟨v3, rfl, ⟨z0, z1, z2, z3, z4⟩, HN⟩))
    all_goals
      have HE := Lib.hid (EP.good HK.out HV.out HN.out.1 (HXB.out.symm ▸ HN.out.2))
      go_wp2
      go_ret2
      exact ⟨_, _, rfl, HE.out⟩
end Go.Proofs.YtegdlkbilgkfoaaDoor
namespace Go.Proofs.YtegdlkbilgkfoaaDoor
open Go.RowKit Go.Deep
def bT : List UInt8 := [108, 105, 45, 55, 101, 49, 58, 120, 101]
def tA : T := tList [tNum (-7), tStr { data := #[120] }]
theorem stA0 : step bT [] 0 = .go [{ d := false }] 1 := by kernel_rfl
theorem stA1 : step bT [{ d := false }] 1 = .go [{ d := false, ls := [tNum (-7)] }] 5 := by kernel_rfl
theorem stA2 : step bT [{ d := false, ls := [tNum (-7)] }] 5 = .go [{ d := false, ls := [tNum (-7), tStr { data := #[120] }] }] 8 := by kernel_rfl
theorem stA3 : step bT [{ d := false, ls := [tNum (-7), tStr { data := #[120] }] }] 8 = .val tA 9 := by kernel_rfl
theorem runA : Run bT (.go [] 0) (.val tA 9) := (Run.one stA0).trans ((Run.one stA1).trans ((Run.one stA2).trans (Run.one stA3)))
theorem doutA : DOUT bT tA 0 0 := .inl ⟨rfl, rfl, by decide, 9, runA, by decide⟩
theorem wkA : wk tA 0 = 0 := by kernel_rfl
theorem txtA : txt tA = bT := by kernel_rfl
theorem two {i : Nat} (h : i < 2) : i = 0 ∨ i = 1 := by omega
theorem ok_num (n : Int) : (tNum n).ok := ⟨by show ByteArray.size _ ≤ _; decide, Nat.zero_le _, Nat.zero_le _, fun i hi => absurd hi (Nat.not_lt_zero _), fun i hi => absurd hi (Nat.not_lt_zero _)⟩
theorem ok_x : (tStr { data := #[120] }).ok := ⟨by show ByteArray.size _ ≤ _; decide, Nat.zero_le _, Nat.zero_le _, fun i hi => absurd hi (Nat.not_lt_zero _), fun i hi => absurd hi (Nat.not_lt_zero _)⟩
theorem okA : tA.ok := ⟨by show ByteArray.size _ ≤ _; decide, by show 2 ≤ _; omega, Nat.zero_le _, fun i hi => by
  rcases two hi with rfl | rfl
  · exact ok_num _
  · exact ok_x, fun i hi => absurd hi (Nat.not_lt_zero _)⟩
theorem smA : tA.small := ⟨by show 2 ≤ _; omega, Nat.zero_le _, fun i hi => by
  rcases two hi with rfl | rfl
  · exact ⟨Nat.zero_le _, Nat.zero_le _, fun i hi => absurd hi (Nat.not_lt_zero _), fun i hi => absurd hi (Nat.not_lt_zero _)⟩
  · exact ⟨Nat.zero_le _, Nat.zero_le _, fun i hi => absurd hi (Nat.not_lt_zero _), fun i hi => absurd hi (Nat.not_lt_zero _)⟩, fun i hi => absurd hi (Nat.not_lt_zero _)⟩
theorem rgA : tA.rng := ⟨by decide, by decide, by show 2 ≤ _; omega, Nat.zero_le _, fun i hi => by
  rcases two hi with rfl | rfl
  · exact ⟨by decide, by decide, Nat.zero_le _, Nat.zero_le _, fun i hi => absurd hi (Nat.not_lt_zero _), fun i hi => absurd hi (Nat.not_lt_zero _)⟩
  · exact ⟨by decide, by decide, Nat.zero_le _, Nat.zero_le _, fun i hi => absurd hi (Nat.not_lt_zero _), fun i hi => absurd hi (Nat.not_lt_zero _)⟩, fun i hi => absurd hi (Nat.not_lt_zero _)⟩
set_option maxHeartbeats 400000 in
theorem num15 (z : Int) (w : World) : Calls Tryd.prog 15 #[.int .i64 z] w fun e w' => e = .returned (.int .i64 z) ∧ w' = w := by
  go_enter Tryd.func15, Tryd.ntmps15
  go_wp2
  go_ret
  exact ⟨rfl, rfl⟩
theorem rb_bT (w : World) : RB (w.alloc (.cells #[.int .u8 108, .int .u8 105, .int .u8 45, .int .u8 55, .int .u8 101, .int .u8 49, .int .u8 58, .int .u8 120, .int .u8 101] 5 (9, 10))) (.slice (some ⟨w.heap.size, 0, none⟩) 9 9) bT := by
  refine ⟨_, 9, rfl, Nat.le_refl _, .inr ⟨_, 0, rfl, by simp, fun i hi => ?_⟩⟩
  rw [Nat.zero_add, World.cell?_alloc_mark]
  have hi' : i < 9 := hi
  match i, hi' with
  | 0, _ => rfl
  | 1, _ => rfl
  | 2, _ => rfl
  | 3, _ => rfl
  | 4, _ => rfl
  | 5, _ => rfl
  | 6, _ => rfl
  | 7, _ => rfl
  | 8, _ => rfl
/-- what lies in memory of the list of -7 and x -/
theorem rvA {w : World} {x y : Value} (h : RV (fun _ => True) w tA x y) : ∃ g o c ya yc, x = .slice (some ⟨g, o, none⟩) 2 c ∧ y = .slice ya 0 yc ∧ g < w.heap.size ∧ w.cell? ⟨g, o, none⟩ = some (.int .i64 1) ∧ w.cell? ⟨g, o + 1, none⟩ = some (.int .i64 (-7)) ∧ w.cell? ⟨g, o + 5, none⟩ = some (.int .i64 2) ∧ w.cell? ⟨g, o + 5 + 2, none⟩ = some (.string { data := #[120] }) := by
  obtain ⟨⟨a, ca, rfl, h1⟩, ⟨a', ca', rfl, _⟩⟩ := h
  rcases h1 with h1 | ⟨g, o, rfl, _, hg, hc⟩
  · cases h1
  · obtain ⟨x0, y0, _, f0⟩ := hc 0 (by show 0 < 2; omega)
    obtain ⟨x1, y1, _, f1⟩ := hc 1 (by show 1 < 2; omega)
    exact ⟨g, o, ca, a', ca', rfl, rfl, hg, f0.1, f0.2.1, f1.1, f1.2.2.1⟩
theorem decodeA (v : Value) (w : World) (hr : RB w v bT) (hev : EVw w) :
    Calls Tryd.prog 10 #[v] w fun e w' => ∃ g o c ya yc, e = .returned (.tuple #[.agg #[.int .i64 3, .int .i64 0, .string { data := #[] }, .slice (some ⟨g, o, none⟩) 2 c, .slice ya 0 yc], .int .i64 0, .int .i64 0]) ∧
      RV (fun _ => True) w' tA (.slice (some ⟨g, o, none⟩) 2 c) (.slice ya 0 yc) ∧ (g < w'.heap.size ∧ w'.cell? ⟨g, o, none⟩ = some (.int .i64 1) ∧ w'.cell? ⟨g, o + 1, none⟩ = some (.int .i64 (-7)) ∧ w'.cell? ⟨g, o + 5, none⟩ = some (.int .i64 2) ∧ w'.cell? ⟨g, o + 5 + 2, none⟩ = some (.string { data := #[120] })) ∧ Below w.heap.size w w' := by
  refine (decode10 v bT w hr hev).mono ?_
  rintro e w' ⟨t, x, y, k, er, rfl, hrv, _, ho, hb⟩
  obtain ⟨rfl, rfl, rfl⟩ := DOUT.unique ho doutA
  obtain ⟨g, o, c, ya, yc, rfl, rfl, h1⟩ := rvA hrv
  exact ⟨g, o, c, ya, yc, rfl, hrv, h1, hb⟩
theorem encodeA (g o c : Nat) (ya : Option Addr) (yc : Nat) (w : World) (hT : TB w.heap.size w) (hr : RV (fun _ => True) w tA (.slice (some ⟨g, o, none⟩) 2 c) (.slice ya 0 yc)) :
    Calls Tryd.prog 17 #[.agg #[.int .i64 3, .int .i64 0, .string { data := #[] }, .slice (some ⟨g, o, none⟩) 2 c, .slice ya 0 yc]] w fun e w' => ∃ a c', e = .returned (.tuple #[.slice a 9 c', .int .i64 0]) ∧ RB w' (.slice a 9 c') bT ∧ Below w.heap.size w w' := by
  refine (encode7 tA _ _ w okA smA rgA (by rw [txtA]; decide) hT hr).mono ?_
  rintro e w' ⟨v, er, rfl, B, l, ho, he, hl, hb⟩
  rw [if_pos wkA, txtA, if_neg (by decide)] at he
  rw [txtA, if_pos ⟨wkA, by decide⟩] at hl
  subst he hl
  obtain ⟨a, c', rfl⟩ := ho.form'
  exact ⟨a, c', rfl, ho.rb, hb⟩
theorem TB.on' {w w' : World} (h : TB w.heap.size w) (hb : Below w.heap.size w w') : TB w'.heap.size w' := tb_up (TB.on h hb) hb.size
theorem conv22 (w : World) : Sem.run Tryd.prog (convert 22 22 (.slice (some ⟨w.heap.size, 0, none⟩) 9 9)) (w.alloc (.cells #[.int .u8 108, .int .u8 105, .int .u8 45, .int .u8 55, .int .u8 101, .int .u8 49, .int .u8 58, .int .u8 120, .int .u8 101] 5)) = .ok (.slice (some ⟨w.heap.size, 0, none⟩) 9 9) (w.alloc (.cells #[.int .u8 108, .int .u8 105, .int .u8 45, .int .u8 55, .int .u8 101, .int .u8 49, .int .u8 58, .int .u8 120, .int .u8 101] 5 (9, 10))) := Lib.run_convert_bytes_const w 22 5 _ 9 9 Tryd.underlying22 Tryd.underlying5
set_option maxRecDepth 10000 in
set_option maxHeartbeats 4000000 in
theorem awake14 (w : World) (hev : EVw w) (hT : TB w.heap.size w) : Calls Tryd.prog 14 #[] w fun e w' => e = .returned (.bool true) ∧ Below w.heap.size w w' := by
  have B0 : Hid (Below w.heap.size w (w.alloc (Obj.cells #[.int .u8 108, .int .u8 105, .int .u8 45, .int .u8 55, .int .u8 101, .int .u8 49, .int .u8 58, .int .u8 120, .int .u8 101] 5 (9, 10)))) := (Below.refl _ _).alloc (Nat.le_refl _) _
  have HT := Lib.hid hT
  have HE := Lib.hid hev
  clear hT hev
  have hcv := conv22
  go_enter Tryd.func14, Tryd.ntmps14
  go_wp2_with fail
  refine (decodeA _ _ (rb_bT w) (HE.out.keep B0.out)).mono ?_
  rintro e w1 ⟨g, o, c, ya, yc, rfl, hrv, ⟨hg, k0, k1, k2, k3⟩, hb1⟩
  have B1 : Hid (Below w.heap.size w w1) := B0.out.trans (hb1.mono B0.out.size)
  have HV : Hid (RV (fun _ => True) w1 tA (.slice (some ⟨g, o, none⟩) 2 c) (.slice ya 0 yc)) := hrv
  clear hb1 B0 hrv
  go_wp2_with fail
  refine (num15 _ _).mono ?_
  rintro e w2 ⟨rfl, rfl⟩
  have hba : Below w1.heap.size w1 (w1.alloc (Obj.cells #[.int .i64 3, .int .i64 0, .string { data := #[] }, .slice (some ⟨g, o, none⟩) 2 c, .slice ya 0 yc] 27)) := (Below.refl _ _).alloc (Nat.le_refl _) _
  have H2 : Hid (RV (fun _ => True) (w1.alloc (Obj.cells #[.int .i64 3, .int .i64 0, .string { data := #[] }, .slice (some ⟨g, o, none⟩) 2 c, .slice ya 0 yc] 27)) tA (.slice (some ⟨g, o, none⟩) 2 c) (.slice ya 0 yc) ∧ Below w.heap.size w (w1.alloc (Obj.cells #[.int .i64 3, .int .i64 0, .string { data := #[] }, .slice (some ⟨g, o, none⟩) 2 c, .slice ya 0 yc] 27))) := ⟨Below.rv hba (Nat.le_refl _) HV.out, B1.out.trans (hba.mono B1.out.size)⟩
  clear hba
  go_wp2_with fail
  generalize (w1.alloc (Obj.cells #[.int .i64 3, .int .i64 0, .string { data := #[] }, .slice (some ⟨g, o, none⟩) 2 c, .slice ya 0 yc] 27)) = w3 at *
  refine (encodeA g o c ya yc _ (HT.out.on' H2.out.2) H2.out.1).mono ?_
  rintro e w4 ⟨a4, c4, rfl, hr4, hb4⟩
  have R4 : Hid (RB w4 (.slice a4 9 c4) bT) := hr4
  have B4 : Hid (Below w.heap.size w w4) := H2.out.2.trans (hb4.mono H2.out.2.size)
  clear hr4 hb4 H2 B1 HV k0 k1 k2 k3 hg
  go_wp2_with fail
  refine (num15 _ _).mono ?_
  rintro e w5 ⟨rfl, rfl⟩
  go_wp2_with fail
  have hba : Below w5.heap.size w5 (w5.alloc (Obj.cells #[.int .u8 108, .int .u8 105, .int .u8 45, .int .u8 55, .int .u8 101, .int .u8 49, .int .u8 58, .int .u8 120, .int .u8 101] 5 (9, 10))) := (Below.refl _ _).alloc (Nat.le_refl _) _
  refine (same9 _ _ bT _ (by decide) (R4.out.keep hba) (rb_bT w5)).mono ?_
  rintro e w6 ⟨rfl, nq, rfl⟩
  have B6 : Hid (Below w.heap.size w ((w5.alloc (Obj.cells #[.int .u8 108, .int .u8 105, .int .u8 45, .int .u8 55, .int .u8 101, .int .u8 49, .int .u8 58, .int .u8 120, .int .u8 101] 5 (9, 10))).drewN nq)) := by
    have h1 := B4.out.trans (hba.mono B4.out.size)
    exact ⟨h1.os, h1.tape, h1.output, h1.size, h1.block⟩
  clear hba
  go_wp2
  go_ret
  exact ⟨rfl, B6.out⟩
end Go.Proofs.YtegdlkbilgkfoaaDoor
namespace Go.Proofs.YtegdlkbilgkfoaaDoor
open Go.RowKit Go.Deep
theorem nrm_k {t : T} {ar : Int} (h : wk t ar = 0) : (nrm t).k = t.k ∧ (nrm t).n = t.n ∧ (nrm t).s = t.s := by
  cases t with
  | no => exact ⟨rfl, rfl, rfl⟩
  | mk k n s ln l dn ky dv =>
    obtain ⟨⟨k1, k4, q1, q2, q3, q4⟩, _⟩ := wk_mk h
    have hs : k ≠ 2 → ByteArray.empty = s := fun e => by
      rcases q2 with e2 | e2
      · exact absurd e2 e
      · rw [empty_of e2]; rfl
    have hn : k ≠ 1 → 0 = n := fun e => by
      rcases q1 with e2 | e2
      · exact absurd e2 e
      · exact e2.symm
    have hk : k = 1 ∨ k = 2 ∨ k = 3 ∨ k = 4 := by omega
    rcases hk with rfl | rfl | rfl | rfl
    · exact ⟨rfl, rfl, hs (by decide)⟩
    · exact ⟨rfl, hn (by decide), rfl⟩
    · exact ⟨rfl, hn (by decide), hs (by decide)⟩
    · exact ⟨rfl, hn (by decide), hs (by decide)⟩
theorem vv_nrm {t : T} {ar : Int} (h : wk t ar = 0) (x y : Value) : vv (nrm t) x y = vv t x y := by
  obtain ⟨h1, h2, h3⟩ := nrm_k h
  unfold vv
  rw [h1, h2, h3]
theorem five_nrm {t : T} {ar : Int} (h : wk t ar = 0) {w : World} {b o : Nat} {x y : Value} (g : five w b o t x y) : five w b o (nrm t) x y := by
  obtain ⟨h1, h2, h3⟩ := nrm_k h
  unfold five at g ⊢
  rw [h1, h2, h3]
  exact g
theorem rv_nrm {S : Nat → Prop} {w : World} : ∀ (t : T) (ar : Int) (x y : Value), wk t ar = 0 → RV S w t x y → RV S w (nrm t) x y := by
  intro t
  induction t with
  | no => intro ar x y _ h; exact h
  | mk k n s ln l dn ky dv il id =>
    intro ar x y hw h
    obtain ⟨⟨k1, k4, q1, q2, q3, q4⟩, hc⟩ := wk_mk hw
    obtain ⟨⟨a, ca, rfl, hL⟩, ⟨a', ca', rfl, hD⟩⟩ := h
    have hl : k ≠ 3 → ln = 0 := fun e => by
      rcases q3 with e2 | e2
      · exact absurd e2 e
      · exact e2
    have hd : k ≠ 4 → dn = 0 := fun e => by
      rcases q4 with e2 | e2
      · exact absurd e2 e
      · exact e2
    have hk : k = 1 ∨ k = 2 ∨ k = 3 ∨ k = 4 := by omega
    rcases hk with rfl | rfl | rfl | rfl
    · obtain rfl := hl (by decide)
      obtain rfl := hd (by decide)
      exact ⟨⟨a, ca, rfl, .inl rfl⟩, ⟨a', ca', rfl, .inl rfl⟩⟩
    · obtain rfl := hl (by decide)
      obtain rfl := hd (by decide)
      exact ⟨⟨a, ca, rfl, .inl rfl⟩, ⟨a', ca', rfl, .inl rfl⟩⟩
    · obtain rfl := hd (by decide)
      obtain ⟨_, cl, _⟩ := hc (by decide)
      refine ⟨⟨a, ca, by rw [lsN_len], ?_⟩, ⟨a', ca', rfl, .inl rfl⟩⟩
      rcases hL with h | ⟨b, o, h1, h2, h3, h4⟩
      · exact .inl (by rw [lsN_len]; exact h)
      · refine .inr ⟨b, o, h1, h2, h3, fun i hi => ?_⟩
        rw [lsN_len] at hi
        obtain ⟨x', y', g1, g2⟩ := h4 i hi
        dsimp only
        rw [lsN_get _ _ hi]
        exact ⟨x', y', il i _ _ _ (cl i hi) g1, five_nrm (cl i hi) g2⟩
    · obtain rfl := hl (by decide)
      obtain ⟨_, _, cd⟩ := hc (by decide)
      refine ⟨⟨a, ca, rfl, .inl rfl⟩, ⟨a', ca', by rw [lsN_len], ?_⟩⟩
      rcases hD with h | ⟨b, o, h1, h2, h3, h4⟩
      · exact .inl (by rw [lsN_len]; exact h)
      · refine .inr ⟨b, o, h1, h2, h3, fun i hi => ?_⟩
        rw [lsN_len] at hi
        obtain ⟨x', y', g1, g2, g3⟩ := h4 i hi
        dsimp only
        rw [lsN_get _ _ hi]
        exact ⟨x', y', id i _ _ _ (cd i hi).2 g1, g2, five_nrm (cd i hi).2 g3⟩
theorem ok_nrm : ∀ (t : T), t.ok → (nrm t).ok := by
  intro t
  induction t with
  | no => intro h; exact h
  | mk k n s ln l dn ky dv il id =>
    intro ⟨h1, h2, h3, h4, h5⟩
    unfold nrm
    split
    · exact ok_num n
    · split
      · exact ⟨h1, Nat.zero_le _, Nat.zero_le _, fun i hi => absurd hi (Nat.not_lt_zero _), fun i hi => absurd hi (Nat.not_lt_zero _)⟩
      · split
        · refine ⟨by show ByteArray.size _ ≤ _; decide, by rw [lsN_len]; exact h2, Nat.zero_le _, fun i hi => ?_, fun i hi => absurd hi (Nat.not_lt_zero _)⟩
          rw [lsN_len] at hi
          dsimp only
          rw [lsN_get _ _ hi]
          exact il i (h4 i hi)
        · refine ⟨by show ByteArray.size _ ≤ _; decide, Nat.zero_le _, by rw [lsN_len]; exact h3, fun i hi => absurd hi (Nat.not_lt_zero _), fun i hi => ?_⟩
          rw [lsN_len] at hi
          dsimp only
          rw [lsN_get _ _ hi]
          exact ⟨(h5 i hi).1, id i (h5 i hi).2⟩
theorem same_nrm (t : T) (ar : Int) (x y x2 y2 : Value) (w : World) (hw : wk t ar = 0) (hok : t.ok) (h1 : RV (fun _ => True) w t x y) (h2 : RV (fun _ => True) w (nrm t) x2 y2) :
    Calls Tryd.prog 12 #[vv t x y, vv t x2 y2] w fun e w' => e = .returned (.bool true) ∧ Below w.heap.size w w' := by
  have := same11 (nrm t) x y x2 y2 w (ok_nrm t hok) (rv_nrm t ar x y hw h1) h2
  rw [vv_nrm hw, vv_nrm hw] at this
  exact this
/-- what is read of a text that is written, whatever follows -/
theorem run_written {t : T} (r : List UInt8) (hw : wk t 0 = 0) (hf : t.full) (hr : t.rng) (hok : t.ok) : Run (txt t ++ r) (.go [] 0) (.val (nrm t) (txt t).length) := by
  have := reads t (txt t ++ r) r [] 0 hw hf hr hok trivial rfl
  rw [Nat.zero_add] at this
  exact this
theorem dout_written {t : T} (hw : wk t 0 = 0) (hf : t.full) (hr : t.rng) (hok : t.ok) (hl : (txt t).length ≤ 1048576) : DOUT (txt t) (nrm t) 0 0 := by
  have := run_written [] hw hf hr hok
  rw [List.append_nil] at this
  exact .inl ⟨rfl, rfl, hl, _, this, Nat.le_refl _⟩
end Go.Proofs.YtegdlkbilgkfoaaDoor
