import Derived.Test.YtnjdopdlafcbgaaHc
namespace Go.Proofs.Ytnjdopdlafcbgaa
open Go.RowKit Go.Deep
def lsK (key : ByteArray) (e : PE) : Bool := Op.bytesLess e.key.toList key.toList
/-- a list with one more pair, behind all that are less -/
def wtP (es : List PE) (p : PE) : List PE := es.filter (lsK p.key) ++ p :: es.filter (fun e => !lsK p.key e)
theorem filter_snoc {α : Type} (q : α → Bool) {l : List α} {i : Nat} {e : α} (h : l[i]? = some e) : (l.take (i + 1)).filter q = (l.take i).filter q ++ (if q e then [e] else []) := by
  rw [List.take_add_one, h]
  simp [List.filter_append, List.filter_cons]
theorem filter_len {α : Type} (q : α → Bool) (l : List α) (i : Nat) : ((l.take i).filter q).length ≤ i := Nat.le_trans (List.length_filter_le _ _) (by rw [List.length_take]; omega)
/-- the row that is being laid -/
def RW (B : Nat) (w0 : World) (acc : List PE) (v : Value) (wr : World) : Prop := wr.ownsRow B 59 6 v acc.length (gCs acc) ∧ Below B w0 wr
theorem RW.put {B : Nat} {w0 wr wb wa : World} {acc : List PE} {e : PE} {v v' : Value} {n : Nat} (h : RW B w0 acc v wr) (hn : n = acc.length + 1) (hB : B ≤ wr.heap.size) (hb : Below wr.heap.size wr wb) (ho : wa.ownsRow B 59 6 v' n (gCs acc ++ gCs [e])) (hg : wb.grownBy wa v.ownBlock) : RW B w0 (acc ++ [e]) v' wa := by
  refine ⟨by rw [gCs_app]; subst hn; simpa using ho, (h.2.trans (hb.mono hB)).grown hg (Nat.le_trans hB hb.size) (fun k hk => (World.ownsRow.lt h.1 k hk).1)⟩
theorem RW.keep {B : Nat} {w0 wr wb : World} {acc : List PE} {v : Value} (h : RW B w0 acc v wr) (hB : B ≤ wr.heap.size) (hb : Below wr.heap.size wr wb) : RW B w0 acc v wb :=
  ⟨h.1.kept (grown_of_below hb) (by cases hv : v.ownBlock with | none => exact .inl rfl | some q => exact .inr (by simp)), h.2.trans (hb.mono hB)⟩
set_option maxHeartbeats 8000000 in
set_option maxRecDepth 100000 in
theorem with68 (v1 : Value) (es : List PE) (key : ByteArray) (t : T) (x y : Value) (w : World) (h1 : RG w.heap.size w v1 es) (ht : RV (fun b => b < w.heap.size) w t x y) (hl : es.length ≤ 2147483000) :
    Calls Try.prog 68 #[v1, .string key, .agg #[.int .i64 t.k, .int .i64 t.n, .string t.s, x, y]] w fun e w' => ∃ v', e = .returned v' ∧ GR (w.heap.size + 1) w.heap.size w' v' (wtP es ⟨key, t, x, y⟩) ∧ Below w.heap.size w w' := by
  have HRV : Hid (RV (fun b => b < w.heap.size) w t x y ∧ ∀ e ∈ es, RV (fun b => b < w.heap.size) w e.t e.x e.y) := ⟨ht, h1.rv⟩
  obtain ⟨⟨ta, tn, tc, rfl⟩, ⟨sa, sn, sc, rfl⟩⟩ := ht.slices
  obtain ⟨a1, c1, rfl, hc1, hx1⟩ := h1
  have HX := Lib.hid hx1
  obtain ⟨i0, hi, hz0, hz1, hz2⟩ := info_parts info59s
  have b0 : Below w.heap.size w (w.alloc (.cells #[.int .i64 t.k, .int .i64 t.n, .string t.s, .slice ta tn tc, .slice sa sn sc] 56)) := (Below.refl _ _).alloc (Nat.le_refl _) _
  have HB0 : Hid (Below w.heap.size w (w.alloc (.cells #[.int .i64 t.k, .int .i64 t.n, .string t.s, .slice ta tn tc, .slice sa sn sc] 56)) ∧ (w.alloc (.cells #[.int .i64 t.k, .int .i64 t.n, .string t.s, .slice ta tn tc, .slice sa sn sc] 56)).heap[w.heap.size]? = some (.cells #[.int .i64 t.k, .int .i64 t.n, .string t.s, .slice ta tn tc, .slice sa sn sc] 56 (0, 0)) ∧ (w.alloc (.cells #[.int .i64 t.k, .int .i64 t.n, .string t.s, .slice ta tn tc, .slice sa sn sc] 56)).heap.size = w.heap.size + 1) := ⟨b0, heap_new _ _, by simp⟩
  generalize hnn : es.length = n at *
  have HNN := Lib.hid hnn
  clear hnn hx1 ht b0
  go_enter Try.func68, Try.ntmps68
  go_upto_region 1 with fail
  generalize (w.alloc (.cells #[.int .i64 t.k, .int .i64 t.n, .string t.s, .slice ta tn tc, .slice sa sn sc] 56)) = w0 at *
  have HRW0 : Hid (RW (w.heap.size + 1) w0 [] (.slice none 0 0) w0) := ⟨World.ownsRow_nil _ _ _ _, Below.refl _ _⟩
  have HSZ0 : Hid (w.heap.size + 1 ≤ w0.heap.size) := by have := HB0.out.2.2; show _ ≤ _; omega
  go_wp2_with fail
  go_loopw [7, 8] (fun lv ti wr => ∃ i : Nat, i ≤ n ∧ ti = .int .i64 i ∧ Hid (RW (w.heap.size + 1) w0 ((es.take i).filter (lsK key)) lv wr)) (fun _ ti _ => n - (intOf ti).toNat)
  case atStart => exact ⟨0, Nat.zero_le _, rfl, HRW0.out⟩
  case round =>
    obtain ⟨i, hin, rfl, HI⟩ := hrel
    clear HRW0
    have HSZ : Hid (w.heap.size + 1 ≤ wr.heap.size) := Nat.le_trans HSZ0.out (Nat.le_trans HI.out.2.size (Nat.le_refl _))
    by_cases hlt : i < n
    · obtain ⟨e, he⟩ : ∃ e, es[i]? = some e := ⟨_, List.getElem?_eq_getElem (by have := HNN.out; omega)⟩
      obtain ⟨g, o, rfl, hg, hcc⟩ := HX.out.resolve_left (fun e => by rw [e] at he; simp at he)
      have hfl := filter_len (lsK key) es i
      obtain ⟨ek, et, ex, ey⟩ := e
      obtain ⟨hrv, hc6⟩ := hcc i _ he
      obtain ⟨⟨xa, xn, xc, hex⟩, ⟨ya, yn, yc, hey⟩⟩ := hrv.slices
      simp only at hex hey
      subst hex hey
      have HBW : Hid (Below w.heap.size w wr) := HB0.out.1.trans (HI.out.2.mono (Nat.le_succ _))
      have cw : ∀ r v, r < 6 → (gC (⟨ek, et, .slice xa xn xc, .slice ya yn yc⟩ : PE))[r]? = some v → wr.cell? ⟨g, o + i * 6 + r, none⟩ = some v := fun r v hr hv => Below.cellS HBW.out (Nat.le_refl _) ((hc6 r hr).trans hv)
      have g0 : wr.cell? ⟨g, o + i * 6, none⟩ = some (.string ek) := cw 0 _ (by omega) rfl
      have g1 := cw 1 _ (by omega) rfl
      have g2 := cw 2 _ (by omega) rfl
      have g3 := cw 3 _ (by omega) rfl
      have g4 := cw 4 _ (by omega) rfl
      have g5 := cw 5 _ (by omega) rfl
      have HXI := Lib.hid he
      clear hrv hc6 hcc he cw HBW
      cases hll : Op.bytesLess ek.toList key.toList with
      | true =>
        have HLT : Hid (lsK key (⟨ek, et, .slice xa xn xc, .slice ya yn yc⟩ : PE) = true) := hll
        have HOW := Lib.hid HI.out.1
        obtain ⟨la, lc, rfl⟩ := ownForm HI.out.1
        generalize hal : ((es.take i).filter (lsK key)).length = al at *
        have HAL := Lib.hid hal
        clear hal
        go_wp2_with (at_builtin; refine wpList_append_own _ rfl _ _ 33 rfl (w.heap.size + 1) 59 i0 _ 6 96 Try.underlying33 hi hz0 hz1 hz2 rfl (by omega) _ al (gCs ((es.take i).filter (lsK key))) rfl (by exact (HOW.out.alloc _)) ⟨_, 0, none⟩ 1 1 (gCs [(⟨ek, et, .slice xa xn xc, .slice ya yn yc⟩ : PE)]) rfl rfl (by exact World.news_of_block (heap_new _ _)) (gCs_one (by intro e he; simp at he; subst he; exact ⟨⟨_, _, _, rfl⟩, ⟨_, _, _, rfl⟩⟩)) (by unfold maxLen; omega) (by omega) (by have := HSZ.out; simp; omega) ?_; intro v' wa hoa hga _; obtain ⟨a', c', rfl⟩ := ownForm hoa)
        have HR2 : Hid (RW (w.heap.size + 1) w0 ((es.take (i + 1)).filter (lsK key)) (.slice a' (al + 1) c') wa) := by
          rw [filter_snoc _ HXI.out, if_pos HLT.out]
          exact HI.out.put (by rw [HAL.out]) (Nat.le_trans HSZ.out (Nat.le_refl _)) ((Below.refl _ _).alloc (Nat.le_refl _) _) hoa hga
        clear hoa hga HOW HI g0 g1 g2 g3 g4 g5
        go_wp2
        exact ⟨⟨i + 1, by omega, by go_num, HR2⟩, by simp [intOf]; omega⟩
      | false =>
        have HR2 : Hid (RW (w.heap.size + 1) w0 ((es.take (i + 1)).filter (lsK key)) u7 wr) := by
          rw [filter_snoc _ HXI.out, if_neg (by show ¬ Op.bytesLess ek.toList key.toList = true; rw [hll]; decide), List.append_nil]
          exact HI.out
        clear HI
        go_wp2
        exact ⟨⟨i + 1, by omega, by go_num, HR2⟩, by simp [intOf]; omega⟩
    · obtain rfl : i = n := by omega
      have hfl := filter_len (lsK key) es i
      have HOW := Lib.hid HI.out.1
      obtain ⟨la, lc, rfl⟩ := ownForm HI.out.1
      generalize hal : ((es.take i).filter (lsK key)).length = al at *
      have HAL := Lib.hid hal
      clear hal
      have hz : wr.heap[w.heap.size]? = some (.cells #[.int .i64 t.k, .int .i64 t.n, .string t.s, .slice ta tn tc, .slice sa sn sc] 56 (0, 0)) := (HI.out.2.block _ (Nat.lt_succ_self _)).trans HB0.out.2.1
      have z0 : wr.cell? ⟨w.heap.size, 0, none⟩ = some (.int .i64 t.k) := by simp [World.cell?, hz]
      have z1 : wr.cell? ⟨w.heap.size, 1, none⟩ = some (.int .i64 t.n) := by simp [World.cell?, hz]
      have z2 : wr.cell? ⟨w.heap.size, 2, none⟩ = some (.string t.s) := by simp [World.cell?, hz]
      have z3 : wr.cell? ⟨w.heap.size, 3, none⟩ = some (.slice ta tn tc) := by simp [World.cell?, hz]
      have z4 : wr.cell? ⟨w.heap.size, 4, none⟩ = some (.slice sa sn sc) := by simp [World.cell?, hz]
      clear hz
      go_wp2_with (at_builtin; refine wpList_append_own _ rfl _ _ 33 rfl (w.heap.size + 1) 59 i0 _ 6 96 Try.underlying33 hi hz0 hz1 hz2 rfl (by omega) _ al (gCs ((es.take i).filter (lsK key))) rfl (by exact (HOW.out.alloc _)) ⟨_, 0, none⟩ 1 1 (gCs [(⟨key, t, .slice ta tn tc, .slice sa sn sc⟩ : PE)]) rfl rfl (by exact World.news_of_block (heap_new _ _)) (gCs_one (by intro e he; simp at he; subst he; exact ⟨⟨_, _, _, rfl⟩, ⟨_, _, _, rfl⟩⟩)) (by unfold maxLen; omega) (by omega) (by have := HSZ.out; simp; omega) ?_; intro v' wa hoa hga _; obtain ⟨a', c', rfl⟩ := ownForm hoa)
      have HR1 : Hid (RW (w.heap.size + 1) w0 ((es.filter (lsK key)) ++ [(⟨key, t, .slice ta tn tc, .slice sa sn sc⟩ : PE)]) (.slice a' (al + 1) c') wa ∧ ((es.filter (lsK key)) ++ [(⟨key, t, .slice ta tn tc, .slice sa sn sc⟩ : PE)]).length = al + 1) := by
        have h9 := HI.out.put (e := (⟨key, t, .slice ta tn tc, .slice sa sn sc⟩ : PE)) (by rw [HAL.out]) (Nat.le_trans HSZ.out (Nat.le_refl _)) ((Below.refl _ _).alloc (Nat.le_refl _) _) hoa hga
        have h8 := HAL.out
        rw [List.take_of_length_le (by have := HNN.out; omega)] at h9 h8
        exact ⟨h9, by rw [List.length_append, h8]; rfl⟩
      clear hoa hga HOW HI z0 z1 z2 z3 z4 HSZ HAL
      have HAL2 : Hid (al ≤ i) := hfl
      clear hfl
      go_wp2_with fail
      go_loopw [7, 9] (fun lv ti wr => ∃ j : Nat, j ≤ i ∧ ti = .int .i64 j ∧ Hid (RW (w.heap.size + 1) w0 ((es.filter (lsK key)) ++ [(⟨key, t, .slice ta tn tc, .slice sa sn sc⟩ : PE)] ++ (es.take j).filter (fun e => !lsK key e)) lv wr)) (fun _ ti _ => i - (intOf ti).toNat)
      case atStart => exact ⟨0, Nat.zero_le _, rfl, by rw [List.take_zero, List.filter_nil, List.append_nil]; exact HR1.out.1⟩
      case round =>
        obtain ⟨j, hjn, rfl, HI⟩ := hrel
        have HSZ : Hid (w.heap.size + 1 ≤ wr.heap.size) := Nat.le_trans HSZ0.out (Nat.le_trans HI.out.2.size (Nat.le_refl _))
        have hfl2 : ((es.filter (lsK key)) ++ [(⟨key, t, .slice ta tn tc, .slice sa sn sc⟩ : PE)] ++ (es.take j).filter (fun e => !lsK key e)).length ≤ i + 1 + j := by
          have h1 := filter_len (fun e => !lsK key e) es j
          have h2 := HR1.out.2
          have h3 := HAL2.out
          rw [List.length_append, h2]
          omega
        by_cases hlt : j < i
        · obtain ⟨e, he⟩ : ∃ e, es[j]? = some e := ⟨_, List.getElem?_eq_getElem (by have := HNN.out; omega)⟩
          obtain ⟨g, o, rfl, hg, hcc⟩ := HX.out.resolve_left (fun e => by rw [e] at he; simp at he)
          obtain ⟨ek, et, ex, ey⟩ := e
          obtain ⟨hrv, hc6⟩ := hcc j _ he
          obtain ⟨⟨xa, xn, xc, hex⟩, ⟨ya, yn, yc, hey⟩⟩ := hrv.slices
          simp only at hex hey
          subst hex hey
          have HBW : Hid (Below w.heap.size w wr) := HB0.out.1.trans (HI.out.2.mono (Nat.le_succ _))
          have cw : ∀ r v, r < 6 → (gC (⟨ek, et, .slice xa xn xc, .slice ya yn yc⟩ : PE))[r]? = some v → wr.cell? ⟨g, o + j * 6 + r, none⟩ = some v := fun r v hr hv => Below.cellS HBW.out (Nat.le_refl _) ((hc6 r hr).trans hv)
          have g0 : wr.cell? ⟨g, o + j * 6, none⟩ = some (.string ek) := cw 0 _ (by omega) rfl
          have g1 := cw 1 _ (by omega) rfl
          have g2 := cw 2 _ (by omega) rfl
          have g3 := cw 3 _ (by omega) rfl
          have g4 := cw 4 _ (by omega) rfl
          have g5 := cw 5 _ (by omega) rfl
          have HXI := Lib.hid he
          clear hrv hc6 hcc he cw HBW
          cases hll : Op.bytesLess ek.toList key.toList with
          | false =>
            have HLT : Hid ((fun e => !lsK key e) (⟨ek, et, .slice xa xn xc, .slice ya yn yc⟩ : PE) = true) := by show (!Op.bytesLess ek.toList key.toList) = true; rw [hll]; rfl
            have HOW := Lib.hid HI.out.1
            obtain ⟨la, lc, rfl⟩ := ownForm HI.out.1
            generalize hal : ((es.filter (lsK key)) ++ [(⟨key, t, .slice ta tn tc, .slice sa sn sc⟩ : PE)] ++ (es.take j).filter (fun e => !lsK key e)).length = al at *
            have HAL := Lib.hid hal
            clear hal
            go_wp2_with (at_builtin; refine wpList_append_own _ rfl _ _ 33 rfl (w.heap.size + 1) 59 i0 _ 6 96 Try.underlying33 hi hz0 hz1 hz2 rfl (by omega) _ al (gCs ((es.filter (lsK key)) ++ [(⟨key, t, .slice ta tn tc, .slice sa sn sc⟩ : PE)] ++ (es.take j).filter (fun e => !lsK key e))) rfl (by exact (HOW.out.alloc _)) ⟨_, 0, none⟩ 1 1 (gCs [(⟨ek, et, .slice xa xn xc, .slice ya yn yc⟩ : PE)]) rfl rfl (by exact World.news_of_block (heap_new _ _)) (gCs_one (by intro e he; simp at he; subst he; exact ⟨⟨_, _, _, rfl⟩, ⟨_, _, _, rfl⟩⟩)) (by unfold maxLen; omega) (by omega) (by have := HSZ.out; simp; omega) ?_; intro v' wa hoa hga _; obtain ⟨a', c', rfl⟩ := ownForm hoa)
            have HR2 : Hid (RW (w.heap.size + 1) w0 ((es.filter (lsK key)) ++ [(⟨key, t, .slice ta tn tc, .slice sa sn sc⟩ : PE)] ++ (es.take (j + 1)).filter (fun e => !lsK key e)) (.slice a' (al + 1) c') wa) := by
              rw [filter_snoc _ HXI.out, if_pos HLT.out, ← List.append_assoc]
              exact HI.out.put (by rw [HAL.out]) (Nat.le_trans HSZ.out (Nat.le_refl _)) ((Below.refl _ _).alloc (Nat.le_refl _) _) hoa hga
            clear hoa hga HOW HI g0 g1 g2 g3 g4 g5
            go_wp2
            exact ⟨⟨j + 1, by omega, by go_num, HR2⟩, by simp [intOf]; omega⟩
          | true =>
            have HR2 : Hid (RW (w.heap.size + 1) w0 ((es.filter (lsK key)) ++ [(⟨key, t, .slice ta tn tc, .slice sa sn sc⟩ : PE)] ++ (es.take (j + 1)).filter (fun e => !lsK key e)) u7 wr) := by
              rw [filter_snoc _ HXI.out, if_neg (by show ¬ (!Op.bytesLess ek.toList key.toList) = true; rw [hll]; decide), List.append_nil]
              exact HI.out
            clear HI
            go_wp2
            exact ⟨⟨j + 1, by omega, by go_num, HR2⟩, by simp [intOf]; omega⟩
        · obtain rfl : j = i := by omega
          have HE : Hid (GR (w.heap.size + 1) w.heap.size wr u7 (wtP es (⟨key, t, .slice ta tn tc, .slice sa sn sc⟩ : PE)) ∧ Below w.heap.size w wr) := by
            have h9 := HI.out
            rw [List.take_of_length_le (by have := HNN.out; omega), List.append_assoc, List.singleton_append] at h9
            have hb : Below w.heap.size w wr := HB0.out.1.trans (h9.2.mono (Nat.le_succ _))
            have rvk : ∀ t x y, RV (fun b => b < w.heap.size) w t x y → RV (fun b => b < w.heap.size) wr t x y := fun t x y h => RV.keep (fun _ h => h) hb.size (fun b hb' _ => hb.block b hb') _ _ _ h
            refine ⟨⟨h9.1, fun e he => ?_⟩, hb⟩
            rcases List.mem_append.1 he with he | he
            · exact rvk _ _ _ (HRV.out.2 e (List.mem_filter.1 he).1)
            · rcases List.mem_cons.1 he with rfl | he
              · exact rvk _ _ _ HRV.out.1
              · exact rvk _ _ _ (HRV.out.2 e (List.mem_filter.1 he).1)
          obtain ⟨la, lc, hlv⟩ := ownForm HE.out.1.1
          subst hlv
          clear HI
          go_wp2
          go_ret
          exact ⟨_, rfl, HE.out.1, HE.out.2⟩
end Go.Proofs.Ytnjdopdlafcbgaa
