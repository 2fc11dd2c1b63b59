import Derived.Test.YtkbfphdedgeofaaRl
namespace Go.Proofs.Ytkbfphdedgeofaa
open Go.RowKit
theorem room_of {B : Nat} {w : World} {v : Value} {dl : List UInt8} {dn : Nat} (h : OW B w v (dl ++ [201, 202, 203])) (hn : dn = dl.length) : ∃ G cap cur, B ≤ G ∧ w.heap[G]? = some (.cells cur 5 (0, 0)) ∧ dn + 3 ≤ cap ∧ cur.size = cap ∧ cur.toList.take (dn + 3) = Lib.byteCells (dl ++ [201, 202, 203]) ∧ v = .slice (some ⟨G, 0, none⟩) (dn + 3) cap := by
  subst hn
  rcases h.2 with ⟨_, h0⟩ | ⟨g, cap, cur, rfl, h2, h3, h4, h5, h6, h7⟩
  · simp at h0
  · refine ⟨g, cap, cur, h2, h3, by simpa using h4, by simpa using h6, by simpa using h7, by simp⟩
theorem room_cell {cur : Array Value} {dl : List UInt8} {dn : Nat} (hn : dn = dl.length) (h : cur.toList.take (dn + 3) = Lib.byteCells (dl ++ [201, 202, 203])) : (∀ i, i < dn → cur[i]? = some (.int .u8 ((byt dl i).toNat : Int))) ∧ cur[dn]? = some (.int .u8 201) ∧ cur[dn + 2]? = some (.int .u8 203) := by
  subst hn
  have key : ∀ i, i < dl.length + 3 → cur[i]? = (Lib.byteCells (dl ++ [201, 202, 203]))[i]? := fun i hi => by
    rw [← h, List.getElem?_take_of_lt hi, Array.getElem?_toList]
  refine ⟨fun i hi => ?_, ?_, ?_⟩
  · rw [key i (by omega)]
    simp [Lib.byteCells, List.getElem?_append_left, hi, getD_byt dl i hi]
  · rw [key _ (by omega)]
    simp [Lib.byteCells]
  · rw [key _ (by omega)]
    simp [Lib.byteCells]
theorem cell_of {w : World} {g j : Nat} {cs : Array Value} {t : TypeId} {v : Value} (h : w.heap[g]? = some (.cells cs t (0, 0))) (hv : cs[j]? = some v := by rfl) : w.cell? ⟨g, j, none⟩ = some v := by simp [World.cell?, h, hv]
set_option maxHeartbeats 4000000 in
set_option maxRecDepth 100000 in
theorem readsSome (hello : Bool) (v : Value) (us : List Ro) (w : World) (hr : RO w v us) (hl : us.length ≤ 1048576) (hd : dsum us ≤ 1048576) :
    Calls Try.prog 4 #[.bool false, .bool hello, v] w fun e w' => e = .returned (.bool true) ∧ Below w.heap.size w w' := by
  obtain ⟨⟨a, c, rfl, -⟩, -⟩ := id hr
  have HR : Hid (RO w (.slice a us.length c) us ∧ dsum us ≤ 1048576) := ⟨hr, hd⟩
  clear hr hd
  generalize hln : us.length = len at *
  have HN : Hid (us.length = len) := hln
  clear hln
  go_enter Try.func4, Try.ntmps4
  go_wp2_with fail
  refine (new w hello).mono ?_
  rintro e w1 ⟨rfl, k1, b1⟩
  have H1 : Hid (RK w1 w.heap.size (if hello then 2 else 0) 0 (.slice none 0 0) 0 ∧ Below w.heap.size w w1) := ⟨k1, b1⟩
  clear k1 b1
  go_wp2_with fail
  refine (refNew w1 hello).mono ?_
  rintro e w2 ⟨rfl, k2, b2⟩
  have HST : Hid (ST w.heap.size w2 (.pointer (some ⟨w.heap.size, 0, none⟩)) (.pointer (some ⟨w1.heap.size, 0, none⟩)) 0 ∧ Below w.heap.size w w2) := by
    refine ⟨.inr ⟨_, _, rfl, rfl, Nat.le_refl _, H1.out.2.size, .inl ⟨hello, [], (if hello then 2 else 0), 0, [], _, _, ⟨(b2.block _ H1.out.1.lt).trans H1.out.1, ?_, World.ownsRow_nil _ _ _ _, fun _ => rfl, k2, World.ownsRow_nil _ _ _ _, fun _ => rfl, ?_, fun g hg => by cases hg⟩, by simp⟩⟩, H1.out.2.trans (b2.mono H1.out.2.size)⟩
    · cases hello
      · exact .inr (.inl ⟨rfl, by simp⟩)
      · exact .inl ⟨rfl, by simp, by decide⟩
    · cases hello
      · exact ⟨[], [], Rd.num [] (by simp)⟩
      · exact ⟨[], [], Rd.few [] (by decide) (by simp)⟩
  clear k2 b2 H1
  go_wp2
  generalize (Value.pointer (some ⟨w.heap.size, 0, none⟩)) = rv at *
  generalize (Value.pointer (some ⟨w1.heap.size, 0, none⟩)) = sv at *
  go_loopw [9] (fun t wr => ∃ i : Nat, i ≤ len ∧ t = .int .i64 i ∧ Hid (ST w.heap.size wr rv sv (dsum (us.take i)) ∧ Below w.heap.size w wr)) (fun t _ => len - (intOf t).toNat)
  case atStart => exact ⟨0, by omega, rfl, HST.out⟩
  case round =>
    obtain ⟨i, hi, rfl, HI⟩ := hrel
    by_cases hlt : i < len
    · have hl2 : i < us.length := by rw [HN.out]; exact hlt
      have hx : us[i]? = some us[i] := List.getElem?_eq_getElem hl2
      generalize us[i] = u at hx
      have hb1 := HI.out.2
      have hrb0 := (HR.out.1.2 u (List.mem_of_getElem? hx))
      obtain ⟨g, o, rfl, hg, hrg, hrb⟩ := (HR.out.1.keep hb1).at i u hx
      obtain ⟨da, dn, dc, hdv⟩ : ∃ a n c, u.dv = .slice a n c := by obtain ⟨a, c, e, _⟩ := hrb; exact ⟨a, _, c, e⟩
      obtain ⟨k, dv, dl⟩ := u
      simp only at hdv
      subst hdv
      have hts : dsum (us.take (i + 1)) = dsum (us.take i) + dl.length := by rw [List.take_add_one, hx]; exact dsum_snoc _ _
      have hds : dsum (us.take i) + dl.length ≤ 1048576 := by rw [← hts]; exact Nat.le_trans (dsum_take _ _) HR.out.2
      obtain ⟨ca, hdn⟩ : dn = dl.length ∧ dn = dn := by obtain ⟨a, c, e, _⟩ := hrb; simp only [Value.slice.injEq] at e; exact ⟨e.2.1, rfl⟩
      have HTS : Hid (dsum (us.take (i + 1)) = dsum (us.take i) + dl.length ∧ dsum (us.take i) + dl.length ≤ 1048576 ∧ dn = dl.length) := ⟨hts, hds, ca⟩
      have hg2 := heapNew wr (.cells #[.int .i64 0, .slice none 0 0] 51)
      have hiL : (Try.prog.info? 51).map (·.size) = some [Value.int .i64 k, Value.slice da dn dc].length := by kernel_rfl
      have hsr : ((wr.alloc (.cells #[.int .i64 0, .slice none 0 0] 51)).setRow wr.heap.size #[.int .i64 k, .slice da dn dc]).heap[wr.heap.size]? = some (.cells #[.int .i64 k, .slice da dn dc] 51 (0, 0)) := heapSetRow _ _ _ _ _ hg2
      have bX : Below wr.heap.size wr ((wr.alloc (.cells #[.int .i64 0, .slice none 0 0] 51)).setRow wr.heap.size #[.int .i64 k, .slice da dn dc]) := belowSetRow ((Below.refl _ _).alloc (Nat.le_refl _) _) (Nat.le_refl _) _
      have HX : Hid (ST w.heap.size ((wr.alloc (.cells #[.int .i64 0, .slice none 0 0] 51)).setRow wr.heap.size #[.int .i64 k, .slice da dn dc]) rv sv (dsum (us.take i)) ∧ Below w.heap.size w ((wr.alloc (.cells #[.int .i64 0, .slice none 0 0] 51)).setRow wr.heap.size #[.int .i64 k, .slice da dn dc]) ∧ RB ((wr.alloc (.cells #[.int .i64 0, .slice none 0 0] 51)).setRow wr.heap.size #[.int .i64 k, .slice da dn dc]) (.slice da dn dc) dl ∧ ((wr.alloc (.cells #[.int .i64 0, .slice none 0 0] 51)).setRow wr.heap.size #[.int .i64 k, .slice da dn dc]).heap[wr.heap.size]? = some (.cells #[.int .i64 k, .slice da dn dc] 51 (0, 0)) ∧ w.heap.size ≤ wr.heap.size ∧ ST w.heap.size wr rv sv (dsum (us.take i)) ∧ Below w.heap.size w wr ∧ RB w (.slice da dn dc) dl ∧ Below wr.heap.size wr ((wr.alloc (.cells #[.int .i64 0, .slice none 0 0] 51)).setRow wr.heap.size #[.int .i64 k, .slice da dn dc])) := ⟨HI.out.1.keep bX, hb1.trans (bX.mono hb1.size), hrb.keep bX, hsr, hb1.size, HI.out.1, hb1, hrb0, bX⟩
      have hc0 : ((wr.alloc (.cells #[.int .i64 0, .slice none 0 0] 51)).setRow wr.heap.size #[.int .i64 k, .slice da dn dc]).cell? ⟨wr.heap.size, 0, none⟩ = some (.int .i64 k) := cell_of hsr
      have hc1 : ((wr.alloc (.cells #[.int .i64 0, .slice none 0 0] 51)).setRow wr.heap.size #[.int .i64 k, .slice da dn dc]).cell? ⟨wr.heap.size, 1, none⟩ = some (.slice da dn dc) := cell_of hsr
      have hrg' : wr.rangeAt g (o + i * 2) [Value.int .i64 k, Value.slice da dn dc] := hrg
      clear HI hb1 hrg hrb hrb0 hts hds ca hdn hsr bX hx
      by_cases hk1 : k = 1
      · subst hk1
        go_wp2_with (first | (refine wpList_load_mid rfl 51 _ rfl g (o + i * 2) rfl _ _ hrg' Try.underlying51 rfl hiL ?_) | (refine wpList_store_row rfl 51 _ _ rfl wr.heap.size #[.int .i64 1, .slice da dn dc] rfl rfl 51 #[.int .i64 0, .slice none 0 0] hg2 (by kernel_rfl) rfl (by kernel_rfl) ?_))
        generalize (wr.alloc (.cells #[.int .i64 0, .slice none 0 0] 51)).setRow wr.heap.size #[.int .i64 1, .slice da dn dc] = X at *
        refine (copied HX.out.2.2.1 (by have := HTS.out.2.1; omega)).mono ?_
        rintro e w1 ⟨cv, rfl, o1, b1⟩
        obtain ⟨ca, cn, cc, hcn, rfl⟩ := o1.form4
        have bA : Below w1.heap.size w1 (w1.alloc (.cells #[.int .u8 201, .int .u8 202, .int .u8 203] 5)) := (Below.refl _ _).alloc (Nat.le_refl _) _
        have H1 : Hid (OW X.heap.size (w1.alloc (.cells #[.int .u8 201, .int .u8 202, .int .u8 203] 5)) (.slice ca cn cc) dl ∧ Below X.heap.size X (w1.alloc (.cells #[.int .u8 201, .int .u8 202, .int .u8 203] 5)) ∧ RB (w1.alloc (.cells #[.int .u8 201, .int .u8 202, .int .u8 203] 5)) (.slice (some ⟨w1.heap.size, 0, none⟩) 3 3) [201, 202, 203]) := ⟨o1.grow bA, b1.trans (bA.mono b1.size), rb_block (l := [201, 202, 203]) (heapNew w1 _) 3 rfl⟩
        have hdl2 : dl.length + ([201, 202, 203] : List UInt8).length ≤ 140737488351232 := by have := HTS.out.2.1; simp; omega
        have hcb : Hid (wr.heap.size < X.heap.size) := (Array.getElem?_eq_some_iff.1 HX.out.2.2.2.1).1
        clear o1 b1 hcn bA
        go_wp2_with (first | (at_builtin; refine append_bytes rfl _ _ rfl rfl H1.out.1 rfl H1.out.2.2 H1.out.2.1.size hdl2 ?_; intro v2 w2 o2 b2; obtain ⟨G, cap, cur, hG, hgG, hcap, hmx, hpre, rfl⟩ := room_of o2 HTS.out.2.2))
        have hGl : G < w2.heap.size := (Array.getElem?_eq_some_iff.1 hgG).1
        obtain ⟨hrc, hr0, hr2⟩ := room_cell HTS.out.2.2 hpre
        have bW : Below wr.heap.size wr w2 := HX.out.2.2.2.2.2.2.2.2.trans ((H1.out.2.1.trans b2).mono HX.out.2.2.2.2.2.2.2.2.size)
        have H2 : Hid (RN (fun g => wr.heap.size ≤ g) w2 (.slice (some ⟨G, 0, none⟩) dn cap) dl ∧ RB w2 (.slice (some ⟨G, 0, none⟩) dn cap) dl ∧ w2.heap[G]? = some (.cells cur 5 (0, 0)) ∧ wr.heap.size < G ∧ G < w2.heap.size ∧ w2.heap[wr.heap.size]? = some (.cells #[.int .i64 1, .slice da dn dc] 51 (0, 0)) ∧ cur[dn]? = some (.int .u8 201) ∧ cur[dn + 2]? = some (.int .u8 203) ∧ cur.size = cap ∧ wr.heap.size < w2.heap.size) := by
          have hrn : RN (fun g => wr.heap.size ≤ g) w2 (.slice (some ⟨G, 0, none⟩) dn cap) dl := ⟨_, cap, by rw [HTS.out.2.2], by have := HTS.out.2.2; omega, .inr ⟨G, 0, rfl, by have := hcb.out; omega, hGl, fun i hi => by rw [Nat.zero_add]; exact cell_of hgG (hrc i (by have := HTS.out.2.2; omega))⟩⟩
          exact ⟨hrn, hrn.rb, hgG, by have := hcb.out; omega, hGl, ((H1.out.2.1.trans b2).block _ hcb.out).trans HX.out.2.2.2.1, hr0, hr2, hmx, by have := hcb.out; omega⟩
        have HPB : Hid (Calls Try.prog 16 #[rv, .slice (some ⟨G, 0, none⟩) dn cap] w2 fun e w3 => ∃ mv bsv er, e = .returned (.tuple #[mv, bsv, .int .i64 er]) ∧ PQ w wr w2 w3 ∧ (∃ a k c, mv = .slice a k c) ∧ (∃ a k c, bsv = .slice a k c) ∧
      Calls Try.prog 17 #[sv, .slice da dn dc] w3 fun e' w4 => ∃ mv2 bv2 met bs Z, e' = .returned (.tuple #[mv2, bv2, .int .i64 er]) ∧ PP w wr w2 w4 rv sv (dsum (us.take i) + dl.length) mv bsv mv2 bv2 met bs Z) := pushBoth w wr w2 rv sv _ _ _ dl HTS.out.2.1 HX.out.2.2.2.2.2.1 HX.out.2.2.2.2.2.2.1 bW H2.out.1 HX.out.2.2.2.2.2.2.2.1
        clear hrc hr0 hr2 hpre hgG hG hGl hmx o2 b2 bW
        refine HPB.out.mono ?_
        rintro e w3 ⟨mv, bsv, er, rfl, pq, ⟨ma, mk, mc, rfl⟩, ⟨ba, bk, bcc, rfl⟩, hp2⟩
        have hc1' : w3.cell? ⟨wr.heap.size, 1, none⟩ = some (.slice da dn dc) := cell_of ((pq.kp _ (Nat.le_refl _) H2.out.2.2.2.2.2.2.2.2.2).trans H2.out.2.2.2.2.2.1)
        have HP2 : Hid (Calls Try.prog 17 #[sv, .slice da dn dc] w3 fun e' w4 => ∃ mv2 bv2 met bs Z, e' = .returned (.tuple #[mv2, bv2, .int .i64 er]) ∧ PP w wr w2 w4 rv sv (dsum (us.take i) + dl.length) (.slice ma mk mc) (.slice ba bk bcc) mv2 bv2 met bs Z) := hp2
        clear hp2 pq HPB hc0 hc1
        go_wp2_with fail
        refine HP2.out.mono ?_
        rintro e w4 ⟨mv2, bv2, met, bs, Z, rfl, pp⟩
        obtain ⟨B1, hom⟩ := pp.om
        have hG4 := (pp.kp G (Nat.le_of_lt H2.out.2.2.2.1) H2.out.2.2.2.2.1).trans H2.out.2.2.1
        have hX4 := (pp.kp _ (Nat.le_refl _) H2.out.2.2.2.2.2.2.2.2.2).trans H2.out.2.2.2.2.2.1
        have q1 : w4.cell? ⟨wr.heap.size, 1, none⟩ = some (.slice da dn dc) := cell_of hX4
        have q2 : w4.cell? ⟨G, dn, none⟩ = some (.int .u8 201) := cell_of hG4 H2.out.2.2.2.2.2.2.1
        have q3 : w4.cell? ⟨G, dn + 2, none⟩ = some (.int .u8 203) := cell_of hG4 H2.out.2.2.2.2.2.2.2.1
        have C1 : Hid (∀ w5, (∃ n, w5 = w4.drewN n) → Calls Try.prog 18 #[.slice ma mk mc, mv2] w5 fun e w' => e = .returned (.bool true) ∧ ∃ n, w' = w5.drewN n) := fun w5 hw5 => by
          obtain ⟨nn, rfl⟩ := hw5
          exact sameH2 _ _ met B1 _ (hom.keep (fun _ _ _ => rfl)) (by rcases pp.sm with h1 | ⟨B, h1⟩; exact .inl h1; exact .inr ⟨B, h1.keep (fun _ _ _ => rfl)⟩) pp.one
        have C2 : Hid (∀ w5, (∃ n, w5 = w4.drewN n) → Calls Try.prog 19 #[.slice ba bk bcc, bv2] w5 fun e w' => e = .returned (.bool true) ∧ ∃ n, w' = w5.drewN n) := fun w5 hw5 => by
          obtain ⟨nn, rfl⟩ := hw5
          exact sameBodies _ _ bs _ (by have := pp.lb; omega) (fun b hb => by have := pp.ln b hb; omega) (pp.rb1.keep (belowDrew _ _)) (pp.rb2.keep (belowDrew _ _))
        have C3 : Hid (∀ w5, (∃ n, w5 = w4.drewN n) → Calls Try.prog 7 #[.slice (some ⟨G, 0, none⟩) dn cap, .slice da dn dc] w5 fun e w' => e = .returned (.bool true) ∧ ∃ n, w' = w5.drewN n) := fun w5 hw5 => by
          obtain ⟨nn, rfl⟩ := hw5
          exact same _ _ dl _ (by have := HTS.out.2.1; omega) (by
          obtain ⟨a, c, e1, e2, e3⟩ := H2.out.2.1
          refine ⟨a, c, e1, e2, ?_⟩
          rcases e3 with e3 | ⟨g, o, e3, e4, e5⟩
          · exact .inl e3
          · simp only [Value.slice.injEq] at e1
            obtain ⟨e1, _⟩ := e1
            rw [e3] at e1
            simp only [Option.some.injEq, Addr.mk.injEq] at e1
            obtain ⟨rfl, rfl, _⟩ := e1
            exact .inr ⟨_, _, e3, (Array.getElem?_eq_some_iff.1 hG4).1, fun i hi => (World.cell?_of_block (w := w2) (a := ⟨G, 0 + i, none⟩) (pp.kp G (Nat.le_of_lt H2.out.2.2.2.1) H2.out.2.2.2.2.1)).trans (e5 i hi)⟩) ((HX.out.2.2.2.2.2.2.2.1.keep pp.bl).keep (belowDrew _ _))
        have HPP : Hid (PP w wr w2 w4 rv sv (dsum (us.take i) + dl.length) (.slice ma mk mc) (.slice ba bk bcc) mv2 bv2 met bs Z ∧ w4.heap[G]? = some (.cells cur 5 (0, 0))) := ⟨pp, hG4⟩
        have HQ4 : Hid (∀ w5, (∃ n, w5 = w4.drewN n) → w5.cell? ⟨wr.heap.size, 1, none⟩ = some (.slice da dn dc) ∧ w5.cell? ⟨G, dn, none⟩ = some (.int .u8 201) ∧ w5.cell? ⟨G, dn + 2, none⟩ = some (.int .u8 203)) := fun w5 hw5 => by
          obtain ⟨nn, rfl⟩ := hw5
          exact ⟨q1, q2, q3⟩
        clear pp hom hG4 hX4 HP2 hc1' q1 q2 q3
        go_wp2_with fail
        refine (C1.out w4 ⟨0, rfl⟩).mono ?_
        rintro e w5 ⟨rfl, n5, hw5⟩
        have E5 : Hid (∃ n, w5 = w4.drewN n) := ⟨n5, hw5⟩
        clear hw5
        go_wp2_with fail
        refine (C2.out w5 E5.out).mono ?_
        rintro e w6 ⟨rfl, n6, hw6⟩
        have E6 : Hid (∃ n, w6 = w4.drewN n) := by obtain ⟨m, e⟩ := E5.out; exact ⟨m + n6, by rw [hw6, e, drewN2]⟩
        clear hw6 E5
        have q1 := (HQ4.out w6 E6.out).1
        go_wp2_with fail
        refine (C3.out w6 E6.out).mono ?_
        rintro e w7 ⟨rfl, n7, hw7⟩
        have E7 : Hid (∃ n, w7 = w4.drewN n) := by obtain ⟨m, e⟩ := E6.out; exact ⟨m + n7, by rw [hw7, e, drewN2]⟩
        clear hw7 E6 q1 C1 C2 C3
        obtain ⟨-, q2, q3⟩ := HQ4.out w7 E7.out
        clear HQ4
        have hdnb : dn ≤ 1048576 := by have := HTS.out.2; omega
        go_wp2
        have hbk : Hid (bk = bs.length ∧ (bk = 0 ∨ ∃ gB, ba = some ⟨gB, 0, none⟩)) := by
          obtain ⟨us', u1, u2, u3⟩ := HPP.out.1.obx
          rcases u2.2 with ⟨e, h0⟩ | ⟨gB, cp, cur', e, _⟩
          · simp only [Value.slice.injEq] at e; rw [List.length_map] at h0; exact ⟨by omega, .inl e.2.1⟩
          · simp only [Value.slice.injEq, List.length_map] at e; exact ⟨e.2.1, .inr ⟨gB, e.1⟩⟩
        have HS0 : Hid (SP1 w7 G cap w7) := by
          refine ⟨Fr.refl _ _, cur, ?_, H2.out.2.2.2.2.2.2.2.2.1⟩
          obtain ⟨m, rfl⟩ := E7.out
          exact HPP.out.2
        have HBB : Hid (bs.length ≤ 16777216 ∧ ∀ j, j < bs.length → (bs.map List.length).getD j 0 ≤ 16777216) := by
          refine ⟨HPP.out.1.lb, fun j hj => ?_⟩
          have e : (bs.map List.length).getD j 0 = (bs[j]).length := by simp [List.getD, List.getElem?_map, List.getElem?_eq_getElem hj]
          rw [e]
          exact HPP.out.1.ln _ (List.getElem_mem hj)
        have hbkb : bk ≤ 16777216 := by have := hbk.out.1; have := HBB.out.1; omega
        generalize wr = wo at *
        clear q2 q3
        go_loopw [20] (fun t wr => ∃ k1 : Nat, k1 ≤ dn ∧ t = .int .i64 k1 ∧ Hid (SP1 w7 G cap wr)) (fun t _ => dn - (intOf t).toNat)
        case atStart => exact ⟨0, by omega, rfl, HS0⟩
        case round =>
          obtain ⟨k1, hk1, rfl, HK⟩ := hrel
          by_cases hlt1 : k1 < dn
          · obtain ⟨⟨vv, hv⟩, hf⟩ := HK.out.at (k := k1) (by omega)
            go_wp2
            refine ⟨⟨k1 + 1, by omega, by go_num, HK.out.set _ _⟩, by simp [intOf]; omega⟩
          · have H8 : Hid (SP1 w7 G cap wr) := HK
            clear HK
            generalize wr = w8 at *
            have HS2 : Hid (SP2 w8 w2.heap.size Z (.slice ba bk bcc) (bs.map List.length) w8) := by
              refine ⟨Fr.refl _ _, ?_⟩
              obtain ⟨m, e⟩ := E7.out
              have h1 : OBx w2.heap.size Z w7 (.slice ba bk bcc) (bs.map List.length) := by rw [e]; exact HPP.out.1.obx.fr (T := fun _ => True) (Fr.of_below (belowDrew _ _)) (fun _ _ => trivial) HPP.out.1.zl
              exact h1.fr H8.out.fr (fun k hk => by have := H2.out.2.2.2.2.1; omega) HPP.out.1.zl
            have HFIN : Hid (∀ w9, Fr (fun g => ¬ Z g) w8 w9 → ST w.heap.size w9 rv sv (dsum (us.take (i + 1))) ∧ Below w.heap.size w w9) := fun w9 f9 => by
              obtain ⟨m, e⟩ := E7.out
              have f47 : Fr (fun g => ¬ Z g ∧ (g < wo.heap.size ∨ w2.heap.size ≤ g)) w4 w7 := by rw [e]; exact Fr.of_below (belowDrew _ _)
              have f48 := f47.trans H8.out.fr (fun k hk hs => by rcases hs.2 with h1 | h1 <;> (have := H2.out.2.2.2.1; have := H2.out.2.2.2.2.1; omega))
              have f49 := f48.trans f9 (fun k hk hs => hs.1)
              have hws : w.heap.size ≤ wo.heap.size := HX.out.2.2.2.2.1
              refine ⟨by rw [HTS.out.1]; exact HPP.out.1.fin w9 f49, Below.of_fr HPP.out.1.bl f49 (fun k hk => ⟨fun z => ?_, .inl (by omega)⟩) (Nat.le_refl _)⟩
              have := HPP.out.1.zl k z
              have := H2.out.2.2.2.2.2.2.2.2.2
              omega
            rcases hbk.out.2 with rfl | ⟨gB, rfl⟩
            · go_wp2
              go_loopw [21] (fun t wr => t = .int .i64 0 ∧ wr = w8) (fun _ _ => 0)
              case atStart => exact ⟨rfl, rfl⟩
              case round =>
                obtain ⟨rfl, rfl⟩ := hrel
                go_wp2
                refine ⟨⟨i + 1, by omega, by go_num, HFIN.out _ (Fr.refl _ _)⟩, by simp [intOf]; omega⟩
            · have HNS : Hid (bk = (bs.map List.length).length ∧ ∀ j, j < bk → (bs.map List.length).getD j 0 ≤ 16777216) := ⟨by rw [List.length_map]; exact hbk.out.1, fun j hj => HBB.out.2 j (by rw [← hbk.out.1]; exact hj)⟩
              clear hbk HBB
              generalize bs.map List.length = ns at *
              go_wp2
              go_loopw [21] (fun t wr => ∃ k2 : Nat, k2 ≤ bk ∧ t = .int .i64 k2 ∧ Hid (SP2 w8 w2.heap.size Z (.slice (some ⟨gB, 0, none⟩) bk bcc) ns wr)) (fun t _ => bk - (intOf t).toNat)
              case atStart => exact ⟨0, by omega, rfl, HS2⟩
              case round =>
                obtain ⟨k2, hk2, rfl, HK2⟩ := hrel
                by_cases hlt2 : k2 < bk
                · have hk2n : k2 < ns.length := by rw [← HNS.out.1]; exact hlt2
                  have hmb := HNS.out.2 k2 hlt2
                  obtain ⟨mm, hmm⟩ : ∃ mm, ns.getD k2 0 = mm := ⟨_, rfl⟩
                  rw [hmm] at hmb
                  have HMM : Hid (ns.getD k2 0 = mm ∧ k2 < ns.length) := ⟨hmm, hk2n⟩
                  clear hmm hk2n
                  generalize wr = wj at *
                  go_wp2
                  go_loopw [22] (fun t wr => ∃ m : Nat, m ≤ mm ∧ t = .int .i64 m ∧ Hid (SP2 w8 w2.heap.size Z (.slice (some ⟨gB, 0, none⟩) bk bcc) ns wr)) (fun t _ => mm - (intOf t).toNat)
                  case atStart => exact ⟨0, by omega, rfl, HK2⟩
                  case round =>
                    obtain ⟨m, hm, rfl, HM⟩ := hrel
                    obtain ⟨gg, hcl, hrow, hset⟩ := HM.out.at k2 HMM.out.2
                    rw [HMM.out.1] at hcl hrow
                    by_cases hlt3 : m < mm
                    · obtain ⟨⟨vv, hv⟩, hf⟩ := hrow m hlt3
                      have HSET : Hid (∀ (z : Int), 0 ≤ z → z < 256 → SP2 w8 w2.heap.size Z (.slice (some ⟨gB, 0, none⟩) bk bcc) ns (wr.setCell ⟨gg, m, none⟩ (.int .u8 z))) := fun z => hset m z
                      clear hset hrow
                      go_wp2
                      refine ⟨⟨m + 1, by omega, by go_num, HSET.out _ (by omega) (by omega)⟩, by simp [intOf]; omega⟩
                    · have HM2 : Hid (SP2 w8 w2.heap.size Z (.slice (some ⟨gB, 0, none⟩) bk bcc) ns wr) := HM
                      clear hset hrow HM
                      go_wp2
                      refine ⟨⟨k2 + 1, by omega, by go_num, HM2⟩, by simp [intOf]; omega⟩
                · have HM2 : Hid (SP2 w8 w2.heap.size Z (.slice (some ⟨gB, 0, none⟩) bk bcc) ns wr) := HK2
                  clear HK2
                  go_wp2
                  refine ⟨⟨i + 1, by omega, by go_num, HFIN.out _ HM2.out.fr⟩, by simp [intOf]; omega⟩
      by_cases hk2 : k = 2
      · subst hk2
        obtain ⟨z, q1, q2⟩ := HX.out.1.held (by have := HTS.out.2.1; omega)
        have HQ : Hid (_ ∧ _) := ⟨q1, q2⟩
        clear q1 q2
        go_wp2_with (first | (refine wpList_load_mid rfl 51 _ rfl g (o + i * 2) rfl _ _ hrg' Try.underlying51 rfl hiL ?_) | (refine wpList_store_row rfl 51 _ _ rfl wr.heap.size #[.int .i64 2, .slice da dn dc] rfl rfl 51 #[.int .i64 0, .slice none 0 0] hg2 (by kernel_rfl) rfl (by kernel_rfl) ?_))
        generalize (wr.alloc (.cells #[.int .i64 0, .slice none 0 0] 51)).setRow wr.heap.size #[.int .i64 2, .slice da dn dc] = X at *
        refine HQ.out.1.mono ?_
        rintro e w3 ⟨rfl, rfl⟩
        go_wp2_with fail
        refine HQ.out.2.mono ?_
        rintro e w4 ⟨rfl, b4⟩
        have HE : Hid (ST w.heap.size w4 rv sv (dsum (us.take (i + 1))) ∧ Below w.heap.size w w4) := ⟨(HX.out.1.more (by have := HTS.out.1; omega)).keep b4, HX.out.2.1.trans (b4.mono HX.out.2.1.size)⟩
        clear b4 HQ HX hc0 hc1
        go_wp2
        refine ⟨⟨i + 1, by omega, by go_num, HE⟩, by simp [intOf]; omega⟩
      by_cases hk3 : k = 3
      · subst hk3
        obtain ⟨z, q1, q2⟩ := HX.out.1.fault
        have HQ : Hid (_ ∧ _) := ⟨q1, q2⟩
        clear q1 q2
        go_wp2_with (first | (refine wpList_load_mid rfl 51 _ rfl g (o + i * 2) rfl _ _ hrg' Try.underlying51 rfl hiL ?_) | (refine wpList_store_row rfl 51 _ _ rfl wr.heap.size #[.int .i64 3, .slice da dn dc] rfl rfl 51 #[.int .i64 0, .slice none 0 0] hg2 (by kernel_rfl) rfl (by kernel_rfl) ?_))
        generalize (wr.alloc (.cells #[.int .i64 0, .slice none 0 0] 51)).setRow wr.heap.size #[.int .i64 3, .slice da dn dc] = X at *
        refine HQ.out.1.mono ?_
        rintro e w3 ⟨rfl, rfl⟩
        go_wp2_with fail
        refine HQ.out.2.mono ?_
        rintro e w4 ⟨rfl, rfl⟩
        have HE : Hid (ST w.heap.size w4 rv sv (dsum (us.take (i + 1))) ∧ Below w.heap.size w w4) := ⟨HX.out.1.more (by have := HTS.out.1; omega), HX.out.2.1⟩
        clear HQ HX hc0 hc1
        go_wp2
        refine ⟨⟨i + 1, by omega, by go_num, HE⟩, by simp [intOf]; omega⟩
      · have e1 : (k == 1) = false := by simp [hk1]
        have e2 : (k == 2) = false := by simp [hk2]
        have e3 : (k == 3) = false := by simp [hk3]
        clear hk1 hk2 hk3
        go_wp2_with (first | (refine wpList_load_mid rfl 51 _ rfl g (o + i * 2) rfl _ _ hrg' Try.underlying51 rfl hiL ?_) | (refine wpList_store_row rfl 51 _ _ rfl wr.heap.size #[.int .i64 k, .slice da dn dc] rfl rfl 51 #[.int .i64 0, .slice none 0 0] hg2 (by kernel_rfl) rfl (by kernel_rfl) ?_))
        refine ⟨⟨i + 1, by omega, by go_num, ?_⟩, by simp [intOf]; omega⟩
        exact ⟨HX.out.1.more (by have := HTS.out.1; omega), HX.out.2.1⟩
    · have HE : Hid (Below w.heap.size w wr) := HI.out.2
      clear HI
      go_wp2
      go_ret
      exact ⟨rfl, HE.out⟩
end Go.Proofs.Ytkbfphdedgeofaa
