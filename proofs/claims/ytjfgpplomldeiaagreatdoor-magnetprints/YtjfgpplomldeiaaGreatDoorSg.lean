import Derived.Test.YtjfgpplomldeiaaGreatDoorSf
namespace Go.Proofs.YtjfgpplomldeiaaGreatDoor
open Go.Shelf Go.RowKit Go.Deep
theorem bs_app (a b : List UInt8) : bs a ++ bs b = bs (a ++ b) := app_str a b
theorem lit_app (st : ByteArray) (a b : List UInt8) (h : st = bs a) : st ++ bs b = bs (a ++ b) := by rw [h, bs_app]
theorem lit_app2 (st : ByteArray) (a b c : List UInt8) (h : st = bs a) : st ++ bs b ++ bs c = bs (a ++ b ++ c) := by rw [h, bs_app, bs_app]
theorem kv_small {k : Lk} {pre : List KV} {x : KV} (h : pre ++ [x] <+: prm k) (hN : (wS (prm k)).length ≤ 1099511627776) :
    x.2.size ≤ 1099511627776 ∧ (esc x.2.data.toList).length ≤ 1099511627776 ∧ (wS (pre ++ [x])).length ≤ 1099511627776 := by
  have h1 := wS_pre h
  have h2 := wS_last pre x
  have h3 := pcT_ge x
  have h4 : (esc x.2.data.toList).length ≤ (pcT x).length := by unfold pcT; simp only [List.length_append, List.length_cons, List.length_nil]; omega
  omega
theorem kv_small1 {k : Lk} {pre : List KV} {x : KV} (h : pre ++ [x] <+: prm k) (hN : (wS (prm k)).length ≤ 1099511627776) :
    x.1.size ≤ 1099511627776 ∧ (esc x.1.data.toList).length ≤ 1099511627776 := by
  have h1 := wS_pre h
  have h2 := wS_last pre x
  have h3 := pcT_ge x
  have h4 : (esc x.1.data.toList).length ≤ (pcT x).length := by unfold pcT; simp only [List.length_append, List.length_cons, List.length_nil]; omega
  omega
theorem reads_of_rb {w : World} {v : Value} {l : List UInt8} (h : RB w v l) : Hx2.Reads w v (l.map fun x => (x.toNat : Int)) := by
  obtain ⟨a, c, rfl, _, h⟩ := h
  refine ⟨a, c, by rw [List.length_map], ?_⟩
  rcases h with rfl | ⟨g, o, h1, h2, h3⟩
  · exact .inl rfl
  · refine .inr ⟨g, o, h1, h2, fun i hi => ?_⟩
    rw [List.length_map] at hi
    rw [h3 i hi, getD_byt l i hi]
    simp [List.getD, List.getElem?_eq_getElem hi]
theorem rhex (l : List UInt8) (hl : l.length = 32) (v : Value) (w : World) (h : RB w v l) :
    Calls Tryz.prog 30 #[v] w fun e w' => e = .returned (.string (bs ((hxL l).map fun z => UInt8.ofNat z.toNat))) ∧ Below w.heap.size w w' :=
  (Hx2.hex19 (reads_of_rb h) (by simp; omega) (fun x hx => by
    obtain ⟨y, _, rfl⟩ := List.mem_map.1 hx
    have := y.toNat_lt
    omega)).mono fun e w' ⟨h1, h2⟩ => ⟨by
      rw [h1]
      have e1 : Hx2.strI (Hx2.hexI (l.map fun x => (x.toNat : Int))) = bs ((hxL l).map fun z => UInt8.ofNat z.toNat) := by
        apply ByteArray.ext
        apply Array.toList_inj.1
        rw [strI_list, bs_tl]
        rfl
      rw [e1], h2⟩
theorem rsI_len (rs : List (Int × Int)) (i : Nat) (h : i ≤ 4096) (hok : ∀ x ∈ rs, RnOk x ∧ x.1 + x.2 ≤ 4096) : (rsI rs i).length ≤ 200000 := by
  unfold rsI
  split
  · simp
  · have h1 := rsT_len (rs.take i) fun x hx => hok x (List.mem_of_mem_take hx)
    have h2 : (rs.take i).length ≤ i := by rw [List.length_take]; omega
    simp only [List.length_append, List.length_cons, List.length_nil]
    omega
set_option maxHeartbeats 8000000 in
set_option maxRecDepth 100000 in
theorem rtext (k : Lk) (tr pe on mo : Value) (w : World) (hk : k.ok) (hs : k.small) (hf : k.few) (hrn : k.rs.length ≤ 4096) (hok : ∀ x ∈ k.rs, RnOk x ∧ x.1 + x.2 ≤ 4096) (hT : IT w) (hr : RL4 (fun _ => True) w k tr pe on mo) :
    Calls Tryz.prog 20 #[.agg (lkC k.l k.nm tr pe on mo)] w fun e w' => e = .returned (.string (bs (wS (prm k)))) ∧ Below w.heap.size w w' := by
  obtain ⟨ta, tc, rfl⟩ : ∃ a c, tr = .slice a k.ts.length c := by obtain ⟨p, q, e, _⟩ := hr.1; exact ⟨p, q, e⟩
  obtain ⟨pa, pc, rfl⟩ : ∃ a c, pe = .slice a k.ps.length c := by obtain ⟨p, q, e, _⟩ := hr.2.1; exact ⟨p, q, e⟩
  obtain ⟨oa, oc, rfl⟩ : ∃ a c, on = .slice a k.rs.length c := by obtain ⟨p, q, e, _⟩ := hr.2.2.1; exact ⟨p, q, e⟩
  obtain ⟨ma, mc, rfl⟩ : ∃ a c, mo = .slice a k.dn c := by obtain ⟨p, q, e, _⟩ := hr.2.2.2; exact ⟨p, q, e⟩
  have hl := hk.l
  have B0 : Hid (Below w.heap.size w (w.alloc (Obj.cells (lkC k.l k.nm (.slice ta k.ts.length tc) (.slice pa k.ps.length pc) (.slice oa k.rs.length oc) (.slice ma k.dn mc)) 28))) := (Below.refl _ _).alloc (Nat.le_refl _) _
  have LA : Hid (LB (w.alloc (Obj.cells (lkC k.l k.nm (.slice ta k.ts.length tc) (.slice pa k.ps.length pc) (.slice oa k.rs.length oc) (.slice ma k.dn mc)) 28)) w.heap.size k.l k.nm (.slice ta k.ts.length tc) (.slice pa k.ps.length pc) (.slice oa k.rs.length oc) (.slice ma k.dn mc)) := heap_new _ _
  have HA : Hid (k.ok ∧ k.small ∧ (∀ x ∈ k.rs, RnOk x ∧ x.1 + x.2 ≤ 4096) ∧ IT w ∧ RL4 (fun _ => True) w k (.slice ta k.ts.length tc) (.slice pa k.ps.length pc) (.slice oa k.rs.length oc) (.slice ma k.dn mc)) := ⟨hk, hs, hok, hT, hr⟩
  have HN : Hid ((wS (prm k)).length ≤ 1099511627776) := wS_bound k hl hs hf hrn hok
  have HBt : Hid (∀ x : Nat, 3 * x ≤ 1099511627776 * 3 → 3 * x ≤ 140737488351232) := (fun x h => by omega : ∀ x : Nat, 3 * x ≤ 1099511627776 * 3 → 3 * x ≤ 140737488351232)
  have hst := hs.ts
  have hsp := hs.ps
  have hsd := hs.dn.1
  clear hk hs hf hok hT hr HBt
  generalize htn : k.ts.length = tn at *
  have HTN : Hid (k.ts.length = tn) := htn
  clear htn
  generalize hpn : k.ps.length = pn at *
  have HPN : Hid (k.ps.length = pn) := hpn
  clear hpn
  generalize hrl : k.rs.length = rn at *
  have HRL : Hid (k.rs.length = rn) := hrl
  clear hrl
  go_enter Tryz.func20, Tryz.ntmps20
  go_upto_region 1 with fail
  generalize (w.alloc (Obj.cells (lkC k.l k.nm (.slice ta tn tc) (.slice pa pn pc) (.slice oa rn oc) (.slice ma k.dn mc)) 28)) = w0 at *
  generalize hvb : w.heap.size = H at *
  have HS : Hid (w.heap.size = H) := hvb
  clear hvb
  go_wp2
  go_loopw [3, 4] (fun v t wr => ∃ (i : Nat) (a : Option Addr) (c : Nat), i ≤ 32 ∧ t = .int .i64 i ∧ v = .slice a i c ∧ Hid (OW (H + 1) wr v (k.l.take i) ∧ Below H w wr ∧ LB wr H k.l k.nm (.slice ta tn tc) (.slice pa pn pc) (.slice oa rn oc) (.slice ma k.dn mc))) (fun _ t _ => 32 - (intOf t).toNat)
  case atStart => exact ⟨0, none, 0, Nat.zero_le _, rfl, rfl, World.ownsRow_nil _ _ _ _, B0.out, LA.out⟩
  case round =>
    clear B0 LA
    obtain ⟨i, a, c, hi, rfl, rfl, HI⟩ := hrel
    by_cases hlt : i < 32
    · have hil : i < k.l.length := by omega
      have gx := HI.out.2.2.range i (.int .u8 (k.l[i].toNat : Int)) (by simp [Lib.byteCells, List.getElem?_eq_getElem hil])
      rw [Nat.zero_add] at gx
      have HX : Hid (k.l.take (i + 1) = k.l.take i ++ [k.l[i]]) := by
        have : k.l.take (i + 1) = k.l.take i ++ [k.l[i]] := by rw [List.take_add_one, List.getElem?_eq_getElem hil]; rfl
        exact this
      have HIL : Hid ((k.l.take i).length = i) := (show (k.l.take i).length = i by rw [List.length_take]; omega)
      generalize k.l[i] = x at *
      have hsz : H + 1 ≤ wr.heap.size := HI.out.2.2.lt
      go_wp2_with (at_builtin; refine append_byte rfl (.tmp 15) (.tmp 20) rfl rfl (HI.out.1.alloc _) _ x rfl (by simp) (by simp; omega) (by rw [HIL.out]; omega) ?_; intro v' w2 hown' hb1)
      have HJ : Hid (OW (H + 1) w2 v' (k.l.take (i + 1)) ∧ Below H w w2 ∧ LB w2 H k.l k.nm (.slice ta tn tc) (.slice pa pn pc) (.slice oa rn oc) (.slice ma k.dn mc)) := by
        rw [HX.out]
        have hb2 : Below (H + 1) wr w2 := ((Below.refl _ _).alloc hsz _).trans hb1
        exact ⟨hown', HI.out.2.1.trans (hb2.mono (Nat.le_succ _)), HI.out.2.2.keep (hb2.block H (by omega))⟩
      obtain ⟨a', c', rfl⟩ : ∃ a' c', v' = .slice a' (i + 1) c' := by
        obtain ⟨a', c', e⟩ := HJ.out.1.form
        rw [List.length_take, Nat.min_eq_left (by omega)] at e
        exact ⟨a', c', e⟩
      clear hown' hb1 HI HX HIL gx
      go_wp2
      go_roundw
      case rel => exact ⟨i + 1, a', c', by omega, by go_num, rfl, HJ⟩
      case measure => simp [intOf]; omega
    · have hB : RB wr (.slice a i c) k.l := by
        have h9 := HI.out.1.rb
        rw [List.take_of_length_le (by omega)] at h9
        exact h9
      have HR := Lib.hid (rhex k.l hl _ wr hB)
      have HQ0 := Lib.hid HI.out.2
      have HW1 : Hid (bs bgn ++ bs (hxT k) = bs (wS (p1 k))) := by
        have h9 : bs bgn ++ bs (hxT k) = bs (wS (p1 k)) := by rw [bs_app, wS_p1]
        exact h9
      have hzx : (bs (hxT k)).size = 64 := by
        rw [bs_size]
        unfold hxT hxL
        rw [List.length_map, Hx2.hexI_len, List.length_map, hl]
      clear HI hB
      go_wp2_with fail
      refine HR.out.mono ?_
      rintro e w2 ⟨rfl, b2⟩
      have HI1 : Hid (Below H w w2 ∧ LB w2 H k.l k.nm (.slice ta tn tc) (.slice pa pn pc) (.slice oa rn oc) (.slice ma k.dn mc)) := ⟨HQ0.out.1.trans (b2.mono (by have := HQ0.out.1.size; have := HS.out; omega)), HQ0.out.2.keep (b2.block H HQ0.out.2.lt)⟩
      have hzx2 : (bs ((hxL k.l).map fun z => UInt8.ofNat z.toNat)).size = 64 := hzx
      have HW2 : Hid (bs bgn ++ bs ((hxL k.l).map fun z => UInt8.ofNat z.toNat) = bs (wS (p1 k))) := HW1.out
      clear HR b2 HQ0 HW1 hzx
      generalize bs ((hxL k.l).map fun z => UInt8.ofNat z.toNat) = hx at *
      obtain ⟨c32, c33, c34, c35, c36⟩ := HI1.out.2.cells hl
      clear c33 c34 c35 c36
      have HQ2 : Hid ((k.nm.toList == []) = true ∧ p2 k = [] ∨ (k.nm.toList == []) = false ∧ p2 k = [(bs [100, 110], k.nm)]) := by
        have h9 : (k.nm.toList == []) = true ∧ p2 k = [] ∨ (k.nm.toList == []) = false ∧ p2 k = [(bs [100, 110], k.nm)] := by
          unfold p2
          cases (k.nm.toList == []) with
          | true => exact .inl ⟨rfl, rfl⟩
          | false => exact .inr ⟨rfl, rfl⟩
        exact h9
      rcases HQ2.out.symm with ⟨hq, hp2⟩ | ⟨hq, hp2⟩
      focus (
        obtain ⟨z1, z2, z3⟩ := kv_small (k := k) (pre := p1 k) (x := (bs [100, 110], k.nm)) (by rw [← hp2]; exact pre2 k) HN.out
        have HSN : Hid (wS (p1 k ++ p2 k) = wS (p1 k) ++ [38, 100, 110, 61] ++ esc k.nm.data.toList ∧ (wS (p1 k ++ p2 k)).length ≤ 1099511627776) := ⟨by rw [hp2]; exact wS_dn k k.nm, by rw [hp2]; exact z3⟩
        have HR := Lib.hid (rescape k.nm w2 (by simp only at z1; omega))
        have hes : (esc k.nm.data.toList).length ≤ 1099511627776 := z2
        clear hp2 HQ2 z1 z2 z3
        go_wp2_with fail
        refine HR.out.mono ?_
        rintro e w3 ⟨rfl, b3⟩
        have HI2a := Lib.hid (And.intro (lit_app2 (bs bgn ++ hx) _ [38, 100, 110, 61] (esc k.nm.data.toList) HW2.out) (And.intro (HI1.out.1.trans (b3.mono (by have := HI1.out.1.size; have := HS.out; omega))) (HI1.out.2.keep (b3.block H HI1.out.2.lt))))
        have hez : (({ data := (esc k.nm.data.toList).toArray } : ByteArray)).size ≤ 1099511627776 := by rw [show (({ data := (esc k.nm.data.toList).toArray } : ByteArray)).size = (esc k.nm.data.toList).length from bs_size _]; exact hes
        clear HR b3 HI1 c32 hes HW2 hq
        generalize hex : (({ data := (esc k.nm.data.toList).toArray } : ByteArray)) = ex at *
        have HI2 : Hid (bs bgn ++ hx ++ bs [38, 100, 110, 61] ++ ex = bs (wS (p1 k ++ p2 k)) ∧ (wS (p1 k ++ p2 k)).length ≤ 1099511627776 ∧ Below H w w3 ∧ LB w3 H k.l k.nm (.slice ta tn tc) (.slice pa pn pc) (.slice oa rn oc) (.slice ma k.dn mc)) := ⟨by
          have h9 := HI2a.out.1
          rw [show bs (esc k.nm.data.toList) = ex from hex] at h9
          rw [HSN.out.1]
          exact h9, HSN.out.2, HI2a.out.2⟩
        clear HI2a HSN hex
        go_wp2)
      rotate_left
      focus (
        have HI2 : Hid (bs bgn ++ hx = bs (wS (p1 k ++ p2 k)) ∧ (wS (p1 k ++ p2 k)).length ≤ 1099511627776 ∧ Below H w w2 ∧ LB w2 H k.l k.nm (.slice ta tn tc) (.slice pa pn pc) (.slice oa rn oc) (.slice ma k.dn mc)) := ⟨by rw [hp2, List.append_nil]; exact HW2.out, Nat.le_trans (wS_pre (pre2 k)) HN.out, HI1.out⟩
        clear hp2 HQ2 HI1 HW2
        go_wp2
        clear c32)
      all_goals (
        go_loopw [5, 6] (fun s t wr => ∃ (i : Nat) (st : ByteArray), i ≤ rn ∧ t = .int .i64 i ∧ s = .string st ∧ st.size ≤ 1099511827776 ∧ Hid (st = bs (wS (p1 k ++ p2 k) ++ rsI k.rs i) ∧ Below H w wr ∧ LB wr H k.l k.nm (.slice ta tn tc) (.slice pa pn pc) (.slice oa rn oc) (.slice ma k.dn mc))) (fun _ t _ => rn - (intOf t).toNat)
        case atStart => exact ⟨0, _, Nat.zero_le _, rfl, rfl, by have h9 := HI2.out.1; have h8 := HI2.out.2.1; exact Nat.le_trans (Nat.le_of_eq (congrArg ByteArray.size h9)) (by rw [bs_size]; omega), (⟨by rw [show rsI k.rs 0 = [] from rfl, List.append_nil]; exact HI2.out.1, HI2.out.2.2⟩ : _ = bs (wS (p1 k ++ p2 k) ++ rsI k.rs 0) ∧ Below H w _ ∧ LB _ H k.l k.nm (.slice ta tn tc) (.slice pa pn pc) (.slice oa rn oc) (.slice ma k.dn mc))⟩
        case round =>
          obtain ⟨i, st, hi, rfl, rfl, hstz, HI⟩ := hrel
          have c35 := (HI.out.2.2.cells hl).2.2.2.1
          by_cases hlt : i < rn
          · obtain ⟨x, hx⟩ : ∃ x, k.rs[i]? = some x := ⟨_, List.getElem?_eq_getElem (by rw [HRL.out]; exact hlt)⟩
            obtain ⟨a9, c9, e9, hc⟩ := HA.out.2.2.2.2.2.2.1
            rw [HRL.out] at e9 hc
            simp only [Value.slice.injEq, true_and] at e9
            obtain ⟨rfl, rfl⟩ := e9
            obtain ⟨gb, o, rfl, _, _, hc⟩ := hc.resolve_left (fun e => by omega)
            have g0 := Below.cellS HI.out.2.1 (Nat.le_of_eq HS.out) (hc i x hx).1
            have g1 := Below.cellS HI.out.2.1 (Nat.le_of_eq HS.out) (hc i x hx).2
            have HXO := Lib.hid (HA.out.2.2.1 x (List.mem_of_getElem? hx))
            have HSN := Lib.hid (rsI_snoc k.rs i x hx)
            have HSZ : Hid ((wS (p1 k ++ p2 k) ++ rsI k.rs (i + 1)).length ≤ 1099511827776) := by
              have h9 : (wS (p1 k ++ p2 k) ++ rsI k.rs (i + 1)).length ≤ 1099511827776 := by
                rw [List.length_append]
                have := HI2.out.2.1
                have := rsI_len k.rs (i + 1) (by omega) HA.out.2.2.1
                omega
              exact h9
            obtain ⟨xa, xb⟩ := x
            simp only at g0 g1
            obtain ⟨⟨⟨r1, r2⟩, r3, r4⟩, r5⟩ := HXO.out
            simp only at r1 r2 r3 r4 r5
            clear hx hc HXO
            obtain ⟨n, rfl⟩ : ∃ n : Nat, xa = (n : Int) := ⟨xa.toNat, by omega⟩
            have hba : Below H w (wr.alloc (Obj.cells #[.int .i64 (n : Int), .int .i64 xb] 53)) := HI.out.2.1.alloc (by have := HI.out.2.1.size; have := HS.out; omega) _
            have HIT := Lib.hid (itoa n (by omega) (wr.alloc (Obj.cells #[.int .i64 (n : Int), .int .i64 xb] 53)) (HA.out.2.2.2.1.below (by rw [HS.out]; exact hba)))
            have d0 : (wr.alloc (Obj.cells #[.int .i64 (n : Int), .int .i64 xb] 53)).cell? ⟨wr.heap.size, 0, none⟩ = some (.int .i64 (n : Int)) := by go_simp
            have d1 : (wr.alloc (Obj.cells #[.int .i64 (n : Int), .int .i64 xb] 53)).cell? ⟨wr.heap.size, 1, none⟩ = some (.int .i64 xb) := by go_simp
            have HBA := Lib.hid (And.intro hba (HI.out.2.2.keep (Below.heap_alloc (w := wr) (o := (Obj.cells #[.int .i64 (n : Int), .int .i64 xb] 53)) _ HI.out.2.2.lt)))
            have HST := Lib.hid HI.out.1
            clear hba HI
            rcases Nat.eq_zero_or_pos i with hi0 | hi0
            focus (
              have HS2a := Lib.hid (lit_app st _ [38, 115, 111, 61] HST.out)
              have HSN2 : Hid (rsI k.rs (i + 1) = rsI k.rs i ++ [38, 115, 111, 61] ++ rnT ((n : Int), xb)) := by
                have h9 := HSN.out
                rw [if_pos hi0] at h9
                exact h9
              have hz2 : (st ++ ({ data := #[38, 115, 111, 61] } : ByteArray)).size ≤ 1099511827780 := by rw [ByteArray.size_append]; show st.size + 4 ≤ _; omega
              have hi1 : ((i : Int) == 0) = true := by rw [hi0]; rfl
              clear HSN hi0
              go_wp2_with fail
              generalize hst2 : st ++ ({ data := #[38, 115, 111, 61] } : ByteArray) = st2 at *
              have HS3 : Hid (∃ sep, st2 = bs (wS (p1 k ++ p2 k) ++ rsI k.rs i ++ sep) ∧ rsI k.rs (i + 1) = rsI k.rs i ++ sep ++ rnT ((n : Int), xb)) := ⟨[38, 115, 111, 61], by rw [← hst2]; exact HS2a.out, HSN2.out⟩
              clear HS2a HSN2 hst2 hi1)
            rotate_left
            focus (
              have HS2a := Lib.hid (lit_app st _ [44] HST.out)
              have HSN2 : Hid (rsI k.rs (i + 1) = rsI k.rs i ++ [44] ++ rnT ((n : Int), xb)) := by
                have h9 := HSN.out
                rw [if_neg (by omega)] at h9
                exact h9
              have hz2 : (st ++ ({ data := #[44] } : ByteArray)).size ≤ 1099511827780 := by rw [ByteArray.size_append]; show st.size + 1 ≤ _; omega
              have hi1 : ((i : Int) == 0) = false := by rw [beq_eq_false_iff_ne]; omega
              clear HSN hi0
              go_wp2_with fail
              generalize hst2 : st ++ ({ data := #[44] } : ByteArray) = st2 at *
              have HS3 : Hid (∃ sep, st2 = bs (wS (p1 k ++ p2 k) ++ rsI k.rs i ++ sep) ∧ rsI k.rs (i + 1) = rsI k.rs i ++ sep ++ rnT ((n : Int), xb)) := ⟨[44], by rw [← hst2]; exact HS2a.out, HSN2.out⟩
              clear HS2a HSN2 hst2 hi1)
            all_goals (
              refine HIT.out.mono ?_
              rintro e w3 ⟨rfl, b3⟩
              replace d0 := Below.cellS b3 (Nat.le_refl _) d0
              replace d1 := Below.cellS b3 (Nat.le_refl _) d1
              have HB3 := Lib.hid (And.intro (HBA.out.1.trans (b3.mono (Nat.le_trans (Nat.le_of_eq HS.out.symm) HBA.out.1.size))) (HBA.out.2.keep (b3.block H HBA.out.2.lt)))
              have hl1 := Lib.itoa_length_le (n : Int) (by omega) (by omega)
              have hz3 : (({ data := (Lib.itoa (n : Int)).toArray } : ByteArray)).size ≤ 21 := by rw [show (({ data := (Lib.itoa (n : Int)).toArray } : ByteArray)).size = (Lib.itoa (n : Int)).length from bs_size _]; exact hl1
              clear HIT b3 HBA g0 g1 hl1 c35 HST
              by_cases hb1 : xb = 1
              · subst hb1
                have HE : Hid (st2 ++ ({ data := (Lib.itoa (n : Int)).toArray } : ByteArray) = bs (wS (p1 k ++ p2 k) ++ rsI k.rs (i + 1))) := by
                  obtain ⟨sep, h1, h2⟩ := HS3.out
                  have h9 := lit_app st2 _ (Lib.itoa (n : Int)) h1
                  rw [h2, show rnT ((n : Int), 1) = Lib.itoa (n : Int) by simp [rnT]]
                  simp only [← List.append_assoc]
                  exact h9
                clear HS3
                generalize (({ data := (Lib.itoa (n : Int)).toArray } : ByteArray)) = it at *
                go_wp2
                exact ⟨⟨i + 1, _, by omega, by go_num, rfl, by rw [HE.out, bs_size]; exact HSZ.out, ⟨HE.out, HB3.out⟩⟩, by simp [intOf]; omega⟩
              · obtain ⟨m, hm⟩ : ∃ m : Nat, (n : Int) + xb - 1 = (m : Int) := ⟨((n : Int) + xb - 1).toNat, by omega⟩
                have HI2m := Lib.hid (itoa m (by omega) w3 (HA.out.2.2.2.1.below (by rw [HS.out]; exact HB3.out.1)))
                have hl2 := Lib.itoa_length_le (m : Int) (by omega) (by omega)
                have hz4 : (({ data := (Lib.itoa (m : Int)).toArray } : ByteArray)).size ≤ 21 := by rw [show (({ data := (Lib.itoa (m : Int)).toArray } : ByteArray)).size = (Lib.itoa (m : Int)).length from bs_size _]; exact hl2
                have hw1 : IntKind.i64.wrap ((n : Int) + xb) = (n : Int) + xb := by simp [IntKind.wrap, IntKind.bits, IntKind.signed]; omega
                have hw2 : IntKind.i64.wrap (m : Int) = (m : Int) := by simp [IntKind.wrap, IntKind.bits, IntKind.signed]; omega
                have hb2 : 1 < xb := by omega
                have HE : Hid (st2 ++ ({ data := (Lib.itoa (n : Int)).toArray } : ByteArray) ++ ({ data := #[45] } : ByteArray) ++ ({ data := (Lib.itoa (m : Int)).toArray } : ByteArray) = bs (wS (p1 k ++ p2 k) ++ rsI k.rs (i + 1))) := by
                  obtain ⟨sep, h1, h2⟩ := HS3.out
                  have h9 := lit_app2 _ _ [45] (Lib.itoa (m : Int)) (lit_app st2 _ (Lib.itoa (n : Int)) h1)
                  rw [h2, show rnT ((n : Int), xb) = Lib.itoa (n : Int) ++ [45] ++ Lib.itoa (m : Int) by simp [rnT, hb1, hm]]
                  simp only [← List.append_assoc]
                  exact h9
                clear HS3 hl2
                generalize (({ data := (Lib.itoa (n : Int)).toArray } : ByteArray)) = it at *
                have hsz : (st2 ++ it).size ≤ 1099511827820 := by rw [ByteArray.size_append]; omega
                have hsz2 : (st2 ++ it ++ ({ data := #[45] } : ByteArray)).size ≤ 1099511827830 := by rw [ByteArray.size_append]; have : (({ data := #[45] } : ByteArray)).size = 1 := rfl; omega
                go_wp2_with fail
                refine HI2m.out.mono ?_
                rintro e w4 ⟨rfl, b4⟩
                have HB4 := Lib.hid (And.intro (HB3.out.1.trans (b4.mono (Nat.le_trans (Nat.le_of_eq HS.out.symm) HB3.out.1.size))) (HB3.out.2.keep (b4.block H HB3.out.2.lt)))
                clear HI2m b4 HB3 d0 d1
                generalize (({ data := (Lib.itoa (m : Int)).toArray } : ByteArray)) = it2 at *
                go_wp2
                exact ⟨⟨i + 1, _, by omega, by go_num, rfl, by rw [HE.out, bs_size]; exact HSZ.out, ⟨HE.out, HB4.out⟩⟩, by simp [intOf]; omega⟩)
          · obtain rfl : rn = i := by omega
            have HI3 : Hid (st = bs (wS (p1 k ++ p2 k ++ p3 k)) ∧ (wS (p1 k ++ p2 k ++ p3 k)).length ≤ 1099511627776 ∧ Below H w wr ∧ LB wr H k.l k.nm (.slice ta tn tc) (.slice pa pn pc) (.slice oa rn oc) (.slice ma k.dn mc)) := by
              have h9 := HI.out.1
              have h8 := wS_p3 k (fun x hx => (HA.out.2.2.1 x hx).1)
              rw [HRL.out] at h8
              rw [← h8] at h9
              exact ⟨h9, Nat.le_trans (wS_pre (pre3 k)) HN.out, HI.out.2⟩
            clear HI HI2
            go_wp2
            clear c35
            go_loopw [5, 8] (fun s t wr => ∃ (i : Nat) (st : ByteArray), i ≤ tn ∧ t = .int .i64 i ∧ s = .string st ∧ st.size ≤ 1099511627776 ∧ Hid (st = bs (wS (p1 k ++ p2 k ++ p3 k ++ p4 (k.ts.take i))) ∧ Below H w wr ∧ LB wr H k.l k.nm (.slice ta tn tc) (.slice pa pn pc) (.slice oa rn oc) (.slice ma k.dn mc))) (fun _ t _ => tn - (intOf t).toNat)
            case atStart => exact ⟨0, _, Nat.zero_le _, rfl, rfl, by have h9 := HI3.out.1; rw [h9, bs_size]; exact (HI3.out.2.1), (⟨by simpa [p4] using HI3.out.1, HI3.out.2.2⟩ : _ = bs (wS (p1 k ++ p2 k ++ p3 k ++ p4 (k.ts.take 0))) ∧ Below H w _ ∧ LB _ H k.l k.nm (.slice ta tn tc) (.slice pa pn pc) (.slice oa rn oc) (.slice ma k.dn mc))⟩
            case round =>
              clear HI3
              obtain ⟨i, st, hi, rfl, rfl, hstz, HI⟩ := hrel
              have c33 := (HI.out.2.2.cells hl).2.1
              by_cases hlt : i < tn
              · obtain ⟨x, hx⟩ : ∃ x, k.ts[i]? = some x := ⟨_, List.getElem?_eq_getElem (by rw [HTN.out]; exact hlt)⟩
                obtain ⟨a9, c9, e9, hc⟩ := HA.out.2.2.2.2.1
                rw [HTN.out] at e9 hc
                simp only [Value.slice.injEq, true_and] at e9
                obtain ⟨rfl, rfl⟩ := e9
                obtain ⟨gb, o, rfl, _, _, hc⟩ := hc.resolve_left (fun e => by omega)
                have c0 := Below.cellS HI.out.2.1 (Nat.le_of_eq HS.out) (hc i x hx)
                have hsn : p1 k ++ p2 k ++ p3 k ++ p4 (k.ts.take (i + 1)) = p1 k ++ p2 k ++ p3 k ++ p4 (k.ts.take i) ++ [(bs [116, 114], x)] := by
                  rw [p4_snoc _ i x hx, ← List.append_assoc]
                obtain ⟨z1, z2, z3⟩ := kv_small (k := k) (pre := p1 k ++ p2 k ++ p3 k ++ p4 (k.ts.take i)) (x := (bs [116, 114], x)) (by rw [← hsn]; exact pre4 k (i + 1)) HN.out
                have HSN : Hid (wS (p1 k ++ p2 k ++ p3 k ++ p4 (k.ts.take (i + 1))) = wS (p1 k ++ p2 k ++ p3 k ++ p4 (k.ts.take i)) ++ [38, 116, 114, 61] ++ esc x.data.toList ∧ (wS (p1 k ++ p2 k ++ p3 k ++ p4 (k.ts.take (i + 1)))).length ≤ 1099511627776) := by
                  have h8 : wS (p1 k ++ p2 k ++ p3 k ++ p4 (k.ts.take (i + 1))) = wS (p1 k ++ p2 k ++ p3 k ++ p4 (k.ts.take i)) ++ [38, 116, 114, 61] ++ esc x.data.toList := by
                    rw [hsn]
                    have h9 := wS_tr k ((p2 k ++ p3 k) ++ p4 (k.ts.take i)) x
                    simp only [← List.append_assoc] at h9
                    exact h9
                  exact ⟨h8, by rw [hsn]; exact z3⟩
                have HR := Lib.hid (rescape x wr (by have h9 : x.size ≤ 1099511627776 := z1; omega))
                have hes : (esc x.data.toList).length ≤ 1099511627776 := z2
                clear hx hc hsn z1 z2 z3
                go_wp2_with fail
                refine HR.out.mono ?_
                rintro e w2 ⟨rfl, b2⟩
                have HQ := Lib.hid (And.intro (lit_app2 st _ [38, 116, 114, 61] (esc x.data.toList) HI.out.1) (And.intro (HI.out.2.1.trans (b2.mono (by have := HI.out.2.1.size; have := HS.out; omega))) (HI.out.2.2.keep (b2.block H HI.out.2.2.lt))))
                have hez : (({ data := (esc x.data.toList).toArray } : ByteArray)).size ≤ 1099511627776 := by rw [show (({ data := (esc x.data.toList).toArray } : ByteArray)).size = (esc x.data.toList).length from bs_size _]; exact hes
                clear HR b2 HI c0 c33 hes
                generalize hex : (({ data := (esc x.data.toList).toArray } : ByteArray)) = ex at *
                have HEX : Hid (bs (esc x.data.toList) = ex) := hex
                clear hex
                go_wp2
                refine ⟨⟨i + 1, _, by omega, by go_num, rfl, ?_, ?_⟩, by simp [intOf]; omega⟩
                · have h9 := HQ.out.1
                  rw [HEX.out] at h9
                  rw [show st ++ ({ data := #[38, 116, 114, 61] } : ByteArray) ++ ex = bs (wS (p1 k ++ p2 k ++ p3 k ++ p4 (k.ts.take (i + 1)))) by rw [HSN.out.1]; exact h9, bs_size]
                  exact HSN.out.2
                · have h9 := HQ.out.1
                  rw [HEX.out] at h9
                  exact ⟨by rw [HSN.out.1]; exact h9, HQ.out.2⟩
              · obtain rfl : tn = i := by omega
                have HI4 : Hid (st = bs (wS (p1 k ++ p2 k ++ p3 k ++ p4 k.ts)) ∧ (wS (p1 k ++ p2 k ++ p3 k ++ p4 k.ts)).length ≤ 1099511627776 ∧ Below H w wr ∧ LB wr H k.l k.nm (.slice ta tn tc) (.slice pa pn pc) (.slice oa rn oc) (.slice ma k.dn mc)) := by
                  have h9 := HI.out.1
                  rw [List.take_of_length_le (by rw [HTN.out]; exact Nat.le_refl _)] at h9
                  exact ⟨h9, Nat.le_trans (wS_pre (by have := pre4 k tn; rw [List.take_of_length_le (by rw [HTN.out]; exact Nat.le_refl _)] at this; exact this)) HN.out, HI.out.2⟩
                clear HI
                go_wp2
                clear c33
                go_loopw [5, 9] (fun s t wr => ∃ (i : Nat) (st : ByteArray), i ≤ pn ∧ t = .int .i64 i ∧ s = .string st ∧ st.size ≤ 1099511627776 ∧ Hid (st = bs (wS (p1 k ++ p2 k ++ p3 k ++ p4 k.ts ++ p5 (k.ps.take i))) ∧ Below H w wr ∧ LB wr H k.l k.nm (.slice ta tn tc) (.slice pa pn pc) (.slice oa rn oc) (.slice ma k.dn mc))) (fun _ t _ => pn - (intOf t).toNat)
                case atStart => exact ⟨0, _, Nat.zero_le _, rfl, rfl, by have h9 := HI4.out.1; rw [h9, bs_size]; exact (HI4.out.2.1), (⟨by simpa [p5] using HI4.out.1, HI4.out.2.2⟩ : _ = bs (wS (p1 k ++ p2 k ++ p3 k ++ p4 k.ts ++ p5 (k.ps.take 0))) ∧ Below H w _ ∧ LB _ H k.l k.nm (.slice ta tn tc) (.slice pa pn pc) (.slice oa rn oc) (.slice ma k.dn mc))⟩
                case round =>
                  clear HI4
                  obtain ⟨i, st, hi, rfl, rfl, hstz, HI⟩ := hrel
                  have c34 := (HI.out.2.2.cells hl).2.2.1
                  by_cases hlt : i < pn
                  · obtain ⟨x, hx⟩ : ∃ x, k.ps[i]? = some x := ⟨_, List.getElem?_eq_getElem (by rw [HPN.out]; exact hlt)⟩
                    obtain ⟨a9, c9, e9, hc⟩ := HA.out.2.2.2.2.2.1
                    rw [HPN.out] at e9 hc
                    simp only [Value.slice.injEq, true_and] at e9
                    obtain ⟨rfl, rfl⟩ := e9
                    obtain ⟨gb, o, rfl, _, _, hc⟩ := hc.resolve_left (fun e => by omega)
                    have c0 := Below.cellS HI.out.2.1 (Nat.le_of_eq HS.out) (hc i x hx)
                    have hsn : p1 k ++ p2 k ++ p3 k ++ p4 k.ts ++ p5 (k.ps.take (i + 1)) = p1 k ++ p2 k ++ p3 k ++ p4 k.ts ++ p5 (k.ps.take i) ++ [(bs [120, 46, 112, 101], x)] := by
                      rw [p5_snoc _ i x hx, ← List.append_assoc]
                    obtain ⟨z1, z2, z3⟩ := kv_small (k := k) (pre := p1 k ++ p2 k ++ p3 k ++ p4 k.ts ++ p5 (k.ps.take i)) (x := (bs [120, 46, 112, 101], x)) (by rw [← hsn]; exact pre5 k (i + 1)) HN.out
                    have HSN : Hid (wS (p1 k ++ p2 k ++ p3 k ++ p4 k.ts ++ p5 (k.ps.take (i + 1))) = wS (p1 k ++ p2 k ++ p3 k ++ p4 k.ts ++ p5 (k.ps.take i)) ++ [38, 120, 46, 112, 101, 61] ++ esc x.data.toList ∧ (wS (p1 k ++ p2 k ++ p3 k ++ p4 k.ts ++ p5 (k.ps.take (i + 1)))).length ≤ 1099511627776) := by
                      have h8 : wS (p1 k ++ p2 k ++ p3 k ++ p4 k.ts ++ p5 (k.ps.take (i + 1))) = wS (p1 k ++ p2 k ++ p3 k ++ p4 k.ts ++ p5 (k.ps.take i)) ++ [38, 120, 46, 112, 101, 61] ++ esc x.data.toList := by
                        rw [hsn]
                        have h9 := wS_pe k ((p2 k ++ p3 k ++ p4 k.ts) ++ p5 (k.ps.take i)) x
                        simp only [← List.append_assoc] at h9
                        exact h9
                      exact ⟨h8, by rw [hsn]; exact z3⟩
                    have HR := Lib.hid (rescape x wr (by have h9 : x.size ≤ 1099511627776 := z1; omega))
                    have hes : (esc x.data.toList).length ≤ 1099511627776 := z2
                    clear hx hc hsn z1 z2 z3
                    go_wp2_with fail
                    refine HR.out.mono ?_
                    rintro e w2 ⟨rfl, b2⟩
                    have HQ := Lib.hid (And.intro (lit_app2 st _ [38, 120, 46, 112, 101, 61] (esc x.data.toList) HI.out.1) (And.intro (HI.out.2.1.trans (b2.mono (by have := HI.out.2.1.size; have := HS.out; omega))) (HI.out.2.2.keep (b2.block H HI.out.2.2.lt))))
                    have hez : (({ data := (esc x.data.toList).toArray } : ByteArray)).size ≤ 1099511627776 := by rw [show (({ data := (esc x.data.toList).toArray } : ByteArray)).size = (esc x.data.toList).length from bs_size _]; exact hes
                    clear HR b2 HI c0 c34 hes
                    generalize hex : (({ data := (esc x.data.toList).toArray } : ByteArray)) = ex at *
                    have HEX : Hid (bs (esc x.data.toList) = ex) := hex
                    clear hex
                    go_wp2
                    refine ⟨⟨i + 1, _, by omega, by go_num, rfl, ?_, ?_⟩, by simp [intOf]; omega⟩
                    · have h9 := HQ.out.1
                      rw [HEX.out] at h9
                      rw [show st ++ ({ data := #[38, 120, 46, 112, 101, 61] } : ByteArray) ++ ex = bs (wS (p1 k ++ p2 k ++ p3 k ++ p4 k.ts ++ p5 (k.ps.take (i + 1)))) by rw [HSN.out.1]; exact h9, bs_size]
                      exact HSN.out.2
                    · have h9 := HQ.out.1
                      rw [HEX.out] at h9
                      exact ⟨by rw [HSN.out.1]; exact h9, HQ.out.2⟩
                  · obtain rfl : pn = i := by omega
                    have HI5 : Hid (st = bs (wS (p1 k ++ p2 k ++ p3 k ++ p4 k.ts ++ p5 k.ps)) ∧ (wS (p1 k ++ p2 k ++ p3 k ++ p4 k.ts ++ p5 k.ps)).length ≤ 1099511627776 ∧ Below H w wr ∧ LB wr H k.l k.nm (.slice ta tn tc) (.slice pa pn pc) (.slice oa rn oc) (.slice ma k.dn mc)) := by
                      have h9 := HI.out.1
                      rw [List.take_of_length_le (by rw [HPN.out]; exact Nat.le_refl _)] at h9
                      exact ⟨h9, Nat.le_trans (wS_pre (by have := pre5 k pn; rw [List.take_of_length_le (by rw [HPN.out]; exact Nat.le_refl _)] at this; exact this)) HN.out, HI.out.2⟩
                    clear HI
                    go_wp2
                    clear c34
                    go_loopw [5, 10] (fun s t wr => ∃ (i : Nat) (st : ByteArray), i ≤ k.dn ∧ t = .int .i64 i ∧ s = .string st ∧ st.size ≤ 1099511627776 ∧ Hid (st = bs (wS (p1 k ++ p2 k ++ p3 k ++ p4 k.ts ++ p5 k.ps ++ p6 k i)) ∧ Below H w wr ∧ LB wr H k.l k.nm (.slice ta tn tc) (.slice pa pn pc) (.slice oa rn oc) (.slice ma k.dn mc))) (fun _ t _ => k.dn - (intOf t).toNat)
                    case atStart => exact ⟨0, _, Nat.zero_le _, rfl, rfl, by have h9 := HI5.out.1; rw [h9, bs_size]; exact (HI5.out.2.1), (⟨by simpa [p6] using HI5.out.1, HI5.out.2.2⟩ : _ = bs (wS (p1 k ++ p2 k ++ p3 k ++ p4 k.ts ++ p5 k.ps ++ p6 k 0)) ∧ Below H w _ ∧ LB _ H k.l k.nm (.slice ta tn tc) (.slice pa pn pc) (.slice oa rn oc) (.slice ma k.dn mc))⟩
                    case round =>
                      clear HI5
                      obtain ⟨i, st, hi, rfl, rfl, hstz, HI⟩ := hrel
                      have c36 := (HI.out.2.2.cells hl).2.2.2.2
                      by_cases hlt : i < k.dn
                      · obtain ⟨a9, c9, e9, hc⟩ := HA.out.2.2.2.2.2.2.2
                        simp only [Value.slice.injEq, true_and] at e9
                        obtain ⟨rfl, rfl⟩ := e9
                        obtain ⟨g, o, rfl, _, _, hc⟩ := hc.resolve_left (fun e => by omega)
                        obtain ⟨x1, y1, _, e0, _, _, e3, _, _⟩ := hc i hlt
                        have g0 := Below.cellS HI.out.2.1 (Nat.le_of_eq HS.out) e0
                        have g3 := Below.cellS HI.out.2.1 (Nat.le_of_eq HS.out) e3
                        have HPP : Hid (p1 k ++ p2 k ++ p3 k ++ p4 k.ts ++ p5 k.ps ++ p6 k i ++ [(k.ky i, (k.dv i).s)] <+: prm k) := by
                          have h9 : p1 k ++ p2 k ++ p3 k ++ p4 k.ts ++ p5 k.ps ++ p6 k i ++ [(k.ky i, (k.dv i).s)] <+: prm k := by rw [List.append_assoc, ← p6_snoc]; exact pre6 k (i + 1) hlt
                          exact h9
                        obtain ⟨z1, z2, z3⟩ := kv_small HPP.out HN.out
                        obtain ⟨z4, z5⟩ := kv_small1 HPP.out HN.out
                        have HSN : Hid (wS (p1 k ++ p2 k ++ p3 k ++ p4 k.ts ++ p5 k.ps ++ p6 k (i + 1)) = wS (p1 k ++ p2 k ++ p3 k ++ p4 k.ts ++ p5 k.ps ++ p6 k i) ++ [38] ++ esc (k.ky i).data.toList ++ [61] ++ esc (k.dv i).s.data.toList ∧ (wS (p1 k ++ p2 k ++ p3 k ++ p4 k.ts ++ p5 k.ps ++ p6 k (i + 1))).length ≤ 1099511627776) := by
                          have h8 : wS (p1 k ++ p2 k ++ p3 k ++ p4 k.ts ++ p5 k.ps ++ p6 k (i + 1)) = wS (p1 k ++ p2 k ++ p3 k ++ p4 k.ts ++ p5 k.ps ++ p6 k i) ++ [38] ++ esc (k.ky i).data.toList ++ [61] ++ esc (k.dv i).s.data.toList := by
                            rw [p6_snoc, ← List.append_assoc]
                            have h9 := wS_mo k (p2 k ++ p3 k ++ p4 k.ts ++ p5 k.ps ++ p6 k i) (k.ky i) (k.dv i).s
                            simp only [← List.append_assoc] at h9
                            exact h9
                          exact ⟨h8, by rw [p6_snoc, ← List.append_assoc]; exact z3⟩
                        simp only at z1 z2 z4 z5
                        have HR1 := Lib.hid (fun u : World => rescape (k.ky i) u (by omega))
                        have HR2 := Lib.hid (fun u : World => rescape (k.dv i).s u (by omega))
                        have hk1 : (({ data := (esc (k.ky i).data.toList).toArray } : ByteArray)).size ≤ 1099511627776 := by rw [show (({ data := (esc (k.ky i).data.toList).toArray } : ByteArray)).size = (esc (k.ky i).data.toList).length from bs_size _]; exact z5
                        have hv1 : (({ data := (esc (k.dv i).s.data.toList).toArray } : ByteArray)).size ≤ 1099511627776 := by rw [show (({ data := (esc (k.dv i).s.data.toList).toArray } : ByteArray)).size = (esc (k.dv i).s.data.toList).length from bs_size _]; exact z2
                        have hs1 : (st ++ ({ data := #[38] } : ByteArray)).size ≤ 1099511627780 := by rw [ByteArray.size_append]; have : (({ data := #[38] } : ByteArray)).size = 1 := rfl; omega
                        have hs2 : (st ++ ({ data := #[38] } : ByteArray) ++ ({ data := (esc (k.ky i).data.toList).toArray } : ByteArray)).size ≤ 2199023255556 := by rw [ByteArray.size_append]; omega
                        have hs3 : (st ++ ({ data := #[38] } : ByteArray) ++ ({ data := (esc (k.ky i).data.toList).toArray } : ByteArray) ++ ({ data := #[61] } : ByteArray)).size ≤ 2199023255560 := by rw [ByteArray.size_append]; have : (({ data := #[61] } : ByteArray)).size = 1 := rfl; omega
                        have HKK : Hid (∀ u, Below wr.heap.size wr u → u.cell? ⟨H, 36, none⟩ = some (.slice (some ⟨g, o, none⟩) k.dn mc) ∧ u.cell? ⟨g, o + i * 6, none⟩ = some (.string (k.ky i)) ∧ u.cell? ⟨g, o + i * 6 + 1 + 2, none⟩ = some (.string (k.dv i).s)) := fun u hu => ⟨Below.cellS hu (Nat.le_refl _) c36, Below.cellS hu (Nat.le_refl _) g0, Below.cellS hu (Nat.le_refl _) g3⟩
                        have bdr : Hid (Below wr.heap.size wr wr.drew) := ⟨rfl, rfl, rfl, Nat.le_refl _, fun _ _ => rfl⟩
                        clear hc e0 e3 z1 z2 z3 z4 z5 HPP
                        go_wp2
                        refine wp_region_held_drew (S := (fun u => u.cell? ⟨H, 36, none⟩ = some (.slice (some ⟨g, o, none⟩) k.dn mc) ∧ u.cell? ⟨g, o + i * 6, none⟩ = some (.string (k.ky i)) ∧ u.cell? ⟨g, o + i * 6 + 1 + 2, none⟩ = some (.string (k.dv i).s))) (by kernel_rfl) (⟨c36, g0, g3⟩) (fun hHeld => ?_)
                        refine wpAnyH_take (i := 0) (v := .string st) rfl (by kernel_rfl) (by kernel_rfl) (by kernel_rfl) (fun _ _ _ h => h) (Or.inl ⟨by rfl, fun w hw => by go_simp⟩) hHeld ?_
                        simp only [Act.put, List.getElem_toArray, List.getElem_cons_zero, List.setIfInBounds_toArray, List.set_cons_zero, List.set_cons_succ]
                        refine wpAnyH_take (i := 1) (v := .string (st ++ { data := #[38] })) rfl (by kernel_rfl) (by kernel_rfl) (by kernel_rfl) (fun _ _ _ h => h) (Or.inl ⟨by rfl, fun w hw => by (go_simp; omega)⟩) hHeld ?_
                        simp only [Act.put, List.getElem_toArray, List.getElem_cons_zero, List.getElem_cons_succ, List.setIfInBounds_toArray, List.set_cons_zero, List.set_cons_succ]
                        refine wpAnyH_take (i := 2) (v := .pointer (some ⟨H, 36, none⟩)) rfl (by kernel_rfl) (by kernel_rfl) (by kernel_rfl) (fun _ _ _ h => h) (Or.inl ⟨by rfl, fun w hw => by go_simp⟩) hHeld ?_
                        simp only [Act.put, List.getElem_toArray, List.getElem_cons_zero, List.getElem_cons_succ, List.setIfInBounds_toArray, List.set_cons_zero, List.set_cons_succ]
                        refine wpAnyH_take (i := 3) (v := .slice (some ⟨g, o, none⟩) k.dn mc) rfl (by kernel_rfl) (by kernel_rfl) (by kernel_rfl) (fun _ _ _ h => h) (Or.inl ⟨by rfl, fun w hw => by obtain ⟨f0, f1, f2⟩ := hw; go_simp⟩) hHeld ?_
                        simp only [Act.put, List.getElem_toArray, List.getElem_cons_zero, List.getElem_cons_succ, List.setIfInBounds_toArray, List.set_cons_zero, List.set_cons_succ]
                        refine wpAnyH_take (i := 4) (v := .int .i64 (i : Int)) rfl (by kernel_rfl) (by kernel_rfl) (by kernel_rfl) (fun _ _ _ h => h) (Or.inl ⟨by rfl, fun w hw => by go_simp⟩) hHeld ?_
                        simp only [Act.put, List.getElem_toArray, List.getElem_cons_zero, List.getElem_cons_succ, List.setIfInBounds_toArray, List.set_cons_zero, List.set_cons_succ]
                        refine wpAnyH_take (i := 5) (v := .pointer (some ⟨g, o + i * 6, none⟩)) rfl (by kernel_rfl) (by kernel_rfl) (by kernel_rfl) (fun _ _ _ h => h) (Or.inl ⟨by rfl, fun w hw => by go_simp⟩) hHeld ?_
                        simp only [Act.put, List.getElem_toArray, List.getElem_cons_zero, List.getElem_cons_succ, List.setIfInBounds_toArray, List.set_cons_zero, List.set_cons_succ]
                        refine wpAnyH_take (i := 6) (v := .pointer (some ⟨g, o + i * 6, none⟩)) rfl (by kernel_rfl) (by kernel_rfl) (by kernel_rfl) (fun _ _ _ h => h) (Or.inl ⟨by rfl, fun w hw => by go_simp⟩) hHeld ?_
                        simp only [Act.put, List.getElem_toArray, List.getElem_cons_zero, List.getElem_cons_succ, List.setIfInBounds_toArray, List.set_cons_zero, List.set_cons_succ]
                        refine wpAnyH_take (i := 7) (v := .string (k.ky i)) rfl (by kernel_rfl) (by kernel_rfl) (by kernel_rfl) (fun _ _ _ h => h) (Or.inl ⟨by rfl, fun w hw => by obtain ⟨f0, f1, f2⟩ := hw; go_simp⟩) hHeld ?_
                        simp only [Act.put, List.getElem_toArray, List.getElem_cons_zero, List.getElem_cons_succ, List.setIfInBounds_toArray, List.set_cons_zero, List.set_cons_succ]
                        refine wpAnyH_take (i := 11) (v := .pointer (some ⟨H, 36, none⟩)) rfl (by kernel_rfl) (by kernel_rfl) (by kernel_rfl) (fun _ _ _ h => h) (Or.inl ⟨by rfl, fun w hw => by go_simp⟩) hHeld ?_
                        simp only [Act.put, List.getElem_toArray, List.getElem_cons_zero, List.getElem_cons_succ, List.setIfInBounds_toArray, List.set_cons_zero, List.set_cons_succ]
                        refine wpAnyH_take (i := 12) (v := .slice (some ⟨g, o, none⟩) k.dn mc) rfl (by kernel_rfl) (by kernel_rfl) (by kernel_rfl) (fun _ _ _ h => h) (Or.inl ⟨by rfl, fun w hw => by obtain ⟨f0, f1, f2⟩ := hw; go_simp⟩) hHeld ?_
                        simp only [Act.put, List.getElem_toArray, List.getElem_cons_zero, List.getElem_cons_succ, List.setIfInBounds_toArray, List.set_cons_zero, List.set_cons_succ]
                        refine wpAnyH_take (i := 13) (v := .int .i64 (i : Int)) rfl (by kernel_rfl) (by kernel_rfl) (by kernel_rfl) (fun _ _ _ h => h) (Or.inl ⟨by rfl, fun w hw => by go_simp⟩) hHeld ?_
                        simp only [Act.put, List.getElem_toArray, List.getElem_cons_zero, List.getElem_cons_succ, List.setIfInBounds_toArray, List.set_cons_zero, List.set_cons_succ]
                        refine wpAnyH_take (i := 14) (v := .pointer (some ⟨g, o + i * 6, none⟩)) rfl (by kernel_rfl) (by kernel_rfl) (by kernel_rfl) (fun _ _ _ h => h) (Or.inl ⟨by rfl, fun w hw => by go_simp⟩) hHeld ?_
                        simp only [Act.put, List.getElem_toArray, List.getElem_cons_zero, List.getElem_cons_succ, List.setIfInBounds_toArray, List.set_cons_zero, List.set_cons_succ]
                        refine wpAnyH_take (i := 15) (v := .pointer (some ⟨g, o + i * 6 + 1, none⟩)) rfl (by kernel_rfl) (by kernel_rfl) (by kernel_rfl) (fun _ _ _ h => h) (Or.inl ⟨by rfl, fun w hw => by go_simp⟩) hHeld ?_
                        simp only [Act.put, List.getElem_toArray, List.getElem_cons_zero, List.getElem_cons_succ, List.setIfInBounds_toArray, List.set_cons_zero, List.set_cons_succ]
                        refine wpAnyH_take (i := 16) (v := .pointer (some ⟨g, o + i * 6 + 1 + 2, none⟩)) rfl (by kernel_rfl) (by kernel_rfl) (by kernel_rfl) (fun _ _ _ h => h) (Or.inl ⟨by rfl, fun w hw => by go_simp⟩) hHeld ?_
                        simp only [Act.put, List.getElem_toArray, List.getElem_cons_zero, List.getElem_cons_succ, List.setIfInBounds_toArray, List.set_cons_zero, List.set_cons_succ]
                        refine wpAnyH_take (i := 17) (v := .string (k.dv i).s) rfl (by kernel_rfl) (by kernel_rfl) (by kernel_rfl) (fun _ _ _ h => h) (Or.inl ⟨by rfl, fun w hw => by obtain ⟨f0, f1, f2⟩ := hw; go_simp⟩) hHeld ?_
                        simp only [Act.put, List.getElem_toArray, List.getElem_cons_zero, List.getElem_cons_succ, List.setIfInBounds_toArray, List.set_cons_zero, List.set_cons_succ]
                        refine wpAnyH_ready (rs := [8]) (by kernel_rfl) (by simp) ?_
                        refine AllReadyH.cons (o := _) rfl (fun K hK => ?_) AllReadyH.nil
                        go_simp
                        refine (HR1.out _).mono ?_
                        rintro en w1 ⟨rfl, b1⟩
                        have HBw1 : Hid (Below wr.heap.size wr w1) := bdr.out.trans b1
                        have hh := HKK.out w1 HBw1.out
                        go_wp2_with fail
                        refine hK.out _ _ hh (fun hHeld => ?_)
                        clear hK K b1
                        generalize hek : (({ data := (esc (k.ky i).data.toList).toArray } : ByteArray)) = ek at *
                        have HEK : Hid (bs (esc (k.ky i).data.toList) = ek) := hek
                        clear hek
                        refine wpAnyH_take (i := 9) (v := .string (st ++ { data := #[38] } ++ ek)) rfl (by kernel_rfl) (by kernel_rfl) (by kernel_rfl) (fun _ _ _ h => h) (Or.inl ⟨by rfl, fun w hw => by (go_simp; omega)⟩) hHeld ?_
                        simp only [Act.put, List.getElem_toArray, List.getElem_cons_zero, List.getElem_cons_succ, List.setIfInBounds_toArray, List.set_cons_zero, List.set_cons_succ]
                        refine wpAnyH_take (i := 10) (v := .string (st ++ { data := #[38] } ++ ek ++ { data := #[61] })) rfl (by kernel_rfl) (by kernel_rfl) (by kernel_rfl) (fun _ _ _ h => h) (Or.inl ⟨by rfl, fun w hw => by (go_simp; omega)⟩) hHeld ?_
                        simp only [Act.put, List.getElem_toArray, List.getElem_cons_zero, List.getElem_cons_succ, List.setIfInBounds_toArray, List.set_cons_zero, List.set_cons_succ]
                        refine wpAnyH_ready (rs := [18]) (by kernel_rfl) (by simp) ?_
                        refine AllReadyH.cons (o := _) rfl (fun K hK => ?_) AllReadyH.nil
                        go_simp
                        refine (HR2.out _).mono ?_
                        rintro en w2 ⟨rfl, b1⟩
                        have HBw2 : Hid (Below wr.heap.size wr w2) := HBw1.out.trans (b1.mono HBw1.out.size)
                        have hh := HKK.out w2 HBw2.out
                        go_wp2_with fail
                        refine hK.out _ _ hh (fun hHeld => ?_)
                        clear hK K b1
                        generalize hev : (({ data := (esc (k.dv i).s.data.toList).toArray } : ByteArray)) = ev at *
                        have HEV : Hid (bs (esc (k.dv i).s.data.toList) = ev) := hev
                        clear hev
                        refine wpAnyH_take (i := 19) (v := .string (st ++ { data := #[38] } ++ ek ++ { data := #[61] } ++ ev)) rfl (by kernel_rfl) (by kernel_rfl) (by kernel_rfl) (fun _ _ _ h => h) (Or.inl ⟨by rfl, fun w hw => by (go_simp; omega)⟩) hHeld ?_
                        simp only [Act.put, List.getElem_toArray, List.getElem_cons_zero, List.getElem_cons_succ, List.setIfInBounds_toArray, List.set_cons_zero, List.set_cons_succ]
                        refine wpAnyH_take (i := 20) (v := .string (st ++ { data := #[38] } ++ ek ++ { data := #[61] } ++ ev)) rfl (by kernel_rfl) (by kernel_rfl) (by kernel_rfl) (fun _ _ _ h => h) (Or.inl ⟨by rfl, fun w hw => by go_simp⟩) hHeld ?_
                        simp only [Act.put, List.getElem_toArray, List.getElem_cons_zero, List.getElem_cons_succ, List.setIfInBounds_toArray, List.set_cons_zero, List.set_cons_succ]
                        refine wpAnyH_done (by kernel_rfl) ?_ _
                        clear hHeld
                        have HQ : Hid (st ++ ({ data := #[38] } : ByteArray) ++ ek ++ ({ data := #[61] } : ByteArray) ++ ev = bs (wS (p1 k ++ p2 k ++ p3 k ++ p4 k.ts ++ p5 k.ps ++ p6 k (i + 1)))) := by
                          have h9 := lit_app2 _ _ [61] (esc (k.dv i).s.data.toList) (lit_app2 st _ [38] (esc (k.ky i).data.toList) HI.out.1)
                          rw [HEK.out, HEV.out] at h9
                          rw [HSN.out.1]
                          exact h9
                        have HF := Lib.hid (And.intro (HI.out.2.1.trans (HBw2.out.mono (by have := HI.out.2.1.size; have := HS.out; omega))) (HI.out.2.2.keep (HBw2.out.block H HI.out.2.2.lt)))
                        clear HI HKK c36 g0 g3 HR1 HR2 hs1 hs2 hs3 HBw1 HBw2 hh HEK HEV
                        go_wp2
                        exact ⟨⟨i + 1, _, by omega, by go_num, rfl, by rw [HQ.out, bs_size]; exact HSN.out.2, ⟨HQ.out, HF.out⟩⟩, by simp [intOf]; omega⟩
                      · obtain rfl : i = k.dn := by omega
                        have HE : Hid (st = bs (wS (prm k)) ∧ Below H w wr) := by
                          have h9 := HI.out.1
                          have e : p1 k ++ p2 k ++ p3 k ++ p4 k.ts ++ p5 k.ps ++ p6 k k.dn = prm k := by rw [prm_eq]; simp only [List.append_assoc]
                          rw [e] at h9
                          exact ⟨h9, HI.out.2.1⟩
                        clear HI
                        go_wp2
                        go_ret
                        exact ⟨ret_s HE.out.1, HS.out ▸ HE.out.2⟩)

end Go.Proofs.YtjfgpplomldeiaaGreatDoor
