import Derived.Test.YtnmeohacdbmplaaGreatDoorM21
import Derived.Test.YtnmeohacdbmplaaGreatDoorM18
import Derived.Lib.BufferWrite
namespace Go.Proofs.YtnmeohacdbmplaaGreatDoor
open Go.RowKit
/-- a new connection -/
def NewE (w w' : World) (b : Int) (hb0 : List UInt8) (L : List Int) (p : Value) : Prop :=
  ∃ g R P, p = .pointer (some ⟨g, 0, none⟩) ∧ w.heap.size ≤ g ∧ FP w' g R P L (List.replicate ((L.length + 7) / 8) 0) 2 0 [] (.slice none 0 0) ∧ P.info = hb0.take 20 ∧ P.b = b ∧ P.sh = false ∧ P.wc = true ∧ P.wi = false ∧ P.wb = false ∧ P.ic = true ∧ P.ii = false ∧ P.ib = false ∧ (∀ k, P.ln.ownBlock = some k → w.heap.size ≤ k) ∧ (∀ k, P.hs.ownBlock = some k → w.heap.size ≤ k)
theorem own0 {w : World} {B e size n : Nat} {v : Value} {xs : List Value} (h : w.ownsRow B e size v n xs) : w.ownsRow 0 e size v n xs :=
  ⟨h.1, h.2.imp id (fun ⟨g, cap, cur, h1, _, h3⟩ => ⟨g, cap, cur, h1, Nat.zero_le _, h3⟩)⟩
theorem newRow (hb0 : List UInt8) (h : hb0.length = 32) (P : Pv) (h5 : P.info.length = 20) : (P.ls.toArray.toList.take 0 ++ (bc hb0).toList.take 20 ++ P.ls.toArray.toList.drop (0 + ((bc hb0).toList.take 20).length)).toArray = (Pv.ls { P with info := hb0.take 20 }).toArray := by
  have e1 : ((bc hb0).toList.take 20).length = 20 := by rw [List.length_take, bc_list, bcl_len, h]; rfl
  rw [e1]
  congr 1
  show [] ++ _ ++ (Lib.byteCells P.info ++ P.tl).drop 20 = Lib.byteCells (hb0.take 20) ++ P.tl
  rw [List.nil_append, List.drop_left' (by rw [bcl_len, h5]), bc_list, bcl_take]
set_option maxHeartbeats 2000000 in
set_option maxRecDepth 100000 in
theorem newP (b v : Int) (hb0 : List UInt8) (h320 : hb0.length = 32) (lv : Value) (L : List Int) (w : World) (hl : L.length * 8 ≤ 140737488351232) (hr : Bs.RZ w lv L) (hkt : KT w) (hmt : Bs.MT w) :
    Calls Tryz.prog 10 #[Bs.sc b v, .agg (bc hb0), lv] w fun e w' => ∃ p, e = .returned (.tuple #[p, .int .i64 (nwE b v L)]) ∧ PP p (nwE b v L) ∧ Below w.heap.size w w' ∧ (nwE b v L = 0 → NewE w w' b hb0 L p) := by
  obtain ⟨hs, hhs⟩ : ∃ x, x = bc hb0 := ⟨_, rfl⟩
  have h32 : hs.size = 32 := by rw [hhs, bc_size, h320]
  have h1c : hs.all (·.oneCell') = true := by rw [hhs]; exact all_oneCell_toArray (Lib.byteCells_one hb0)
  have HBY : Hid (hs = bc hb0 ∧ hb0.length = 32 ∧ KT w ∧ Bs.MT w) := ⟨hhs, h320, hkt, hmt⟩
  rw [← hhs]
  clear hhs h320 hkt hmt
  have HG : Hid (∀ u, Calls Tryz.prog 32 #[Bs.sc b v] u fun e w' => e = .returned (.int .i64 (Bs.gd b v)) ∧ Below u.heap.size u w') := fun u => Bs.good6 b v u
  have HR : Hid (Bs.RZ w lv L ∧ hs.size = 32 ∧ hs.all (·.oneCell') = true) := ⟨hr, h32, h1c⟩
  obtain ⟨a1, c1, rfl, _, _⟩ := hr
  clear h32 h1c
  by_cases hg : Bs.gd b v = 0
  · obtain ⟨b0, b1⟩ := gd_zero hg
    have HGz : Hid (Bs.gd b v = 0) := hg
    rw [hg] at HG
    clear hg
    have hmf : ∀ (fn : Fn) (first cap : Array Value) (w : World), (Instr.makeFunc fn first cap).run Tryz.prog w = .ok (.func fn first cap) w := fun _ _ _ _ => rfl
    by_cases hlen : 65536 < L.length
    · have hE : nwE b v L = 2 := by unfold nwE; rw [HGz.out, if_pos rfl, if_pos (.inl hlen)]
      rw [hE]
      clear hE
      go_enter Tryz.func10, Tryz.ntmps10
      go_wp2_with fail
      refine (HG.out _).mono ?_
      rintro e w1 ⟨rfl, hb1⟩
      have HB := Lib.hid ((SB.start b v hs w).next hb1)
      clear hb1
      go_wp2
      go_ret2
      first | exact ⟨_, rfl, ⟨fun h => by omega, fun _ => rfl⟩, HB.out.bel, fun h => by omega⟩ | exact ⟨_, rfl, ⟨fun h => by omega, fun _ => rfl⟩, HB.out.bel⟩
    · have HCA : Hid (∀ u, SB w b hs u → Calls Tryz.prog 34 #[.slice a1 L.length c1, .func (.func 33) #[] #[.pointer (some ⟨w.heap.size, 0, none⟩)]] u fun e w' => e = .returned (.bool (L.any (Bs.bad b))) ∧ ∃ n, w' = u.drewN n) := fun u hu =>
        Bs.contains10 (.slice a1 L.length c1) L b b0 b1 w.heap.size u (by omega) (HR.out.1.keep hu.bel) hu.blk
      cases hbad : L.any (Bs.bad b)
      · have hE : nwE b v L = 0 := by unfold nwE; rw [HGz.out, if_pos rfl, if_neg (by rw [hbad]; simp; omega)]
        have HLK : Hid (LOk L) := ⟨by omega, fun j hj => by
          have hz := List.any_eq_false.1 hbad (Bs.iz L j) (by unfold Bs.iz; simp [List.getD, List.getElem?_eq_getElem hj])
          unfold Bs.bad at hz
          simp at hz
          omega⟩
        rw [hE]
        rw [hbad] at HCA
        clear hE hbad
        go_enter Tryz.func10, Tryz.ntmps10
        go_wp2_with fail
        refine (HG.out _).mono ?_
        rintro e w1 ⟨rfl, hb1⟩
        have HB := Lib.hid ((SB.start b v hs w).next hb1)
        clear hb1
        go_wp2_with fail
        refine (HCA.out _ HB.out).mono ?_
        rintro e w2 ⟨rfl, n2, rfl⟩
        have HB2 := Lib.hid (HB.out.next (belowDrew w1 n2))
        have HM : Hid (Calls Tryz.prog 17 #[.int .i64 (L.length : Int)] (w1.drewN n2) fun e w' => ∃ v, e = .returned (.tuple #[v, .int .i64 0]) ∧ OW (w1.drewN n2).heap.size w' v (List.replicate ((L.length + 7) / 8) 0) ∧ Below (w1.drewN n2).heap.size (w1.drewN n2) w') := Bs.make13_ow L.length (by omega) _
        clear HCA HB
        go_wp2_with fail
        refine HM.out.mono ?_
        rintro e w3 ⟨hv, rfl, ho3, hb3⟩
        obtain ⟨a3, c3, rfl⟩ := ho3.form
        have HB3 := Lib.hid (HB2.out.next hb3)
        rw [List.length_replicate] at *
        generalize hn3 : (L.length + 7) / 8 = n3 at *
        have HN3 : Hid ((L.length + 7) / 8 = n3) := hn3
        have HO3 : Hid (OW 0 w3 (.slice a3 n3 c3) (List.replicate n3 0)) := OW.mono (bsOW ho3) (Nat.zero_le _)
        have HW3 : Hid (∀ k, (Value.slice a3 n3 c3).ownBlock = some k → w.heap.size ≤ k) := fun k hk => by
          have h1 := (own_ge (bsOW ho3) hk).1
          have h2 := HB2.out.sz
          omega
        clear HM hb3 ho3 HB2 hn3
        have HCL : Hid (∀ u, SB w b hs u → Calls Tryz.prog 35 #[.slice a1 L.length c1] u fun e w' => ∃ v', e = .returned v' ∧ Bs.OZ u.heap.size w' v' L ∧ Below u.heap.size u w') := fun u hu => Bs.clone12 _ L u (HR.out.1.keep hu.bel) hl
        go_upto_region 10 with fail
        refine wp_region_held_drew (S := SB w b hs) (by kernel_rfl) (HB3.out.next (belowDrew w3 1)) (fun hHeld => ?_)
        refine wpAnyH_take (i := 0) (v := .pointer (some ⟨w.heap.size, 0, none⟩)) rfl (by kernel_rfl) (by kernel_rfl) (by kernel_rfl) (fun _ _ _ h => h) (Or.inl ⟨by rfl, fun w hw => by go_simp⟩) hHeld ?_
        simp only [Act.put, List.getElem_toArray, List.getElem_cons_zero, List.setIfInBounds_toArray, List.set_cons_zero, List.set_cons_succ]
        refine wpAnyH_take (i := 1) (v := .int .i64 b) rfl (by kernel_rfl) (by kernel_rfl) (by kernel_rfl) (fun _ _ _ h => h) (Or.inl ⟨by rfl, fun w hw => by have hq := hw.blk; go_simp⟩) hHeld ?_
        simp only [Act.put, List.getElem_toArray, List.getElem_cons_zero, List.getElem_cons_succ, List.setIfInBounds_toArray, List.set_cons_zero, List.set_cons_succ]
        refine wpAnyH_take (i := 2) (v := .slice a1 L.length c1) rfl (by kernel_rfl) (by kernel_rfl) (by kernel_rfl) (fun _ _ _ h => h) (Or.inl ⟨by rfl, fun w hw => by go_simp⟩) hHeld ?_
        simp only [Act.put, List.getElem_toArray, List.getElem_cons_zero, List.getElem_cons_succ, List.setIfInBounds_toArray, List.set_cons_zero, List.set_cons_succ]
        refine wpAnyH_take (i := 5) (v := .slice a3 n3 c3) rfl (by kernel_rfl) (by kernel_rfl) (by kernel_rfl) (fun _ _ _ h => h) (Or.inl ⟨by rfl, fun w hw => by go_simp⟩) hHeld ?_
        simp only [Act.put, List.getElem_toArray, List.getElem_cons_zero, List.getElem_cons_succ, List.setIfInBounds_toArray, List.set_cons_zero, List.set_cons_succ]
        refine wpAnyH_ready (rs := [3]) (by kernel_rfl) (by simp) ?_
        refine AllReadyH.cons (o := _) rfl (fun K hK => ?_) AllReadyH.nil
        go_simp
        refine (HCL.out _ (HB3.out.next (belowDrew w3 1))).mono ?_
        rintro e w4 ⟨v4, rfl, o4, b4⟩
        obtain ⟨a4, c4, rfl⟩ := o4.form
        have HB4 := Lib.hid ((HB3.out.next (belowDrew w3 1)).next b4)
        have HO4 : Hid (Bs.OZ 0 w4 (.slice a4 L.length c4) L ∧ OW 0 w4 (.slice a3 n3 c3) (List.replicate n3 0)) := ⟨own0 o4, (HO3.out.grow (belowDrew w3 1)).grow b4⟩
        have HW4 : Hid ((∀ k, (Value.slice a4 L.length c4).ownBlock = some k → w.heap.size ≤ k) ∧ (∀ k, (Value.slice a3 n3 c3).ownBlock = some k → w.heap.size ≤ k)) := ⟨fun k hk => by
          have h1 : w3.heap.size ≤ k := (own_ge o4 hk).1
          have h2 := HB3.out.sz
          omega, HW3.out⟩
        clear o4 b4 HB3 HCL HO3
        go_wp2_with fail
        refine hK.out _ _ HB4.out (fun hHeld => ?_)
        clear hK K
        refine wpAnyH_take (i := 4) (v := .agg (t52 b a4 L.length c4)) rfl (by kernel_rfl) (by kernel_rfl) (by kernel_rfl) (fun _ _ _ h => h) (yieldsIf_built2 (by rfl) 82 1 2 _ _ rfl (.int .i64 b) (.slice a4 L.length c4) rfl rfl _ (t52_built b a4 L.length c4)) hHeld ?_
        simp only [Act.put, List.getElem_toArray, List.getElem_cons_zero, List.getElem_cons_succ, List.setIfInBounds_toArray, List.set_cons_zero, List.set_cons_succ]
        refine wpAnyH_take (i := 6) (v := .agg (t57 b a4 L.length c4 a3 n3 c3)) rfl (by kernel_rfl) (by kernel_rfl) (by kernel_rfl) (fun _ _ _ h => h) (yieldsIf_built2 (by rfl) 87 0 6 _ _ rfl (.agg (t52 b a4 L.length c4)) (.slice a3 n3 c3) rfl rfl _ (t57_built b a4 L.length c4 a3 n3 c3)) hHeld ?_
        simp only [Act.put, List.getElem_toArray, List.getElem_cons_zero, List.getElem_cons_succ, List.setIfInBounds_toArray, List.set_cons_zero, List.set_cons_succ]
        refine wpAnyH_ready (rs := [7]) (by kernel_rfl) (by simp) ?_
        refine AllReadyH.cons (o := _) rfl (fun K hK => ?_) AllReadyH.nil
        go_simp
        have HB5 : Hid (SB w b hs (w4.alloc (.cells (t57 b a4 L.length c4 a3 n3 c3) 87))) := HB4.out.next ((Below.refl _ _).alloc (Nat.le_refl _) _)
        have HP5 : Hid (PB w w4.heap.size (w4.alloc (.cells (t57 b a4 L.length c4 a3 n3 c3) 87))) := ⟨HB4.out.sz, _, heapNew _ _, rfl⟩
        have HK5 : Hid (PK (w4.alloc (.cells (t57 b a4 L.length c4 a3 n3 c3) 87)) w4.heap.size ⟨zr 20, b, .slice a4 L.length c4, .pointer none, false, 0, false, false, false, false, false, false, .slice a3 n3 c3⟩) := ⟨rfl, heapNew _ _⟩
        have bA : Below w4.heap.size w4 (w4.alloc (.cells (t57 b a4 L.length c4 a3 n3 c3) 87)) := (Below.refl _ _).alloc (Nat.le_refl _) _
        have HO5 : Hid (Bs.OZ 0 (w4.alloc (.cells (t57 b a4 L.length c4 a3 n3 c3) 87)) (.slice a4 L.length c4) L ∧ OW 0 (w4.alloc (.cells (t57 b a4 L.length c4 a3 n3 c3) 87)) (.slice a3 n3 c3) (List.replicate n3 0)) := ⟨Bs.OZ.grow HO4.out.1 bA, HO4.out.2.grow bA⟩
        have HJ5 : Hid ((∀ k, (Value.slice a4 L.length c4).ownBlock = some k → k < w4.heap.size) ∧ (∀ k, (Value.slice a3 n3 c3).ownBlock = some k → k < w4.heap.size)) := ⟨fun k hk => (own_ge HO4.out.1 hk).2, fun k hk => (own_ge HO4.out.2 hk).2⟩
        clear bA HO4
        obtain ⟨w5, hw5⟩ : ∃ x, x = w4.alloc (.cells (t57 b a4 L.length c4 a3 n3 c3) 87) := ⟨_, rfl⟩
        rw [← hw5] at HB5 HP5 HK5 HO5 ⊢
        clear hw5
        generalize w4.heap.size = g at *
        refine hK.out _ _ HB5.out (fun hHeld => ?_)
        clear hK K HB4
        refine wpAnyH_take (i := 8) (v := .pointer (some ⟨g, 0, none⟩)) rfl (by kernel_rfl) (by kernel_rfl) (by kernel_rfl) (fun _ _ _ h => h) (Or.inl ⟨by rfl, fun w hw => by go_simp⟩) hHeld ?_
        simp only [Act.put, List.getElem_toArray, List.getElem_cons_zero, List.getElem_cons_succ, List.setIfInBounds_toArray, List.set_cons_zero, List.set_cons_succ]
        refine wpAnyH_done (by kernel_rfl) ?_ _
        clear hHeld
        generalize t52 b a4 L.length c4 = T52 at *
        generalize t57 b a4 L.length c4 a3 n3 c3 = T57 at *
        obtain ⟨cs, hcs, hcsz⟩ := HP5.out.2
        have HC5 : Hid (w5.heap[g]? = some (.cells cs 87 (0, 0))) := hcs
        have hcp : ∀ ty, (Builtin.copy_ #[31, 31] ty #[.slice (some ⟨g, 0, none⟩) 20 20, .slice (some ⟨w.heap.size + 1, 0, none⟩) 32 32]).run Tryz.prog w5.drew = .ok (goInt (hs.toList.take 20).length) (w5.drew.setRow g (cs.toList.take 0 ++ hs.toList.take 20 ++ cs.toList.drop (0 + (hs.toList.take 20).length)).toArray) := fun ty =>
          run_copy_row (P := Tryz.prog) w5.drew 31 31 ty 5 g 0 20 20 ⟨w.heap.size + 1, 0, none⟩ 32 32 cs 87 (hs.toList.take 20) Tryz.underlying31 (by kernel_rfl) hcs (by rw [List.length_take, Array.length_toList, HR.out.2.1]; rfl)
            (fun j v hj => copy_src HB5.out.inf j v hj) (by rw [List.length_take, Array.length_toList, HR.out.2.1]; omega) (fun v hv => Array.all_eq_true_iff_forall_mem.1 HR.out.2.2 v (by simpa using List.mem_of_mem_take hv))
        obtain ⟨n20, hn20⟩ : ∃ n, n = (hs.toList.take 20).length := ⟨_, rfl⟩
        rw [← hn20] at hcp
        have hz6 : (cs.toList.take 0 ++ hs.toList.take 20 ++ cs.toList.drop (0 + n20)).toArray.size = 32 := by
          have h0 := HR.out.2.1
          rw [List.length_take, Array.length_toList] at hn20
          simp
          omega
        obtain ⟨ct, hct⟩ : ∃ x, x = (cs.toList.take 0 ++ hs.toList.take 20 ++ cs.toList.drop (0 + n20)).toArray := ⟨_, rfl⟩
        have hcs5 : cs = (Pv.ls ⟨zr 20, b, .slice a4 L.length c4, .pointer none, false, 0, false, false, false, false, false, false, .slice a3 n3 c3⟩).toArray := by
          have h9 := HK5.out.2.symm.trans hcs
          simp only [Option.some.injEq, Obj.cells.injEq, and_true] at h9
          exact h9.symm
        have hct5 : ct = (Pv.ls ⟨hb0.take 20, b, .slice a4 L.length c4, .pointer none, false, 0, false, false, false, false, false, false, .slice a3 n3 c3⟩).toArray := by
          rw [hct, hn20, HBY.out.1, hcs5]
          exact newRow hb0 HBY.out.2.1 _ rfl
        rw [← hct] at hcp hz6
        have HB6 : Hid (SB w b hs (w5.drew.setRow g ct)) := (HB5.out.next (belowDrew w5 1)).next2 (below_setRow (Below.refl _ _) HP5.out.1 ct)
        have HP6 : Hid ((w5.drew.setRow g ct).heap[g]? = some (.cells ct 87 (0, 0)) ∧ ct.size = 32 ∧ w.heap.size + 2 ≤ g) := ⟨setRow_heap w5.drew g cs ct 87 _ hcs, hz6, HP5.out.1⟩
        have HK6 : Hid (PK (w5.drew.setRow g ct) g ⟨hb0.take 20, b, .slice a4 L.length c4, .pointer none, false, 0, false, false, false, false, false, false, .slice a3 n3 c3⟩) := ⟨by show (hb0.take 20).length = 20; rw [List.length_take, HBY.out.2.1]; rfl, by rw [← hct5]; exact HP6.out.1⟩
        have HO6 : Hid (Bs.OZ 0 (w5.drew.setRow g ct) (.slice a4 L.length c4) L ∧ OW 0 (w5.drew.setRow g ct) (.slice a3 n3 c3) (List.replicate n3 0)) := ⟨own_at HO5.out.1 (fun k hk _ => setRow_other w5.drew g k ct (by have := HJ5.out.1 k hk; omega)), own_at HO5.out.2 (fun k hk _ => setRow_other w5.drew g k ct (by have := HJ5.out.2 k hk; omega))⟩
        clear hcs5 hct5
        obtain ⟨w6, hw6⟩ : ∃ x, x = w5.drew.setRow g ct := ⟨_, rfl⟩
        rw [← hw6] at hcp HB6 HP6 HK6 HO6
        clear hct hn20 hz6 hcs hcsz HC5 hw6 HP5
        go_upto_region 11 with fail
        refine wp_region_held_drew (S := SB w b hs) (by kernel_rfl) (HB5.out.next (belowDrew w5 1)) (fun hHeld => ?_)
        refine wpAnyH_take (i := 0) (v := .pointer (some ⟨g, 0, none⟩)) rfl (by kernel_rfl) (by kernel_rfl) (by kernel_rfl) (fun _ _ _ h => h) (Or.inl ⟨by rfl, fun w hw => by go_simp⟩) hHeld ?_
        simp only [Act.put, List.getElem_toArray, List.getElem_cons_zero, List.setIfInBounds_toArray, List.set_cons_zero, List.set_cons_succ]
        refine wpAnyH_take (i := 1) (v := .pointer (some ⟨g, 0, none⟩)) rfl (by kernel_rfl) (by kernel_rfl) (by kernel_rfl) (fun _ _ _ h => h) (Or.inl ⟨by rfl, fun w hw => by go_simp⟩) hHeld ?_
        simp only [Act.put, List.getElem_toArray, List.getElem_cons_zero, List.getElem_cons_succ, List.setIfInBounds_toArray, List.set_cons_zero, List.set_cons_succ]
        refine wpAnyH_take (i := 2) (v := .pointer (some ⟨g, 0, none⟩)) rfl (by kernel_rfl) (by kernel_rfl) (by kernel_rfl) (fun _ _ _ h => h) (Or.inl ⟨by rfl, fun w hw => by go_simp⟩) hHeld ?_
        simp only [Act.put, List.getElem_toArray, List.getElem_cons_zero, List.getElem_cons_succ, List.setIfInBounds_toArray, List.set_cons_zero, List.set_cons_succ]
        refine wpAnyH_take (i := 3) (v := .pointer (some ⟨g, 0, none⟩)) rfl (by kernel_rfl) (by kernel_rfl) (by kernel_rfl) (fun _ _ _ h => h) (Or.inl ⟨by rfl, fun w hw => by go_simp⟩) hHeld ?_
        simp only [Act.put, List.getElem_toArray, List.getElem_cons_zero, List.getElem_cons_succ, List.setIfInBounds_toArray, List.set_cons_zero, List.set_cons_succ]
        refine wpAnyH_take (i := 4) (v := .slice (some ⟨g, 0, none⟩) 20 20) rfl (by kernel_rfl) (by kernel_rfl) (by kernel_rfl) (fun _ _ _ h => h) (Or.inl ⟨by rfl, fun w hw => by go_simp⟩) hHeld ?_
        simp only [Act.put, List.getElem_toArray, List.getElem_cons_zero, List.getElem_cons_succ, List.setIfInBounds_toArray, List.set_cons_zero, List.set_cons_succ]
        refine wpAnyH_take (i := 5) (v := .slice (some ⟨w.heap.size + 1, 0, none⟩) 32 32) rfl (by kernel_rfl) (by kernel_rfl) (by kernel_rfl) (fun _ _ _ h => h) (Or.inl ⟨by rfl, fun w hw => by go_simp⟩) hHeld ?_
        simp only [Act.put, List.getElem_toArray, List.getElem_cons_zero, List.getElem_cons_succ, List.setIfInBounds_toArray, List.set_cons_zero, List.set_cons_succ]
        refine wpAnyH_ready (rs := [6]) (by kernel_rfl) (by simp) ?_
        refine AllReadyH.cons (o := _) rfl (fun K hK => ?_) AllReadyH.nil
        go_simp
        refine hK.out _ _ HB6.out (fun hHeld => ?_)
        clear hK K hcp HB5
        refine wpAnyH_done (by kernel_rfl) ?_ _
        clear hHeld
        go_wp2_with fail
        refine (Fm.new w6 true).mono ?_
        rintro e w7 ⟨rfl, rk7, b7⟩
        have HRK : Hid (Fm.RK w7 w6.heap.size 2 0 (.slice none 0 0) 0) := rk7
        have HK7 : Hid (PK w7 g ⟨hb0.take 20, b, .slice a4 L.length c4, .pointer none, false, 0, false, false, false, false, false, false, .slice a3 n3 c3⟩) := HK6.out.keep (b7.block g HK6.out.lt)
        have HO7 : Hid (Bs.OZ 0 w7 (.slice a4 L.length c4) L ∧ OW 0 w7 (.slice a3 n3 c3) (List.replicate n3 0)) := ⟨Bs.OZ.grow HO6.out.1 b7, HO6.out.2.grow b7⟩
        have hg6 : g < w6.heap.size := HK6.out.lt
        clear rk7 HO6
        have HB7 := Lib.hid (HB6.out.next b7)
        have hg7 := (b7.block g (blk_lt HP6.out.1)).trans HP6.out.1
        obtain ⟨x22, c22, f22⟩ := cell_of hg7 (k := 22) (by rw [HP6.out.2.1]; omega)
        obtain ⟨x25, c25, f25⟩ := cell_of hg7 (k := 25) (by rw [HP6.out.2.1]; omega)
        obtain ⟨x28, c28, f28⟩ := cell_of hg7 (k := 28) (by rw [HP6.out.2.1]; omega)
        clear b7 hg7 HB6
        go_wp2
        go_ret2
        have hgg : w.heap.size ≤ g := by have := HP6.out.2.2; omega
        have bel9 : Below w.heap.size w (((w7.setCell ⟨g, 22, none⟩ (.pointer (some ⟨w6.heap.size, 0, none⟩))).setCell ⟨g, 25, none⟩ (.bool true)).setCell ⟨g, 28, none⟩ (.bool true)) := (((HB7.out.bel.setCell (p := ⟨g, 22, none⟩) hgg _).setCell (p := ⟨g, 25, none⟩) hgg _).setCell (p := ⟨g, 28, none⟩) hgg _)
        have fr9 : Fm.Fr (fun k => k ≠ g) w7 (((w7.setCell ⟨g, 22, none⟩ (.pointer (some ⟨w6.heap.size, 0, none⟩))).setCell ⟨g, 25, none⟩ (.bool true)).setCell ⟨g, 28, none⟩ (.bool true)) := (((Fm.Fr.refl (fun k => k ≠ g) w7).setCell g 22 _ (fun h => h rfl)).setCell g 25 _ (fun h => h rfl)).setCell g 28 _ (fun h => h rfl)
        have pk9 := ((HK7.out.set 2 (.pointer (some ⟨w6.heap.size, 0, none⟩)) ⟨hb0.take 20, b, .slice a4 L.length c4, .pointer (some ⟨w6.heap.size, 0, none⟩), false, 0, false, false, false, false, false, false, .slice a3 n3 c3⟩ rfl rfl).set 5 (.bool true) ⟨hb0.take 20, b, .slice a4 L.length c4, .pointer (some ⟨w6.heap.size, 0, none⟩), false, 0, true, false, false, false, false, false, .slice a3 n3 c3⟩ rfl rfl).set 8 (.bool true) ⟨hb0.take 20, b, .slice a4 L.length c4, .pointer (some ⟨w6.heap.size, 0, none⟩), false, 0, true, false, false, true, false, false, .slice a3 n3 c3⟩ rfl rfl
        refine ⟨_, rfl, ⟨fun _ => ⟨_, rfl⟩, fun h => absurd rfl h⟩, bel9, fun _ => ⟨g, w6.heap.size, ⟨hb0.take 20, b, .slice a4 L.length c4, .pointer (some ⟨w6.heap.size, 0, none⟩), false, 0, true, false, false, true, false, false, .slice a3 n3 c3⟩, rfl, hgg, ?_, rfl, rfl, rfl, rfl, rfl, rfl, rfl, rfl, rfl, HW4.out.1, HW4.out.2⟩⟩
        have hj : ∀ k, k < g → k ≠ g ∧ k ≠ w6.heap.size ∧ (Value.slice none 0 0).ownBlock ≠ some k := fun k hk => ⟨by omega, by omega, by simp [Value.ownBlock]⟩
        have hk1 := HBY.out.2.2.1.pos
        have hl9 := HLK.out.1
        rw [HN3.out]
        exact ⟨pk9, rfl, rfl, hg6, by omega, b0, b1, HLK.out, own_at HO7.out.1 (fun k hk _ => fr9.block k (own_ge HO7.out.1 hk).2 (hj k (HJ5.out.1 k hk)).1), fun k hk => hj k (HJ5.out.1 k hk), own_at HO7.out.2 (fun k hk _ => fr9.block k (own_ge HO7.out.2 hk).2 (hj k (HJ5.out.2 k hk)).1), fun k hk => hj k (HJ5.out.2 k hk), by rw [List.length_replicate]; have := HN3.out; omega, (fr9.block w6.heap.size HRK.out.lt (by omega)).trans HRK.out, .inl ⟨rfl, by decide, rfl⟩, World.ownsRow_nil _ _ _ _, fun _ => rfl, HBY.out.2.2.1.below bel9 hk1, HBY.out.2.2.2.keep bel9⟩
      · have hE : nwE b v L = 2 := by unfold nwE; rw [HGz.out, if_pos rfl, if_pos (.inr hbad)]
        rw [hE]
        rw [hbad] at HCA
        clear hE hbad
        go_enter Tryz.func10, Tryz.ntmps10
        go_wp2_with fail
        refine (HG.out _).mono ?_
        rintro e w1 ⟨rfl, hb1⟩
        have HB := Lib.hid ((SB.start b v hs w).next hb1)
        clear hb1
        go_wp2_with fail
        refine (HCA.out _ HB.out).mono ?_
        rintro e w2 ⟨rfl, n2, rfl⟩
        have HB2 := Lib.hid (HB.out.next (belowDrew w1 n2))
        clear HCA HB
        go_wp2
        go_ret2
        first | exact ⟨_, rfl, ⟨fun h => by omega, fun _ => rfl⟩, HB2.out.bel, fun h => by omega⟩ | exact ⟨_, rfl, ⟨fun h => by omega, fun _ => rfl⟩, HB2.out.bel⟩
  · have ht := gd_ten hg
    have hE : nwE b v L = 10 := by unfold nwE; rw [if_neg hg]
    rw [ht] at HG
    rw [hE]
    clear hg ht hE
    go_enter Tryz.func10, Tryz.ntmps10
    go_wp2_with fail
    refine (HG.out _).mono ?_
    rintro e w1 ⟨rfl, hb1⟩
    have HB := Lib.hid ((SB.start b v hs w).next hb1)
    clear hb1
    go_wp2
    go_ret2
    first | exact ⟨_, rfl, ⟨fun h => by omega, fun _ => rfl⟩, HB.out.bel, fun h => by omega⟩ | exact ⟨_, rfl, ⟨fun h => by omega, fun _ => rfl⟩, HB.out.bel⟩
end Go.Proofs.YtnmeohacdbmplaaGreatDoor
namespace Go.Proofs.YtnmeohacdbmplaaGreatDoor
open Go.RowKit
set_option maxHeartbeats 1000000 in
theorem feedGone (w : World) (g : Nat) (P : Pv) (h : PK w g P) (hb : 0 < P.b) (hw : P.why ≠ 0) (ba : Option Addr) (bn bcp : Nat) :
    Calls Tryz.prog 13 #[.pointer (some ⟨g, 0, none⟩), .slice ba bn bcp] w fun e w' => e = .returned (.tuple #[.slice none 0 0, .int .i64 170]) ∧ w' = w := by
  have HO : Hid (Calls Tryz.prog 37 #[.pointer (some ⟨g, 0, none⟩)] w fun e w' => e = .returned (.int .i64 170) ∧ w' = w) := by
    have h9 := openT w g P h hb
    rw [if_neg hw] at h9
    exact h9
  clear h hb hw
  go_enter Tryz.func13, Tryz.ntmps13
  go_wp2_with fail
  refine HO.out.mono ?_
  rintro e w0 ⟨rfl, rfl⟩
  go_wp2
  go_ret2
  exact ⟨rfl, rfl⟩
set_option maxHeartbeats 1000000 in
theorem sayGone (w : World) (g : Nat) (P : Pv) (h : PK w g P) (hb : 0 < P.b) (hw : P.why ≠ 0) (m : Mv) :
    Calls Tryz.prog 15 #[.pointer (some ⟨g, 0, none⟩), .agg m.cs] w fun e w' => e = .returned (.tuple #[.slice none 0 0, .int .i64 170]) ∧ Below w.heap.size w w' := by
  have bA : Below w.heap.size w (w.alloc (.cells m.cs 47)) := (Below.refl _ _).alloc (Nat.le_refl _) _
  have HB := Lib.hid bA
  have HO : Hid (Calls Tryz.prog 37 #[.pointer (some ⟨g, 0, none⟩)] (w.alloc (.cells m.cs 47)) fun e w' => e = .returned (.int .i64 170) ∧ w' = w.alloc (.cells m.cs 47)) := by
    have h9 := openT (w.alloc (.cells m.cs 47)) g P (h.keep (bA.block g h.lt)) hb
    rw [if_neg hw] at h9
    exact h9
  clear h hb hw bA
  generalize m.cs = mcs at *
  go_enter Tryz.func15, Tryz.ntmps15
  go_wp2_with fail
  refine HO.out.mono ?_
  rintro e w0 ⟨rfl, rfl⟩
  go_wp2
  go_ret2
  exact ⟨rfl, HB.out⟩
/-- a state as it is answered -/
def stc (a b : Bool) (y : Int) (c d e f : Bool) (hv : Value) : Value := .agg #[.bool a, .bool b, .int .i64 y, .bool c, .bool d, .bool e, .bool f, hv]
set_option maxHeartbeats 2000000 in
set_option maxRecDepth 100000 in
theorem stateSameT (w : World) (a b : Bool) (y : Int) (c d e f : Bool) (v1 v2 : Value) (H : List UInt8) (h1 : RB w v1 H) (h2 : RB w v2 H) (hl : H.length ≤ 140737488351232) :
    Calls Tryz.prog 16 #[stc a b y c d e f v1, stc a b y c d e f v2] w fun x w' => x = .returned (.bool true) ∧ Below w.heap.size w w' := by
  have bA : Below w.heap.size w ((w.alloc (.cells #[.bool a, .bool b, .int .i64 y, .bool c, .bool d, .bool e, .bool f, v1] 43)).alloc (.cells #[.bool a, .bool b, .int .i64 y, .bool c, .bool d, .bool e, .bool f, v2] 43)) := ((Below.refl _ _).alloc (Nat.le_refl _) _).alloc (by simp) _
  have HB := Lib.hid bA
  obtain ⟨a1, c1, rfl, _⟩ := id h1
  obtain ⟨a2, c2, rfl, _⟩ := id h2
  have HR := Lib.hid (And.intro (h1.keep bA) (h2.keep bA))
  clear bA h1 h2
  unfold stc
  go_enter Tryz.func16, Tryz.ntmps16
  go_wp2_with fail
  refine (same _ _ H _ hl HR.out.1 HR.out.2).mono ?_
  rintro x w2 ⟨rfl, n, rfl⟩
  go_wp2
  go_ret
  exact ⟨rfl, belowN HB.out n⟩
end Go.Proofs.YtnmeohacdbmplaaGreatDoor
namespace Go.Proofs.YtnmeohacdbmplaaGreatDoor.Fm
open Go.RowKit Go.Proofs.YtnmeohacdbmplaaGreatDoor
set_option maxHeartbeats 1000000 in
set_option maxRecDepth 100000 in
theorem greet (hb : List UInt8) (hl : hb.length = 48) (w : World) :
    Calls Tryz.prog 12 #[.agg (bc hb)] w fun e w' => ∃ v, e = .returned v ∧ OW w.heap.size w' v (sgn ++ hb) ∧ Below w.heap.size w w' := by
  have hmk : ∀ u : World, (Instr.makeSlice 31 (.int .i64 68) (.int .i64 68)).run Tryz.prog u = .ok (.slice (some ⟨u.heap.size, 0, none⟩) 68 68) (u.alloc (.cells (bc (zr 68)) 5)) := make_bytes 68 (by omega)
  have C1 : ∃ W1, (∀ ty, (Builtin.copy_ #[31, 9] ty #[.slice (some ⟨w.heap.size + 1, 0, none⟩) 68 68, .string { data := #[19, 66, 105, 116, 84, 111, 114, 114, 101, 110, 116, 32, 112, 114, 111, 116, 111, 99, 111, 108] }]).run Tryz.prog ((w.alloc (.cells (bc hb) 30)).alloc (.cells (bc (zr 68)) 5)) = .ok (goInt 20) W1) ∧ W1.heap[w.heap.size + 1]? = some (.cells (bc (sgn ++ zr 48)) 5 (0, 0)) ∧ W1.heap[w.heap.size]? = some (.cells (bc hb) 30 (0, 0)) ∧ Below w.heap.size w W1 := by
    have hg : ((w.alloc (.cells (bc hb) 30)).alloc (.cells (bc (zr 68)) 5)).heap[w.heap.size + 1]? = some (.cells (bc (zr 68)) 5 (0, 0)) := by
      have := heapNew (w.alloc (.cells (bc hb) 30)) (.cells (bc (zr 68)) 5)
      simpa using this
    refine ⟨_, fun ty => Lib.run_copy_row_string _ 31 9 ty 5 (w.heap.size + 1) 0 68 68 _ (bc (zr 68)) 5 Tryz.underlying31 hs5 hg (by decide) (by rw [bc_size, zr_len]; decide), ?_, ?_, belowSetRow (((Below.refl _ _).alloc (Nat.le_refl _) _).alloc (by simp) _) (by omega) _⟩
    · rw [heapSetRow _ _ _ _ _ hg]
      rfl
    · rw [setRow_other _ _ _ _ (by omega), heapOld _ _ _ (by simp), heapNew]
  obtain ⟨W1, hc1, hb1, hh1, B1⟩ := C1
  obtain ⟨W2, hc2, hb2, hh2, B2⟩ := copy_part w W1.drew (w.heap.size + 1) w.heap.size 20 0 8 _ hb 5 30 hb1 hh1 (by omega) (by omega) (by omega) (by simp [sgn, zr_len]) B1.drew
  rw [splice_at (o := 20) (by simp [sgn]) (cut_len hb 0 8 (by omega))] at hb2
  obtain ⟨W3, hc3, hb3, hh3, B3⟩ := copy_part w W2.drew (w.heap.size + 1) w.heap.size 28 8 20 _ hb 5 30 hb2 hh2 (by omega) (by omega) (by omega) (by simp [sgn, hl, zr_len]) B2.drew
  rw [splice_at (o := 28) (by simp [sgn, hl]) (cut_len hb 8 20 (by omega))] at hb3
  obtain ⟨W4, hc4, hb4, hh4, B4⟩ := copy_part w W3.drew (w.heap.size + 1) w.heap.size 48 28 20 _ hb 5 30 hb3 hh3 (by omega) (by omega) (by omega) (by simp [sgn, hl, zr_len]) B3.drew
  rw [splice_at (o := 48) (by simp [sgn, hl]) (cut_len hb 28 20 (by omega))] at hb4
  have HO : Hid (OW w.heap.size W4 (.slice (some ⟨w.heap.size + 1, 0, none⟩) 68 68) (sgn ++ hb) ∧ Below w.heap.size w W4) := by
    refine ⟨?_, B4⟩
    have hx : sgn.length = 20 := rfl
    have h68 : (sgn ++ hb).length = 68 := by simp [hx, hl]
    have := OW.of_block (B := w.heap.size) (cap := 68) (l := sgn ++ hb) (by omega) hb4 (by simp [hx, hl, zr_len]) ?_ (by simp [hx, hl, zr_len]) (by simp [hx, hl, maxLen, zr_len])
    · rw [h68] at this; exact this
    · rw [h68, List.take_of_length_le (by simp [hx, hl, zr_len])]
      rw [List.append_assoc sgn, cut_join hb 0 8 20, List.append_assoc sgn, cut_join hb 0 28 20]
      have hz : List.drop 20 (List.drop 20 (List.drop 8 (zr 48))) = [] := List.drop_eq_nil_of_le (by simp [zr_len])
      rw [hz, List.append_nil, List.drop_zero, List.take_of_length_le (by omega)]
  have c1 := hc1 3
  have c2 := hc2 3 48 48 8 (by omega)
  have c3 := hc3 3 40 40 20 (by omega)
  have c4 := hc4 3 20 20 20 (by omega)
  clear hb1 hh1 B1 hb2 hh2 B2 hb3 hh3 B3 hb4 hh4 B4 hc1 hc2 hc3 hc4 hl
  go_enter Tryz.func12, Tryz.ntmps12
  go_wp2
  go_region
  go_wp2
  go_region
  go_wp2
  go_region
  go_wp2
  go_ret
  exact ⟨_, rfl, HO.out⟩
end Go.Proofs.YtnmeohacdbmplaaGreatDoor.Fm
namespace Go.Proofs.YtnmeohacdbmplaaGreatDoor
open Go.RowKit
def fl8 : List UInt8 := [0, 0, 0, 0, 0, 0, 0, 16]
theorem fl_built : Tryz.prog.built 27 [(7, .int .u8 16)] = some (bc fl8) := by kernel_rfl
theorem yieldsIf_built1 {ops : Array Oper} {S : World → Prop} {op : Oper} {a : Act} (hw : Region.wanted op (yielded ops a.tmps) = true) (t : TypeId) (i0 : Nat) (x0 : Operand) (ho : op.op = .build t #[(i0, x0)]) (v0 : Value) (h0 : a.eval x0 = v0) (T : Array Value)
    (hT : Tryz.prog.built t [(i0, v0)] = some T) : YieldsIf Tryz.prog ops S op (.agg T) a :=
  .inl ⟨hw, fun w _ => by
    have hf : Tryz.prog.built t (#[(i0, x0)].map fun (i, x) => (i, a.eval x)).toList = some T := by
      rw [← hT]
      simp [h0]
    have h := run_build w t _ T hf
    unfold execOp
    simp only [ho, Sem.run_bind, h, Result.andThen_ok, Sem.run_pure]⟩
theorem yieldsIf_built3 {ops : Array Oper} {S : World → Prop} {op : Oper} {a : Act} (hw : Region.wanted op (yielded ops a.tmps) = true) (t : TypeId) (x0 x1 x2 : Operand) (ho : op.op = .build t #[(0, x0), (1, x1), (2, x2)]) (v0 v1 v2 : Value) (h0 : a.eval x0 = v0) (h1 : a.eval x1 = v1) (h2 : a.eval x2 = v2) (T : Array Value)
    (hT : Tryz.prog.built t [(0, v0), (1, v1), (2, v2)] = some T) : YieldsIf Tryz.prog ops S op (.agg T) a :=
  .inl ⟨hw, fun w _ => by
    have hf : Tryz.prog.built t (#[(0, x0), (1, x1), (2, x2)].map fun (i, x) => (i, a.eval x)).toList = some T := by
      rw [← hT]
      simp [h0, h1, h2]
    have h := run_build w t _ T hf
    unfold execOp
    simp only [ho, Sem.run_bind, h, Result.andThen_ok, Sem.run_pure]⟩
theorem built30 (parts : List (Nat × Value)) : Tryz.prog.built 30 parts = Instr.fill (([(0, 8), (8, 20), (28, 20)] : List (Nat × Nat)).toArray[·]?) (bc (zr 48)) parts := by kernel_rfl
/-- one part of a struct is laid -/
theorem fill_part (pl : Nat → Option (Nat × Nat)) (A M C : List UInt8) (pr : List UInt8) (i off : Nat) (rest : List (Nat × Value)) (hp : pl i = some (off, pr.length)) (hA : A.length = off) (hM : M.length = pr.length) :
    Instr.fill pl (bc (A ++ M ++ C)) ((i, .agg (bc pr)) :: rest) = Instr.fill pl (bc (A ++ pr ++ C)) rest := by
  have hc : (Value.agg (bc pr)).cells = bc pr := rfl
  conv => lhs; unfold Instr.fill
  rw [hp]
  simp only [hc, bc_size]
  rw [if_neg (by simp [hA, hM])]
  congr 1
  apply Array.ext'
  rw [← Array.foldl_toList, Array.toList_zipIdx]
  have q := foldl_off off (bc pr).toList 0 (bc (A ++ M ++ C)) (by rw [Array.length_toList, bc_size, bc_size]; simp [hA, hM])
  rw [q]
  rw [bc_list, bc_list, bc_list, Nat.add_zero, bcl_len, bcl_append, bcl_append, bcl_append, bcl_append]
  have d1 : (Lib.byteCells A ++ Lib.byteCells M ++ Lib.byteCells C).take off = Lib.byteCells A := by rw [List.append_assoc, List.take_left' (by rw [bcl_len, hA])]
  have d2 : (Lib.byteCells A ++ Lib.byteCells M ++ Lib.byteCells C).drop (off + pr.length) = Lib.byteCells C := List.drop_left' (by rw [List.length_append, bcl_len, bcl_len, hA, hM])
  rw [d1, d2]
theorem hello_built (i m : List UInt8) (hi : i.length = 20) (hm : m.length = 20) : Tryz.prog.built 30 [(0, .agg (bc fl8)), (1, .agg (bc i)), (2, .agg (bc m))] = some (bc (fl8 ++ i ++ m)) := by
  rw [built30]
  have e0 : bc (zr 48) = bc ([] ++ zr 8 ++ zr 40) := rfl
  rw [e0, fill_part _ [] (zr 8) (zr 40) fl8 0 0 _ rfl rfl rfl]
  have e1 : bc ([] ++ fl8 ++ zr 40) = bc (fl8 ++ zr 20 ++ zr 20) := rfl
  rw [e1, fill_part _ fl8 (zr 20) (zr 20) i 1 8 _ (by rw [hi]; rfl) rfl (by rw [hi]; rfl)]
  have e2 : fl8 ++ i ++ zr 20 = (fl8 ++ i) ++ zr 20 ++ [] := by simp
  rw [e2, fill_part _ (fl8 ++ i) (zr 20) [] m 2 28 _ (by rw [hm]; rfl) (by rw [List.length_append, hi]; rfl) (by rw [hm]; rfl)]
  unfold Instr.fill
  simp
set_option maxHeartbeats 2000000 in
set_option maxRecDepth 100000 in
theorem greetP (w : World) (g : Nat) (P : Pv) (h : PK w g P) (hb : 0 < P.b) (me : List UInt8) (hme : me.length = 20) :
    Calls Tryz.prog 27 #[.pointer (some ⟨g, 0, none⟩), .agg (bc me)] w fun e w' => ∃ v, e = .returned v ∧ OW w.heap.size w' v (Fm.sgn ++ (fl8 ++ P.info ++ me)) ∧ Below w.heap.size w w' := by
  have bA : Below w.heap.size w (w.alloc (.cells (bc me) 28)) := (Below.refl _ _).alloc (Nat.le_refl _) _
  have HBA := Lib.hid bA
  have HK1 := Lib.hid (h.keep (bA.block g h.lt))
  have HM : Hid (Calls Tryz.prog 41 #[.pointer (some ⟨g, 0, none⟩)] (w.alloc (.cells (bc me) 28)) fun e w' => e = .returned (.bool false) ∧ w' = w.alloc (.cells (bc me) 28)) := missingT _ g P HK1.out hb
  have hP := h.1
  have hi1 : (Tryz.prog.info? 28).map (·.size) = some (Lib.byteCells P.info).length := by rw [bcl_len, hP]; exact info20
  have hi2 : (Tryz.prog.info? 28).map (·.size) = some (Lib.byteCells me).length := by rw [bcl_len, hme]; exact info20
  have rowOf : ∀ u : World, u.heap[w.heap.size]? = some (.cells (bc me) 28 (0, 0)) → u.rangeAt w.heap.size 0 (Lib.byteCells me) := fun u hu j v hj => by
    rw [Nat.zero_add]
    simp only [World.cell?, hu, bc]
    simpa using hj
  have HRI : Hid ((w.alloc (.cells (bc me) 28)).rangeAt g 0 (Lib.byteCells P.info)) := HK1.out.infoR
  have HRM : Hid ((w.alloc (.cells (bc me) 28)).rangeAt w.heap.size 0 (Lib.byteCells me)) := rowOf _ (heapNew _ _)
  have hkeep : ∀ w2, Below (w.alloc (.cells (bc me) 28)).drew.heap.size (w.alloc (.cells (bc me) 28)).drew w2 → w2.rangeAt g 0 (Lib.byteCells P.info) ∧ w2.rangeAt w.heap.size 0 (Lib.byteCells me) := fun w2 b2 => ⟨(HK1.out.keep (b2.block g HK1.out.lt)).infoR, rowOf _ ((b2.block w.heap.size (by show w.heap.size < (w.heap.push _).size; simp)).trans (heapNew _ _))⟩
  clear bA h rowOf
  go_enter Tryz.func27, Tryz.ntmps27
  go_wp2_with fail
  refine HM.out.mono ?_
  rintro e w1 ⟨rfl, rfl⟩
  go_upto_region 3 with fail
  refine wp_region_held_drew (S := fun u => u.rangeAt g 0 (Lib.byteCells P.info) ∧ u.rangeAt w.heap.size 0 (Lib.byteCells me)) (by kernel_rfl) (⟨HRI.out, HRM.out⟩) (fun hHeld => ?_)
  refine wpAnyH_take (i := 0) (v := .agg (bc fl8)) rfl (by kernel_rfl) (by kernel_rfl) (by kernel_rfl) (fun _ _ _ h => h) (yieldsIf_built1 (by rfl) 27 7 _ rfl (.int .u8 16) rfl _ fl_built) hHeld ?_
  simp only [Act.put, List.getElem_toArray, List.getElem_cons_zero, List.setIfInBounds_toArray, List.set_cons_zero, List.set_cons_succ]
  refine wpAnyH_take (i := 1) (v := .pointer (some ⟨g, 0, none⟩)) rfl (by kernel_rfl) (by kernel_rfl) (by kernel_rfl) (fun _ _ _ h => h) (Or.inl ⟨by rfl, fun w hw => by go_simp⟩) hHeld ?_
  simp only [Act.put, List.getElem_toArray, List.getElem_cons_zero, List.getElem_cons_succ, List.setIfInBounds_toArray, List.set_cons_zero, List.set_cons_succ]
  refine wpAnyH_take (i := 2) (v := .pointer (some ⟨g, 0, none⟩)) rfl (by kernel_rfl) (by kernel_rfl) (by kernel_rfl) (fun _ _ _ h => h) (Or.inl ⟨by rfl, fun w hw => by go_simp⟩) hHeld ?_
  simp only [Act.put, List.getElem_toArray, List.getElem_cons_zero, List.getElem_cons_succ, List.setIfInBounds_toArray, List.set_cons_zero, List.set_cons_succ]
  refine wpAnyH_take (i := 3) (v := .pointer (some ⟨g, 0, none⟩)) rfl (by kernel_rfl) (by kernel_rfl) (by kernel_rfl) (fun _ _ _ h => h) (Or.inl ⟨by rfl, fun w hw => by go_simp⟩) hHeld ?_
  simp only [Act.put, List.getElem_toArray, List.getElem_cons_zero, List.getElem_cons_succ, List.setIfInBounds_toArray, List.set_cons_zero, List.set_cons_succ]
  refine wpAnyH_take (i := 4) (v := .pointer (some ⟨g, 0, none⟩)) rfl (by kernel_rfl) (by kernel_rfl) (by kernel_rfl) (fun _ _ _ h => h) (Or.inl ⟨by rfl, fun w hw => by go_simp⟩) hHeld ?_
  simp only [Act.put, List.getElem_toArray, List.getElem_cons_zero, List.getElem_cons_succ, List.setIfInBounds_toArray, List.set_cons_zero, List.set_cons_succ]
  refine wpAnyH_take (i := 5) (v := .agg (bc P.info)) rfl (by kernel_rfl) (by kernel_rfl) (by kernel_rfl) (fun _ _ _ h => h) (yieldsIf_load_mid (by rfl) _ _ rfl _ _ rfl _ _ (fun u hw => hw.1) Tryz.underlying28 rfl hi1) hHeld ?_
  simp only [Act.put, List.getElem_toArray, List.getElem_cons_zero, List.getElem_cons_succ, List.setIfInBounds_toArray, List.set_cons_zero, List.set_cons_succ]
  refine wpAnyH_take (i := 6) (v := .agg (bc me)) rfl (by kernel_rfl) (by kernel_rfl) (by kernel_rfl) (fun _ _ _ h => h) (yieldsIf_load_mid (by rfl) _ _ rfl _ _ rfl _ _ (fun u hw => hw.2) Tryz.underlying28 rfl hi2) hHeld ?_
  simp only [Act.put, List.getElem_toArray, List.getElem_cons_zero, List.getElem_cons_succ, List.setIfInBounds_toArray, List.set_cons_zero, List.set_cons_succ]
  refine wpAnyH_take (i := 7) (v := .agg (bc (fl8 ++ P.info ++ me))) rfl (by kernel_rfl) (by kernel_rfl) (by kernel_rfl) (fun _ _ _ h => h) (yieldsIf_built3 (by rfl) 30 _ _ _ rfl (.agg (bc fl8)) (.agg (bc P.info)) (.agg (bc me)) rfl rfl rfl _ (hello_built P.info me hP hme)) hHeld ?_
  simp only [Act.put, List.getElem_toArray, List.getElem_cons_zero, List.getElem_cons_succ, List.setIfInBounds_toArray, List.set_cons_zero, List.set_cons_succ]
  refine wpAnyH_ready (rs := [8]) (by kernel_rfl) (by simp) ?_
  refine AllReadyH.cons (o := _) rfl (fun K hK => ?_) AllReadyH.nil
  go_simp
  refine (Fm.greet (fl8 ++ P.info ++ me) (by simp [hP, hme, fl8]) _).mono ?_
  rintro e w2 ⟨v2, rfl, o2, b2⟩
  obtain ⟨a2, c2, rfl⟩ := o2.form
  have HO2 := Lib.hid (And.intro o2 b2)
  have K2 := hkeep w2 b2
  clear o2 b2
  obtain ⟨n2, hn2⟩ : ∃ k, k = (Fm.sgn ++ (fl8 ++ P.info ++ me)).length := ⟨_, rfl⟩
  rw [← hn2] at HO2 ⊢
  clear hn2
  go_wp2_with fail
  refine hK.out _ _ K2 (fun hHeld => ?_)
  clear hK K K2
  refine wpAnyH_take (i := 9) (v := .slice a2 n2 c2) rfl (by kernel_rfl) (by kernel_rfl) (by kernel_rfl) (fun _ _ _ h => h) (Or.inl ⟨by rfl, fun w hw => by go_simp⟩) hHeld ?_
  simp only [Act.put, List.getElem_toArray, List.getElem_cons_zero, List.getElem_cons_succ, List.setIfInBounds_toArray, List.set_cons_zero, List.set_cons_succ]
  refine wpAnyH_done (by kernel_rfl) ?_ _
  clear hHeld
  have HEnd : Hid (OW w.heap.size w2 (.slice a2 n2 c2) (Fm.sgn ++ (fl8 ++ P.info ++ me)) ∧ Below w.heap.size w w2) := ⟨OW.mono HO2.out.1 (by show w.heap.size ≤ (w.heap.push _).size; simp), (belowN HBA.out 1).trans (HO2.out.2.mono (by show w.heap.size ≤ (w.heap.push _).size; simp))⟩
  clear HO2 hkeep
  go_wp2
  go_ret
  exact ⟨_, rfl, HEnd.out.1, HEnd.out.2⟩
end Go.Proofs.YtnmeohacdbmplaaGreatDoor
