import Derived.Test.YtpojcdepifeniaaDoorBl
import Derived.Deep.RegionWith
namespace Go.Proofs.YtpojcdepifeniaaDoor
open Go.RowKit
theorem drop_getD (R : List (Nat × Nat)) (k : Nat) (h : k < R.length) : R.drop k = R.getD k (0, 0) :: R.drop (k + 1) := by
  rw [List.drop_eq_getElem_cons h]; simp [List.getD, List.getElem?_eq_getElem h]
set_option maxRecDepth 20000 in
set_option maxHeartbeats 4000000 in
theorem runsback6 (m : Nat) (hm6 : m ≤ 65536) (v : Value) (zs : List Int) (w : World) (hv : RZ w v zs) (hm : MT w) (hlz : zs.length ≤ 17592186043904) :
    Calls Tryd.prog 6 #[.int .i64 m, v] w fun e w' => e = .returned (.bool true) ∧ Below w.heap.size w w' := by
  have HR : Hid (RZ w v zs ∧ MT w) := ⟨hv, hm⟩
  obtain ⟨a, c, rfl, kv⟩ := hv.form
  have HV : Hid (zs = [] ∨ ∃ g o, a = some ⟨g, o, none⟩ ∧ g < w.heap.size ∧ ∀ i, i < zs.length → w.cell? ⟨g, o + i, none⟩ = some (.int .i64 (iz zs i))) := kv
  clear hm hv kv
  go_enter Tryd.func6, Tryd.ntmps6
  go_wp2
  go_loopw [7, 8] (fun x i wr => ∃ (k : Nat) (a3 : Option Addr) (c3 : Nat), k ≤ zs.length ∧ i = .int .i64 k ∧ x = .slice a3 (fz m (zs.take k)).length c3 ∧ OZ w.heap.size wr x (fz m (zs.take k)) ∧ Below w.heap.size w wr) (fun _ i _ => zs.length - (intOf i).toNat)
  case atStart => exact ⟨0, none, 0, Nat.zero_le _, rfl, rfl, World.ownsRow_nil _ _ _ _, Below.refl _ _⟩
  case round =>
    obtain ⟨k, a3, c3, hk, rfl, rfl, ho3, hb3⟩ := hrel
    by_cases hlt : k < zs.length
    · rcases HV.out with h | ⟨g, o, rfl, hg, hc⟩
      · rw [h] at hlt; simp at hlt
      have q1 := (hb3.cell (p := ⟨g, o + k, none⟩) hg).trans (hc k hlt)
      have hB := hb3.size
      have HP : Hid (OZ w.heap.size wr (.slice a3 (fz m (zs.take k)).length c3) (fz m (zs.take k)) ∧ Below w.heap.size w wr) := ⟨ho3, hb3⟩
      by_cases hin : 0 ≤ iz zs k ∧ iz zs k < m
      · have HS : Hid (fz m (zs.take (k + 1)) = fz m (zs.take k) ++ [iz zs k] ∧ (fz m (zs.take k)).length ≤ k) := ⟨fz_yes hlt hin.1 hin.2, Nat.le_trans (fz_len _ _) (by rw [List.length_take]; omega)⟩
        obtain ⟨i1, i2⟩ := hin
        clear ho3 hb3 hc HV
        generalize iz zs k = z at *
        go_wp2_with (at_builtin; refine append_int rfl _ _ rfl rfl (HP.out.1.alloc _) wr.heap.size z rfl (by go_simp) (by simp; omega) (by have := HS.out.2; omega) ?_; (intro v' w3 ho' hb'; obtain ⟨a4, c4, rfl⟩ := ho'.form))
        have hlen : (fz m (zs.take k)).length + 1 = (fz m (zs.take (k + 1))).length := by rw [HS.out.1]; simp
        have ho4 : OZ w.heap.size w3 (.slice a4 ((fz m (zs.take k)).length + 1) c4) (fz m (zs.take (k + 1))) := by rw [HS.out.1]; simpa using ho'
        exact ⟨⟨k + 1, a4, c4, by omega, by go_num, by rw [hlen], ho4, (HP.out.2.alloc hB _).trans hb'⟩, by simp [intOf]; omega⟩
      · have he : fz m (zs.take (k + 1)) = fz m (zs.take k) := fz_no hlt hin
        have HE : Hid (fz m (zs.take (k + 1)) = fz m (zs.take k)) := he
        clear ho3 hb3 hc HV he
        generalize iz zs k = z at *
        by_cases i1 : 0 ≤ z
        · have i2 : ¬ z < m := fun h => hin ⟨i1, h⟩
          clear hin
          go_wp2
          exact ⟨⟨k + 1, a3, c3, by omega, by go_num, by rw [HE.out], by rw [HE.out]; exact HP.out.1, HP.out.2⟩, by simp [intOf]; omega⟩
        · clear hin
          go_wp2
          exact ⟨⟨k + 1, a3, c3, by omega, by go_num, by rw [HE.out], by rw [HE.out]; exact HP.out.1, HP.out.2⟩, by simp [intOf]; omega⟩
    · obtain rfl : k = zs.length := by omega
      rw [List.take_length] at ho3
      have hosl : (fz m zs).length ≤ 17592186043904 := Nat.le_trans (fz_len _ _) hlz
      rw [List.take_length]
      have HIN : Hid (∀ z ∈ fz m zs, 0 ≤ z ∧ z < m) := fun z hz => fz_mem hz
      have H1 : Hid (RZ wr (.slice a3 (fz m zs).length c3) (fz m zs) ∧ MT wr ∧ Below w.heap.size w wr) := ⟨ho3.rz, HR.out.2.keep hb3, hb3⟩
      clear ho3 hb3 HV HR
      generalize fz m zs = os at *
      go_wp2_with fail
      refine (of17 m hm6 _ os _ H1.out.1 hosl H1.out.2.1).mono ?_
      rintro e w2 ⟨vb, b, er, rfl, hob, hor, hb2⟩
      obtain ⟨rfl, hbf⟩ := of10_in hor HIN.out
      clear hor
      obtain ⟨ab, cb, rfl⟩ := hob.form
      have hckb : ck m b = 0 := ck_of_bf hm6 hbf
      have hbl : b.length ≤ 8192 := by have := hbf.1; omega
      have H2 : Hid (RZ w2 (.slice a3 os.length c3) os ∧ MT w2 ∧ RB w2 (.slice ab b.length cb) b ∧ Below w.heap.size w w2) := ⟨H1.out.1.keep hb2, H1.out.2.1.keep hb2, hob.rb, H1.out.2.2.trans (hb2.mono H1.out.2.2.size)⟩
      have HB : Hid (BF m (fun i => decide ((i : Int) ∈ os)) b ∧ ck m b = 0) := ⟨hbf, hckb⟩
      have HRUN : Hid (∀ (v : Value) (w : World), RB w v b → MT w → Calls Tryd.prog 20 #[.int .i64 m, v] w fun e w' => ∃ v', e = .returned (.tuple #[v', .int .i64 0]) ∧ OU w.heap.size w' v' (rs b m) ∧ Below w.heap.size w w') := fun v w hr hm => by
        have := runs17 m (by omega) (by omega) v b w hr hm (by omega) hckb
        rw [rp_whole hckb, Int.toNat_natCast] at this
        exact this
      clear H1 hob hb2 hbf hckb
      go_wp2_with fail
      refine (HRUN.out _ _ H2.out.2.2.1 H2.out.2.1).mono ?_
      rintro e w3 ⟨v3, rfl, ho3, hb3⟩
      have HQ : Hid (RSq b m 0 (rs b m) ∧ (rs b m).length ≤ m) := ⟨rsq_rs b m, rs_len b m⟩
      obtain ⟨a4, c4, rfl, k4⟩ := ho3.rq
      have HC4 : Hid (rs b m = [] ∨ ∃ g, a4 = some ⟨g, 0, none⟩ ∧ g < w3.heap.size ∧ ∀ i, i < (rs b m).length → w3.cell? ⟨g, i * 2, none⟩ = some (.int .i64 (((rs b m).getD i (0, 0)).1 : Int)) ∧ w3.cell? ⟨g, i * 2 + 1, none⟩ = some (.int .i64 (((rs b m).getD i (0, 0)).2 : Int))) := k4
      have H3 : Hid (RZ w3 (.slice a3 os.length c3) os ∧ MT w3 ∧ RB w3 (.slice ab b.length cb) b ∧ Below w.heap.size w w3) := ⟨H2.out.1.keep hb3, H2.out.2.1.keep hb3, H2.out.2.2.1.keep hb3, H2.out.2.2.2.trans (hb3.mono H2.out.2.2.2.size)⟩
      clear ho3 hb3 k4 H2 HRUN
      generalize rs b m = R at *
      go_wp2_with fail
      go_loopw [12, 13, 14] (fun x y i wr => ∃ k s t : Nat, k ≤ R.length ∧ i = .int .i64 k ∧ x = .int .i64 s ∧ y = .int .i64 t ∧ RSq b m s (R.drop k) ∧ (0 < k → s = m ∨ bit b s = false) ∧ (on1 b s).length = t ∧ Below w3.heap.size w3 wr) (fun _ _ i _ => R.length - (intOf i).toNat)
      case atStart => exact ⟨0, 0, 0, Nat.zero_le _, rfl, rfl, rfl, HQ.out.1, fun h => by omega, Nat.le_zero.1 (on1_len b 0), Below.refl _ _⟩
      case round =>
        obtain ⟨k, s, t, hk, rfl, rfl, rfl, hrs, hsb, hcn, hbw⟩ := hrel
        by_cases hlt : k < R.length
        · have HL := Lib.hid hlt
          rw [drop_getD R k hlt] at hrs
          rcases HC4.out with h | ⟨g, rfl, hg, hc⟩
          · rw [h] at hlt; simp at hlt
          obtain ⟨q1, q2⟩ := hc k hlt
          have q1' := (hbw.cell (p := ⟨g, k * 2, none⟩) hg).trans q1
          have q2' := (hbw.cell (p := ⟨g, k * 2 + 1, none⟩) hg).trans q2
          clear hc q1 q2
          generalize R.getD k (0, 0) = p at *
          obtain ⟨x, y⟩ := p
          obtain ⟨r1, r2, r3, r4, r5, r6, r7⟩ := hrs
          have hsz := hbw.size
          have hne : 0 < k → x ≠ s := fun h e => by
            subst e
            rcases hsb h with h' | h'
            · omega
            · rw [r5 x (Nat.le_refl _) (by omega)] at h'; cases h'
          have hcn2 : (on1 b (x + y)).length = t + y := by
            rw [on1_ones b x y (by omega) r5]
            obtain ⟨d, rfl⟩ : ∃ d, x = s + d := ⟨x - s, by omega⟩
            rw [on1_zeros b s d r4, hcn]
          have HN1 : Hid (NX m b s true x) := ⟨r1, by omega, fun j h1 h2 => by rw [r4 j h1 h2]; rfl, fun _ => r5 x (Nat.le_refl _) (by omega)⟩
          have HN2 : Hid (NX m b x false (x + y)) := ⟨by omega, r3, fun j h1 h2 => by rw [r5 j h1 h2]; rfl, fun h => by rcases r6 with h' | h'; omega; exact h'⟩
          have HMEM : Hid (∀ j, x ≤ j → j < x + y → (j : Int) ∈ os) := fun j h1 h2 => by
            have := HB.out.1.2 j
            rw [r5 j h1 h2] at this
            simp at this
            exact this.2
          have HK : Hid (RSq b m (x + y) (R.drop (k + 1)) ∧ (0 < k + 1 → x + y = m ∨ bit b (x + y) = false) ∧ (on1 b (x + y)).length = t + y ∧ Below w3.heap.size w3 wr) := ⟨r7, fun _ => r6, hcn2, hbw⟩
          have f1 : ¬ (y : Int) < 1 := by omega
          have f2 : ¬ (x : Int) < (s : Int) := by omega
          have f3 : IntKind.i64.wrap ((m : Int) - (y : Int)) = ((m - y : Nat) : Int) := by
            rw [show (m : Int) - (y : Int) = ((m - y : Nat) : Int) by omega]; exact wrap_nat' _ (by omega)
          have f4 : ¬ ((m - y : Nat) : Int) < (x : Int) := by omega
          clear hcn hcn2 hsb r4 r5 r6 r7 hbw
          generalize hmy : m - y = my at *
          by_cases hk0 : 0 < k
          · have f5 : (x = s) = False := by simpa using hne hk0
            have f6 : ((x : Int) = (s : Int)) = False := by have := hne hk0; simp; omega
            have f7 : ((x : Int) == (s : Int)) = false := by have := hne hk0; simp; omega
            clear hne
            go_wp2_with fail
            have HWB : Hid (Below w3.heap.size w3 (wr.alloc (Obj.cells #[.int .i64 (x : Int), .int .i64 (y : Int)] 39))) := HK.out.2.2.2.alloc hsz _
            refine (next_is hm6 HB.out.2 (by omega) HN1.out _ _ (H3.out.2.2.1.keep HWB.out) (H3.out.2.1.keep HWB.out)).mono ?_
            rintro e _ ⟨rfl, n5, rfl⟩
            have c0 : ((wr.alloc (Obj.cells #[.int .i64 (x : Int), .int .i64 (y : Int)] 39)).drewN n5).cell? ⟨wr.heap.size, 0, none⟩ = some (.int .i64 (x : Int)) := cells_two_new wr _ _ 39 0 _ rfl
            have c1 : ((wr.alloc (Obj.cells #[.int .i64 (x : Int), .int .i64 (y : Int)] 39)).drewN n5).cell? ⟨wr.heap.size, 1, none⟩ = some (.int .i64 (y : Int)) := cells_two_new wr _ _ 39 1 _ rfl
            have H5 : Hid (Below w3.heap.size w3 ((wr.alloc (Obj.cells #[.int .i64 (x : Int), .int .i64 (y : Int)] 39)).drewN n5)) := belowN HWB.out _
            clear HWB
            generalize (wr.alloc (Obj.cells #[.int .i64 (x : Int), .int .i64 (y : Int)] 39)).drewN n5 = w5 at *
            generalize wr.heap.size = G at *
            go_wp2_with fail
            refine (next_is hm6 HB.out.2 (by omega) HN2.out _ _ (H3.out.2.2.1.keep H5.out) (H3.out.2.1.keep H5.out)).mono ?_
            rintro e _ ⟨rfl, n6, rfl⟩
            have d0 : (w5.drewN n6).cell? ⟨G, 0, none⟩ = some (.int .i64 (x : Int)) := c0
            have d1 : (w5.drewN n6).cell? ⟨G, 1, none⟩ = some (.int .i64 (y : Int)) := c1
            have H6 : Hid (Below w3.heap.size w3 (w5.drewN n6)) := belowN H5.out _
            have f8 : (x : Int) + (y : Int) = ((x + y : Nat) : Int) := by omega
            have f9 : IntKind.i64.wrap ((x + y : Nat) : Int) = ((x + y : Nat) : Int) := wrap_nat' _ (by omega)
            have f10 : (t : Int) + (y : Int) = ((t + y : Nat) : Int) := by omega
            have f11 : IntKind.i64.wrap ((t + y : Nat) : Int) = ((t + y : Nat) : Int) := wrap_nat' _ (by have := on1_len b (x + y); have := HK.out.2.2.1; omega)
            have hxE : x ≤ x + y := by omega
            have hEm : x + y ≤ m := r3
            clear c0 c1 H5 HN1 HN2 r3
            generalize w5.drewN n6 = w6 at *
            generalize x + y = E at *
            generalize t + y = ty at *
            go_wp2_with fail
            go_loopw [20] (fun i wr' => ∃ j nq : Nat, x ≤ j ∧ j ≤ E ∧ i = .int .i64 j ∧ wr' = w6.drewN nq) (fun i _ => E - (intOf i).toNat)
            case atStart => exact ⟨x, 0, Nat.le_refl _, hxE, rfl, rfl⟩
            case round =>
              obtain ⟨j, nq, hj1, hj2, rfl, rfl⟩ := hrel
              by_cases hjE : j < E
              · have HH : Hid (Calls Tryd.prog 22 #[.slice a3 os.length c3, .int .i64 j] (w6.drewN nq) fun e w'' => e = .returned (.bool true) ∧ ∃ n2, w'' = (w6.drewN nq).drewN n2) := by
                  have := has12 _ os j (w6.drewN nq) (H3.out.1.keep (belowN H6.out _)) (by omega)
                  rw [decide_eq_true (HMEM.out j hj1 hjE)] at this
                  exact this
                go_wp2_with fail
                refine HH.out.mono ?_
                rintro e _ ⟨rfl, n7, rfl⟩
                go_wp2_with fail
                exact ⟨⟨j + 1, _, by omega, by omega, by go_num, rfl⟩, by simp [intOf]; omega⟩
              · obtain rfl : j = E := by omega
                have d2 : (w6.drewN nq).cell? ⟨G, 1, none⟩ = some (.int .i64 (y : Int)) := d1
                have hk6 : k + 1 ≤ R.length ∧ k + 1 ≤ 65537 := by have := HL.out; have := HQ.out.2; omega
                have hk7 : IntKind.i64.wrap ((k : Int) + 1) = ((k + 1 : Nat) : Int) := by rw [show (k : Int) + 1 = ((k + 1 : Nat) : Int) by omega]; exact wrap_nat' _ (by omega)
                go_wp2_with fail
                exact ⟨⟨k + 1, j, ty, (by have := HL.out; omega), by go_num, rfl, rfl, HK.out.1, HK.out.2.1, HK.out.2.2.1, belowN H6.out _⟩, by have := HL.out; simp [intOf]; omega⟩
          · have f5 : (0 < k) = False := by simpa using hk0
            clear hne hk0
            go_wp2_with fail
            have HWB : Hid (Below w3.heap.size w3 (wr.alloc (Obj.cells #[.int .i64 (x : Int), .int .i64 (y : Int)] 39))) := HK.out.2.2.2.alloc hsz _
            refine (next_is hm6 HB.out.2 (by omega) HN1.out _ _ (H3.out.2.2.1.keep HWB.out) (H3.out.2.1.keep HWB.out)).mono ?_
            rintro e _ ⟨rfl, n5, rfl⟩
            have c0 : ((wr.alloc (Obj.cells #[.int .i64 (x : Int), .int .i64 (y : Int)] 39)).drewN n5).cell? ⟨wr.heap.size, 0, none⟩ = some (.int .i64 (x : Int)) := cells_two_new wr _ _ 39 0 _ rfl
            have c1 : ((wr.alloc (Obj.cells #[.int .i64 (x : Int), .int .i64 (y : Int)] 39)).drewN n5).cell? ⟨wr.heap.size, 1, none⟩ = some (.int .i64 (y : Int)) := cells_two_new wr _ _ 39 1 _ rfl
            have H5 : Hid (Below w3.heap.size w3 ((wr.alloc (Obj.cells #[.int .i64 (x : Int), .int .i64 (y : Int)] 39)).drewN n5)) := belowN HWB.out _
            clear HWB
            generalize (wr.alloc (Obj.cells #[.int .i64 (x : Int), .int .i64 (y : Int)] 39)).drewN n5 = w5 at *
            generalize wr.heap.size = G at *
            go_wp2_with fail
            refine (next_is hm6 HB.out.2 (by omega) HN2.out _ _ (H3.out.2.2.1.keep H5.out) (H3.out.2.1.keep H5.out)).mono ?_
            rintro e _ ⟨rfl, n6, rfl⟩
            have d0 : (w5.drewN n6).cell? ⟨G, 0, none⟩ = some (.int .i64 (x : Int)) := c0
            have d1 : (w5.drewN n6).cell? ⟨G, 1, none⟩ = some (.int .i64 (y : Int)) := c1
            have H6 : Hid (Below w3.heap.size w3 (w5.drewN n6)) := belowN H5.out _
            have f8 : (x : Int) + (y : Int) = ((x + y : Nat) : Int) := by omega
            have f9 : IntKind.i64.wrap ((x + y : Nat) : Int) = ((x + y : Nat) : Int) := wrap_nat' _ (by omega)
            have f10 : (t : Int) + (y : Int) = ((t + y : Nat) : Int) := by omega
            have f11 : IntKind.i64.wrap ((t + y : Nat) : Int) = ((t + y : Nat) : Int) := wrap_nat' _ (by have := on1_len b (x + y); have := HK.out.2.2.1; omega)
            have hxE : x ≤ x + y := by omega
            have hEm : x + y ≤ m := r3
            clear c0 c1 H5 HN1 HN2 r3
            generalize w5.drewN n6 = w6 at *
            generalize x + y = E at *
            generalize t + y = ty at *
            go_wp2_with fail
            go_loopw [20] (fun i wr' => ∃ j nq : Nat, x ≤ j ∧ j ≤ E ∧ i = .int .i64 j ∧ wr' = w6.drewN nq) (fun i _ => E - (intOf i).toNat)
            case atStart => exact ⟨x, 0, Nat.le_refl _, hxE, rfl, rfl⟩
            case round =>
              obtain ⟨j, nq, hj1, hj2, rfl, rfl⟩ := hrel
              by_cases hjE : j < E
              · have HH : Hid (Calls Tryd.prog 22 #[.slice a3 os.length c3, .int .i64 j] (w6.drewN nq) fun e w'' => e = .returned (.bool true) ∧ ∃ n2, w'' = (w6.drewN nq).drewN n2) := by
                  have := has12 _ os j (w6.drewN nq) (H3.out.1.keep (belowN H6.out _)) (by omega)
                  rw [decide_eq_true (HMEM.out j hj1 hjE)] at this
                  exact this
                go_wp2_with fail
                refine HH.out.mono ?_
                rintro e _ ⟨rfl, n7, rfl⟩
                go_wp2_with fail
                exact ⟨⟨j + 1, _, by omega, by omega, by go_num, rfl⟩, by simp [intOf]; omega⟩
              · obtain rfl : j = E := by omega
                have d2 : (w6.drewN nq).cell? ⟨G, 1, none⟩ = some (.int .i64 (y : Int)) := d1
                have hk6 : k + 1 ≤ R.length ∧ k + 1 ≤ 65537 := by have := HL.out; have := HQ.out.2; omega
                have hk7 : IntKind.i64.wrap ((k : Int) + 1) = ((k + 1 : Nat) : Int) := by rw [show (k : Int) + 1 = ((k + 1 : Nat) : Int) by omega]; exact wrap_nat' _ (by omega)
                go_wp2_with fail
                exact ⟨⟨k + 1, j, ty, (by have := HL.out; omega), by go_num, rfl, rfl, HK.out.1, HK.out.2.1, HK.out.2.2.1, belowN H6.out _⟩, by have := HL.out; simp [intOf]; omega⟩
        · obtain rfl : k = R.length := by omega
          rw [List.drop_length] at hrs
          have HN : Hid (NX m b s true m) := ⟨hrs.1, Nat.le_refl _, fun j h1 h2 => by rw [hrs.2 j h1 h2]; rfl, fun h => by omega⟩
          have hsm := hrs.1
          have HT : Hid ((on1 b (8 * b.length)).length = t) := by
            obtain ⟨_, _, k2, k3⟩ := ck_ok HB.out.2
            rw [Int.toNat_natCast] at k2 k3
            obtain ⟨d, hd⟩ := Nat.exists_eq_add_of_le (show m ≤ 8 * b.length by omega)
            obtain ⟨d2, hd2⟩ := Nat.exists_eq_add_of_le hsm
            rw [hd, on1_ext b m d k3, hd2, on1_zeros b s d2 (fun i h1 h2 => hrs.2 i h1 (by omega)), hcn]
            exact Lib.hid rfl
          have HCN : Hid (∀ (v : Value) (w : World), RB w v b → MT w → Calls Tryd.prog 23 #[.int .i64 m, v] w fun e w' => e = .returned (.tuple #[.int .i64 (t : Int), .int .i64 0]) ∧ Below w.heap.size w w') := fun v w hr hm => by
            have := count23 m (by omega) (by omega) v b w hr hm (by omega) HB.out.2
            rw [HT.out] at this
            exact this
          have H4 : Hid (RB wr (.slice ab b.length cb) b ∧ MT wr ∧ Below w.heap.size w wr) := ⟨H3.out.2.2.1.keep hbw, H3.out.2.1.keep hbw, H3.out.2.2.2.trans (hbw.mono H3.out.2.2.2.size)⟩
          clear hrs hsb hcn hbw HT
          go_wp2_with fail
          refine (next_is hm6 HB.out.2 hsm HN.out _ _ H4.out.1 H4.out.2.1).mono ?_
          rintro e _ ⟨rfl, n5, rfl⟩
          go_wp2_with fail
          refine (HCN.out _ _ (H4.out.1.keep (belowDrew _ _)) (H4.out.2.1.keep (belowDrew _ _))).mono ?_
          rintro e w8 ⟨rfl, hb8⟩
          have H8 : Hid (Below w.heap.size w w8) := (belowN H4.out.2.2 _).trans (hb8.mono (belowN H4.out.2.2 _).size)
          clear hb8 H4
          go_wp2_with fail
          go_ret
          exact ⟨rfl, H8.out⟩
end Go.Proofs.YtpojcdepifeniaaDoor
