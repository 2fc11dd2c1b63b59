import Derived.Test.YtphehachmgfcaabDoorTwo
import Derived.Test.YtphehachmgfcaabDoorJoinC
import Derived.Deep.RegionWith
import Derived.Deep.QuietTactic
import Derived.BigQuiet
namespace Go.Proofs.YtphehachmgfcaabDoor
open Go.RowKit
set_option maxRecDepth 10000 in
set_option maxHeartbeats 4000000 in
theorem twoway3_no (n : Int) (h0 : -9223372036854775808 ≤ n) (h1 : n ≤ 9223372036854775807) (v u : Value) (zs : List Int) (l : List UInt8) (w : World) (hv : RZ w v zs) (hr : RB w u l) (hm : MT w) (hl : l.length ≤ 140737488351232) (hn : n < 0 ∨ 65536 < n) :
    Calls Tryd.prog 3 #[.int .i64 n, v, u] w fun e w' => e = .returned (.bool true) ∧ Below w.heap.size w w' := by
  have HC : Hid (Calls Tryd.prog 9 #[.int .i64 n, u] w fun e w' => e = .returned (.int .i64 (ck n l)) ∧ ∃ nq, w' = w.drewN nq) := check10 n h0 h1 u l w hr hm hl
  rw [ck_bits hn] at HC
  obtain ⟨a, c, rfl, _⟩ := hv.form
  obtain ⟨a2, c2, rfl, _⟩ := hr
  clear hm hv
  rcases hn with hn | hn
  · go_enter Tryd.func3, Tryd.ntmps3
    go_wp2_with (go_at_call 9; refine HC.out.mono ?_; rintro e w1 ⟨rfl, nq, rfl⟩)
    go_ret
    exact ⟨rfl, belowDrew _ _⟩
  · go_enter Tryd.func3, Tryd.ntmps3
    go_wp2_with (go_at_call 9; refine HC.out.mono ?_; rintro e w1 ⟨rfl, nq, rfl⟩)
    go_ret
    exact ⟨rfl, belowDrew _ _⟩
/-- what Of answers of places below n -/
theorem of10_in {m : Nat} {os : List Int} {b : List UInt8} {er : Int} (h : OR m os b er) (hin : ∀ z ∈ os, 0 ≤ z ∧ z < m) : er = 0 ∧ BF m (fun i => decide ((i : Int) ∈ os)) b := by
  rcases h with ⟨_, _, k, hk, hbad⟩ | ⟨h1, _, h2⟩
  · have := hin (iz os k) ((mem_iz os _).2 ⟨k, hk, rfl⟩)
    omega
  · exact ⟨h1, h2.1, fun i => by rw [h2.2, inn_mem]⟩
set_option maxRecDepth 10000 in
set_option maxHeartbeats 3000000 in
theorem twoway3 (m : Nat) (hm6 : m ≤ 65536) (v u : Value) (zs : List Int) (l : List UInt8) (w : World) (hv : RZ w v zs) (hr : RB w u l) (hm : MT w) (hlz : zs.length ≤ 17592186043904) (hl : l.length ≤ 140737488351232) :
    Calls Tryd.prog 3 #[.int .i64 m, v, u] w fun e w' => e = .returned (.bool true) ∧ Below w.heap.size w w' := by
  have HR : Hid (RZ w v zs ∧ RB w u l ∧ MT w) := ⟨hv, hr, hm⟩
  obtain ⟨a, c, rfl, kv⟩ := hv.form
  obtain ⟨a2, c2, rfl, _⟩ := hr
  have HV : Hid (zs = [] ∨ ∃ g o, a = some ⟨g, o, none⟩ ∧ g < w.heap.size ∧ ∀ i, i < zs.length → w.cell? ⟨g, o + i, none⟩ = some (.int .i64 (iz zs i))) := kv
  clear hm hv kv
  go_enter Tryd.func3, Tryd.ntmps3
  go_wp2
  go_loopw [7, 8] (fun x i wr => ∃ (k : Nat) (a3 : Option Addr) (c3 : Nat), k ≤ zs.length ∧ i = .int .i64 k ∧ x = .slice a3 (fz m (zs.take k)).length c3 ∧ OZ w.heap.size wr x (fz m (zs.take k)) ∧ Below w.heap.size w wr) (fun _ i _ => zs.length - (intOf i).toNat)
  case atStart => exact ⟨0, none, 0, Nat.zero_le _, rfl, rfl, World.ownsRow_nil _ _ _ _, Below.refl _ _⟩
  case round =>
    obtain ⟨k, a3, c3, hk, rfl, rfl, ho3, hb3⟩ := hrel
    by_cases hlt : k < zs.length
    · rcases HV.out with h | ⟨g, o, rfl, hg, hc⟩
      · rw [h] at hlt; simp at hlt
      have q1 := (hb3.cell (p := ⟨g, o + k, none⟩) hg).trans (hc k hlt)
      have hB := hb3.size
      have HP : Hid (OZ w.heap.size wr (.slice a3 (fz m (zs.take k)).length c3) (fz m (zs.take k)) ∧ Below w.heap.size w wr) := ⟨ho3, hb3⟩
      by_cases hin : 0 ≤ iz zs k ∧ iz zs k < m
      · have HS : Hid (fz m (zs.take (k + 1)) = fz m (zs.take k) ++ [iz zs k] ∧ (fz m (zs.take k)).length ≤ k) := ⟨fz_yes hlt hin.1 hin.2, Nat.le_trans (fz_len _ _) (by rw [List.length_take]; omega)⟩
        obtain ⟨i1, i2⟩ := hin
        clear ho3 hb3 hc HV
        generalize iz zs k = z at *
        go_wp2_with (at_builtin; refine append_int rfl _ _ rfl rfl (HP.out.1.alloc _) wr.heap.size z rfl (by go_simp) (by simp; omega) (by have := HS.out.2; omega) ?_; (intro v' w3 ho' hb'; obtain ⟨a4, c4, rfl⟩ := ho'.form))
        have hlen : (fz m (zs.take k)).length + 1 = (fz m (zs.take (k + 1))).length := by rw [HS.out.1]; simp
        have ho4 : OZ w.heap.size w3 (.slice a4 ((fz m (zs.take k)).length + 1) c4) (fz m (zs.take (k + 1))) := by rw [HS.out.1]; simpa using ho'
        exact ⟨⟨k + 1, a4, c4, by omega, by go_num, by rw [hlen], ho4, (HP.out.2.alloc hB _).trans hb'⟩, by simp [intOf]; omega⟩
      · have he : fz m (zs.take (k + 1)) = fz m (zs.take k) := fz_no hlt hin
        have HE : Hid (fz m (zs.take (k + 1)) = fz m (zs.take k)) := he
        clear ho3 hb3 hc HV he
        generalize iz zs k = z at *
        by_cases i1 : 0 ≤ z
        · have i2 : ¬ z < m := fun h => hin ⟨i1, h⟩
          clear hin
          go_wp2
          exact ⟨⟨k + 1, a3, c3, by omega, by go_num, by rw [HE.out], by rw [HE.out]; exact HP.out.1, HP.out.2⟩, by simp [intOf]; omega⟩
        · clear hin
          go_wp2
          exact ⟨⟨k + 1, a3, c3, by omega, by go_num, by rw [HE.out], by rw [HE.out]; exact HP.out.1, HP.out.2⟩, by simp [intOf]; omega⟩
    · obtain rfl : k = zs.length := by omega
      rw [List.take_length] at ho3
      have hosl : (fz m zs).length ≤ 17592186043904 := Nat.le_trans (fz_len _ _) hlz
      rw [List.take_length]
      have HIN : Hid (∀ z ∈ fz m zs, 0 ≤ z ∧ z < m) := fun z hz => fz_mem hz
      have H1 : Hid (RZ wr (.slice a3 (fz m zs).length c3) (fz m zs) ∧ RB wr (.slice a2 l.length c2) l ∧ MT wr ∧ Below w.heap.size w wr) := ⟨ho3.rz, HR.out.2.1.keep hb3, HR.out.2.2.keep hb3, hb3⟩
      clear ho3 hb3 HV HR
      generalize fz m zs = os at *
      go_wp2_with (go_at_call 10; refine (of17 m hm6 _ os _ H1.out.1 hosl H1.out.2.2.1).mono ?_; rintro e w2 ⟨vb, b, er, rfl, hob, hor, hb2⟩; obtain ⟨rfl, hbf⟩ := of10_in hor HIN.out; clear hor; obtain ⟨ab, cb, rfl⟩ := hob.form)
      have hckb : ck m b = 0 := ck_of_bf hm6 hbf
      have hbl : b.length ≤ 8192 := by have := hbf.1; omega
      have H2 : Hid (RZ w2 (.slice a3 os.length c3) os ∧ RB w2 (.slice a2 l.length c2) l ∧ MT w2 ∧ RB w2 (.slice ab b.length cb) b ∧ Below w.heap.size w w2) := ⟨H1.out.1.keep hb2, H1.out.2.1.keep hb2, H1.out.2.2.1.keep hb2, hob.rb, H1.out.2.2.2.trans (hb2.mono H1.out.2.2.2.size)⟩
      have HB : Hid (BF m (fun i => decide ((i : Int) ∈ os)) b ∧ ck m b = 0) := ⟨hbf, hckb⟩
      have HCK : Hid (Calls Tryd.prog 9 #[.int .i64 m, .slice ab b.length cb] w2 fun e w' => e = .returned (.int .i64 (ck m b)) ∧ ∃ nq, w' = w2.drewN nq) := check10 m (by omega) (by omega) _ b w2 H2.out.2.2.2.1 H2.out.2.2.1 (by omega)
      rw [hckb] at HCK
      clear H1 hob hb2 hbf hckb
      refine HCK.out.mono ?_
      rintro e wx ⟨rfl, nq, rfl⟩
      have hd := belowDrew w2 nq
      have H3 : Hid (RZ (w2.drewN nq) (.slice a3 os.length c3) os ∧ RB (w2.drewN nq) (.slice a2 l.length c2) l ∧ MT (w2.drewN nq) ∧ RB (w2.drewN nq) (.slice ab b.length cb) b ∧ Below w.heap.size w (w2.drewN nq)) := ⟨H2.out.1.keep hd, H2.out.2.1.keep hd, H2.out.2.2.1.keep hd, H2.out.2.2.2.1.keep hd, belowN H2.out.2.2.2.2 _⟩
      clear hd H2 HCK
      generalize w2.drewN nq = w3 at *
      go_wp2
      go_loopw [11] (fun i wr => ∃ k nq : Nat, k ≤ m ∧ i = .int .i64 k ∧ wr = w3.drewN nq) (fun i _ => m - (intOf i).toNat)
      case atStart => exact ⟨0, 0, Nat.zero_le _, rfl, rfl⟩
      case round =>
        obtain ⟨k, nq, hk, rfl, rfl⟩ := hrel
        by_cases hlt : k < m
        · obtain ⟨e1, e2⟩ := gE_ok (n := (m : Int)) (l := b) (i := (k : Int)) HB.out.2 (by omega)
          have e3 : gB m b k = decide ((k : Int) ∈ os) := by
            rw [e2]
            have := HB.out.1.2 k
            simpa [hlt] using this
          have hd := belowDrew w3 nq
          have HG : Hid (Calls Tryd.prog 11 #[.int .i64 m, .slice ab b.length cb, .int .i64 k] (w3.drewN nq) fun e w' => e = .returned (.tuple #[.bool (decide ((k : Int) ∈ os)), .int .i64 0]) ∧ ∃ n2, w' = (w3.drewN nq).drewN n2) := by
            have := get11 m (by omega) (by omega) _ b k (by omega) (by omega) (w3.drewN nq) (H3.out.2.2.2.1.keep hd) (H3.out.2.2.1.keep hd) (by omega)
            rw [e3, e1] at this
            exact this
          have HH : Hid (∀ nn, Calls Tryd.prog 12 #[.slice a3 os.length c3, .int .i64 k] (w3.drewN nn) fun e w' => e = .returned (.bool (decide ((k : Int) ∈ os))) ∧ ∃ n2, w' = (w3.drewN nn).drewN n2) := fun nn => has12 _ os k _ (H3.out.1.keep (belowDrew _ _)) (by omega)
          clear e1 e2 e3 hd
          generalize decide ((k : Int) ∈ os) = D at *
          cases D
          all_goals
            go_wp2_with (first | (go_at_call 11; refine HG.out.mono ?_; rintro e w4 ⟨rfl, n4, rfl⟩) | (go_at_call 12; refine (HH.out _).mono ?_; rintro e w5 ⟨rfl, n5, rfl⟩))
            exact ⟨⟨k + 1, _, by omega, by go_num, rfl⟩, by simp [intOf]; omega⟩
        · obtain rfl : k = m := by omega
          have hd := belowDrew w3 nq
          have H4 : Hid (RZ (w3.drewN nq) (.slice a3 os.length c3) os ∧ RB (w3.drewN nq) (.slice a2 l.length c2) l ∧ MT (w3.drewN nq) ∧ RB (w3.drewN nq) (.slice ab b.length cb) b ∧ Below w.heap.size w (w3.drewN nq)) := ⟨H3.out.1.keep hd, H3.out.2.1.keep hd, H3.out.2.2.1.keep hd, H3.out.2.2.2.1.keep hd, belowN H3.out.2.2.2.2 _⟩
          clear hd H3
          generalize w3.drewN nq = w4 at *
          have HON : Hid (∀ (v : Value) (w : World), RB w v b → MT w → Calls Tryd.prog 13 #[.int .i64 k, v] w fun e w' => ∃ v', e = .returned (.tuple #[v', .int .i64 0]) ∧ OZ w.heap.size w' v' (onZ b) ∧ Below w.heap.size w w') := fun v w hr hm => ones13 k (by omega) (by omega) v b w hr hm (by omega) HB.out.2
          go_wp2_with (go_at_call 13; refine (HON.out _ _ H4.out.2.2.2.1 H4.out.2.2.1).mono ?_; rintro e w5 ⟨v5, rfl, ho5, hb5⟩; obtain ⟨a5, c5, rfl⟩ := ho5.form)
          have hLl : (onZ b).length ≤ 65536 := onZ_len b hbl
          have HMEM : Hid (∀ j, j < (onZ b).length → iz (onZ b) j ∈ os) := fun j hj => by
            obtain ⟨x, hx, hbx⟩ := (onZ_mem b hbl (iz (onZ b) j)).1 ((mem_iz _ _).2 ⟨j, hj, rfl⟩)
            have := HB.out.1.2 x
            rw [hbx] at this
            simp at this
            rw [hx]; exact this.2
          have HRISE : Hid (∀ j, 0 < j → j < (onZ b).length → iz (onZ b) (j - 1) < iz (onZ b) j) := fun j h0 hj => onZ_rise b (j - 1) j (by omega) hj
          have HBACK : Hid (∀ z ∈ os, z ∈ onZ b) := fun z hz => by
            obtain ⟨h0, h1⟩ := HIN.out z hz
            obtain ⟨x, rfl⟩ := Int.eq_ofNat_of_zero_le h0
            refine (onZ_mem b hbl _).2 ⟨x, rfl, ?_⟩
            rw [HB.out.1.2 x]
            simp [hz]; omega
          have HINL : Hid (∀ z ∈ onZ b, 0 ≤ z ∧ z < k) := fun z hz => by
            obtain ⟨x, rfl, hbx⟩ := (onZ_mem b hbl z).1 hz
            have := HB.out.1.2 x
            rw [hbx] at this
            simp at this
            omega
          have HCNT : Hid (∀ (v : Value) (w : World), RB w v b → MT w → Calls Tryd.prog 14 #[.int .i64 k, v] w fun e w' => e = .returned (.tuple #[.int .i64 (((onZ b).length : Nat) : Int), .int .i64 0]) ∧ Below w.heap.size w w') := fun v w hr hm => by
            have := count23 k (by omega) (by omega) v b w hr hm (by omega) HB.out.2
            unfold onZ; rw [List.length_map]; exact this
          have HSAMEB : Hid (∀ c' , BF k (fun i => decide ((i : Int) ∈ onZ b)) c' → c' = b) := fun c' h => BF.unique h HB.out.1 (fun i hi => by
            rw [decide_eq_decide]
            constructor
            · intro hz
              obtain ⟨x, hx, hbx⟩ := (onZ_mem b hbl _).1 hz
              have hxi : i = x := by omega
              subst hxi
              have := HB.out.1.2 i
              rw [hbx] at this
              simp at this
              exact this.2
            · exact HBACK.out _)
          have H5 : Hid (RZ w5 (.slice a3 os.length c3) os ∧ RZ w5 (.slice a5 (onZ b).length c5) (onZ b) ∧ RB w5 (.slice a2 l.length c2) l ∧ MT w5 ∧ RB w5 (.slice ab b.length cb) b ∧ Below w.heap.size w w5) := ⟨H4.out.1.keep hb5, ho5.rz, H4.out.2.1.keep hb5, H4.out.2.2.1.keep hb5, H4.out.2.2.2.1.keep hb5, H4.out.2.2.2.2.trans (hb5.mono H4.out.2.2.2.2.size)⟩
          obtain ⟨a5', c5', e5, k5⟩ := ho5.rz.form
          injection e5 with e51 e52 e53
          subst e51 e53
          have HC5 : Hid (onZ b = [] ∨ ∃ g o, a5 = some ⟨g, o, none⟩ ∧ g < w5.heap.size ∧ ∀ i, i < (onZ b).length → w5.cell? ⟨g, o + i, none⟩ = some (.int .i64 (iz (onZ b) i))) := k5
          clear ho5 hb5 H4 k5 e52
          generalize onZ b = L at *
          go_loopw [15] (fun i wr => ∃ j nq : Nat, j ≤ L.length ∧ i = .int .i64 j ∧ wr = w5.drewN nq) (fun i _ => L.length - (intOf i).toNat)
          case atStart => exact ⟨0, 0, Nat.zero_le _, rfl, rfl⟩
          case round =>
            obtain ⟨j, nq, hj, rfl, hw⟩ := hrel
            have HW : Hid (wr = w5.drewN nq) := hw
            by_cases hlt : j < L.length
            · rcases HC5.out with h | ⟨g, o, rfl, hg, hc⟩
              · rw [h] at hlt; simp at hlt
              have q1 : wr.cell? ⟨g, o + j, none⟩ = some (.int .i64 (iz L j)) := by rw [hw]; exact hc j hlt
              have HH : Hid (∀ nn, Calls Tryd.prog 12 #[.slice a3 os.length c3, .int .i64 (iz L j)] (wr.drewN nn) fun e w'' => e = .returned (.bool true) ∧ ∃ n2, w'' = (wr.drewN nn).drewN n2) := fun nn => by
                have := has12 _ os (iz L j) (wr.drewN nn) (H5.out.1.keep (by rw [hw, World.drewN_drewN]; exact belowDrew _ _)) (by omega)
                rw [decide_eq_true (HMEM.out j hlt)] at this
                exact this
              have b0 : (0 : Int) ≤ (j : Int) := by omega
              have b1 : (j : Int) < (L.length : Int) := by omega
              by_cases hj0 : j = 0
              · have b5 : (0 < j) = False := by simp; omega
                clear hc hj0 hw
                generalize iz L j = z at *
                go_wp2
                go_quiet ((go_at_call 12; exact Calls.quiet_of (HH.out _)))
                go_wp2
                exact ⟨⟨j + 1, _, by omega, by go_num, (by rw [HW.out, World.drewN_drewN])⟩, by simp [intOf]; omega⟩
              · have q0 : wr.cell? ⟨g, o + (j - 1), none⟩ = some (.int .i64 (iz L (j - 1))) := by rw [hw]; exact hc (j - 1) (by omega)
                have hrise := HRISE.out j (by omega) hlt
                have hp : IntKind.i64.wrap ((j : Int) - 1) = ((j - 1 : Nat) : Int) := by
                  rw [show (j : Int) - 1 = ((j - 1 : Nat) : Int) by omega]; exact wrap_nat _ (by omega)
                have b3 : ((j - 1 : Nat) : Int) < (L.length : Int) := by omega
                have b4 : (0 : Int) ≤ ((j - 1 : Nat) : Int) := by omega
                have b5 : (0 : Int) < (j : Int) := by omega
                clear hc hw
                generalize iz L j = z at *
                generalize iz L (j - 1) = y at *
                generalize j - 1 = p at *
                have hle : (z ≤ y) = False := by simp; omega
                have b6 : 0 < j := by omega
                go_wp2
                go_quiet ((go_at_call 12; exact Calls.quiet_of (HH.out _)))
                go_wp2
                exact ⟨⟨j + 1, _, by omega, by go_num, (by rw [HW.out, World.drewN_drewN])⟩, by simp [intOf]; omega⟩
            · obtain rfl : j = L.length := by omega
              have hd : Below w5.heap.size w5 wr := by rw [HW.out]; exact belowDrew _ _
              have H6 : Hid (RZ wr (.slice a3 os.length c3) os ∧ RZ wr (.slice a5 L.length c5) L ∧ RB wr (.slice a2 l.length c2) l ∧ MT wr ∧ RB wr (.slice ab b.length cb) b ∧ Below w.heap.size w wr) := ⟨H5.out.1.keep hd, H5.out.2.1.keep hd, H5.out.2.2.1.keep hd, H5.out.2.2.2.1.keep hd, H5.out.2.2.2.2.1.keep hd, by rw [HW.out]; exact belowN H5.out.2.2.2.2.2 _⟩
              obtain ⟨a3', c3', e3, k3⟩ := H6.out.1.form
              injection e3 with e31 e32 e33
              subst e31 e33
              have HC3 : Hid (os = [] ∨ ∃ g o, a3 = some ⟨g, o, none⟩ ∧ g < wr.heap.size ∧ ∀ i, i < os.length → wr.cell? ⟨g, o + i, none⟩ = some (.int .i64 (iz os i))) := k3
              clear hd H5 k3 e32 HW hw HC5
              generalize wr = w6 at *
              go_wp2
              go_loopw [16] (fun i wr => ∃ j nq : Nat, j ≤ os.length ∧ i = .int .i64 j ∧ wr = w6.drewN nq) (fun i _ => os.length - (intOf i).toNat)
              case atStart => exact ⟨0, 0, Nat.zero_le _, rfl, rfl⟩
              case round =>
                obtain ⟨j, nq, hj, rfl, hw⟩ := hrel
                have HW : Hid (wr = w6.drewN nq) := hw
                by_cases hlt : j < os.length
                · rcases HC3.out with h | ⟨g, o, rfl, hg, hc⟩
                  · rw [h] at hlt; simp at hlt
                  have q1 : wr.cell? ⟨g, o + j, none⟩ = some (.int .i64 (iz os j)) := by rw [hw]; exact hc j hlt
                  have HH : Hid (Calls Tryd.prog 12 #[.slice a5 L.length c5, .int .i64 (iz os j)] wr fun e w'' => e = .returned (.bool true) ∧ ∃ n2, w'' = wr.drewN n2) := by
                    have := has12 _ L (iz os j) wr (H6.out.2.1.keep (by rw [hw]; exact belowDrew _ _)) (by omega)
                    rw [decide_eq_true (HBACK.out _ ((mem_iz _ _).2 ⟨j, hlt, rfl⟩))] at this
                    exact this
                  have b0 : (0 : Int) ≤ (j : Int) := by omega
                  have b1 : (j : Int) < (os.length : Int) := by omega
                  clear hc hw
                  generalize iz os j = z at *
                  go_wp2_with (go_at_call 12; refine HH.out.mono ?_; rintro e w9 ⟨rfl, n9, rfl⟩)
                  exact ⟨⟨j + 1, _, by omega, by go_num, (by rw [HW.out, World.drewN_drewN])⟩, by simp [intOf]; omega⟩
                · obtain rfl : j = os.length := by omega
                  have hd : Below w6.heap.size w6 wr := by rw [HW.out]; exact belowDrew _ _
                  have H7 : Hid (RZ wr (.slice a5 L.length c5) L ∧ RB wr (.slice a2 l.length c2) l ∧ MT wr ∧ RB wr (.slice ab b.length cb) b ∧ Below w.heap.size w wr) := ⟨H6.out.2.1.keep hd, H6.out.2.2.1.keep hd, H6.out.2.2.2.1.keep hd, H6.out.2.2.2.2.1.keep hd, by rw [HW.out]; exact belowN H6.out.2.2.2.2.2 _⟩
                  clear hd H6 HW hw HC3
                  generalize wr = w7 at *
                  go_wp2_with (go_at_call 14; refine (HCNT.out _ _ H7.out.2.2.2.1 H7.out.2.2.1).mono ?_; rintro e w8 ⟨rfl, hb8⟩)
                  have H8 : Hid (RZ w8 (.slice a5 L.length c5) L ∧ RB w8 (.slice a2 l.length c2) l ∧ MT w8 ∧ RB w8 (.slice ab b.length cb) b ∧ Below w.heap.size w w8) := ⟨H7.out.1.keep hb8, H7.out.2.1.keep hb8, H7.out.2.2.1.keep hb8, H7.out.2.2.2.1.keep hb8, H7.out.2.2.2.2.trans (hb8.mono H7.out.2.2.2.2.size)⟩
                  clear hb8 H7
                  go_wp2_with (go_at_call 10; refine (of17 k hm6 _ L _ H8.out.1 (by omega) H8.out.2.2.1).mono ?_; rintro e w9 ⟨v9, b9, er9, rfl, ho9, hor9, hb9⟩; obtain ⟨rfl, hbf9⟩ := of10_in hor9 HINL.out; clear hor9; obtain rfl := HSAMEB.out _ hbf9; obtain ⟨a9, c9, rfl⟩ := ho9.form)
                  have H9 : Hid (RB w9 (.slice a2 l.length c2) l ∧ MT w9 ∧ RB w9 (.slice ab b9.length cb) b9 ∧ RB w9 (.slice a9 b9.length c9) b9 ∧ Below w.heap.size w w9) := ⟨H8.out.2.1.keep hb9, H8.out.2.2.1.keep hb9, H8.out.2.2.2.1.keep hb9, ho9.rb, H8.out.2.2.2.2.trans (hb9.mono H8.out.2.2.2.2.size)⟩
                  clear hb9 H8 hbf9 ho9
                  go_wp2_with (go_at_call 15; refine (same12 _ _ b9 _ (by omega) H9.out.2.2.1 H9.out.2.2.2.1).mono ?_; rintro e wx ⟨rfl, nx, rfl⟩)
                  have hd := belowDrew w9 nx
                  have HA : Hid (RB (w9.drewN nx) (.slice a2 l.length c2) l ∧ MT (w9.drewN nx) ∧ Below w.heap.size w (w9.drewN nx)) := ⟨H9.out.1.keep hd, H9.out.2.1.keep hd, belowN H9.out.2.2.2.2 _⟩
                  clear hd H9
                  generalize w9.drewN nx = wa at *
                  refine (check10 k (by omega) (by omega) _ l wa HA.out.1 HA.out.2.1 hl).mono ?_
                  rintro e wx ⟨rfl, ny, rfl⟩
                  have hd := belowDrew wa ny
                  have HD : Hid (RB (wa.drewN ny) (.slice a2 l.length c2) l ∧ MT (wa.drewN ny) ∧ Below w.heap.size w (wa.drewN ny)) := ⟨HA.out.1.keep hd, HA.out.2.1.keep hd, belowN HA.out.2.2 _⟩
                  clear hd HA
                  generalize wa.drewN ny = wb at *
                  by_cases hck : ck (k : Int) l = 0
                  · rw [hck]
                    have hbl2 : BF k (bit l) l := by have := ck_bf hck; simpa using this
                    have hll : l.length ≤ 8192 := by have := hbl2.1; omega
                    have hzl : (onZ l).length ≤ 65536 := onZ_len l hll
                    have HIZ : Hid (∀ z ∈ onZ l, 0 ≤ z ∧ z < k) := fun z hz => by
                      obtain ⟨x, rfl, hbx⟩ := (onZ_mem l hll z).1 hz
                      have := hbl2.2 x
                      rw [hbx] at this
                      simp at this
                      omega
                    have HSZ : Hid (∀ c' , BF k (fun i => decide ((i : Int) ∈ onZ l)) c' → c' = l) := fun c' h => BF.unique h hbl2 (fun i hi => by
                      cases hbi : bit l i
                      · rw [decide_eq_false_iff_not]
                        intro hz
                        obtain ⟨x, hx, hbx⟩ := (onZ_mem l hll _).1 hz
                        have hxi : i = x := by omega
                        subst hxi
                        rw [hbi] at hbx; cases hbx
                      · rw [decide_eq_true_eq]
                        exact (onZ_mem l hll _).2 ⟨i, rfl, hbi⟩)
                    have HO : Hid (∀ (v : Value) (w : World), RB w v l → MT w → Calls Tryd.prog 13 #[.int .i64 k, v] w fun e w' => ∃ v', e = .returned (.tuple #[v', .int .i64 0]) ∧ OZ w.heap.size w' v' (onZ l) ∧ Below w.heap.size w w') := fun v w hr hm => ones13 k (by omega) (by omega) v l w hr hm (by omega) hck
                    clear hbl2 hck
                    generalize onZ l = M at *
                    go_wp2_with (go_at_call 13; refine (HO.out _ _ HD.out.1 HD.out.2.1).mono ?_; rintro e wc ⟨vc, rfl, hoc, hbc⟩; obtain ⟨ac, cc, rfl⟩ := hoc.form)
                    have HE : Hid (RZ wc (.slice ac M.length cc) M ∧ RB wc (.slice a2 l.length c2) l ∧ MT wc ∧ Below w.heap.size w wc) := ⟨hoc.rz, HD.out.1.keep hbc, HD.out.2.1.keep hbc, HD.out.2.2.trans (hbc.mono HD.out.2.2.size)⟩
                    clear hoc hbc HD
                    go_wp2_with (go_at_call 10; refine (of17 k hm6 _ M _ HE.out.1 (by omega) HE.out.2.2.1).mono ?_; rintro e we ⟨ve, be, ere, rfl, hoe, hore, hbe⟩; obtain ⟨rfl, hbfe⟩ := of10_in hore HIZ.out; clear hore; obtain rfl := HSZ.out _ hbfe; obtain ⟨ae, ce, rfl⟩ := hoe.form)
                    have HF : Hid (RB we (.slice a2 be.length c2) be ∧ RB we (.slice ae be.length ce) be ∧ Below w.heap.size w we) := ⟨HE.out.2.1.keep hbe, hoe.rb, HE.out.2.2.2.trans (hbe.mono HE.out.2.2.2.size)⟩
                    clear hoe hbe HE hbfe
                    go_wp2_with (go_at_call 15; refine (same12 _ _ be _ (by omega) HF.out.2.1 HF.out.1).mono ?_; rintro e wg ⟨rfl, ng, rfl⟩)
                    go_ret
                    exact ⟨rfl, belowN HF.out.2.2 _⟩
                  · have hne : (ck (k : Int) l == 0) = false := by simpa using hck
                    clear hck
                    generalize ck (k : Int) l = er at *
                    go_wp2
                    go_ret
                    exact ⟨rfl, HD.out.2.2⟩
end Go.Proofs.YtphehachmgfcaabDoor
