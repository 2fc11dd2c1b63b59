import Derived.Test.YtphehachmgfcaabDoorAlgB
import Derived.Deep.RegionWith
import Derived.Deep.QuietTactic
import Derived.BigQuiet
namespace Go.Proofs.YtphehachmgfcaabDoor
open Go.RowKit
set_option maxRecDepth 20000 in
set_option maxHeartbeats 6000000 in
theorem algebra7 (m : Nat) (hm6 : m ≤ 65536) (v u : Value) (os ts : List Int) (w : World) (hv : RZ w v os) (hu : RZ w u ts) (hm : MT w) (hlo : os.length ≤ 17592186043904) (hlt2 : ts.length ≤ 17592186043904) :
    Calls Tryd.prog 7 #[.int .i64 m, v, u] w fun e w' => e = .returned (.bool true) ∧ Below w.heap.size w w' := by
  have HR : Hid (RZ w v os ∧ RZ w u ts ∧ MT w) := ⟨hv, hu, hm⟩
  obtain ⟨a, c, rfl, kv⟩ := hv.form
  obtain ⟨a2, c2, rfl, ku⟩ := hu.form
  have HV : Hid (os = [] ∨ ∃ g o, a = some ⟨g, o, none⟩ ∧ g < w.heap.size ∧ ∀ i, i < os.length → w.cell? ⟨g, o + i, none⟩ = some (.int .i64 (iz os i))) := kv
  have HU : Hid (ts = [] ∨ ∃ g o, a2 = some ⟨g, o, none⟩ ∧ g < w.heap.size ∧ ∀ i, i < ts.length → w.cell? ⟨g, o + i, none⟩ = some (.int .i64 (iz ts i))) := ku
  obtain ⟨z0, hz, hmk⟩ := make_z m hm6
  have HMK : Hid (∀ w, Calls Tryd.prog 26 #[.int .i64 m] w fun e w' => ∃ v, e = .returned (.tuple #[v, .int .i64 0]) ∧ OW w.heap.size w' v z0 ∧ Below w.heap.size w w') := hmk
  have HZ : Hid (BF m (fun _ => false) z0) := hz
  clear hm hv hu kv ku hz hmk
  go_enter Tryd.func7, Tryd.ntmps7
  go_wp2_with fail
  refine (HMK.out _).mono ?_
  rintro e w1 ⟨v1, rfl, ho1, hb1⟩
  obtain ⟨a3, c3, rfl⟩ := ho1.form
  go_wp2_with fail
  refine (HMK.out _).mono ?_
  rintro e w2 ⟨v2, rfl, ho2, hb2⟩
  obtain ⟨a4, c4, rfl⟩ := ho2.form
  have H2 : Hid (RB w2 (.slice a3 z0.length c3) z0 ∧ RB w2 (.slice a4 z0.length c4) z0 ∧ MT w2 ∧ Below w.heap.size w w2) := ⟨ho1.rb.keep hb2, ho2.rb, (HR.out.2.2.keep hb1).keep hb2, hb1.trans (hb2.mono hb1.size)⟩
  clear ho1 ho2 hb1 hb2
  go_wp2_with fail
  go_loopw [9, 10, 13] (fun x e i wr => ∃ (k : Nat) (ax : Option Addr) (cx : Nat) (la : List UInt8), k ≤ os.length ∧ i = .int .i64 k ∧ e = .int .i64 0 ∧ x = .slice ax la.length cx ∧ BF m (fun j => decide ((j : Int) ∈ os.take k)) la ∧ RB wr x la ∧ Below w2.heap.size w2 wr) (fun _ _ i _ => os.length - (intOf i).toNat)
  case atStart => exact ⟨0, _, _, z0, Nat.zero_le _, rfl, rfl, rfl, by simpa using HZ.out, H2.out.1, Below.refl _ _⟩
  case round =>
    obtain ⟨k, ax, cx, la, hk, rfl, rfl, rfl, hbf, hrb, hbl⟩ := hrel
    by_cases hlt : k < os.length
    · rcases HV.out with h | ⟨g, o, rfl, hg, hc⟩
      · rw [h] at hlt; simp at hlt
      have q1 : wr.cell? ⟨g, o + k, none⟩ = some (.int .i64 (iz os k)) := (((H2.out.2.2.2).trans (hbl.mono H2.out.2.2.2.size)).cell (p := ⟨g, o + k, none⟩) hg).trans (hc k hlt)
      have HP : Hid (BF m (fun j => decide ((j : Int) ∈ os.take k)) la ∧ RB wr (.slice ax la.length cx) la ∧ Below w2.heap.size w2 wr ∧ MT wr) := ⟨hbf, hrb, hbl, H2.out.2.2.1.keep hbl⟩
      have hll : la.length ≤ 8192 := by have := hbf.1; omega
      have hr := hrb
      clear hbf hrb hbl hc hr
      by_cases hin : 0 ≤ iz os k ∧ iz os k < m
      · have HPUT : Hid (Calls Tryd.prog 21 #[.int .i64 m, .slice ax la.length cx, .int .i64 (iz os k), .bool true] wr fun e w' => ∃ v' r, e = .returned (.tuple #[v', .int .i64 0]) ∧ OW wr.heap.size w' v' r ∧ BF m (fun j => decide ((j : Int) ∈ os.take (k + 1))) r ∧ Below wr.heap.size wr w') := by
          refine Calls.mono (put21 m (by omega) (by omega) _ la (iz os k) (by omega) (by omega) true wr HP.out.2.1 HP.out.2.2.2 (by omega)) ?_
          rintro e w' ⟨v', r, rfl, h1, h2, h3⟩
          obtain ⟨e1, e2⟩ := pu_ok (ck_of_bf hm6 HP.out.1) hin.1 hin.2 h2
          rw [e1]
          exact ⟨v', r, rfl, h1, bf_take hlt hin.1 HP.out.1 e2, h3⟩
        obtain ⟨i1, i2⟩ := hin
        generalize iz os k = z at *
        go_wp2_with fail
        refine HPUT.out.mono ?_
        rintro e w3 ⟨v3, r3, rfl, ho3, hbf3, hb3⟩
        obtain ⟨a5, c5, rfl⟩ := ho3.form
        have HE : Hid (BF m (fun j => decide ((j : Int) ∈ os.take (k + 1))) r3 ∧ RB w3 (.slice a5 r3.length c5) r3 ∧ Below w2.heap.size w2 w3) := ⟨hbf3, ho3.rb, HP.out.2.2.1.trans (hb3.mono HP.out.2.2.1.size)⟩
        clear ho3 hbf3 hb3
        go_wp2_with fail
        exact ⟨⟨k + 1, a5, c5, r3, by omega, by go_num, rfl, rfl, HE.out.1, HE.out.2.1, HE.out.2.2⟩, by simp [intOf]; omega⟩
      · have HE : Hid (BF m (fun j => decide ((j : Int) ∈ os.take (k + 1))) la) := bf_skip hlt hin HP.out.1
        generalize iz os k = z at *
        by_cases i1 : 0 ≤ z
        · have i2 : ¬ z < m := fun h => hin ⟨i1, h⟩
          clear hin
          go_wp2_with fail
          exact ⟨⟨k + 1, ax, cx, la, by omega, by go_num, rfl, rfl, HE.out, HP.out.2.1, HP.out.2.2.1⟩, by simp [intOf]; omega⟩
        · clear hin
          go_wp2_with fail
          exact ⟨⟨k + 1, ax, cx, la, by omega, by go_num, rfl, rfl, HE.out, HP.out.2.1, HP.out.2.2.1⟩, by simp [intOf]; omega⟩
    · obtain rfl : k = os.length := by omega
      rw [List.take_length] at hbf
      have H3 : Hid (RB wr (.slice ax la.length cx) la ∧ RB wr (.slice a4 z0.length c4) z0 ∧ MT wr ∧ Below w.heap.size w wr ∧ RZ wr (.slice a os.length c) os) := ⟨hrb, H2.out.2.1.keep hbl, H2.out.2.2.1.keep hbl, H2.out.2.2.2.trans (hbl.mono H2.out.2.2.2.size), HR.out.1.keep (H2.out.2.2.2.trans (hbl.mono H2.out.2.2.2.size))⟩
      have HA : Hid (BF m (fun j => decide ((j : Int) ∈ os)) la ∧ ck m la = 0) := ⟨hbf, ck_of_bf hm6 hbf⟩
      have hll : la.length ≤ 8192 := by have := hbf.1; omega
      have hd : Hid True := trivial
      clear hbf hrb hbl H2 HV hd
      generalize wr = w3 at *
      go_wp2_with fail
      go_loopw [10, 11, 14] (fun e x i wr => ∃ (k : Nat) (ax : Option Addr) (cx : Nat) (lb : List UInt8), k ≤ ts.length ∧ i = .int .i64 k ∧ e = .int .i64 0 ∧ x = .slice ax lb.length cx ∧ ck m lb = 0 ∧ RB wr x lb ∧ Below w3.heap.size w3 wr) (fun _ _ i _ => ts.length - (intOf i).toNat)
      case atStart => exact ⟨0, _, _, z0, Nat.zero_le _, rfl, rfl, rfl, ck_of_bf hm6 HZ.out, H3.out.2.1, Below.refl _ _⟩
      case round =>
        obtain ⟨k, ay, cy, lb, hk, rfl, rfl, rfl, hck, hrb, hbl⟩ := hrel
        have hlb : lb.length ≤ 8192 := by have := ck_ok hck; simp at this; omega
        by_cases hlt : k < ts.length
        · rcases HU.out with h | ⟨g, o, rfl, hg, hc⟩
          · rw [h] at hlt; simp at hlt
          have q1 : wr.cell? ⟨g, o + k, none⟩ = some (.int .i64 (iz ts k)) := (((H3.out.2.2.2.1).trans (hbl.mono H3.out.2.2.2.1.size)).cell (p := ⟨g, o + k, none⟩) hg).trans (hc k hlt)
          have HP : Hid (ck m lb = 0 ∧ RB wr (.slice ay lb.length cy) lb ∧ Below w3.heap.size w3 wr ∧ MT wr) := ⟨hck, hrb, hbl, H3.out.2.2.1.keep hbl⟩
          clear hck hrb hbl hc
          by_cases hin : 0 ≤ iz ts k ∧ iz ts k < m
          · have HPUT : Hid (∀ on : Bool, Calls Tryd.prog 21 #[.int .i64 m, .slice ay lb.length cy, .int .i64 (iz ts k), .bool on] wr fun e w' => ∃ v' r, e = .returned (.tuple #[v', .int .i64 0]) ∧ OW wr.heap.size w' v' r ∧ ck m r = 0 ∧ Below wr.heap.size wr w') := by
              intro on
              refine Calls.mono (put21 m (by omega) (by omega) _ lb (iz ts k) (by omega) (by omega) on wr HP.out.2.1 HP.out.2.2.2 (by omega)) ?_
              rintro e w' ⟨v', r, rfl, h1, h2, h3⟩
              obtain ⟨e1, e2⟩ := pu_ok HP.out.1 hin.1 hin.2 h2
              rw [e1]
              exact ⟨v', r, rfl, h1, ck_of_bf hm6 e2, h3⟩
            obtain ⟨i1, i2⟩ := hin
            generalize iz ts k = z at *
            go_wp2_with fail
            refine (HPUT.out _).mono ?_
            rintro e w4 ⟨v4, r4, rfl, ho4, hck4, hb4⟩
            obtain ⟨a5, c5, rfl⟩ := ho4.form
            have HE : Hid (ck m r4 = 0 ∧ RB w4 (.slice a5 r4.length c5) r4 ∧ Below w3.heap.size w3 w4) := ⟨hck4, ho4.rb, HP.out.2.2.1.trans (hb4.mono HP.out.2.2.1.size)⟩
            clear ho4 hck4 hb4
            go_wp2_with fail
            exact ⟨⟨k + 1, a5, c5, r4, by omega, by go_num, rfl, rfl, HE.out.1, HE.out.2.1, HE.out.2.2⟩, by simp [intOf]; omega⟩
          · generalize iz ts k = z at *
            by_cases i1 : 0 ≤ z
            · have i2 : ¬ z < m := fun h => hin ⟨i1, h⟩
              clear hin
              go_wp2_with fail
              exact ⟨⟨k + 1, ay, cy, lb, by omega, by go_num, rfl, rfl, HP.out.1, HP.out.2.1, HP.out.2.2.1⟩, by simp [intOf]; omega⟩
            · clear hin
              go_wp2_with fail
              exact ⟨⟨k + 1, ay, cy, lb, by omega, by go_num, rfl, rfl, HP.out.1, HP.out.2.1, HP.out.2.2.1⟩, by simp [intOf]; omega⟩
        · obtain rfl : k = ts.length := by omega
          have H4 : Hid (RB wr (.slice ax la.length cx) la ∧ RB wr (.slice ay lb.length cy) lb ∧ MT wr ∧ Below w.heap.size w wr ∧ RZ wr (.slice a os.length c) os) := ⟨H3.out.1.keep hbl, hrb, H3.out.2.2.1.keep hbl, H3.out.2.2.2.1.trans (hbl.mono H3.out.2.2.2.1.size), H3.out.2.2.2.2.keep hbl⟩
          have HB : Hid (ck m lb = 0) := hck
          have HAND : Hid (∀ w, RB w (.slice ax la.length cx) la → RB w (.slice ay lb.length cy) lb → MT w → Calls Tryd.prog 27 #[.int .i64 m, .slice ax la.length cx, .slice ay lb.length cy] w fun e w' => ∃ v' o, e = .returned (.tuple #[v', .int .i64 0]) ∧ OW w.heap.size w' v' o ∧ BF m (fun i => bit la i && bit lb i) o ∧ Below w.heap.size w w') := fun w h1 h2 h3 => by
            refine Calls.mono (wrap27 m (by omega) (by omega) _ _ la lb w h1 h2 h3 (by omega) (by omega)) ?_
            rintro e w' ⟨v', o, rfl, g1, g2, g3⟩
            rw [bE_ok HA.out.2 HB.out]
            exact ⟨v', o, rfl, g1, jr_ok HA.out.2 HB.out g2, g3⟩
          have HOR : Hid (∀ w, RB w (.slice ax la.length cx) la → RB w (.slice ay lb.length cy) lb → MT w → Calls Tryd.prog 28 #[.int .i64 m, .slice ax la.length cx, .slice ay lb.length cy] w fun e w' => ∃ v' o, e = .returned (.tuple #[v', .int .i64 0]) ∧ OW w.heap.size w' v' o ∧ BF m (fun i => bit la i || bit lb i) o ∧ Below w.heap.size w w') := fun w h1 h2 h3 => by
            refine Calls.mono (wrap28 m (by omega) (by omega) _ _ la lb w h1 h2 h3 (by omega) (by omega)) ?_
            rintro e w' ⟨v', o, rfl, g1, g2, g3⟩
            rw [bE_ok HA.out.2 HB.out]
            exact ⟨v', o, rfl, g1, jr_ok HA.out.2 HB.out g2, g3⟩
          have HMI : Hid (∀ w, RB w (.slice ax la.length cx) la → RB w (.slice ay lb.length cy) lb → MT w → Calls Tryd.prog 29 #[.int .i64 m, .slice ax la.length cx, .slice ay lb.length cy] w fun e w' => ∃ v' o, e = .returned (.tuple #[v', .int .i64 0]) ∧ OW w.heap.size w' v' o ∧ BF m (fun i => bit la i && !bit lb i) o ∧ Below w.heap.size w w') := fun w h1 h2 h3 => by
            refine Calls.mono (wrap29 m (by omega) (by omega) _ _ la lb w h1 h2 h3 (by omega) (by omega)) ?_
            rintro e w' ⟨v', o, rfl, g1, g2, g3⟩
            rw [bE_ok HA.out.2 HB.out]
            exact ⟨v', o, rfl, g1, jr_ok HA.out.2 HB.out g2, g3⟩
          have HNO : Hid (∀ w, RB w (.slice ax la.length cx) la → MT w → Calls Tryd.prog 30 #[.int .i64 m, .slice ax la.length cx] w fun e w' => ∃ v' o, e = .returned (.tuple #[v', .int .i64 0]) ∧ OW w.heap.size w' v' o ∧ BF m (fun i => !bit la i) o ∧ Below w.heap.size w w') := fun w h1 h3 => by
            refine Calls.mono (not30 m (by omega) (by omega) _ la w h1 h3 (by omega)) ?_
            rintro e w' ⟨v', o, rfl, g1, g2, g3⟩
            rw [HA.out.2]
            exact ⟨v', o, rfl, g1, no_ok HA.out.2 g2, g3⟩
          clear hck hrb hbl H3 HU
          generalize wr = w4 at *
          go_wp2_with fail
          refine (HAND.out _ H4.out.1 H4.out.2.1 H4.out.2.2.1).mono ?_
          rintro e w5 ⟨v5, ld, rfl, ho5, hbf5, hb5⟩
          obtain ⟨ad, cd, rfl⟩ := ho5.form
          have H5 : Hid (RB w5 (.slice ax la.length cx) la ∧ RB w5 (.slice ay lb.length cy) lb ∧ MT w5 ∧ Below w.heap.size w w5 ∧ RZ w5 (.slice a os.length c) os ∧ RB w5 (.slice ad ld.length cd) ld) := ⟨H4.out.1.keep hb5, H4.out.2.1.keep hb5, H4.out.2.2.1.keep hb5, H4.out.2.2.2.1.trans (hb5.mono H4.out.2.2.2.1.size), H4.out.2.2.2.2.keep hb5, ho5.rb⟩
          have HD : Hid (BF m (fun i => bit la i && bit lb i) ld) := hbf5
          clear ho5 hbf5 hb5 H4 HAND
          go_wp2_with fail
          refine (HOR.out _ H5.out.1 H5.out.2.1 H5.out.2.2.1).mono ?_
          rintro e w6 ⟨v6, le, rfl, ho6, hbf6, hb6⟩
          obtain ⟨ae, ce, rfl⟩ := ho6.form
          have H6 : Hid (RB w6 (.slice ax la.length cx) la ∧ RB w6 (.slice ay lb.length cy) lb ∧ MT w6 ∧ Below w.heap.size w w6 ∧ RZ w6 (.slice a os.length c) os ∧ RB w6 (.slice ad ld.length cd) ld ∧ RB w6 (.slice ae le.length ce) le) := ⟨H5.out.1.keep hb6, H5.out.2.1.keep hb6, H5.out.2.2.1.keep hb6, H5.out.2.2.2.1.trans (hb6.mono H5.out.2.2.2.1.size), H5.out.2.2.2.2.1.keep hb6, H5.out.2.2.2.2.2.keep hb6, ho6.rb⟩
          have HE : Hid (BF m (fun i => bit la i || bit lb i) le) := hbf6
          clear ho6 hbf6 hb6 H5 HOR
          go_wp2_with fail
          refine (HMI.out _ H6.out.1 H6.out.2.1 H6.out.2.2.1).mono ?_
          rintro e w7 ⟨v7, lf, rfl, ho7, hbf7, hb7⟩
          obtain ⟨af, cf, rfl⟩ := ho7.form
          have H7 : Hid (RB w7 (.slice ax la.length cx) la ∧ RB w7 (.slice ay lb.length cy) lb ∧ MT w7 ∧ Below w.heap.size w w7 ∧ RZ w7 (.slice a os.length c) os ∧ RB w7 (.slice ad ld.length cd) ld ∧ RB w7 (.slice ae le.length ce) le ∧ RB w7 (.slice af lf.length cf) lf) := ⟨H6.out.1.keep hb7, H6.out.2.1.keep hb7, H6.out.2.2.1.keep hb7, H6.out.2.2.2.1.trans (hb7.mono H6.out.2.2.2.1.size), H6.out.2.2.2.2.1.keep hb7, H6.out.2.2.2.2.2.1.keep hb7, H6.out.2.2.2.2.2.2.keep hb7, ho7.rb⟩
          have HF : Hid (BF m (fun i => bit la i && !bit lb i) lf) := hbf7
          clear ho7 hbf7 hb7 H6 HMI
          go_wp2_with fail
          refine (HNO.out _ H7.out.1 H7.out.2.2.1).mono ?_
          rintro e w8 ⟨v8, lg, rfl, ho8, hbf8, hb8⟩
          obtain ⟨ag, cg, rfl⟩ := ho8.form
          have H8 : Hid (RB w8 (.slice ax la.length cx) la ∧ RB w8 (.slice ay lb.length cy) lb ∧ MT w8 ∧ Below w.heap.size w w8 ∧ RZ w8 (.slice a os.length c) os ∧ RB w8 (.slice ad ld.length cd) ld ∧ RB w8 (.slice ae le.length ce) le ∧ RB w8 (.slice af lf.length cf) lf ∧ RB w8 (.slice ag lg.length cg) lg) := ⟨H7.out.1.keep hb8, H7.out.2.1.keep hb8, H7.out.2.2.1.keep hb8, H7.out.2.2.2.1.trans (hb8.mono H7.out.2.2.2.1.size), H7.out.2.2.2.2.1.keep hb8, H7.out.2.2.2.2.2.1.keep hb8, H7.out.2.2.2.2.2.2.1.keep hb8, H7.out.2.2.2.2.2.2.2.keep hb8, ho8.rb⟩
          have HG : Hid (BF m (fun i => !bit la i) lg) := hbf8
          clear ho8 hbf8 hb8 H7 HNO
          go_wp2_with fail
          go_loopw [21, 22] (fun x i wr => ∃ k nq : Nat, k ≤ m ∧ i = .int .i64 k ∧ x = .int .i64 ((cnt lf k : Nat) : Int) ∧ wr = w8.drewN nq) (fun _ i _ => m - (intOf i).toNat)
          case atStart => exact ⟨0, 0, Nat.zero_le _, rfl, by rw [cnt_zero0]; rfl, rfl⟩
          case round =>
            obtain ⟨k, nq, hk, rfl, rfl, rfl⟩ := hrel
            by_cases hlt : k < m
            · have HB1 : Hid (∀ nn, Calls Tryd.prog 31 #[.int .i64 m, .slice ax la.length cx, .int .i64 k] (w8.drewN nn) fun e w' => e = .returned (.int .i64 (xb (bit la k))) ∧ ∃ n2, w' = (w8.drewN nn).drewN n2) := fun nn => bit31 m hm6 _ la k hlt _ (H8.out.1.keep (belowDrew _ _)) (H8.out.2.2.1.keep (belowDrew _ _)) HA.out.2
              have HB2 : Hid (∀ nn, Calls Tryd.prog 31 #[.int .i64 m, .slice ay lb.length cy, .int .i64 k] (w8.drewN nn) fun e w' => e = .returned (.int .i64 (xb (bit lb k))) ∧ ∃ n2, w' = (w8.drewN nn).drewN n2) := fun nn => bit31 m hm6 _ lb k hlt _ (H8.out.2.1.keep (belowDrew _ _)) (H8.out.2.2.1.keep (belowDrew _ _)) HB.out
              have e1 : bit ld k = (bit la k && bit lb k) := by rw [HD.out.2 k]; simp [hlt]
              have e2 : bit le k = (bit la k || bit lb k) := by rw [HE.out.2 k]; simp [hlt]
              have e3 : bit lf k = (bit la k && !bit lb k) := by rw [HF.out.2 k]; simp [hlt]
              have e4 : bit lg k = (!bit la k) := by rw [HG.out.2 k]; simp [hlt]
              have e5 : decide ((k : Int) ∈ os) = bit la k := by rw [HA.out.1.2 k]; simp [hlt]
              have HB3 : Hid (∀ nn, Calls Tryd.prog 31 #[.int .i64 m, .slice ad ld.length cd, .int .i64 k] (w8.drewN nn) fun e w' => e = .returned (.int .i64 (xb (bit la k && bit lb k))) ∧ ∃ n2, w' = (w8.drewN nn).drewN n2) := fun nn => by rw [← e1]; exact bit31 m hm6 _ ld k hlt _ (H8.out.2.2.2.2.2.1.keep (belowDrew _ _)) (H8.out.2.2.1.keep (belowDrew _ _)) (ck_of_bf hm6 HD.out)
              have HB4 : Hid (∀ nn, Calls Tryd.prog 31 #[.int .i64 m, .slice ae le.length ce, .int .i64 k] (w8.drewN nn) fun e w' => e = .returned (.int .i64 (xb (bit la k || bit lb k))) ∧ ∃ n2, w' = (w8.drewN nn).drewN n2) := fun nn => by rw [← e2]; exact bit31 m hm6 _ le k hlt _ (H8.out.2.2.2.2.2.2.1.keep (belowDrew _ _)) (H8.out.2.2.1.keep (belowDrew _ _)) (ck_of_bf hm6 HE.out)
              have HB5 : Hid (∀ nn, Calls Tryd.prog 31 #[.int .i64 m, .slice af lf.length cf, .int .i64 k] (w8.drewN nn) fun e w' => e = .returned (.int .i64 (xb (bit la k && !bit lb k))) ∧ ∃ n2, w' = (w8.drewN nn).drewN n2) := fun nn => by rw [← e3]; exact bit31 m hm6 _ lf k hlt _ (H8.out.2.2.2.2.2.2.2.1.keep (belowDrew _ _)) (H8.out.2.2.1.keep (belowDrew _ _)) (ck_of_bf hm6 HF.out)
              have HB6 : Hid (∀ nn, Calls Tryd.prog 31 #[.int .i64 m, .slice ag lg.length cg, .int .i64 k] (w8.drewN nn) fun e w' => e = .returned (.int .i64 (xb (!bit la k))) ∧ ∃ n2, w' = (w8.drewN nn).drewN n2) := fun nn => by rw [← e4]; exact bit31 m hm6 _ lg k hlt _ (H8.out.2.2.2.2.2.2.2.2.keep (belowDrew _ _)) (H8.out.2.2.1.keep (belowDrew _ _)) (ck_of_bf hm6 HG.out)
              have HHA : Hid (∀ nn, Calls Tryd.prog 12 #[.slice a os.length c, .int .i64 k] (w8.drewN nn) fun e w' => e = .returned (.bool (bit la k)) ∧ ∃ n2, w' = (w8.drewN nn).drewN n2) := fun nn => by rw [← e5]; exact has12 _ os k _ (H8.out.2.2.2.2.1.keep (belowDrew _ _)) (by omega)
              have hcnt : cnt lf (k + 1) = cnt lf k + (if (bit la k && !bit lb k) = true then 1 else 0) := by rw [cnt_succ lf (by omega), e3]
              have hcl := cnt_le lf k
              clear e1 e2 e3 e4 e5
              generalize bit la k = A at *
              generalize bit lb k = B at *
              have HCN : Hid (cnt lf (k + 1) = cnt lf k + (if (A && !B) = true then 1 else 0)) := hcnt
              clear hcnt
              generalize hcc : cnt lf k = s at *
              clear hcc
              cases A <;> cases B
              · have K1 : Hid (∀ nn, Calls Tryd.prog 31 #[.int .i64 m, .slice ax la.length cx, .int .i64 k] (w8.drewN nn) fun e w' => e = .returned (.int .i64 0) ∧ ∃ n2, w' = (w8.drewN nn).drewN n2) := HB1
                have K2 : Hid (∀ nn, Calls Tryd.prog 31 #[.int .i64 m, .slice ay lb.length cy, .int .i64 k] (w8.drewN nn) fun e w' => e = .returned (.int .i64 0) ∧ ∃ n2, w' = (w8.drewN nn).drewN n2) := HB2
                have K3 : Hid (∀ nn, Calls Tryd.prog 31 #[.int .i64 m, .slice ad ld.length cd, .int .i64 k] (w8.drewN nn) fun e w' => e = .returned (.int .i64 0) ∧ ∃ n2, w' = (w8.drewN nn).drewN n2) := HB3
                have K4 : Hid (∀ nn, Calls Tryd.prog 31 #[.int .i64 m, .slice ae le.length ce, .int .i64 k] (w8.drewN nn) fun e w' => e = .returned (.int .i64 0) ∧ ∃ n2, w' = (w8.drewN nn).drewN n2) := HB4
                have K5 : Hid (∀ nn, Calls Tryd.prog 31 #[.int .i64 m, .slice af lf.length cf, .int .i64 k] (w8.drewN nn) fun e w' => e = .returned (.int .i64 0) ∧ ∃ n2, w' = (w8.drewN nn).drewN n2) := HB5
                have K6 : Hid (∀ nn, Calls Tryd.prog 31 #[.int .i64 m, .slice ag lg.length cg, .int .i64 k] (w8.drewN nn) fun e w' => e = .returned (.int .i64 1) ∧ ∃ n2, w' = (w8.drewN nn).drewN n2) := HB6
                clear HB1 HB2 HB3 HB4 HB5 HB6
                go_wp2_with fail
                refine (K1.out _).mono ?_
                rintro e _ ⟨rfl, _, rfl⟩
                rw [World.drewN_drewN]
                go_wp2_with fail
                refine (K2.out _).mono ?_
                rintro e _ ⟨rfl, _, rfl⟩
                rw [World.drewN_drewN]
                go_wp2_with fail
                refine (HHA.out _).mono ?_
                rintro e _ ⟨rfl, _, rfl⟩
                rw [World.drewN_drewN]
                go_wp2_with fail
                refine (K3.out _).mono ?_
                rintro e _ ⟨rfl, _, rfl⟩
                rw [World.drewN_drewN]
                go_wp2_with fail
                refine (K4.out _).mono ?_
                rintro e _ ⟨rfl, _, rfl⟩
                rw [World.drewN_drewN]
                go_wp2_with fail
                refine (K5.out _).mono ?_
                rintro e _ ⟨rfl, _, rfl⟩
                rw [World.drewN_drewN]
                go_wp2_with fail
                refine (K6.out _).mono ?_
                rintro e _ ⟨rfl, _, rfl⟩
                rw [World.drewN_drewN]
                go_wp2_with fail
                exact ⟨⟨k + 1, _, by omega, by go_num, (by rw [HCN.out]; go_num), rfl⟩, by simp [intOf]; omega⟩
              · have K1 : Hid (∀ nn, Calls Tryd.prog 31 #[.int .i64 m, .slice ax la.length cx, .int .i64 k] (w8.drewN nn) fun e w' => e = .returned (.int .i64 0) ∧ ∃ n2, w' = (w8.drewN nn).drewN n2) := HB1
                have K2 : Hid (∀ nn, Calls Tryd.prog 31 #[.int .i64 m, .slice ay lb.length cy, .int .i64 k] (w8.drewN nn) fun e w' => e = .returned (.int .i64 1) ∧ ∃ n2, w' = (w8.drewN nn).drewN n2) := HB2
                have K3 : Hid (∀ nn, Calls Tryd.prog 31 #[.int .i64 m, .slice ad ld.length cd, .int .i64 k] (w8.drewN nn) fun e w' => e = .returned (.int .i64 0) ∧ ∃ n2, w' = (w8.drewN nn).drewN n2) := HB3
                have K4 : Hid (∀ nn, Calls Tryd.prog 31 #[.int .i64 m, .slice ae le.length ce, .int .i64 k] (w8.drewN nn) fun e w' => e = .returned (.int .i64 1) ∧ ∃ n2, w' = (w8.drewN nn).drewN n2) := HB4
                have K5 : Hid (∀ nn, Calls Tryd.prog 31 #[.int .i64 m, .slice af lf.length cf, .int .i64 k] (w8.drewN nn) fun e w' => e = .returned (.int .i64 0) ∧ ∃ n2, w' = (w8.drewN nn).drewN n2) := HB5
                have K6 : Hid (∀ nn, Calls Tryd.prog 31 #[.int .i64 m, .slice ag lg.length cg, .int .i64 k] (w8.drewN nn) fun e w' => e = .returned (.int .i64 1) ∧ ∃ n2, w' = (w8.drewN nn).drewN n2) := HB6
                clear HB1 HB2 HB3 HB4 HB5 HB6
                go_wp2_with fail
                refine (K1.out _).mono ?_
                rintro e _ ⟨rfl, _, rfl⟩
                rw [World.drewN_drewN]
                go_wp2_with fail
                refine (K2.out _).mono ?_
                rintro e _ ⟨rfl, _, rfl⟩
                rw [World.drewN_drewN]
                go_wp2_with fail
                refine (HHA.out _).mono ?_
                rintro e _ ⟨rfl, _, rfl⟩
                rw [World.drewN_drewN]
                go_wp2_with fail
                refine (K3.out _).mono ?_
                rintro e _ ⟨rfl, _, rfl⟩
                rw [World.drewN_drewN]
                go_wp2_with fail
                refine (K4.out _).mono ?_
                rintro e _ ⟨rfl, _, rfl⟩
                rw [World.drewN_drewN]
                go_wp2_with fail
                refine (K5.out _).mono ?_
                rintro e _ ⟨rfl, _, rfl⟩
                rw [World.drewN_drewN]
                go_wp2_with fail
                refine (K6.out _).mono ?_
                rintro e _ ⟨rfl, _, rfl⟩
                rw [World.drewN_drewN]
                go_wp2_with fail
                exact ⟨⟨k + 1, _, by omega, by go_num, (by rw [HCN.out]; go_num), rfl⟩, by simp [intOf]; omega⟩
              · have K1 : Hid (∀ nn, Calls Tryd.prog 31 #[.int .i64 m, .slice ax la.length cx, .int .i64 k] (w8.drewN nn) fun e w' => e = .returned (.int .i64 1) ∧ ∃ n2, w' = (w8.drewN nn).drewN n2) := HB1
                have K2 : Hid (∀ nn, Calls Tryd.prog 31 #[.int .i64 m, .slice ay lb.length cy, .int .i64 k] (w8.drewN nn) fun e w' => e = .returned (.int .i64 0) ∧ ∃ n2, w' = (w8.drewN nn).drewN n2) := HB2
                have K3 : Hid (∀ nn, Calls Tryd.prog 31 #[.int .i64 m, .slice ad ld.length cd, .int .i64 k] (w8.drewN nn) fun e w' => e = .returned (.int .i64 0) ∧ ∃ n2, w' = (w8.drewN nn).drewN n2) := HB3
                have K4 : Hid (∀ nn, Calls Tryd.prog 31 #[.int .i64 m, .slice ae le.length ce, .int .i64 k] (w8.drewN nn) fun e w' => e = .returned (.int .i64 1) ∧ ∃ n2, w' = (w8.drewN nn).drewN n2) := HB4
                have K5 : Hid (∀ nn, Calls Tryd.prog 31 #[.int .i64 m, .slice af lf.length cf, .int .i64 k] (w8.drewN nn) fun e w' => e = .returned (.int .i64 1) ∧ ∃ n2, w' = (w8.drewN nn).drewN n2) := HB5
                have K6 : Hid (∀ nn, Calls Tryd.prog 31 #[.int .i64 m, .slice ag lg.length cg, .int .i64 k] (w8.drewN nn) fun e w' => e = .returned (.int .i64 0) ∧ ∃ n2, w' = (w8.drewN nn).drewN n2) := HB6
                clear HB1 HB2 HB3 HB4 HB5 HB6
                go_wp2_with fail
                refine (K1.out _).mono ?_
                rintro e _ ⟨rfl, _, rfl⟩
                rw [World.drewN_drewN]
                go_wp2_with fail
                refine (K2.out _).mono ?_
                rintro e _ ⟨rfl, _, rfl⟩
                rw [World.drewN_drewN]
                go_wp2_with fail
                refine (HHA.out _).mono ?_
                rintro e _ ⟨rfl, _, rfl⟩
                rw [World.drewN_drewN]
                go_wp2_with fail
                refine (K3.out _).mono ?_
                rintro e _ ⟨rfl, _, rfl⟩
                rw [World.drewN_drewN]
                go_wp2_with fail
                refine (K4.out _).mono ?_
                rintro e _ ⟨rfl, _, rfl⟩
                rw [World.drewN_drewN]
                go_wp2_with fail
                refine (K5.out _).mono ?_
                rintro e _ ⟨rfl, _, rfl⟩
                rw [World.drewN_drewN]
                go_wp2_with fail
                refine (K6.out _).mono ?_
                rintro e _ ⟨rfl, _, rfl⟩
                rw [World.drewN_drewN]
                go_wp2_with fail
                exact ⟨⟨k + 1, _, by omega, by go_num, (by rw [HCN.out]; go_num), rfl⟩, by simp [intOf]; omega⟩
              · have K1 : Hid (∀ nn, Calls Tryd.prog 31 #[.int .i64 m, .slice ax la.length cx, .int .i64 k] (w8.drewN nn) fun e w' => e = .returned (.int .i64 1) ∧ ∃ n2, w' = (w8.drewN nn).drewN n2) := HB1
                have K2 : Hid (∀ nn, Calls Tryd.prog 31 #[.int .i64 m, .slice ay lb.length cy, .int .i64 k] (w8.drewN nn) fun e w' => e = .returned (.int .i64 1) ∧ ∃ n2, w' = (w8.drewN nn).drewN n2) := HB2
                have K3 : Hid (∀ nn, Calls Tryd.prog 31 #[.int .i64 m, .slice ad ld.length cd, .int .i64 k] (w8.drewN nn) fun e w' => e = .returned (.int .i64 1) ∧ ∃ n2, w' = (w8.drewN nn).drewN n2) := HB3
                have K4 : Hid (∀ nn, Calls Tryd.prog 31 #[.int .i64 m, .slice ae le.length ce, .int .i64 k] (w8.drewN nn) fun e w' => e = .returned (.int .i64 1) ∧ ∃ n2, w' = (w8.drewN nn).drewN n2) := HB4
                have K5 : Hid (∀ nn, Calls Tryd.prog 31 #[.int .i64 m, .slice af lf.length cf, .int .i64 k] (w8.drewN nn) fun e w' => e = .returned (.int .i64 0) ∧ ∃ n2, w' = (w8.drewN nn).drewN n2) := HB5
                have K6 : Hid (∀ nn, Calls Tryd.prog 31 #[.int .i64 m, .slice ag lg.length cg, .int .i64 k] (w8.drewN nn) fun e w' => e = .returned (.int .i64 0) ∧ ∃ n2, w' = (w8.drewN nn).drewN n2) := HB6
                clear HB1 HB2 HB3 HB4 HB5 HB6
                go_wp2_with fail
                refine (K1.out _).mono ?_
                rintro e _ ⟨rfl, _, rfl⟩
                rw [World.drewN_drewN]
                go_wp2_with fail
                refine (K2.out _).mono ?_
                rintro e _ ⟨rfl, _, rfl⟩
                rw [World.drewN_drewN]
                go_wp2_with fail
                refine (HHA.out _).mono ?_
                rintro e _ ⟨rfl, _, rfl⟩
                rw [World.drewN_drewN]
                go_wp2_with fail
                refine (K3.out _).mono ?_
                rintro e _ ⟨rfl, _, rfl⟩
                rw [World.drewN_drewN]
                go_wp2_with fail
                refine (K4.out _).mono ?_
                rintro e _ ⟨rfl, _, rfl⟩
                rw [World.drewN_drewN]
                go_wp2_with fail
                refine (K5.out _).mono ?_
                rintro e _ ⟨rfl, _, rfl⟩
                rw [World.drewN_drewN]
                go_wp2_with fail
                refine (K6.out _).mono ?_
                rintro e _ ⟨rfl, _, rfl⟩
                rw [World.drewN_drewN]
                go_wp2_with fail
                exact ⟨⟨k + 1, _, by omega, by go_num, (by rw [HCN.out]; go_num), rfl⟩, by simp [intOf]; omega⟩
            · obtain rfl : k = m := by omega
              have HCT : Hid (∀ (v : Value) (l : List UInt8) (w : World), ck k l = 0 → RB w v l → MT w → Calls Tryd.prog 14 #[.int .i64 k, v] w fun e w' => e = .returned (.tuple #[.int .i64 ((cnt l k : Nat) : Int), .int .i64 0]) ∧ Below w.heap.size w w') := fun v l w hck hr hm => by
                have hb : BF k (bit l) l := by have := ck_bf hck; simpa using this
                have := count23 k (by omega) (by omega) v l w hr hm (by have := hb.1; omega) hck
                rw [cnt_all hb] at this
                exact this
              have s1 := cnt_or (a := la) (b := lb) (x := ld) (y := le) k hm6 (fun i hi => by rw [HD.out.2 i]; simp [hi]) (fun i hi => by rw [HE.out.2 i]; simp [hi])
              have s2 := cnt_not (a := la) (x := lg) k hm6 (fun i hi => by rw [HG.out.2 i]; simp [hi])
              have s3 : cv k lb la = decide (((cnt lf k : Nat) : Int) = 0) := cv_cnt hm6 (bE_ok HB.out HA.out.2) (fun i hi => by rw [HF.out.2 i]; simp [hi])
              have HCV : Hid (∀ w, RB w (.slice ay lb.length cy) lb → RB w (.slice ax la.length cx) la → MT w → Calls Tryd.prog 32 #[.int .i64 k, .slice ay lb.length cy, .slice ax la.length cx] w fun e w' => e = .returned (.tuple #[.bool (decide (((cnt lf k : Nat) : Int) = 0)), .int .i64 0]) ∧ Below w.heap.size w w') := fun w h1 h2 h3 => by
                have hlb' : lb.length ≤ 8192 := hlb
                have := covers32 k (by omega) (by omega) _ _ lb la w h1 h2 h3 (by omega) (by omega)
                rw [bE_ok HB.out HA.out.2, s3] at this
                exact this
              have C1 := HCT.out (.slice ax la.length cx) la
              have l1 := cnt_le la k
              have l2 := cnt_le lb k
              have l3 := cnt_le ld k
              have l4 := cnt_le le k
              have l5 := cnt_le lg k
              have l6 := cnt_le lf k
              have HCA : Hid (∀ w, RB w (.slice ax la.length cx) la → MT w → Calls Tryd.prog 14 #[.int .i64 k, .slice ax la.length cx] w fun e w' => e = .returned (.tuple #[.int .i64 ((cnt la k : Nat) : Int), .int .i64 0]) ∧ Below w.heap.size w w') := fun w => HCT.out _ la w HA.out.2
              have HCB : Hid (∀ w, RB w (.slice ay lb.length cy) lb → MT w → Calls Tryd.prog 14 #[.int .i64 k, .slice ay lb.length cy] w fun e w' => e = .returned (.tuple #[.int .i64 ((cnt lb k : Nat) : Int), .int .i64 0]) ∧ Below w.heap.size w w') := fun w => HCT.out _ lb w HB.out
              have HCD : Hid (∀ w, RB w (.slice ad ld.length cd) ld → MT w → Calls Tryd.prog 14 #[.int .i64 k, .slice ad ld.length cd] w fun e w' => e = .returned (.tuple #[.int .i64 ((cnt ld k : Nat) : Int), .int .i64 0]) ∧ Below w.heap.size w w') := fun w => HCT.out _ ld w (ck_of_bf hm6 HD.out)
              have HCE : Hid (∀ w, RB w (.slice ae le.length ce) le → MT w → Calls Tryd.prog 14 #[.int .i64 k, .slice ae le.length ce] w fun e w' => e = .returned (.tuple #[.int .i64 ((cnt le k : Nat) : Int), .int .i64 0]) ∧ Below w.heap.size w w') := fun w => HCT.out _ le w (ck_of_bf hm6 HE.out)
              have HCG : Hid (∀ w, RB w (.slice ag lg.length cg) lg → MT w → Calls Tryd.prog 14 #[.int .i64 k, .slice ag lg.length cg] w fun e w' => e = .returned (.tuple #[.int .i64 ((cnt lg k : Nat) : Int), .int .i64 0]) ∧ Below w.heap.size w w') := fun w => HCT.out _ lg w (ck_of_bf hm6 HG.out)
              have HCF : Hid (∀ w, RB w (.slice af lf.length cf) lf → MT w → Calls Tryd.prog 14 #[.int .i64 k, .slice af lf.length cf] w fun e w' => e = .returned (.tuple #[.int .i64 ((cnt lf k : Nat) : Int), .int .i64 0]) ∧ Below w.heap.size w w') := fun w => HCT.out _ lf w (ck_of_bf hm6 HF.out)
              have hd := belowDrew w8 nq
              have H9 : Hid (RB (w8.drewN nq) (.slice ax la.length cx) la ∧ RB (w8.drewN nq) (.slice ay lb.length cy) lb ∧ MT (w8.drewN nq) ∧ Below w.heap.size w (w8.drewN nq) ∧ RB (w8.drewN nq) (.slice ad ld.length cd) ld ∧ RB (w8.drewN nq) (.slice ae le.length ce) le ∧ RB (w8.drewN nq) (.slice af lf.length cf) lf ∧ RB (w8.drewN nq) (.slice ag lg.length cg) lg) := ⟨H8.out.1.keep hd, H8.out.2.1.keep hd, H8.out.2.2.1.keep hd, belowN H8.out.2.2.2.1 _, H8.out.2.2.2.2.2.1.keep hd, H8.out.2.2.2.2.2.2.1.keep hd, H8.out.2.2.2.2.2.2.2.1.keep hd, H8.out.2.2.2.2.2.2.2.2.keep hd⟩
              clear hd H8 HCT C1 s3
              generalize w8.drewN nq = w9 at *
              generalize cnt la k = t1 at *
              generalize cnt lb k = t2 at *
              generalize cnt ld k = t3 at *
              generalize cnt le k = t4 at *
              generalize cnt lg k = t5 at *
              generalize cnt lf k = t6 at *
              have S1 : Hid (t1 + t2 = t3 + t4) := s1
              have S2 : Hid (t1 + t5 = k) := s2
              clear s1 s2
              go_wp2_with fail
              refine (HCA.out _ H9.out.1 H9.out.2.2.1).mono ?_
              rintro e y0 ⟨rfl, hy0⟩
              have HY0 : Hid (RB y0 (.slice ax la.length cx) la ∧ RB y0 (.slice ay lb.length cy) lb ∧ MT y0 ∧ Below w.heap.size w y0 ∧ RB y0 (.slice ad ld.length cd) ld ∧ RB y0 (.slice ae le.length ce) le ∧ RB y0 (.slice af lf.length cf) lf ∧ RB y0 (.slice ag lg.length cg) lg) := ⟨H9.out.1.keep hy0, H9.out.2.1.keep hy0, H9.out.2.2.1.keep hy0, H9.out.2.2.2.1.trans (hy0.mono H9.out.2.2.2.1.size), H9.out.2.2.2.2.1.keep hy0, H9.out.2.2.2.2.2.1.keep hy0, H9.out.2.2.2.2.2.2.1.keep hy0, H9.out.2.2.2.2.2.2.2.keep hy0⟩
              clear hy0 H9 HCA
              go_wp2_with fail
              refine (HCB.out _ HY0.out.2.1 HY0.out.2.2.1).mono ?_
              rintro e y1 ⟨rfl, hy1⟩
              have HY1 : Hid (RB y1 (.slice ax la.length cx) la ∧ RB y1 (.slice ay lb.length cy) lb ∧ MT y1 ∧ Below w.heap.size w y1 ∧ RB y1 (.slice ad ld.length cd) ld ∧ RB y1 (.slice ae le.length ce) le ∧ RB y1 (.slice af lf.length cf) lf ∧ RB y1 (.slice ag lg.length cg) lg) := ⟨HY0.out.1.keep hy1, HY0.out.2.1.keep hy1, HY0.out.2.2.1.keep hy1, HY0.out.2.2.2.1.trans (hy1.mono HY0.out.2.2.2.1.size), HY0.out.2.2.2.2.1.keep hy1, HY0.out.2.2.2.2.2.1.keep hy1, HY0.out.2.2.2.2.2.2.1.keep hy1, HY0.out.2.2.2.2.2.2.2.keep hy1⟩
              clear hy1 HY0 HCB
              go_wp2_with fail
              refine (HCD.out _ HY1.out.2.2.2.2.1 HY1.out.2.2.1).mono ?_
              rintro e y2 ⟨rfl, hy2⟩
              have HY2 : Hid (RB y2 (.slice ax la.length cx) la ∧ RB y2 (.slice ay lb.length cy) lb ∧ MT y2 ∧ Below w.heap.size w y2 ∧ RB y2 (.slice ad ld.length cd) ld ∧ RB y2 (.slice ae le.length ce) le ∧ RB y2 (.slice af lf.length cf) lf ∧ RB y2 (.slice ag lg.length cg) lg) := ⟨HY1.out.1.keep hy2, HY1.out.2.1.keep hy2, HY1.out.2.2.1.keep hy2, HY1.out.2.2.2.1.trans (hy2.mono HY1.out.2.2.2.1.size), HY1.out.2.2.2.2.1.keep hy2, HY1.out.2.2.2.2.2.1.keep hy2, HY1.out.2.2.2.2.2.2.1.keep hy2, HY1.out.2.2.2.2.2.2.2.keep hy2⟩
              clear hy2 HY1 HCD
              go_wp2_with fail
              refine (HCE.out _ HY2.out.2.2.2.2.2.1 HY2.out.2.2.1).mono ?_
              rintro e y3 ⟨rfl, hy3⟩
              have HY3 : Hid (RB y3 (.slice ax la.length cx) la ∧ RB y3 (.slice ay lb.length cy) lb ∧ MT y3 ∧ Below w.heap.size w y3 ∧ RB y3 (.slice ad ld.length cd) ld ∧ RB y3 (.slice ae le.length ce) le ∧ RB y3 (.slice af lf.length cf) lf ∧ RB y3 (.slice ag lg.length cg) lg) := ⟨HY2.out.1.keep hy3, HY2.out.2.1.keep hy3, HY2.out.2.2.1.keep hy3, HY2.out.2.2.2.1.trans (hy3.mono HY2.out.2.2.2.1.size), HY2.out.2.2.2.2.1.keep hy3, HY2.out.2.2.2.2.2.1.keep hy3, HY2.out.2.2.2.2.2.2.1.keep hy3, HY2.out.2.2.2.2.2.2.2.keep hy3⟩
              clear hy3 HY2 HCE
              go_wp2_with fail
              refine (HCG.out _ HY3.out.2.2.2.2.2.2.2 HY3.out.2.2.1).mono ?_
              rintro e y4 ⟨rfl, hy4⟩
              have HY4 : Hid (RB y4 (.slice ax la.length cx) la ∧ RB y4 (.slice ay lb.length cy) lb ∧ MT y4 ∧ Below w.heap.size w y4 ∧ RB y4 (.slice ad ld.length cd) ld ∧ RB y4 (.slice ae le.length ce) le ∧ RB y4 (.slice af lf.length cf) lf ∧ RB y4 (.slice ag lg.length cg) lg) := ⟨HY3.out.1.keep hy4, HY3.out.2.1.keep hy4, HY3.out.2.2.1.keep hy4, HY3.out.2.2.2.1.trans (hy4.mono HY3.out.2.2.2.1.size), HY3.out.2.2.2.2.1.keep hy4, HY3.out.2.2.2.2.2.1.keep hy4, HY3.out.2.2.2.2.2.2.1.keep hy4, HY3.out.2.2.2.2.2.2.2.keep hy4⟩
              clear hy4 HY3 HCG
              go_wp2_with fail
              refine (HCF.out _ HY4.out.2.2.2.2.2.2.1 HY4.out.2.2.1).mono ?_
              rintro e y5 ⟨rfl, hy5⟩
              have HY5 : Hid (RB y5 (.slice ax la.length cx) la ∧ RB y5 (.slice ay lb.length cy) lb ∧ MT y5 ∧ Below w.heap.size w y5 ∧ RB y5 (.slice ad ld.length cd) ld ∧ RB y5 (.slice ae le.length ce) le ∧ RB y5 (.slice af lf.length cf) lf ∧ RB y5 (.slice ag lg.length cg) lg) := ⟨HY4.out.1.keep hy5, HY4.out.2.1.keep hy5, HY4.out.2.2.1.keep hy5, HY4.out.2.2.2.1.trans (hy5.mono HY4.out.2.2.2.1.size), HY4.out.2.2.2.2.1.keep hy5, HY4.out.2.2.2.2.2.1.keep hy5, HY4.out.2.2.2.2.2.2.1.keep hy5, HY4.out.2.2.2.2.2.2.2.keep hy5⟩
              clear hy5 HY4 HCF
              go_wp2_with fail
              refine (HCV.out _ HY5.out.2.1 HY5.out.1 HY5.out.2.2.1).mono ?_
              rintro e yz ⟨rfl, hyz⟩
              have HFIN : Hid (Below w.heap.size w yz) := HY5.out.2.2.2.1.trans (hyz.mono HY5.out.2.2.2.1.size)
              clear hyz HY5 HCV
              have a1 : (t1 : Int) + (t2 : Int) = ((t1 + t2 : Nat) : Int) := by omega
              have a2 : (t3 : Int) + (t4 : Int) = ((t1 + t2 : Nat) : Int) := by have := S1.out; omega
              have a3 : (t1 : Int) + (t5 : Int) = (k : Int) := by have := S2.out; omega
              have a4 : IntKind.i64.wrap ((t1 + t2 : Nat) : Int) = ((t1 + t2 : Nat) : Int) := wrap_nat _ (by omega)
              have a5 : IntKind.i64.wrap ((k : Nat) : Int) = (k : Int) := wrap_nat _ (by omega)
              generalize t1 + t2 = tt at *
              by_cases h6 : t6 = 0
              · subst h6
                go_wp2_with fail
                go_ret
                exact ⟨rfl, HFIN.out⟩
              · have a6 : ((t6 : Int) == 0) = false := by simp; omega
                have a7 : ((t6 : Int) = 0) = False := by simp; omega
                have a8 : (t6 = 0) = False := by simp; omega
                go_wp2_with fail
                go_ret
                exact ⟨rfl, HFIN.out⟩
end Go.Proofs.YtphehachmgfcaabDoor
