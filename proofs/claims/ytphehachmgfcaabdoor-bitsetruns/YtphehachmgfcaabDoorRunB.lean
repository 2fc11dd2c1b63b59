import Derived.Test.YtphehachmgfcaabDoorRunA
namespace Go.Proofs.YtphehachmgfcaabDoor
open Go.RowKit
theorem OU.alloc {B : Nat} {w : World} {v : Value} {r : List (Nat × Nat)} (h : OU B w v r) (ob : Obj) : OU B (w.alloc ob) v r := World.ownsRow.alloc h ob
/-- how far the reference's list of runs has come at place k -/
def RIv (l : List UInt8) (m k E : Nat) : Prop := k ≤ E ∧ E ≤ m ∧ (∀ j, k ≤ j → j < E → bit l j = true) ∧ ((0 < k ∧ bit l (k - 1) = true) → (E = m ∨ bit l E = false)) ∧ (¬ (0 < k ∧ bit l (k - 1) = true) → E = k)
theorem riv_no {l : List UInt8} {m k E : Nat} (hk : k < m) (h : RIv l m k E) (hb : bit l k = false) : rs l (k + 1) = rs l E ∧ RIv l m (k + 1) (k + 1) := by
  obtain ⟨h1, h2, h3, h4, h5⟩ := h
  have hE : E = k := by
    rcases Nat.lt_or_ge k E with h | h
    · have := h3 k (Nat.le_refl _) h; rw [hb] at this; cases this
    · omega
  subst hE
  exact ⟨rs_no hb, Nat.le_refl _, hk, fun j g1 g2 => by omega, fun g => by simp [hb] at g, fun _ => rfl⟩
theorem riv_more {l : List UInt8} {m k E : Nat} (hk : k < m) (h : RIv l m k E) (hb : bit l k = true) (hs : 0 < k ∧ bit l (k - 1) = true) : RIv l m (k + 1) E := by
  obtain ⟨h1, h2, h3, h4, h5⟩ := h
  have hE : k ≠ E := by
    rintro rfl
    rcases h4 hs with h | h
    · omega
    · rw [hb] at h; cases h
  exact ⟨by omega, h2, fun j g1 g2 => h3 j (by omega) g2, fun _ => h4 hs, fun g => absurd ⟨by omega, by simpa using hb⟩ g⟩
theorem riv_new {l : List UInt8} {m k d : Nat} (_hk : k < m) (hall : ∀ j, k ≤ j → j < k + (d + 1) → bit l j = true) (hend : k + (d + 1) = m ∨ bit l (k + (d + 1)) = false) (hT : k + (d + 1) ≤ m := by omega) : RIv l m (k + 1) (k + (d + 1)) :=
  ⟨by omega, hT, fun j g1 g2 => hall j (by omega) g2, fun _ => hend, fun g => absurd ⟨by omega, by simpa using hall k (by omega) (by omega)⟩ g⟩
/-- what Runs answers -/
def RU (n : Int) (l : List UInt8) (r : List (Nat × Nat)) (er : Int) : Prop := (ck n l ≠ 0 ∧ r = [] ∧ er = ck n l) ∨ (ck n l = 0 ∧ r = rs l n.toNat ∧ er = 0)
theorem RU.unique {n : Int} {l : List UInt8} {r r' : List (Nat × Nat)} {er er' : Int} (h : RU n l r er) (h' : RU n l r' er') : r = r' ∧ er = er' := by
  rcases h with ⟨h1, rfl, rfl⟩ | ⟨h1, rfl, rfl⟩
  · rcases h' with ⟨g1, rfl, rfl⟩ | ⟨g1, rfl, rfl⟩
    · exact ⟨rfl, rfl⟩
    · exact absurd g1 h1
  · rcases h' with ⟨g1, rfl, rfl⟩ | ⟨g1, rfl, rfl⟩
    · exact absurd h1 g1
    · exact ⟨rfl, rfl⟩
set_option maxHeartbeats 4000000 in
theorem runs18 (n : Int) (h0 : -9223372036854775808 ≤ n) (h1 : n ≤ 9223372036854775807) (v : Value) (l : List UInt8) (w : World) (hr : RB w v l) (hl : l.length ≤ 140737488351232) :
    Calls Tryd.prog 18 #[.int .i64 n, v] w fun e w' => ∃ v' r er, e = .returned (.tuple #[v', .int .i64 er]) ∧ OU w.heap.size w' v' r ∧ RU n l r er ∧ Below w.heap.size w w' := by
  have HC : Hid (Calls Tryd.prog 41 #[.int .i64 n, v] w fun e w' => e = .returned (.int .i64 (ck n l)) ∧ ∃ nq, w' = w.drewN nq) := check11 n h0 h1 v l w hr hl
  have HR : Hid (RB w v l) := hr
  obtain ⟨a, c, rfl, _⟩ := hr
  by_cases hck : ck n l = 0
  · obtain ⟨k0, k1, k2, k3⟩ := ck_ok hck
    obtain ⟨m, rfl⟩ := Int.eq_ofNat_of_zero_le k0
    have HCK : Hid (ck m l = 0 ∧ l.length = (m + 7) / 8 ∧ ∀ i, m ≤ i → bit l i = false) := ⟨hck, by simpa using k2, by simpa using k3⟩
    have hm : m ≤ 65536 := by omega
    rw [hck] at HC
    clear k3 k2 hck k0 k1 h0 h1
    go_enter Tryd.func18, Tryd.ntmps18
    go_wp2_with (go_at_call 41; refine HC.out.mono ?_; rintro e w1 ⟨rfl, nq0, rfl⟩)
    refine (open32 _ l _ (HR.out.keep (belowDrew _ _)) (by have := HCK.out.2.1; omega)).mono ?_
    rintro e w2 ⟨v2, rfl, ho, hb2⟩
    obtain ⟨a2, c2, rfl⟩ := ho.form
    have hb : Below w.heap.size w w2 := (belowDrew w nq0).trans hb2
    rw [bl_len] at *
    have HO : Hid (OB w.heap.size w2 (.slice a2 (8 * l.length) c2) (bl l (8 * l.length)) ∧ Below w.heap.size w w2) := ⟨ho, hb⟩
    clear ho hb hb2
    go_wp2
    go_loopw [8, 9] (fun x i wr => ∃ (k E : Nat) (a3 : Option Addr) (c3 : Nat), i = .int .i64 k ∧ x = .slice a3 (rs l E).length c3 ∧ OU w2.heap.size wr x (rs l E) ∧ Below w2.heap.size w2 wr ∧ RIv l m k E) (fun _ i _ => m - (intOf i).toNat)
    case atStart => exact ⟨0, 0, none, 0, rfl, rfl, World.ownsRow_nil _ _ _ _, Below.refl _ _, Nat.le_refl _, Nat.zero_le _, fun j h1 h2 => by omega, fun h => by omega, fun _ => rfl⟩
    case round =>
      obtain ⟨k, E, a3, c3, rfl, rfl, ho3, hb3, hri⟩ := hrel
      have hkm : k ≤ m := Nat.le_trans hri.1 hri.2.1
      by_cases hlt : k < m
      · have hk8 : k < 8 * l.length := by have := HCK.out.2.1; omega
        obtain ⟨g, rfl, _, hgl, hc, _⟩ := HO.out.1.at k hk8
        rw [lb_bl l _ k hk8] at hc
        have HCELL : Hid (∀ j, j < 8 * l.length → wr.cell? ⟨g, j, none⟩ = some (.bool (bit l j))) := fun j hj => by
          obtain ⟨g', e1, _, hgl', hc', _⟩ := HO.out.1.at j hj
          injection e1 with e1
          injection e1 with e1
          subst e1
          rw [lb_bl l _ j hj] at hc'
          exact (hb3.cell (p := ⟨g, j, none⟩) hgl').trans hc'
        have hc3 : wr.cell? ⟨g, k, none⟩ = some (.bool (bit l k)) := HCELL.out k hk8
        have hB := hb3.size
        clear hc
        by_cases hbit : bit l k = true
        · by_cases hst : 0 < k ∧ bit l (k - 1) = true
          · have HN : Hid (RIv l m (k + 1) E) := riv_more hlt hri hbit hst
            have HP : Hid (OU w2.heap.size wr (.slice a3 (rs l E).length c3) (rs l E) ∧ Below w2.heap.size w2 wr) := ⟨ho3, hb3⟩
            have hcp : wr.cell? ⟨g, k - 1, none⟩ = some (.bool (bit l (k - 1))) := HCELL.out (k - 1) (by omega)
            rw [hst.2] at hcp
            rw [hbit] at hc3
            have hp : IntKind.i64.wrap ((k : Int) - 1) = ((k - 1 : Nat) : Int) := by
              rw [show (k : Int) - 1 = ((k - 1 : Nat) : Int) by omega]; exact wrap_nat _ (by omega)
            have hp8 : k - 1 < 8 * l.length := by omega
            have hk1 : ¬ k = 0 := by omega
            clear hbit ho3 hb3 hri hst
            generalize k - 1 = p at *
            go_wp2
            exact ⟨⟨k + 1, E, a3, c3, by go_num, rfl, HP.out.1, HP.out.2, HN.out⟩, by simp [intOf]; omega⟩
          · obtain rfl : E = k := hri.2.2.2.2 hst
            have HP : Hid (OU w2.heap.size wr (.slice a3 (rs l E).length c3) (rs l E) ∧ Below w2.heap.size w2 wr) := ⟨ho3, hb3⟩
            have HST : Hid (¬ (0 < E ∧ bit l (E - 1) = true)) := hst
            have HBK : Hid (bit l E = true) := hbit
            rw [hbit] at hc3
            clear ho3 hb3 hri
            generalize E = k at *
            by_cases hk0 : k = 0
            · clear hst hbit
              subst hk0
              go_wp2
              go_loopw [10] (fun t wr' => ∃ T : Nat, T ≤ m ∧ t = .int .i64 T ∧ wr' = wr ∧ ∀ j, j < T → bit l j = true) (fun t _ => m - (intOf t).toNat)
              case atStart => exact ⟨0, by omega, rfl, rfl, fun j h2 => by omega⟩
              case round =>
                obtain ⟨T, hT2, rfl, rfl, hall⟩ := hrel
                have HALL : Hid (∀ j, j < T → bit l j = true) := hall
                clear hall
                by_cases hTm : T < m
                · have hT8 : T < 8 * l.length := by have := HCK.out.2.1; omega
                  have hcT : wr.cell? ⟨g, T, none⟩ = some (.bool (bit l T)) := HCELL.out T hT8
                  by_cases hbT : bit l T = true
                  · have HALL2 : Hid (∀ j, j < T + 1 → bit l j = true) := fun j h2 => by
                      by_cases hj : j < T
                      · exact HALL.out j hj
                      · rw [show j = T by omega]; exact hbT
                    rw [hbT] at hcT
                    clear hbT
                    go_wp2
                    exact ⟨⟨T + 1, by omega, by go_num, (by first | rfl | trivial), HALL2.out⟩, by simp [intOf]; omega⟩
                  · have hbf : bit l T = false := by simpa using hbT
                    have hkT : 0 < T := by
                      rcases Nat.lt_or_ge 0 T with h | h
                      · exact h
                      · rw [show T = 0 by omega, HBK.out] at hbf; cases hbf
                    have HEND : Hid (T = m ∨ bit l T = false) := .inr hbf
                    rw [hbf] at hcT
                    clear hbT hbf
                    have hl2 : (rs l 0).length < 1000000 := by have := rs_len l 0; omega
                    obtain ⟨d, rfl⟩ : ∃ d, T = d + 1 := ⟨T - 1, by omega⟩
                    have HS : Hid (rs l (d + 1) = rs l 0 ++ [(0, d + 1)]) := by
                      have := rs_run HST.out d (fun j _ h => HALL.out j (by omega))
                      rw [Nat.zero_add] at this
                      exact this
                    have HN : Hid (RIv l m (0 + 1) (d + 1)) := by
                      have := riv_new (k := 0) (d := d) hlt (fun j _ h => HALL.out j (by omega)) (by rw [Nat.zero_add]; exact HEND.out) (by omega)
                      rw [Nat.zero_add (d + 1)] at this
                      exact this
                    have hsub : IntKind.i64.wrap ((d + 1 : Nat) : Int) = ((d + 1 : Nat) : Int) := wrap_nat _ (by omega)
                    generalize hd1 : d + 1 = T at *
                    clear hd1
                    go_wp2_with (at_builtin; refine append_run rfl _ _ rfl rfl (HP.out.1.alloc _) wr.heap.size 0 T rfl (by go_simp) (by go_simp) (by simp; omega) hl2 ?_; (intro v' w3 ho' hb'; obtain ⟨a4, c4, rfl⟩ := ho'.form))
                    have hlen : (rs l 0 ++ [(0, T)]).length = (rs l T).length := by rw [HS.out]
                    have ho4 : OU w2.heap.size w3 (.slice a4 (rs l 0 ++ [(0, T)]).length c4) (rs l T) := by rw [HS.out]; exact ho'
                    exact ⟨⟨0 + 1, T, a4, c4, by go_num, by rw [← hlen]; simp, by simpa using ho4, (HP.out.2.alloc hB _).trans hb', HN.out⟩, by simp [intOf]; omega⟩
                · have HEND : Hid (T = m ∨ bit l T = false) := .inl (by omega)
                  have hkT : 0 < T := by omega
                  have hl2 : (rs l 0).length < 1000000 := by have := rs_len l 0; omega
                  obtain ⟨d, rfl⟩ : ∃ d, T = d + 1 := ⟨T - 1, by omega⟩
                  have HS : Hid (rs l (d + 1) = rs l 0 ++ [(0, d + 1)]) := by
                    have := rs_run HST.out d (fun j _ h => HALL.out j (by omega))
                    rw [Nat.zero_add] at this
                    exact this
                  have HN : Hid (RIv l m (0 + 1) (d + 1)) := by
                    have := riv_new (k := 0) (d := d) hlt (fun j _ h => HALL.out j (by omega)) (by rw [Nat.zero_add]; exact HEND.out) (by omega)
                    rw [Nat.zero_add (d + 1)] at this
                    exact this
                  have hsub : IntKind.i64.wrap ((d + 1 : Nat) : Int) = ((d + 1 : Nat) : Int) := wrap_nat _ (by omega)
                  generalize hd1 : d + 1 = T at *
                  clear hd1
                  go_wp2_with (at_builtin; refine append_run rfl _ _ rfl rfl (HP.out.1.alloc _) wr.heap.size 0 T rfl (by go_simp) (by go_simp) (by simp; omega) hl2 ?_; (intro v' w3 ho' hb'; obtain ⟨a4, c4, rfl⟩ := ho'.form))
                  have hlen : (rs l 0 ++ [(0, T)]).length = (rs l T).length := by rw [HS.out]
                  have ho4 : OU w2.heap.size w3 (.slice a4 (rs l 0 ++ [(0, T)]).length c4) (rs l T) := by rw [HS.out]; exact ho'
                  exact ⟨⟨0 + 1, T, a4, c4, by go_num, by rw [← hlen]; simp, by simpa using ho4, (HP.out.2.alloc hB _).trans hb', HN.out⟩, by simp [intOf]; omega⟩
            · have hcp : wr.cell? ⟨g, k - 1, none⟩ = some (.bool (bit l (k - 1))) := HCELL.out (k - 1) (by omega)
              have hbf : bit l (k - 1) = false := by
                cases hx : bit l (k - 1)
                · rfl
                · exact absurd ⟨by omega, hx⟩ hst
              rw [hbf] at hcp
              have hp : IntKind.i64.wrap ((k : Int) - 1) = ((k - 1 : Nat) : Int) := by
                rw [show (k : Int) - 1 = ((k - 1 : Nat) : Int) by omega]; exact wrap_nat _ (by omega)
              have hp8 : k - 1 < 8 * l.length := by omega
              clear hbit hst hbf
              generalize k - 1 = p at hcp hp hp8
              go_wp2
              go_loopw [10] (fun t wr' => ∃ T : Nat, k ≤ T ∧ T ≤ m ∧ t = .int .i64 T ∧ wr' = wr ∧ ∀ j, k ≤ j → j < T → bit l j = true) (fun t _ => m - (intOf t).toNat)
              case atStart => exact ⟨k, Nat.le_refl _, by omega, rfl, rfl, fun j h1 h2 => by omega⟩
              case round =>
                obtain ⟨T, hT1, hT2, rfl, rfl, hall⟩ := hrel
                have HALL : Hid (∀ j, k ≤ j → j < T → bit l j = true) := hall
                clear hall
                by_cases hTm : T < m
                · have hT8 : T < 8 * l.length := by have := HCK.out.2.1; omega
                  have hcT : wr.cell? ⟨g, T, none⟩ = some (.bool (bit l T)) := HCELL.out T hT8
                  by_cases hbT : bit l T = true
                  · have HALL2 : Hid (∀ j, k ≤ j → j < T + 1 → bit l j = true) := fun j h1 h2 => by
                      by_cases hj : j < T
                      · exact HALL.out j h1 hj
                      · rw [show j = T by omega]; exact hbT
                    rw [hbT] at hcT
                    clear hbT
                    go_wp2
                    exact ⟨⟨T + 1, by omega, by omega, by go_num, (by first | rfl | trivial), HALL2.out⟩, by simp [intOf]; omega⟩
                  · have hbf : bit l T = false := by simpa using hbT
                    have hkT : k < T := by
                      rcases Nat.lt_or_ge k T with h | h
                      · exact h
                      · rw [show T = k by omega, HBK.out] at hbf; cases hbf
                    have HEND : Hid (T = m ∨ bit l T = false) := .inr hbf
                    rw [hbf] at hcT
                    clear hbT hbf
                    have hl2 : (rs l k).length < 1000000 := by have := rs_len l k; omega
                    obtain ⟨d, rfl⟩ : ∃ d, T = k + (d + 1) := ⟨T - k - 1, by omega⟩
                    have HS : Hid (rs l (k + (d + 1)) = rs l k ++ [(k, d + 1)]) := rs_run HST.out d HALL.out
                    have HN : Hid (RIv l m (k + 1) (k + (d + 1))) := riv_new hlt HALL.out HEND.out
                    have hsub : IntKind.i64.wrap (((k + (d + 1) : Nat) : Int) - (k : Int)) = ((d + 1 : Nat) : Int) := by
                      rw [show ((k + (d + 1) : Nat) : Int) - (k : Int) = ((d + 1 : Nat) : Int) by omega]; exact wrap_nat _ (by omega)
                    generalize hT : k + (d + 1) = T at *
                    generalize hd1 : d + 1 = D at *
                    clear hT hd1
                    go_wp2_with (at_builtin; refine append_run rfl _ _ rfl rfl (HP.out.1.alloc _) wr.heap.size k D rfl (by go_simp) (by go_simp) (by simp; omega) hl2 ?_; (intro v' w3 ho' hb'; obtain ⟨a4, c4, rfl⟩ := ho'.form))
                    have hlen : (rs l k ++ [(k, D)]).length = (rs l T).length := by rw [HS.out]
                    have ho4 : OU w2.heap.size w3 (.slice a4 (rs l k ++ [(k, D)]).length c4) (rs l T) := by rw [HS.out]; exact ho'
                    exact ⟨⟨k + 1, T, a4, c4, by go_num, by rw [← hlen]; simp, by simpa using ho4, (HP.out.2.alloc hB _).trans hb', HN.out⟩, by simp [intOf]; omega⟩
                · have HEND : Hid (T = m ∨ bit l T = false) := .inl (by omega)
                  have hkT : k < T := by omega
                  have hl2 : (rs l k).length < 1000000 := by have := rs_len l k; omega
                  obtain ⟨d, rfl⟩ : ∃ d, T = k + (d + 1) := ⟨T - k - 1, by omega⟩
                  have HS : Hid (rs l (k + (d + 1)) = rs l k ++ [(k, d + 1)]) := rs_run HST.out d HALL.out
                  have HN : Hid (RIv l m (k + 1) (k + (d + 1))) := riv_new hlt HALL.out HEND.out
                  have hsub : IntKind.i64.wrap (((k + (d + 1) : Nat) : Int) - (k : Int)) = ((d + 1 : Nat) : Int) := by
                    rw [show ((k + (d + 1) : Nat) : Int) - (k : Int) = ((d + 1 : Nat) : Int) by omega]; exact wrap_nat _ (by omega)
                  generalize hT : k + (d + 1) = T at *
                  generalize hd1 : d + 1 = D at *
                  clear hT hd1
                  go_wp2_with (at_builtin; refine append_run rfl _ _ rfl rfl (HP.out.1.alloc _) wr.heap.size k D rfl (by go_simp) (by go_simp) (by simp; omega) hl2 ?_; (intro v' w3 ho' hb'; obtain ⟨a4, c4, rfl⟩ := ho'.form))
                  have hlen : (rs l k ++ [(k, D)]).length = (rs l T).length := by rw [HS.out]
                  have ho4 : OU w2.heap.size w3 (.slice a4 (rs l k ++ [(k, D)]).length c4) (rs l T) := by rw [HS.out]; exact ho'
                  exact ⟨⟨k + 1, T, a4, c4, by go_num, by rw [← hlen]; simp, by simpa using ho4, (HP.out.2.alloc hB _).trans hb', HN.out⟩, by simp [intOf]; omega⟩
        · have hbf : bit l k = false := by simpa using hbit
          obtain ⟨he, hn⟩ := riv_no hlt hri hbf
          have HN : Hid (rs l (k + 1) = rs l E ∧ RIv l m (k + 1) (k + 1)) := ⟨he, hn⟩
          have HP : Hid (OU w2.heap.size wr (.slice a3 (rs l E).length c3) (rs l E) ∧ Below w2.heap.size w2 wr) := ⟨ho3, hb3⟩
          rw [hbf] at hc3
          clear hbit hbf he hn hri ho3 hb3
          go_wp2
          exact ⟨⟨k + 1, k + 1, a3, c3, by go_num, by rw [HN.out.1], by rw [HN.out.1]; exact HP.out.1, HP.out.2, HN.out.2⟩, by simp [intOf]; omega⟩
      · obtain rfl : k = m := by omega
        obtain rfl : E = k := by have := hri.1; have := hri.2.1; omega
        have HP : Hid (OU w2.heap.size wr (.slice a3 (rs l E).length c3) (rs l E) ∧ Below w2.heap.size w2 wr) := ⟨ho3, hb3⟩
        clear ho3 hb3 hri
        go_wp2
        go_ret2
        exact ⟨_, rs l E, 0, rfl, rowMono HP.out.1 HO.out.2.size, .inr ⟨HCK.out.1, by simp, rfl⟩, HO.out.2.trans (HP.out.2.mono HO.out.2.size)⟩
  · have HCK : Hid (ck n l ≠ 0) := hck
    have hz : (ck n l != 0) = true := by simpa using hck
    clear hck
    generalize hzz : ck n l = z at *
    have HZ : Hid (ck n l = z) := hzz
    clear hzz
    go_enter Tryd.func18, Tryd.ntmps18
    go_wp2_with (go_at_call 41; refine HC.out.mono ?_; rintro e w1 ⟨rfl, nq, rfl⟩)
    go_ret2
    exact ⟨_, [], z, rfl, World.ownsRow_nil _ _ _ _, .inl ⟨by rw [HZ.out]; exact HCK.out, rfl, HZ.out.symm⟩, belowDrew _ _⟩
end Go.Proofs.YtphehachmgfcaabDoor
