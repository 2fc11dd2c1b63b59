import Derived.Test.YtegdlkbilgkfoaaDoorM12
import Derived.Test.YtegdlkbilgkfoaaDoorM11
namespace Go.Proofs.YtegdlkbilgkfoaaDoor
open Go.RowKit Go.Deep
/-- the slice holds the text -/
def TX (w : World) (a : Option Addr) (c : Nat) (b : List UInt8) : Prop :=
  b.length ≤ c ∧ b.length ≤ 1048576 ∧ (b = [] ∨ ∃ g o, a = some ⟨g, o, none⟩ ∧ g < w.heap.size ∧ ∀ i, i < b.length → w.cell? ⟨g, o + i, none⟩ = some (.int .u8 ((byt b i).toNat : Int)))
theorem TX.keep {w w' : World} {a : Option Addr} {c : Nat} {b : List UInt8} (h : TX w a c b) (hb : Below w.heap.size w w') : TX w' a c b := by
  refine ⟨h.1, h.2.1, ?_⟩
  rcases h.2.2 with h | ⟨g, o, h1, h2, h3⟩
  · exact .inl h
  · exact .inr ⟨g, o, h1, Nat.lt_of_lt_of_le h2 hb.size, fun i hi => (World.cell?_of_block (w := w) (hb.block g h2)).trans (h3 i hi)⟩
theorem TX.byte {w : World} {a : Option Addr} {c k : Nat} {b : List UInt8} (h : TX w a c b) (hk : k < b.length) : ∃ g o, a = some ⟨g, o, none⟩ ∧ ∀ i, i < b.length → w.cell? ⟨g, o + i, none⟩ = some (.int .u8 ((byt b i).toNat : Int)) := by
  rcases h.2.2 with rfl | ⟨g, o, h1, _, h4⟩
  · simp at hk
  · exact ⟨g, o, h1, h4⟩
theorem digit36 (c : UInt8) (w : World) : Calls Tryd.prog 55 #[.int .u8 (c.toNat : Int)] w fun e w' => e = .returned (.bool (dig c)) ∧ w' = w := by
  have e : dig c = (decide ((48 : Int) ≤ (c.toNat : Int)) && decide ((c.toNat : Int) ≤ 57)) := by
    unfold dig
    rw [show decide (48 ≤ c) = decide ((48 : Int) ≤ (c.toNat : Int)) from by simp [UInt8.le_iff_toNat_le]; omega, show decide (c ≤ 57) = decide ((c.toNat : Int) ≤ 57) from by simp [UInt8.le_iff_toNat_le]; omega]
  rw [e]
  generalize (c.toNat : Int) = z
  by_cases h1 : 48 ≤ z
  · go_enter Tryd.func55, Tryd.ntmps55
    go_wp2
    go_ret
    exact ⟨by simp [h1], rfl⟩
  · have h2 : ¬ (z ≥ 48) := h1
    go_enter Tryd.func55, Tryd.ntmps55
    go_wp2
    go_ret
    exact ⟨by simp; omega, rfl⟩
/-- how a part of the reference ends -/
def pcT {α : Type} (r : Pc α) (val : α → Value) (zero : Value) (e : Ending) : Prop := match r with
  | .ok x j => e = .returned (.tuple #[val x, .int .i64 (j : Nat), .int .i64 0])
  | .bad p er => e = .returned (.tuple #[zero, .int .i64 (p : Nat), .int .i64 er])
theorem pcT.ok {α : Type} {r : Pc α} {val : α → Value} {zero : Value} {x : α} {j : Nat} (h : r = .ok x j) : pcT r val zero (.returned (.tuple #[val x, .int .i64 (j : Nat), .int .i64 0])) := by subst h; rfl
theorem pcT.bad {α : Type} {r : Pc α} {val : α → Value} {zero : Value} {p : Nat} {er : Int} (h : r = .bad p er) : pcT r val zero (.returned (.tuple #[zero, .int .i64 (p : Nat), .int .i64 er])) := by subst h; rfl
theorem run_pos {b : List UInt8} {i : Nat} (hi : i < b.length) (hd : dig (byt b i) = true) : 0 < run b i := by
  rcases Nat.eq_zero_or_pos (run b i) with h | h
  · have := run_end (b := b) (i := i) (by omega)
    rw [h, Nat.add_zero, hd] at this; cases this
  · exact h
theorem cut_all (b : List UInt8) (i : Nat) (hi : i ≤ b.length) : allDig (cut b i (i + run b i)) := by
  intro c hc
  obtain ⟨k, hk, rfl⟩ := List.mem_iff_getElem.1 hc
  have hl := cut_length (b := b) (i := i) (run_le hi)
  have h := (run_lt (b := b) (i := i) (k := k) (by omega)).2
  rw [← byt_cut (j := i + run b i) (by omega), dig_iff] at h
  simpa [byt, List.getD, List.getElem?_eq_getElem hk] using h
theorem digs_at {b : List UInt8} {en : UInt8} {i : Nat} (hr : 0 < run b i) (hk : i + run b i < b.length) (he : byt b (i + run b i) = en) : digs b en i = .ok (cut b i (i + run b i)) (i + run b i + 1) := by
  unfold digs
  rw [if_neg (by omega), if_neg (by intro h; rcases h with h | h; omega; exact h he)]
theorem digs_far {b : List UInt8} {en : UInt8} {i : Nat} (hk : b.length ≤ i + run b i) : digs b en i = .bad b.length 21 := by unfold digs; rw [if_pos hk]
theorem digs_off {b : List UInt8} {en : UInt8} {i : Nat} (hk : i + run b i < b.length) (he : run b i = 0 ∨ byt b (i + run b i) ≠ en) : digs b en i = .bad (i + run b i) 22 := by unfold digs; rw [if_neg (by omega), if_pos he]
theorem padd_cut {b : List UInt8} {i : Nat} (hi : i ≤ b.length) (hr : 0 < run b i) : padd (cut b i (i + run b i)) = (decide (1 < run b i) && byt b i == 48) := by
  have hl := cut_length (b := b) (i := i) (run_le hi)
  unfold padd
  rw [hl, show i + run b i - i = run b i from by omega, byt_cut (by omega), Nat.add_zero]
theorem strg_A {b : List UInt8} {i : Nat} (hk : b.length ≤ i + run b i) : strg b i = .bad b.length 21 := by unfold strg; rw [digs_far hk]
theorem strg_B {b : List UInt8} {i : Nat} (hk : i + run b i < b.length) (he : byt b (i + run b i) ≠ 58) : strg b i = .bad (i + run b i) 22 := by unfold strg; rw [digs_off hk (.inr he)]
theorem strg_C {b : List UInt8} {i : Nat} (hr : 0 < run b i) (hk : i + run b i < b.length) (he : byt b (i + run b i) = 58) (h0 : byt b i = 48) (h1 : 1 < run b i) : strg b i = .bad i 23 := by
  unfold strg; rw [digs_at hr hk he]
  dsimp only
  rw [if_pos (by rw [padd_cut (by omega) hr]; simp [h0, h1])]
theorem dval_big {d : List UInt8} (hd : allDig d) (h7 : 7 < d.length) (h0 : byt d 0 ≠ 48) : 10000000 ≤ dval 0 d := by
  cases d with
  | nil => simp at h7
  | cons x r =>
    have hx := hd x (List.mem_cons_self ..)
    have h1 : x.toNat ≠ 48 := fun e => h0 (UInt8.toNat_inj.1 e)
    rw [dval_cons]
    have h2 := dval_ge r (0 * 10 + (x.toNat - 48))
    have h3 : 10 ^ 7 ≤ 10 ^ r.length := Nat.pow_le_pow_right (by omega) (by simp at h7; omega)
    have h4 : 1 * 10 ^ r.length ≤ (0 * 10 + (x.toNat - 48)) * 10 ^ r.length := Nat.mul_le_mul_right _ (by omega)
    omega
theorem strg_D {b : List UInt8} {i : Nat} (hb : b.length ≤ 1048576) (hr : 0 < run b i) (hk : i + run b i < b.length) (he : byt b (i + run b i) = 58) (h0 : byt b i ≠ 48) (h7 : 7 < run b i) : strg b i = .bad b.length 21 := by
  have hd := digs_at hr hk he
  have hp : padd (cut b i (i + run b i)) = false := by rw [padd_cut (by omega) hr]; simp [h0]
  have hl := cut_length (b := b) (i := i) (run_le (b := b) (i := i) (by omega))
  have hall := cut_all b i (by omega)
  have hne : cut b i (i + run b i) ≠ [] := by intro e; rw [e] at hl; simp at hl; omega
  have hbig := dval_big hall (by omega) (by rw [byt_cut (by omega)]; simpa using h0)
  obtain ⟨p1, p2⟩ := atoi_pos hall hne
  rcases Nat.lt_or_ge (dval 0 (cut b i (i + run b i))) 9223372036854775808 with h | h
  · exact strg_far hd hp (p1 h) (by omega)
  · exact strg_no hd hp (p2 h)
theorem dval_small {d : List UInt8} (hd : allDig d) (h7 : d.length ≤ 7) : dval 0 d < 10000000 := by
  have := dval_lt d 0 hd
  have h3 : 10 ^ d.length ≤ 10 ^ 7 := Nat.pow_le_pow_right (by omega) h7
  omega
theorem strg_E {b : List UInt8} {i : Nat} (hr : 0 < run b i) (hk : i + run b i < b.length) (he : byt b (i + run b i) = 58) (h0 : ¬ (byt b i = 48 ∧ 1 < run b i)) (h7 : run b i ≤ 7) :
    strg b i = if b.length - (i + run b i) - 1 < dval 0 (cut b i (i + run b i)) then .bad b.length 21 else .ok ⟨(cut b (i + run b i + 1) (i + run b i + 1 + dval 0 (cut b i (i + run b i)))).toArray⟩ (i + run b i + 1 + dval 0 (cut b i (i + run b i))) := by
  have hd := digs_at hr hk he
  have hp : padd (cut b i (i + run b i)) = false := by
    rw [padd_cut (by omega) hr]
    by_cases e1 : 1 < run b i
    · by_cases e2 : byt b i = 48
      · exact absurd ⟨e2, e1⟩ h0
      · simp [e2]
    · simp [e1]
  have hl := cut_length (b := b) (i := i) (run_le (b := b) (i := i) (by omega))
  have hall := cut_all b i (by omega)
  have hne : cut b i (i + run b i) ≠ [] := by intro e; rw [e] at hl; simp at hl; omega
  have hsm := dval_small hall (by omega)
  have p1 := (atoi_pos hall hne).1 (by omega)
  by_cases h : b.length - (i + run b i) - 1 < dval 0 (cut b i (i + run b i))
  · rw [if_pos h]; exact strg_far hd hp p1 (by omega)
  · rw [if_neg h]; exact strg_ok hd hp p1 (by omega)
theorem cut_succ {b : List UInt8} {i k : Nat} (hk : i + k < b.length) : cut b i (i + (k + 1)) = cut b i (i + k) ++ [byt b (i + k)] := by
  unfold cut
  rw [show i + (k + 1) - i = k + 1 from by omega, show i + k - i = k from by omega, List.take_add_one, List.getElem?_drop]
  simp [byt, List.getD, List.getElem?_eq_getElem hk]
theorem cut_some (b : List UInt8) (i m : Nat) (hi : i ≤ b.length) (hm : m ≤ run b i) : allDig (cut b i (i + m)) := by
  intro c hc
  have hr := run_le hi
  obtain ⟨k, hk, rfl⟩ := List.mem_iff_getElem.1 hc
  have hl := cut_length (b := b) (i := i) (j := i + m) (by omega)
  have h := (run_lt (b := b) (i := i) (k := k) (by omega)).2
  rw [← byt_cut (j := i + m) (by omega), dig_iff] at h
  simpa [byt, List.getD, List.getElem?_eq_getElem hk] using h
theorem cut_zero (b : List UInt8) (i : Nat) : cut b i (i + 0) = [] := by unfold cut; simp
/-- what a string reads as, case by case -/
def TT (b : List UInt8) (i : Nat) : Prop := (b.length ≤ i + run b i → strg b i = .bad b.length 21) ∧ (i + run b i < b.length → byt b (i + run b i) ≠ 58 → strg b i = .bad (i + run b i) 22) ∧
  (i + run b i < b.length → byt b (i + run b i) = 58 → byt b i = 48 → 1 < run b i → strg b i = .bad i 23) ∧
  (i + run b i < b.length → byt b (i + run b i) = 58 → byt b i ≠ 48 → 7 < run b i → strg b i = .bad b.length 21) ∧
  (i + run b i < b.length → byt b (i + run b i) = 58 → ¬ (byt b i = 48 ∧ 1 < run b i) → run b i ≤ 7 → strg b i = if b.length - (i + run b i) - 1 < dval 0 (cut b i (i + run b i)) then .bad b.length 21 else .ok ⟨(cut b (i + run b i + 1) (i + run b i + 1 + dval 0 (cut b i (i + run b i)))).toArray⟩ (i + run b i + 1 + dval 0 (cut b i (i + run b i))))
theorem tt_of {b : List UInt8} {i : Nat} (hb : b.length ≤ 1048576) (hr : 0 < run b i) (_ : i < b.length) : TT b i :=
  ⟨strg_A, strg_B, fun h1 h2 h3 h4 => strg_C hr h1 h2 h3 h4, fun h1 h2 h3 h4 => strg_D hb hr h1 h2 h3 h4, fun h1 h2 h3 h4 => strg_E hr h1 h2 h3 h4⟩
set_option maxRecDepth 10000 in
set_option maxHeartbeats 1000000 in
theorem str37 (a : Option Addr) (c : Nat) (b : List UInt8) (i : Nat) (w : World) (h : TX w a c b) (hi : i < b.length) (hd : dig (byt b i) = true) :
    Calls Tryd.prog 56 #[.slice a b.length c, .int .i64 i] w fun e w' => w' = w ∧ pcT (strg b i) (fun s => .string s) (.string { data := #[] }) e := by
  obtain ⟨g, o, rfl, hcell⟩ := h.byte hi
  have HC := Lib.hid hcell
  have hl := h.2.1
  have hcap := h.1
  have hrl := run_le (b := b) (i := i) (by omega)
  clear h hcell
  have HP := Lib.hid (run_pos hi hd)
  go_enter Tryd.func56, Tryd.ntmps56
  go_wp2
  go_loopw [7] (fun v wr => ∃ m : Nat, m ≤ run b i ∧ v = .int .i64 ((i + m : Nat) : Int) ∧ wr = w) (fun v _ => b.length - (intOf v).toNat)
  case atStart => exact ⟨0, Nat.zero_le _, rfl, rfl⟩
  case round =>
    obtain ⟨m, hm, rfl, rfl⟩ := hrel
    by_cases hend : i + m < b.length ∧ dig (byt b (i + m)) = true
    · obtain ⟨h1, h2⟩ := hend
      have hmr : m < run b i := by
        rcases Nat.lt_or_ge m (run b i) with h | h
        · exact h
        · have e : m = run b i := by omega
          subst e
          rw [run_end h1] at h2; cases h2
      have hc := HC.out (i + m) h1
      generalize hkm : i + m = k at *
      have k0 : (0 : Int) ≤ (k : Int) := by omega
      have k1 : (k : Int) < (b.length : Int) := by omega
      go_wp2_with fail
      refine (digit36 _ _).mono ?_
      rintro e w2 ⟨rfl, rfl⟩
      rw [h2]
      go_wp2
      exact ⟨⟨m + 1, by omega, by rw [← hkm]; congr 1, trivial⟩, by simp [intOf]; omega⟩
    · have hmr : m = run b i := by
        rcases Nat.lt_or_ge m (run b i) with h | h
        · exact absurd (run_lt h) hend
        · omega
      subst hmr
      have HT : Hid (TT b i) := Lib.hid (tt_of hl HP.out hi)
      have hij : i < i + run b i := by have := HP.out; omega
      clear hm
      have HCX := HC
      generalize hK : i + run b i = K at *
      have K0 : (0 : Int) ≤ (K : Int) := by omega
      by_cases hKn : K < b.length
      · have hc := HC.out K hKn
        have hdf : dig (byt b K) = false := by
          rcases Bool.eq_false_or_eq_true (dig (byt b K)) with h | h
          · exact absurd ⟨hKn, h⟩ hend
          · exact h
        have K1 : (K : Int) < (b.length : Int) := by omega
        have K2 : ¬ ((b.length : Int) ≤ (K : Int)) := by omega
        have hci := HC.out i hi
        have i0 : (0 : Int) ≤ (i : Int) := by omega
        have i1 : (i : Int) < (b.length : Int) := by omega
        clear hend
        go_wp2_with fail
        refine (digit36 _ _).mono ?_
        rintro e w2 ⟨rfl, rfl⟩
        rw [hdf]
        by_cases h58 : byt b K = 58
        · rw [h58] at hc
          by_cases h48 : byt b i = 48 ∧ i + 1 < K
          · rw [h48.1] at hci
            have z1 : (i : Int) + 1 < (K : Int) := by omega
            have HE : Hid (strg b i = .bad i 23) := Lib.hid (HT.out.2.2.1 (by omega) (by rw [hK]; exact h58) h48.1 (by omega))
            go_wp2
            refine bodyPost_ret (results_tmp3 rfl _ _ _) rfl ?_
            exact ⟨rfl, pcT.bad HE.out⟩
          · by_cases h7 : 7 < K - i
            · have HE : Hid (strg b i = .bad b.length 21) := Lib.hid (HT.out.2.2.2.1 (by omega) (by rw [hK]; exact h58) (fun e => h48 ⟨e, by omega⟩) (by omega))
              have z7 : (7 : Int) < (K : Int) - (i : Int) := by omega
              have hz48 : ((byt b i).toNat : Int) ≠ 48 := u8_ne (fun e => h48 ⟨e, by omega⟩)
              go_wp2
              refine bodyPost_ret (results_tmp3 rfl _ _ _) rfl ?_
              exact ⟨rfl, pcT.bad HE.out⟩
            have z7 : ¬ (7 : Int) < (K : Int) - (i : Int) := by omega
            have HE := Lib.hid (HT.out.2.2.2.2 (by omega) (by rw [hK]; exact h58) (fun h => h48 ⟨h.1, by omega⟩) (by omega))
            rw [hK] at HE
            clear HT
            by_cases hz : byt b i = 48
            · rw [hz] at hci
              have hq1 : ¬ (i : Int) + 1 < (K : Int) := by have : ¬ i + 1 < K := fun h => h48 ⟨hz, h⟩; omega
              go_wp2
              go_loopw [8, 9] (fun v u wr => ∃ m : Nat, i + m ≤ K ∧ v = .int .i64 ((dval 0 (cut b i (i + m)) : Nat) : Int) ∧ u = .int .i64 ((i + m : Nat) : Int) ∧ wr = w2) (fun _ u _ => K - (intOf u).toNat)
              case atStart => exact ⟨0, by omega, by rw [cut_zero, dval_nil]; rfl, rfl, rfl⟩
              case round =>
                clear hc hci
                obtain ⟨m, hm, rfl, rfl, rfl⟩ := hrel
                by_cases hmK : i + m < K
                · have hcm := HC.out (i + m) (by omega)
                  have hdm := (dig_iff _).1 (run_lt (b := b) (i := i) (k := m) (by omega)).2
                  have hbd : dval 0 (cut b i (i + m)) < 10000000 := dval_small (cut_some b i m (by omega) (by omega)) (by rw [cut_length (by omega)]; omega)
                  have hnx : dval 0 (cut b i (i + (m + 1))) = dval 0 (cut b i (i + m)) * 10 + ((byt b (i + m)).toNat - 48) := by rw [cut_succ (by omega), dval_snoc]
                  generalize dval 0 (cut b i (i + m)) = x at *
                  have hnx2 : ((dval 0 (cut b i (i + (m + 1))) : Nat) : Int) = 10 * (x : Int) + ((byt b (i + m)).toNat : Int) - 48 := by rw [hnx]; omega
                  have HNX := Lib.hid hnx2
                  clear hnx hnx2
                  generalize hq : (byt b (i + m)).toNat = q at *
                  generalize hkm : i + m = k at *
                  have k0 : (0 : Int) ≤ (k : Int) := by omega
                  have k1 : (k : Int) < (b.length : Int) := by omega
                  have k2 : (k : Int) < (K : Int) := by omega
                  clear hq
                  go_wp2
                  refine ⟨⟨m + 1, by omega, ?_, ?_, trivial⟩, by simp [intOf]; omega⟩
                  · rw [HNX.out]
                  · rw [← hkm]; congr 1
                · have hKm : i + m = K := by omega
                  have hsm : dval 0 (cut b i K) < 10000000 := dval_small (hK ▸ cut_all b i (by omega)) (by rw [cut_length (by omega)]; omega)
                  rw [hKm]
                  generalize dval 0 (cut b i K) = x at *
                  clear hm hmK hKm h58 h48 hdf
                  by_cases hx : b.length - K - 1 < x
                  · rw [if_pos hx] at HE
                    have z9 : (b.length : Int) - (K : Int) - 1 < (x : Int) := by omega
                    go_wp2
                    refine bodyPost_ret (results_tmp3 rfl _ _ _) rfl ?_
                    exact ⟨rfl, pcT.bad HE.out⟩
                  · rw [if_neg hx] at HE
                    have z9 : ¬ (b.length : Int) - (K : Int) - 1 < (x : Int) := by omega
                    have y0 : (0 : Int) ≤ (K : Int) + 1 := by omega
                    have y1 : (K : Int) + 1 ≤ (K : Int) + 1 + (x : Int) := by omega
                    have y2 : (K : Int) + 1 + (x : Int) ≤ (c : Int) := by omega
                    have y3 : (K : Int) + 1 + (x : Int) ≤ 1048576 := by omega
                    have y4 : K + 1 + x ≤ c := by omega
                    have hcv := conv_cut (g := g) (o := o) (i := K + 1) (j := K + 1 + x) (cap := c - (K + 1)) (b := b) (w := wr) (by omega) HC.out 9 Tryd.underlying9
                    rw [show K + 1 + x - (K + 1) = x from by omega] at hcv
                    by_cases hcK : c = K + 1
                    · have hcv2 := conv_cut (g := g) (o := o) (i := 0) (j := 0) (cap := 0) (b := b) (w := wr) (by omega) HC.out 9 Tryd.underlying9
                      have hx0 : x = 0 := by omega
                      have hcc : cut b (K + 1) (K + 1 + x) = cut b 0 0 := by rw [hx0]; simp [cut]
                      have hcv3 : (convert 22 9 (.slice (some ⟨g, o, none⟩) x 0)).run Tryd.prog wr = .ok (.string ⟨(cut b (K + 1) (K + 1 + x)).toArray⟩) wr := by rw [hcc, hx0]; simpa using hcv2
                      clear hcv hcv2 hcc hx0
                      go_wp2
                      refine bodyPost_ret (results_tmp3 rfl _ _ _) rfl ?_
                      exact ⟨rfl, pcT.ok HE.out⟩
                    · go_wp2
                      refine bodyPost_ret (results_tmp3 rfl _ _ _) rfl ?_
                      exact ⟨rfl, pcT.ok HE.out⟩
            · have hz48 : ((byt b i).toNat : Int) ≠ 48 := u8_ne hz
              go_wp2
              go_loopw [8, 9] (fun v u wr => ∃ m : Nat, i + m ≤ K ∧ v = .int .i64 ((dval 0 (cut b i (i + m)) : Nat) : Int) ∧ u = .int .i64 ((i + m : Nat) : Int) ∧ wr = w2) (fun _ u _ => K - (intOf u).toNat)
              case atStart => exact ⟨0, by omega, by rw [cut_zero, dval_nil]; rfl, rfl, rfl⟩
              case round =>
                clear hc hci
                obtain ⟨m, hm, rfl, rfl, rfl⟩ := hrel
                by_cases hmK : i + m < K
                · have hcm := HC.out (i + m) (by omega)
                  have hdm := (dig_iff _).1 (run_lt (b := b) (i := i) (k := m) (by omega)).2
                  have hbd : dval 0 (cut b i (i + m)) < 10000000 := dval_small (cut_some b i m (by omega) (by omega)) (by rw [cut_length (by omega)]; omega)
                  have hnx : dval 0 (cut b i (i + (m + 1))) = dval 0 (cut b i (i + m)) * 10 + ((byt b (i + m)).toNat - 48) := by rw [cut_succ (by omega), dval_snoc]
                  generalize dval 0 (cut b i (i + m)) = x at *
                  have hnx2 : ((dval 0 (cut b i (i + (m + 1))) : Nat) : Int) = 10 * (x : Int) + ((byt b (i + m)).toNat : Int) - 48 := by rw [hnx]; omega
                  have HNX := Lib.hid hnx2
                  clear hnx hnx2
                  generalize hq : (byt b (i + m)).toNat = q at *
                  generalize hkm : i + m = k at *
                  have k0 : (0 : Int) ≤ (k : Int) := by omega
                  have k1 : (k : Int) < (b.length : Int) := by omega
                  have k2 : (k : Int) < (K : Int) := by omega
                  clear hq
                  go_wp2
                  refine ⟨⟨m + 1, by omega, ?_, ?_, trivial⟩, by simp [intOf]; omega⟩
                  · rw [HNX.out]
                  · rw [← hkm]; congr 1
                · have hKm : i + m = K := by omega
                  have hsm : dval 0 (cut b i K) < 10000000 := dval_small (hK ▸ cut_all b i (by omega)) (by rw [cut_length (by omega)]; omega)
                  rw [hKm]
                  generalize dval 0 (cut b i K) = x at *
                  clear hm hmK hKm h58 h48 hdf
                  by_cases hx : b.length - K - 1 < x
                  · rw [if_pos hx] at HE
                    have z9 : (b.length : Int) - (K : Int) - 1 < (x : Int) := by omega
                    go_wp2
                    refine bodyPost_ret (results_tmp3 rfl _ _ _) rfl ?_
                    exact ⟨rfl, pcT.bad HE.out⟩
                  · rw [if_neg hx] at HE
                    have z9 : ¬ (b.length : Int) - (K : Int) - 1 < (x : Int) := by omega
                    have y0 : (0 : Int) ≤ (K : Int) + 1 := by omega
                    have y1 : (K : Int) + 1 ≤ (K : Int) + 1 + (x : Int) := by omega
                    have y2 : (K : Int) + 1 + (x : Int) ≤ (c : Int) := by omega
                    have y3 : (K : Int) + 1 + (x : Int) ≤ 1048576 := by omega
                    have y4 : K + 1 + x ≤ c := by omega
                    have hcv := conv_cut (g := g) (o := o) (i := K + 1) (j := K + 1 + x) (cap := c - (K + 1)) (b := b) (w := wr) (by omega) HC.out 9 Tryd.underlying9
                    rw [show K + 1 + x - (K + 1) = x from by omega] at hcv
                    by_cases hcK : c = K + 1
                    · have hcv2 := conv_cut (g := g) (o := o) (i := 0) (j := 0) (cap := 0) (b := b) (w := wr) (by omega) HC.out 9 Tryd.underlying9
                      have hx0 : x = 0 := by omega
                      have hcc : cut b (K + 1) (K + 1 + x) = cut b 0 0 := by rw [hx0]; simp [cut]
                      have hcv3 : (convert 22 9 (.slice (some ⟨g, o, none⟩) x 0)).run Tryd.prog wr = .ok (.string ⟨(cut b (K + 1) (K + 1 + x)).toArray⟩) wr := by rw [hcc, hx0]; simpa using hcv2
                      clear hcv hcv2 hcc hx0
                      go_wp2
                      refine bodyPost_ret (results_tmp3 rfl _ _ _) rfl ?_
                      exact ⟨rfl, pcT.ok HE.out⟩
                    · go_wp2
                      refine bodyPost_ret (results_tmp3 rfl _ _ _) rfl ?_
                      exact ⟨rfl, pcT.ok HE.out⟩
        · have HE : Hid (strg b i = .bad K 22) := Lib.hid (hK ▸ HT.out.2.1 (by omega) (by rw [hK]; exact h58))
          have z : ((byt b K).toNat : Int) ≠ 58 := u8_ne h58
          go_wp2
          refine bodyPost_ret (results_tmp3 rfl _ _ _) rfl ?_
          exact ⟨rfl, pcT.bad HE.out⟩
      · have HE : Hid (strg b i = .bad b.length 21) := Lib.hid (HT.out.1 (by omega))
        have K1 : ¬ (K : Int) < (b.length : Int) := by omega
        have K2 : (b.length : Int) ≤ (K : Int) := by omega
        clear hend
        go_wp2
        refine bodyPost_ret (results_tmp3 rfl _ _ _) rfl ?_
        exact ⟨rfl, pcT.bad HE.out⟩
end Go.Proofs.YtegdlkbilgkfoaaDoor
