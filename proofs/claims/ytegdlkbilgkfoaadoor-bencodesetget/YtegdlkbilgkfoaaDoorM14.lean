import Derived.Test.YtegdlkbilgkfoaaDoorM13
namespace Go.Proofs.YtegdlkbilgkfoaaDoor
open Go.RowKit Go.Deep
def fitB (l : List UInt8) (m : Bool) : Bool := decide (dval 0 l ≤ if m = true then 9223372036854775808 else 9223372036854775807)
theorem fit_short {l : List UInt8} (m : Bool) (hd : allDig l) (h : l.length < 19) : fitB l m = true := by
  have := dval_lt l 0 hd
  have h3 : 10 ^ l.length ≤ 10 ^ 18 := Nat.pow_le_pow_right (by omega) (by omega)
  unfold fitB
  cases m <;> simp <;> omega
theorem fit_long {l : List UInt8} (m : Bool) (hd : allDig l) (h : 19 < l.length) (h0 : byt l 0 ≠ 48) : fitB l m = false := by
  cases l with
  | nil => simp at h
  | cons x r =>
    have hx := hd x (List.mem_cons_self ..)
    have h1 : x.toNat ≠ 48 := fun e => h0 (UInt8.toNat_inj.1 e)
    have h2 := dval_ge r (0 * 10 + (x.toNat - 48))
    have h3 : 10 ^ 19 ≤ 10 ^ r.length := Nat.pow_le_pow_right (by omega) (by simp at h; omega)
    have h4 : 1 * 10 ^ r.length ≤ (0 * 10 + (x.toNat - 48)) * 10 ^ r.length := Nat.mul_le_mul_right _ (by omega)
    unfold fitB
    rw [dval_cons]
    generalize dval (0 * 10 + (x.toNat - 48)) r = q at *
    have hq : 10000000000000000000 ≤ q := by omega
    cases m <;> simp <;> omega
def mostL : List UInt8 := [57, 50, 50, 51, 51, 55, 50, 48, 51, 54, 56, 53, 52, 55, 55, 53, 56, 48, 55]
def leastL : List UInt8 := [57, 50, 50, 51, 51, 55, 50, 48, 51, 54, 56, 53, 52, 55, 55, 53, 56, 48, 56]
theorem most_val : dval 0 mostL = 9223372036854775807 := by decide +kernel
theorem least_val : dval 0 leastL = 9223372036854775808 := by decide +kernel
theorem most_all : allDig mostL := by intro c hc; revert c; decide +kernel
theorem least_all : allDig leastL := by intro c hc; revert c; decide +kernel
theorem fit_most {l : List UInt8} (hd : allDig l) (h : l.length = 19) : fitB l false = (Op.bytesLess l mostL || l == mostL) := by
  have := less_dval l mostL 0 hd most_all (by rw [h]; rfl)
  rw [most_val] at this
  unfold fitB
  simp only [Bool.false_eq_true, if_false]
  cases e : (Op.bytesLess l mostL || l == mostL) with
  | true => exact decide_eq_true (this.1 e)
  | false => exact decide_eq_false (fun h => by rw [this.2 h] at e; cases e)
theorem fit_least {l : List UInt8} (hd : allDig l) (h : l.length = 19) : fitB l true = (Op.bytesLess l leastL || l == leastL) := by
  have := less_dval l leastL 0 hd least_all (by rw [h]; rfl)
  rw [least_val] at this
  unfold fitB
  simp only [if_true]
  cases e : (Op.bytesLess l leastL || l == leastL) with
  | true => exact decide_eq_true (this.1 e)
  | false => exact decide_eq_false (fun h => by rw [this.2 h] at e; cases e)
set_option maxRecDepth 10000 in
theorem fits57 (l : List UInt8) (m : Bool) (w : World) (hd : allDig l) (hl : l.length ≤ 1048576) (h0 : 1 < l.length → byt l 0 ≠ 48) :
    Calls Tryd.prog 74 #[.string ⟨l.toArray⟩, .bool m] w fun e w' => w' = w ∧ e = .returned (.bool (fitB l m)) := by
  have hs := ba_size l
  by_cases h19 : l.length = 19
  · have z : (l.length : Int) = 19 := by omega
    cases m with
    | true =>
      rw [fit_least hd h19]
      clear h19
      go_enter Tryd.func74, Tryd.ntmps74
      go_wp2
      go_ret
      exact ⟨rfl, rfl⟩
    | false =>
      rw [fit_most hd h19]
      clear h19
      go_enter Tryd.func74, Tryd.ntmps74
      go_wp2
      go_ret
      exact ⟨rfl, rfl⟩
  · have z : (l.length : Int) ≠ 19 := by omega
    by_cases hlt : l.length < 19
    · rw [fit_short m hd hlt]
      have z2 : (l.length : Int) < 19 := by omega
      go_enter Tryd.func74, Tryd.ntmps74
      go_wp2
      go_ret
      exact ⟨rfl, by simp⟩
    · rw [fit_long m hd (by omega) (h0 (by omega))]
      have z2 : ¬ (l.length : Int) < 19 := by omega
      go_enter Tryd.func74, Tryd.ntmps74
      go_wp2
      go_ret
      exact ⟨rfl, by simp⟩
/-- the sign's bytes -/
def sgn (mb : Bool) : List UInt8 := if mb = true then [45] else []
/-- the number that digits behind a sign tell -/
def sval (mb : Bool) (d : List UInt8) : Int := if mb = true then -(dval 0 d : Int) else (dval 0 d : Int)
theorem atoi_fit {d : List UInt8} (mb : Bool) (hd : allDig d) (hn : d ≠ []) : (fitB d mb = true → Lib.atoiAll (sgn mb ++ d) = .ok (sval mb d)) ∧ (fitB d mb = false → ∀ v, Lib.atoiAll (sgn mb ++ d) ≠ .ok v) := by
  cases mb with
  | true =>
    obtain ⟨p1, p2⟩ := atoi_neg hd hn
    constructor
    · intro h
      have h' : dval 0 d ≤ 9223372036854775808 := by simpa [fitB] using h
      exact p1 h'
    · intro h
      have h' : 9223372036854775808 < dval 0 d := by simpa [fitB] using h
      exact p2 h'
  | false =>
    obtain ⟨p1, p2⟩ := atoi_pos hd hn
    constructor
    · intro h
      have h' : dval 0 d ≤ 9223372036854775807 := by simpa [fitB] using h
      exact p1 (by omega)
    · intro h
      have h' : 9223372036854775807 < dval 0 d := by simpa [fitB] using h
      exact p2 (by omega)
/-- what a number reads as, case by case; its digits begin at F -/
def NT (b : List UInt8) (i F : Nat) (mb : Bool) : Prop := (b.length ≤ F + run b F → numb b i = .bad b.length 21) ∧ (F + run b F < b.length → (run b F = 0 ∨ byt b (F + run b F) ≠ 101) → numb b i = .bad (F + run b F) 22) ∧
  (F + run b F < b.length → 0 < run b F → byt b (F + run b F) = 101 → byt b F = 48 → (1 < run b F ∨ mb = true) → numb b i = .bad i 23) ∧
  (F + run b F < b.length → 0 < run b F → byt b (F + run b F) = 101 → fitB (cut b F (F + run b F)) mb = false → numb b i = .bad i 23) ∧
  (F + run b F < b.length → 0 < run b F → byt b (F + run b F) = 101 → ¬ (byt b F = 48 ∧ (1 < run b F ∨ mb = true)) → fitB (cut b F (F + run b F)) mb = true → numb b i = .ok (sval mb (cut b F (F + run b F))) (F + run b F + 1))
theorem nt_of {b : List UInt8} {i F : Nat} {mb : Bool} (h1 : i + 1 < b.length) (hs : (if byt b (i + 1) = 45 then [45] else [] : List UInt8) = sgn mb) (hF : F = i + 1 + (sgn mb).length) (hFl : F ≤ b.length) : NT b i F mb := by
  have e := numb_sg h1
  rw [hs, ← hF] at e
  have hcl := cut_length (b := b) (i := F) (run_le hFl)
  have hall := cut_all b F hFl
  have hne : 0 < run b F → cut b F (F + run b F) ≠ [] := by intro h e; rw [e] at hcl; simp at hcl; omega
  refine ⟨fun h => ?_, fun h h2 => ?_, fun h hr he h48 h2 => ?_, fun h hr he hf => ?_, fun h hr he h48 hf => ?_⟩
  · rw [e, digs_far h]
  · rw [e, digs_off h h2]
  · have hd := digs_at hr h he
    cases ha : Lib.atoiAll (sgn mb ++ cut b F (F + run b F)) with
    | ok v =>
      refine numb_bad h1 hs (by rw [← hF]; exact hd) ha ?_
      rcases Nat.lt_or_ge 1 (run b F) with h3 | h3
      · left; rw [padd_cut hFl hr]; simp [h48, h3]
      · right
        rcases h2 with h2 | rfl
        · omega
        · have hr1 : run b F = 1 := by omega
          have : cut b F (F + run b F) = [48] := by
            rw [hr1]
            have := cut_succ (b := b) (i := F) (k := 0) (by omega)
            rw [cut_zero] at this
            rw [this]
            simpa using h48
          rw [this]; rfl
    | «syntax» => exact numb_no h1 hs (by rw [← hF]; exact hd) (fun v hv => by rw [ha] at hv; cases hv)
    | range => exact numb_no h1 hs (by rw [← hF]; exact hd) (fun v hv => by rw [ha] at hv; cases hv)
  · exact numb_no h1 hs (by rw [← hF]; exact digs_at hr h he) ((atoi_fit mb hall (hne hr)).2 hf)
  · refine numb_ok h1 hs (by rw [← hF]; exact digs_at hr h he) ((atoi_fit mb hall (hne hr)).1 hf) ?_ ?_
    · rw [padd_cut hFl hr]
      by_cases e1 : 1 < run b F
      · by_cases e2 : byt b F = 48
        · exact absurd ⟨e2, .inl e1⟩ h48
        · simp [e2]
      · simp [e1]
    · intro h5
      cases mb with
      | true =>
        have h6 : cut b F (F + run b F) = [48] := by simpa [sgn] using h5
        have h7 := byt_cut (b := b) (i := F) (j := F + run b F) (k := 0) (by omega)
        rw [h6] at h7
        exact h48 ⟨by simpa [byt] using h7.symm, .inr rfl⟩
      | false =>
        have h6 : cut b F (F + run b F) = [45, 48] := by simpa [sgn] using h5
        have h7 := hall 45 (by rw [h6]; simp)
        simp at h7
theorem ba_at (l : List UInt8) (m : Nat) (h : m < (⟨l.toArray⟩ : ByteArray).size) : (⟨l.toArray⟩ : ByteArray)[m] = byt l m := by
  rw [ba_size] at h
  show l.toArray[m] = _
  simp [byt, List.getD, List.getElem?_eq_getElem h]
theorem take_succ' (d : List UInt8) (m : Nat) (h : m < d.length) : d.take (m + 1) = d.take m ++ [byt d m] := by
  rw [List.take_add_one]
  simp [byt, List.getD, List.getElem?_eq_getElem h]
theorem sval_succ (mb : Bool) (d : List UInt8) (m : Nat) (h : m < d.length) : sval mb (d.take (m + 1)) = if mb = true then 10 * sval mb (d.take m) - (((byt d m).toNat - 48 : Nat) : Int) else 10 * sval mb (d.take m) + (((byt d m).toNat - 48 : Nat) : Int) := by
  unfold sval
  rw [take_succ' d m h, dval_snoc]
  cases mb <;> simp <;> omega
theorem dval_append (x y : List UInt8) (a : Nat) : dval a (x ++ y) = dval (dval a x) y := List.foldl_append ..
theorem fit_take {d : List UInt8} {mb : Bool} (_ : allDig d) (hf : fitB d mb = true) {m : Nat} (h : m < d.length) : dval 0 (d.take m) * 10 + ((byt d m).toNat - 48) ≤ 9223372036854775808 ∧ (mb = false → dval 0 (d.take m) * 10 + ((byt d m).toNat - 48) ≤ 9223372036854775807) := by
  have e : dval 0 d = dval (dval 0 (d.take m) * 10 + ((byt d m).toNat - 48)) (d.drop (m + 1)) := by
    rw [← dval_snoc, ← take_succ' d m h, ← dval_append, List.take_append_drop]
  have h2 := dval_le (d.drop (m + 1)) (dval 0 (d.take m) * 10 + ((byt d m).toNat - 48))
  rw [← e] at h2
  unfold fitB at hf
  cases mb with
  | true =>
    have h3 : dval 0 d ≤ 9223372036854775808 := by simpa using hf
    exact ⟨by omega, fun h => by cases h⟩
  | false =>
    have h3 : dval 0 d ≤ 9223372036854775807 := by simpa using hf
    exact ⟨by omega, fun _ => by omega⟩
set_option maxRecDepth 10000 in
set_option maxHeartbeats 1000000 in
theorem number50 (a : Option Addr) (c : Nat) (b : List UInt8) (i : Nat) (w : World) (h : TX w a c b) (hi : i < b.length) :
    Calls Tryd.prog 67 #[.slice a b.length c, .int .i64 i] w fun e w' => w' = w ∧ pcT (numb b i) (fun n => .int .i64 n) (.int .i64 0) e := by
  obtain ⟨g, o, rfl, hcell⟩ := h.byte hi
  have HC := Lib.hid hcell
  have hl := h.2.1
  have hcap := h.1
  clear h hcell
  by_cases h1 : i + 1 < b.length
  · have hc1 := HC.out (i + 1) h1
    have z1 : (i : Int) + 1 < (b.length : Int) := by omega
    have z0 : (0 : Int) ≤ (i : Int) + 1 := by omega
    by_cases hm : byt b (i + 1) = 45
    · rw [hm] at hc1
      have HT : Hid (NT b i (i + 1 + 1) true) := Lib.hid (nt_of h1 (by rw [if_pos hm]; rfl) rfl (by omega))
      have hFl : (i + 1 + 1) ≤ b.length := by omega
      go_enter Tryd.func67, Tryd.ntmps67
      go_wp2
      rw [show (i : Int) + 1 + 1 = (((i + 1 + 1) : Nat) : Int) from by omega]
      clear hc1 z1 z0 hm
      generalize (i + 1 + 1) = F at *
      have hrl := run_le hFl
      go_loopw [7] (fun v wr => ∃ m : Nat, m ≤ run b F ∧ v = .int .i64 ((F + m : Nat) : Int) ∧ wr = w) (fun v _ => b.length - (intOf v).toNat)
      case atStart => exact ⟨0, Nat.zero_le _, rfl, rfl⟩
      case round =>
        obtain ⟨m, hm, rfl, rfl⟩ := hrel
        by_cases hend : F + m < b.length ∧ dig (byt b (F + m)) = true
        · obtain ⟨h1, h2⟩ := hend
          have hmr : m < run b F := by
            rcases Nat.lt_or_ge m (run b F) with h | h
            · exact h
            · have e : m = run b F := by omega
              subst e
              rw [run_end h1] at h2; cases h2
          have hc := HC.out (F + m) h1
          generalize hkm : F + m = k at *
          have k0 : (0 : Int) ≤ (k : Int) := by omega
          have k1 : (k : Int) < (b.length : Int) := by omega
          go_wp2_with fail
          refine (digit36 _ _).mono ?_
          rintro e w2 ⟨rfl, rfl⟩
          rw [h2]
          go_wp2
          exact ⟨⟨m + 1, by omega, by rw [← hkm]; congr 1, trivial⟩, by simp [intOf]; omega⟩
        · have hmr : m = run b F := by
            rcases Nat.lt_or_ge m (run b F) with h | h
            · exact absurd (run_lt h) hend
            · omega
          subst hmr
          have hFK : F ≤ F + run b F := by omega
          clear hm
          generalize hK : F + run b F = K at *
          have K0 : (0 : Int) ≤ (K : Int) := by omega
          by_cases hKn : K < b.length
          · have hc := HC.out K hKn
            have hdf : dig (byt b K) = false := by
              rcases Bool.eq_false_or_eq_true (dig (byt b K)) with h | h
              · exact absurd ⟨hKn, h⟩ hend
              · exact h
            have K1 : (K : Int) < (b.length : Int) := by omega
            have K2 : ¬ ((b.length : Int) ≤ (K : Int)) := by omega
            clear hend
            go_wp2_with fail
            refine (digit36 _ _).mono ?_
            rintro e w2 ⟨rfl, rfl⟩
            rw [hdf]
            by_cases hKF : K = F
            · have HE : Hid (numb b i = .bad F 22) := Lib.hid (by have h := HT.out.2.1 (by omega) (.inl (by omega)); rw [hK, hKF] at h; exact h)
              have z : (K : Int) = (F : Int) := by omega
              clear hKF
              go_wp2
              refine bodyPost_ret (results_tmp3 rfl _ _ _) rfl ?_
              exact ⟨rfl, pcT.bad HE.out⟩
            have zKF : ((K : Int) == (F : Int)) = false := by simp; omega
            by_cases h101 : byt b K = 101
            · rw [h101] at hc
              have hF0 : (0 : Int) ≤ (F : Int) := by omega
              have hF1 : (F : Int) ≤ (K : Int) := by omega
              have hF2 : (K : Int) ≤ (c : Int) := by omega
              have hF3 : K ≤ c := by omega
              have hF4 : F ≤ K := by omega
              have hF5 : ¬ c = F := by omega
              have hcv := conv_cut (g := g) (o := o) (i := F) (j := K) (cap := c - F) (b := b) (w := w2) (by omega) HC.out 9 Tryd.underlying9
              have hdl : (cut b F K).length = K - F := cut_length (by omega)
              have hall : allDig (cut b F K) := hK ▸ cut_all b F (by omega)
              have hby : ∀ k, k < K - F → byt (cut b F K) k = byt b (F + k) := fun k hk => byt_cut hk
              have HN := Lib.hid (HT.out.2.2)
              rw [hK] at HN
              have HC2 : Hid (∀ k, k < K - F → byt (cut b F K) k = byt b (F + k)) := hby
              have HA : Hid (allDig (cut b F K)) := hall
              have hbs := ba_size (cut b F K)
              rw [hdl] at hbs
              have hFlt : F < K := by omega
              have hLp : 0 < K - F := by omega
              clear HT hall hby hKF
              generalize cut b F K = d at *
              have hba := ba_zero d
              have hb0 : byt d 0 = byt b F := HC2.out 0 (by omega)
              by_cases h48 : byt b F = 48
              · have h0v : ∀ h, (({ data := d.toArray } : ByteArray)[0]'h) = 48 := fun h => by rw [hba h, hb0, h48]
                have HE : Hid (numb b i = .bad i 23) := Lib.hid (HN.out.1 hKn (by omega) h101 h48 (.inr rfl))
                clear hba hb0 HN
                by_cases hL : (1 : Int) < ((K - F : Nat) : Int)
                · go_wp2
                  refine bodyPost_ret (results_tmp3 rfl _ _ _) rfl ?_
                  exact ⟨rfl, pcT.bad HE.out⟩
                · go_wp2
                  refine bodyPost_ret (results_tmp3 rfl _ _ _) rfl ?_
                  exact ⟨rfl, pcT.bad HE.out⟩
              · have h0v : ∀ h, (({ data := d.toArray } : ByteArray)[0]'h) = byt b F := fun h => by rw [hba h, hb0]
                have hzb : (((byt b F).toNat : Int) == 48) = false := beq_eq_false_iff_ne.2 (u8_ne h48)
                clear hba
                go_wp2_with fail
                refine (fits57 d true w2 HA.out (by omega) (fun _ => by rw [hb0]; exact h48)).mono ?_
                rintro e w3 ⟨rfl, rfl⟩
                cases hfb : fitB d true with
                | false =>
                  have HE : Hid (numb b i = .bad i 23) := Lib.hid (HN.out.2.1 hKn (by omega) h101 hfb)
                  go_wp2
                  refine bodyPost_ret (results_tmp3 rfl _ _ _) rfl ?_
                  exact ⟨rfl, pcT.bad HE.out⟩
                | true =>
                  have HE : Hid (numb b i = .ok (sval true d) (K + 1)) := Lib.hid (HN.out.2.2 hKn (by omega) h101 (fun h => h48 h.1) hfb)
                  have HFB := Lib.hid hfb
                  clear hcv hfb HN
                  go_wp2
                  go_loopw [12, 13] (fun v u wr => ∃ m : Nat, m ≤ K - F ∧ v = .int .i64 (sval true (d.take m)) ∧ u = .int .i64 (m : Int) ∧ wr = w3) (fun _ u _ => K - F - (intOf u).toNat)
                  case atStart => exact ⟨0, Nat.zero_le _, by simp [sval, dval_nil], rfl, rfl⟩
                  case round =>
                    clear h0v hb0
                    obtain ⟨m, hm, rfl, rfl, rfl⟩ := hrel
                    by_cases hmL : m < K - F
                    · have hjv : ∀ h, (({ data := d.toArray } : ByteArray)[m]'h) = byt b (F + m) := fun h => by rw [ba_at d m h]; exact HC2.out m hmL
                      have hdm := (dig_iff _).1 (run_lt (b := b) (i := F) (k := m) (by omega)).2
                      have hbd := fit_take HA.out HFB.out (m := m) (by omega)
                      rw [HC2.out m hmL] at hbd
                      have HNX : Hid (((dval 0 (d.take (m + 1)) : Nat) : Int) = 10 * ((dval 0 (d.take m) : Nat) : Int) + (((byt b (F + m)).toNat : Int) - 48)) := Lib.hid (by rw [take_succ' d m (by omega), dval_snoc, HC2.out m hmL]; omega)
                      obtain ⟨hbd1, hbd2⟩ := hbd
                      unfold sval
                      simp only [if_true]
                      generalize dval 0 (d.take m) = x at *
                      have m0 : (0 : Int) ≤ (m : Int) := by omega
                      have m1 : (m : Int) < ((K - F : Nat) : Int) := by omega
                      have q0 : (48 : Int) ≤ ((byt b (F + m)).toNat : Int) := by omega
                      have q1 : ((byt b (F + m)).toNat : Int) ≤ 57 := by omega
                      have q2 : 10 * (x : Int) + (((byt b (F + m)).toNat : Int) - 48) ≤ 9223372036854775808 := by omega
                      have q3 : 10 * (x : Int) ≤ 9223372036854775808 := by omega
                      go_wp2
                      exact ⟨⟨m + 1, by omega, congrArg (Value.int .i64) (by have := HNX.out; omega), rfl, trivial⟩, by simp [intOf]; omega⟩
                    · obtain rfl : m = K - F := by omega
                      rw [List.take_of_length_le (by omega)]
                      go_wp2
                      refine bodyPost_ret (results_tmp3 rfl _ _ _) rfl ?_
                      exact ⟨rfl, pcT.ok HE.out⟩
            · have HE : Hid (numb b i = .bad K 22) := Lib.hid (hK ▸ HT.out.2.1 (by omega) (.inr (by rw [hK]; exact h101)))
              have z : (((byt b K).toNat : Int) != 101) = true := bne_iff_ne.2 (u8_ne h101)
              go_wp2
              refine bodyPost_ret (results_tmp3 rfl _ _ _) rfl ?_
              exact ⟨rfl, pcT.bad HE.out⟩
          · have HE : Hid (numb b i = .bad b.length 21) := Lib.hid (HT.out.1 (by omega))
            have K1 : ¬ (K : Int) < (b.length : Int) := by omega
            have K2 : (b.length : Int) ≤ (K : Int) := by omega
            clear hend
            go_wp2
            refine bodyPost_ret (results_tmp3 rfl _ _ _) rfl ?_
            exact ⟨rfl, pcT.bad HE.out⟩
    · have hz45 : (((byt b (i + 1)).toNat : Int) == 45) = false := beq_eq_false_iff_ne.2 (u8_ne hm)
      have HT : Hid (NT b i (i + 1) false) := Lib.hid (nt_of h1 (by rw [if_neg hm]; rfl) rfl (by omega))
      have hFl : (i + 1) ≤ b.length := by omega
      go_enter Tryd.func67, Tryd.ntmps67
      go_wp2
      rw [show (i : Int) + 1 = (((i + 1) : Nat) : Int) from by omega]
      clear hc1 z1 z0 hm hz45
      generalize (i + 1) = F at *
      have hrl := run_le hFl
      go_loopw [7] (fun v wr => ∃ m : Nat, m ≤ run b F ∧ v = .int .i64 ((F + m : Nat) : Int) ∧ wr = w) (fun v _ => b.length - (intOf v).toNat)
      case atStart => exact ⟨0, Nat.zero_le _, rfl, rfl⟩
      case round =>
        obtain ⟨m, hm, rfl, rfl⟩ := hrel
        by_cases hend : F + m < b.length ∧ dig (byt b (F + m)) = true
        · obtain ⟨h1, h2⟩ := hend
          have hmr : m < run b F := by
            rcases Nat.lt_or_ge m (run b F) with h | h
            · exact h
            · have e : m = run b F := by omega
              subst e
              rw [run_end h1] at h2; cases h2
          have hc := HC.out (F + m) h1
          generalize hkm : F + m = k at *
          have k0 : (0 : Int) ≤ (k : Int) := by omega
          have k1 : (k : Int) < (b.length : Int) := by omega
          go_wp2_with fail
          refine (digit36 _ _).mono ?_
          rintro e w2 ⟨rfl, rfl⟩
          rw [h2]
          go_wp2
          exact ⟨⟨m + 1, by omega, by rw [← hkm]; congr 1, trivial⟩, by simp [intOf]; omega⟩
        · have hmr : m = run b F := by
            rcases Nat.lt_or_ge m (run b F) with h | h
            · exact absurd (run_lt h) hend
            · omega
          subst hmr
          have hFK : F ≤ F + run b F := by omega
          clear hm
          generalize hK : F + run b F = K at *
          have K0 : (0 : Int) ≤ (K : Int) := by omega
          by_cases hKn : K < b.length
          · have hc := HC.out K hKn
            have hdf : dig (byt b K) = false := by
              rcases Bool.eq_false_or_eq_true (dig (byt b K)) with h | h
              · exact absurd ⟨hKn, h⟩ hend
              · exact h
            have K1 : (K : Int) < (b.length : Int) := by omega
            have K2 : ¬ ((b.length : Int) ≤ (K : Int)) := by omega
            clear hend
            go_wp2_with fail
            refine (digit36 _ _).mono ?_
            rintro e w2 ⟨rfl, rfl⟩
            rw [hdf]
            by_cases hKF : K = F
            · have HE : Hid (numb b i = .bad F 22) := Lib.hid (by have h := HT.out.2.1 (by omega) (.inl (by omega)); rw [hK, hKF] at h; exact h)
              have z : (K : Int) = (F : Int) := by omega
              clear hKF
              go_wp2
              refine bodyPost_ret (results_tmp3 rfl _ _ _) rfl ?_
              exact ⟨rfl, pcT.bad HE.out⟩
            have zKF : ((K : Int) == (F : Int)) = false := by simp; omega
            by_cases h101 : byt b K = 101
            · rw [h101] at hc
              have hF0 : (0 : Int) ≤ (F : Int) := by omega
              have hF1 : (F : Int) ≤ (K : Int) := by omega
              have hF2 : (K : Int) ≤ (c : Int) := by omega
              have hF3 : K ≤ c := by omega
              have hF4 : F ≤ K := by omega
              have hF5 : ¬ c = F := by omega
              have hcv := conv_cut (g := g) (o := o) (i := F) (j := K) (cap := c - F) (b := b) (w := w2) (by omega) HC.out 9 Tryd.underlying9
              have hdl : (cut b F K).length = K - F := cut_length (by omega)
              have hall : allDig (cut b F K) := hK ▸ cut_all b F (by omega)
              have hby : ∀ k, k < K - F → byt (cut b F K) k = byt b (F + k) := fun k hk => byt_cut hk
              have HN := Lib.hid (HT.out.2.2)
              rw [hK] at HN
              have HC2 : Hid (∀ k, k < K - F → byt (cut b F K) k = byt b (F + k)) := hby
              have HA : Hid (allDig (cut b F K)) := hall
              have hbs := ba_size (cut b F K)
              rw [hdl] at hbs
              have hFlt : F < K := by omega
              have hLp : 0 < K - F := by omega
              clear HT hall hby hKF
              generalize cut b F K = d at *
              have hba := ba_zero d
              have hb0 : byt d 0 = byt b F := HC2.out 0 (by omega)
              by_cases h48 : byt b F = 48
              · have h0v : ∀ h, (({ data := d.toArray } : ByteArray)[0]'h) = 48 := fun h => by rw [hba h, hb0, h48]
                clear hba
                by_cases hL : 1 < K - F
                · have HE : Hid (numb b i = .bad i 23) := Lib.hid (HN.out.1 hKn (by omega) h101 h48 (.inl (by omega)))
                  have hL2 : (1 : Int) < ((K - F : Nat) : Int) := by omega
                  clear hb0
                  go_wp2
                  refine bodyPost_ret (results_tmp3 rfl _ _ _) rfl ?_
                  exact ⟨rfl, pcT.bad HE.out⟩
                · have hL2 : ¬ (1 : Int) < ((K - F : Nat) : Int) := by omega
                  go_wp2_with fail
                  refine (fits57 d false w2 HA.out (by omega) (fun h => absurd h (by omega))).mono ?_
                  rintro e w3 ⟨rfl, rfl⟩
                  cases hfb : fitB d false with
                  | false =>
                    have HE : Hid (numb b i = .bad i 23) := Lib.hid (HN.out.2.1 hKn (by omega) h101 hfb)
                    go_wp2
                    refine bodyPost_ret (results_tmp3 rfl _ _ _) rfl ?_
                    exact ⟨rfl, pcT.bad HE.out⟩
                  | true =>
                    have HE : Hid (numb b i = .ok (sval false d) (K + 1)) := Lib.hid (HN.out.2.2 hKn (by omega) h101 (fun h => by rcases h.2 with h | h; omega; cases h) hfb)
                    have HFB := Lib.hid hfb
                    clear hcv hfb HN
                    go_wp2
                    go_loopw [12, 13] (fun v u wr => ∃ m : Nat, m ≤ K - F ∧ v = .int .i64 (sval false (d.take m)) ∧ u = .int .i64 (m : Int) ∧ wr = w3) (fun _ u _ => K - F - (intOf u).toNat)
                    case atStart => exact ⟨0, Nat.zero_le _, by simp [sval, dval_nil], rfl, rfl⟩
                    case round =>
                      clear h0v hb0
                      obtain ⟨m, hm, rfl, rfl, rfl⟩ := hrel
                      by_cases hmL : m < K - F
                      · have hjv : ∀ h, (({ data := d.toArray } : ByteArray)[m]'h) = byt b (F + m) := fun h => by rw [ba_at d m h]; exact HC2.out m hmL
                        have hdm := (dig_iff _).1 (run_lt (b := b) (i := F) (k := m) (by omega)).2
                        have hbd := fit_take HA.out HFB.out (m := m) (by omega)
                        rw [HC2.out m hmL] at hbd
                        have HNX : Hid (((dval 0 (d.take (m + 1)) : Nat) : Int) = 10 * ((dval 0 (d.take m) : Nat) : Int) + (((byt b (F + m)).toNat : Int) - 48)) := Lib.hid (by rw [take_succ' d m (by omega), dval_snoc, HC2.out m hmL]; omega)
                        obtain ⟨hbd1, hbd2⟩ := hbd
                        unfold sval
                        simp only [Bool.false_eq_true, if_false]
                        generalize dval 0 (d.take m) = x at *
                        have m0 : (0 : Int) ≤ (m : Int) := by omega
                        have m1 : (m : Int) < ((K - F : Nat) : Int) := by omega
                        have q0 : (48 : Int) ≤ ((byt b (F + m)).toNat : Int) := by omega
                        have q1 : ((byt b (F + m)).toNat : Int) ≤ 57 := by omega
                        have hbd3 := hbd2 rfl
                        have q2 : 10 * (x : Int) + (((byt b (F + m)).toNat : Int) - 48) ≤ 9223372036854775807 := by omega
                        have q3 : 10 * (x : Int) ≤ 9223372036854775807 := by omega
                        go_wp2
                        exact ⟨⟨m + 1, by omega, congrArg (Value.int .i64) (by have := HNX.out; omega), rfl, trivial⟩, by simp [intOf]; omega⟩
                      · obtain rfl : m = K - F := by omega
                        rw [List.take_of_length_le (by omega)]
                        go_wp2
                        refine bodyPost_ret (results_tmp3 rfl _ _ _) rfl ?_
                        exact ⟨rfl, pcT.ok HE.out⟩
              · have h0v : ∀ h, (({ data := d.toArray } : ByteArray)[0]'h) = byt b F := fun h => by rw [hba h, hb0]
                have hzb : (((byt b F).toNat : Int) == 48) = false := beq_eq_false_iff_ne.2 (u8_ne h48)
                clear hba
                go_wp2_with fail
                refine (fits57 d false w2 HA.out (by omega) (fun _ => by rw [hb0]; exact h48)).mono ?_
                rintro e w3 ⟨rfl, rfl⟩
                cases hfb : fitB d false with
                | false =>
                  have HE : Hid (numb b i = .bad i 23) := Lib.hid (HN.out.2.1 hKn (by omega) h101 hfb)
                  go_wp2
                  refine bodyPost_ret (results_tmp3 rfl _ _ _) rfl ?_
                  exact ⟨rfl, pcT.bad HE.out⟩
                | true =>
                  have HE : Hid (numb b i = .ok (sval false d) (K + 1)) := Lib.hid (HN.out.2.2 hKn (by omega) h101 (fun h => h48 h.1) hfb)
                  have HFB := Lib.hid hfb
                  clear hcv hfb HN
                  go_wp2
                  go_loopw [12, 13] (fun v u wr => ∃ m : Nat, m ≤ K - F ∧ v = .int .i64 (sval false (d.take m)) ∧ u = .int .i64 (m : Int) ∧ wr = w3) (fun _ u _ => K - F - (intOf u).toNat)
                  case atStart => exact ⟨0, Nat.zero_le _, by simp [sval, dval_nil], rfl, rfl⟩
                  case round =>
                    clear h0v hb0
                    obtain ⟨m, hm, rfl, rfl, rfl⟩ := hrel
                    by_cases hmL : m < K - F
                    · have hjv : ∀ h, (({ data := d.toArray } : ByteArray)[m]'h) = byt b (F + m) := fun h => by rw [ba_at d m h]; exact HC2.out m hmL
                      have hdm := (dig_iff _).1 (run_lt (b := b) (i := F) (k := m) (by omega)).2
                      have hbd := fit_take HA.out HFB.out (m := m) (by omega)
                      rw [HC2.out m hmL] at hbd
                      have HNX : Hid (((dval 0 (d.take (m + 1)) : Nat) : Int) = 10 * ((dval 0 (d.take m) : Nat) : Int) + (((byt b (F + m)).toNat : Int) - 48)) := Lib.hid (by rw [take_succ' d m (by omega), dval_snoc, HC2.out m hmL]; omega)
                      obtain ⟨hbd1, hbd2⟩ := hbd
                      unfold sval
                      simp only [Bool.false_eq_true, if_false]
                      generalize dval 0 (d.take m) = x at *
                      have m0 : (0 : Int) ≤ (m : Int) := by omega
                      have m1 : (m : Int) < ((K - F : Nat) : Int) := by omega
                      have q0 : (48 : Int) ≤ ((byt b (F + m)).toNat : Int) := by omega
                      have q1 : ((byt b (F + m)).toNat : Int) ≤ 57 := by omega
                      have hbd3 := hbd2 rfl
                      have q2 : 10 * (x : Int) + (((byt b (F + m)).toNat : Int) - 48) ≤ 9223372036854775807 := by omega
                      have q3 : 10 * (x : Int) ≤ 9223372036854775807 := by omega
                      go_wp2
                      exact ⟨⟨m + 1, by omega, congrArg (Value.int .i64) (by have := HNX.out; omega), rfl, trivial⟩, by simp [intOf]; omega⟩
                    · obtain rfl : m = K - F := by omega
                      rw [List.take_of_length_le (by omega)]
                      go_wp2
                      refine bodyPost_ret (results_tmp3 rfl _ _ _) rfl ?_
                      exact ⟨rfl, pcT.ok HE.out⟩
            · have HE : Hid (numb b i = .bad K 22) := Lib.hid (hK ▸ HT.out.2.1 (by omega) (.inr (by rw [hK]; exact h101)))
              have z : (((byt b K).toNat : Int) != 101) = true := bne_iff_ne.2 (u8_ne h101)
              go_wp2
              refine bodyPost_ret (results_tmp3 rfl _ _ _) rfl ?_
              exact ⟨rfl, pcT.bad HE.out⟩
          · have HE : Hid (numb b i = .bad b.length 21) := Lib.hid (HT.out.1 (by omega))
            have K1 : ¬ (K : Int) < (b.length : Int) := by omega
            have K2 : (b.length : Int) ≤ (K : Int) := by omega
            clear hend
            go_wp2
            refine bodyPost_ret (results_tmp3 rfl _ _ _) rfl ?_
            exact ⟨rfl, pcT.bad HE.out⟩
  · have HE : Hid (numb b i = .bad b.length 21) := Lib.hid (by rw [numb, if_pos (by omega)])
    have hin : i + 1 = b.length := by omega
    have z1 : (i : Int) + 1 = (b.length : Int) := by omega
    clear h1
    go_enter Tryd.func67, Tryd.ntmps67
    go_wp2
    go_loopw [7] (fun v wr => v = .int .i64 (b.length : Int) ∧ wr = w) (fun _ _ => 0)
    case atStart => exact ⟨by rw [← z1], rfl⟩
    case round =>
      obtain ⟨rfl, rfl⟩ := hrel
      go_wp2
      refine bodyPost_ret (results_tmp3 rfl _ _ _) rfl ?_
      exact ⟨rfl, pcT.bad HE.out⟩
end Go.Proofs.YtegdlkbilgkfoaaDoor
