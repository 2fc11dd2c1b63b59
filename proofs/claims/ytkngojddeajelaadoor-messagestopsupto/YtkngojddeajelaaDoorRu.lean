import Derived.Test.YtkngojddeajelaaDoorRt
import Derived.Test.YtkngojddeajelaaDoorDr
namespace Go.Proofs.YtkngojddeajelaaDoor
open Go.RowKit
theorem kindB_low {l : List UInt8} {k : Nat} (h0 : 0 < l.length) (hk : (byt l 0).toNat = k) (h : k < 64) : kindB l = (k : Int) := by
  unfold kindB
  rw [if_neg (by intro e; rw [e] at h0; simp at h0), hk, if_neg (by omega)]
theorem kindB_high {l : List UInt8} {k : Nat} (h0 : 0 < l.length) (hk : (byt l 0).toNat = k) (h : 64 ≤ k) : kindB l = 1000 := by
  unfold kindB
  rw [if_neg (by intro e; rw [e] at h0; simp at h0), hk, if_pos h]
set_option maxHeartbeats 1000000 in
set_option maxRecDepth 100000 in
theorem rDec_A (w : World) (v : Value) (l : List UInt8) (hl : l.length ≤ 140737488351232) (hr : RB w v l) (h1 : 32768 < l.length) : Calls Tryd.prog 17 #[v] w fun e w' => DCR w w' e l := by
  obtain ⟨a, c, rfl, _⟩ := hr
  have hz := heapNew w (.cells z40 28)
  have b0 : Below w.heap.size w (w.alloc (.cells z40 28)) := (Below.refl _ _).alloc (Nat.le_refl _) _
  have HE : Hid (decE l = 111) := by unfold Hid decE; rw [if_pos h1]
  go_enter Tryd.func17, Tryd.ntmps17
  go_wp2_with (first | (refine wpList_store_row rfl 28 _ _ rfl w.heap.size z40 rfl rfl 28 z40 hz z40_info rfl z40_one ?_))
  exact bodyPost_ret (results_msg2 Tryd.results17 _ _ w.heap.size zm rfl (heapSetRow _ _ _ _ _ hz) zm_ok) rfl (DCR.err (by rw [HE.out]; decide) (by rw [HE.out]; rfl) (belowSetRow b0 (Nat.le_refl _) _))
set_option maxHeartbeats 1000000 in
set_option maxRecDepth 100000 in
theorem rDec_B (w : World) (v : Value) (hr : RB w v []) : Calls Tryd.prog 17 #[v] w fun e w' => DCR w w' e [] := by
  obtain ⟨a, c, rfl, _⟩ := hr
  have hz := heapNew w (.cells z40 28)
  have b0 : Below w.heap.size w (w.alloc (.cells z40 28)) := (Below.refl _ _).alloc (Nat.le_refl _) _
  have hki := zk40_info (-1)
  have hko := zk40_one (-1)
  have hkb := zk40_built (-1)
  have hS : decE [] = 0 ∧ decS [] = decR ⟨-1, 0, 0, 1, [0, 0, 0, 0, 0, 0, 0]⟩ [] := decS_of (by simp) rfl rfl rfl
  have HS : Hid (DCR w ((w.alloc (.cells z40 28)).setRow w.heap.size (zk40 (-1))) (.returned (.tuple #[.agg (zmk (-1)).cs, .int .i64 0])) []) := by
    unfold DCR
    rw [hS.1, hS.2]
    exact ⟨_, _, rfl, World.ownsRow_nil _ _ _ _, OH.nil _ _, belowSetRow b0 (Nat.le_refl _) _⟩
  clear b0 hS
  go_enter Tryd.func17, Tryd.ntmps17
  go_wp2_with (first | (refine wpList_built rfl 28 _ rfl (zk40 (-1)) hkb ?_) | (refine wpList_store_row rfl 28 _ _ rfl w.heap.size (zk40 (-1)) rfl rfl 28 z40 hz hki rfl hko ?_))
  exact bodyPost_ret (results_msg2 Tryd.results17 _ _ w.heap.size (zmk (-1)) rfl (heapSetRow _ _ _ _ _ hz) (zmk_ok (-1))) rfl HS.out

set_option maxHeartbeats 1000000 in
set_option maxRecDepth 100000 in
theorem rDec_C (w : World) (v : Value) (l : List UInt8) (hr : RB w v l) (hl1 : 0 < l.length) (hl2 : l.length ≤ 32768) (k : Nat) (hk : (byt l 0).toNat = k) (h64 : k < 64) (hkn : knownB (k : Int) = false) (hE : decE l = 110) : Calls Tryd.prog 17 #[v] w fun e w' => DCR w w' e l := by
  obtain ⟨b, off, c, rfl, _, hc⟩ := hr.cells hl1
  have c0 : w.cell? ⟨b, off, none⟩ = some (.int .u8 (k : Int)) := by rw [← hk]; exact hc 0 hl1
  have hb : b < w.heap.size := World.block_lt_of_cell? w _ c0
  have hk256 : k < 256 := by have := UInt8.toNat_lt (byt l 0); omega
  have b0 : Below w.heap.size w (w.alloc (.cells z40 28)) := (Below.refl _ _).alloc (Nat.le_refl _) _
  have c1 : (w.alloc (.cells z40 28)).cell? ⟨b, off, none⟩ = some (.int .u8 (k : Int)) := (b0.cell (p := ⟨b, off, none⟩) hb).trans c0
  have hz := heapNew w (.cells z40 28)
  have HA : Hid (Below w.heap.size w (w.alloc (.cells z40 28))) := b0
  have HE : Hid (decE l = 110) := hE
  clear hc hk b0 c0 hr hE
  generalize hlen : l.length = n at *
  clear hlen
  go_enter Tryd.func17, Tryd.ntmps17
  go_wp2_with fail
  refine (knownT _ _).mono ?_
  rintro e w0 ⟨rfl, rfl⟩
  rw [hkn]
  go_wp2_with (first | (refine wpList_store_row rfl 28 _ _ rfl w.heap.size z40 rfl rfl 28 z40 hz z40_info rfl z40_one ?_))
  exact bodyPost_ret (results_msg2 Tryd.results17 _ _ w.heap.size zm rfl (heapSetRow _ _ _ _ _ hz) zm_ok) rfl (DCR.err (by rw [HE.out]; decide) (by rw [HE.out]; rfl) (belowSetRow HA.out (Nat.le_refl _) _))
set_option maxHeartbeats 1000000 in
set_option maxRecDepth 100000 in
theorem rDec_D (w : World) (v : Value) (l : List UInt8) (hr : RB w v l) (hl1 : 0 < l.length) (hl2 : l.length ≤ 32768) (k : Nat) (hk : (byt l 0).toNat = k) (hkn : 64 ≤ k ∨ knownB (k : Int) = true) (hsz : szdB (k : Int) (l.length : Int) = false) (hE : decE l = 111) : Calls Tryd.prog 17 #[v] w fun e w' => DCR w w' e l := by
  obtain ⟨b, off, c, rfl, _, hc⟩ := hr.cells hl1
  have c0 : w.cell? ⟨b, off, none⟩ = some (.int .u8 (k : Int)) := by rw [← hk]; exact hc 0 hl1
  have hb : b < w.heap.size := World.block_lt_of_cell? w _ c0
  have hk256 : k < 256 := by have := UInt8.toNat_lt (byt l 0); omega
  have b0 : Below w.heap.size w (w.alloc (.cells z40 28)) := (Below.refl _ _).alloc (Nat.le_refl _) _
  have c1 : (w.alloc (.cells z40 28)).cell? ⟨b, off, none⟩ = some (.int .u8 (k : Int)) := (b0.cell (p := ⟨b, off, none⟩) hb).trans c0
  have hz := heapNew w (.cells z40 28)
  have HA : Hid (Below w.heap.size w (w.alloc (.cells z40 28))) := b0
  have HE : Hid (decE l = 111) := hE
  clear hc hk b0 c0 hr hE
  generalize hlen : l.length = n at *
  clear hlen
  by_cases h64 : 64 ≤ k
  · clear hkn
    go_enter Tryd.func17, Tryd.ntmps17
    go_wp2_with fail
    refine (rsizedT _ _ _ (by omega) (by omega)).mono ?_
    rintro e w0 ⟨rfl, rfl⟩
    rw [hsz]
    go_wp2_with (first | (refine wpList_store_row rfl 28 _ _ rfl w.heap.size z40 rfl rfl 28 z40 hz z40_info rfl z40_one ?_))
    exact bodyPost_ret (results_msg2 Tryd.results17 _ _ w.heap.size zm rfl (heapSetRow _ _ _ _ _ hz) zm_ok) rfl (DCR.err (by rw [HE.out]; decide) (by rw [HE.out]; rfl) (belowSetRow HA.out (Nat.le_refl _) _))
  · have hkn' : knownB (k : Int) = true := by rcases hkn with h | h; · exact absurd h h64
                                              · exact h
    clear hkn
    have h64' : k < 64 := by omega
    clear h64
    go_enter Tryd.func17, Tryd.ntmps17
    go_wp2_with fail
    refine (knownT _ _).mono ?_
    rintro e w0 ⟨rfl, rfl⟩
    rw [hkn']
    go_wp2_with fail
    refine (rsizedT _ _ _ (by omega) (by omega)).mono ?_
    rintro e w0 ⟨rfl, rfl⟩
    rw [hsz]
    go_wp2_with (first | (refine wpList_store_row rfl 28 _ _ rfl w.heap.size z40 rfl rfl 28 z40 hz z40_info rfl z40_one ?_))
    exact bodyPost_ret (results_msg2 Tryd.results17 _ _ w.heap.size zm rfl (heapSetRow _ _ _ _ _ hz) zm_ok) rfl (DCR.err (by rw [HE.out]; decide) (by rw [HE.out]; rfl) (belowSetRow HA.out (Nat.le_refl _) _))
theorem lks_of {cs : List Nat} {m : Mv} (h : ∀ c ∈ cs, lk c m = true) : lks cs m = true := List.all_eq_true.2 h
theorem rng_nm (l : List UInt8) : rng 0 4294967295 (nm4 l : Int) = true := by
  have := nm4_lt l
  unfold rng
  exact decide_eq_true ⟨by omega, by omega⟩
/-- what a body of a known kind comes to -/
theorem fit_szd (k : Nat) (n : Nat) (r : Kr) (hn : 1 ≤ n) (hr : rowFor (k : Int) = some r) (hk : k < 64) : r.fit (n : Int) = szdB (k : Int) (n : Int) := by
  obtain ⟨hmem, hkk⟩ := rowFor_mem hr
  simp only [rws, List.mem_cons, List.not_mem_nil, or_false] at hmem
  rcases hmem with rfl | rfl | rfl | rfl | rfl | rfl | rfl | rfl | rfl | rfl | rfl | rfl | rfl | rfl
  · simp only at hkk; omega
  · obtain rfl : k = 0 := by simp only at hkk; omega
    show (decide ((1 : Int) ≤ (n : Int)) && decide ((n : Int) ≤ 1) && (((n : Int) - 1) % 1 == 0)) = ((n : Int) == 1)
    first | rfl | (rw [Bool.eq_iff_iff]; simp; done) | (rw [Bool.eq_iff_iff]; simp; omega)
  · obtain rfl : k = 1 := by simp only at hkk; omega
    show (decide ((1 : Int) ≤ (n : Int)) && decide ((n : Int) ≤ 1) && (((n : Int) - 1) % 1 == 0)) = ((n : Int) == 1)
    first | rfl | (rw [Bool.eq_iff_iff]; simp; done) | (rw [Bool.eq_iff_iff]; simp; omega)
  · obtain rfl : k = 2 := by simp only at hkk; omega
    show (decide ((1 : Int) ≤ (n : Int)) && decide ((n : Int) ≤ 1) && (((n : Int) - 1) % 1 == 0)) = ((n : Int) == 1)
    first | rfl | (rw [Bool.eq_iff_iff]; simp; done) | (rw [Bool.eq_iff_iff]; simp; omega)
  · obtain rfl : k = 3 := by simp only at hkk; omega
    show (decide ((1 : Int) ≤ (n : Int)) && decide ((n : Int) ≤ 1) && (((n : Int) - 1) % 1 == 0)) = ((n : Int) == 1)
    first | rfl | (rw [Bool.eq_iff_iff]; simp; done) | (rw [Bool.eq_iff_iff]; simp; omega)
  · obtain rfl : k = 4 := by simp only at hkk; omega
    show (decide ((5 : Int) ≤ (n : Int)) && decide ((n : Int) ≤ 5) && (((n : Int) - 5) % 1 == 0)) = ((n : Int) == 5)
    first | rfl | (rw [Bool.eq_iff_iff]; simp; done) | (rw [Bool.eq_iff_iff]; simp; omega)
  · obtain rfl : k = 5 := by simp only at hkk; omega
    show (decide ((1 : Int) ≤ (n : Int)) && decide ((n : Int) ≤ 8193) && (((n : Int) - 1) % 1 == 0)) = decide ((n : Int) ≤ 8193)
    first | rfl | (rw [Bool.eq_iff_iff]; simp; done) | (rw [Bool.eq_iff_iff]; simp; omega)
  · obtain rfl : k = 6 := by simp only at hkk; omega
    show (decide ((13 : Int) ≤ (n : Int)) && decide ((n : Int) ≤ 13) && (((n : Int) - 13) % 1 == 0)) = ((n : Int) == 13)
    first | rfl | (rw [Bool.eq_iff_iff]; simp; done) | (rw [Bool.eq_iff_iff]; simp; omega)
  · obtain rfl : k = 7 := by simp only at hkk; omega
    show (decide ((10 : Int) ≤ (n : Int)) && decide ((n : Int) ≤ 16393) && (((n : Int) - 10) % 1 == 0)) = (decide (10 ≤ (n : Int)) && decide ((n : Int) ≤ 16393))
    first | rfl | (rw [Bool.eq_iff_iff]; simp; done) | (rw [Bool.eq_iff_iff]; simp; omega)
  · obtain rfl : k = 8 := by simp only at hkk; omega
    show (decide ((13 : Int) ≤ (n : Int)) && decide ((n : Int) ≤ 13) && (((n : Int) - 13) % 1 == 0)) = ((n : Int) == 13)
    first | rfl | (rw [Bool.eq_iff_iff]; simp; done) | (rw [Bool.eq_iff_iff]; simp; omega)
  · obtain rfl : k = 21 := by simp only at hkk; omega
    show (decide ((49 : Int) ≤ (n : Int)) && decide ((n : Int) ≤ 49) && (((n : Int) - 49) % 1 == 0)) = ((n : Int) == 49)
    first | rfl | (rw [Bool.eq_iff_iff]; simp; done) | (rw [Bool.eq_iff_iff]; simp; omega)
  · obtain rfl : k = 22 := by simp only at hkk; omega
    show (decide ((49 : Int) ≤ (n : Int)) && decide ((n : Int) ≤ 17969) && (((n : Int) - 49) % 32 == 0)) = (decide (49 ≤ (n : Int)) && decide ((n : Int) ≤ 17969) && ((n : Int) - 49) % 32 == 0)
    first | rfl | (rw [Bool.eq_iff_iff]; simp; done) | (rw [Bool.eq_iff_iff]; simp; omega)
  · obtain rfl : k = 23 := by simp only at hkk; omega
    show (decide ((49 : Int) ≤ (n : Int)) && decide ((n : Int) ≤ 49) && (((n : Int) - 49) % 1 == 0)) = ((n : Int) == 49)
    first | rfl | (rw [Bool.eq_iff_iff]; simp; done) | (rw [Bool.eq_iff_iff]; simp; omega)
  · simp only at hkk; omega
set_option maxHeartbeats 1000000 in
theorem rDecodeT (w : World) (v : Value) (l : List UInt8) (hl : l.length ≤ 140737488351232) (hr : RB w v l) : Calls Tryd.prog 17 #[v] w fun e w' => DCR w w' e l := by
  by_cases h1 : 32768 < l.length
  · exact rDec_A w v l hl hr h1
  by_cases h0 : l = []
  · subst h0; exact rDec_B w v hr
  have hpos : 0 < l.length := List.length_pos_iff.2 h0
  have hle : l.length ≤ 32768 := by omega
  obtain ⟨k, hk⟩ : ∃ k, (byt l 0).toNat = k := ⟨_, rfl⟩
  have hk256 : k < 256 := by have := UInt8.toNat_lt (byt l 0); omega
  obtain ⟨r0, r1, r2, r3, r4, r5, r6, r7, r8, r9, r10, r11, r12, r13⟩ := rowFor_lit
  by_cases h64 : 64 ≤ k
  · have hkb := kindB_high hpos hk h64
    have hsz : szdB (k : Int) (l.length : Int) = true := by
      unfold szdB
      rw [if_pos (by omega)]
      exact decide_eq_true (by omega)
    have hS := decS_of (r := ⟨1000, 1, 32768, 1, [2, 10, 0, 0, 0, 0, 0]⟩) h1 (by rw [hkb]; exact r13) (by
      show (decide ((1 : Int) ≤ (l.length : Int)) && decide ((l.length : Int) ≤ 32768) && (((l.length : Int) - 1) % 1 == 0)) = true
      simp
      omega) (by
      refine lks_of fun c hc => ?_
      have hc' : c = 2 ∨ c = 10 := by simpa [Kr.cs] using hc
      rcases hc' with rfl | rfl
      · show rng 64 255 ((byt l 0).toNat : Int) = true
        rw [hk]
        exact decide_eq_true ⟨by omega, by omega⟩
      · rfl)
    exact rDec_O w v l hr hpos hle k hk h64 hsz hS.1 (by rw [hS.2]; rfl) (by rw [hS.2]; rfl) (fun d h => by
      rw [hS.2, ← hk]; rfl)
  · have h64' : k < 64 := by omega
    have hkb := kindB_low hpos hk h64'
    cases hrow : rowFor (k : Int) with
    | none =>
      have hkn : knownB (k : Int) = false := by
        cases hq : knownB (k : Int) with
        | false => rfl
        | true =>
          have hke : kE (k : Int) = false := by unfold kE; rw [hq]; simp
          rcases kE_cases _ hke with h | h | h | h | h | h | h | h | h | h | h | h | h | h
          all_goals (rw [h] at hrow; first | omega | (rw [r1] at hrow; simp at hrow; done) | (rw [r2] at hrow; simp at hrow; done) | (rw [r3] at hrow; simp at hrow; done) | (rw [r4] at hrow; simp at hrow; done) | (rw [r5] at hrow; simp at hrow; done) | (rw [r6] at hrow; simp at hrow; done) | (rw [r7] at hrow; simp at hrow; done) | (rw [r8] at hrow; simp at hrow; done) | (rw [r9] at hrow; simp at hrow; done) | (rw [r10] at hrow; simp at hrow; done) | (rw [r11] at hrow; simp at hrow; done) | (rw [r12] at hrow; simp at hrow; done))
      exact rDec_C w v l hr hpos hle k hk h64' hkn (by unfold decE; rw [if_neg h1, hkb, hrow])
    | some r =>
      have hfs := fit_szd k l.length r hpos hrow h64'
      obtain ⟨hmem, hkk⟩ := rowFor_mem hrow
      by_cases hsz : szdB (k : Int) (l.length : Int) = true
      · have hfit : r.fit (l.length : Int) = true := by rw [hfs]; exact hsz
        have hrk : rowFor (kindB l) = some r := by rw [hkb]; exact hrow
        clear r0 r1 r2 r3 r4 r5 r6 r7 r8 r9 r10 r11 r12 r13 hfs hrow
        simp only [rws, List.mem_cons, List.not_mem_nil, or_false] at hmem
        obtain ⟨f1, f2, f3⟩ := fit_of hfit
        rcases hmem with rfl | rfl | rfl | rfl | rfl | rfl | rfl | rfl | rfl | rfl | rfl | rfl | rfl | rfl
        · simp only at hkk; omega
        · obtain rfl : k = 0 := by simp only at hkk; omega
          simp only at f1 f2 f3
          have hS := decS_of h1 hrk hfit rfl
          exact rDec_1 w v l hr hpos hle 0 hk (by omega) hsz hS.1 (by rw [hS.2]; rfl) (by rw [hS.2]; rfl) (fun d h => by rw [hS.2]; rfl)
        · obtain rfl : k = 1 := by simp only at hkk; omega
          simp only at f1 f2 f3
          have hS := decS_of h1 hrk hfit rfl
          exact rDec_1 w v l hr hpos hle 1 hk (by omega) hsz hS.1 (by rw [hS.2]; rfl) (by rw [hS.2]; rfl) (fun d h => by rw [hS.2]; rfl)
        · obtain rfl : k = 2 := by simp only at hkk; omega
          simp only at f1 f2 f3
          have hS := decS_of h1 hrk hfit rfl
          exact rDec_1 w v l hr hpos hle 2 hk (by omega) hsz hS.1 (by rw [hS.2]; rfl) (by rw [hS.2]; rfl) (fun d h => by rw [hS.2]; rfl)
        · obtain rfl : k = 3 := by simp only at hkk; omega
          simp only at f1 f2 f3
          have hS := decS_of h1 hrk hfit rfl
          exact rDec_1 w v l hr hpos hle 3 hk (by omega) hsz hS.1 (by rw [hS.2]; rfl) (by rw [hS.2]; rfl) (fun d h => by rw [hS.2]; rfl)
        · obtain rfl : k = 4 := by simp only at hkk; omega
          simp only at f1 f2 f3
          have hS := decS_of h1 hrk hfit (lks_of fun c hc => by
            have hc' : c = 1 ∨ c = 3 := by simpa [Kr.cs] using hc
            rcases hc' with rfl | rfl
            · rfl
            · exact rng_nm (l.drop 1))
          exact rDec_4 w v l hr hpos hle (by rw [hk]; rfl) hsz _ rfl (by omega) hS.1 (by rw [hS.2]; rfl) (by rw [hS.2]; rfl) (fun d h => by rw [hS.2]; rfl)
        · obtain rfl : k = 5 := by simp only at hkk; omega
          simp only at f1 f2 f3
          have hS := decS_of h1 hrk hfit rfl
          exact rDec_5 w v l hr hpos hle (by rw [hk]; rfl) hsz hS.1 (by rw [hS.2]; rfl) (by rw [hS.2]; rfl) (fun d h => by rw [hS.2]; rfl)
        · obtain rfl : k = 6 := by simp only at hkk; omega
          simp only at f1 f2 f3
          by_cases hg : 1 ≤ ((nm4 (((l.drop 1).drop 4).drop 4) : Nat) : Int) ∧ ((nm4 (((l.drop 1).drop 4).drop 4) : Nat) : Int) ≤ 16384
          · have hS := decS_of h1 hrk hfit (lks_of fun c hc => by
              have hc' : c = 1 ∨ c = 3 ∨ c = 4 ∨ c = 6 := by simpa [Kr.cs] using hc
              rcases hc' with rfl | rfl | rfl | rfl
              · rfl
              · exact rng_nm (l.drop 1)
              · exact rng_nm ((l.drop 1).drop 4)
              · exact decide_eq_true hg)
            exact rDec_6 w v l hr hpos hle (by rw [hk]; rfl) hsz _ rfl (nm4 ((l.drop 1).drop 4)) (by rw [List.drop_drop]) (nm4 (((l.drop 1).drop 4).drop 4)) (by rw [List.drop_drop, List.drop_drop]) (by omega) hS.1 (by rw [hS.2]; rfl) (by rw [hS.2]; rfl) (fun d h => by rw [hS.2]; rfl) hg
          · exact rDec_6b w v l hr hpos hle (by rw [hk]; rfl) hsz _ rfl (nm4 ((l.drop 1).drop 4)) (by rw [List.drop_drop]) (nm4 (((l.drop 1).drop 4).drop 4)) (by rw [List.drop_drop, List.drop_drop]) (by omega) (by
              have hlk : lks (⟨6, 13, 13, 1, [1, 3, 4, 6, 0, 0, 0]⟩ : Kr).cs (decR ⟨6, 13, 13, 1, [1, 3, 4, 6, 0, 0, 0]⟩ l).m = false := by
                unfold lks
                rw [List.all_eq_false]
                exact ⟨6, by decide, fun hc => hg (of_decide_eq_true hc)⟩
              unfold decE
              rw [if_neg h1, hrk]
              simp only [hfit, hlk]
              rfl) hg
        · obtain rfl : k = 7 := by simp only at hkk; omega
          simp only at f1 f2 f3
          have hS := decS_of h1 hrk hfit (lks_of fun c hc => by
            have hc' : c = 1 ∨ c = 3 ∨ c = 4 ∨ c = 10 := by simpa [Kr.cs] using hc
            rcases hc' with rfl | rfl | rfl | rfl
            · rfl
            · exact rng_nm (l.drop 1)
            · exact rng_nm ((l.drop 1).drop 4)
            · rfl)
          exact rDec_7 w v l hr hpos hle (by rw [hk]; rfl) hsz _ rfl (nm4 ((l.drop 1).drop 4)) (by rw [List.drop_drop]) (by omega) hS.1 (by rw [hS.2]; show ((l.drop 1).drop 4).drop 4 = _; rw [List.drop_drop, List.drop_drop]) (by rw [hS.2]; rfl) (fun d h => by rw [hS.2]; rfl)
        · obtain rfl : k = 8 := by simp only at hkk; omega
          simp only at f1 f2 f3
          by_cases hg : 1 ≤ ((nm4 (((l.drop 1).drop 4).drop 4) : Nat) : Int) ∧ ((nm4 (((l.drop 1).drop 4).drop 4) : Nat) : Int) ≤ 16384
          · have hS := decS_of h1 hrk hfit (lks_of fun c hc => by
              have hc' : c = 1 ∨ c = 3 ∨ c = 4 ∨ c = 6 := by simpa [Kr.cs] using hc
              rcases hc' with rfl | rfl | rfl | rfl
              · rfl
              · exact rng_nm (l.drop 1)
              · exact rng_nm ((l.drop 1).drop 4)
              · exact decide_eq_true hg)
            exact rDec_8 w v l hr hpos hle (by rw [hk]; rfl) hsz _ rfl (nm4 ((l.drop 1).drop 4)) (by rw [List.drop_drop]) (nm4 (((l.drop 1).drop 4).drop 4)) (by rw [List.drop_drop, List.drop_drop]) (by omega) hS.1 (by rw [hS.2]; rfl) (by rw [hS.2]; rfl) (fun d h => by rw [hS.2]; rfl) hg
          · exact rDec_8b w v l hr hpos hle (by rw [hk]; rfl) hsz _ rfl (nm4 ((l.drop 1).drop 4)) (by rw [List.drop_drop]) (nm4 (((l.drop 1).drop 4).drop 4)) (by rw [List.drop_drop, List.drop_drop]) (by omega) (by
              have hlk : lks (⟨8, 13, 13, 1, [1, 3, 4, 6, 0, 0, 0]⟩ : Kr).cs (decR ⟨8, 13, 13, 1, [1, 3, 4, 6, 0, 0, 0]⟩ l).m = false := by
                unfold lks
                rw [List.all_eq_false]
                exact ⟨6, by decide, fun hc => hg (of_decide_eq_true hc)⟩
              unfold decE
              rw [if_neg h1, hrk]
              simp only [hfit, hlk]
              rfl) hg
        · obtain rfl : k = 21 := by simp only at hkk; omega
          simp only at f1 f2 f3
          have hS := decS_of h1 hrk hfit (lks_of fun c hc => by
            have hc' : c = 1 ∨ c = 7 ∨ c = 8 ∨ c = 3 ∨ c = 5 ∨ c = 9 := by simpa [Kr.cs] using hc
            rcases hc' with rfl | rfl | rfl | rfl | rfl | rfl
            · rfl
            · rfl
            · exact rng_nm ((l.drop 1).drop 32)
            · exact rng_nm (((l.drop 1).drop 32).drop 4)
            · exact rng_nm ((((l.drop 1).drop 32).drop 4).drop 4)
            · exact rng_nm (((((l.drop 1).drop 32).drop 4).drop 4).drop 4))
          exact rDec_Q w v l hr hpos hle 21 hk (by omega) hsz (nm4 ((l.drop 1).drop 32)) (by rw [List.drop_drop]) (nm4 (((l.drop 1).drop 32).drop 4)) (by simp only [List.drop_drop]) (nm4 ((((l.drop 1).drop 32).drop 4).drop 4)) (by simp only [List.drop_drop]) (nm4 (((((l.drop 1).drop 32).drop 4).drop 4).drop 4)) (by simp only [List.drop_drop]) _ rfl 0 (by omega) hS.1 (by rw [hS.2]; rfl) (by rw [hS.2]; show [] = l.drop 49; exact (List.drop_eq_nil_of_le (by omega)).symm) (fun d h => by rw [hS.2]; rfl)
        · obtain rfl : k = 22 := by simp only at hkk; omega
          simp only at f1 f2 f3
          have hS := decS_of h1 hrk hfit (lks_of fun c hc => by
            have hc' : c = 1 ∨ c = 7 ∨ c = 8 ∨ c = 3 ∨ c = 5 ∨ c = 9 ∨ c = 11 := by simpa [Kr.cs] using hc
            rcases hc' with rfl | rfl | rfl | rfl | rfl | rfl | rfl
            · rfl
            · rfl
            · exact rng_nm ((l.drop 1).drop 32)
            · exact rng_nm (((l.drop 1).drop 32).drop 4)
            · exact rng_nm ((((l.drop 1).drop 32).drop 4).drop 4)
            · exact rng_nm (((((l.drop 1).drop 32).drop 4).drop 4).drop 4)
            · rfl)
          exact rDec_Q w v l hr hpos hle 22 hk (by omega) hsz (nm4 ((l.drop 1).drop 32)) (by rw [List.drop_drop]) (nm4 (((l.drop 1).drop 32).drop 4)) (by simp only [List.drop_drop]) (nm4 ((((l.drop 1).drop 32).drop 4).drop 4)) (by simp only [List.drop_drop]) (nm4 (((((l.drop 1).drop 32).drop 4).drop 4).drop 4)) (by simp only [List.drop_drop]) _ rfl ((l.length - 49) / 32) (by omega) hS.1 (by rw [hS.2]; rfl) (by rw [hS.2]; show (((((l.drop 1).drop 32).drop 4).drop 4).drop 4).drop 4 = _; simp only [List.drop_drop]) (fun d h => by rw [hS.2]; rfl)
        · obtain rfl : k = 23 := by simp only at hkk; omega
          simp only at f1 f2 f3
          have hS := decS_of h1 hrk hfit (lks_of fun c hc => by
            have hc' : c = 1 ∨ c = 7 ∨ c = 8 ∨ c = 3 ∨ c = 5 ∨ c = 9 := by simpa [Kr.cs] using hc
            rcases hc' with rfl | rfl | rfl | rfl | rfl | rfl
            · rfl
            · rfl
            · exact rng_nm ((l.drop 1).drop 32)
            · exact rng_nm (((l.drop 1).drop 32).drop 4)
            · exact rng_nm ((((l.drop 1).drop 32).drop 4).drop 4)
            · exact rng_nm (((((l.drop 1).drop 32).drop 4).drop 4).drop 4))
          exact rDec_Q w v l hr hpos hle 23 hk (by omega) hsz (nm4 ((l.drop 1).drop 32)) (by rw [List.drop_drop]) (nm4 (((l.drop 1).drop 32).drop 4)) (by simp only [List.drop_drop]) (nm4 ((((l.drop 1).drop 32).drop 4).drop 4)) (by simp only [List.drop_drop]) (nm4 (((((l.drop 1).drop 32).drop 4).drop 4).drop 4)) (by simp only [List.drop_drop]) _ rfl 0 (by omega) hS.1 (by rw [hS.2]; rfl) (by rw [hS.2]; show [] = l.drop 49; exact (List.drop_eq_nil_of_le (by omega)).symm) (fun d h => by rw [hS.2]; rfl)
        · simp only at hkk; omega
      · have hsz' : szdB (k : Int) (l.length : Int) = false := by simpa using hsz
        have hkn : knownB (k : Int) = true := by
          cases hq : knownB (k : Int) with
          | true => rfl
          | false =>
            have hke : kE (k : Int) = true := by unfold kE; rw [hq]; simp; omega
            rw [rowFor_kE _ hke] at hrow
            simp at hrow
        exact rDec_D w v l hr hpos hle k hk (.inr hkn) hsz' (by
          unfold decE
          rw [if_neg h1, hkb, hrow]
          simp only [hfs, hsz']
          rfl)
end Go.Proofs.YtkngojddeajelaaDoor
