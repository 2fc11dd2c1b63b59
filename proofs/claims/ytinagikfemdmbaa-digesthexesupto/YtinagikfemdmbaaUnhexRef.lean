import Derived.Test.YtinagikfemdmbaaUnhex
import Derived.Laws.OwnMore
namespace Go.Proofs.Ytinagikfemdmbaa
open Go.RowKit
theorem value29u (x : UInt8) (w : World) :
    Calls Try.prog 29 #[.int .u8 (x.toNat : Int)] w fun e w' => e = .returned (.int .i64 (vl (x.toNat : Int))) ∧ w' = w := value29 _ w
theorem vl_bd (c : Int) : 0 ≤ vl c ∧ vl c ≤ 16 := by have := dv_bd c; unfold vl; split <;> omega
theorem vl_16 {c : Int} (h : vl c = 16) : dv c < 0 := by
  have := dv_bd c
  unfold vl at h; split at h
  · assumption
  · omega
theorem vl_dv {c : Int} (h : vl c ≠ 16) : vl c = dv c ∧ 0 ≤ dv c := by
  unfold vl at h ⊢; split
  · rename_i h2; rw [if_pos h2] at h; exact absurd rfl h
  · exact ⟨rfl, by omega⟩
/-- what the reference has behind p digits -/
def refL (s : ByteArray) (p : Nat) : List Int := if p % 2 = 0 then unL s (p / 2) else unL s (p / 2) ++ [16 * dv (bt s (p - 1))]
theorem refL_even (s : ByteArray) (k : Nat) : refL s (2 * k) = unL s k := by
  unfold refL; rw [if_pos (by omega), show 2 * k / 2 = k by omega]
theorem refL_odd (s : ByteArray) (k : Nat) : refL s (2 * k + 1) = unL s k ++ [16 * dv (bt s (2 * k))] := by
  unfold refL; rw [if_neg (by omega), show (2 * k + 1) / 2 = k by omega, show 2 * k + 1 - 1 = 2 * k by omega]
theorem unL_len (s : ByteArray) (k : Nat) : (unL s k).length = k := by simp [unL]
theorem get_last (A : List Int) (q : Int) (k : Nat) (h : A.length = k) : ((A ++ [q]).map (Value.int .u8))[k]? = some (.int .u8 q) := by subst h; simp
theorem set_last (A : List Int) (q r : Int) (k : Nat) (h : A.length = k) : ((A ++ [q]).map (Value.int .u8)).set k (.int .u8 r) = (A ++ [r]).map (Value.int .u8) := by subst h; simp
set_option maxHeartbeats 800000 in
theorem unhex21 (s : ByteArray) (w : World) (hs : s.size ≤ 2097152) :
    Calls Try.prog 21 #[.string s] w fun e w' => ∃ v, e = .returned (.tuple #[v, .int .i64 (resN s)]) ∧ Reads w' v (resL s) ∧ Below w.heap.size w w' := by
  obtain ⟨i0, hi, hz0, hz1, hz2⟩ := info_parts infoB
  go_enter Try.func21, Try.ntmps21
  go_wp2
  go_loopw [4, 5] (fun v t wr => ∃ (n p : Nat) (a : Option Addr) (cp : Nat), Hid (n = (p + 1) / 2) ∧ p ≤ s.size ∧ t = .int .i64 p ∧ v = .slice a n cp ∧ Hid (∀ i, i < p → 0 ≤ dv (bt s i)) ∧ wr.ownsRow w.heap.size 5 1 v n ((refL s p).map (Value.int .u8)) ∧ Below w.heap.size w wr) (fun _ t _ => s.size - (intOf t).toNat)
  case atStart => exact ⟨0, 0, _, _, (rfl : 0 = (0 + 1) / 2), Nat.zero_le _, rfl, rfl, (fun i h => by omega : ∀ i, i < 0 → 0 ≤ dv (bt s i)), World.ownsRow_nil _ _ _ _, Below.refl _ _⟩
  case round =>
    obtain ⟨n, p, a2, cp, hn, hp, rfl, rfl, hgo, hown, hbel⟩ := hrel
    by_cases hlt : p < s.size
    · have e1 : dv (bt s p) = dv (s[p].toNat : Int) := by rw [bt, dif_pos hlt]
      have b1 := vl_bd (s[p].toNat : Int)
      have b2 := @vl_16 (s[p].toNat : Int)
      have b3 := @vl_dv (s[p].toNat : Int)
      have b4 := dv_bd (s[p].toNat : Int)
      have hx1 := index_s s p hlt (p : Int) rfl
      have HC := value29u s[p] wr
      generalize dv (s[p].toNat : Int) = x at *
      generalize vl (s[p].toNat : Int) = y at *
      generalize (s[p].toNat : Int) = c at *
      have E1 : Hid (dv (bt s p) = x) := e1
      have HC' : Hid (Calls Try.prog 29 #[.int .u8 c] wr fun e w' => e = .returned (.int .i64 y) ∧ w' = wr) := HC
      clear e1 HC
      by_cases hy : y = 16
      · have hyb : (y == 16) = true := by simp [hy]
        have hno : ¬ goodS s := fun h => by have := h.2 p hlt; rw [E1.out] at this; have := b2 hy; omega
        have H1 : Hid (13 = resN s) := resN_no hno
        have H2 : Hid (resL s = []) := resL_no hno
        clear hno hy b2 b3 b1 b4
        go_wp2_with (go_at_call 29; refine HC'.out.mono ?_; rintro e w' ⟨rfl, rfl⟩)
        go_ret2
        exact ⟨_, ret_t H1.out, by rw [H2.out]; exact Reads.nil _, hbel⟩
      · have hyb : (y == 16) = false := by simp [hy]
        obtain ⟨hyx, hx0⟩ := b3 hy
        have hx15 := b4.2
        have E2 : Hid (dv (bt s p) = y) := by rw [hyx]; exact E1
        rw [← hyx] at hx0 hx15
        have hgo' : Hid (∀ i, i < p + 1 → 0 ≤ dv (bt s i)) := fun i hi => by
          by_cases h : i = p
          · rw [h, E2.out]; exact hx0
          · exact hgo.out i (by omega)
        clear hyx b1 b2 b3 b4 hy E1 hgo
        by_cases hpar : p % 2 = 0
        · have hpb : ((p : Int) % 2 == 0) = true := by simp; omega
          obtain ⟨k, hk⟩ : ∃ k, p = 2 * k := ⟨p / 2, by omega⟩
          have HL : Hid (refL s (p + 1) = refL s p ++ [y * 16]) := by
            have := E2.out; unfold Hid
            rw [hk] at this ⊢; rw [refL_even, refL_odd, this]
            rw [show 16 * y = y * 16 by omega]
          have hnk : Hid (n = k ∧ p = 2 * k) := ⟨by have := hn.out; omega, hk⟩
          have hn2 : n ≤ 1048576 := by have := hn.out; omega
          clear hk hpar
          go_wp2_with (first
            | (go_at_call 29; refine HC'.out.mono ?_; rintro e w' ⟨rfl, hww⟩; subst hww)
            | (at_builtin; refine wpList_append_own _ rfl _ _ 27 rfl w.heap.size 5 i0 (.int .u8 0) 1 1 Try.underlying27 hi hz0 hz1 hz2 rfl (by decide) _ _ _ rfl (hown.alloc _) ⟨World.heap _ |>.size, 0, none⟩ 1 1 [.int .u8 _] rfl rfl (cell_one_new _ _ _) (fun u hu => by simp at hu; subst hu; rfl) (by unfold maxLen; omega) (by omega) (by have := hbel.size; simp; omega) ?_; intro v' w1 hown' hgrow _))
          obtain ⟨a', cap', rfl⟩ := ownForm hown'
          have hbel' := belowApp hbel hown hgrow
          clear hown hgrow hbel
          go_wp2
          go_roundw
          case rel => exact ⟨n + 1, p + 1, a', cap', (by have := hnk.out; unfold Hid; omega), by omega, by go_num, rfl, hgo', by rw [HL.out]; simpa using hown', hbel'⟩
          case measure => simp [intOf]; omega
        · have hpb : ((p : Int) % 2 == 0) = false := by simp; omega
          obtain ⟨k, hk⟩ : ∃ k, p = 2 * k + 1 := ⟨p / 2, by omega⟩
          have hnk : n = k + 1 := by have := hn.out; omega
          subst hnk
          have hdiv : (p : Int) / 2 = (k : Int) := by omega
          have hd0 := hgo'.out (2 * k) (by omega)
          have hd1 := (dv_bd (bt s (2 * k))).2
          have hrl : refL s p = unL s k ++ [16 * dv (bt s (2 * k))] := by rw [hk, refL_odd]
          have hrl2 : refL s (p + 1) = unL s k ++ [16 * dv (bt s (2 * k)) + y] := by
            have := E2.out
            rw [hk] at this ⊢
            rw [show 2 * k + 1 + 1 = 2 * (k + 1) by omega, refL_even, unL_succ, this]
          have HK : Hid (p = 2 * k + 1) := hk
          have hul := unL_len s k
          clear hk hpar
          generalize dv (bt s (2 * k)) = d at *
          have hq0 : 0 ≤ 16 * d := by omega
          have hq1 : 16 * d ≤ 240 := by omega
          generalize 16 * d = q at *
          obtain ⟨g, cp', hsl⟩ : ∃ g cap, (Value.slice a2 (k + 1) cp) = .slice (some ⟨g, 0, none⟩) (k + 1) cap := by
            rcases hown.2 with ⟨_, h0⟩ | ⟨g, cap, _, he, _⟩
            · omega
            · exact ⟨g, cap, he⟩
          simp only [Value.slice.injEq, true_and] at hsl
          obtain ⟨rfl, rfl⟩ := hsl
          rw [hrl] at hown
          have hcell : wr.cell? ⟨g, k, none⟩ = some (.int .u8 q) := by
            rw [hown.cellAt k (by omega)]
            exact get_last _ _ _ hul
          have hfro := hown.frozenAt k
          obtain ⟨hst1, hst2⟩ := hown.stored k (.int .u8 (q + y))
          have hlst : (List.map (Value.int .u8) (unL s k ++ [q])).set k (.int .u8 (q + y)) = (refL s (p + 1)).map (Value.int .u8) := by
            rw [hrl2]
            exact set_last _ _ _ _ hul
          rw [hlst] at hst1
          have HS1 : Hid ((wr.setCell ⟨g, k, none⟩ (.int .u8 (q + y))).ownsRow w.heap.size 5 1 (.slice (some ⟨g, 0, none⟩) (k + 1) cp) (k + 1) ((refL s (p + 1)).map (Value.int .u8))) := hst1
          have HS2 : Hid (Below w.heap.size w (wr.setCell ⟨g, k, none⟩ (.int .u8 (q + y)))) := hbel.setCell (by exact (hown.lt g rfl).1) _
          have hk1 : k < k + 1 := by omega
          clear hst1 hst2 hlst hrl hrl2 hown hbel hd0 hd1 hul hn
          go_wp2_with (go_at_call 29; refine HC'.out.mono ?_; rintro e w' ⟨rfl, hww⟩; subst hww)
          go_roundw
          case rel => exact ⟨k + 1, p + 1, _, cp, (by have := HK.out; unfold Hid; omega), by omega, by go_num, rfl, hgo', HS1.out, HS2.out⟩
          case measure => simp [intOf]; omega
    · have hps : p = s.size := by omega
      by_cases hpar : s.size % 2 = 0
      · have hpb : ((s.size : Int) % 2 != 0) = false := by rw [bne_eq_false_iff_eq]; omega
        have hgood : goodS s := ⟨hpar, fun i hi => hgo.out i (by omega)⟩
        have H1 : Hid (0 = resN s) := resN_yes hgood
        have H2 : Hid (resL s = refL s p) := by rw [resL_yes hgood, hps]; unfold refL Hid; rw [if_pos hpar]
        clear hps hgood hpar
        go_wp2
        go_ret2
        exact ⟨_, ret_t H1.out, by rw [H2.out]; exact Reads.of_owns hown, hbel⟩
      · have hpb : ((s.size : Int) % 2 != 0) = true := by rw [bne_iff_ne]; omega
        have hno : ¬ goodS s := fun h => hpar h.1
        have H1 : Hid (13 = resN s) := resN_no hno
        have H2 : Hid (resL s = []) := resL_no hno
        clear hno hpar hps
        go_wp2
        go_ret2
        exact ⟨_, ret_t H1.out, by rw [H2.out]; exact Reads.nil _, hbel⟩
end Go.Proofs.Ytinagikfemdmbaa
