import Derived.Test.YtinagikfemdmbaaHexW
namespace Go.Proofs.Ytinagikfemdmbaa
open Go.RowKit
/-- the byte at a place -/
def bt (s : ByteArray) (i : Nat) : Int := if h : i < s.size then (s[i].toNat : Int) else 0
/-- the first k bytes that the digits give -/
def unL (s : ByteArray) (k : Nat) : List Int := (List.range k).map fun j => 16 * dv (bt s (2 * j)) + dv (bt s (2 * j + 1))
def goodS (s : ByteArray) : Prop := s.size % 2 = 0 ∧ ∀ i, i < s.size → 0 ≤ dv (bt s i)
def goodB (s : ByteArray) : Bool := decide (s.size % 2 = 0) && (List.range s.size).all fun i => decide (0 ≤ dv (bt s i))
theorem goodB_iff {s : ByteArray} : goodB s = true ↔ goodS s := by
  simp [goodB, goodS]
def resN (s : ByteArray) : Int := if goodB s = true then 0 else 13
def resL (s : ByteArray) : List Int := if goodB s = true then unL s (s.size / 2) else []
theorem resN_yes {s : ByteArray} (h : goodS s) : (0 : Int) = resN s := by rw [resN, if_pos (goodB_iff.2 h)]
theorem resN_no {s : ByteArray} (h : ¬ goodS s) : (13 : Int) = resN s := by rw [resN, if_neg (fun e => h (goodB_iff.1 e))]
theorem resL_yes {s : ByteArray} (h : goodS s) : resL s = unL s (s.size / 2) := by rw [resL, if_pos (goodB_iff.2 h)]
theorem resL_no {s : ByteArray} (h : ¬ goodS s) : resL s = [] := by rw [resL, if_neg (fun e => h (goodB_iff.1 e))]
theorem unL_succ (s : ByteArray) (k : Nat) : unL s (k + 1) = unL s k ++ [16 * dv (bt s (2 * k)) + dv (bt s (2 * k + 1))] := by simp [unL, List.range_succ]
theorem dv_bd (c : Int) : -1 ≤ dv c ∧ dv c ≤ 15 := by unfold dv; split <;> (try split) <;> omega
theorem or_256_0 : ∀ a b : Fin 16, bits .or .i64 ((a.val : Int) * 16) (b.val : Int) % 256 = 16 * (a.val : Int) + (b.val : Int) := by decide +kernel
theorem or_256 {a b : Int} (ha : 0 ≤ a) (ha' : a ≤ 15) (hb : 0 ≤ b) (hb' : b ≤ 15) : bits .or .i64 (a * 16) b % 256 = 16 * a + b := by
  have := or_256_0 ⟨a.toNat, by omega⟩ ⟨b.toNat, by omega⟩
  simpa [Int.toNat_of_nonneg ha, Int.toNat_of_nonneg hb] using this
theorem digit28u (x : UInt8) (w : World) :
    Calls Try.prog 28 #[.int .u8 (x.toNat : Int)] w fun e w' => e = .returned (.int .i64 (dv (x.toNat : Int))) ∧ w' = w :=
  digit28 _ w (by omega) (by have := x.toNat_lt; omega)
theorem index_s (s : ByteArray) (p : Nat) (h : p < s.size) (i : Int) (hi : i = (p : Int)) (w : World) : (Instr.index 9 (.string s) (.int .i64 i)).run Try.prog w = .ok (.int .u8 (s[p].toNat : Int)) w := by
  subst hi
  have h2 : (p : Int) < (s.size : Int) := by omega
  simp [go_sem, Try.underlying9, h2]
theorem below_drewN {B : Nat} {a w : World} (h : Below B a w) (n : Nat) : Below B a (w.drewN n) := ⟨h.os, h.tape, h.output, h.size, h.block⟩
theorem ret_t {v : Value} {a b : Int} (h : a = b) : Ending.returned (.tuple #[v, .int .i64 a]) = .returned (.tuple #[v, .int .i64 b]) := by rw [h]
set_option maxHeartbeats 800000 in
theorem unhex20 (s : ByteArray) (w : World) (hs : s.size ≤ 2097152) :
    Calls Try.prog 20 #[.string s] w fun e w' => ∃ v, e = .returned (.tuple #[v, .int .i64 (resN s)]) ∧ Reads w' v (resL s) ∧ Below w.heap.size w w' := by
  obtain ⟨i0, hi, hz0, hz1, hz2⟩ := info_parts infoB
  by_cases hev : s.size % 2 = 0
  · have ht : ((s.size : Int) % 2 != 0) = false := by rw [bne_eq_false_iff_eq]; omega
    obtain ⟨m, hm⟩ : ∃ m, s.size = 2 * m := ⟨s.size / 2, by omega⟩
    have HM : Hid (s.size = 2 * m) := hm
    clear hev hm
    go_enter Try.func20, Try.ntmps20
    go_wp2
    go_loopw [4, 5] (fun v t wr => ∃ (k p : Nat) (a : Option Addr) (cp : Nat), Hid (k ≤ m ∧ p = 2 * k) ∧ p ≤ s.size ∧ t = .int .i64 p ∧ v = .slice a k cp ∧ Hid (∀ i, i < 2 * k → 0 ≤ dv (bt s i)) ∧ wr.ownsRow w.heap.size 5 1 v k ((unL s k).map (Value.int .u8)) ∧ Below w.heap.size w wr) (fun _ t _ => s.size - (intOf t).toNat)
    case atStart => exact ⟨0, 0, _, _, (⟨Nat.zero_le _, rfl⟩ : 0 ≤ m ∧ 0 = 2 * 0), Nat.zero_le _, rfl, rfl, (fun i h => by omega : ∀ i, i < 2 * 0 → 0 ≤ dv (bt s i)), World.ownsRow_nil _ _ _ _, Below.refl _ _⟩
    case round =>
      obtain ⟨k, p, a2, cp, hk, hp, rfl, rfl, hgo, hown, hbel⟩ := hrel
      by_cases hlt : p < s.size
      · have hl2 : p + 1 < s.size := by have := HM.out; have := hk.out; omega
        have hl3 : (p : Int) + 1 < (s.size : Int) := by omega
        have hwp : IntKind.i64.wrap ((p : Int) + 1) = (p : Int) + 1 := by rw [IntKind.wrap_i64]; omega
        have hx2 := index_s s (p + 1) hl2 ((p : Int) + 1) (by omega)
        go_wp2
        go_quiet ((go_at_call 28; exact Calls.quiet_of_same (digit28u _ _)))
        have e1 : dv (bt s p) = dv (s[p].toNat : Int) := by rw [bt, dif_pos hlt]
        have e2 : dv (bt s (p + 1)) = dv (s[p + 1].toNat : Int) := by rw [bt, dif_pos hl2]
        have b1 := dv_bd (s[p].toNat : Int)
        have b2 := dv_bd (s[p + 1].toNat : Int)
        generalize dv (s[p].toNat : Int) = x at *
        generalize dv (s[p + 1].toNat : Int) = y at *
        have E1 : Hid (dv (bt s p) = x) := e1
        have E2 : Hid (dv (bt s (p + 1)) = y) := e2
        obtain ⟨b11, b12⟩ := b1
        obtain ⟨b21, b22⟩ := b2
        clear e1 e2 hx2 hwp ht
        by_cases hx : x < 0
        · have hno : ¬ goodS s := fun h => by have := h.2 p hlt; rw [E1.out] at this; omega
          have H1 : Hid (13 = resN s) := resN_no hno
          have H2 : Hid (resL s = []) := resL_no hno
          clear hno
          go_wp2
          go_ret2
          exact ⟨_, ret_t H1.out, by rw [H2.out]; exact Reads.nil _, below_drewN hbel _⟩
        · by_cases hy : y < 0
          · have hno : ¬ goodS s := fun h => by have := h.2 (p + 1) hl2; rw [E2.out] at this; omega
            have H1 : Hid (13 = resN s) := resN_no hno
            have H2 : Hid (resL s = []) := resL_no hno
            clear hno
            go_wp2
            go_ret2
            exact ⟨_, ret_t H1.out, by rw [H2.out]; exact Reads.nil _, below_drewN hbel _⟩
          · have hownD : (wr.drewN nq).ownsRow w.heap.size 5 1 (.slice a2 k cp) k ((unL s k).map (Value.int .u8)) := hown
            have hbelD : Below w.heap.size w (wr.drewN nq) := below_drewN hbel _
            go_wp2_with (at_builtin; refine wpList_append_own _ rfl _ _ 27 rfl w.heap.size 5 i0 (.int .u8 0) 1 1 Try.underlying27 hi hz0 hz1 hz2 rfl (by decide) _ _ _ rfl (hownD.alloc _) ⟨wr.heap.size, 0, none⟩ 1 1 [.int .u8 _] rfl rfl (cell_one_new _ _ _) (fun u hu => by simp at hu; subst hu; rfl) (by unfold maxLen; have := hk.out; omega) (by have := hk.out; omega) (by have := hbel.size; simp; omega) ?_; intro v' w1 hown' hgrow _)
            obtain ⟨a', cap', rfl⟩ := ownForm hown'
            have hbel' := belowApp hbelD hownD hgrow
            have HU : Hid (unL s (k + 1) = unL s k ++ [bits .or .i64 (x * 16) y % 256]) := by
              have hpk := hk.out.2
              rw [or_256 (by omega) b12 (by omega) b22, unL_succ, ← hpk, E1.out, E2.out]; rfl
            have HG : Hid (∀ i, i < 2 * (k + 1) → 0 ≤ dv (bt s i)) := fun i hi => by
              have hpk := hk.out.2
              by_cases h1 : i < 2 * k
              · exact hgo.out i h1
              · by_cases h2 : i = p
                · rw [h2, E1.out]; omega
                · rw [show i = p + 1 by omega, E2.out]; omega
            clear hown hgrow hbel hownD hbelD hgo
            go_wp2
            go_roundw
            case rel => exact ⟨k + 1, p + 2, a', cap', (⟨by have := HM.out; have := hk.out; omega, by have := hk.out; omega⟩ : k + 1 ≤ m ∧ p + 2 = 2 * (k + 1)), by omega, by go_num, rfl, HG, by rw [HU.out]; simpa using hown', hbel'⟩
            case measure => simp [intOf]; omega
      · have hkm : k = m := by have := HM.out; have := hk.out; omega
        have hgood : goodS s := ⟨by have := HM.out; omega, fun i hi => hgo.out i (by have := hk.out; omega)⟩
        have H1 : Hid (0 = resN s) := resN_yes hgood
        have H2 : Hid (resL s = unL s k) := by rw [resL_yes hgood]; have := HM.out; rw [show s.size / 2 = k by omega]; rfl
        clear hkm hgood
        go_wp2
        go_ret2
        exact ⟨_, ret_t H1.out, by rw [H2.out]; exact Reads.of_owns hown, hbel⟩
  · have ht : ((s.size : Int) % 2 != 0) = true := by rw [bne_iff_ne]; omega
    have hno : ¬ goodS s := fun h => hev h.1
    have H1 : Hid (13 = resN s) := resN_no hno
    have H2 : Hid (resL s = []) := resL_no hno
    clear hno hev
    go_enter Try.func20, Try.ntmps20
    go_wp2
    go_ret2
    exact ⟨_, ret_t H1.out, by rw [H2.out]; exact Reads.nil _, Below.refl _ _⟩
end Go.Proofs.Ytinagikfemdmbaa
