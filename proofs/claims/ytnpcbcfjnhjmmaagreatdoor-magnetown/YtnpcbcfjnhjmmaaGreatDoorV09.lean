import Derived.Test.YtnpcbcfjnhjmmaaGreatDoorV08
import Derived.WalkSpells
import Derived.Laws.OwnMore
namespace Go.Proofs.YtnpcbcfjnhjmmaaGreatDoor
namespace Hx
open Go.RowKit
/-- the digits' bytes -/
def dgS : ByteArray := { data := #[48, 49, 50, 51, 52, 53, 54, 55, 56, 57, 97, 98, 99, 100, 101, 102] }
def dgI (k : Int) : Int := if k < 10 then 48 + k else 87 + k
def dv (c : Int) : Int := if 48 ≤ c ∧ c ≤ 57 then c - 48 else if 97 ≤ c ∧ c ≤ 102 then c - 87 else -1
set_option maxRecDepth 100000 in
theorem dg_index (kd : IntKind) (hk : kd = .i64 ∨ kd = .u8) (k : Int) (h0 : 0 ≤ k) (h1 : k < 16) (w : World) :
    (Instr.index 9 (.string { data := #[48, 49, 50, 51, 52, 53, 54, 55, 56, 57, 97, 98, 99, 100, 101, 102] }) (.int kd k)).run Tryz.prog w = .ok (.int .u8 (dgI k)) w := by
  have : k = 0 ∨ k = 1 ∨ k = 2 ∨ k = 3 ∨ k = 4 ∨ k = 5 ∨ k = 6 ∨ k = 7 ∨ k = 8 ∨ k = 9 ∨ k = 10 ∨ k = 11 ∨ k = 12 ∨ k = 13 ∨ k = 14 ∨ k = 15 := by omega
  rcases hk with rfl | rfl <;> (rcases this with rfl | rfl | rfl | rfl | rfl | rfl | rfl | rfl | rfl | rfl | rfl | rfl | rfl | rfl | rfl | rfl <;> rfl)
theorem ret_i' {a b : Int} (h : a = b) : Ending.returned (.int .i64 a) = .returned (.int .i64 b) := by rw [h]
set_option maxHeartbeats 400000 in
theorem digit28 (c : Int) (w : World) (h0 : 0 ≤ c) (h1 : c ≤ 255) :
    Calls Tryz.prog 93 #[.int .u8 c] w fun e w' => e = .returned (.int .i64 (dv c)) ∧ w' = w := by
  by_cases c1 : 48 ≤ c
  · by_cases c2 : c ≤ 57
    · go_enter Tryz.func93, Tryz.ntmps93
      go_wp2
      go_ret
      exact ⟨ret_i' (by rw [dv, if_pos ⟨c1, c2⟩]), rfl⟩
    · by_cases c3 : 97 ≤ c
      · by_cases c4 : c ≤ 102
        · go_enter Tryz.func93, Tryz.ntmps93
          go_wp2
          go_ret
          exact ⟨ret_i' (by rw [dv, if_neg (by omega), if_pos ⟨c3, c4⟩]; omega), rfl⟩
        · go_enter Tryz.func93, Tryz.ntmps93
          go_wp2
          go_ret
          exact ⟨ret_i' (by rw [dv, if_neg (by omega), if_neg (by omega)]), rfl⟩
      · go_enter Tryz.func93, Tryz.ntmps93
        go_wp2
        go_ret
        exact ⟨ret_i' (by rw [dv, if_neg (by omega), if_neg (by omega)]), rfl⟩
  · have c3 : ¬ 97 ≤ c := by omega
    go_enter Tryz.func93, Tryz.ntmps93
    go_wp2
    go_ret
    exact ⟨ret_i' (by rw [dv, if_neg (by omega), if_neg (by omega)]), rfl⟩
def vl (c : Int) : Int := if dv c < 0 then 16 else dv c
theorem vl_of {c k : Int} (h0 : 0 ≤ k) (h1 : k < 16) (h : dgI k = c) : k = vl c := by
  subst h; unfold vl dv dgI; split <;> split <;> omega
theorem vl_no {c : Int} (h : ∀ j : Nat, j < 16 → dgI j ≠ c) : 16 = vl c := by
  unfold vl
  have : dv c = -1 := by
    unfold dv
    rw [if_neg, if_neg]
    · rintro ⟨a, b⟩
      exact h (c - 87).toNat (by omega) (by unfold dgI; split <;> omega)
    · rintro ⟨a, b⟩
      exact h (c - 48).toNat (by omega) (by unfold dgI; split <;> omega)
  rw [this]; rfl
/-- the slice v of bytes reads as the list xs -/
def Reads (w : World) (v : Value) (xs : List Int) : Prop :=
  ∃ a cap, v = .slice a xs.length cap ∧ (xs = [] ∨ ∃ b off, a = some ⟨b, off, none⟩ ∧ b < w.heap.size ∧ ∀ i, i < xs.length → w.cell? ⟨b, off + i, none⟩ = some (.int .u8 (xs.getD i 0)))



theorem Reads.below {w w' : World} {v : Value} {xs : List Int} (h : Reads w v xs) (hb : Below w.heap.size w w') : Reads w' v xs := by
  obtain ⟨a, c, rfl, g⟩ := h
  refine ⟨a, c, rfl, ?_⟩
  rcases g with rfl | ⟨b, o, rfl, hlt, g⟩
  · exact .inl rfl
  · exact .inr ⟨b, o, rfl, Nat.lt_of_lt_of_le hlt hb.size, fun i hi => (hb.cell (p := ⟨b, o + i, none⟩) hlt).trans (g i hi)⟩
/-- what a list lies in is new -/
def NewV (B : Nat) (v : Value) : Prop := ∀ g, v.ownBlock = some g → B ≤ g
theorem newNil (B : Nat) : NewV B (.slice none 0 0) := fun g hg => by simp [Value.ownBlock] at hg
theorem newOwn {w : World} {B e n : Nat} {v : Value} {xs : List Value} (h : w.ownsRow B e 1 v n xs) : NewV B v := fun g hg => (World.ownsRow.lt h g hg).1
theorem Reads.nil (w : World) : Reads w (.slice none 0 0) [] := ⟨none, 0, rfl, .inl rfl⟩
theorem Reads.of_owns {w : World} {base : Nat} {v : Value} {xs : List Int} {n : Nat} (h : w.ownsRow base 5 1 v n (xs.map (Value.int .u8))) : Reads w v xs := by
  have hl := h.1
  simp at hl
  rcases h.2 with ⟨rfl, h0⟩ | ⟨g, cap, cur, rfl, _, hg, _⟩
  · have : xs = [] := List.length_eq_zero_iff.1 (by omega)
    subst this; exact Reads.nil w
  · refine ⟨_, cap, by rw [hl], .inr ⟨g, 0, rfl, (Array.getElem?_eq_some_iff.1 hg).1, fun i hi => ?_⟩⟩
    have := h.cells (g := g) rfl i (.int .u8 (xs.getD i 0)) (by simp [List.getElem?_map, List.getElem?_eq_getElem hi, List.getD])
    have hadd : (⟨g, 0, none⟩ : Addr).add i = ⟨g, i, none⟩ := by unfold Addr.add; split <;> simp_all
    rw [hadd] at this
    simpa using this
theorem infoB : (Tryz.prog.info? 5).map (fun i => (i.zero, i.size, i.bytes)) = some (some (.int .u8 0), 1, 1) := by kernel_rfl


theorem ownForm {w : World} {base e n : Nat} {v : Value} {xs : List Value} (h : w.ownsRow base e 1 v n xs) : ∃ a cap, v = .slice a n cap := by
  rcases h.2 with ⟨rfl, rfl⟩ | ⟨g, cap, _, rfl, _⟩
  · exact ⟨none, 0, rfl⟩
  · exact ⟨_, cap, rfl⟩
theorem belowApp {w wr w1 : World} {o : Obj} {v : Value} {n e : Nat} {xs : List Value} (hb : Below w.heap.size w wr) (hown : wr.ownsRow w.heap.size e 1 v n xs) (hg : (wr.alloc o).grownBy w1 v.ownBlock) : Below w.heap.size w w1 :=
  (hb.alloc hb.size o).grown hg (by have := hb.size; simp; omega) (fun k hk => (hown.lt k hk).1)
theorem take_snocI (xs : List Int) (k : Nat) (h : k < xs.length) : xs.take (k + 1) = xs.take k ++ [xs.getD k 0] := by
  rw [List.take_succ_eq_append_getElem h]; simp [List.getD, List.getElem?_eq_getElem h]


/-- the byte at a place -/
def bt (s : ByteArray) (i : Nat) : Int := if h : i < s.size then (s[i].toNat : Int) else 0
/-- the first k bytes that the digits give -/
def unL (s : ByteArray) (k : Nat) : List Int := (List.range k).map fun j => 16 * dv (bt s (2 * j)) + dv (bt s (2 * j + 1))
def goodS (s : ByteArray) : Prop := s.size % 2 = 0 ∧ ∀ i, i < s.size → 0 ≤ dv (bt s i)
def goodB (s : ByteArray) : Bool := decide (s.size % 2 = 0) && (List.range s.size).all fun i => decide (0 ≤ dv (bt s i))
theorem goodB_iff {s : ByteArray} : goodB s = true ↔ goodS s := by
  simp [goodB, goodS]
def resN (s : ByteArray) : Int := if goodB s = true then 0 else 13
def resL (s : ByteArray) : List Int := if goodB s = true then unL s (s.size / 2) else []
theorem resN_yes {s : ByteArray} (h : goodS s) : (0 : Int) = resN s := by rw [resN, if_pos (goodB_iff.2 h)]
theorem resN_no {s : ByteArray} (h : ¬ goodS s) : (13 : Int) = resN s := by rw [resN, if_neg (fun e => h (goodB_iff.1 e))]
theorem resL_yes {s : ByteArray} (h : goodS s) : resL s = unL s (s.size / 2) := by rw [resL, if_pos (goodB_iff.2 h)]
theorem resL_no {s : ByteArray} (h : ¬ goodS s) : resL s = [] := by rw [resL, if_neg (fun e => h (goodB_iff.1 e))]
theorem unL_succ (s : ByteArray) (k : Nat) : unL s (k + 1) = unL s k ++ [16 * dv (bt s (2 * k)) + dv (bt s (2 * k + 1))] := by simp [unL, List.range_succ]
theorem dv_bd (c : Int) : -1 ≤ dv c ∧ dv c ≤ 15 := by unfold dv; split <;> (try split) <;> omega
theorem or_256_0 : ∀ a b : Fin 16, bits .or .i64 ((a.val : Int) * 16) (b.val : Int) % 256 = 16 * (a.val : Int) + (b.val : Int) := by decide +kernel
theorem or_256 {a b : Int} (ha : 0 ≤ a) (ha' : a ≤ 15) (hb : 0 ≤ b) (hb' : b ≤ 15) : bits .or .i64 (a * 16) b % 256 = 16 * a + b := by
  have := or_256_0 ⟨a.toNat, by omega⟩ ⟨b.toNat, by omega⟩
  simpa [Int.toNat_of_nonneg ha, Int.toNat_of_nonneg hb] using this
theorem digit28u (x : UInt8) (w : World) :
    Calls Tryz.prog 93 #[.int .u8 (x.toNat : Int)] w fun e w' => e = .returned (.int .i64 (dv (x.toNat : Int))) ∧ w' = w :=
  digit28 _ w (by omega) (by have := x.toNat_lt; omega)
theorem index_s (s : ByteArray) (p : Nat) (h : p < s.size) (i : Int) (hi : i = (p : Int)) (w : World) : (Instr.index 9 (.string s) (.int .i64 i)).run Tryz.prog w = .ok (.int .u8 (s[p].toNat : Int)) w := by
  subst hi
  have h2 : (p : Int) < (s.size : Int) := by omega
  simp [go_sem, Tryz.underlying9, h2]
theorem below_drewN {B : Nat} {a w : World} (h : Below B a w) (n : Nat) : Below B a (w.drewN n) := ⟨h.os, h.tape, h.output, h.size, h.block⟩
theorem ret_t {v : Value} {a b : Int} (h : a = b) : Ending.returned (.tuple #[v, .int .i64 a]) = .returned (.tuple #[v, .int .i64 b]) := by rw [h]
set_option maxHeartbeats 800000 in
theorem unhex20 (s : ByteArray) (w : World) (hs : s.size ≤ 2097152) :
    Calls Tryz.prog 81 #[.string s] w fun e w' => ∃ v, e = .returned (.tuple #[v, .int .i64 (resN s)]) ∧ Reads w' v (resL s) ∧ NewV w.heap.size v ∧ Below w.heap.size w w' := by
  obtain ⟨i0, hi, hz0, hz1, hz2⟩ := info_parts infoB
  by_cases hev : s.size % 2 = 0
  · have ht : ((s.size : Int) % 2 != 0) = false := by rw [bne_eq_false_iff_eq]; omega
    obtain ⟨m, hm⟩ : ∃ m, s.size = 2 * m := ⟨s.size / 2, by omega⟩
    have HM : Hid (s.size = 2 * m) := hm
    clear hev hm
    go_enter Tryz.func81, Tryz.ntmps81
    go_wp2
    go_loopw [4, 5] (fun v t wr => ∃ (k p : Nat) (a : Option Addr) (cp : Nat), Hid (k ≤ m ∧ p = 2 * k) ∧ p ≤ s.size ∧ t = .int .i64 p ∧ v = .slice a k cp ∧ Hid (∀ i, i < 2 * k → 0 ≤ dv (bt s i)) ∧ wr.ownsRow w.heap.size 5 1 v k ((unL s k).map (Value.int .u8)) ∧ Below w.heap.size w wr) (fun _ t _ => s.size - (intOf t).toNat)
    case atStart => exact ⟨0, 0, _, _, (⟨Nat.zero_le _, rfl⟩ : 0 ≤ m ∧ 0 = 2 * 0), Nat.zero_le _, rfl, rfl, (fun i h => by omega : ∀ i, i < 2 * 0 → 0 ≤ dv (bt s i)), World.ownsRow_nil _ _ _ _, Below.refl _ _⟩
    case round =>
      obtain ⟨k, p, a2, cp, hk, hp, rfl, rfl, hgo, hown, hbel⟩ := hrel
      by_cases hlt : p < s.size
      · have hl2 : p + 1 < s.size := by have := HM.out; have := hk.out; omega
        have hl3 : (p : Int) + 1 < (s.size : Int) := by omega
        have hwp : IntKind.i64.wrap ((p : Int) + 1) = (p : Int) + 1 := by rw [IntKind.wrap_i64]; omega
        have hx2 := index_s s (p + 1) hl2 ((p : Int) + 1) (by omega)
        go_wp2
        go_quiet ((go_at_call 93; exact Calls.quiet_of_same (digit28u _ _)))
        have e1 : dv (bt s p) = dv (s[p].toNat : Int) := by rw [bt, dif_pos hlt]
        have e2 : dv (bt s (p + 1)) = dv (s[p + 1].toNat : Int) := by rw [bt, dif_pos hl2]
        have b1 := dv_bd (s[p].toNat : Int)
        have b2 := dv_bd (s[p + 1].toNat : Int)
        generalize dv (s[p].toNat : Int) = x at *
        generalize dv (s[p + 1].toNat : Int) = y at *
        have E1 : Hid (dv (bt s p) = x) := e1
        have E2 : Hid (dv (bt s (p + 1)) = y) := e2
        obtain ⟨b11, b12⟩ := b1
        obtain ⟨b21, b22⟩ := b2
        clear e1 e2 hx2 hwp ht
        by_cases hx : x < 0
        · have hno : ¬ goodS s := fun h => by have := h.2 p hlt; rw [E1.out] at this; omega
          have H1 : Hid (13 = resN s) := resN_no hno
          have H2 : Hid (resL s = []) := resL_no hno
          clear hno
          go_wp2
          go_ret2
          exact ⟨_, ret_t H1.out, by rw [H2.out]; exact Reads.nil _, newNil _, below_drewN hbel _⟩
        · by_cases hy : y < 0
          · have hno : ¬ goodS s := fun h => by have := h.2 (p + 1) hl2; rw [E2.out] at this; omega
            have H1 : Hid (13 = resN s) := resN_no hno
            have H2 : Hid (resL s = []) := resL_no hno
            clear hno
            go_wp2
            go_ret2
            exact ⟨_, ret_t H1.out, by rw [H2.out]; exact Reads.nil _, newNil _, below_drewN hbel _⟩
          · have hownD : (wr.drewN nq).ownsRow w.heap.size 5 1 (.slice a2 k cp) k ((unL s k).map (Value.int .u8)) := hown
            have hbelD : Below w.heap.size w (wr.drewN nq) := below_drewN hbel _
            go_wp2_with (at_builtin; refine wpList_append_own _ rfl _ _ 92 rfl w.heap.size 5 i0 (.int .u8 0) 1 1 Tryz.underlying92 hi hz0 hz1 hz2 rfl (by decide) _ _ _ rfl (hownD.alloc _) ⟨wr.heap.size, 0, none⟩ 1 1 [.int .u8 _] rfl rfl (cell_one_new _ _ _) (fun u hu => by simp at hu; subst hu; rfl) (by unfold maxLen; have := hk.out; omega) (by have := hk.out; omega) (by have := hbel.size; simp; omega) ?_; intro v' w1 hown' hgrow _)
            obtain ⟨a', cap', rfl⟩ := ownForm hown'
            have hbel' := belowApp hbelD hownD hgrow
            have HU : Hid (unL s (k + 1) = unL s k ++ [bits .or .i64 (x * 16) y % 256]) := by
              have hpk := hk.out.2
              rw [or_256 (by omega) b12 (by omega) b22, unL_succ, ← hpk, E1.out, E2.out]; rfl
            have HG : Hid (∀ i, i < 2 * (k + 1) → 0 ≤ dv (bt s i)) := fun i hi => by
              have hpk := hk.out.2
              by_cases h1 : i < 2 * k
              · exact hgo.out i h1
              · by_cases h2 : i = p
                · rw [h2, E1.out]; omega
                · rw [show i = p + 1 by omega, E2.out]; omega
            clear hown hgrow hbel hownD hbelD hgo
            go_wp2
            go_roundw
            case rel => exact ⟨k + 1, p + 2, a', cap', (⟨by have := HM.out; have := hk.out; omega, by have := hk.out; omega⟩ : k + 1 ≤ m ∧ p + 2 = 2 * (k + 1)), by omega, by go_num, rfl, HG, by rw [HU.out]; simpa using hown', hbel'⟩
            case measure => simp [intOf]; omega
      · have hkm : k = m := by have := HM.out; have := hk.out; omega
        have hgood : goodS s := ⟨by have := HM.out; omega, fun i hi => hgo.out i (by have := hk.out; omega)⟩
        have H1 : Hid (0 = resN s) := resN_yes hgood
        have H2 : Hid (resL s = unL s k) := by rw [resL_yes hgood]; have := HM.out; rw [show s.size / 2 = k by omega]; rfl
        clear hkm hgood
        go_wp2
        go_ret2
        exact ⟨_, ret_t H1.out, by rw [H2.out]; exact Reads.of_owns hown, newOwn hown, hbel⟩
  · have ht : ((s.size : Int) % 2 != 0) = true := by rw [bne_iff_ne]; omega
    have hno : ¬ goodS s := fun h => hev h.1
    have H1 : Hid (13 = resN s) := resN_no hno
    have H2 : Hid (resL s = []) := resL_no hno
    clear hno hev
    go_enter Tryz.func81, Tryz.ntmps81
    go_wp2
    go_ret2
    exact ⟨_, ret_t H1.out, by rw [H2.out]; exact Reads.nil _, newNil _, Below.refl _ _⟩
theorem vl_bd (c : Int) : 0 ≤ vl c ∧ vl c ≤ 16 := by have := dv_bd c; unfold vl; split <;> omega
theorem vl_16 {c : Int} (h : vl c = 16) : dv c < 0 := by
  have := dv_bd c
  unfold vl at h; split at h
  · assumption
  · omega
theorem vl_dv {c : Int} (h : vl c ≠ 16) : vl c = dv c ∧ 0 ≤ dv c := by
  unfold vl at h ⊢; split
  · rename_i h2; rw [if_pos h2] at h; exact absurd rfl h
  · exact ⟨rfl, by omega⟩
/-- what the reference has behind p digits -/
def refL (s : ByteArray) (p : Nat) : List Int := if p % 2 = 0 then unL s (p / 2) else unL s (p / 2) ++ [16 * dv (bt s (p - 1))]
theorem refL_even (s : ByteArray) (k : Nat) : refL s (2 * k) = unL s k := by
  unfold refL; rw [if_pos (by omega), show 2 * k / 2 = k by omega]
theorem refL_odd (s : ByteArray) (k : Nat) : refL s (2 * k + 1) = unL s k ++ [16 * dv (bt s (2 * k))] := by
  unfold refL; rw [if_neg (by omega), show (2 * k + 1) / 2 = k by omega, show 2 * k + 1 - 1 = 2 * k by omega]
theorem unL_len (s : ByteArray) (k : Nat) : (unL s k).length = k := by simp [unL]
theorem get_last (A : List Int) (q : Int) (k : Nat) (h : A.length = k) : ((A ++ [q]).map (Value.int .u8))[k]? = some (.int .u8 q) := by subst h; simp
theorem set_last (A : List Int) (q r : Int) (k : Nat) (h : A.length = k) : ((A ++ [q]).map (Value.int .u8)).set k (.int .u8 r) = (A ++ [r]).map (Value.int .u8) := by subst h; simp
end Hx
end Go.Proofs.YtnpcbcfjnhjmmaaGreatDoor
