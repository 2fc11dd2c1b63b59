import Derived.Test.YtinagikfemdmbaaPad
import Derived.WalkSpells
namespace Go.Proofs.Ytinagikfemdmbaa
open Go.RowKit
def padZ (j : Nat) : List Int := 128 :: List.replicate j 0
def padB (n : Int) (j : Nat) : Nat → List Int
  | 0 => padZ j
  | k + 1 => padB n j k ++ [byteAt n (7 - k)]
theorem padZ_len (j : Nat) : (padZ j).length = j + 1 := by simp [padZ]
theorem padZ_succ (j : Nat) : padZ (j + 1) = padZ j ++ [0] := by simp [padZ, List.replicate_succ']
theorem padB_len (n : Int) (j k : Nat) : (padB n j k).length = j + 1 + k := by
  induction k with
  | zero => simp [padB, padZ_len]
  | succ k ih => simp [padB, ih]; omega
def lenOf : Value → Nat | .slice _ m _ => m | _ => 0
theorem own_form {w : World} {base e n : Nat} {v : Value} {xs : List Value} (h : w.ownsRow base e 1 v (n + 1) xs) : ∃ g cap, v = .slice (some ⟨g, 0, none⟩) (n + 1) cap := by
  rcases h.2 with ⟨_, h0⟩ | ⟨g, cap, _, rfl, _⟩
  · omega
  · exact ⟨g, cap, rfl⟩
theorem below_app {w wr w1 : World} {o : Obj} {v : Value} {n : Nat} {xs : List Value} (hb : Below w.heap.size w wr) (hown : wr.ownsRow w.heap.size 5 1 v n xs) (hg : (wr.alloc o).grownBy w1 v.ownBlock) : Below w.heap.size w w1 :=
  (hb.alloc hb.size o).grown hg (by have := hb.size; simp; omega) (fun k hk => (hown.lt k hk).1)
set_option maxHeartbeats 400000 in
theorem pad11_yes (n : Int) (w : World) (h0 : 0 ≤ n) (h1 : n ≤ 2305843009213693951) :
    Calls Try.prog 11 #[.int .i64 n] w fun e w' => ∃ v, e = .returned (.tuple #[v, .int .i64 0]) ∧ Reads w' v (padB n (pz n) 8) ∧ Below w.heap.size w w' := by
  obtain ⟨i0, hi, hz0, hz1, hz2⟩ := info_parts info5
  have hd1 : decide (n < 0) = false := by simp; omega
  have hd2 : decide (2305843009213693951 < n) = false := by simp; omega
  have HL : Hid (((pz n : Nat) : Int) = -((n + 1 + 8) % 64) % 64) := by unfold pz Hid; omega
  have hb : pz n ≤ 63 := by unfold pz; omega
  generalize pz n = z at *
  go_enter Try.func11, Try.ntmps11
  go_wp2
  go_loopw [4] (fun v wr => ∃ j g cap : Nat, j ≤ z ∧ v = .slice (some ⟨g, 0, none⟩) (j + 1) cap ∧ wr.ownsRow w.heap.size 5 1 v (j + 1) ((padZ j).map (Value.int .u8)) ∧ Below w.heap.size w wr) (fun v _ => z + 1 - lenOf v)
  case atStart =>
    refine ⟨0, w.heap.size, 1, Nat.zero_le _, rfl, ?_, (Below.refl _ _).alloc (Nat.le_refl _) _⟩
    exact World.ownsRow_lit w #[.int .u8 128] 1 (Nat.le_refl _) (by unfold maxLen; omega) rfl
  case round =>
    obtain ⟨j, g, cap, hj, rfl, hown, hbel⟩ := hrel
    by_cases hlt : j < z
    · have ht : ((n % 64 + ((j : Int) + 1) + 8) % 64 != 0) = true := by have := HL.out; rw [bne_iff_ne]; omega
      go_wp2_with (at_builtin; refine wpList_append_own _ rfl _ _ 27 rfl w.heap.size 5 i0 (.int .u8 0) 1 1 Try.underlying27 hi hz0 hz1 hz2 rfl (by decide) _ _ _ rfl (hown.alloc _) ⟨wr.heap.size, 0, none⟩ 1 1 [.int .u8 0] rfl rfl (cell_one_new _ _ _) (fun u hu => by simp at hu; subst hu; rfl) (by unfold maxLen; omega) (by omega) (by have := hbel.size; simp; omega) ?_; intro v' w1 hown' hgrow _)
      obtain ⟨g', cap', rfl⟩ := own_form hown'
      have hbel' := below_app hbel hown hgrow
      clear hown hgrow hbel
      go_wp2
      go_roundw
      case rel => exact ⟨j + 1, g', cap', by omega, rfl, by rw [padZ_succ]; simpa using hown', hbel'⟩
      case measure => simp [lenOf]; omega
    · have hjz : j = z := by omega
      subst hjz
      have ht : ((n % 64 + ((j : Int) + 1) + 8) % 64 != 0) = false := by have := HL.out; rw [bne_eq_false_iff_eq]; omega
      go_wp2
      clear ht
      go_loopw [4, 6] (fun v i wr => ∃ k g cap : Nat, k ≤ 8 ∧ i = .int .i64 k ∧ v = .slice (some ⟨g, 0, none⟩) (j + 1 + k) cap ∧ wr.ownsRow w.heap.size 5 1 v (j + 1 + k) ((padB n j k).map (Value.int .u8)) ∧ Below w.heap.size w wr) (fun _ i _ => 8 - (intOf i).toNat)
      case atStart => exact ⟨0, g, cap, Nat.zero_le _, rfl, rfl, hown, hbel⟩
      case round =>
        clear hown hbel
        obtain ⟨k, g, cap, hk, rfl, rfl, hown, hbel⟩ := hrel
        by_cases hlt : k < 8
        · go_wp2_with (at_builtin; refine wpList_append_own _ rfl _ _ 27 rfl w.heap.size 5 i0 (.int .u8 0) 1 1 Try.underlying27 hi hz0 hz1 hz2 rfl (by decide) _ _ _ rfl (hown.alloc _) ⟨wr.heap.size, 0, none⟩ 1 1 [.int .u8 _] rfl rfl (cell_one_new _ _ _) (fun u hu => by simp at hu; subst hu; rfl) (by unfold maxLen; omega) (by omega) (by have := hbel.size; simp; omega) ?_; intro v' w1 hown' hgrow _)
          obtain ⟨g', cap', rfl⟩ := own_form hown'
          have hbel' := below_app hbel hown hgrow
          clear hown hgrow hbel
          go_wp2
          go_roundw
          case rel => exact ⟨k + 1, g', cap', by omega, by go_num, rfl, by rw [padB, byteAt, show 8 * (7 - k) = 56 - 8 * k by omega]; simpa [Nat.add_assoc] using hown', hbel'⟩
          case measure => simp [intOf]; omega
        · have h8 : k = 8 := by omega
          subst h8
          go_wp2
          go_ret2
          exact ⟨_, rfl, Reads.of_owns hown, hbel⟩
theorem zeroA_eq (l : Nat) : zeroA l = (List.replicate l (Value.int .u8 0)).toArray := by
  apply Array.ext'
  apply List.ext_getElem?
  intro i
  simp [zeroA, madeCells, List.getElem?_replicate]
  by_cases h : i < l <;> simp [h, Nat.mod_one]
theorem padA_eq (n : Int) (z : Nat) : padA n (z + 9) 8 = ((padB n z 8).map (Value.int .u8)).toArray := by
  have e : List.replicate (z + 9) (Value.int .u8 0) = (Value.int .u8 0 :: List.replicate z (Value.int .u8 0)) ++ List.replicate 8 (.int .u8 0) := by
    rw [List.cons_append, List.replicate_append_replicate]; rfl
  simp only [padA, zeroA_eq, e]
  apply Array.ext'
  simp [padB, padZ, List.replicate]
theorem pad10_reads (n : Int) (w : World) : Reads (w.alloc (.cells (padA n (pz n + 9) 8) 5)) (.slice (some ⟨w.heap.size, 0, none⟩) (pz n + 9) (pz n + 9)) (padB n (pz n) 8) := by
  rw [padA_eq]
  have h := World.ownsRow_lit (base := w.heap.size) (e := 5) (size := 1) w ((padB n (pz n) 8).map (Value.int .u8)).toArray (pz n + 9) (Nat.le_refl _) (by unfold pz maxLen; omega) (by simp [padB_len])
  exact Reads.of_owns (by simpa using h)
end Go.Proofs.Ytinagikfemdmbaa
