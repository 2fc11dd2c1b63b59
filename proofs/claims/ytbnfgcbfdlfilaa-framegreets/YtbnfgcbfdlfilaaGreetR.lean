import Derived.Test.YtbnfgcbfdlfilaaGreet
namespace Go.Proofs.Ytbnfgcbfdlfilaa
open Go.RowKit
theorem sgn_ix : ∀ (k : Fin 20), 0 < k.val → ∀ w : World, (Instr.index 9 (.string { data := #[66, 105, 116, 84, 111, 114, 114, 101, 110, 116, 32, 112, 114, 111, 116, 111, 99, 111, 108] }) (.int .i64 ((k.val : Int) - 1))).run Try.prog w = .ok (.int .u8 ((byt sgn k.val).toNat : Int)) w := by
  intro k hk w
  rcases k with ⟨k, h⟩
  match k, h with
  | 0, _ => simp at hk
  | 1, _ | 2, _ | 3, _ | 4, _ | 5, _ | 6, _ | 7, _ | 8, _ | 9, _ | 10, _ | 11, _ | 12, _ | 13, _ | 14, _ | 15, _ | 16, _ | 17, _ | 18, _ | 19, _ => rfl
  | k + 20, h => omega
set_option maxHeartbeats 400000 in
theorem sign (k : Nat) (hk : k < 20) (w : World) : Calls Try.prog 26 #[.int .i64 k] w fun e w' => e = .returned (.int .u8 ((byt sgn k).toNat : Int)) ∧ w = w' := by
  by_cases h : k = 0
  · subst h
    go_enter Try.func26, Try.ntmps26
    go_wp2
    go_ret
    exact ⟨rfl, rfl⟩
  · have hx := sgn_ix ⟨k, hk⟩ (by show 0 < k; omega)
    simp only at hx
    have hne : ((k : Int) == 0) = false := by simp; omega
    generalize ((byt sgn k).toNat : Int) = y at *
    go_enter Try.func26, Try.ntmps26
    go_wp2
    go_ret
    exact ⟨rfl, rfl⟩
theorem take_greet (hb : List UInt8) (hl : hb.length = 48) (k : Nat) (hk : k < 68) : (sgn ++ hb).take (k + 1) = (sgn ++ hb).take k ++ [byt (sgn ++ hb) k] := take_snoc _ k (by simp [sgn, hl]; omega)
theorem byt_left (a b : List UInt8) (k : Nat) (h : k < a.length) : byt (a ++ b) k = byt a k := by simp [byt, List.getD, List.getElem?_append_left h]
theorem byt_right (a b : List UInt8) (k : Nat) (h : a.length ≤ k) : byt (a ++ b) k = byt b (k - a.length) := by simp [byt, List.getD, List.getElem?_append_right h]
set_option maxHeartbeats 2000000 in
theorem greetR (hb : List UInt8) (hl : hb.length = 48) (w : World) :
    Calls Try.prog 10 #[.agg (bc hb)] w fun e w' => ∃ v, e = .returned v ∧ OW w.heap.size w' v (sgn ++ hb) ∧ Below w.heap.size w w' := by
  have hs20 : sgn.length = 20 := rfl
  have hL : (sgn ++ hb).length = 68 := by simp [hs20, hl]
  have HL : Hid ((sgn ++ hb).length = 68) := hL
  have HB : Hid (∀ k, 20 ≤ k → byt (sgn ++ hb) k = byt hb (k - 20)) := fun k hk => byt_right sgn hb k hk
  have HA : Hid (∀ k, k < 20 → byt (sgn ++ hb) k = byt sgn k) := fun k hk => byt_left sgn hb k hk
  have HT : Hid (∀ k, k < 68 → (sgn ++ hb).take (k + 1) = (sgn ++ hb).take k ++ [byt (sgn ++ hb) k]) := fun k hk => take_greet hb hl k hk
  have HH : Hid (hb.length = 48) := hl
  clear hs20 hL hl
  generalize sgn ++ hb = L at *
  go_enter Try.func10, Try.ntmps10
  go_wp2
  go_loopw [3, 4] (fun v t wr => ∃ (k : Nat) (a : Option Addr) (cp : Nat), k ≤ 68 ∧ t = .int .i64 k ∧ v = .slice a k cp ∧ OW (w.heap.size + 1) wr v (L.take k) ∧ Below (w.heap.size + 1) (w.alloc (.cells (bc hb) 25)) wr) (fun _ t _ => 68 - (intOf t).toNat)
  case atStart => exact ⟨0, none, 0, Nat.zero_le _, rfl, rfl, World.ownsRow_nil _ _ _ _, Below.refl _ _⟩
  case round =>
    obtain ⟨k, a, cp, hk, rfl, rfl, hown, hbel⟩ := hrel
    have hsz := hbel.size
    have hsz : w.heap.size + 1 ≤ wr.heap.size := by simpa using hsz
    by_cases hlt : k < 68
    · have HK : Hid (L.take (k + 1) = L.take k ++ [byt L k] ∧ (L.take k).length < 140737488351232) := ⟨HT.out k hlt, by rw [List.length_take]; omega⟩
      have hhb : wr.heap[w.heap.size]? = some (.cells (bc hb) 25 (0, 0)) := (hbel.block w.heap.size (by omega)).trans (heapNew _ _)
      have hlen : (L.take k ++ [byt L k]).length = k + 1 := by rw [List.length_append, List.length_take, HL.out]; simp; omega
      have HLN : Hid (∀ y, (L.take k ++ [y]).length = k + 1) := fun y => by rw [List.length_append, List.length_take, HL.out]; simp; omega
      clear hlen
      by_cases h20 : k < 20
      · have HS := fun u => sign k h20 u
        rw [← HA.out k h20] at HS
        have HS' : Hid _ := HS
        clear HS hhb
        generalize byt L k = y at *
        go_wp2_with (first | (go_at_call 26; refine (HS'.out _).mono ?_; rintro e w' ⟨rfl, rfl⟩) | (at_builtin; refine append_byte rfl _ _ rfl rfl (hown.alloc _) wr.heap.size y rfl (by go_simp) (by simp; omega) HK.out.2 ?_; intro v' w1 hown' hb1))
        obtain ⟨a', c', rfl⟩ := hown'.form
        have hbel' := (hbel.alloc hsz _).trans hb1
        have hown2 : OW (w.heap.size + 1) w1 (.slice a' (L.take k ++ [y]).length c') (L.take (k + 1)) := by rw [HK.out.1]; exact hown'
        have hlen := HLN.out y
        rw [hlen] at hown2
        clear hown hbel hb1 hown'
        go_wp2
        go_roundw
        case rel => exact ⟨k + 1, a', c', by omega, by go_num, by rw [hlen], by rw [hlen]; exact hown2, hbel'⟩
        case measure => simp [intOf]; omega
      · have hcell : wr.cell? ⟨w.heap.size, k - 20, none⟩ = some (.int .u8 ((byt L k).toNat : Int)) := by
          rw [HB.out k (by omega)]; exact cell_bc hhb (k - 20) (by rw [HH.out]; omega)
        clear hhb
        generalize byt L k = y at *
        by_cases h28 : k < 28
        · have e1 : (((k : Int) - 20).toNat) = k - 20 := by omega
          go_wp2_with (at_builtin; refine append_byte rfl _ _ rfl rfl (hown.alloc _) wr.heap.size y rfl (by go_simp) (by simp; omega) HK.out.2 ?_; intro v' w1 hown' hb1)
          obtain ⟨a', c', rfl⟩ := hown'.form
          have hbel' := (hbel.alloc hsz _).trans hb1
          have hown2 : OW (w.heap.size + 1) w1 (.slice a' (L.take k ++ [y]).length c') (L.take (k + 1)) := by rw [HK.out.1]; exact hown'
          have hlen := HLN.out y
          rw [hlen] at hown2
          clear hown hbel hb1 hown'
          exact ⟨⟨k + 1, a', c', by omega, by go_num, by rw [hlen], by rw [hlen]; exact hown2, hbel'⟩, by simp [intOf]; omega⟩
        · by_cases h48 : k < 48
          · have hcell2 : wr.cell? ⟨w.heap.size, 8 + (k - 28), none⟩ = some (.int .u8 (y.toNat : Int)) := by rw [show 8 + (k - 28) = k - 20 by omega]; exact hcell
            clear hcell
            go_wp2_with (at_builtin; refine append_byte rfl _ _ rfl rfl (hown.alloc _) wr.heap.size y rfl (by go_simp) (by simp; omega) HK.out.2 ?_; intro v' w1 hown' hb1)
            obtain ⟨a', c', rfl⟩ := hown'.form
            have hbel' := (hbel.alloc hsz _).trans hb1
            have hown2 : OW (w.heap.size + 1) w1 (.slice a' (L.take k ++ [y]).length c') (L.take (k + 1)) := by rw [HK.out.1]; exact hown'
            have hlen := HLN.out y
            rw [hlen] at hown2
            clear hown hbel hb1 hown'
            exact ⟨⟨k + 1, a', c', by omega, by go_num, by rw [hlen], by rw [hlen]; exact hown2, hbel'⟩, by simp [intOf]; omega⟩
          · have hcell2 : wr.cell? ⟨w.heap.size, 28 + (k - 48), none⟩ = some (.int .u8 (y.toNat : Int)) := by rw [show 28 + (k - 48) = k - 20 by omega]; exact hcell
            clear hcell
            go_wp2_with (at_builtin; refine append_byte rfl _ _ rfl rfl (hown.alloc _) wr.heap.size y rfl (by go_simp) (by simp; omega) HK.out.2 ?_; intro v' w1 hown' hb1)
            obtain ⟨a', c', rfl⟩ := hown'.form
            have hbel' := (hbel.alloc hsz _).trans hb1
            have hown2 : OW (w.heap.size + 1) w1 (.slice a' (L.take k ++ [y]).length c') (L.take (k + 1)) := by rw [HK.out.1]; exact hown'
            have hlen := HLN.out y
            rw [hlen] at hown2
            clear hown hbel hb1 hown'
            exact ⟨⟨k + 1, a', c', by omega, by go_num, by rw [hlen], by rw [hlen]; exact hown2, hbel'⟩, by simp [intOf]; omega⟩
    · have hk68 : k = 68 := by omega
      subst hk68
      have HF : Hid (OW w.heap.size wr (.slice a 68 cp) L ∧ Below w.heap.size w wr) := ⟨by
        have := hown.mono (Nat.le_succ _)
        rwa [List.take_of_length_le (by rw [HL.out]; omega)] at this, ((Below.refl _ _).alloc (Nat.le_refl _) _).trans (hbel.mono (Nat.le_succ _))⟩
      go_wp2
      go_ret
      exact ⟨_, rfl, HF.out⟩
end Go.Proofs.Ytbnfgcbfdlfilaa
