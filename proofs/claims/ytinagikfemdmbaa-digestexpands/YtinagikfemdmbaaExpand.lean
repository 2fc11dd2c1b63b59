import Derived.Test.YtinagikfemdmbaaWords
import Derived.Deep.RegionHeld3
import Derived.Test.YtinagikfemdmbaaRowset
namespace Go.Proofs.Ytinagikfemdmbaa
open Go.RowKit
theorem orA_unfold (b0 b1 b2 b3 : Int) : bits .or .u32 (bits .or .u32 (bits .or .u32 (IntKind.u32.wrap (IntKind.u32.wrap b0 * 16777216)) (IntKind.u32.wrap (IntKind.u32.wrap b1 * 65536))) (IntKind.u32.wrap (IntKind.u32.wrap b2 * 256))) (IntKind.u32.wrap b3) = orA b0 b1 b2 b3 := rfl
theorem keep_oldD {wr : World} {B k o : Nat} {v x : Value} (h : wr.cell? ⟨B, o, none⟩ = some x) : ((wr.setCell ⟨B + 1 + 1, k, none⟩ v).drew).cell? ⟨B, o, none⟩ = some x := by
  have := keep_old (k := k) (v := v) h
  simpa using this
theorem keep_offD {wr : World} {B k o : Nat} {v x : Value} (hne : k ≠ o) (h : wr.cell? ⟨B, o, none⟩ = some x) : ((wr.setCell ⟨B, k, none⟩ v).drew).cell? ⟨B, o, none⟩ = some x := by
  have := keep_off (v := v) hne h
  simpa using this
theorem stA_size (bs : List Int) (k : Nat) : (stA bs k).size = 64 := by simp [stA, st_len]
theorem info37' : (Try.prog.info? 37).map (·.size) = some 64 := by kernel_rfl
theorem info37 {bs : List Int} (k : Nat) : (Try.prog.info? 37).map (·.size) = some (stA bs k).size := by rw [stA_size]; exact info37'
theorem one64 {bs : List Int} (k : Nat) : (stA bs k).all (·.oneCell') = true := by
  unfold stA; apply all_oneCell_toArray; intro v hv
  simp at hv
  obtain ⟨a, _, rfl⟩ := hv
  rfl
theorem there64 {bs : List Int} {wr : World} {g k j : Nat} (h : wr.heap[g]? = some (.cells (stA bs k) 37 (0, 0))) : wr.there g 0 (stA bs j).size := by
  intro i hi
  rw [stA_size] at hi
  refine ⟨?_, frozen_of_row wr g _ _ _ h⟩
  rw [cell_of_row wr g _ _ _ _ h, stA_get bs k _ (by omega)]
  rfl
/-- the result's cells behind the store -/
theorem finish64 {bs : List Int} {w wr : World} (h : XInv bs w wr 64) : (wr.setCells (w.heap.size + 1) 0 (stA bs 64).toList).heap[w.heap.size + 1]? = some (.cells (stA bs 64) 37 (0, 0)) ∧ Below w.heap.size w (wr.setCells (w.heap.size + 1) 0 (stA bs 64).toList) := by
  refine ⟨?_, setCells_below _ (by omega) _ _ _ h.bel⟩
  have := setCells_row (w.heap.size + 1) 37 (stA bs 64).toList [] (stA bs 0).toList wr (by simp [stA_size]) (by simpa using h.res)
  simpa using this
set_option maxHeartbeats 4000000 in
theorem expand15 (bs : List Int) (hl : bs.length = 64) (hb : ∀ x ∈ bs, 0 ≤ x ∧ x ≤ 255) (w : World) :
    Calls Try.prog 15 #[.agg (bsA bs)] w fun e w' => e = .returned (.agg (stA bs 64)) ∧ Below w.heap.size w w' := by
  have HB : Hid (∀ x ∈ bs, 0 ≤ x ∧ x ≤ 255) := hb
  have HL : Hid (bs.length = 64) := hl
  clear hb hl
  go_enter Try.func15, Try.ntmps15
  go_wp2
  go_loopw [6] (fun t wr => ∃ k : Nat, k ≤ 16 ∧ t = .int .i64 k ∧ XInv bs w wr k) (fun t _ => 16 - (intOf t).toNat)
  case atStart => exact ⟨0, Nat.zero_le _, rfl, XInv.start rfl⟩
  case round =>
    obtain ⟨k, hk, rfl, hinv⟩ := hrel
    by_cases hlt : k < 16
    · have hk1 : (0 : Int) ≤ (k : Int) := by omega
      have hk3 : (k : Int) < 64 := by omega
      have z0 : (0 : Int) ≤ 4 * (k : Int) := by omega
      have z1 : (0 : Int) ≤ 4 * (k : Int) + 1 := by omega
      have z2 : (0 : Int) ≤ 4 * (k : Int) + 2 := by omega
      have z3 : (0 : Int) ≤ 4 * (k : Int) + 3 := by omega
      have v0 : IntKind.i64.wrap (4 * (k : Int)) = 4 * (k : Int) := by rw [IntKind.wrap_i64]; omega
      have v1 : IntKind.i64.wrap (4 * (k : Int) + 1) = 4 * (k : Int) + 1 := by rw [IntKind.wrap_i64]; omega
      have v2 : IntKind.i64.wrap (4 * (k : Int) + 2) = 4 * (k : Int) + 2 := by rw [IntKind.wrap_i64]; omega
      have v3 : IntKind.i64.wrap (4 * (k : Int) + 3) = 4 * (k : Int) + 3 := by rw [IntKind.wrap_i64]; omega
      have t0 : (4 * (k : Int)).toNat = 4 * k := by omega
      have t1 : (4 * (k : Int) + 1).toNat = 4 * k + 1 := by omega
      have t2 : (4 * (k : Int) + 2).toNat = 4 * k + 2 := by omega
      have t3 : (4 * (k : Int) + 3).toNat = 4 * k + 3 := by omega
      have a0 : (4 * (k : Int)) < 64 := by omega
      have a1 : (4 * (k : Int)) + 1 < 64 := by omega
      have a2 : (4 * (k : Int)) + 2 < 64 := by omega
      have a3 : (4 * (k : Int)) + 3 < 64 := by omega
      have h0 := hinv.byte (4 * k) (by have := HL.out; omega)
      have h1 := hinv.byte (4 * k + 1) (by have := HL.out; omega)
      have h2 := hinv.byte (4 * k + 2) (by have := HL.out; omega)
      have h3 := hinv.byte (4 * k + 3) (by have := HL.out; omega)
      have ho := hinv.word k (by omega)
      have hf := hinv.free k
      have HS : Hid (∀ u : Value, u = .int .u32 (orA (bs.getD (4 * k) 0) (bs.getD (4 * k + 1) 0) (bs.getD (4 * k + 2) 0) (bs.getD (4 * k + 3) 0)) → XInv bs w (wr.setCell ⟨w.heap.size + 1 + 1, k, none⟩ u) (k + 1)) := by
        intro u hu
        subst hu
        have c0 := byte_bd HB.out (4 * k); have c1 := byte_bd HB.out (4 * k + 1); have c2 := byte_bd HB.out (4 * k + 2); have c3 := byte_bd HB.out (4 * k + 3)
        apply hinv.set
        rw [stA_lo bs k hlt, orA_eq c0.1 c0.2 c1.1 c1.2 c2.1 c2.2 c3.1 c3.2]
      clear hinv
      generalize bs.getD (4 * k) 0 = b0 at *
      generalize bs.getD (4 * k + 1) 0 = b1 at *
      generalize bs.getD (4 * k + 2) 0 = b2 at *
      generalize bs.getD (4 * k + 3) 0 = b3 at *
      generalize (st bs k).getD k 0 = o at *
      go_wp2
      go_region_held3 (fun w' => w'.cell? ⟨w.heap.size, 4 * k, none⟩ = some (.int .u8 b0) ∧ w'.cell? ⟨w.heap.size, 4 * k + 1, none⟩ = some (.int .u8 b1) ∧ w'.cell? ⟨w.heap.size, 4 * k + 2, none⟩ = some (.int .u8 b2) ∧ w'.cell? ⟨w.heap.size, 4 * k + 3, none⟩ = some (.int .u8 b3)) (first | (exact ⟨h0, h1, h2, h3⟩) | (exact ⟨keep_oldD h0, keep_oldD h1, keep_oldD h2, keep_oldD h3⟩)) (fail)
      clear h0 h1 h2 h3 ho hf v0 v1 v2 v3 t0 t1 t2 t3
      go_wp2
      go_roundw
      case rel => exact ⟨k + 1, by omega, by go_num, (HS.out _ rfl).drewN 1⟩
      case measure => simp [intOf]; omega
    · have h16 : k = 16 := by omega
      have H16 : Hid (XInv bs w wr 16) := h16 ▸ hinv
      clear h16 hinv
      go_wp2
      go_loopw [5] (fun t wr => ∃ k : Nat, 16 ≤ k ∧ k ≤ 64 ∧ t = .int .i64 k ∧ XInv bs w wr k) (fun t _ => 64 - (intOf t).toNat)
      case atStart => exact ⟨16, Nat.le_refl _, by omega, rfl, H16.out⟩
      case round =>
        clear H16 hk hlt
        obtain ⟨k, hk0, hk, rfl, hinv⟩ := hrel
        by_cases hlt : k < 64
        · have hk1 : (0 : Int) ≤ (k : Int) := by omega
          have hk3 : (k : Int) < 64 := by omega
          obtain ⟨p2, e2⟩ : ∃ p, p = k - 2 := ⟨_, rfl⟩
          obtain ⟨p7, e7⟩ : ∃ p, p = k - 7 := ⟨_, rfl⟩
          obtain ⟨p15, e15⟩ : ∃ p, p = k - 15 := ⟨_, rfl⟩
          obtain ⟨p16, e16⟩ : ∃ p, p = k - 16 := ⟨_, rfl⟩
          have v2 : IntKind.i64.wrap ((k : Int) - 2) = (p2 : Int) := by rw [IntKind.wrap_i64]; omega
          have z2 : (0 : Int) ≤ (p2 : Int) := by omega
          have a2 : (p2 : Int) < 64 := by omega
          have h2 := hinv.word p2 (by omega)
          have n2 : k ≠ p2 := by omega
          have v7 : IntKind.i64.wrap ((k : Int) - 7) = (p7 : Int) := by rw [IntKind.wrap_i64]; omega
          have z7 : (0 : Int) ≤ (p7 : Int) := by omega
          have a7 : (p7 : Int) < 64 := by omega
          have h7 := hinv.word p7 (by omega)
          have n7 : k ≠ p7 := by omega
          have v15 : IntKind.i64.wrap ((k : Int) - 15) = (p15 : Int) := by rw [IntKind.wrap_i64]; omega
          have z15 : (0 : Int) ≤ (p15 : Int) := by omega
          have a15 : (p15 : Int) < 64 := by omega
          have h15 := hinv.word p15 (by omega)
          have n15 : k ≠ p15 := by omega
          have v16 : IntKind.i64.wrap ((k : Int) - 16) = (p16 : Int) := by rw [IntKind.wrap_i64]; omega
          have z16 : (0 : Int) ≤ (p16 : Int) := by omega
          have a16 : (p16 : Int) < 64 := by omega
          have h16 := hinv.word p16 (by omega)
          have n16 : k ≠ p16 := by omega
          have ho := hinv.word k (by omega)
          have hf := hinv.free k
          have HS : Hid (∀ u : Value, u = .int .u32 (nextW ((st bs k).getD p2 0) ((st bs k).getD p7 0) ((st bs k).getD p15 0) ((st bs k).getD p16 0)) → XInv bs w (wr.setCell ⟨w.heap.size + 1 + 1, k, none⟩ u) (k + 1)) := by
            intro u hu
            subst hu
            rw [e2, e7, e15, e16]
            exact hinv.set (stA_hi bs k (by omega))
          have c2 := st_bd HB.out k p2
          have c15 := st_bd HB.out k p15
          clear hinv e2 e7 e15 e16
          generalize (st bs k).getD p2 0 = x2 at *
          generalize (st bs k).getD p7 0 = x7 at *
          generalize (st bs k).getD p15 0 = x15 at *
          generalize (st bs k).getD p16 0 = x16 at *
          generalize (st bs k).getD k 0 = o at *
          obtain ⟨c21, c22⟩ := c2
          obtain ⟨c151, c152⟩ := c15
          go_wp2
          go_region_held3 (fun w' => w'.cell? ⟨w.heap.size + 1 + 1, p2, none⟩ = some (.int .u32 x2) ∧ w'.cell? ⟨w.heap.size + 1 + 1, p7, none⟩ = some (.int .u32 x7) ∧ w'.cell? ⟨w.heap.size + 1 + 1, p15, none⟩ = some (.int .u32 x15) ∧ w'.cell? ⟨w.heap.size + 1 + 1, p16, none⟩ = some (.int .u32 x16)) (first | (exact ⟨h2, h7, h15, h16⟩) | (exact ⟨keep_offD n2 h2, keep_offD n7 h7, keep_offD n15 h15, keep_offD n16 h16⟩)) (first | (go_at_call 25; refine (small25 x2 _ c21 c22).mono ?_; rintro e w' ⟨rfl, rfl⟩) | (go_at_call 26; refine (small26 x15 _ c151 c152).mono ?_; rintro e w' ⟨rfl, rfl⟩))
          clear h2 h7 h15 h16 ho hf v2 v7 v15 v16 n2 n7 n15 n16
          go_wp2
          go_roundw
          case rel => exact ⟨k + 1, by omega, by omega, by go_num, (HS.out _ rfl).drewN 1⟩
          case measure => simp [intOf]; omega
        · have h64 : k = 64 := by omega
          have H64 : Hid (XInv bs w wr 64) := h64 ▸ hinv
          clear h64 hinv
          have hwd : wr.heap[w.heap.size + 1 + 1]? = some (.cells (stA bs 64) 37 (0, 0)) := H64.out.wds
          have hrs : wr.heap[w.heap.size + 1]? = some (.cells (stA bs 0) 37 (0, 0)) := H64.out.res
          have HW : Hid (wr.heap[w.heap.size + 1 + 1]? = some (.cells (stA bs 64) 37 (0, 0))) := hwd
          have HRS : Hid (wr.heap[w.heap.size + 1]? = some (.cells (stA bs 0) 37 (0, 0))) := hrs
          clear hwd hrs
          go_wp2_with (first
            | (refine wpList_load_row rfl 37 (.tmp 3) rfl (w.heap.size + 1 + 1) rfl 37 (stA bs 64) (0, 0) _ HW.out Try.underlying37 rfl (info37 _) ?_)
            | (refine wpList_store_mid rfl 37 (.tmp 2) (.tmp 68) rfl (w.heap.size + 1) 0 (stA bs 64) rfl rfl (there64 HRS.out) (info37 _) (one64 _) ?_))
          have hfin := finish64 H64.out
          exact bodyPost_ret (v := .agg (stA bs 64)) (results_cell_row Try.results15 _ _ (w.heap.size + 1) 37 (stA bs 64) (0, 0) _ rfl hfin.1 Try.underlying37 rfl (info37 _)) rfl ⟨rfl, hfin.2⟩
end Go.Proofs.Ytinagikfemdmbaa
