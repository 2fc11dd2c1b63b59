import Derived.Test.YtinagikfemdmbaaExpand
namespace Go.Proofs.Ytinagikfemdmbaa
open Go.RowKit
theorem wrap_mod (z : Int) : IntKind.u32.wrap z = z % 4294967296 := by
  simp only [IntKind.wrap, IntKind.bits, IntKind.signed, Bool.false_and, Bool.false_eq_true, if_false]
  omega
theorem sumA_eq {b0 b1 b2 b3 : Int} (h0 : 0 ≤ b0) (h0' : b0 ≤ 255) (h1 : 0 ≤ b1) (h1' : b1 ≤ 255) (h2 : 0 ≤ b2) (h2' : b2 ≤ 255) (h3 : 0 ≤ b3) (h3' : b3 ≤ 255) :
    (((b0 % 4294967296 * 16777216 % 4294967296 + b1 % 4294967296 * 65536 % 4294967296) % 4294967296 + b2 % 4294967296 * 256 % 4294967296) % 4294967296 + b3 % 4294967296) % 4294967296 = w4 b0 b1 b2 b3 := by
  unfold w4
  rw [Int.emod_eq_of_lt h0 (by omega), Int.emod_eq_of_lt h1 (by omega), Int.emod_eq_of_lt h2 (by omega), Int.emod_eq_of_lt h3 (by omega)]
  omega
set_option maxRecDepth 100000 in
set_option maxHeartbeats 4000000 in
theorem expand16 (bs : List Int) (hl : bs.length = 64) (hb : ∀ x ∈ bs, 0 ≤ x ∧ x ≤ 255) (w : World) :
    Calls Try.prog 16 #[.agg (bsA bs)] w fun e w' => e = .returned (.agg (stA bs 64)) ∧ Below w.heap.size w w' := by
  have HB : Hid (∀ x ∈ bs, 0 ≤ x ∧ x ≤ 255) := hb
  have HL : Hid (bs.length = 64) := hl
  clear hb hl
  go_enter Try.func16, Try.ntmps16
  go_wp2
  go_loopw [4] (fun t wr => ∃ k : Nat, k ≤ 64 ∧ t = .int .i64 k ∧ XInv bs w wr k) (fun t _ => 64 - (intOf t).toNat)
  case atStart => exact ⟨0, Nat.zero_le _, rfl, XInv.start rfl⟩
  case round =>
    obtain ⟨k, hk, rfl, hinv⟩ := hrel
    by_cases hlt : k < 64
    · by_cases hlo : k < 16
      · have hk1 : (0 : Int) ≤ (k : Int) := by omega
        have hk3 : (k : Int) < 64 := by omega
        have z0 : (0 : Int) ≤ 4 * (k : Int) := by omega
        have z1 : (0 : Int) ≤ 4 * (k : Int) + 1 := by omega
        have z2 : (0 : Int) ≤ 4 * (k : Int) + 2 := by omega
        have z3 : (0 : Int) ≤ 4 * (k : Int) + 3 := by omega
        have v0 : IntKind.i64.wrap (4 * (k : Int)) = 4 * (k : Int) := by rw [IntKind.wrap_i64]; omega
        have v1 : IntKind.i64.wrap (4 * (k : Int) + 1) = 4 * (k : Int) + 1 := by rw [IntKind.wrap_i64]; omega
        have v2 : IntKind.i64.wrap (4 * (k : Int) + 2) = 4 * (k : Int) + 2 := by rw [IntKind.wrap_i64]; omega
        have v3 : IntKind.i64.wrap (4 * (k : Int) + 3) = 4 * (k : Int) + 3 := by rw [IntKind.wrap_i64]; omega
        have t0 : (4 * (k : Int)).toNat = 4 * k := by omega
        have t1 : (4 * (k : Int) + 1).toNat = 4 * k + 1 := by omega
        have t2 : (4 * (k : Int) + 2).toNat = 4 * k + 2 := by omega
        have t3 : (4 * (k : Int) + 3).toNat = 4 * k + 3 := by omega
        have a0 : (4 * (k : Int)) < 64 := by omega
        have a1 : (4 * (k : Int)) + 1 < 64 := by omega
        have a2 : (4 * (k : Int)) + 2 < 64 := by omega
        have a3 : (4 * (k : Int)) + 3 < 64 := by omega
        have h0 := hinv.byte (4 * k) (by have := HL.out; omega)
        have h1 := hinv.byte (4 * k + 1) (by have := HL.out; omega)
        have h2 := hinv.byte (4 * k + 2) (by have := HL.out; omega)
        have h3 := hinv.byte (4 * k + 3) (by have := HL.out; omega)
        have ho := hinv.word k (by omega)
        have hf := hinv.free k
        have HS : Hid (∀ u : Int, u = w4 (bs.getD (4 * k) 0) (bs.getD (4 * k + 1) 0) (bs.getD (4 * k + 2) 0) (bs.getD (4 * k + 3) 0) → XInv bs w (wr.setCell ⟨w.heap.size + 1 + 1, k, none⟩ (.int .u32 u)) (k + 1)) := by
          intro u hu
          subst hu
          exact hinv.set (stA_lo bs k hlo)
        have c0 := byte_bd HB.out (4 * k)
        have c1 := byte_bd HB.out (4 * k + 1)
        have c2 := byte_bd HB.out (4 * k + 2)
        have c3 := byte_bd HB.out (4 * k + 3)
        clear hinv
        generalize bs.getD (4 * k) 0 = b0 at *
        generalize bs.getD (4 * k + 1) 0 = b1 at *
        generalize bs.getD (4 * k + 2) 0 = b2 at *
        generalize bs.getD (4 * k + 3) 0 = b3 at *
        generalize (st bs k).getD k 0 = o at *
        have C0 : Hid (0 ≤ b0 ∧ b0 ≤ 255) := c0
        have C1 : Hid (0 ≤ b1 ∧ b1 ≤ 255) := c1
        have C2 : Hid (0 ≤ b2 ∧ b2 ≤ 255) := c2
        have C3 : Hid (0 ≤ b3 ∧ b3 ≤ 255) := c3
        clear c0 c1 c2 c3
        go_wp2
        go_region_held3 (fun w' => w'.cell? ⟨w.heap.size, 4 * k, none⟩ = some (.int .u8 b0) ∧ w'.cell? ⟨w.heap.size, 4 * k + 1, none⟩ = some (.int .u8 b1) ∧ w'.cell? ⟨w.heap.size, 4 * k + 2, none⟩ = some (.int .u8 b2) ∧ w'.cell? ⟨w.heap.size, 4 * k + 3, none⟩ = some (.int .u8 b3)) (first | (exact ⟨h0, h1, h2, h3⟩) | (exact ⟨keep_oldD h0, keep_oldD h1, keep_oldD h2, keep_oldD h3⟩)) (fail)
        clear h0 h1 h2 h3 ho hf v0 v1 v2 v3 t0 t1 t2 t3 z0 z1 z2 z3 a0 a1 a2 a3
        go_wp2
        go_roundw
        case rel => exact ⟨k + 1, by omega, by go_num, (HS.out _ (sumA_eq C0.out.1 C0.out.2 C1.out.1 C1.out.2 C2.out.1 C2.out.2 C3.out.1 C3.out.2)).drewN 1⟩
        case measure => simp [intOf]; omega
      · have hk1 : (0 : Int) ≤ (k : Int) := by omega
        have hk3 : (k : Int) < 64 := by omega
        have hge : (16 : Int) ≤ (k : Int) := by omega
        obtain ⟨p2, e2⟩ : ∃ p, p = k - 2 := ⟨_, rfl⟩
        obtain ⟨p7, e7⟩ : ∃ p, p = k - 7 := ⟨_, rfl⟩
        obtain ⟨p15, e15⟩ : ∃ p, p = k - 15 := ⟨_, rfl⟩
        obtain ⟨p16, e16⟩ : ∃ p, p = k - 16 := ⟨_, rfl⟩
        have q2 : (k : Int) - 2 = (p2 : Int) := by omega
        have v2 : IntKind.i64.wrap (p2 : Int) = (p2 : Int) := by rw [IntKind.wrap_i64]; omega
        have z2 : (0 : Int) ≤ (p2 : Int) := by omega
        have a2 : (p2 : Int) < 64 := by omega
        have h2 := hinv.word p2 (by omega)
        have n2 : k ≠ p2 := by omega
        have q7 : (k : Int) - 7 = (p7 : Int) := by omega
        have v7 : IntKind.i64.wrap (p7 : Int) = (p7 : Int) := by rw [IntKind.wrap_i64]; omega
        have z7 : (0 : Int) ≤ (p7 : Int) := by omega
        have a7 : (p7 : Int) < 64 := by omega
        have h7 := hinv.word p7 (by omega)
        have n7 : k ≠ p7 := by omega
        have q15 : (k : Int) - 15 = (p15 : Int) := by omega
        have v15 : IntKind.i64.wrap (p15 : Int) = (p15 : Int) := by rw [IntKind.wrap_i64]; omega
        have z15 : (0 : Int) ≤ (p15 : Int) := by omega
        have a15 : (p15 : Int) < 64 := by omega
        have h15 := hinv.word p15 (by omega)
        have n15 : k ≠ p15 := by omega
        have q16 : (k : Int) - 16 = (p16 : Int) := by omega
        have v16 : IntKind.i64.wrap (p16 : Int) = (p16 : Int) := by rw [IntKind.wrap_i64]; omega
        have z16 : (0 : Int) ≤ (p16 : Int) := by omega
        have a16 : (p16 : Int) < 64 := by omega
        have h16 := hinv.word p16 (by omega)
        have n16 : k ≠ p16 := by omega
        have ho := hinv.word k (by omega)
        have hf := hinv.free k
        have HS : Hid (∀ (m : Nat) (u : Value), u = .int .u32 (nextW ((st bs k).getD p2 0) ((st bs k).getD p7 0) ((st bs k).getD p15 0) ((st bs k).getD p16 0)) → XInv bs w ((wr.drewN m).setCell ⟨w.heap.size + 1 + 1, k, none⟩ u) (k + 1)) := by
          intro m u hu
          subst hu
          rw [e2, e7, e15, e16]
          exact (hinv.drewN m).set (stA_hi bs k (by omega))
        have c2 := st_bd HB.out k p2
        have c15 := st_bd HB.out k p15
        clear hinv e2 e7 e15 e16
        generalize (st bs k).getD p2 0 = x2 at *
        generalize (st bs k).getD p7 0 = x7 at *
        generalize (st bs k).getD p15 0 = x15 at *
        generalize (st bs k).getD p16 0 = x16 at *
        generalize (st bs k).getD k 0 = o at *
        have C2 : Hid (0 ≤ x2 ∧ x2 ≤ 4294967295) := c2
        have C15 : Hid (0 ≤ x15 ∧ x15 ≤ 4294967295) := c15
        clear c2 c15
        go_wp2_with fail
        refine (right27_7 x15 _ C15.out.1 C15.out.2).mono ?_
        rintro e wa ⟨rfl, ma, rfl⟩
        go_wp2_with fail
        refine (right27_18 x15 _ C15.out.1 C15.out.2).mono ?_
        rintro e wb ⟨rfl, mb, rfl⟩
        go_wp2_with fail
        refine (right27_17 x2 _ C2.out.1 C2.out.2).mono ?_
        rintro e wc ⟨rfl, mc, rfl⟩
        go_wp2_with fail
        refine (right27_19 x2 _ C2.out.1 C2.out.2).mono ?_
        rintro e wd ⟨rfl, md, rfl⟩
        go_wp2
        have HT : Hid (∀ u : Value, u = .int .u32 (nextW x2 x7 x15 x16) → XInv bs w ((wr.drewN (ma + mb + mc + md)).setCell ⟨w.heap.size + 1 + 1, k, none⟩ u) (k + 1)) := HS.out (ma + mb + mc + md)
        have g7 : (wr.drewN (ma + mb + mc + md)).cell? ⟨w.heap.size + 1 + 1, p7, none⟩ = some (.int .u32 x7) := h7
        have g16 : (wr.drewN (ma + mb + mc + md)).cell? ⟨w.heap.size + 1 + 1, p16, none⟩ = some (.int .u32 x16) := h16
        have go : (wr.drewN (ma + mb + mc + md)).cell? ⟨w.heap.size + 1 + 1, k, none⟩ = some (.int .u32 o) := ho
        have gf : (wr.drewN (ma + mb + mc + md)).frozen? ⟨w.heap.size + 1 + 1, k, none⟩ = false := hf
        clear HS h2 h7 h15 h16 ho hf C2 C15
        generalize wr.drewN (ma + mb + mc + md) = W at *
        have E0 : bits .xor .u32 (bits .xor .u32 (rr7 x15) (rr18 x15)) (x15 / 8) = sm0 x15 := rfl
        have E1 : bits .xor .u32 (bits .xor .u32 (rr17 x2) (rr19 x2)) (x2 / 1024) = sm1 x2 := rfl
        rw [E0, E1]
        clear E0 E1
        have HT' : Hid (∀ u : Value, u = .int .u32 (IntKind.u32.wrap (IntKind.u32.wrap (IntKind.u32.wrap (sm1 x2 + x7) + sm0 x15) + x16)) → XInv bs w (W.setCell ⟨w.heap.size + 1 + 1, k, none⟩ u) (k + 1)) := HT
        clear HT
        generalize sm0 x15 = s0 at *
        generalize sm1 x2 = s1 at *
        go_region_held3 (fun w' => w'.cell? ⟨w.heap.size + 1 + 1, p7, none⟩ = some (.int .u32 x7) ∧ w'.cell? ⟨w.heap.size + 1 + 1, p16, none⟩ = some (.int .u32 x16)) (first | (exact ⟨g7, g16⟩) | (exact ⟨keep_offD n7 g7, keep_offD n16 g16⟩)) (fail)
        clear g7 g16 go gf q2 q7 q15 q16 v2 v7 v15 v16
        go_wp2
        go_roundw
        case rel => exact ⟨k + 1, by omega, by go_num, (HT'.out _ (by rw [wrap_mod, wrap_mod, wrap_mod])).drewN 1⟩
        case measure => simp [intOf]; omega
    · have h64 : k = 64 := by omega
      have H64 : Hid (XInv bs w wr 64) := h64 ▸ hinv
      clear h64 hinv
      have hwd : wr.heap[w.heap.size + 1 + 1]? = some (.cells (stA bs 64) 37 (0, 0)) := H64.out.wds
      have hrs : wr.heap[w.heap.size + 1]? = some (.cells (stA bs 0) 37 (0, 0)) := H64.out.res
      have HW : Hid (wr.heap[w.heap.size + 1 + 1]? = some (.cells (stA bs 64) 37 (0, 0))) := hwd
      have HRS : Hid (wr.heap[w.heap.size + 1]? = some (.cells (stA bs 0) 37 (0, 0))) := hrs
      clear hwd hrs
      go_wp2_with (first
        | (refine wpList_load_row rfl 37 (.tmp 3) rfl (w.heap.size + 1 + 1) rfl 37 (stA bs 64) (0, 0) _ HW.out Try.underlying37 rfl (info37 _) ?_)
        | (refine wpList_store_mid rfl 37 (.tmp 2) (.tmp 85) rfl (w.heap.size + 1) 0 (stA bs 64) rfl rfl (there64 HRS.out) (info37 _) (one64 _) ?_))
      have hfin := finish64 H64.out
      exact bodyPost_ret (v := .agg (stA bs 64)) (results_cell_row Try.results16 _ _ (w.heap.size + 1) 37 (stA bs 64) (0, 0) _ rfl hfin.1 Try.underlying37 rfl (info37 _)) rfl ⟨rfl, hfin.2⟩
end Go.Proofs.Ytinagikfemdmbaa
