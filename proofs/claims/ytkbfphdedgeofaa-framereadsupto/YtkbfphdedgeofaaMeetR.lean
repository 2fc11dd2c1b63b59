import Derived.Test.YtkbfphdedgeofaaMeet
import Derived.ChangeKeysEq
namespace Go.Proofs.Ytkbfphdedgeofaa
open Go.RowKit
theorem sok0 (l : List UInt8) : sok l 0 = true ↔ ∀ j, j < l.length → j < 20 → byt l j = byt sgn j := by
  have hs : sgn.length = 20 := rfl
  unfold sok
  rw [beq_iff_eq, Nat.sub_zero, List.drop_zero]
  constructor
  · intro h j h1 h2
    have := congrArg (fun x => x[j]?) h
    simp only [List.getElem?_take_of_lt h2, List.getElem?_take_of_lt h1] at this
    unfold byt
    rw [List.getD_eq_getElem?_getD, List.getD_eq_getElem?_getD, this]
  · intro h
    apply List.ext_getElem
    · rw [List.length_take, List.length_take, hs, Nat.min_comm]
    · intro j h1 h2
      rw [List.length_take] at h1 h2
      have := h j (by omega) (by omega)
      rw [getD_byt l j (by omega), getD_byt sgn j (by omega)] at this
      simpa using this
theorem setCell_bc {w : World} {G : Nat} {d : List UInt8} {t : TypeId} (hg : w.heap[G]? = some (.cells (bc d) t (0, 0))) (i : Nat) (x : UInt8) : w.setCell ⟨G, i, none⟩ (.int .u8 (x.toNat : Int)) = w.setRow G (bc (d.set i x)) := by
  rw [setCell_eq_setRow w G i (bc d) t (0, 0) _ hg]
  congr 1
  apply Array.ext'
  rw [Array.toList_setIfInBounds, bc_list, bc_list]
  simp [Lib.byteCells, List.map_set]
theorem byt_set (l : List UInt8) (q k : Nat) (c : UInt8) (hq : q < l.length) : byt (l.set q c) k = if k = q then c else byt l k := by
  unfold byt
  simp only [List.getD_eq_getElem?_getD, List.getElem?_set]
  by_cases h : q = k
  · subst h; simp [hq]
  · rw [if_neg h, if_neg (fun h' => h h'.symm)]
theorem byt_ext {a b : List UInt8} (h : a.length = b.length) (hb : ∀ i, i < a.length → byt a i = byt b i) : a = b := by
  apply List.ext_getElem h
  intro i h1 h2
  have := hb i h1
  rwa [getD_byt a i h1, getD_byt b i h2] at this
theorem byt_hel (l : List UInt8) (i : Nat) (hi : i < 48) : byt (hel l) i = byt l (20 + i) := by
  unfold hel; rw [byt_take _ _ _ hi, byt_drop]
/-- the result's box and the box that is filled -/
def MB (w wr : World) (d : List UInt8) : Prop := d.length = 48 ∧ wr.heap[w.heap.size + 1]? = some (.cells (bc d) 25 (0, 0)) ∧ wr.heap[w.heap.size]? = some (.cells (bc (zr 48)) 25 (0, 0)) ∧ Below w.heap.size w wr
theorem MB.set {w wr : World} {d : List UInt8} (h : MB w wr d) (i : Nat) (x : UInt8) : MB w (wr.setCell ⟨w.heap.size + 1, i, none⟩ (.int .u8 (x.toNat : Int))) (d.set i x) := by
  rw [setCell_bc h.2.1 i x]
  exact ⟨by simpa using h.1, heapSetRow _ _ _ _ _ h.2.1, by rw [setRow_other _ _ _ _ (by omega)]; exact h.2.2.1, belowSetRow h.2.2.2 (by omega) _⟩
theorem MB.drew {w wr : World} {d : List UInt8} (h : MB w wr d) (n : Nat) : MB w (wr.drewN n) d := ⟨h.1, h.2.1, h.2.2.1, belowN h.2.2.2 n⟩
theorem MB.cell {w wr : World} {d : List UInt8} (h : MB w wr d) (i : Nat) (hi : i < 48) : wr.cell? ⟨w.heap.size + 1, i, none⟩ = some (.int .u8 ((byt d i).toNat : Int)) := cell_bc h.2.1 i (by rw [h.1]; exact hi)
theorem MB.frozen {w wr : World} {d : List UInt8} (h : MB w wr d) (i : Nat) : wr.frozen? ⟨w.heap.size + 1, i, none⟩ = false := by simp [World.frozen?, h.2.1]
set_option maxHeartbeats 2000000 in
set_option maxRecDepth 100000 in
theorem meetR (v : Value) (l : List UInt8) (hl : l.length ≤ 140737488351232) (w : World) (hr : RB w v l) :
    Calls Try.prog 32 #[v] w fun e w' => e = .returned (.tuple #[.agg (bc (mtH l)), .int .i64 (mtE l)]) ∧ Below w.heap.size w w' := by
  have M0 : MB w ((w.alloc (.cells (bc (zr 48)) 25)).alloc (.cells (bc (zr 48)) 25)) (zr 48) := by
    refine ⟨zr_len 48, ?_, by rw [heapOld _ _ _ (by simp), heapNew], ((Below.refl _ _).alloc (Nat.le_refl _) _).alloc (by simp) _⟩
    have := heapNew (w.alloc (.cells (bc (zr 48)) 25)) (.cells (bc (zr 48)) 25)
    simpa using this
  have HR : Hid (RB w v l) := hr
  obtain ⟨a, c, rfl, hlc, hr⟩ := hr
  have HC : Hid (∀ k, k < l.length → ∃ b o, a = some ⟨b, o, none⟩ ∧ b < w.heap.size ∧ ∀ wr, Below w.heap.size w wr → wr.cell? ⟨b, o + k, none⟩ = some (.int .u8 ((byt l k).toNat : Int))) := by
    intro k hk
    rcases hr with rfl | ⟨b, o, rfl, hb, hc⟩
    · simp at hk
    · exact ⟨b, o, rfl, hb, fun wr hw => (hw.cell (p := ⟨b, o + k, none⟩) hb).trans (hc k hk)⟩
  clear hr
  generalize hP : mtE l = mE at *
  generalize hP2 : mtH l = mH at *
  have HP : Hid (mtE l = mE ∧ mtH l = mH) := ⟨hP, hP2⟩
  clear hP hP2
  have I48 : Hid (∀ d : List UInt8, d.length = 48 → (Try.prog.info? 25).map (·.size) = some (bc d).size ∧ (bc (zr 48)).size = (bc d).size ∧ (bc d).all (·.oneCell') = true) := fun d hd => ⟨info_hello hd, by rw [bc_size, bc_size, hd, zr_len], bc_one d⟩
  -- the three ways out
  have FIN : Hid (∀ (wr : World) (d : List UInt8), MB w wr d → d = mH → mH.length = 48 ∧ Below w.heap.size w (wr.setRow w.heap.size (bc d)) ∧ (wr.setRow w.heap.size (bc d)).heap[w.heap.size]? = some (.cells (bc mH) 25 (0, 0))) := fun wr d h e => by
    subst e
    exact ⟨h.1, belowSetRow h.2.2.2 (Nat.le_refl _) _, heapSetRow _ _ _ _ _ h.2.2.1⟩
  go_enter Try.func32, Try.ntmps32
  go_wp2
  rw [z48]
  generalize hW0 : (w.alloc (.cells (bc (zr 48)) 25)).alloc (.cells (bc (zr 48)) 25) = w0 at *
  have H0 : Hid (MB w w0 (zr 48)) := M0
  clear M0 hW0
  go_loopw [5] (fun t wr => ∃ k : Nat, k ≤ l.length ∧ k ≤ 20 ∧ t = .int .i64 k ∧ Hid (MB w wr (zr 48)) ∧ ∀ j, j < k → byt l j = byt sgn j) (fun t _ => 20 - (intOf t).toNat)
  case atStart => exact ⟨0, Nat.zero_le _, Nat.zero_le _, rfl, H0, fun j h => absurd h (by omega)⟩
  case round =>
    obtain ⟨k, hk1, hk2, rfl, HW, hb⟩ := hrel
    clear H0
    have HB : Hid (∀ j, j < k → byt l j = byt sgn j) := hb
    clear hb
    by_cases hlt : k < l.length ∧ k < 20
    · obtain ⟨h1, h2⟩ := hlt
      obtain ⟨b, o, rfl, hb, hcc⟩ := HC.out k h1
      have hck := hcc wr HW.out.2.2.2
      have HS : Hid (∀ u, Calls Try.prog 34 #[.int .i64 k] u fun e w' => e = .returned (.int .u8 ((byt sgn k).toNat : Int)) ∧ w' = u) := fun u => (sign k h2 u).mono fun e w' h => ⟨h.1, h.2.symm⟩
      clear hcc
      by_cases heq : byt l k = byt sgn k
      · have hne : (((byt l k).toNat : Int) != ((byt sgn k).toNat : Int)) = false := by rw [heq]; simp
        have HEQ : Hid (byt l k = byt sgn k) := heq
        clear heq
        generalize ((byt l k).toNat : Int) = x at *
        generalize ((byt sgn k).toNat : Int) = y at *
        go_wp2
        go_quiet ((go_at_call 34; exact Calls.quiet_of_same (HS.out _)))
        go_wp2
        go_roundw
        case rel => exact ⟨k + 1, by omega, by omega, by go_num, HW.out.drew _, fun j hj => by
          by_cases h : j = k
          · rw [h]; exact HEQ.out
          · exact HB.out j (by omega)⟩
        case measure => simp [intOf]; omega
      · have hne : (((byt l k).toNat : Int) != ((byt sgn k).toNat : Int)) = true := by
          rw [bne_iff_ne]
          intro h
          exact heq (UInt8.toNat_inj.1 (by omega))
        have hso : sok l 0 = false := by
          rw [← Bool.not_eq_true, sok0]
          exact fun h => heq (h k h1 h2)
        obtain ⟨e1, e2⟩ := mt_no hso
        have e3 : mE = 100 := HP.out.1.symm.trans e1
        have HM : Hid (zr 48 = mH) := e2.symm.trans HP.out.2
        have MW : Hid (∀ n, MB w (wr.drewN n) (zr 48)) := fun n => HW.out.drew n
        clear heq hso e1 e2 HB
        generalize ((byt l k).toNat : Int) = x at *
        generalize ((byt sgn k).toNat : Int) = y at *
        obtain ⟨q1, q2, q3⟩ := I48.out (zr 48) (zr_len 48)
        have hgL := fun n => (MW.out n).2.1
        have hgR := fun n => (MW.out n).2.2.1
        go_wp2
        go_quiet ((go_at_call 34; exact Calls.quiet_of_same (HS.out _)))
        go_wp2_with (first | (refine wpList_load_row rfl 25 _ rfl (w.heap.size + 1) rfl 25 (bc (zr 48)) (0, 0) _ (by first | exact hgL _ | exact HW.out.2.1) Try.underlying25 rfl q1 ?_) | (refine wpList_store_row rfl 25 _ _ rfl w.heap.size (bc (zr 48)) rfl rfl 25 (bc (zr 48)) (by first | exact hgR _ | exact HW.out.2.2.1) q1 rfl q3 ?_))
        subst e3
        obtain ⟨f1, f2, f3⟩ := FIN.out (wr.drewN _) (zr 48) (MW.out _) HM.out
        exact bodyPost_ret (results_hello2 Try.results32 _ _ w.heap.size mH rfl f3 f1) rfl ⟨rfl, f2⟩
    · have hso : sok l 0 = true := (sok0 l).2 fun j h1 h2 => HB.out j (by omega)
      by_cases h68 : l.length < 68
      · obtain ⟨e1, e2⟩ := mt_few hso h68
        have e3 : mE = 101 := HP.out.1.symm.trans e1
        have HM : Hid (zr 48 = mH) := e2.symm.trans HP.out.2
        obtain ⟨q1, q2, q3⟩ := I48.out (zr 48) (zr_len 48)
        clear hso e1 e2 HB
        have hd : (decide ((k : Int) < (l.length : Int)) && decide ((k : Int) < 20)) = false := by
          rw [Bool.and_eq_false_iff]; simp; omega
        by_cases hkl : k < l.length
        · have hk20 : ¬ k < 20 := fun h => hlt ⟨hkl, h⟩
          clear hlt hd
          go_wp2_with (first | (refine wpList_load_row rfl 25 _ rfl (w.heap.size + 1) rfl 25 (bc (zr 48)) (0, 0) _ HW.out.2.1 Try.underlying25 rfl q1 ?_) | (refine wpList_store_row rfl 25 _ _ rfl w.heap.size (bc (zr 48)) rfl rfl 25 (bc (zr 48)) HW.out.2.2.1 q1 rfl q3 ?_))
          subst e3
          obtain ⟨f1, f2, f3⟩ := FIN.out wr (zr 48) HW.out HM.out
          exact bodyPost_ret (results_hello2 Try.results32 _ _ w.heap.size mH rfl f3 f1) rfl ⟨rfl, f2⟩
        · clear hlt hd
          go_wp2_with (first | (refine wpList_load_row rfl 25 _ rfl (w.heap.size + 1) rfl 25 (bc (zr 48)) (0, 0) _ HW.out.2.1 Try.underlying25 rfl q1 ?_) | (refine wpList_store_row rfl 25 _ _ rfl w.heap.size (bc (zr 48)) rfl rfl 25 (bc (zr 48)) HW.out.2.2.1 q1 rfl q3 ?_))
          subst e3
          obtain ⟨f1, f2, f3⟩ := FIN.out wr (zr 48) HW.out HM.out
          exact bodyPost_ret (results_hello2 Try.results32 _ _ w.heap.size mH rfl f3 f1) rfl ⟨rfl, f2⟩
      · have h68' : 68 ≤ l.length := by omega
        obtain ⟨e1, e2⟩ := mt_yes hso h68'
        have e3 : mE = 0 := HP.out.1.symm.trans e1
        have HM : Hid (hel l = mH) := e2.symm.trans HP.out.2
        have hk20 : ¬ k < 20 := fun h => hlt ⟨by omega, h⟩
        have hkl : k < l.length := by omega
        subst e3
        clear hso e1 e2 HB hlt
        go_wp2
        go_loopw [6] (fun t wr => ∃ (k : Nat) (d : List UInt8), k ≤ 8 ∧ t = .int .i64 k ∧ Hid (MB w wr d ∧ ∀ j, j < k → byt d j = byt l (20 + j))) (fun t _ => 8 - (intOf t).toNat)
        case atStart => exact ⟨0, zr 48, Nat.zero_le _, rfl, HW.out, fun j h => absurd h (by omega)⟩
        case round =>
          clear HW
          obtain ⟨k2, d, hk8, rfl, HD⟩ := hrel
          by_cases hlt : k2 < 8
          · obtain ⟨b, o, rfl, hb, hcc⟩ := HC.out (20 + k2) (by omega)
            have hck := hcc wr HD.out.1.2.2.2
            have hold := HD.out.1.cell k2 (by omega)
            have hfr := HD.out.1.frozen k2
            have HN : Hid (MB w (wr.setCell ⟨w.heap.size + 1, k2, none⟩ (.int .u8 ((byt l (20 + k2)).toNat : Int))) (d.set k2 (byt l (20 + k2))) ∧ ∀ j, j < k2 + 1 → byt (d.set k2 (byt l (20 + k2))) j = byt l (20 + j)) := ⟨HD.out.1.set k2 _, fun j hj => by
              rw [byt_set _ _ _ _ (by rw [HD.out.1.1]; omega)]
              split
              · rename_i h; rw [h]
              · exact HD.out.2 j (by omega)⟩
            clear hcc HD
            generalize ((byt l (20 + k2)).toNat : Int) = x at *
            generalize ((byt d k2).toNat : Int) = y at *
            go_wp2
            go_roundw
            case rel => exact ⟨k2 + 1, _, by omega, by go_num, HN⟩
            case measure => simp [intOf]; omega
          · obtain rfl : k2 = 8 := by omega
            go_wp2
            go_loopw [7] (fun t wr => ∃ (k : Nat) (d : List UInt8), k ≤ 20 ∧ t = .int .i64 k ∧ Hid (MB w wr d ∧ (∀ j, j < 8 + k → byt d j = byt l (20 + j)) ∧ ∀ j, 28 ≤ j → j < 28 + k → byt d j = byt l (20 + j))) (fun t _ => 20 - (intOf t).toNat)
            case atStart => exact ⟨0, d, Nat.zero_le _, rfl, HD.out.1, fun j h => HD.out.2 j (by omega), fun j h1 h2 => absurd h1 (by omega)⟩
            case round =>
              clear HD
              obtain ⟨k3, d, hk20', rfl, HD⟩ := hrel
              by_cases hlt : k3 < 20
              · obtain ⟨b, o, rfl, hb, hcc⟩ := HC.out (28 + k3) (by omega)
                obtain ⟨b', o', he, _, hcc'⟩ := HC.out (48 + k3) (by omega)
                simp only [Option.some.injEq, Addr.mk.injEq, and_true] at he
                obtain ⟨rfl, rfl⟩ := he
                have hck := hcc wr HD.out.1.2.2.2
                have hold := HD.out.1.cell (8 + k3) (by omega)
                have hfr := HD.out.1.frozen (8 + k3)
                have M1 := HD.out.1.set (8 + k3) (byt l (28 + k3))
                have hck2 := hcc' _ M1.2.2.2
                have hold2 := M1.cell (28 + k3) (by omega)
                have hfr2 := M1.frozen (28 + k3)
                have HN : Hid (MB w ((wr.setCell ⟨w.heap.size + 1, 8 + k3, none⟩ (.int .u8 ((byt l (28 + k3)).toNat : Int))).setCell ⟨w.heap.size + 1, 28 + k3, none⟩ (.int .u8 ((byt l (48 + k3)).toNat : Int))) ((d.set (8 + k3) (byt l (28 + k3))).set (28 + k3) (byt l (48 + k3))) ∧ (∀ j, j < 8 + (k3 + 1) → byt ((d.set (8 + k3) (byt l (28 + k3))).set (28 + k3) (byt l (48 + k3))) j = byt l (20 + j)) ∧ ∀ j, 28 ≤ j → j < 28 + (k3 + 1) → byt ((d.set (8 + k3) (byt l (28 + k3))).set (28 + k3) (byt l (48 + k3))) j = byt l (20 + j)) := by
                  refine ⟨M1.set (28 + k3) _, fun j hj => ?_, fun j h1 h2 => ?_⟩
                  · rw [byt_set _ _ _ _ (by rw [M1.1]; omega), if_neg (by omega), byt_set _ _ _ _ (by rw [HD.out.1.1]; omega)]
                    split
                    · rename_i h; rw [h]; congr 1; omega
                    · exact HD.out.2.1 j (by omega)
                  · rw [byt_set _ _ _ _ (by rw [M1.1]; omega)]
                    split
                    · rename_i h; rw [h]; congr 1; omega
                    · rw [byt_set _ _ _ _ (by rw [HD.out.1.1]; omega), if_neg (by omega)]
                      exact HD.out.2.2 j h1 (by omega)
                clear hcc hcc' HD M1
                generalize ((byt l (28 + k3)).toNat : Int) = x at *
                generalize ((byt l (48 + k3)).toNat : Int) = x2 at *
                generalize ((byt d (8 + k3)).toNat : Int) = y at *
                generalize ((byt (d.set (8 + k3) (byt l (28 + k3))) (28 + k3)).toNat : Int) = y2 at *
                go_wp2
                go_roundw
                case rel => exact ⟨k3 + 1, _, by omega, by go_num, HN⟩
                case measure => simp [intOf]; omega
              · obtain rfl : k3 = 20 := by omega
                have hd : d = hel l := byt_ext (by rw [HD.out.1.1, hel_len l h68']) (fun i hi => by
                  rw [HD.out.1.1] at hi
                  rw [byt_hel l i hi]
                  by_cases h : i < 28
                  · exact HD.out.2.1 i (by omega)
                  · exact HD.out.2.2 i (by omega) (by omega))
                obtain ⟨q1, q2, q3⟩ := I48.out d HD.out.1.1
                have HDM : Hid (d = mH) := hd.trans HM.out
                clear hd
                go_wp2_with (first | (refine wpList_load_row rfl 25 _ rfl (w.heap.size + 1) rfl 25 (bc d) (0, 0) _ HD.out.1.2.1 Try.underlying25 rfl q1 ?_) | (refine wpList_store_row rfl 25 _ _ rfl w.heap.size (bc d) rfl rfl 25 (bc (zr 48)) HD.out.1.2.2.1 q1 q2 q3 ?_))
                obtain ⟨f1, f2, f3⟩ := FIN.out wr d HD.out.1 HDM.out
                exact bodyPost_ret (results_hello2 Try.results32 _ _ w.heap.size mH rfl f3 f1) rfl ⟨rfl, f2⟩
end Go.Proofs.Ytkbfphdedgeofaa
