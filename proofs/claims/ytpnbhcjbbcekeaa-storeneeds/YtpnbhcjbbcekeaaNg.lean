import Derived.Test.YtpnbhcjbbcekeaaNf
import Derived.Laws.CopyOwn
import Derived.BigQuiet
import Derived.Deep.QuietTactic
namespace Go.Proofs.Ytpnbhcjbbcekeaa
open Go.RowKit
theorem take_snoc {ps : List Pc} {k : Nat} {x : Pc} (hx : ps[k]? = some x) : ps.take (k + 1) = ps.take k ++ [x] := by rw [List.take_add_one, hx]; rfl
/-- a piece of zeros, as a variable begins -/
abbrev z35 : Array Value := #[.int .i64 0, .int .i64 0, .bool false, .int .u8 0, .int .u8 0, .int .u8 0, .int .u8 0, .int .u8 0, .int .u8 0, .int .u8 0, .int .u8 0, .int .u8 0, .int .u8 0, .int .u8 0, .int .u8 0, .int .u8 0, .int .u8 0, .int .u8 0, .int .u8 0, .int .u8 0, .int .u8 0, .int .u8 0, .int .u8 0, .int .u8 0, .int .u8 0, .int .u8 0, .int .u8 0, .int .u8 0, .int .u8 0, .int .u8 0, .int .u8 0, .int .u8 0, .int .u8 0, .int .u8 0, .int .u8 0]
theorem drB (w : World) (n : Nat) : Below w.heap.size w (w.drewN n) := ⟨rfl, rfl, rfl, Nat.le_refl _, fun _ _ => rfl⟩
theorem cellH {w : World} {g : Nat} {cs : Array Value} {t : TypeId} (h : w.heap[g]? = some (.cells cs t (0, 0))) {j : Nat} : w.cell? ⟨g, j, none⟩ = cs[j]? := by simp [World.cell?, h]
theorem Pc.ok.one {x : Pc} (h : x.ok) : x.ls.toArray.all (·.oneCell') = true := by
  unfold Pc.ls
  simp only [List.all_toArray, List.all_cons, Bool.and_eq_true, List.all_eq_true]
  exact ⟨rfl, rfl, h.2⟩
theorem z35_size : z35.size = 35 := rfl
set_option maxHeartbeats 1000000 in
theorem sectorsOf11 (b : Int) (hb : pw b = true) (s : Value) (ps : List Pc) (w : World) (hr : RP w s ps) (hl : ps.length ≤ 65536) (ha : allB b ps = true) :
    Calls Try.prog 11 #[s] w fun e w' => e = .returned (.int .i64 (smx ps)) ∧ Below w.heap.size w w' := by
  obtain ⟨a, c, rfl, _⟩ := id hr
  have HR : Hid (RP w (.slice a ps.length c) ps ∧ pw b = true ∧ allB b ps = true) := ⟨hr, hb, ha⟩
  clear hr hb ha
  generalize hln : ps.length = len at *
  have HN : Hid (ps.length = len) := hln
  clear hln
  go_enter Try.func11, Try.ntmps11
  go_wp2
  go_loopw [3, 8] (fun u t wr => ∃ n : Nat, n ≤ len ∧ t = .int .i64 n ∧ u = .int .i64 (smx (ps.take n)) ∧ Hid (Below w.heap.size w wr)) (fun _ t _ => len - (intOf t).toNat)
  case atStart => exact ⟨0, by omega, rfl, rfl, Below.refl _ _⟩
  case round =>
    obtain ⟨k, hk, rfl, rfl, HI⟩ := hrel
    by_cases hlt : k < len
    · have hl2 : k < ps.length := by rw [HN.out]; exact hlt
      have hx : ps[k]? = some ps[k] := List.getElem?_eq_getElem hl2
      generalize ps[k] = x at hx
      have hb1 := HI.out
      obtain ⟨g, o, rfl, hg, hrg, ok⟩ := (HR.out.1.keep hb1).at k x hx
      have hiL := info35 ok.len
      have hmb := mb_bd HR.out.2.1 (all_at HR.out.2.2 hx)
      have hsx := sx_bd hmb.1 hmb.2
      have hsm := smx_bd HR.out.2.1 _ (all_take HR.out.2.2 k)
      have hlk : ((ps.take k).length : Int) ≤ 65536 := by rw [List.length_take]; omega
      have HT : Hid (smx (ps.take (k + 1)) = smx (ps.take k) + sx x.l) := by unfold Hid; rw [take_snoc hx, smx_snoc]
      have hz2 := heapNew wr (.cells z35 34)
      have hone := ok.one
      have hs1 : z35.size = x.ls.toArray.size := by rw [z35_size, List.size_toArray, ok.len]
      have him : (Try.prog.info? 34).map (·.size) = some x.ls.toArray.size := info35a ok
      have hc : ((wr.alloc (.cells z35 34)).setRow wr.heap.size x.ls.toArray).heap[wr.heap.size]? = some (.cells x.ls.toArray 34 (0, 0)) := setRow_heap _ _ _ _ _ _ hz2
      have hc0 : ((wr.alloc (.cells z35 34)).setRow wr.heap.size x.ls.toArray).cell? ⟨wr.heap.size, 0, none⟩ = some (.int .i64 x.l) := by rw [cellH hc]; rfl
      have bX : Below wr.heap.size wr ((wr.alloc (.cells z35 34)).setRow wr.heap.size x.ls.toArray) := below_setRow ((Below.refl _ _).alloc (Nat.le_refl _) _) (Nat.le_refl _) _
      have HX : Hid (Below w.heap.size w ((wr.alloc (.cells z35 34)).setRow wr.heap.size x.ls.toArray)) := hb1.trans (bX.mono hb1.size)
      have HL := runs18 x.l hmb.1 hmb.2
      have hsum : (ps.take k).length * (262144 : Int) ≤ 65536 * 262144 := Int.mul_le_mul_of_nonneg_right hlk (by omega)
      clear hx ok HI bX hb1 hmb hlk hc
      generalize x.ls = L at *
      generalize x.l = xl at *
      generalize sx xl = xs at *
      generalize smx (ps.take k) = sk at *
      have hsk : 0 ≤ sk ∧ sk ≤ 17179869184 := ⟨hsm.1, by omega⟩
      clear hsm hsum
      go_wp2_with (first | (refine wpList_load_mid rfl 34 _ rfl g (o + k * 35) rfl _ _ hrg Try.underlying34 rfl hiL ?_) | (refine wpList_store_row rfl 34 _ _ rfl wr.heap.size L.toArray rfl rfl 34 z35 hz2 him hs1 hone ?_) | (go_at_call 18; refine (HL _).mono ?_; rintro e w' ⟨rfl, rfl⟩))
      refine ⟨⟨k + 1, by omega, by go_num, by rw [HT.out], HX.out⟩, by simp [intOf]; omega⟩
    · have HE : Hid (Below w.heap.size w wr) := HI.out
      have ht : ps.take k = ps := List.take_of_length_le (by have := HN.out; omega)
      rw [ht]
      clear HI ht
      go_wp2
      go_ret
      exact ⟨rfl, HE.out⟩
set_option maxHeartbeats 1000000 in
theorem ahead14 (b : Int) (hb : pw b = true) (s : Value) (ps : List Pc) (w : World) (hr : RP w s ps) (hl : ps.length ≤ 65536) (ha : allB b ps = true) :
    Calls Try.prog 14 #[s, .int .i64 ps.length] w fun e w' => e = .returned (.int .i64 (smx ps)) ∧ Below w.heap.size w w' := by
  obtain ⟨a, c, rfl, _⟩ := id hr
  have HR : Hid (RP w (.slice a ps.length c) ps ∧ pw b = true ∧ allB b ps = true) := ⟨hr, hb, ha⟩
  clear hr hb ha
  generalize hln : ps.length = len at *
  have HN : Hid (ps.length = len) := hln
  clear hln
  go_enter Try.func14, Try.ntmps14
  go_wp2
  go_loopw [5, 6] (fun u t wr => ∃ n : Nat, n ≤ len ∧ t = .int .i64 n ∧ u = .int .i64 (smx (ps.take n)) ∧ wr = w) (fun _ t _ => len - (intOf t).toNat)
  case atStart => exact ⟨0, by omega, rfl, rfl, rfl⟩
  case round =>
    obtain ⟨k, hk, rfl, rfl, rfl⟩ := hrel
    by_cases hlt : k < len
    · have hl2 : k < ps.length := by rw [HN.out]; exact hlt
      have hx : ps[k]? = some ps[k] := List.getElem?_eq_getElem hl2
      generalize ps[k] = x at hx
      obtain ⟨g, o, rfl, hg, hrg, ok⟩ := HR.out.1.at k x hx
      have hc0 := hrg 0 (.int .i64 x.l) rfl
      rw [Nat.add_zero] at hc0
      have hmb := mb_bd HR.out.2.1 (all_at HR.out.2.2 hx)
      have hsx := sx_bd hmb.1 hmb.2
      have hsm := smx_bd HR.out.2.1 _ (all_take HR.out.2.2 k)
      have hlk : ((ps.take k).length : Int) ≤ 65536 := by rw [List.length_take]; omega
      have HT : Hid (smx (ps.take (k + 1)) = smx (ps.take k) + sx x.l) := by unfold Hid; rw [take_snoc hx, smx_snoc]
      have HL := sect20 x.l hmb.1 hmb.2
      have hsum : (ps.take k).length * (262144 : Int) ≤ 65536 * 262144 := Int.mul_le_mul_of_nonneg_right hlk (by omega)
      clear hx ok hmb hlk hrg
      generalize x.l = xl at *
      generalize sx xl = xs at *
      generalize smx (ps.take k) = sk at *
      have hsk : 0 ≤ sk ∧ sk ≤ 17179869184 := ⟨hsm.1, by omega⟩
      clear hsm hsum
      go_wp2_with (first | (go_at_call 20; refine (HL _).mono ?_; rintro e w' ⟨rfl, rfl⟩))
      refine ⟨⟨k + 1, by omega, by go_num, by rw [HT.out], trivial⟩, by simp [intOf]; omega⟩
    · have ht : ps.take k = ps := List.take_of_length_le (by have := HN.out; omega)
      rw [ht]
      clear ht
      go_wp2
      go_ret
      exact ⟨rfl, Below.refl _ _⟩
set_option maxHeartbeats 1000000 in
theorem fits13 (b v : Int) (hb : pw b = true) (s : Value) (ps : List Pc) (w : World) (hr : RP w s ps) (hl : ps.length ≤ 65536) :
    Calls Try.prog 13 #[sc b v, s] w fun e w' => e = .returned (.bool (allB b ps)) ∧ Below w.heap.size w w' := by
  obtain ⟨a, c, rfl, _⟩ := id hr
  have HR : Hid (RP w (.slice a ps.length c) ps ∧ pw b = true) := ⟨hr, hb⟩
  clear hr hb
  obtain ⟨m, hm⟩ : ∃ m, allB b ps = m := ⟨_, rfl⟩
  have HM : Hid (allB b ps = m) := hm
  clear hm
  generalize hln : ps.length = len at *
  have HN : Hid (ps.length = len) := hln
  clear hln
  go_enter Try.func13, Try.ntmps13
  go_wp2
  have hbd := pw_bd HR.out.2
  have hB0 : (w.alloc (.cells #[.int .i64 b, .int .i64 v] 23)).cell? ⟨w.heap.size, 0, none⟩ = some (.int .i64 b) := by rw [cellH (heapNew _ _)]; rfl
  have HB : Hid (Below w.heap.size w (w.alloc (.cells #[.int .i64 b, .int .i64 v] 23))) := (Below.refl _ _).alloc (Nat.le_refl _) _
  generalize w.alloc (.cells #[.int .i64 b, .int .i64 v] 23) = w0 at *
  go_loopw [5] (fun t wr => ∃ n : Nat, n ≤ len ∧ t = .int .i64 n ∧ Hid (∃ nq, wr = w0.drewN nq) ∧ Hid (allB b (ps.take n) = true)) (fun t _ => len - (intOf t).toNat)
  case atStart => exact ⟨0, by omega, rfl, ⟨0, rfl⟩, rfl⟩
  case round =>
    obtain ⟨k, hk, rfl, HW, HA⟩ := hrel
    have HB2 : Hid (Below w.heap.size w wr) := by obtain ⟨nq, rfl⟩ := HW.out; exact HB.out.trans ((drB _ _).mono HB.out.size)
    have hB2 : wr.cell? ⟨w.heap.size, 0, none⟩ = some (.int .i64 b) := by obtain ⟨nq, rfl⟩ := HW.out; exact hB0
    by_cases hlt : k < len
    · have hl2 : k < ps.length := by rw [HN.out]; exact hlt
      have hx : ps[k]? = some ps[k] := List.getElem?_eq_getElem hl2
      generalize ps[k] = x at hx
      obtain ⟨g, o, rfl, hg, hrg, ok⟩ := (HR.out.1.keep HB2.out).at k x hx
      have hc0 := hrg 0 (.int .i64 x.l) rfl
      rw [Nat.add_zero] at hc0
      have hc1 := hrg 1 _ rfl
      have HF : Hid (mb b x = false → m = false) := fun h => by
        rw [← HM.out]
        unfold allB
        rw [List.all_eq_false]
        exact ⟨x, List.mem_of_getElem? hx, by rw [h]; simp⟩
      have HT : Hid (mb b x = true → allB b (ps.take (k + 1)) = true) := fun h => by
        have := HA.out
        unfold allB at this ⊢
        rw [take_snoc hx, List.all_append, this]
        simp [h]
      have HL := leaves19 x.v
      have hmbd : mb b x = (pl x.v && decide (1 ≤ x.l) && decide (x.l ≤ x.v * b)) := rfl
      cases hpl : pl x.v
      · have HZ : Hid (m = false) := HF.out (by rw [hmbd, hpl]; rfl)
        rw [hpl] at HL
        clear hpl hmbd HF HT hx ok hrg HA
        go_wp2_with (first | (go_at_call 19; refine (HL _).mono ?_; rintro e w' ⟨rfl, rfl⟩))
        go_quiet (fail)
        go_wp2
        go_ret
        exact ⟨ret_b (HZ.out.symm.trans HM.out.symm), by first | exact HB2.out | exact HB2.out.trans ((drB _ _).mono HB2.out.size)⟩
      · have hvb := pl_bd hpl
        have hmul : x.v * b ≤ 1024 * 16384 := Int.mul_le_mul hvb.2 hbd.2 (by omega) (by omega)
        have hmul0 : 0 ≤ x.v * b := Int.mul_nonneg (by omega) (by omega)
        obtain ⟨z, hz⟩ : ∃ z, x.v * b = z := ⟨_, rfl⟩
        have hwr : wrap64 (x.v * b) = z := by rw [wr_small hmul0 (by omega)]; exact hz
        rw [hz] at hmbd
        rw [hpl] at HL
        rw [hpl] at hmbd
        simp only [Bool.true_and] at hmbd
        clear hpl hx ok hrg HA hmul hmul0 hz
        by_cases c1 : x.l < 1
        · have HZ : Hid (m = false) := HF.out (by rw [hmbd]; simp; omega)
          clear hmbd HF HT
          go_wp2_with (first | (go_at_call 19; refine (HL _).mono ?_; rintro e w' ⟨rfl, rfl⟩))
          go_quiet (fail)
          go_wp2
          go_ret
          exact ⟨ret_b (HZ.out.symm.trans HM.out.symm), by first | exact HB2.out | exact HB2.out.trans ((drB _ _).mono HB2.out.size)⟩
        · by_cases c2 : z < x.l
          · have HZ : Hid (m = false) := HF.out (by rw [hmbd]; simp; omega)
            have c3 : (z < x.l) = True := eq_true c2
            have c4 : (x.l < 1) = False := eq_false c1
            clear c1 c2
            clear hmbd HF HT
            go_wp2_with (first | (go_at_call 19; refine (HL _).mono ?_; rintro e w' ⟨rfl, rfl⟩))
            go_quiet (fail)
            go_wp2
            go_ret
            exact ⟨ret_b (HZ.out.symm.trans HM.out.symm), by first | exact HB2.out | exact HB2.out.trans ((drB _ _).mono HB2.out.size)⟩
          · have HZ : Hid (allB b (ps.take (k + 1)) = true) := HT.out (by rw [hmbd]; simp; omega)
            have c3 : (z < x.l) = False := eq_false c2
            have c4 : (x.l < 1) = False := eq_false c1
            clear c1 c2
            clear hmbd HF HT
            go_wp2_with (first | (go_at_call 19; refine (HL _).mono ?_; rintro e w' ⟨rfl, rfl⟩))
            go_quiet (fail)
            go_wp2
            refine ⟨⟨k + 1, by omega, by go_num, by obtain ⟨nq, e⟩ := HW.out; exact ⟨nq + _, by rw [e, World.drewN_drewN]⟩, HZ⟩, by simp [intOf]; omega⟩
    · have HZ : Hid (m = true) := by
        have h1 := HA.out
        rw [List.take_of_length_le (by have := HN.out; omega)] at h1
        unfold Hid
        rw [← HM.out]
        exact h1
      clear HA
      go_wp2
      go_ret
      exact ⟨ret_b (HZ.out.symm.trans HM.out.symm), by first | exact HB2.out | exact HB2.out.trans ((drB _ _).mono HB2.out.size)⟩
end Go.Proofs.Ytpnbhcjbbcekeaa
