import Derived.Test.YtpnbhcjbbcekeaaNg
namespace Go.Proofs.Ytpnbhcjbbcekeaa
open Go.RowKit
/-- what Need answers -/
def needN (b v : Int) (ps : List Pc) : Int := if gd b v = 0 ∧ ps.length ≤ 65536 ∧ allB b ps = true then ps.length + 4 + smx ps else 0
def needE (b v : Int) (ps : List Pc) : Int := if gd b v = 0 then (if ps.length ≤ 65536 ∧ allB b ps = true then 0 else 142) else 10
def NDE (w w' : World) (b v : Int) (ps : List Pc) (e : Ending) : Prop := e = .returned (.tuple #[.int .i64 (needN b v ps), .int .i64 (needE b v ps)]) ∧ Below w.heap.size w w'
theorem gd_ok {b v : Int} (h : gd b v = 0) : pw b = true := by
  unfold gd at h
  split at h
  · rename_i h1; exact h1.1
  · cases h
theorem gd_two (b v : Int) : gd b v = 0 ∨ gd b v = 10 := by unfold gd; split <;> simp
theorem NDE.no {w w' : World} {b v : Int} {ps : List Pc} (h : gd b v = 10) (hb : Below w.heap.size w w') : NDE w w' b v ps (.returned (.tuple #[.int .i64 0, .int .i64 10])) := by
  have h0 : ¬ gd b v = 0 := by rw [h]; decide
  refine ⟨?_, hb⟩
  unfold needN needE
  rw [if_neg (fun h => h0 h.1), if_neg h0]
theorem NDE.bad {w w' : World} {b v : Int} {ps : List Pc} (h : gd b v = 0) (hn : ¬ (ps.length ≤ 65536 ∧ allB b ps = true)) (hb : Below w.heap.size w w') : NDE w w' b v ps (.returned (.tuple #[.int .i64 0, .int .i64 142])) := by
  refine ⟨?_, hb⟩
  unfold needN needE
  rw [if_neg (fun h => hn h.2), if_pos h, if_neg hn]
theorem NDE.yes {w w' : World} {b v : Int} {ps : List Pc} (h : gd b v = 0) (hn : ps.length ≤ 65536 ∧ allB b ps = true) (hb : Below w.heap.size w w') : NDE w w' b v ps (.returned (.tuple #[.int .i64 (ps.length + 4 + smx ps), .int .i64 0])) := by
  refine ⟨?_, hb⟩
  unfold needN needE
  rw [if_pos ⟨h, hn⟩, if_pos h, if_pos hn]
theorem belAlloc {w w0 : World} (h : Below w.heap.size w w0) (o : Obj) : Below w.heap.size w (w0.alloc o) := h.alloc h.size _
set_option maxHeartbeats 1000000 in
theorem need4 (b v : Int) (s : Value) (ps : List Pc) (w : World) (hr : RP w s ps) : Calls Try.prog 4 #[sc b v, s] w fun e w' => NDE w w' b v ps e := by
  obtain ⟨a, c, rfl, -⟩ := id hr
  have HS : Hid (BS (w.alloc (.cells #[.int .i64 b, .int .i64 v] 23)) w.heap.size b v) := heapNew _ _
  have b0 : Below w.heap.size w (w.alloc (.cells #[.int .i64 b, .int .i64 v] 23)) := (Below.refl _ _).alloc (Nat.le_refl _) _
  have HR : Hid (RP (w.alloc (.cells #[.int .i64 b, .int .i64 v] 23)) (.slice a ps.length c) ps ∧ Below w.heap.size w (w.alloc (.cells #[.int .i64 b, .int .i64 v] 23))) := ⟨hr.keep b0, b0⟩
  have hl0 := HS.out.c0
  have hl1 := HS.out.c1
  clear hr b0
  generalize hln : ps.length = len at *
  have HN : Hid (ps.length = len) := hln
  clear hln
  go_enter Try.func4, Try.ntmps4
  go_wp2_with fail
  generalize w.alloc (.cells #[.int .i64 b, .int .i64 v] 23) = w0 at *
  refine (good6 b v w0).mono ?_
  rintro e w1 ⟨rfl, b1⟩
  have H1 : Hid (RP w1 (.slice a len c) ps ∧ Below w.heap.size w w1 ∧ BS w1 w.heap.size b v) := ⟨HR.out.1.keep b1, HR.out.2.trans (b1.mono HR.out.2.size), HS.out.keep b1⟩
  clear b1 HR HS hl0 hl1
  rcases gd_two b v with hg | hg
  · rw [hg]
    have HG : Hid (gd b v = 0 ∧ pw b = true) := ⟨hg, gd_ok hg⟩
    clear hg
    by_cases hbig : 65536 < len
    · go_wp2
      go_ret2
      exact NDE.bad HG.out.1 (by rw [HN.out]; omega) H1.out.2.1
    · have HC : Hid (Calls Try.prog 7 #[.slice a len c, .func (.func 8) #[] #[.pointer (some ⟨w.heap.size, 0, none⟩)]] w1 fun e w' => e = .returned (.bool (!allB b ps)) ∧ Below w1.heap.size w1 w') :=
        contains7 b v HG.out.2 _ ps _ w1 H1.out.1 (by rw [HN.out]; omega) H1.out.2.2
      cases ha : allB b ps
      · rw [ha] at HC
        have HA : Hid (allB b ps = false) := ha
        clear ha
        go_wp2_with fail
        refine HC.out.mono ?_
        rintro e w2 ⟨rfl, b2⟩
        have H2 : Hid (Below w.heap.size w w2) := H1.out.2.1.trans (b2.mono H1.out.2.1.size)
        clear b2
        go_wp2
        go_ret2
        exact NDE.bad HG.out.1 (by rw [HA.out]; simp) H2.out
      · rw [ha] at HC
        have HA : Hid (allB b ps = true) := ha
        have hsm := smx_bd HG.out.2 ps ha
        have hlk : (ps.length : Int) ≤ 65536 := by rw [HN.out]; omega
        have hsum : ps.length * (262144 : Int) ≤ 65536 * 262144 := Int.mul_le_mul_of_nonneg_right hlk (by omega)
        have hsk : 0 ≤ smx ps ∧ smx ps ≤ 17179869184 := ⟨hsm.1, by omega⟩
        clear ha hsm hlk hsum
        go_wp2_with fail
        refine HC.out.mono ?_
        rintro e w2 ⟨rfl, b2⟩
        have H2 : Hid (RP w2 (.slice a len c) ps ∧ Below w.heap.size w w2) := ⟨H1.out.1.keep b2, H1.out.2.1.trans (b2.mono H1.out.2.1.size)⟩
        clear b2
        go_wp2_with fail
        refine (at10 len (by omega) w2).mono ?_
        rintro e w2 ⟨rfl, rfl⟩
        go_wp2_with fail
        refine (sectorsOf11 b HG.out.2 _ ps _ H2.out.1 (by rw [HN.out]; omega) HA.out).mono ?_
        rintro e w3 ⟨rfl, b3⟩
        have H3 : Hid (Below w.heap.size w w3) := H2.out.2.trans (b3.mono H2.out.2.size)
        have HY : Hid (NDE w w3 b v ps (.returned (.tuple #[.int .i64 (len + 4 + smx ps), .int .i64 0]))) := by
          have := NDE.yes (w := w) (w' := w3) HG.out.1 ⟨by rw [HN.out]; omega, HA.out⟩ H3.out
          rw [HN.out] at this
          exact this
        clear b3
        generalize smx ps = sk at *
        go_wp2
        go_ret2
        exact HY.out
  · rw [hg]
    have HG : Hid (gd b v = 10) := hg
    clear hg
    go_wp2
    go_ret2
    exact NDE.no HG.out H1.out.2.1
set_option maxHeartbeats 1000000 in
theorem fitsBig (b v : Int) (s : Value) (ps : List Pc) (w : World) (hr : RP w s ps) (hl : 65536 < ps.length) :
    Calls Try.prog 13 #[sc b v, s] w fun e w' => e = .returned (.bool false) ∧ Below w.heap.size w w' := by
  obtain ⟨a, c, rfl, -⟩ := id hr
  clear hr
  generalize ps.length = len at *
  go_enter Try.func13, Try.ntmps13
  go_wp2
  go_ret
  exact ⟨rfl, (Below.refl _ _).alloc (Nat.le_refl _) _⟩
set_option maxHeartbeats 1000000 in
theorem need5 (b v : Int) (s : Value) (ps : List Pc) (w : World) (hr : RP w s ps) : Calls Try.prog 5 #[sc b v, s] w fun e w' => NDE w w' b v ps e := by
  obtain ⟨a, c, rfl, -⟩ := id hr
  have HS : Hid (BS (w.alloc (.cells #[.int .i64 b, .int .i64 v] 23)) w.heap.size b v) := heapNew _ _
  have b0 : Below w.heap.size w (w.alloc (.cells #[.int .i64 b, .int .i64 v] 23)) := (Below.refl _ _).alloc (Nat.le_refl _) _
  have HR : Hid (RP (w.alloc (.cells #[.int .i64 b, .int .i64 v] 23)) (.slice a ps.length c) ps ∧ Below w.heap.size w (w.alloc (.cells #[.int .i64 b, .int .i64 v] 23))) := ⟨hr.keep b0, b0⟩
  have hl0 := HS.out.c0
  have hl1 := HS.out.c1
  clear hr b0
  generalize hln : ps.length = len at *
  have HN : Hid (ps.length = len) := hln
  clear hln
  go_enter Try.func5, Try.ntmps5
  go_wp2_with fail
  generalize w.alloc (.cells #[.int .i64 b, .int .i64 v] 23) = w0 at *
  refine (good12 b v w0).mono ?_
  rintro e w1 ⟨rfl, b1⟩
  have H1 : Hid (RP w1 (.slice a len c) ps ∧ Below w.heap.size w w1) := ⟨HR.out.1.keep b1, HR.out.2.trans (b1.mono HR.out.2.size)⟩
  have hl0 := (HS.out.keep b1).c0
  have hl1 := (HS.out.keep b1).c1
  clear b1 HR HS
  rcases gd_two b v with hg | hg
  · rw [hg]
    have HG : Hid (gd b v = 0 ∧ pw b = true) := ⟨hg, gd_ok hg⟩
    clear hg
    by_cases hbig : 65536 < len
    · have HC : Hid (Calls Try.prog 13 #[sc b v, .slice a len c] w1 fun e w' => e = .returned (.bool false) ∧ Below w1.heap.size w1 w') := fitsBig b v _ ps w1 H1.out.1 (by rw [HN.out]; exact hbig)
      go_wp2_with fail
      refine HC.out.mono ?_
      rintro e w2 ⟨rfl, b2⟩
      have H2 : Hid (Below w.heap.size w w2) := H1.out.2.trans (b2.mono H1.out.2.size)
      clear b2
      go_wp2
      go_ret2
      exact NDE.bad HG.out.1 (by rw [HN.out]; omega) H2.out
    · have HC : Hid (Calls Try.prog 13 #[sc b v, .slice a len c] w1 fun e w' => e = .returned (.bool (allB b ps)) ∧ Below w1.heap.size w1 w') := fits13 b v HG.out.2 _ ps w1 H1.out.1 (by rw [HN.out]; omega)
      cases ha : allB b ps
      · rw [ha] at HC
        have HA : Hid (allB b ps = false) := ha
        clear ha
        go_wp2_with fail
        refine HC.out.mono ?_
        rintro e w2 ⟨rfl, b2⟩
        have H2 : Hid (Below w.heap.size w w2) := H1.out.2.trans (b2.mono H1.out.2.size)
        clear b2
        go_wp2
        go_ret2
        exact NDE.bad HG.out.1 (by rw [HA.out]; simp) H2.out
      · rw [ha] at HC
        have HA : Hid (allB b ps = true) := ha
        have hsm := smx_bd HG.out.2 ps ha
        have hlk : (ps.length : Int) ≤ 65536 := by rw [HN.out]; omega
        have hsum : ps.length * (262144 : Int) ≤ 65536 * 262144 := Int.mul_le_mul_of_nonneg_right hlk (by omega)
        have hsk : 0 ≤ smx ps ∧ smx ps ≤ 17179869184 := ⟨hsm.1, by omega⟩
        clear ha hsm hlk hsum
        go_wp2_with fail
        refine HC.out.mono ?_
        rintro e w2 ⟨rfl, b2⟩
        have H2 : Hid (RP w2 (.slice a len c) ps ∧ Below w.heap.size w w2) := ⟨H1.out.1.keep b2, H1.out.2.trans (b2.mono H1.out.2.size)⟩
        clear b2
        have HD : Hid (Calls Try.prog 14 #[.slice a len c, .int .i64 len] w2 fun e w' => e = .returned (.int .i64 (smx ps)) ∧ Below w2.heap.size w2 w') := by
          have := ahead14 b HG.out.2 _ ps _ H2.out.1 (by rw [HN.out]; omega) HA.out
          rw [HN.out] at this
          exact this
        go_wp2_with fail
        refine HD.out.mono ?_
        rintro e w3 ⟨rfl, b3⟩
        have H3 : Hid (Below w.heap.size w w3) := H2.out.2.trans (b3.mono H2.out.2.size)
        have HY : Hid (NDE w w3 b v ps (.returned (.tuple #[.int .i64 (len + 4 + smx ps), .int .i64 0]))) := by
          have := NDE.yes (w := w) (w' := w3) HG.out.1 ⟨by rw [HN.out]; omega, HA.out⟩ H3.out
          rw [HN.out] at this
          exact this
        clear b3
        generalize smx ps = sk at *
        go_wp2
        go_ret2
        exact HY.out
  · rw [hg]
    have HG : Hid (gd b v = 10) := hg
    clear hg
    go_wp2
    go_ret2
    exact NDE.no HG.out H1.out.2
set_option maxHeartbeats 1000000 in
theorem needs3 (b v : Int) (s : Value) (ps : List Pc) (w : World) (hr : RP w s ps) : Calls Try.prog 3 #[sc b v, s] w fun e w' => e = .returned (.bool true) ∧ Below w.heap.size w w' := by
  obtain ⟨a, c, rfl, -⟩ := id hr
  have HS : Hid (BS (w.alloc (.cells #[.int .i64 b, .int .i64 v] 23)) w.heap.size b v) := heapNew _ _
  have b0 : Below w.heap.size w (w.alloc (.cells #[.int .i64 b, .int .i64 v] 23)) := (Below.refl _ _).alloc (Nat.le_refl _) _
  have HR : Hid (RP (w.alloc (.cells #[.int .i64 b, .int .i64 v] 23)) (.slice a ps.length c) ps ∧ Below w.heap.size w (w.alloc (.cells #[.int .i64 b, .int .i64 v] 23))) := ⟨hr.keep b0, b0⟩
  have hl0 := HS.out.c0
  have hl1 := HS.out.c1
  clear hr b0
  generalize ps.length = len at *
  go_enter Try.func3, Try.ntmps3
  go_wp2_with fail
  generalize w.alloc (.cells #[.int .i64 b, .int .i64 v] 23) = w0 at *
  refine (need4 b v _ ps w0 HR.out.1).mono ?_
  rintro e w1 ⟨rfl, b1⟩
  have H1 : Hid (RP w1 (.slice a len c) ps ∧ Below w.heap.size w w1) := ⟨HR.out.1.keep b1, HR.out.2.trans (b1.mono HR.out.2.size)⟩
  have hl0 := (HS.out.keep b1).c0
  have hl1 := (HS.out.keep b1).c1
  clear b1 HR HS
  go_wp2_with fail
  refine (need5 b v _ ps w1 H1.out.1).mono ?_
  rintro e w2 ⟨rfl, b2⟩
  have H2 : Hid (Below w.heap.size w w2) := H1.out.2.trans (b2.mono H1.out.2.size)
  clear b2 H1 hl0 hl1
  generalize needN b v ps = nn at *
  generalize needE b v ps = ne at *
  go_wp2
  go_ret
  exact ⟨by simp, H2.out⟩
end Go.Proofs.Ytpnbhcjbbcekeaa
