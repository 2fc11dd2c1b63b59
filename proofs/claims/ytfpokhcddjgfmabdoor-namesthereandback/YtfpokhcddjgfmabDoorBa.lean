import Derived.Test.YtfpokhcddjgfmabDoorBp
namespace Go.Proofs.YtfpokhcddjgfmabDoor
open Go.RowKit
set_option maxHeartbeats 1000000 in
theorem back4yy (v : Value) (l : List ByteArray) (s : ByteArray) (w : World) (hf : FL l) (hr : SR w l v) (hs : s.size ≤ 140737488351232) (h1 : pe l = 0) (h2 : pe (spb 16 s) = 0) :
    Calls Tryd.prog 4 #[v, .string s] w fun e w' => e = .returned (.bool true) ∧ Below w.heap.size w w' := by
  have HF : Hid (FL l) := hf
  have HR : Hid (SR w l v) := hr
  obtain ⟨va, vc, rfl, _, _⟩ := hr
  have HJ : Hid (∀ v w, SR w l v → Calls Tryd.prog 12 #[v] w fun e w' => e = .returned (.tuple #[.string (jo l), .int .i64 0]) ∧ Below w.heap.size w w') := joinOk h1 hf
  have HK : Hid (∀ w, Calls Tryd.prog 8 #[.string (jo l)] w fun e w' => ∃ a c, e = .returned (.tuple #[.slice a l.length c, .int .i64 0]) ∧ SR w' l (.slice a l.length c) ∧ Below w.heap.size w w') := splitJo h1
  generalize jo l = t at *
  have HS : Hid (∀ w, Calls Tryd.prog 8 #[.string s] w fun e w' => ∃ a c, e = .returned (.tuple #[.slice a (spb 16 s).length c, .int .i64 0]) ∧ SR w' (spb 16 s) (.slice a (spb 16 s).length c) ∧ Below w.heap.size w w') := splitOk hs h2
  have HT0 := joinOk h2 (fl_spb hs)
  rw [jo_spb 16 s] at HT0
  have HT : Hid (∀ v w, SR w (spb 16 s) v → Calls Tryd.prog 12 #[v] w fun e w' => e = .returned (.tuple #[.string s, .int .i64 0]) ∧ Below w.heap.size w w') := HT0
  clear HT0
  clear h1 h2 hf
  go_enter Tryd.func4, Tryd.ntmps4
  go_wp2_with fail
  refine (awake11 _).mono ?_
  rintro e w1 ⟨rfl, hb1⟩
  have R1 : Hid (SR w1 l _) := HR.out.keep hb1
  have B1 : Hid (Below w.heap.size w w1) := hb1
  clear hb1 HR
  go_wp2_with fail
  refine (HJ.out _ _ R1.out).mono ?_
  rintro e w2 ⟨rfl, hb2⟩
  have R2 : Hid (SR w2 l _) := R1.out.keep hb2
  have B2 : Hid (Below w.heap.size w w2) := B1.out.trans (hb2.mono B1.out.size)
  clear hb2 R1 B1
  go_wp2_with fail
  refine (num13 _ _).mono ?_
  rintro e w3 ⟨rfl, rfl⟩
  go_wp2_with fail
  refine (HK.out _).mono ?_
  rintro e w4 ⟨a, c, rfl, hr4, hb4⟩
  have R4 : Hid (SR w4 l _) := R2.out.keep hb4
  have S4 : Hid (SR w4 l (.slice a l.length c)) := hr4
  have B4 : Hid (Below w.heap.size w w4) := B2.out.trans (hb4.mono B2.out.size)
  clear hb4 hr4 R2 B2
  go_wp2_with fail
  refine (num13 _ _).mono ?_
  rintro e w5 ⟨rfl, rfl⟩
  go_wp2_with fail
  refine (sameL HF.out.1 _ _ _ R4.out S4.out).mono ?_
  rintro e w6 ⟨rfl, n6, rfl⟩
  have BX : Hid (Below w.heap.size w (w5.drewN n6)) := B4.out.trans ((drN _ _).mono B4.out.size)
  generalize w5.drewN n6 = wx at *
  clear R4 S4 B4
  go_wp2_with fail
  refine (HS.out _).mono ?_
  rintro e w7 ⟨a7, c7, rfl, hr7, hb7⟩
  have R7 : Hid (SR w7 (spb 16 s) (.slice a7 (spb 16 s).length c7)) := hr7
  have B7 : Hid (Below w.heap.size w w7) := BX.out.trans (hb7.mono BX.out.size)
  clear hb7 hr7 BX
  go_wp2_with fail
  refine (num13 _ _).mono ?_
  rintro e w8 ⟨rfl, rfl⟩
  go_wp2_with fail
  refine (HT.out _ _ R7.out).mono ?_
  rintro e w9 ⟨rfl, hb9⟩
  have B9 : Hid (Below w.heap.size w w9) := B7.out.trans (hb9.mono B7.out.size)
  clear hb9 R7 B7
  go_wp2_with fail
  refine (num13 _ _).mono ?_
  rintro e w10 ⟨rfl, rfl⟩
  go_wp2
  go_ret
  exact ⟨rfl, B9.out⟩
set_option maxHeartbeats 1000000 in
theorem back4yn (v : Value) (l : List ByteArray) (s : ByteArray) (w : World) (hf : FL l) (hr : SR w l v) (hs : s.size ≤ 140737488351232) (h1 : pe l = 0) (h2 : ¬ pe (spb 16 s) = 0) :
    Calls Tryd.prog 4 #[v, .string s] w fun e w' => e = .returned (.bool true) ∧ Below w.heap.size w w' := by
  have HF : Hid (FL l) := hf
  have HR : Hid (SR w l v) := hr
  obtain ⟨va, vc, rfl, _, _⟩ := hr
  have HJ : Hid (∀ v w, SR w l v → Calls Tryd.prog 12 #[v] w fun e w' => e = .returned (.tuple #[.string (jo l), .int .i64 0]) ∧ Below w.heap.size w w') := joinOk h1 hf
  have HK : Hid (∀ w, Calls Tryd.prog 8 #[.string (jo l)] w fun e w' => ∃ a c, e = .returned (.tuple #[.slice a l.length c, .int .i64 0]) ∧ SR w' l (.slice a l.length c) ∧ Below w.heap.size w w') := splitJo h1
  generalize jo l = t at *
  have HS : Hid (∀ w, Calls Tryd.prog 8 #[.string s] w fun e w' => ∃ c : Option Addr, ∃ d : Nat, e = .returned (.tuple #[.slice c 0 d, .int .i64 (pe (spb 16 s))]) ∧ Below w.heap.size w w') := splitNo hs h2
  have hz2 : (pe (spb 16 s) == 0) = false := beq_eq_false_iff_ne.2 h2
  generalize pe (spb 16 s) = z2 at *
  clear h1 h2 hf
  go_enter Tryd.func4, Tryd.ntmps4
  go_wp2_with fail
  refine (awake11 _).mono ?_
  rintro e w1 ⟨rfl, hb1⟩
  have R1 : Hid (SR w1 l _) := HR.out.keep hb1
  have B1 : Hid (Below w.heap.size w w1) := hb1
  clear hb1 HR
  go_wp2_with fail
  refine (HJ.out _ _ R1.out).mono ?_
  rintro e w2 ⟨rfl, hb2⟩
  have R2 : Hid (SR w2 l _) := R1.out.keep hb2
  have B2 : Hid (Below w.heap.size w w2) := B1.out.trans (hb2.mono B1.out.size)
  clear hb2 R1 B1
  go_wp2_with fail
  refine (num13 _ _).mono ?_
  rintro e w3 ⟨rfl, rfl⟩
  go_wp2_with fail
  refine (HK.out _).mono ?_
  rintro e w4 ⟨a, c, rfl, hr4, hb4⟩
  have R4 : Hid (SR w4 l _) := R2.out.keep hb4
  have S4 : Hid (SR w4 l (.slice a l.length c)) := hr4
  have B4 : Hid (Below w.heap.size w w4) := B2.out.trans (hb4.mono B2.out.size)
  clear hb4 hr4 R2 B2
  go_wp2_with fail
  refine (num13 _ _).mono ?_
  rintro e w5 ⟨rfl, rfl⟩
  go_wp2_with fail
  refine (sameL HF.out.1 _ _ _ R4.out S4.out).mono ?_
  rintro e w6 ⟨rfl, n6, rfl⟩
  have BX : Hid (Below w.heap.size w (w5.drewN n6)) := B4.out.trans ((drN _ _).mono B4.out.size)
  generalize w5.drewN n6 = wx at *
  clear R4 S4 B4
  go_wp2_with fail
  refine (HS.out _).mono ?_
  rintro e w7 ⟨a7, c7, rfl, hb7⟩
  have B7 : Hid (Below w.heap.size w w7) := BX.out.trans (hb7.mono BX.out.size)
  clear hb7 BX
  go_wp2_with fail
  refine (num13 _ _).mono ?_
  rintro e w8 ⟨rfl, rfl⟩
  go_wp2
  go_ret
  exact ⟨rfl, B7.out⟩
set_option maxHeartbeats 1000000 in
theorem back4ny (v : Value) (l : List ByteArray) (s : ByteArray) (w : World) (hf : FL l) (hr : SR w l v) (hs : s.size ≤ 140737488351232) (h1 : ¬ pe l = 0) (h2 : pe (spb 16 s) = 0) :
    Calls Tryd.prog 4 #[v, .string s] w fun e w' => e = .returned (.bool true) ∧ Below w.heap.size w w' := by
  have HF : Hid (FL l) := hf
  have HR : Hid (SR w l v) := hr
  obtain ⟨va, vc, rfl, _, _⟩ := hr
  have HJ : Hid (∀ v w, SR w l v → Calls Tryd.prog 12 #[v] w fun e w' => e = .returned (.tuple #[.string ⟨#[]⟩, .int .i64 (pe l)]) ∧ Below w.heap.size w w') := joinNo h1 hf
  have hz1 : (pe l == 0) = false := beq_eq_false_iff_ne.2 h1
  generalize pe l = z1 at *
  have HS : Hid (∀ w, Calls Tryd.prog 8 #[.string s] w fun e w' => ∃ a c, e = .returned (.tuple #[.slice a (spb 16 s).length c, .int .i64 0]) ∧ SR w' (spb 16 s) (.slice a (spb 16 s).length c) ∧ Below w.heap.size w w') := splitOk hs h2
  have HT0 := joinOk h2 (fl_spb hs)
  rw [jo_spb 16 s] at HT0
  have HT : Hid (∀ v w, SR w (spb 16 s) v → Calls Tryd.prog 12 #[v] w fun e w' => e = .returned (.tuple #[.string s, .int .i64 0]) ∧ Below w.heap.size w w') := HT0
  clear HT0
  clear h1 h2 hf
  go_enter Tryd.func4, Tryd.ntmps4
  go_wp2_with fail
  refine (awake11 _).mono ?_
  rintro e w1 ⟨rfl, hb1⟩
  have R1 : Hid (SR w1 l _) := HR.out.keep hb1
  have B1 : Hid (Below w.heap.size w w1) := hb1
  clear hb1 HR
  go_wp2_with fail
  refine (HJ.out _ _ R1.out).mono ?_
  rintro e w2 ⟨rfl, hb2⟩
  have BX : Hid (Below w.heap.size w w2) := B1.out.trans (hb2.mono B1.out.size)
  clear hb2 R1 B1
  go_wp2_with fail
  refine (num13 _ _).mono ?_
  rintro e wx ⟨rfl, rfl⟩
  go_wp2_with fail
  refine (HS.out _).mono ?_
  rintro e w7 ⟨a7, c7, rfl, hr7, hb7⟩
  have R7 : Hid (SR w7 (spb 16 s) (.slice a7 (spb 16 s).length c7)) := hr7
  have B7 : Hid (Below w.heap.size w w7) := BX.out.trans (hb7.mono BX.out.size)
  clear hb7 hr7 BX
  go_wp2_with fail
  refine (num13 _ _).mono ?_
  rintro e w8 ⟨rfl, rfl⟩
  go_wp2_with fail
  refine (HT.out _ _ R7.out).mono ?_
  rintro e w9 ⟨rfl, hb9⟩
  have B9 : Hid (Below w.heap.size w w9) := B7.out.trans (hb9.mono B7.out.size)
  clear hb9 R7 B7
  go_wp2_with fail
  refine (num13 _ _).mono ?_
  rintro e w10 ⟨rfl, rfl⟩
  go_wp2
  go_ret
  exact ⟨rfl, B9.out⟩
set_option maxHeartbeats 1000000 in
theorem back4nn (v : Value) (l : List ByteArray) (s : ByteArray) (w : World) (hf : FL l) (hr : SR w l v) (hs : s.size ≤ 140737488351232) (h1 : ¬ pe l = 0) (h2 : ¬ pe (spb 16 s) = 0) :
    Calls Tryd.prog 4 #[v, .string s] w fun e w' => e = .returned (.bool true) ∧ Below w.heap.size w w' := by
  have HF : Hid (FL l) := hf
  have HR : Hid (SR w l v) := hr
  obtain ⟨va, vc, rfl, _, _⟩ := hr
  have HJ : Hid (∀ v w, SR w l v → Calls Tryd.prog 12 #[v] w fun e w' => e = .returned (.tuple #[.string ⟨#[]⟩, .int .i64 (pe l)]) ∧ Below w.heap.size w w') := joinNo h1 hf
  have hz1 : (pe l == 0) = false := beq_eq_false_iff_ne.2 h1
  generalize pe l = z1 at *
  have HS : Hid (∀ w, Calls Tryd.prog 8 #[.string s] w fun e w' => ∃ c : Option Addr, ∃ d : Nat, e = .returned (.tuple #[.slice c 0 d, .int .i64 (pe (spb 16 s))]) ∧ Below w.heap.size w w') := splitNo hs h2
  have hz2 : (pe (spb 16 s) == 0) = false := beq_eq_false_iff_ne.2 h2
  generalize pe (spb 16 s) = z2 at *
  clear h1 h2 hf
  go_enter Tryd.func4, Tryd.ntmps4
  go_wp2_with fail
  refine (awake11 _).mono ?_
  rintro e w1 ⟨rfl, hb1⟩
  have R1 : Hid (SR w1 l _) := HR.out.keep hb1
  have B1 : Hid (Below w.heap.size w w1) := hb1
  clear hb1 HR
  go_wp2_with fail
  refine (HJ.out _ _ R1.out).mono ?_
  rintro e w2 ⟨rfl, hb2⟩
  have BX : Hid (Below w.heap.size w w2) := B1.out.trans (hb2.mono B1.out.size)
  clear hb2 R1 B1
  go_wp2_with fail
  refine (num13 _ _).mono ?_
  rintro e wx ⟨rfl, rfl⟩
  go_wp2_with fail
  refine (HS.out _).mono ?_
  rintro e w7 ⟨a7, c7, rfl, hb7⟩
  have B7 : Hid (Below w.heap.size w w7) := BX.out.trans (hb7.mono BX.out.size)
  clear hb7 BX
  go_wp2_with fail
  refine (num13 _ _).mono ?_
  rintro e w8 ⟨rfl, rfl⟩
  go_wp2
  go_ret
  exact ⟨rfl, B7.out⟩
theorem back4 (v : Value) (l : List ByteArray) (s : ByteArray) (w : World) (hf : FL l) (hr : SR w l v) (hs : s.size ≤ 140737488351232) :
    Calls Tryd.prog 4 #[v, .string s] w fun e w' => e = .returned (.bool true) ∧ Below w.heap.size w w' := by
  by_cases h1 : pe l = 0 <;> by_cases h2 : pe (spb 16 s) = 0
  · exact back4yy v l s w hf hr hs h1 h2
  · exact back4yn v l s w hf hr hs h1 h2
  · exact back4ny v l s w hf hr hs h1 h2
  · exact back4nn v l s w hf hr hs h1 h2
end Go.Proofs.YtfpokhcddjgfmabDoor
