import Derived.Test.YtfpokhcddjgfmabDoorBp
import Derived.Test.YtfpokhcddjgfmabDoorOpn
namespace Go.Proofs.YtfpokhcddjgfmabDoor
open Go.RowKit
theorem six_none {r : ByteArray} (h : ∀ j, j < r.size → bt r j ≠ 47) : six r = -1 := by
  rcases six_cases r with ⟨_, h1⟩ | ⟨h1, _⟩
  · exact h1
  · obtain ⟨j, hj, he⟩ := List.getElem_of_mem h1
    exact absurd (by rw [bt_list, List.getElem?_eq_getElem hj, he]; rfl) (h j (by simpa using hj))
theorem six_at {r : ByteArray} {k : Nat} (h : ∀ j, j < k → bt r j ≠ 47) (hk : k < r.size) (h47 : bt r k = 47) : six r = k := by
  have hlen : r.data.toList.length = r.size := by simp
  rcases six_cases r with ⟨h1, _⟩ | ⟨_, i, h1, h2, h3, h4⟩
  · refine absurd ?_ h1
    have hk' : k < r.data.toList.length := by omega
    have e : r.data.toList[k] = 47 := by
      have := bt_list r k
      rw [h47, List.getElem?_eq_getElem hk'] at this
      exact UInt8.toNat_inj.1 this.symm
    exact e ▸ List.getElem_mem hk'
  · have hlx : (r.extract 0 i).data.toList.length = i := by simp; omega
    have b1 : bt r i = 47 := by rw [bt_list, h4, List.getElem?_append_right (by omega), hlx, Nat.sub_self]; rfl
    rcases Nat.lt_trichotomy i k with hlt | rfl | hgt
    · exact absurd b1 (h i hlt)
    · exact h1
    · exfalso
      apply h3
      have hk2 : k < (r.extract 0 i).data.toList.length := by omega
      have e : (r.extract 0 i).data.toList[k] = 47 := by
        have := bt_list r k
        rw [h47, h4, List.getElem?_append_left hk2, List.getElem?_eq_getElem hk2] at this
        exact UInt8.toNat_inj.1 this.symm
      exact e ▸ List.getElem_mem hk2
theorem ext_ext0 (s : ByteArray) (f i : Nat) (h : f ≤ i) : (s.extract f s.size).extract 0 (i - f) = s.extract f i := ba_ext' (by
  rw [ext_data, ext_data, ext_data, List.drop_zero, List.take_drop, List.take_take, show f + (i - f) = i by omega]
  by_cases hs : i ≤ s.size
  · rw [Nat.min_eq_left hs]
  · rw [Nat.min_eq_right (by omega), List.take_of_length_le (by simp), List.take_of_length_le (by simp; omega)])
theorem ext_ext1 (s : ByteArray) (f i : Nat) (h : f ≤ i) : (s.extract f s.size).extract (i - f + 1) (s.extract f s.size).size = s.extract (i + 1) s.size := ba_ext' (by
  rw [ext_drop, ext_drop, ext_drop, List.drop_drop, show f + (i - f + 1) = i + 1 by omega])
theorem spb_length : ∀ (n : Nat) (s : ByteArray), (spb n s).length = min n (s.data.toList.count 47) + 1
  | 0, s => by simp [spb]
  | n + 1, s => by
    rcases six_cases s with ⟨h0, h1⟩ | ⟨_, i, h1, _, h3, h4⟩
    · rw [spb_miss h1, List.count_eq_zero_of_not_mem h0]; simp
    · rw [spb_hit h1, List.length_cons, spb_length n]
      have : s.data.toList.count 47 = (s.extract (i + 1) s.size).data.toList.count 47 + 1 := by
        rw [h4, List.count_append, List.count_cons_self, List.count_eq_zero_of_not_mem h3]; simp
      omega
theorem count_le (s : ByteArray) : s.data.toList.count 47 ≤ s.size := by
  have : s.data.toList.count 47 ≤ s.data.toList.length := List.count_le_length
  simpa using this
/-- all pieces -/
def full (s : ByteArray) : List ByteArray := spb (s.size + 1) s
theorem full_few {s : ByteArray} (h : s.data.toList.count 47 ≤ 15) : full s = spb 16 s := by
  have hc := count_le s
  unfold full
  rw [spb_cnt (s.data.toList.count 47) (s.size + 1) s (Nat.le_refl _) (by omega), spb_cnt (s.data.toList.count 47) 16 s (Nat.le_refl _) (by omega)]
theorem full_pe (s : ByteArray) : pe (full s) = pe (spb 16 s) := by
  by_cases h : s.data.toList.count 47 ≤ 15
  · rw [full_few h]
  · have h1 := spb_length (s.size + 1) s
    have h2 := spb_length 16 s
    have hc := count_le s
    rw [pe1 (spb_ne 16 s) (by omega)]
    exact pe1 (spb_ne _ s) (by unfold full; omega)
theorem full_sq (s : ByteArray) : (if pe (full s) = 0 then full s else []) = sq s := by
  unfold sq
  by_cases h : pe (spb 16 s) = 0
  · rw [full_pe, if_pos h, if_pos h]
    refine full_few ?_
    obtain ⟨_, h1, _⟩ := pe_ok h
    have := spb_length 16 s
    omega
  · rw [full_pe, if_neg h, if_neg h]
theorem fl_full {s : ByteArray} (hs : s.size ≤ 1048576) : FL (full s) := ⟨by have := spb_len (s.size + 1) s; unfold full; omega, fun x hx => by have := spb_size (s.size + 1) s x hx; omega⟩
/-- ahead of i: what was laid, and what is to come -/
def Sv (s : ByteArray) (done : List ByteArray) (f i : Nat) : Prop := done.length ≤ f ∧ f ≤ i ∧ i ≤ s.size ∧ (∀ j, f ≤ j → j < i → bt s j ≠ 47) ∧ done ++ spb (s.size + 1 - done.length) (s.extract f s.size) = full s
theorem sv0 (s : ByteArray) : Sv s [] 0 0 := ⟨Nat.le_refl _, Nat.le_refl _, Nat.zero_le _, fun j _ h => by omega, by
  have : s.extract 0 s.size = s := ba_ext' (by rw [ext_drop]; rfl)
  rw [this]; rfl⟩
theorem sv_on {s : ByteArray} {done : List ByteArray} {f i : Nat} (h : Sv s done f i) (hi : i < s.size) (hb : bt s i ≠ 47) : Sv s done f (i + 1) := by
  obtain ⟨a, b, c, d, e⟩ := h
  exact ⟨a, by omega, by omega, fun j h1 h2 => by
    by_cases hj : j = i
    · rw [hj]; exact hb
    · exact d j h1 (by omega), e⟩
theorem sv_cut {s : ByteArray} {done : List ByteArray} {f i : Nat} (h : Sv s done f i) (hi : i < s.size) (hb : bt s i = 47) : Sv s (done ++ [s.extract f i]) (i + 1) (i + 1) := by
  obtain ⟨a, b, c, d, e⟩ := h
  refine ⟨by simp; omega, Nat.le_refl _, by omega, fun j _ _ => by omega, ?_⟩
  have hx : six (s.extract f s.size) = ((i - f : Nat) : Int) := six_at (fun j hj => by rw [bt_ext]; exact d _ (by omega) (by omega)) (by rw [ext_sz]; omega) (by rw [bt_ext, show f + (i - f) = i by omega]; exact hb)
  have h1 := spb_hit hx (s.size - done.length)
  rw [ext_ext0 s f i b, ext_ext1 s f i b, show s.size - done.length + 1 = s.size + 1 - done.length by omega] at h1
  rw [h1] at e
  rw [← e]
  simp
theorem sv_end {s : ByteArray} {done : List ByteArray} {f : Nat} (h : Sv s done f s.size) : done ++ [s.extract f s.size] = full s := by
  obtain ⟨a, b, c, d, e⟩ := h
  rw [spb_miss (six_none fun j hj => by rw [bt_ext]; rw [ext_sz] at hj; exact d _ (by omega) (by omega))] at e
  exact e
set_option maxRecDepth 100000 in
set_option maxHeartbeats 4000000 in
theorem split9 (s : ByteArray) (w : World) (hs : s.size ≤ 1048576) :
    Calls Tryd.prog 9 #[.string s] w fun e w' => ∃ a c, e = .returned (.tuple #[.slice a (sq s).length c, .int .i64 (pe (spb 16 s))]) ∧ SR w' (sq s) (.slice a (sq s).length c) ∧ Below w.heap.size w w' := by
  have HP : Hid (∀ v w, SR w (full s) v → Calls Tryd.prog 20 #[v] w fun e w' => e = .returned (.int .i64 (pe (full s))) ∧ Below w.heap.size w w') := fun v w h => path22 v (full s) w (fl_full hs) h
  rw [← full_pe s, ← full_sq s]
  have HR : Hid ((pe (full s) = 0 ∧ (if pe (full s) = 0 then full s else []) = full s) ∨ (¬ pe (full s) = 0 ∧ (if pe (full s) = 0 then full s else []) = [])) := by
    by_cases h : pe (full s) = 0
    · exact .inl ⟨h, if_pos h⟩
    · exact .inr ⟨h, if_neg h⟩
  generalize (if pe (full s) = 0 then full s else []) = r at *
  generalize pe (full s) = z at *
  go_enter Tryd.func9, Tryd.ntmps9
  go_wp2
  go_loopw [4, 5, 6] (fun p fr it wr => ∃ (done : List ByteArray) (f i : Nat) (a : Option Addr) (cp : Nat), fr = .int .i64 f ∧ it = .int .i64 i ∧ p = .slice a done.length cp ∧ Hid (OS w.heap.size wr p done) ∧ Hid (Below w.heap.size w wr) ∧ i ≤ s.size + 1 ∧ Hid (Sv s done f i ∨ (i = s.size + 1 ∧ done = full s))) (fun _ _ it _ => s.size + 2 - (intOf it).toNat)
  case atStart => exact ⟨[], 0, 0, none, 0, rfl, rfl, rfl, World.ownsRow_nil _ _ _ _, Below.refl _ _, Nat.zero_le _, .inl (sv0 s)⟩
  case round =>
    obtain ⟨done, f, i, a, cp, rfl, rfl, rfl, HO, HB, hi, HS⟩ := hrel
    rcases HS.out with hS | ⟨rfl, rfl⟩
    · have hle : i ≤ s.size := hS.2.2.1
      have hfi : f ≤ i := hS.2.1
      have hdl : done.length ≤ f := hS.1
      by_cases hlt : i < s.size
      · have HE : Hid ((s[i]'hlt).toNat = bt s i) := getE hlt
        have hbb := (s[i]'hlt).toNat_lt
        have hne : ((i : Int) == (s.size : Int)) = false := beq_eq_false_iff_ne.2 (by omega)
        by_cases h47 : bt s i = 47
        · have HX : Hid (Sv s (done ++ [s.extract f i]) (i + 1) (i + 1)) := sv_cut hS hlt h47
          have HE' : Hid ((s[i]'hlt).toNat = 47) := HE.out.trans h47
          generalize hbk : (s[i]'hlt).toNat = b at *
          obtain rfl : b = 47 := HE'.out
          generalize hy : s.extract f i = y at *
          clear hS HS h47
          go_wp2_with (at_builtin; refine append_sa rfl _ _ rfl rfl (HO.out.alloc _) wr.heap.size y rfl (by go_simp) (by have := HB.out.size; simp; omega) (by omega) ?_; intro v' w1 hown' hb1)
          obtain ⟨a', c', rfl⟩ := hown'.form
          have HB' : Hid (Below w.heap.size w w1) := (HB.out.alloc HB.out.size _).trans hb1
          have HO' : Hid _ := hown'
          clear hb1 hown' HB HO
          go_wp2
          go_roundw
          case rel => exact ⟨done ++ [y], i + 1, i + 1, a', c', by go_num, by go_num, rfl, HO'.out, HB'.out, by omega, .inl HX.out⟩
          case measure => simp [intOf]; omega
        · have HX : Hid (Sv s done f (i + 1)) := sv_on hS hlt h47
          have HE' : Hid ((s[i]'hlt).toNat ≠ 47) := by rw [HE.out]; exact h47
          generalize hbk : (s[i]'hlt).toNat = b at *
          have g2 : ((b : Int) == 47) = false := beq_eq_false_iff_ne.2 (by have := HE'.out; omega)
          clear hS HS h47
          go_wp2
          go_roundw
          case rel => exact ⟨done, f, i + 1, a, cp, rfl, by go_num, rfl, HO.out, HB.out, by omega, .inl HX.out⟩
          case measure => simp [intOf]; omega
      · obtain rfl : i = s.size := by omega
        have HX : Hid (done ++ [s.extract f s.size] = full s) := sv_end hS
        generalize hy : s.extract f s.size = y at *
        clear hS HS
        go_wp2_with (at_builtin; refine append_sa rfl _ _ rfl rfl (HO.out.alloc _) wr.heap.size y rfl (by go_simp) (by have := HB.out.size; simp; omega) (by omega) ?_; intro v' w1 hown' hb1)
        obtain ⟨a', c', rfl⟩ := hown'.form
        have HB' : Hid (Below w.heap.size w w1) := (HB.out.alloc HB.out.size _).trans hb1
        have HO' : Hid _ := hown'
        clear hb1 hown' HB HO
        go_wp2
        go_roundw
        case rel => exact ⟨done ++ [y], s.size + 1, s.size + 1, a', c', by go_num, by go_num, rfl, HO'.out, HB'.out, by omega, .inr ⟨rfl, HX.out⟩⟩
        case measure => simp [intOf]
    · have R1 : Hid (SR wr (full s) _) := HO.out.sr
      have hgt : ¬ ((s.size : Int) + 1 ≤ (s.size : Int)) := by omega
      clear HO HS
      rcases HR.out with ⟨rfl, rfl⟩ | ⟨hz, rfl⟩
      · clear HR
        go_wp2_with fail
        refine (HP.out _ _ R1.out).mono ?_
        rintro e w2 ⟨rfl, hb2⟩
        go_wp2
        go_ret2
        exact ⟨_, _, rfl, R1.out.keep hb2, HB.out.trans (hb2.mono HB.out.size)⟩
      · have hz' : (z == 0) = false := beq_eq_false_iff_ne.2 hz
        generalize full s = l at *
        clear hz HR
        go_wp2_with fail
        refine (HP.out _ _ R1.out).mono ?_
        rintro e w2 ⟨rfl, hb2⟩
        go_wp2
        go_ret2
        exact ⟨_, _, rfl, ⟨_, _, rfl, Nat.zero_le _, .inl rfl⟩, HB.out.trans (hb2.mono HB.out.size)⟩
set_option maxHeartbeats 1000000 in
theorem splits3 (s : ByteArray) (w : World) (hs : s.size ≤ 1048576) : Calls Tryd.prog 3 #[.string s] w fun e w' => e = .returned (.bool true) ∧ Below w.heap.size w w' := by
  have H8 : Hid (∀ w, Calls Tryd.prog 8 #[.string s] w fun e w' => ∃ a c, e = .returned (.tuple #[.slice a (sq s).length c, .int .i64 (pe (spb 16 s))]) ∧ SR w' (sq s) (.slice a (sq s).length c) ∧ Below w.heap.size w w') := fun w => split8 s w (by omega)
  have H9 : Hid (∀ w, Calls Tryd.prog 9 #[.string s] w fun e w' => ∃ a c, e = .returned (.tuple #[.slice a (sq s).length c, .int .i64 (pe (spb 16 s))]) ∧ SR w' (sq s) (.slice a (sq s).length c) ∧ Below w.heap.size w w') := fun w => split9 s w hs
  have hl : (sq s).length * 16 ≤ 140737488351232 := by
    have := spb_len 16 s
    unfold sq; split
    · omega
    · simp
  generalize pe (spb 16 s) = z at *
  generalize sq s = l at *
  go_enter Tryd.func3, Tryd.ntmps3
  go_wp2_with fail
  refine (H8.out _).mono ?_
  rintro e w1 ⟨a, c, rfl, hr1, hb1⟩
  have R1 : Hid (SR w1 l (.slice a l.length c)) := hr1
  have B1 : Hid (Below w.heap.size w w1) := hb1
  clear hr1 hb1
  go_wp2_with fail
  refine (H9.out _).mono ?_
  rintro e w2 ⟨a2, c2, rfl, hr2, hb2⟩
  have R2 : Hid (SR w2 l (.slice a l.length c)) := R1.out.keep hb2
  have S2 : Hid (SR w2 l (.slice a2 l.length c2)) := hr2
  have B2 : Hid (Below w.heap.size w w2) := B1.out.trans (hb2.mono B1.out.size)
  clear hr2 hb2 R1 B1
  go_wp2_with fail
  refine (sameL hl _ _ _ R2.out S2.out).mono ?_
  rintro e w3 ⟨rfl, n, rfl⟩
  go_wp2
  go_ret
  exact ⟨rfl, B2.out.trans ((drN _ _).mono B2.out.size)⟩
end Go.Proofs.YtfpokhcddjgfmabDoor
