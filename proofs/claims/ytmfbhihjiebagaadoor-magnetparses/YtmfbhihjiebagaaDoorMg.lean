import Derived.Test.YtmfbhihjiebagaaDoorMf
namespace Go.Proofs.YtmfbhihjiebagaaDoor
open Go.Shelf Go.RowKit
theorem drop_getD (l : List UInt8) (k j : Nat) : (l.drop k).getD j 0 = l.getD (k + j) 0 := by simp [List.getD]
theorem stN_of {l : List UInt8} {c : UInt8} {n : Nat} (h : stp l = some (c, n)) : stN l = n ∧ stC l = c := by rw [stN, stC, h]; exact ⟨rfl, rfl⟩
theorem stN_no {l : List UInt8} (h : stp l = none) : stN l = 0 := by rw [stN, h]
theorem cod16 {a b : Int} (ha : 0 ≤ a) (ha' : a ≤ 15) (hb : 0 ≤ b) (hb' : b ≤ 15) : IntKind.u8.wrap (16 * a + b) = ((cod a b).toNat : Int) := by
  rw [IntKind.wrap_u8, cod, UInt8.toNat_ofNat']; omega
set_option maxHeartbeats 1000000 in
set_option maxRecDepth 100000 in
theorem runescape (s : ByteArray) (w : World) (hs : s.size ≤ 140737488351232) :
    Calls Tryd.prog 23 #[.string s] w fun e w' => e = .returned (.tuple #[.string ⟨(uneL s.data.toList).1.toArray⟩, .int .i64 (uneL s.data.toList).2]) ∧ Below w.heap.size w w' := by
  have HZ : Hid (s.data.toList.length = s.size) := (by simp : s.data.toList.length = s.size)
  go_enter Tryd.func23, Tryd.ntmps23
  go_wp2
  go_loopw [4, 5] (fun v t wr => ∃ (k n : Nat) (a : Option Addr) (c : Nat), k ≤ s.size ∧ t = .int .i64 k ∧ v = .slice a n c ∧ Hid (∃ acc f, acc.length ≤ k ∧ s.size - k < f ∧ uneL s.data.toList = une f s.data.toList k acc ∧ OW w.heap.size wr v acc) ∧ Hid (Below w.heap.size w wr)) (fun _ t _ => s.size - (intOf t).toNat)
  case atStart => exact ⟨0, 0, none, 0, Nat.zero_le _, rfl, rfl, (⟨[], s.data.toList.length + 1, Nat.le_refl _, by have := HZ.out; omega, rfl, World.ownsRow_nil _ _ _ _⟩ : ∃ (acc : List UInt8) (f : Nat), acc.length ≤ 0 ∧ s.size - 0 < f ∧ uneL s.data.toList = une f s.data.toList 0 acc ∧ OW w.heap.size _ _ acc), (Below.refl _ _ : Below w.heap.size w _)⟩
  case round =>
    obtain ⟨k, n, a, c, hk, rfl, rfl, hh, hbel⟩ := hrel
    obtain ⟨acc, f, ha, hf, hu, how⟩ := hh.out
    obtain ⟨g, rfl⟩ : ∃ g, f = g + 1 := ⟨f - 1, by omega⟩
    have HI : Hid (acc.length ≤ k ∧ s.size - k < g + 1 ∧ uneL s.data.toList = une (g + 1) s.data.toList k acc) := ⟨ha, hf, hu⟩
    have HO : Hid (OW w.heap.size wr (.slice a n c) acc) := how
    clear hh ha hf hu how
    by_cases hlt : k < s.size
    · have hlt' : (k : Int) < (s.size : Int) := by omega
      have hx0 := index_s s k hlt k rfl
      have HU : Hid (uneL s.data.toList = if stN (s.data.toList.drop k) = 0 then ([], (k : Int)) else une g s.data.toList (k + stN (s.data.toList.drop k)) (acc ++ [stC (s.data.toList.drop k)])) := by
        have h2 := HI.out.2.2
        have h3 := HZ.out
        rw [une, if_neg (by omega)] at h2
        exact h2
      have HN : Hid (k + stN (s.data.toList.drop k) ≤ s.size) := by have := HZ.out; have h2 := stN_drop (l := s.data.toList) (k := k) (by omega); rw [this] at h2; exact h2
      have HNO : Hid (stp (s.data.toList.drop k) = none → (⟨#[]⟩ : ByteArray) = ⟨(uneL s.data.toList).1.toArray⟩ ∧ (k : Int) = (uneL s.data.toList).2) := by
        have h3 : stp (s.data.toList.drop k) = none → (⟨#[]⟩ : ByteArray) = ⟨(uneL s.data.toList).1.toArray⟩ ∧ (k : Int) = (uneL s.data.toList).2 := fun h => by
          have h2 := HU.out
          rw [if_pos (stN_no h)] at h2
          exact ⟨by rw [h2], by rw [h2]⟩
        exact h3
      have HYES : Hid (∀ (y : UInt8) (m : Nat) (w2 : World) (v : Value), 0 < m → stp (s.data.toList.drop k) = some (y, m) → OW w.heap.size w2 v (acc ++ [y]) → k + m ≤ s.size ∧ ∃ (acc' : List UInt8) (f : Nat), acc'.length ≤ k + m ∧ s.size - (k + m) < f ∧ uneL s.data.toList = une f s.data.toList (k + m) acc' ∧ OW w.heap.size w2 v acc') := by
        have h3 : ∀ (y : UInt8) (m : Nat) (w2 : World) (v : Value), 0 < m → stp (s.data.toList.drop k) = some (y, m) → OW w.heap.size w2 v (acc ++ [y]) → k + m ≤ s.size ∧ ∃ (acc' : List UInt8) (f : Nat), acc'.length ≤ k + m ∧ s.size - (k + m) < f ∧ uneL s.data.toList = une f s.data.toList (k + m) acc' ∧ OW w.heap.size w2 v acc' := fun y m w2 v hm h ho => by
          obtain ⟨e1, e2⟩ := stN_of h
          have h2 := HU.out
          have h4 := HN.out
          have h5 := HI.out
          rw [e1, e2, if_neg (by omega)] at h2
          rw [e1] at h4
          exact ⟨h4, acc ++ [y], g, by simp; omega, by omega, h2, ho⟩
        exact h3
      have HL : Hid (acc.length ≤ k) := HI.out.1
      clear HU HN HI
      have hg0 : (s.data.toList.drop k).getD 0 0 = s[k] := by rw [drop_getD, Nat.add_zero, bgetD s k hlt]
      have hl0 : (s.data.toList.drop k).length = s.size - k := by simp
      go_wp2_with fail
      refine (rbare s[k] _).mono ?_
      rintro e w1 ⟨rfl, rfl⟩
      cases hb : isB s[k]
      · by_cases h37 : s[k] = 37
        · by_cases h3 : k + 2 < s.size
          · have h1s : k + 1 < s.size := by omega
            have hx1 := index_s s (k + 1) h1s ((k : Int) + 1) (by omega)
            have hx2 := index_s s (k + 2) h3 ((k : Int) + 2) (by omega)
            have hg1 : (s.data.toList.drop k).getD 1 0 = s[k + 1] := by rw [drop_getD, bgetD s (k + 1) h1s]
            have hg2 : (s.data.toList.drop k).getD 2 0 = s[k + 2] := by rw [drop_getD, bgetD s (k + 2) h3]
            have b1 := ix_bd s[k + 1]
            have b2 := ix_bd s[k + 2]
            have hc1 : ∀ w, Calls Tryd.prog 22 #[.string { data := #[48, 49, 50, 51, 52, 53, 54, 55, 56, 57, 65, 66, 67, 68, 69, 70] }, .int .u8 (s[k + 1].toNat : Int)] w fun e w' => e = .returned (.int .i64 (ix s[k + 1])) ∧ w' = w := fun w => rplace { data := #[48, 49, 50, 51, 52, 53, 54, 55, 56, 57, 65, 66, 67, 68, 69, 70] } s[k + 1] w (by decide)
            have hc2 : ∀ w, Calls Tryd.prog 22 #[.string { data := #[48, 49, 50, 51, 52, 53, 54, 55, 56, 57, 65, 66, 67, 68, 69, 70] }, .int .u8 (s[k + 2].toNat : Int)] w fun e w' => e = .returned (.int .i64 (ix s[k + 2])) ∧ w' = w := fun w => rplace { data := #[48, 49, 50, 51, 52, 53, 54, 55, 56, 57, 65, 66, 67, 68, 69, 70] } s[k + 2] w (by decide)
            have HS : Hid (stp (s.data.toList.drop k) = if ix s[k + 1] < 0 ∨ ix s[k + 2] < 0 then none else if isB (cod (ix s[k + 1]) (ix s[k + 2])) then none else some (cod (ix s[k + 1]) (ix s[k + 2]), 3)) := by
              have h4 : ¬ (s[k] ≠ 37 ∨ (s.data.toList.drop k).length < 3) := by
                rw [hl0]
                rintro (h | h)
                · exact h h37
                · omega
              have h5 : stp (s.data.toList.drop k) = if ix s[k + 1] < 0 ∨ ix s[k + 2] < 0 then none else if isB (cod (ix s[k + 1]) (ix s[k + 2])) then none else some (cod (ix s[k + 1]) (ix s[k + 2]), 3) := by
                unfold stp; rw [hg0, hg1, hg2, hb, if_neg (by simp), if_neg h4]
              exact h5
            clear hg0 hg1 hg2 hl0
            rw [h37] at hx0
            clear hb
            generalize ix s[k + 1] = x at *
            generalize ix s[k + 2] = y at *
            generalize s[k + 1] = y1 at *
            generalize s[k + 2] = y2 at *
            clear h37
            obtain ⟨b11, b12⟩ := b1
            obtain ⟨b21, b22⟩ := b2
            go_wp2_with fail
            refine (hc1 _).mono ?_
            rintro e w2 ⟨rfl, rfl⟩
            go_wp2_with fail
            refine (hc2 _).mono ?_
            rintro e w3 ⟨rfl, rfl⟩
            clear hc1 hc2
            by_cases hx : x < 0
            · have HR := HNO.out (by have := HS.out; rw [if_pos (.inl hx)] at this; exact this)
              have HR2 : Hid ((⟨#[]⟩ : ByteArray) = ⟨(uneL s.data.toList).1.toArray⟩ ∧ (k : Int) = (uneL s.data.toList).2) := HR
              clear HS HR HNO HYES
              go_wp2
              go_ret2
              exact ⟨ret_si HR2.out.1 HR2.out.2, hbel.out⟩
            · by_cases hy : y < 0
              · have HR := HNO.out (by have := HS.out; rw [if_pos (.inr hy)] at this; exact this)
                have HR2 : Hid ((⟨#[]⟩ : ByteArray) = ⟨(uneL s.data.toList).1.toArray⟩ ∧ (k : Int) = (uneL s.data.toList).2) := HR
                clear HS HR HNO HYES
                go_wp2
                go_ret2
                exact ⟨ret_si HR2.out.1 HR2.out.2, hbel.out⟩
              · have HS2 : Hid (stp (s.data.toList.drop k) = if isB (cod x y) then none else some (cod x y, 3)) := by
                  have := HS.out; rw [if_neg (by omega)] at this; exact this
                have hor := cod16 (by omega) b12 (by omega) b22
                clear HS
                generalize cod x y = z at *
                go_wp2_with fail
                refine (rbare z _).mono ?_
                rintro e w4 ⟨rfl, rfl⟩
                cases hbz : isB z
                · have HS3 : Hid (stp (s.data.toList.drop k) = some (z, 3)) := by
                    have := HS2.out; rw [hbz, if_neg (by simp)] at this; exact this
                  clear HS2 HNO
                  go_wp2_with (at_builtin; refine append_byte rfl (.tmp 63) (.tmp 69) rfl rfl (HO.out.alloc _) _ z rfl (by simp) (by have := hbel.out.size; simp; omega) (by have := HL.out; omega) ?_; intro v' w5 hown' hb5)
                  obtain ⟨a', c', rfl⟩ := hown'.form
                  have HH := HYES.out z 3 w5 _ (by omega) HS3.out hown'
                  have hk3 := HH.1
                  have HH2 : Hid _ := HH.2
                  have HB : Hid (Below w.heap.size w w5) := (hbel.out.alloc hbel.out.size _).trans hb5
                  clear HH hb5 hbel hown' HS3 HYES HO HL
                  go_wp2
                  go_roundw
                  case rel => exact ⟨k + 3, _, a', c', by omega, by go_num, rfl, HH2, HB⟩
                  case measure => simp [intOf]; omega
                · have HR := HNO.out (by have := HS2.out; rw [hbz, if_pos rfl] at this; exact this)
                  have HR2 : Hid ((⟨#[]⟩ : ByteArray) = ⟨(uneL s.data.toList).1.toArray⟩ ∧ (k : Int) = (uneL s.data.toList).2) := HR
                  clear HS2 HR HNO HYES
                  go_wp2
                  go_ret2
                  exact ⟨ret_si HR2.out.1 HR2.out.2, hbel.out⟩
          · have HR := HNO.out (by unfold stp; rw [hg0, hb, if_neg (by simp), if_pos (.inr (by rw [hl0]; omega))])
            have HR2 : Hid ((⟨#[]⟩ : ByteArray) = ⟨(uneL s.data.toList).1.toArray⟩ ∧ (k : Int) = (uneL s.data.toList).2) := HR
            have hz : ¬ ((k : Int) + 2 < (s.size : Int)) := by omega
            clear HR HNO HYES hg0 hl0
            rw [h37] at hx0
            go_wp2
            go_ret2
            exact ⟨ret_si HR2.out.1 HR2.out.2, hbel.out⟩
        · have HR := HNO.out (by unfold stp; rw [hg0, hb, if_neg (by simp), if_pos (.inl h37)])
          have HR2 : Hid ((⟨#[]⟩ : ByteArray) = ⟨(uneL s.data.toList).1.toArray⟩ ∧ (k : Int) = (uneL s.data.toList).2) := HR
          clear HR HNO HYES hg0 hl0
          generalize s[k] = y at *
          have hne : ¬ (y.toNat : Int) = 37 := by
            intro h
            exact h37 (UInt8.toNat_inj.1 (by show y.toNat = 37; omega))
          clear h37
          go_wp2
          go_ret2
          exact ⟨ret_si HR2.out.1 HR2.out.2, hbel.out⟩
      · have HS3 : Hid (stp (s.data.toList.drop k) = some (s[k], 1)) := by
          have h5 : stp (s.data.toList.drop k) = some (s[k], 1) := by unfold stp; rw [hg0, hb, if_pos rfl]
          exact h5
        clear HNO hg0 hl0
        generalize s[k] = z at *
        go_wp2_with (at_builtin; refine append_byte rfl (.tmp 18) (.tmp 22) rfl rfl (HO.out.alloc _) _ z rfl (by simp) (by have := hbel.out.size; simp; omega) (by have := HL.out; omega) ?_; intro v' w5 hown' hb5)
        obtain ⟨a', c', rfl⟩ := hown'.form
        have HH := HYES.out z 1 w5 _ (by omega) HS3.out hown'
        have hk3 := HH.1
        have HH2 : Hid _ := HH.2
        have HB : Hid (Below w.heap.size w w5) := (hbel.out.alloc hbel.out.size _).trans hb5
        clear HH hb5 hbel hown' HS3 HYES HO HL
        go_wp2
        go_roundw
        case rel => exact ⟨k + 1, _, a', c', by omega, by go_num, rfl, HH2, HB⟩
        case measure => simp [intOf]; omega
    · have hkl : k = s.size := by omega
      subst hkl
      have HR : Hid ((⟨acc.toArray⟩ : ByteArray) = ⟨(uneL s.data.toList).1.toArray⟩ ∧ -1 = (uneL s.data.toList).2) := by
        have h2 := HI.out.2.2
        have h3 := HZ.out
        rw [une, if_pos (by omega)] at h2
        exact (⟨by rw [h2], by rw [h2]⟩ : (⟨acc.toArray⟩ : ByteArray) = ⟨(uneL s.data.toList).1.toArray⟩ ∧ -1 = (uneL s.data.toList).2)
      have hcv := conv_rb HO.out.rb
      clear HI HO
      go_wp2
      go_ret2
      exact ⟨ret_si HR.out.1 HR.out.2, hbel.out⟩
end Go.Proofs.YtmfbhihjiebagaaDoor
