import Derived.Test.YtmfbhihjiebagaaDoorMb
namespace Go.Proofs.YtmfbhihjiebagaaDoor
open Go.Shelf Go.RowKit
shelf_lay Lays.n217 Nm 217 at Tryd as laysIB
theorem slIndexByte (s : ByteArray) (x : UInt8) (w : World) :
    Calls Tryd.prog 29 #[.string s, .int .u8 (x.toNat : Int)] w fun e w' => e = .returned (.int .i64 (Lib.indexByte s.data.toList x)) ∧ w' = w :=
  (Any.stringslite_IndexByte laysIB s (x.toNat : Int) w).mono fun e w' ⟨h1, h2⟩ => ⟨by rw [h1]; simp, h2⟩
theorem indexByte (s : ByteArray) (x : UInt8) (w : World) :
    Calls Tryd.prog 16 #[.string s, .int .u8 (x.toNat : Int)] w fun e w' => e = .returned (.int .i64 (Lib.indexByte s.data.toList x)) ∧ w' = w := by
  have HC := slIndexByte s x
  generalize Lib.indexByte s.data.toList x = p at *
  go_enter Tryd.func16, Tryd.ntmps16
  go_wp2_with fail
  refine (HC _).mono ?_
  rintro e w1 ⟨rfl, rfl⟩
  go_wp2
  go_ret
  exact ⟨rfl, rfl⟩
/-- the value of a digit, -1 if it is none -/
def ix (x : UInt8) : Int := Lib.indexByte dgL x
theorem ix_hi : ∀ n : Fin 256, -1 ≤ ix (UInt8.ofNat n.val) ∧ ix (UInt8.ofNat n.val) ≤ 15 := by decide +kernel
theorem ix_bd (x : UInt8) : -1 ≤ ix x ∧ ix x ≤ 15 := by
  have := ix_hi ⟨x.toNat, x.toNat_lt⟩
  simpa using this
def cod (a b : Int) : UInt8 := UInt8.ofNat (16 * a + b).toNat
/-- the byte that a text begins with, and how many bytes stand for it -/
def stp (l : List UInt8) : Option (UInt8 × Nat) :=
  if isB (l.getD 0 0) then some (l.getD 0 0, 1)
  else if l.getD 0 0 ≠ 37 ∨ l.length < 3 then none
  else if ix (l.getD 1 0) < 0 ∨ ix (l.getD 2 0) < 0 then none
  else if isB (cod (ix (l.getD 1 0)) (ix (l.getD 2 0))) then none else some (cod (ix (l.getD 1 0)) (ix (l.getD 2 0)), 3)
def stC (l : List UInt8) : UInt8 := match stp l with | some (c, _) => c | none => 0
def stN (l : List UInt8) : Nat := match stp l with | some (_, n) => n | none => 0
theorem or_256_0 : ∀ a b : Fin 16, bits .or .i64 ((a.val : Int) * 16) (b.val : Int) % 256 = 16 * (a.val : Int) + (b.val : Int) := by decide +kernel
theorem or_256 {a b : Int} (ha : 0 ≤ a) (ha' : a ≤ 15) (hb : 0 ≤ b) (hb' : b ≤ 15) : bits .or .i64 (a * 16) b % 256 = ((cod a b).toNat : Int) := by
  have := or_256_0 ⟨a.toNat, by omega⟩ ⟨b.toNat, by omega⟩
  rw [Int.toNat_of_nonneg ha, Int.toNat_of_nonneg hb] at this
  rw [this, cod, UInt8.toNat_ofNat']
  omega
theorem bgetD (s : ByteArray) (k : Nat) (h : k < s.size) : s.data.toList.getD k 0 = s[k] := by
  rw [List.getD, bget s k h]; rfl
theorem ret_un {a b : UInt8} {m n : Nat} (h1 : a = b) (h2 : m = n) : Ending.returned (.tuple #[.int .u8 (a.toNat : Int), .int .i64 (m : Int)]) = .returned (.tuple #[.int .u8 (b.toNat : Int), .int .i64 (n : Int)]) := by rw [h1, h2]
theorem digD : (({ data := #[48, 49, 50, 51, 52, 53, 54, 55, 56, 57, 65, 66, 67, 68, 69, 70] } : ByteArray)).data.toList = dgL := rfl
set_option maxHeartbeats 1000000 in
set_option maxRecDepth 100000 in
theorem firstByte (t : ByteArray) (w : World) (hT : BT w) (h0 : 0 < t.size) (hs : t.size ≤ 140737488355328) :
    Calls Tryd.prog 31 #[.string t] w fun e w' => e = .returned (.tuple #[.int .u8 ((stC t.data.toList).toNat : Int), .int .i64 (stN t.data.toList : Int)]) ∧ ∃ n, w' = w.drewN n := by
  have HT : Hid (BT w) := hT
  clear hT
  have hx0 := index_s t 0 h0 0 rfl
  have e0 := bgetD t 0 h0
  have hl : t.data.toList.length = t.size := by simp
  cases hb : isB t[0]
  · by_cases h37 : t[0] = 37
    · by_cases h3 : 2 < t.size
      · have h1s : 1 < t.size := by omega
        have hx1 := index_s t 1 h1s 1 rfl
        have hx2 := index_s t 2 h3 2 rfl
        have e1 := bgetD t 1 h1s
        have e2 := bgetD t 2 h3
        have b1 := ix_bd t[1]
        have b2 := ix_bd t[2]
        have hc1 : ∀ w, Calls Tryd.prog 16 #[.string { data := #[48, 49, 50, 51, 52, 53, 54, 55, 56, 57, 65, 66, 67, 68, 69, 70] }, .int .u8 (t[1].toNat : Int)] w fun e w' => e = .returned (.int .i64 (ix t[1])) ∧ w' = w := fun w => indexByte { data := #[48, 49, 50, 51, 52, 53, 54, 55, 56, 57, 65, 66, 67, 68, 69, 70] } t[1] w
        have hc2 : ∀ w, Calls Tryd.prog 16 #[.string { data := #[48, 49, 50, 51, 52, 53, 54, 55, 56, 57, 65, 66, 67, 68, 69, 70] }, .int .u8 (t[2].toNat : Int)] w fun e w' => e = .returned (.int .i64 (ix t[2])) ∧ w' = w := fun w => indexByte { data := #[48, 49, 50, 51, 52, 53, 54, 55, 56, 57, 65, 66, 67, 68, 69, 70] } t[2] w
        have HS : Hid (stp t.data.toList = if ix t[1] < 0 ∨ ix t[2] < 0 then none else if isB (cod (ix t[1]) (ix t[2])) then none else some (cod (ix t[1]) (ix t[2]), 3)) := by
          have h4 : ¬ (t[0] ≠ 37 ∨ t.data.toList.length < 3) := by
            rw [hl]
            rintro (h | h)
            · exact h h37
            · omega
          have h5 : stp t.data.toList = if ix t[1] < 0 ∨ ix t[2] < 0 then none else if isB (cod (ix t[1]) (ix t[2])) then none else some (cod (ix t[1]) (ix t[2]), 3) := by
            unfold stp; rw [e0, e1, e2, hb, if_neg (by simp), if_neg h4]
          exact h5
        clear e0 e1 e2 hl
        rw [h37] at hx0 hb
        generalize ix t[1] = a at *
        generalize ix t[2] = b at *
        generalize t[1] = y1 at *
        generalize t[2] = y2 at *
        clear h37
        have hz : ¬ (t.size : Int) < 3 := by omega
        obtain ⟨b11, b12⟩ := b1
        obtain ⟨b21, b22⟩ := b2
        go_enter Tryd.func31, Tryd.ntmps31
        go_wp2_with fail
        refine (isBare 37 _ HT.out).mono ?_
        rintro e w1 ⟨rfl, rfl⟩
        rw [hb]
        go_wp2
        go_quiet ((go_at_call 16; first | exact Calls.quiet_of_same (hc1 _) | exact Calls.quiet_of_same (hc2 _)))
        by_cases ha : a < 0
        · have HR : Hid ((0 : UInt8) = stC t.data.toList ∧ 0 = stN t.data.toList) := by
            have := HS.out; rw [if_pos (.inl ha)] at this
            exact (⟨by rw [stC, this], by rw [stN, this]⟩ : (0 : UInt8) = stC t.data.toList ∧ 0 = stN t.data.toList)
          clear HS hc1 hc2
          go_wp2
          go_ret2
          exact ⟨ret_un HR.out.1 HR.out.2, _, rfl⟩
        · by_cases hb2 : b < 0
          · have HR : Hid ((0 : UInt8) = stC t.data.toList ∧ 0 = stN t.data.toList) := by
              have := HS.out; rw [if_pos (.inr hb2)] at this
              exact (⟨by rw [stC, this], by rw [stN, this]⟩ : (0 : UInt8) = stC t.data.toList ∧ 0 = stN t.data.toList)
            clear HS hc1 hc2
            go_wp2
            go_ret2
            exact ⟨ret_un HR.out.1 HR.out.2, _, rfl⟩
          · have HS2 : Hid (stp t.data.toList = if isB (cod a b) then none else some (cod a b, 3)) := by
              have := HS.out; rw [if_neg (by omega)] at this; exact this
            have hor := or_256 (by omega) b12 (by omega) b22
            clear HS hc1 hc2
            generalize cod a b = c at *
            go_wp2_with fail
            refine (isBare c _ (HT.out.drew _)).mono ?_
            rintro e w2 ⟨rfl, rfl⟩
            cases hbc : isB c
            · have HR : Hid (c = stC t.data.toList ∧ 3 = stN t.data.toList) := by
                have := HS2.out; rw [hbc, if_neg (by simp)] at this
                exact (⟨by rw [stC, this], by rw [stN, this]⟩ : c = stC t.data.toList ∧ 3 = stN t.data.toList)
              clear HS2
              go_wp2
              go_ret2
              exact ⟨ret_un HR.out.1 HR.out.2, _, rfl⟩
            · have HR : Hid ((0 : UInt8) = stC t.data.toList ∧ 0 = stN t.data.toList) := by
                have := HS2.out; rw [hbc, if_pos rfl] at this
                exact (⟨by rw [stC, this], by rw [stN, this]⟩ : (0 : UInt8) = stC t.data.toList ∧ 0 = stN t.data.toList)
              clear HS2
              go_wp2
              go_ret2
              exact ⟨ret_un HR.out.1 HR.out.2, _, rfl⟩
      · have HR : Hid ((0 : UInt8) = stC t.data.toList ∧ 0 = stN t.data.toList) := by
          have h5 : stp t.data.toList = none := by unfold stp; rw [e0, hb, if_neg (by simp), if_pos (.inr (by rw [hl]; omega))]
          exact (⟨by rw [stC, h5], by rw [stN, h5]⟩ : (0 : UInt8) = stC t.data.toList ∧ 0 = stN t.data.toList)
        have hz : (t.size : Int) < 3 := by omega
        clear e0 hl
        rw [h37] at hx0 hb
        clear h37
        go_enter Tryd.func31, Tryd.ntmps31
        go_wp2_with fail
        refine (isBare 37 _ HT.out).mono ?_
        rintro e w1 ⟨rfl, rfl⟩
        rw [hb]
        go_wp2
        go_ret2
        exact ⟨ret_un HR.out.1 HR.out.2, 0, rfl⟩
    · have HR : Hid ((0 : UInt8) = stC t.data.toList ∧ 0 = stN t.data.toList) := by
        have h5 : stp t.data.toList = none := by unfold stp; rw [e0, hb, if_neg (by simp), if_pos (.inl h37)]
        exact (⟨by rw [stC, h5], by rw [stN, h5]⟩ : (0 : UInt8) = stC t.data.toList ∧ 0 = stN t.data.toList)
      clear e0 hl
      generalize t[0] = y at *
      have hne : ¬ (y.toNat : Int) = 37 := by
        intro h
        exact h37 (UInt8.toNat_inj.1 (by show y.toNat = 37; omega))
      clear h37
      go_enter Tryd.func31, Tryd.ntmps31
      go_wp2_with fail
      refine (isBare y _ HT.out).mono ?_
      rintro e w1 ⟨rfl, rfl⟩
      rw [hb]
      go_wp2
      go_ret2
      exact ⟨ret_un HR.out.1 HR.out.2, 0, rfl⟩
  · have HR : Hid (t[0] = stC t.data.toList ∧ 1 = stN t.data.toList) := by
      have h5 : stp t.data.toList = some (t[0], 1) := by unfold stp; rw [e0, hb, if_pos rfl]
      exact (⟨by rw [stC, h5], by rw [stN, h5]⟩ : t[0] = stC t.data.toList ∧ 1 = stN t.data.toList)
    clear e0 hl
    generalize t[0] = y at *
    go_enter Tryd.func31, Tryd.ntmps31
    go_wp2_with fail
    refine (isBare y _ HT.out).mono ?_
    rintro e w1 ⟨rfl, rfl⟩
    rw [hb]
    go_wp2
    go_ret2
    exact ⟨ret_un HR.out.1 HR.out.2, 0, rfl⟩
end Go.Proofs.YtmfbhihjiebagaaDoor
