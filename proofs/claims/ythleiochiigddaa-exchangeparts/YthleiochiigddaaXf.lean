import Derived.Test.YthleiochiigddaaXe
namespace Go.Proofs.Ythleiochiigddaa
open Go.RowKit
theorem LB.at {G : Nat} {w : World} {a : Option Addr} {n c : Nat} {f : Nat → List UInt8} (h : LB G w (.slice a n c) n f) (i : Nat) (hi : i < n) : ∃ g u, a = some ⟨g, 0, Option.none⟩ ∧ w.cell? ⟨g, i, Option.none⟩ = some u ∧ OW G w u (f i) ∧ n ≤ c := by
  obtain ⟨us, h1, h2, h3⟩ := h
  have h2' := h2
  rcases h2.2 with ⟨e, h0⟩ | ⟨g, cap, cur, e, _, _, hle, _⟩
  · omega
  · simp only [Value.slice.injEq] at e
    obtain ⟨rfl, -, rfl⟩ := e
    refine ⟨g, us.getD i undef, rfl, ?_, h3 i hi, hle⟩
    rw [World.ownsRow.cellAt h2' i (show i < n * 1 by omega)]
    simp [List.getD, List.getElem?_eq_getElem (show i < us.length by omega)]
set_option maxHeartbeats 1000000 in
theorem rpartT (b v : Int) (s : Value) (l : List UInt8) (part : Int) (w : World) (hr : RB w s l) : Calls Try.prog 8 #[sc b v, s, .int .i64 part] w (QE w (pcL b v l part) (pcE b v l part)) := by
  have HR0 : Hid (RB w s l) := hr
  obtain ⟨a, c, rfl, -, -⟩ := hr
  have HS : Hid (BS (w.alloc (.cells #[.int .i64 b, .int .i64 v] 23)) w.heap.size b v) := heapNew _ _
  have b0 : Below w.heap.size w (w.alloc (.cells #[.int .i64 b, .int .i64 v] 23)) := (Below.refl _ _).alloc (Nat.le_refl _) _
  have HR : Hid (Below w.heap.size w (w.alloc (.cells #[.int .i64 b, .int .i64 v] 23)) ∧ RB (w.alloc (.cells #[.int .i64 b, .int .i64 v] 23)) (.slice a l.length c) l) := ⟨b0, HR0.out.keep b0⟩
  have hl0 := HS.out.c0
  have hl1 := HS.out.c1
  clear b0 HR0
  obtain ⟨len, hlen⟩ : ∃ n, l.length = n := ⟨_, rfl⟩
  have HN : Hid (l.length = len) := hlen
  rw [hlen] at HR ⊢
  clear hlen
  go_enter Try.func8, Try.ntmps8
  go_wp2_with fail
  generalize w.alloc (.cells #[.int .i64 b, .int .i64 v] 23) = w0 at *
  refine (rpartsT b v len w0).mono ?_
  rintro e w1 ⟨rfl, b1⟩
  have H1 : Hid (Below w.heap.size w w1 ∧ RB w1 (.slice a len c) l) := ⟨HR.out.1.trans (b1.mono HR.out.1.size), HR.out.2.keep b1⟩
  have hl0 := (HS.out.keep b1).c0
  have hl1 := (HS.out.keep b1).c1
  clear b1 HR HS
  rcases pt_three b v len with ⟨e1, e2⟩ | ⟨e1, e2⟩ | ⟨hg, hn1, hn2, e1, e2⟩
  · have HP : Hid (ptE b v l.length = 10) := by rw [HN.out]; exact e2
    rw [e1, e2]
    clear e1 e2
    go_wp2
    go_ret2
    exact QE.no HP.out (by decide) H1.out.1
  · have HP : Hid (ptE b v l.length = 230) := by rw [HN.out]; exact e2
    rw [e1, e2]
    clear e1 e2
    go_wp2
    go_ret2
    exact QE.no HP.out (by decide) H1.out.1
  · have HP : Hid (ptE b v l.length = 0 ∧ ptN b v l.length = cnt b len) := by rw [HN.out]; exact ⟨e2, e1⟩
    have hbd := pw_bd (gd_ok hg)
    rw [e1, e2]
    clear e1 e2 hg
    obtain ⟨B, rfl⟩ : ∃ B : Nat, b = B := ⟨b.toNat, by omega⟩
    have hcb := cnt_bd hbd.1 hn1 hn2
    have HC := Lib.hid (cutT B len v _ l (by omega) (by omega) (by omega) (by omega) HN.out w1 H1.out.2)
    obtain ⟨cn, hcn⟩ : ∃ n : Nat, (cnt (B : Int) len) = n := ⟨(cnt (B : Int) len).toNat, by omega⟩
    rw [hcn] at HC hcb HP ⊢
    rw [Int.toNat_natCast] at HC
    have HCN := Lib.hid hcn
    clear hcn
    go_wp2_with fail
    refine HC.out.mono ?_
    rintro e w2 ⟨lv, rfl, h2, b2⟩
    obtain ⟨al, cl, rfl⟩ := h2.form
    have H2 : Hid (LB w1.heap.size w2 (.slice al cn cl) cn (chk l B) ∧ Below w.heap.size w w2) := ⟨h2, H1.out.1.trans (b2.mono H1.out.1.size)⟩
    clear h2 b2 HC hl0 hl1
    by_cases h0 : part < 0
    · have q : decide (part < 0) = true := decide_eq_true h0
      go_wp2
      go_ret2
      exact QE.none HP.out.1 (.inl h0) H2.out.2
    have q : decide (part < 0) = false := decide_eq_false h0
    by_cases h1 : (cn : Int) ≤ part
    · have HQ : Hid (ptN (B : Int) v l.length ≤ part) := by rw [HP.out.2]; exact h1
      go_wp2
      go_ret2
      exact QE.none HP.out.1 (.inr HQ.out) H2.out.2
    have HQ : Hid (¬ (part < 0 ∨ ptN (B : Int) v l.length ≤ part)) := show ¬ (part < 0 ∨ ptN (B : Int) v l.length ≤ part) by rw [HP.out.2]; omega
    have HY := Lib.hid (pc_yes HP.out.1 HQ.out)
    obtain ⟨k, rfl⟩ : ∃ k : Nat, part = k := ⟨part.toNat, by omega⟩
    obtain ⟨g, u, rfl, hu, ou, hle⟩ := H2.out.1.at k (by omega)
    obtain ⟨au, cu, rfl⟩ := ou.form
    have H3 : Hid (QE w (pcL (B : Int) v l (k : Int)) (pcE (B : Int) v l (k : Int)) (.returned (.tuple #[.slice au (chk l B k).length cu, .int .i64 0])) w2) := by
      rw [HY.out.1, HY.out.2, Int.toNat_natCast, Int.toNat_natCast]
      exact ⟨au, cu, rfl, ou.rb, H2.out.2⟩
    have hkc : ¬ (cn : Int) ≤ (k : Int) := h1
    clear ou HY HQ HP HN
    generalize (chk l B k).length = ml at *
    go_wp2
    go_ret2
    exact H3.out
theorem pcL_len (b v : Int) (l : List UInt8) (part : Int) (h : l.length ≤ 140737488351232) : (pcL b v l part).length ≤ 140737488351232 := by
  unfold pcL
  split
  · split
    · simp
    · rw [List.length_take, List.length_drop]; omega
  · simp
set_option maxHeartbeats 2000000 in
theorem partsLaw (b v size : Int) (s : Value) (l : List UInt8) (part : Int) (w : World) (hr : RB w s l) (hl : l.length ≤ 140737488351232) :
    Calls Try.prog 3 #[sc b v, .int .i64 size, s, .int .i64 part] w fun e w' => e = .returned (.bool true) ∧ Below w.heap.size w w' := by
  have HR0 : Hid (RB w s l) := hr
  have HL : Hid (l.length ≤ 140737488351232) := hl
  obtain ⟨a, c, rfl, -, -⟩ := hr
  have HS : Hid (BS (w.alloc (.cells #[.int .i64 b, .int .i64 v] 23)) w.heap.size b v) := heapNew _ _
  have b0 : Below w.heap.size w (w.alloc (.cells #[.int .i64 b, .int .i64 v] 23)) := (Below.refl _ _).alloc (Nat.le_refl _) _
  have HR : Hid (Below w.heap.size w (w.alloc (.cells #[.int .i64 b, .int .i64 v] 23)) ∧ RB (w.alloc (.cells #[.int .i64 b, .int .i64 v] 23)) (.slice a l.length c) l) := ⟨b0, HR0.out.keep b0⟩
  have hl0 := HS.out.c0
  have hl1 := HS.out.c1
  clear b0 HR0 hl
  obtain ⟨len, hlen⟩ : ∃ n, l.length = n := ⟨_, rfl⟩
  have HN : Hid (l.length = len) := hlen
  rw [hlen] at HR ⊢
  clear hlen
  go_enter Try.func3, Try.ntmps3
  go_wp2_with fail
  generalize w.alloc (.cells #[.int .i64 b, .int .i64 v] 23) = w0 at *
  refine (partsT b v size w0).mono ?_
  rintro e w1 ⟨rfl, b1⟩
  have H1 : Hid (Below w.heap.size w w1 ∧ RB w1 (.slice a len c) l ∧ BS w1 w.heap.size b v) := ⟨HR.out.1.trans (b1.mono HR.out.1.size), HR.out.2.keep b1, HS.out.keep b1⟩
  have hl0 := H1.out.2.2.c0
  have hl1 := H1.out.2.2.c1
  clear b1 HR HS
  go_wp2_with fail
  refine (rpartsT b v size w1).mono ?_
  rintro e w2 ⟨rfl, b2⟩
  have H2 : Hid (Below w.heap.size w w2 ∧ RB w2 (.slice a len c) l ∧ BS w2 w.heap.size b v) := ⟨H1.out.1.trans (b2.mono H1.out.1.size), H1.out.2.1.keep b2, H1.out.2.2.keep b2⟩
  have hl0 := H2.out.2.2.c0
  have hl1 := H2.out.2.2.c1
  clear b2 H1
  generalize ptN b v size = n1 at *
  generalize ptE b v size = n2 at *
  go_wp2_with fail
  refine (twinT _ l w2 H2.out.2.1 HL.out).mono ?_
  rintro e w3 ⟨v3, rfl, o3, b3⟩
  obtain ⟨a3, c3, rfl⟩ := o3.form
  have H3 : Hid (Below w.heap.size w w3 ∧ RB w3 (.slice a len c) l ∧ BS w3 w.heap.size b v ∧ RB w3 (.slice a3 l.length c3) l) := ⟨H2.out.1.trans (b3.mono H2.out.1.size), H2.out.2.1.keep b3, H2.out.2.2.keep b3, o3.rb⟩
  rw [HN.out] at H3 ⊢
  have hl0 := H3.out.2.2.1.c0
  have hl1 := H3.out.2.2.1.c1
  clear o3 b3 H2
  go_wp2_with fail
  refine (partT b v _ l part w3 H3.out.2.1).mono ?_
  rintro e w4 ⟨a4, c4, rfl, r4, b4⟩
  have H4 : Hid (Below w.heap.size w w4 ∧ RB w4 (.slice a len c) l ∧ BS w4 w.heap.size b v ∧ RB w4 (.slice a3 len c3) l ∧ RB w4 (.slice a4 (pcL b v l part).length c4) (pcL b v l part)) := ⟨H3.out.1.trans (b4.mono H3.out.1.size), H3.out.2.1.keep b4, H3.out.2.2.1.keep b4, H3.out.2.2.2.keep b4, r4⟩
  have hl0 := H4.out.2.2.1.c0
  have hl1 := H4.out.2.2.1.c1
  clear r4 b4 H3
  go_wp2_with fail
  refine (rpartT b v _ l part w4 H4.out.2.2.2.1).mono ?_
  rintro e w5 ⟨a5, c5, rfl, r5, b5⟩
  have H5 : Hid (Below w.heap.size w w5 ∧ RB w5 (.slice a len c) l ∧ RB w5 (.slice a3 len c3) l ∧ RB w5 (.slice a4 (pcL b v l part).length c4) (pcL b v l part) ∧ RB w5 (.slice a5 (pcL b v l part).length c5) (pcL b v l part)) := ⟨H4.out.1.trans (b5.mono H4.out.1.size), H4.out.2.1.keep b5, H4.out.2.2.2.1.keep b5, H4.out.2.2.2.2.keep b5, r5⟩
  have HQ := Lib.hid (pcL_len b v l part HL.out)
  clear r5 b5 H4
  generalize pcE b v l part = n3 at *
  generalize pcL b v l part = L at *
  obtain ⟨ml, hml⟩ : ∃ n, L.length = n := ⟨_, rfl⟩
  have HM : Hid (L.length = ml) := hml
  rw [hml] at H5 HQ ⊢
  clear hml
  go_wp2_with fail
  refine (same _ _ L w5 (by rw [HM.out]; exact HQ.out) H5.out.2.2.2.1 H5.out.2.2.2.2).mono ?_
  rintro e w6 ⟨rfl, nn, rfl⟩
  have H6 : Hid (RB (w5.drewN nn) (.slice a len c) l ∧ RB (w5.drewN nn) (.slice a3 len c3) l ∧ Below w.heap.size w (w5.drewN nn)) := ⟨H5.out.2.1.keep (belowDrew w5 nn), H5.out.2.2.1.keep (belowDrew w5 nn), belowN H5.out.1 nn⟩
  go_wp2_with fail
  refine (same _ _ l _ HL.out H6.out.1 H6.out.2.1).mono ?_
  rintro e w7 ⟨rfl, nm, rfl⟩
  go_wp2
  go_ret
  exact ⟨rfl, belowN H5.out.1 _⟩
end Go.Proofs.Ythleiochiigddaa
