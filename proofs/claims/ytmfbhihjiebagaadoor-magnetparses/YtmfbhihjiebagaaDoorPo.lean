import Derived.Test.YtmfbhihjiebagaaDoorPn
import Derived.Shelf.Strconv.AtoiAll
namespace Go.Proofs.YtmfbhihjiebagaaDoor
open Go.Shelf Go.RowKit Go.Deep
shelf_lay LaysC.n172 Nm 172 at Tryd as laysAtoi
/-- the variables that a number's reading needs: the table of powers, the two errors -/
def TG (w : World) : Prop := (∀ w', Below w.heap.size w w' → Lib.TabIs Tryd.prog w' "internal/strconv.uint64pow10" .u64 Lib.pow10Tab) ∧ (∃ ev, w.cell? ⟨laysAtoi_ren.g 15, 0, none⟩ = some ev ∧ (ev = .nilIface ∨ ∃ te pe, ev = .iface te pe)) ∧ (∃ ev, w.cell? ⟨laysAtoi_ren.g 16, 0, none⟩ = some ev ∧ (ev = .nilIface ∨ ∃ te pe, ev = .iface te pe))
theorem TG.below {w w' : World} (h : TG w) (hb : Below w.heap.size w w') : TG w' := by
  obtain ⟨h1, ⟨e1, c1, k1⟩, ⟨e2, c2, k2⟩⟩ := h
  exact ⟨fun w'' hb2 => h1 w'' (hb.trans (hb2.mono hb.size)), ⟨e1, (hb.cell (p := ⟨laysAtoi_ren.g 15, 0, none⟩) (Lib.lt_of_cell c1)).trans c1, k1⟩, ⟨e2, (hb.cell (p := ⟨laysAtoi_ren.g 16, 0, none⟩) (Lib.lt_of_cell c2)).trans c2, k2⟩⟩
/-- a place, as it is written -/
def plO (s : ByteArray) : Option Nat := match Lib.atoiAll s.data.toList with
  | .ok v => if 0 ≤ v ∧ v < 4096 ∧ ((⟨(Lib.itoa v).toArray⟩ : ByteArray).toList == s.toList) = true then some v.toNat else none
  | _ => none
/-- Atoi, told once: the number and no error, or an error -/
theorem atoi64 (s : ByteArray) (w : World) (hs : s.size ≤ 4096) (hT : TG w) :
    Calls Tryd.prog 64 #[.string s] w fun e w' => ((∃ v, Lib.atoiAll s.data.toList = .ok v ∧ e = .returned (.tuple #[.int .i64 v, .nilIface])) ∨ ((∀ v, Lib.atoiAll s.data.toList ≠ .ok v) ∧ ∃ n t N, e = .returned (.tuple #[.int .i64 n, .iface t (.pointer (some ⟨N, 0, none⟩))]))) ∧ Below w.heap.size w w' := by
  obtain ⟨_, ⟨e1, c1, k1⟩, ⟨e2, c2, k2⟩⟩ := hT
  cases hA : Lib.atoiAll s.data.toList with
  | ok v => exact (Any.strconv_Atoi_ok laysAtoi s (by omega) v hA w).mono fun e w' ⟨h1, h2⟩ => ⟨.inl ⟨v, rfl, h1⟩, by
      rcases h2 with h2 | ⟨t, h2⟩
      · rw [h2]; exact Below.refl _ _
      · rw [h2]; exact Lib.bytesWorld_below _ _ _⟩
  | «syntax» => exact (Any.strconv_Atoi_syntax laysAtoi s (by omega) hA e1 w c1 k1).mono fun e w' ⟨N, h1, _, _, h4⟩ => ⟨.inr ⟨fun v h => (by cases h), _, _, N, h1⟩, h4⟩
  | range => exact (Any.strconv_Atoi_range laysAtoi s (by omega) hA e2 w c2 k2).mono fun e w' ⟨N, h1, _, _, h4⟩ => ⟨.inr ⟨fun v h => (by cases h), _, _, N, h1⟩, h4⟩
theorem ret_ib {a b : Int} {m n : Bool} (h1 : a = b) (h2 : m = n) : Ending.returned (.tuple #[.int .i64 a, .bool m]) = .returned (.tuple #[.int .i64 b, .bool n]) := by rw [h1, h2]
set_option maxHeartbeats 1000000 in
theorem readPlace63 (s : ByteArray) (w : World) (hs : s.size ≤ 4096) (hT : TG w) :
    Calls Tryd.prog 63 #[.string s] w fun e w' => (∃ n : Int, e = .returned (.tuple #[.int .i64 n, .bool (plO s).isSome]) ∧ ∀ m, plO s = some m → n = (m : Int)) ∧ Below w.heap.size w w' := by
  have HC := Lib.hid (atoi64 s w hs hT)
  have HT : Hid (TG w) := hT
  clear hT
  have HP : Hid (∀ v, Lib.atoiAll s.data.toList = .ok v → plO s = if 0 ≤ v ∧ v < 4096 ∧ ((⟨(Lib.itoa v).toArray⟩ : ByteArray).toList == s.toList) = true then some v.toNat else none) := fun v h => by rw [plO, h]
  have HN : Hid ((∀ v, Lib.atoiAll s.data.toList ≠ .ok v) → plO s = none) := fun h => by
    unfold plO
    split
    · rename_i v hv; exact absurd hv (h v)
    · rfl
  generalize plO s = q at *
  go_enter Tryd.func63, Tryd.ntmps63
  go_wp2_with fail
  refine HC.out.mono ?_
  rintro e w1 ⟨he, b1⟩
  clear HC
  rcases he with ⟨v, hv, rfl⟩ | ⟨hno, n, t, N, rfl⟩
  · have HQ := Lib.hid (HP.out v hv)
    clear HP HN hv
    by_cases h0 : 0 ≤ v
    · by_cases h1 : v < 4096
      · obtain ⟨m, rfl⟩ : ∃ m : Nat, v = (m : Int) := ⟨v.toNat, by omega⟩
        have HI := Lib.hid (itoa65 m (by omega) w1 (HT.out.1 w1 b1))
        generalize (⟨(Lib.itoa (m : Int)).toArray⟩ : ByteArray) = tx at *
        go_wp2_with fail
        refine HI.out.mono ?_
        rintro e w2 ⟨rfl, b2⟩
        cases hb : (tx.toList == s.toList) with
        | true =>
          have HE : Hid (q = some m) := by have h9 := HQ.out; rw [if_pos ⟨h0, h1, hb⟩, Int.toNat_natCast] at h9; exact h9
          go_wp2
          go_ret2
          exact ⟨⟨_, ret_ib rfl (by rw [HE.out]; rfl), fun m' h => by rw [HE.out] at h; cases h; rfl⟩, b1.trans (b2.mono b1.size)⟩
        | false =>
          have HE : Hid (q = none) := by have h9 := HQ.out; rw [if_neg (fun h => by rw [hb] at h; cases h.2.2)] at h9; exact h9
          go_wp2
          go_ret2
          exact ⟨⟨_, ret_ib rfl (by rw [HE.out]; rfl), fun m' h => by rw [HE.out] at h; cases h⟩, b1.trans (b2.mono b1.size)⟩
      · have HE : Hid (q = none) := by have h9 := HQ.out; rw [if_neg (fun h => h1 h.2.1)] at h9; exact h9
        go_wp2
        go_ret2
        exact ⟨⟨_, ret_ib rfl (by rw [HE.out]; rfl), fun m' h => by rw [HE.out] at h; cases h⟩, b1⟩
    · have HE : Hid (q = none) := by have h9 := HQ.out; rw [if_neg (fun h => h0 h.1)] at h9; exact h9
      go_wp2
      go_ret2
      exact ⟨⟨_, ret_ib rfl (by rw [HE.out]; rfl), fun m' h => by rw [HE.out] at h; cases h⟩, b1⟩
  · have HE := Lib.hid (HN.out hno)
    clear HP HN hno
    go_wp2
    go_ret2
    exact ⟨⟨_, ret_ib rfl (by rw [HE.out]; rfl), fun m' h => by rw [HE.out] at h; cases h⟩, b1⟩
end Go.Proofs.YtmfbhihjiebagaaDoor
