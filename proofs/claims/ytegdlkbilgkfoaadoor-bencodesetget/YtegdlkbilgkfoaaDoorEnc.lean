import Derived.Test.YtegdlkbilgkfoaaDoorSize
import Derived.Test.YtegdlkbilgkfoaaDoorValid
namespace Go.Proofs.YtegdlkbilgkfoaaDoor
open Go.RowKit Go.Deep
/-- two texts in memory that are one -/
theorem ow_cell {B : Nat} {w : World} {v : Value} {l : List UInt8} (h : OW B w v l) : (v = .slice none 0 0 ∧ l = []) ∨ ∃ g c, v = .slice (some ⟨g, 0, none⟩) l.length c ∧ ∀ i (hi : i < l.length), w.cell? ⟨g, i, none⟩ = some (.int .u8 (l[i].toNat : Int)) := by
  rcases h.2 with ⟨h1, h2⟩ | ⟨g, cap, cur, rfl, _⟩
  · exact .inl ⟨h1, List.length_eq_zero_iff.1 h2⟩
  · refine .inr ⟨g, cap, rfl, fun i hi => ?_⟩
    have := World.ownsRow.cellAt h i (by omega)
    rw [this]
    simp [Lib.byteCells, hi]
set_option maxRecDepth 10000 in
set_option maxHeartbeats 1000000 in
theorem bytesSame9 (B B' : Nat) (v v' : Value) (l : List UInt8) (w : World) (h : OW B w v l) (h' : OW B' w v' l) (hlim : l.length ≤ 100000000000000) :
    Calls Tryd.prog 13 #[v, v'] w fun e w' => e = .returned (.bool true) ∧ Below w.heap.size w w' := by
  have hs : ∃ a c, v = .slice a l.length c ∧ ∀ i (hi : i < l.length), ∃ g, a = some ⟨g, 0, none⟩ ∧ w.cell? ⟨g, i, none⟩ = some (.int .u8 (l[i].toNat : Int)) := by
    rcases ow_cell h with ⟨rfl, rfl⟩ | ⟨g, c, rfl, hc⟩
    · exact ⟨_, _, rfl, fun i hi => absurd hi (Nat.not_lt_zero _)⟩
    · exact ⟨_, _, rfl, fun i hi => ⟨g, rfl, hc i hi⟩⟩
  have hs' : ∃ a c, v' = .slice a l.length c ∧ ∀ i (hi : i < l.length), ∃ g, a = some ⟨g, 0, none⟩ ∧ w.cell? ⟨g, i, none⟩ = some (.int .u8 (l[i].toNat : Int)) := by
    rcases ow_cell h' with ⟨rfl, rfl⟩ | ⟨g, c, rfl, hc⟩
    · exact ⟨_, _, rfl, fun i hi => absurd hi (Nat.not_lt_zero _)⟩
    · exact ⟨_, _, rfl, fun i hi => ⟨g, rfl, hc i hi⟩⟩
  obtain ⟨a, c, rfl, hc⟩ := hs
  obtain ⟨a', c', rfl, hc'⟩ := hs'
  have HC := Lib.hid hc
  have HC' := Lib.hid hc'
  clear hc hc' h h'
  go_enter Tryd.func13, Tryd.ntmps13
  go_wp2
  go_loopw [5] (fun i wr => ∃ (j n : Nat), j ≤ l.length ∧ i = .int .i64 j ∧ wr = w.drewN n) (fun i _ => l.length - (intOf i).toNat)
  case atStart => exact ⟨0, 0, Nat.zero_le _, rfl, rfl⟩
  case round =>
    obtain ⟨j, n, hj, rfl, rfl⟩ := hrel
    by_cases hlt : j < l.length
    · obtain ⟨g, rfl, k1⟩ := HC.out j hlt
      obtain ⟨g', rfl, k2⟩ := HC'.out j hlt
      have j0 : (0 : Int) ≤ (j : Int) := by omega
      have j1 : (j : Int) < (l.length : Int) := by omega
      generalize (l[j].toNat : Int) = cc at k1 k2
      go_wp2
      go_quiet (fail)
      go_wp2
      go_roundw
      case rel => exact ⟨j + 1, _, by omega, by go_num, rfl⟩
      case measure => simp [intOf]; omega
    · obtain rfl : j = l.length := by omega
      go_wp2
      go_ret
      exact ⟨rfl, ⟨rfl, rfl, rfl, Nat.le_refl _, fun _ _ => rfl⟩⟩
/-- what Encode answers -/
def EP (t : T) (w w' : World) (v : Value) (er : Int) : Prop := ∃ B l, OW B w' v l ∧ er = (if wk t 0 = 0 then (if 1048576 < (txt t).length then 20 else 0) else wk t 0) ∧ l = (if wk t 0 = 0 ∧ (txt t).length ≤ 1048576 then txt t else []) ∧ Below w.heap.size w w'
theorem EP.bad {t : T} {w w' : World} (h : wk t 0 ≠ 0) (hb : Below w.heap.size w w') : EP t w w' (.slice none 0 0) (wk t 0) :=
  ⟨0, [], World.ownsRow_nil _ _ _ _, by rw [if_neg h], by rw [if_neg (fun h' => h h'.1)], hb⟩
theorem EP.long {t : T} {w w' : World} (h : wk t 0 = 0) (h2 : 1048576 < (txt t).length) (hb : Below w.heap.size w w') : EP t w w' (.slice none 0 0) 20 :=
  ⟨0, [], World.ownsRow_nil _ _ _ _, by rw [if_pos h, if_pos h2], by rw [if_neg (fun h' => by omega)], hb⟩
theorem EP.good {t : T} {w w' : World} {B : Nat} {v : Value} (h : wk t 0 = 0) (h2 : (txt t).length ≤ 1048576) (ho : OW B w' v (txt t)) (hb : Below w.heap.size w w') : EP t w w' v 0 :=
  ⟨B, txt t, ho, by rw [if_pos h, if_neg (by omega)], by rw [if_pos ⟨h, h2⟩], hb⟩
theorem ow_slice {B : Nat} {w : World} {v : Value} {l : List UInt8} (h : OW B w v l) : ∃ a c, v = .slice a l.length c := by
  rcases ow_cell h with ⟨rfl, rfl⟩ | ⟨g, c, rfl, _⟩
  · exact ⟨_, _, rfl⟩
  · exact ⟨_, _, rfl⟩

end Go.Proofs.YtegdlkbilgkfoaaDoor
