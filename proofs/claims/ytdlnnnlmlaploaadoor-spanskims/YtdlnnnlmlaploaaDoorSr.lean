import Derived.Test.YtdlnnnlmlaploaaDoorSx
import Derived.Test.YtdlnnnlmlaploaaDoorPre
namespace Go.Proofs.YtdlnnnlmlaploaaDoor
open Go.RowKit Go.Deep
/-- span's reader in block rb: the text, the place, how many values have begun, and the row of its open levels -/
structure SR (B rb : Nat) (w : World) (a : Option Addr) (c : Nat) (b : List UInt8) (i n : Nat) (ov : Value) (k : Nat) (us : List Value) : Prop where
  bk : blk w rb 76 #[.slice a b.length c, .int .i64 i, .int .i64 n, ov]
  own : w.ownsRow B 94 12 ov k us
  low : B ≤ rb
  ne : ov.ownBlock ≠ some rb
  le : i ≤ b.length
  lim : b.length ≤ 1048576
  cap : b.length ≤ c
  tx : b = [] ∨ ∃ g o, a = some ⟨g, o, none⟩ ∧ g < B ∧ ∀ j, j < b.length → w.cell? ⟨g, o + j, none⟩ = some (.int .u8 ((byt b j).toNat : Int))
  ev : EVw w
  evB : 4 < B
theorem SR.keep {B rb : Nat} {w w' : World} {a : Option Addr} {c : Nat} {b : List UInt8} {i n : Nat} {ov : Value} {k : Nat} {us : List Value} (h : SR B rb w a c b i n ov k us) (hb : Below w.heap.size w w') : SR B rb w' a c b i n ov k us where
  bk := h.bk.keep (hb.block _ h.bk.lt)
  own := own_keep h.own (fun x _ hx => hb.block x hx)
  low := h.low
  ne := h.ne
  le := h.le
  lim := h.lim
  cap := h.cap
  tx := by
    rcases h.tx with e | ⟨g, o, h1, h2, h3⟩
    · exact .inl e
    · exact .inr ⟨g, o, h1, h2, fun j hj => (hb.cell (World.block_lt_of_cell? w _ (h3 j hj))).trans (h3 j hj)⟩
  ev := h.ev.keep hb
  evB := h.evB
theorem SR.cells {B rb : Nat} {w : World} {a : Option Addr} {c : Nat} {b : List UInt8} {i n : Nat} {ov : Value} {k : Nat} {us : List Value} (h : SR B rb w a c b i n ov k us) :
    w.cell? ⟨rb, 0, none⟩ = some (.slice a b.length c) ∧ w.cell? ⟨rb, 1, none⟩ = some (.int .i64 i) ∧ w.cell? ⟨rb, 2, none⟩ = some (.int .i64 n) ∧ w.cell? ⟨rb, 3, none⟩ = some ov ∧ w.frozen? ⟨rb, 1, none⟩ = false ∧ w.frozen? ⟨rb, 2, none⟩ = false ∧ w.frozen? ⟨rb, 3, none⟩ = false :=
  ⟨h.bk.cell 0, h.bk.cell 1, h.bk.cell 2, h.bk.cell 3, h.bk.frozen 1, h.bk.frozen 2, h.bk.frozen 3⟩
/-- a cell of the reader is set -/
theorem SR.set {B rb : Nat} {w : World} {a : Option Addr} {c : Nat} {b : List UInt8} {i n : Nat} {ov : Value} {k : Nat} {us : List Value} (h : SR B rb w a c b i n ov k us) {o : Nat} {u : Value} {i' n' : Nat} (hi : i' ≤ b.length)
    (he : #[.slice a b.length c, .int .i64 i, .int .i64 n, ov].setIfInBounds o u = #[.slice a b.length c, .int .i64 i', .int .i64 n', ov]) : SR B rb (w.setCell ⟨rb, o, none⟩ u) a c b i' n' ov k us where
  bk := he ▸ h.bk.set o u
  own := by
    refine ⟨h.own.1, ?_⟩
    rcases h.own.2 with e | ⟨g, cap, cur, q1, q2, q3, q4⟩
    · exact .inl e
    · exact .inr ⟨g, cap, cur, q1, q2, (Below.heap_setCell _ _ _ _ (fun e => h.ne (by rw [q1]; show some g = some rb; rw [show g = rb from e]))).trans q3, q4⟩
  low := h.low
  ne := h.ne
  le := hi
  lim := h.lim
  cap := h.cap
  tx := by
    rcases h.tx with e | ⟨g, o', h1, h2, h3⟩
    · exact .inl e
    · exact .inr ⟨g, o', h1, h2, fun j hj => (World.cell?_of_block (w := w) (Below.heap_setCell _ _ _ _ (by have := h.low; show g ≠ rb; omega))).trans (h3 j hj)⟩
  ev := by
    obtain ⟨⟨t, p, h1⟩, ⟨t', p', h2⟩⟩ := h.ev
    have := h.low; have := h.evB
    exact ⟨⟨t, p, (World.cell?_of_block (w := w) (Below.heap_setCell _ _ _ _ (by show (3 : Nat) ≠ rb; omega))).trans h1⟩, ⟨t', p', (World.cell?_of_block (w := w) (Below.heap_setCell _ _ _ _ (by show (4 : Nat) ≠ rb; omega))).trans h2⟩⟩
  evB := h.evB
set_option maxHeartbeats 1000000 in
theorem next41 {B rb : Nat} {w : World} {a : Option Addr} {c : Nat} {b : List UInt8} {i n : Nat} {ov : Value} {k : Nat} {us : List Value} (h : SR B rb w a c b i n ov k us) :
    Calls Tryd.prog 41 #[.pointer (some ⟨rb, 0, none⟩)] w fun e w' => e = .returned (.int .u8 ((byt b i).toNat : Int)) ∧ Below w.heap.size w w' := by
  obtain ⟨c0, c1, _⟩ := h.cells
  have hn := h.le
  have hl := h.lim
  by_cases hlt : i < b.length
  · rcases h.tx with e | ⟨g, o, rfl, hg, k0⟩
    · rw [e] at hlt; simp at hlt
    have k1 := k0 i hlt
    have i0 : (0 : Int) ≤ (i : Int) := by omega
    have i1 : (i : Int) < (b.length : Int) := by omega
    have i2 : ((i : Int) == (b.length : Int)) = false := by simp; omega
    generalize ((byt b i).toNat : Int) = z at *
    clear h k0
    go_enter Tryd.func41, Tryd.ntmps41
    go_wp2
    go_quiet (fail)
    go_wp2
    go_quiet (fail)
    go_wp2
    go_ret
    exact ⟨rfl, ⟨rfl, rfl, rfl, Nat.le_refl _, fun _ _ => rfl⟩⟩
  · obtain rfl : i = b.length := by omega
    have hz : byt b b.length = 0 := byt_end (Nat.le_refl _)
    rw [hz]
    clear h
    go_enter Tryd.func41, Tryd.ntmps41
    go_wp2
    go_quiet (fail)
    go_wp2
    go_ret
    exact ⟨rfl, ⟨rfl, rfl, rfl, Nat.le_refl _, fun _ _ => rfl⟩⟩
end Go.Proofs.YtdlnnnlmlaploaaDoor
