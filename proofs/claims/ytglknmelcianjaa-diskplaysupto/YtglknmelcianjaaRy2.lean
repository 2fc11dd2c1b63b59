import Derived.Test.YtglknmelcianjaaRx2
namespace Go.Proofs.Ytglknmelcianjaa
open Go.RowKit
/-- a step of the script -/
structure OpI where
  kind : Int
  who : Int
  to_ : Int
  at_ : Int
  da : Option Addr
  dc : Nat
  d : List UInt8
  ka : Option Addr
  kc : Nat
  keep : List Bool
  torn : Int
  cut : Int
def OpI.cs (x : OpI) : List Value := [.int .i64 x.kind, .int .i64 x.who, .int .i64 x.to_, .int .i64 x.at_, .slice x.da x.d.length x.dc, .slice x.ka x.keep.length x.kc, .int .i64 x.torn, .int .i64 x.cut]
/-- a step's lists are there, and of a size -/
structure OpR (w : World) (x : OpI) : Prop where
  rb : RB w (.slice x.da x.d.length x.dc) x.d
  bo : RBo w (.slice x.ka x.keep.length x.kc) x.keep
  dl : x.d.length ≤ 140737488351232
  kl : x.keep.length ≤ 1073741824
  at_ : x.at_ ≤ 9223372036854775807
/-- the script is read -/
def RSc (w : World) (v : Value) (xs : List OpI) : Prop :=
  ∃ a c, v = .slice a xs.length c ∧ (xs = [] ∨ ∃ g o, a = some ⟨g, o, none⟩ ∧ g < w.heap.size ∧ ∀ i x, xs[i]? = some x → w.rangeAt g (o + i * 8) x.cs) ∧ ∀ x ∈ xs, OpR w x
theorem rb_lt {w : World} {v : Value} {l : List UInt8} (h : RB w v l) : l ≠ [] → ∀ g, v.ownBlock = some g → g < w.heap.size := fun hne g hg => by
  obtain ⟨a, c, rfl, _, h⟩ := h
  rcases h with h | ⟨b, off, rfl, h1, _⟩
  · exact absurd h hne
  · simp [Value.ownBlock] at hg
    omega
theorem range8 {w : World} {g o : Nat} {x : OpI} (h : w.rangeAt g o x.cs) : w.cell? ⟨g, o, none⟩ = some (.int .i64 x.kind) ∧ w.cell? ⟨g, o + 1, none⟩ = some (.int .i64 x.who) ∧ w.cell? ⟨g, o + 2, none⟩ = some (.int .i64 x.to_) ∧ w.cell? ⟨g, o + 3, none⟩ = some (.int .i64 x.at_) ∧ w.cell? ⟨g, o + 4, none⟩ = some (.slice x.da x.d.length x.dc) ∧ w.cell? ⟨g, o + 5, none⟩ = some (.slice x.ka x.keep.length x.kc) ∧ w.cell? ⟨g, o + 6, none⟩ = some (.int .i64 x.torn) ∧ w.cell? ⟨g, o + 7, none⟩ = some (.int .i64 x.cut) :=
  ⟨h 0 _ rfl, h 1 _ rfl, h 2 _ rfl, h 3 _ rfl, h 4 _ rfl, h 5 _ rfl, h 6 _ rfl, h 7 _ rfl⟩
theorem lw_new (w : World) : LW w (fun _ => 0) w.heap.size (w.heap.size + 1) (fun _ => .pointer none) (fun _ => .pointer none) (fun _ => none) 0 ((w.alloc (.cells #[.pointer none, .pointer none, .pointer none] 24)).alloc (.cells #[.pointer none, .pointer none, .pointer none] 26)) := by
  have e1 : (w.alloc (.cells #[.pointer none, .pointer none, .pointer none] 24)).heap.size = w.heap.size + 1 := by simp
  refine ⟨fun _ _ => .no, ?_, ?_, rfl, rfl, by omega, Nat.le_refl _, by omega, fun k hk => absurd rfl hk, fun _ _ => Nat.zero_le _, ((Below.refl _ _).alloc (Nat.le_refl _) _).alloc (by simp) _⟩
  · rw [heapOld _ _ _ (by rw [e1]; omega)]
    exact heapNew _ _
  · rw [← e1]
    exact heapNew _ _
end Go.Proofs.Ytglknmelcianjaa
