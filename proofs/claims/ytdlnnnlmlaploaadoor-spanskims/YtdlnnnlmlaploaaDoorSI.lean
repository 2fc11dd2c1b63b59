import Derived.Test.YtdlnnnlmlaploaaDoorSH
namespace Go.Proofs.YtdlnnnlmlaploaaDoor
open Go.RowKit Go.Deep
set_option maxHeartbeats 1000000 in
theorem read26x {w : World} {a : Option Addr} {n c : Nat} (hn : 1048576 < n) (fv : Value) :
    Calls Tryd.prog 26 #[.slice a n c, fv] w fun e w' => e = .returned (.tuple #[.int .i64 0, .int .i64 20]) ∧ w' = w := by
  go_enter Tryd.func26, Tryd.ntmps26
  go_wp2
  go_step3
  go_wp2
  rw [Exit.noGoto_ret]
  go_ret2
  exact ⟨rfl, rfl⟩
/-- what Skim answers -/
def SKO (b : List UInt8) (w w' : World) (v : Value) (p er : Int) : Prop :=
  (1048576 < b.length ∧ v = .slice none 0 0 ∧ p = 0 ∧ er = 20) ∨ (b.length ≤ 1048576 ∧ ∃ h, Fin b gT h p er ∧ ((er ≠ 0 ∧ v = .slice none 0 0) ∨ (er = 0 ∧ p = 0 ∧ w'.ownsRow (w.heap.size + 1) 45 7 v (sk h).length (spW (sk h)))))
theorem Fin.zero {b : List UInt8} {go : List Vi → Bool} {h : List Vi} {p : Int} (H : Fin b go h p 0) : p = 0 := by
  generalize he : (0 : Int) = er at H
  cases H with
  | vstop => rfl
  | estop => rfl
  | vbad _ hz _ => exact absurd he.symm hz
  | pbad _ _ hp =>
    subst he
    rcases hp.2 with ⟨_, e, _⟩ | ⟨_, ⟨_, _, e, _⟩ | ⟨_, _, _, _, _, e, _⟩⟩
    · cases e
    · exact absurd rfl e
    · cases e
  | trail => cases he
  | done => rfl
set_option maxHeartbeats 1000000 in
theorem skim14 (v : Value) (b : List UInt8) (w : World) (hr : RB w v b) (hev : EVw w) :
    Calls Tryd.prog 14 #[v] w fun e w' => ∃ sv p er, e = .returned (.tuple #[sv, .int .i64 p, .int .i64 er]) ∧ SKO b w w' sv p er ∧ Below w.heap.size w w' := by
  obtain ⟨a, c, rfl, hc, ht⟩ := hr
  have b0 : Below w.heap.size w (w.alloc (Obj.cells #[.slice none 0 0] 37)) := (Below.refl _ _).alloc (Nat.le_refl _) _
  by_cases hl : b.length ≤ 1048576
  · have hA : b = [] ∨ ∀ g o, a = some ⟨g, o, none⟩ → g < w.heap.size := by
      rcases ht with h | ⟨g', o', e', h1, _⟩
      · exact .inl h
      · exact .inr fun g o e => by rw [e'] at e; injection e with e; injection e with e1; omega
    have h4 : 4 < w.heap.size := by obtain ⟨_, ⟨t, p, h2⟩⟩ := hev; exact World.block_lt_of_cell? w _ h2
    have ht1 : b = [] ∨ ∃ g o, a = some ⟨g, o, none⟩ ∧ g < (w.alloc (Obj.cells #[.slice none 0 0] 37)).heap.size ∧ ∀ j, j < b.length → (w.alloc (Obj.cells #[.slice none 0 0] 37)).cell? ⟨g, o + j, none⟩ = some (.int .u8 ((byt b j).toNat : Int)) := by
      rcases ht with h | ⟨g, o, h1, h2, h3⟩
      · exact .inl h
      · exact .inr ⟨g, o, h1, Nat.lt_of_lt_of_le h2 b0.size, fun j hj => (b0.cell h2).trans (h3 j hj)⟩
    have hJ : JS w.heap.size (w.heap.size + 1) [] (w.alloc (Obj.cells #[.slice none 0 0] 37)) (fun k => k = w.heap.size) := ⟨by omega, by simp, .slice none 0 0, heap_new w _, World.ownsRow_nil _ _ _ _, fun k => by simp [Value.ownBlock]⟩
    have C := Lib.hid (read26 (visS (A := w.heap.size) (B := w.heap.size + 1) hl (Nat.le_refl _)) hl hc hA h4 (by simp) (hev.keep b0) ht1 hJ)
    have HB := Lib.hid (And.intro hl b0)
    clear ht1 hJ ht hev hA h4 b0 hc hl
    go_enter Tryd.func14, Tryd.ntmps14
    go_wp2_with fail
    refine C.out.mono ?_
    rintro e w' ⟨h, p, er, S, rfl, hF, ⟨_, hs, sv, hb, ho, _⟩, hv⟩
    have BB : Hid (Below w.heap.size w w') := by
      have b0 := HB.out.2
      exact ⟨hv.os.trans b0.os, hv.tape.trans b0.tape, hv.output.trans b0.output, Nat.le_trans b0.size hv.size, fun k hk => (hv.block k (Nat.lt_of_lt_of_le hk b0.size) (by show ¬ k = w.heap.size; omega)).trans (b0.block k hk)⟩
    have c0 : w'.cell? ⟨w.heap.size, 0, none⟩ = some sv := hb.cell 0
    have HF := Lib.hid (And.intro hF ho)
    clear hF ho hs hb hv C
    by_cases ce : er = 0
    · subst ce
      obtain rfl := HF.out.1.zero
      go_wp2
      go_ret3
      exact ⟨sv, 0, 0, rfl, .inr ⟨HB.out.1, h, HF.out.1, .inr ⟨rfl, rfl, HF.out.2⟩⟩, BB.out⟩
    · have ce' : (er != 0) = true := by simpa using ce
      go_wp2
      go_ret3
      exact ⟨.slice none 0 0, p, er, rfl, .inr ⟨HB.out.1, h, HF.out.1, .inl ⟨ce, rfl⟩⟩, BB.out⟩
  · have C := read26x (w := w.alloc (Obj.cells #[.slice none 0 0] 37)) (a := a) (c := c) (show 1048576 < b.length by omega) (.func (.func 27) #[] #[.pointer (some ⟨w.heap.size, 0, none⟩)])
    have HL : Hid (1048576 < b.length) := by show _ < _; omega
    have b0H := Lib.hid b0
    clear ht hc hev
    go_enter Tryd.func14, Tryd.ntmps14
    go_wp2_with fail
    refine C.mono ?_
    rintro e w' ⟨rfl, rfl⟩
    go_wp2
    go_ret3
    exact ⟨.slice none 0 0, 0, 20, rfl, .inl ⟨HL.out, rfl, rfl, rfl⟩, b0⟩
end Go.Proofs.YtdlnnnlmlaploaaDoor
