import Derived.Test.YtglknmelcianjaaRa
namespace Go.Proofs.Ytglknmelcianjaa
open Go.RowKit
/-- the cells of an unsynced write of the reference's -/
def uc (p : Wt × Value) : List Value := [.int .i64 (p.1.at_ : Int), p.2, .bool p.1.dead]
/-- the reference's disk in memory, its blocks among some -/
structure RI (S : Nat → Prop) (w : World) (q lb cap : Nat) (wv : Value) (ps : List (Wt × Value)) (lf : Int) (D : Dk) : Prop where
  blk : w.heap[q]? = some (.cells #[.slice (some ⟨lb, 0, none⟩) D.last.length cap, wv, .bool D.fu.isSome, .int .i64 lf] 47 (0, 0))
  left : ∀ k, D.fu = some k → lf = k
  las : OW 0 w (.slice (some ⟨lb, 0, none⟩) D.last.length cap) D.last
  ws : D.ws = ps.map (·.1)
  row : w.ownsRow 0 64 3 wv ps.length (ps.flatMap uc)
  dat : ∀ p ∈ ps, OW 0 w p.2 p.1.data ∧ ∀ g, p.2.ownBlock = some g → g ≠ lb ∧ S g
  sq : S q
  sl : S lb
  sw : ∀ g, wv.ownBlock = some g → S g
  gd : Gd D
def RK (S : Nat → Prop) (w : World) (q : Nat) (D : Dk) : Prop := ∃ lb cap wv ps lf, RI S w q lb cap wv ps lf D
section
variable {S T : Nat → Prop} {w w' : World} {q lb cap : Nat} {wv : Value} {ps : List (Wt × Value)} {lf : Int} {D : Dk}
theorem RI.fr (h : RI S w q lb cap wv ps lf D) (hf : Fr S w w') : RI S w' q lb cap wv ps lf D :=
  { h with
    blk := (hf.block q (Array.getElem?_eq_some_iff.1 h.blk).1 h.sq).trans h.blk
    las := ownsRow_fr h.las hf (fun g hg => by simp [Value.ownBlock] at hg; subst hg; exact h.sl)
    row := ownsRow_fr h.row hf h.sw
    dat := fun p hp => ⟨ownsRow_fr (h.dat p hp).1 hf (fun g hg => ((h.dat p hp).2 g hg).2), (h.dat p hp).2⟩ }
theorem RI.sub (h : RI S w q lb cap wv ps lf D) (hs : ∀ k, k < w.heap.size → S k → T k) : RI T w q lb cap wv ps lf D :=
  { h with
    sq := hs _ (Array.getElem?_eq_some_iff.1 h.blk).1 h.sq
    sl := hs _ (ownsRow_lt h.las lb rfl).1 h.sl
    sw := fun g hg => hs _ (ownsRow_lt h.row g hg).1 (h.sw g hg)
    dat := fun p hp => ⟨(h.dat p hp).1, fun g hg => ⟨((h.dat p hp).2 g hg).1, hs _ (ownsRow_lt (h.dat p hp).1 g hg).1 ((h.dat p hp).2 g hg).2⟩⟩ }
theorem RK.fr (h : RK S w q D) (hf : Fr S w w') : RK S w' q D := by
  obtain ⟨lb, cap, wv, ps, lf, h⟩ := h
  exact ⟨lb, cap, wv, ps, lf, h.fr hf⟩
theorem RK.sub (h : RK S w q D) (hs : ∀ k, k < w.heap.size → S k → T k) : RK T w q D := by
  obtain ⟨lb, cap, wv, ps, lf, h⟩ := h
  exact ⟨lb, cap, wv, ps, lf, h.sub hs⟩
theorem RK.below (h : RK S w q D) (hb : Below w.heap.size w w') : RK S w' q D := h.fr (Fr.of_below hb)
theorem RK.gd (h : RK S w q D) : Gd D := by
  obtain ⟨lb, cap, wv, ps, lf, h⟩ := h
  exact h.gd
theorem RI.lt (h : RI S w q lb cap wv ps lf D) : q < w.heap.size := (Array.getElem?_eq_some_iff.1 h.blk).1
theorem RI.c0 (h : RI S w q lb cap wv ps lf D) : w.cell? ⟨q, 0, none⟩ = some (.slice (some ⟨lb, 0, none⟩) D.last.length cap) := by simp [World.cell?, h.blk]
theorem RI.c1 (h : RI S w q lb cap wv ps lf D) : w.cell? ⟨q, 1, none⟩ = some wv := by simp [World.cell?, h.blk]
theorem RI.c2 (h : RI S w q lb cap wv ps lf D) : w.cell? ⟨q, 2, none⟩ = some (.bool D.fu.isSome) := by simp [World.cell?, h.blk]
theorem RI.c3 (h : RI S w q lb cap wv ps lf D) : w.cell? ⟨q, 3, none⟩ = some (.int .i64 lf) := by simp [World.cell?, h.blk]
theorem RI.frz (h : RI S w q lb cap wv ps lf D) (i : Nat) : w.frozen? ⟨q, i, none⟩ = false := by simp [World.frozen?, h.blk]
theorem RI.wform (h : RI S w q lb cap wv ps lf D) : ∃ a c, wv = .slice a ps.length c := ownsRow_form h.row
theorem RI.lbq (h : RI S w q lb cap wv ps lf D) : lb ≠ q := fun e => by
  obtain ⟨_, cs, hc⟩ := ownsRow_lt h.las lb rfl
  rw [e, h.blk] at hc
  simp at hc
theorem RI.wq (h : RI S w q lb cap wv ps lf D) : wv.ownBlock ≠ some q := fun e => by
  obtain ⟨_, cs, hc⟩ := ownsRow_lt h.row q e
  rw [h.blk] at hc
  simp at hc
theorem RI.dq (h : RI S w q lb cap wv ps lf D) {p : Wt × Value} (hp : p ∈ ps) : p.2.ownBlock ≠ some q := fun e => by
  obtain ⟨_, cs, hc⟩ := ownsRow_lt (h.dat p hp).1 q e
  rw [h.blk] at hc
  simp at hc
/-- one cell of the disk's own block is written -/
theorem RI.put (h : RI S w q lb cap wv ps lf D) (i : Nat) (v : Value) (D' : Dk) (lf' : Int) (h1 : D'.last = D.last) (h2 : D'.ws = D.ws) (hg : Gd D') (hl : ∀ k, D'.fu = some k → lf' = k)
    (hb : (#[.slice (some ⟨lb, 0, none⟩) D.last.length cap, wv, .bool D.fu.isSome, .int .i64 lf] : Array Value).setIfInBounds i v = #[.slice (some ⟨lb, 0, none⟩) D.last.length cap, wv, .bool D'.fu.isSome, .int .i64 lf']) : RI S (w.setCell ⟨q, i, none⟩ v) q lb cap wv ps lf' D' := by
  refine ⟨?_, hl, ?_, by rw [h2]; exact h.ws, ?_, fun p hp => ⟨?_, (h.dat p hp).2⟩, h.sq, h.sl, h.sw, hg⟩
  · rw [setCell_eq_setRow w q i _ _ _ v h.blk, setRow_heap w q _ _ _ _ h.blk, h1, hb]
  · rw [h1]
    exact ownsRow_fr (S := fun k => k ≠ q) h.las ((Fr.refl _ w).setCell q i v (fun _ e => e rfl)) (fun g hg => by simp [Value.ownBlock] at hg; subst hg; exact h.lbq)
  · exact ownsRow_fr (S := fun k => k ≠ q) h.row ((Fr.refl _ w).setCell q i v (fun _ e => e rfl)) (fun g hg e => h.wq (by rw [← e]; exact hg))
  · exact ownsRow_fr (S := fun k => k ≠ q) (h.dat p hp).1 ((Fr.refl _ w).setCell q i v (fun _ e => e rfl)) (fun g hg e => h.dq hp (by rw [← e]; exact hg))
end
set_option maxHeartbeats 1000000 in
/-- one act of the reference's -/
theorem rpassT {S : Nat → Prop} {w : World} {q lb cap : Nat} {wv : Value} {ps : List (Wt × Value)} {lf : Int} {D : Dk} (h : RI S w q lb cap wv ps lf D) :
    Calls Try.prog 44 #[.pointer (some ⟨q, 0, none⟩)] w fun e w' => e = .returned (.bool (!blownF D.fu)) ∧ ∃ lf', RI S w' q lb cap wv ps lf' ⟨D.last, D.ws, burnt D.fu⟩ ∧ Fr (fun k => k ≠ q) w w' := by
  have c2 := h.c2
  have c3 := h.c3
  have f3 := h.frz 3
  have hg := h.gd
  cases hfu : D.fu with
  | none =>
    rw [hfu] at c2
    have H : Hid (RI S w q lb cap wv ps lf ⟨D.last, D.ws, burnt none⟩) := by
      have : (⟨D.last, D.ws, burnt none⟩ : Dk) = D := by cases D; simp only at hfu; subst hfu; rfl
      rw [this]; exact h
    have hb : blownF none = false := rfl
    rw [hb]
    clear h hg
    go_enter Try.func44, Try.ntmps44
    go_wp2
    go_ret
    exact ⟨rfl, _, H.out, Fr.refl _ _⟩
  | some k =>
    rw [hfu] at c2
    have hlf := h.left k hfu
    subst hlf
    cases k with
    | zero =>
      have H : Hid (RI S w q lb cap wv ps ((0 : Nat) : Int) ⟨D.last, D.ws, burnt (some 0)⟩) := by
        have : (⟨D.last, D.ws, burnt (some 0)⟩ : Dk) = D := by cases D; simp only at hfu; subst hfu; rfl
        rw [this]; exact h
      have hb : blownF (some 0) = true := rfl
      rw [hb]
      clear h hg
      go_enter Try.func44, Try.ntmps44
      go_wp2
      go_ret
      exact ⟨rfl, _, H.out, Fr.refl _ _⟩
    | succ j =>
      have hj : j + 1 ≤ 9223372036854775807 := hg.fu _ hfu
      have H : Hid (RI S (w.setCell ⟨q, 3, none⟩ (.int .i64 (j : Int))) q lb cap wv ps (j : Int) ⟨D.last, D.ws, burnt (some (j + 1))⟩) := h.put 3 _ _ _ rfl rfl ⟨hg.mul, hg.pos, hg.max, hg.ws, fun k hk => by cases hk; omega⟩ (fun k hk => by cases hk; rfl) (by rw [hfu]; rfl)
      have hb : blownF (some (j + 1)) = false := rfl
      rw [hb]
      have hz : ¬ ((j + 1 : Nat) : Int) = 0 := by omega
      have hz2 : (((j + 1 : Nat) : Int) == 0) = false := by simpa using hz
      have hsub : IntKind.i64.wrap (((j + 1 : Nat) : Int) - 1) = (j : Int) := by
        rw [show ((j + 1 : Nat) : Int) - 1 = (j : Int) by omega]
        exact IntWalk.i64_in _ (by omega)
      generalize ((j + 1 : Nat) : Int) = J at *
      clear h hg
      go_enter Try.func44, Try.ntmps44
      go_wp2
      go_ret
      exact ⟨rfl, _, H.out, (Fr.refl _ w).setCell q 3 _ (fun _ e => e rfl)⟩
end Go.Proofs.Ytglknmelcianjaa
