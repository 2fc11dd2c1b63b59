import Derived.Test.YtldkecjfjcnkfaaSearch
import Derived.Test.YtldkecjfjcnkfaaCopy
namespace Go.Proofs.Ytldkecjfjcnkfaa
open Go.RowKit Go.Deep
theorem info55 : (Try.prog.info? 93).map (fun i => (i.zero, i.size, i.bytes)) = some (some .nilIface, 1, 16) := by kernel_rfl
theorem info57 : (Try.prog.info? 110).map (fun i => (i.zero, i.size, i.bytes)) = some (some (.agg #[.string ByteArray.empty, .nilIface]), 2, 32) := by kernel_rfl
/-- a block, whole -/
def blk (w : World) (g : Nat) (ty : TypeId) (cs : Array Value) : Prop := w.heap[g]? = some (.cells cs ty (0, 0))
theorem blk.cell {w : World} {g : Nat} {ty : TypeId} {cs : Array Value} (h : blk w g ty cs) (i : Nat) : w.cell? ⟨g, i, none⟩ = cs[i]? := by
  unfold blk at h
  simp [World.cell?, h]
theorem blk.frozen {w : World} {g : Nat} {ty : TypeId} {cs : Array Value} (h : blk w g ty cs) (i : Nat) : w.frozen? ⟨g, i, none⟩ = false := by
  unfold blk at h
  simp [World.frozen?, h]
theorem blk.set {w : World} {g : Nat} {ty : TypeId} {cs : Array Value} (h : blk w g ty cs) (i : Nat) (u : Value) : blk (w.setCell ⟨g, i, none⟩ u) g ty (cs.setIfInBounds i u) := by
  unfold blk at h ⊢
  simp [World.setCell, Array.getElem?_modify, h]
theorem blk.keep {w w' : World} {g : Nat} {ty : TypeId} {cs : Array Value} (h : blk w g ty cs) (hb : w'.heap[g]? = w.heap[g]?) : blk w' g ty cs := hb.trans h
theorem blk.lt {w : World} {g : Nat} {ty : TypeId} {cs : Array Value} (h : blk w g ty cs) : g < w.heap.size := (Array.getElem?_eq_some_iff.1 h).1
/-- a node reads as the tree -/
def RN (S : Nat → Prop) (w : World) : T → Value → Prop
  | .no => fun _ => False
  | .mk k n s ln l dn ky dv => fun v =>
    (k = 1 ∧ v = .iface 103 (.int .i64 n)) ∨ (k = 2 ∧ v = .iface 104 (.string s)) ∨
    (k = 3 ∧ ∃ b c, v = .iface 106 (.slice (some ⟨b, 0, none⟩) ln c) ∧ S b ∧ b < w.heap.size ∧ ∀ i, i < ln → ∃ u, w.cell? ⟨b, i, none⟩ = some u ∧ RN S w (l i) u) ∨
    (k = 4 ∧ ∃ b c, v = .iface 108 (.slice (some ⟨b, 0, none⟩) dn c) ∧ S b ∧ b < w.heap.size ∧ ∀ i, i < dn → ∃ u, w.cell? ⟨b, i * 2, none⟩ = some (.string (ky i)) ∧ w.cell? ⟨b, i * 2 + 1, none⟩ = some u ∧ RN S w (dv i) u)
theorem RN.move {S S' : Nat → Prop} {w w' : World} (hS : ∀ b, S b → b < w.heap.size → S' b) (hs : w.heap.size ≤ w'.heap.size) (hb : ∀ b, S b → b < w.heap.size → w'.heap[b]? = w.heap[b]?) :
    ∀ (t : T) (v : Value), RN S w t v → RN S' w' t v := by
  intro t
  induction t with
  | no => intro v h; exact h
  | mk k n s ln l dn ky dv il id =>
    rintro v (h | h | ⟨hk, b, c, rfl, h1, h2, h3⟩ | ⟨hk, b, c, rfl, h1, h2, h3⟩)
    · exact .inl h
    · exact .inr (.inl h)
    · refine .inr (.inr (.inl ⟨hk, b, c, rfl, hS b h1 h2, Nat.lt_of_lt_of_le h2 hs, fun i hi => ?_⟩))
      obtain ⟨u, g1, g2⟩ := h3 i hi
      exact ⟨u, (World.cell?_of_block (w := w) (hb b h1 h2)).trans g1, il i _ g2⟩
    · refine .inr (.inr (.inr ⟨hk, b, c, rfl, hS b h1 h2, Nat.lt_of_lt_of_le h2 hs, fun i hi => ?_⟩))
      obtain ⟨u, g0, g1, g2⟩ := h3 i hi
      exact ⟨u, (World.cell?_of_block (w := w) (hb b h1 h2)).trans g0, (World.cell?_of_block (w := w) (hb b h1 h2)).trans g1, id i _ g2⟩
theorem RN.iface {S : Nat → Prop} {w : World} {t : T} {v : Value} (h : RN S w t v) : ∃ ty u, v = .iface ty u := by
  cases t with
  | no => exact h.elim
  | mk k n s ln l dn ky dv =>
    rcases h with ⟨_, rfl⟩ | ⟨_, rfl⟩ | ⟨_, b, c, rfl, _⟩ | ⟨_, b, c, rfl, _⟩ <;> exact ⟨_, _, rfl⟩
/-- valid, but for its depth -/
def VT : T → Prop
  | .no => True
  | .mk k n s ln l dn ky dv => ownB k n s ln dn = true ∧ (∀ i, i < ln → VT (l i)) ∧ (∀ i, i < dn → keyBad ky i = false ∧ VT (dv i))
theorem fstE_zero {f : Nat → Int} {n : Nat} (h : fstE f n = 0) : ∀ i, i < n → f i = 0 := by
  induction n with
  | zero => intro i hi; omega
  | succ n ih =>
    unfold fstE at h
    by_cases h0 : fstE f n = 0
    · rw [if_pos h0] at h
      intro i hi
      by_cases e : i = n
      · subst e; exact h
      · exact ih h0 i (by omega)
    · rw [if_neg h0] at h; exact absurd h h0
theorem vt_of_wk : ∀ (t : T) (ar : Int), wk t ar = 0 → VT t := by
  intro t
  induction t with
  | no => intro _ _; trivial
  | mk k n s ln l dn ky dv il id =>
    intro ar h
    rw [wk] at h
    dsimp only at h
    by_cases h1 : ownB k n s ln dn = false
    · rw [if_pos h1] at h; omega
    rw [if_neg h1] at h
    have ho : ownB k n s ln dn = true := by simpa using h1
    refine ⟨ho, ?_⟩
    obtain ⟨k1, k4, o1, o2, o3, o4⟩ := (ownB_iff _ _ _ _ _).1 ho
    by_cases h2 : k < 3
    · have e1 : ln = 0 := by omega
      have e2 : dn = 0 := by omega
      exact ⟨fun i hi => by omega, fun i hi => by omega⟩
    rw [if_neg h2] at h
    by_cases h3 : 32 ≤ ar
    · rw [if_pos h3] at h; omega
    rw [if_neg h3] at h
    by_cases h4 : fstE (fun i => wk (l i) (ar + 1)) ln ≠ 0
    · rw [if_pos h4] at h; exact absurd h h4
    rw [if_neg h4] at h
    have h4' : fstE (fun i => wk (l i) (ar + 1)) ln = 0 := by simpa using h4
    refine ⟨fun i hi => il i (ar + 1) (fstE_zero h4' i hi), fun i hi => ?_⟩
    have h5 := fstE_zero h i hi
    by_cases h6 : keyBad ky i = true
    · simp only [h6] at h5; simp at h5
    · have h6' : keyBad ky i = false := by simpa using h6
      simp only [h6'] at h5
      exact ⟨h6', id i (ar + 1) (by simpa using h5)⟩
def NC (t : T) : Prop := ∀ (x y : Value) (w : World), t.ok → t.small → VT t → RV (fun _ => True) w t x y →
  Calls Try.prog 62 #[vv t x y] w fun e w' => ∃ u, e = .returned u ∧ RN (fun b => w.heap.size ≤ b) w' t u ∧ Below w.heap.size w w'
/-- a row of nodes so far -/
def NInv (g : Nat) (w : World) (l : Nat → T) (ln j : Nat) (cs : Array Value) : Prop := blk w g 93 cs ∧ cs.size = ln ∧ ∀ i, i < j → ∃ u, cs[i]? = some u ∧ RN (fun b => g < b) w (l i) u
set_option maxHeartbeats 2000000 in
theorem listOf39 (ln : Nat) (l : Nat → T) (x : Value) (w : World) (ih : ∀ i, NC (l i)) (hs : ln ≤ 2147483647) (ok4 : ∀ i, i < ln → (l i).ok ∧ (l i).small ∧ VT (l i)) (hL : RL (fun _ => True) w ln l x) :
    Calls Try.prog 76 #[x] w fun e w' => ∃ c, e = .returned (.slice (some ⟨w.heap.size, 0, none⟩) ln c) ∧ (∀ i, i < ln → ∃ u, w'.cell? ⟨w.heap.size, i, none⟩ = some u ∧ RN (fun b => w.heap.size ≤ b) w' (l i) u) ∧ w.heap.size < w'.heap.size ∧ Below w.heap.size w w' := by
  obtain ⟨a, ca, rfl, hL⟩ := hL
  obtain ⟨i0, hi, hz0, hz1, hz2⟩ := info_parts info55
  have hmk : ∀ u : World, (Instr.makeSlice 106 (.int .i64 (ln : Int)) (.int .i64 (ln : Int))).run Try.prog u =
      .ok (.slice (some ⟨u.heap.size, 0, none⟩) ln ln) (u.alloc (.cells (madeCells #[.nilIface] ln) 93)) := fun u => by
    have h := run_make (P := Try.prog) u 106 93 i0 .nilIface Try.underlying106 hi hz0 .i64 .i64 ln ln (by omega) (by omega) (by rw [hz2]; omega) (by omega)
    simpa [hz1, Value.cells] using h
  have HI : Hid ((∀ i, NC (l i)) ∧ (∀ i, i < ln → (l i).ok ∧ (l i).small ∧ VT (l i)) ∧ (ln = 0 ∨ ∃ b o, a = some ⟨b, o, none⟩ ∧ True ∧ b < w.heap.size ∧ ∀ i, i < ln → ∃ x' y', RV (fun _ => True) w (l i) x' y' ∧ five w b (o + i * 5) (l i) x' y')) := ⟨ih, ok4, hL⟩
  clear ih ok4 hL hi hz0 hz1 hz2
  go_enter Try.func76, Try.ntmps76
  go_wp2
  clear hmk
  have HB0 : Hid (Below w.heap.size w (w.alloc (.cells (madeCells #[.nilIface] ln) 93)) ∧ NInv w.heap.size (w.alloc (.cells (madeCells #[.nilIface] ln) 93)) l ln 0 (madeCells #[.nilIface] ln)) :=
    ⟨(Below.refl _ _).alloc (Nat.le_refl _) _, heap_new _ _, by rw [size_madeCells], fun i hi => absurd hi (Nat.not_lt_zero _)⟩
  generalize w.alloc (.cells (madeCells #[.nilIface] ln) 93) = w0 at *
  generalize hg : w.heap.size = g at *
  have HG : Hid (w.heap.size = g) := hg
  clear hg
  go_loopw [11] (fun i wr => ∃ (j : Nat) (cs : Array Value), j ≤ ln ∧ i = .int .i64 j ∧ Hid (Below g w wr ∧ NInv g wr l ln j cs)) (fun i _ => ln - (intOf i).toNat)
  case atStart => exact ⟨0, _, Nat.zero_le _, rfl, HB0⟩
  case round =>
    obtain ⟨j, cs, hj, rfl, hinv⟩ := hrel
    by_cases hlt : j < ln
    · obtain ⟨il, ok4, hL⟩ := HI.out
      rcases hL with h | ⟨b, o, rfl, _, hbl, hL⟩
      · omega
      obtain ⟨x1, y1, hv, g1, g2, g3, g4, g5⟩ := hL j hlt
      have hw := hinv.out.1
      have hle : w.heap.size ≤ g := Nat.le_of_eq HG.out
      replace g1 := Below.cellS hw hle g1
      replace g2 := Below.cellS hw hle g2
      replace g3 := Below.cellS hw hle g3
      replace g4 := Below.cellS hw hle g4
      replace g5 := Below.cellS hw hle g5
      obtain ⟨⟨xa, xn, xc, rfl⟩, ⟨ya, yn, yc, rfl⟩⟩ := hv.slices
      have HA : Hid (Below wr.heap.size wr (wr.alloc (Obj.cells #[.int .i64 (l j).k, .int .i64 (l j).n, .string (l j).s, .slice xa xn xc, .slice ya yn yc] 56))) := (Below.refl _ _).alloc (Nat.le_refl _) _
      have HV : Hid (NC (l j) ∧ (l j).ok ∧ (l j).small ∧ VT (l j) ∧ RV (fun _ => True) wr (l j) (.slice xa xn xc) (.slice ya yn yc)) := ⟨il j, (ok4 j hlt).1, (ok4 j hlt).2.1, (ok4 j hlt).2.2, Below.rv hw hle hv⟩
      clear il ok4 hL hv hbl hw hle
      go_wp2_with fail
      refine (HV.out.1 _ _ _ HV.out.2.1 HV.out.2.2.1 HV.out.2.2.2.1 (Below.rv HA.out (Nat.le_refl _) HV.out.2.2.2.2)).mono ?_
      rintro e w2 ⟨u, rfl, hrn, hb2⟩
      obtain ⟨ty, uu, rfl⟩ := hrn.iface
      obtain ⟨hbw, hblk, hsz, hel⟩ := hinv.out
      have hb3 : Below wr.heap.size wr w2 := HA.out.trans (hb2.mono HA.out.size)
      have hblk2 := hblk.keep (hb3.block _ hblk.lt)
      have cj : ∃ z, w2.cell? ⟨g, j, none⟩ = some z := ⟨cs[j], by rw [hblk2.cell]; exact Array.getElem?_eq_getElem (by omega)⟩
      obtain ⟨z, cj⟩ := cj
      have fj := hblk2.frozen j
      have HN : Hid (Below g w (w2.setCell ⟨g, j, none⟩ (.iface ty uu)) ∧ NInv g (w2.setCell ⟨g, j, none⟩ (.iface ty uu)) l ln (j + 1) (cs.setIfInBounds j (.iface ty uu))) := by
        have hglt := hblk.lt
        refine ⟨(hbw.trans (hb3.mono (by omega))).setCell (Nat.le_refl _) _, hblk2.set j _, by simp [hsz], fun i hi => ?_⟩
        rcases Nat.lt_succ_iff_lt_or_eq.1 hi with h | rfl
        · obtain ⟨u, q1, q2⟩ := hel i h
          refine ⟨u, by rw [Array.getElem?_setIfInBounds_ne (by omega)]; exact q1, RN.move (fun b hb _ => hb) (by have := hb3.size; simp [World.setCell]; omega) (fun b hb hl => ?_) _ _ q2⟩
          rw [Below.heap_setCell _ _ _ _ (show b ≠ g by omega), hb3.block b hl]
        · refine ⟨_, Array.getElem?_setIfInBounds_self_of_lt (by omega), RN.move (fun b hb _ => ?_) (by simp [World.setCell]) (fun b hb hl => Below.heap_setCell _ _ _ _ ?_) _ _ hrn⟩
          · have := HA.out.size; omega
          · have := HA.out.size; show b ≠ g; omega
      clear hinv HV HA hrn hb2 hb3 hblk hblk2 hel hbw hsz g1 g2 g3 g4 g5
      go_wp2
      go_roundw
      case rel => exact ⟨j + 1, _, by omega, by go_num, HN⟩
      case measure => simp [intOf]; omega
    · obtain rfl : j = ln := by omega
      go_wp2
      go_ret
      obtain ⟨hbw, hblk, hsz, hel⟩ := hinv.out
      refine ⟨j, by rw [HG.out]; rfl, fun i hi => ?_, HG.out ▸ hblk.lt, HG.out ▸ hbw⟩
      obtain ⟨u, q1, q2⟩ := hel i hi
      exact ⟨u, by rw [HG.out, hblk.cell]; exact q1, RN.move (fun b hb _ => by have := HG.out; omega) (Nat.le_refl _) (fun _ _ _ => rfl) _ _ q2⟩
end Go.Proofs.Ytldkecjfjcnkfaa
