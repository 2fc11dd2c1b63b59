import Derived.Test.YtkagcefboahgkaaOy
namespace Go.Proofs.Ytkagcefboahgkaa
open Go.RowKit
/-- two lists are being written over -/
structure S2 (w0 : World) (g1 g2 n c1 c2 : Nat) (wr : World) : Prop where
  o1 : ∃ m : List UInt8, m.length = n ∧ OW 0 wr (.slice (some ⟨g1, 0, none⟩) n c1) m
  o2 : ∃ m : List UInt8, m.length = n ∧ OW 0 wr (.slice (some ⟨g2, 0, none⟩) n c2) m
  fr : Fr (fun k => k ≠ g1 ∧ k ≠ g2) w0 wr
  ne : g1 ≠ g2
theorem byte_z {z : Int} (h0 : 0 ≤ z) (h1 : z < 256) : z = (((UInt8.ofNat z.toNat).toNat : Nat) : Int) := by rw [UInt8.toNat_ofNat', Nat.mod_eq_of_lt (by omega)]; omega
theorem OW.other {B : Nat} {w : World} {v : Value} {l : List UInt8} (h : OW B w v l) {g k : Nat} {u : Value} (hg : v.ownBlock ≠ some g) : OW B (w.setCell ⟨g, k, none⟩ u) v l :=
  ownsRow_fr (S := fun j => j ≠ g) h ((Fr.refl _ w).setCell g k u (fun _ x => x rfl)) (fun j hj e => hg (by rw [hj, e]))
theorem OW.putz {B : Nat} {w : World} {g n cap : Nat} {l : List UInt8} (h : OW B w (.slice (some ⟨g, 0, none⟩) n cap) l) (k : Nat) {z : Int} (h0 : 0 ≤ z) (h1 : z < 256) : ∃ m : List UInt8, m.length = l.length ∧ OW B (w.setCell ⟨g, k, none⟩ (.int .u8 z)) (.slice (some ⟨g, 0, none⟩) n cap) m := by
  have := h.put k (UInt8.ofNat z.toNat)
  rw [← byte_z h0 h1] at this
  exact ⟨_, by rw [List.length_set], this⟩
theorem blk_ne {g1 g2 n c : Nat} (h : g1 ≠ g2) : (Value.slice (some ⟨g1, 0, none⟩) n c).ownBlock ≠ some g2 := fun e => h (by simpa [Value.ownBlock] using e)
theorem S2.at {w0 wr : World} {g1 g2 n c1 c2 : Nat} (h : S2 w0 g1 g2 n c1 c2 wr) (k : Nat) (hk : k < n) : ∃ x1 x2 : Int, 0 ≤ x1 ∧ x1 < 256 ∧ 0 ≤ x2 ∧ x2 < 256 ∧ wr.cell? ⟨g1, k, none⟩ = some (.int .u8 x1) ∧ wr.frozen? ⟨g1, k, none⟩ = false ∧ (∀ a : Int, (wr.setCell ⟨g1, k, none⟩ (.int .u8 a)).cell? ⟨g2, k, none⟩ = some (.int .u8 x2)) ∧ (∀ a : Int, (wr.setCell ⟨g1, k, none⟩ (.int .u8 a)).frozen? ⟨g2, k, none⟩ = false) ∧
    ∀ a b : Int, 0 ≤ a → a < 256 → 0 ≤ b → b < 256 → S2 w0 g1 g2 n c1 c2 ((wr.setCell ⟨g1, k, none⟩ (.int .u8 a)).setCell ⟨g2, k, none⟩ (.int .u8 b)) := by
  obtain ⟨m1, hm1, o1⟩ := h.o1
  obtain ⟨m2, hm2, o2⟩ := h.o2
  obtain ⟨p1, p2⟩ := o1.at k (by omega)
  have q := fun a : Int => (o2.other (g := g1) (k := k) (u := .int .u8 a) (blk_ne h.ne.symm)).at k (by omega)
  refine ⟨_, _, by omega, by have := (byt m1 k).toNat_lt; omega, by omega, by have := (byt m2 k).toNat_lt; omega, p1, p2, fun a => (q a).1, fun a => (q a).2, fun a b a0 a1 b0 b1 => ?_⟩
  obtain ⟨n1, e1, r1⟩ := o1.putz k a0 a1
  obtain ⟨n2, e2, r2⟩ := (o2.other (g := g1) (k := k) (u := .int .u8 a) (blk_ne h.ne.symm)).putz k b0 b1
  exact ⟨⟨n1, by omega, r1.other (blk_ne h.ne)⟩, ⟨n2, by omega, r2⟩, (h.fr.setCell g1 k _ (fun _ x => x.1 rfl)).setCell g2 k _ (fun _ x => x.2 rfl), h.ne⟩
/-- a list of lists of 64 bytes -/
def LLs (w : World) (B : Nat) (v : Value) (i : Nat) (P : Nat → Nat → List UInt8 → Prop) : Prop := ∃ us : List Value, us.length = i ∧ w.ownsRow B 22 1 v i us ∧ ∀ j, j < i → ∃ g cap l, us[j]? = some (.slice (some ⟨g, 0, none⟩) 64 cap) ∧ l.length = 64 ∧ OW B w (.slice (some ⟨g, 0, none⟩) 64 cap) l ∧ P j g l
theorem LLs.fr {w w' : World} {B i : Nat} {v : Value} {P : Nat → Nat → List UInt8 → Prop} {T : Nat → Prop} (h : LLs w B v i P) (f : Fr T w w') (h1 : ∀ g, v.ownBlock = some g → T g) (h2 : ∀ j g l, P j g l → B ≤ g → g < w.heap.size → T g) : LLs w' B v i P := by
  obtain ⟨us, e1, e2, e3⟩ := h
  refine ⟨us, e1, ownsRow_fr e2 f h1, fun j hj => ?_⟩
  obtain ⟨g, cap, l, a1, a2, a3, a4⟩ := e3 j hj
  refine ⟨g, cap, l, a1, a2, ownsRow_fr a3 f (fun k hk => ?_), a4⟩
  have e : g = k := by simpa [Value.ownBlock] using hk
  have := a3.blk g rfl
  rw [← e]; exact h2 j g l a4 this.1 this.2
theorem LLs.mono {w : World} {B i : Nat} {v : Value} {P Q : Nat → Nat → List UInt8 → Prop} (h : LLs w B v i P) (hq : ∀ j g l, P j g l → g < w.heap.size → Q j g l) : LLs w B v i Q := by
  obtain ⟨us, e1, e2, e3⟩ := h
  refine ⟨us, e1, e2, fun j hj => ?_⟩
  obtain ⟨g, cap, l, a1, a2, a3, a4⟩ := e3 j hj
  exact ⟨g, cap, l, a1, a2, a3, hq j g l a4 (a3.blk g rfl).2⟩
theorem LLs.nil (w : World) (B : Nat) (P : Nat → Nat → List UInt8 → Prop) : LLs w B (.slice none 0 0) 0 P := ⟨[], rfl, World.ownsRow_nil _ _ _ _, fun j hj => by omega⟩
theorem LLs.at {w : World} {B i : Nat} {a : Option Addr} {m c : Nat} {P : Nat → Nat → List UInt8 → Prop} (h : LLs w B (.slice a m c) i P) (j : Nat) (hj : j < i) : ∃ g0 g cap l, a = some ⟨g0, 0, none⟩ ∧ w.cell? ⟨g0, j, none⟩ = some (.slice (some ⟨g, 0, none⟩) 64 cap) ∧ l.length = 64 ∧ OW B w (.slice (some ⟨g, 0, none⟩) 64 cap) l ∧ P j g l := by
  obtain ⟨us, e1, e2, e3⟩ := h
  obtain ⟨g, cap, l, a1, a2, a3, a4⟩ := e3 j hj
  have e2' := e2
  rcases e2.2 with ⟨_, h0⟩ | ⟨g0, cap0, cur, e, _⟩
  · omega
  · cases e
    have := World.ownsRow.cellAt e2' j (by omega)
    exact ⟨g0, g, cap, l, rfl, by rw [this]; exact a1, a2, a3, a4⟩
theorem infoBy : (Try.prog.info? 22).map (fun i => (i.zero, i.size, i.bytes)) = some (some (.slice none 0 0), 1, 24) := by kernel_rfl
/-- rows of unlike kinds lie in unlike blocks -/
theorem kind_ne {w : World} {B B' e e' size size' n n' : Nat} {v v' : Value} {xs xs' : List Value} (h : w.ownsRow B e size v n xs) (h' : w.ownsRow B' e' size' v' n' xs') (hne : e ≠ e') : ∀ g, v.ownBlock = some g → v'.ownBlock ≠ some g := fun g hg hg' => by
  obtain ⟨_, cs, q1⟩ := ownsRow_lt h g hg
  obtain ⟨_, cs', q2⟩ := ownsRow_lt h' g hg'
  rw [q1] at q2
  simp only [Option.some.injEq, Obj.cells.injEq] at q2
  exact hne q2.2.1
theorem LLs.app {w w' : World} {B i : Nat} {v v' : Value} {P : Nat → Nat → List UInt8 → Prop} {g cap : Nat} {l : List UInt8} {us : List Value} (e1 : us.length = i) (e2 : w.ownsRow B 22 1 v i us) (e3 : ∀ j, j < i → ∃ g cap l, us[j]? = some (.slice (some ⟨g, 0, none⟩) 64 cap) ∧ l.length = 64 ∧ OW B w (.slice (some ⟨g, 0, none⟩) 64 cap) l ∧ P j g l) (hl : l.length = 64) (ho : OW B w (.slice (some ⟨g, 0, none⟩) 64 cap) l) (hp : P i g l) (q1 : w'.ownsRow B 22 1 v' (i + 1) (us ++ [.slice (some ⟨g, 0, none⟩) 64 cap])) (q3 : w.grownBy w' v.ownBlock) : LLs w' B v' (i + 1) P := by
  have f : Fr (fun k => v.ownBlock ≠ some k) w w' := ⟨q3.os, q3.tape, q3.output, q3.size, fun k hk hs => q3.block k hk (fun e => hs e.symm)⟩
  have hk : ∀ {g cap : Nat} {l : List UInt8}, OW B w (.slice (some ⟨g, 0, none⟩) 64 cap) l → OW B w' (.slice (some ⟨g, 0, none⟩) 64 cap) l := fun h => ownsRow_fr h f (kind_ne h e2 (by decide))
  refine ⟨_, by rw [List.length_append, e1]; rfl, q1, fun j hj => ?_⟩
  by_cases h : j < i
  · obtain ⟨g, cap, l, a1, a2, a3, a4⟩ := e3 j h
    exact ⟨g, cap, l, by rw [List.getElem?_append_left (by omega)]; exact a1, a2, hk a3, a4⟩
  · obtain rfl : j = i := by omega
    exact ⟨g, cap, l, by rw [List.getElem?_append_right (by omega), e1]; simp, hl, hk ho, hp⟩
theorem seen_len {S : Nat → Prop} {w : World} {p : Nat} {D : Dk} (h : DK S w p D) (s : Nat) (hs : 64 * s + 64 ≤ D.last.length) : (seen D s).length = 64 := by
  unfold seen
  cases hn : nw s D.ws with
  | none =>
    show (sec D.last s).length = 64
    unfold sec
    rw [List.length_take, List.length_drop]
    omega
  | some d => exact (h.gd.nw hn).2
end Go.Proofs.Ytkagcefboahgkaa
