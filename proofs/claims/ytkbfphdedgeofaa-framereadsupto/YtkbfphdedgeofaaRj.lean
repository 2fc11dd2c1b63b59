import Derived.Test.YtkbfphdedgeofaaRi
namespace Go.Proofs.Ytkbfphdedgeofaa
open Go.RowKit
/-- a step of the script -/
structure Ro where
  k : Int
  dv : Value
  dl : List UInt8
def Ro.ls (u : Ro) : List Value := [.int .i64 u.k, u.dv]
def RO (w : World) (v : Value) (us : List Ro) : Prop :=
  (∃ a c, v = .slice a us.length c ∧ us.length ≤ c ∧ (us = [] ∨ ∃ g o, a = some ⟨g, o, none⟩ ∧ g < w.heap.size ∧ ∀ i u, us[i]? = some u → w.rangeAt g (o + i * 2) u.ls)) ∧ ∀ u ∈ us, RB w u.dv u.dl
theorem RO.keep {w w' : World} {v : Value} {us : List Ro} (h : RO w v us) (hb : Below w.heap.size w w') : RO w' v us := by
  obtain ⟨⟨a, c, rfl, hle, h⟩, h2⟩ := h
  refine ⟨⟨a, c, rfl, hle, ?_⟩, fun u hu => (h2 u hu).keep hb⟩
  rcases h with h | ⟨g, o, h1, h2, h3⟩
  · exact .inl h
  · exact .inr ⟨g, o, h1, Nat.lt_of_lt_of_le h2 hb.size, fun i u hi j x hj => (World.cell?_of_block (w := w) (hb.block g h2)).trans (h3 i u hi j x hj)⟩
theorem RO.at {w : World} {a : Option Addr} {n c : Nat} {us : List Ro} (h : RO w (.slice a n c) us) (i : Nat) (u : Ro) (hu : us[i]? = some u) : ∃ g o, a = some ⟨g, o, none⟩ ∧ g < w.heap.size ∧ w.rangeAt g (o + i * 2) u.ls ∧ RB w u.dv u.dl := by
  obtain ⟨⟨a', c', e, hle, h⟩, h2⟩ := h
  simp only [Value.slice.injEq] at e
  obtain ⟨rfl, -, -⟩ := e
  rcases h with rfl | ⟨g, o, rfl, h3, h4⟩
  · simp at hu
  · exact ⟨g, o, rfl, h3, h4 i u hu, h2 u (List.mem_of_getElem? hu)⟩
/-- how many bytes the first steps push at most -/
def dsum (us : List Ro) : Nat := (us.map fun u => u.dl.length).sum
theorem dsum_snoc (us : List Ro) (u : Ro) : dsum (us ++ [u]) = dsum us + u.dl.length := by unfold dsum; simp
theorem dsum_take (us : List Ro) (k : Nat) : dsum (us.take k) ≤ dsum us := by
  have e : us = us.take k ++ us.drop k := (List.take_append_drop k us).symm
  conv => rhs; rw [e]
  unfold dsum
  rw [List.map_append, List.sum_append]
  omega
/-- both readers alive, with their lists -/
structure LV (w : World) (R S : Nat) (h : Bool) (A : List UInt8) (p s : Nat) (held : List UInt8) (hv av : Value) : Prop where
  rk : RK w R p s hv 0
  st : St p s held
  oh : OW (R + 1) w hv held
  nh : held = [] → hv = .slice none 0 0
  rf : RF w S h av 0
  oa : OW (S + 1) w av A
  na : A = [] → av = .slice none 0 0
  rd : ∃ met bs, Rd h A met bs (p == 2) (tx p s held) 0
  ne : ∀ g, hv.ownBlock = some g → av.ownBlock ≠ some g
/-- both readers broken -/
structure BK2 (w : World) (R S : Nat) (h : Bool) (s : Nat) (hv av : Value) (f : Int) : Prop where
  rk : RK w R 0 s hv f
  oh : OW (R + 1) w hv []
  rf : RF w S h av f
  nz : f ≠ 0
theorem ownsRow_one {w w' : World} {B e size n : Nat} {v : Value} {xs : List Value} (h : w.ownsRow B e size v n xs) (hk : ∀ k, v.ownBlock = some k → w'.heap[k]? = w.heap[k]?) : w'.ownsRow B e size v n xs := by
  refine ⟨h.1, ?_⟩
  rcases h.2 with h1 | ⟨g, cap, cur, rfl, h2, h3, h4⟩
  · exact .inl h1
  · exact .inr ⟨g, cap, cur, rfl, h2, (hk g rfl).trans h3, h4⟩
theorem LV.fr {w w' : World} {R S : Nat} {h : Bool} {A : List UInt8} {p s : Nat} {held : List UInt8} {hv av : Value} {T : Nat → Prop} (l : LV w R S h A p s held hv av) (f : Fr T w w') (hR : T R) (hS : T S) (hh : ∀ g, hv.ownBlock = some g → T g) (ha : ∀ g, av.ownBlock = some g → T g) : LV w' R S h A p s held hv av :=
  ⟨(f.block R l.rk.lt hR).trans l.rk, l.st, ownsRow_one l.oh (fun k hk => f.block k (l.oh.blk k hk).2 (hh k hk)), l.nh, (f.block S l.rf.lt hS).trans l.rf, ownsRow_one l.oa (fun k hk => f.block k (l.oa.blk k hk).2 (ha k hk)), l.na, l.rd, l.ne⟩
theorem BK2.fr {w w' : World} {R S : Nat} {h : Bool} {s : Nat} {hv av : Value} {f : Int} {T : Nat → Prop} (l : BK2 w R S h s hv av f) (g : Fr T w w') (hR : T R) (hS : T S) (hh : ∀ g, hv.ownBlock = some g → T g) : BK2 w' R S h s hv av f :=
  ⟨(g.block R l.rk.lt hR).trans l.rk, ownsRow_one l.oh (fun k hk => g.block k (l.oh.blk k hk).2 (hh k hk)), (g.block S l.rf.lt hS).trans l.rf, l.nz⟩
/-- the two readers, as the loop keeps them -/
def ST (B : Nat) (w : World) (rv sv : Value) (n : Nat) : Prop :=
  (rv = .pointer none ∧ sv = .pointer none) ∨ ∃ R S, rv = .pointer (some ⟨R, 0, none⟩) ∧ sv = .pointer (some ⟨S, 0, none⟩) ∧ B ≤ R ∧ B ≤ S ∧
    ((∃ h A p s held hv av, LV w R S h A p s held hv av ∧ A.length ≤ n) ∨ ∃ h s hv av f, BK2 w R S h s hv av f)
theorem ST.keep {B n : Nat} {w w' : World} {rv sv : Value} (h : ST B w rv sv n) (hb : Below w.heap.size w w') : ST B w' rv sv n := by
  rcases h with h | ⟨R, S, h1, h2, h3, h4, h5⟩
  · exact .inl h
  · refine .inr ⟨R, S, h1, h2, h3, h4, ?_⟩
    rcases h5 with ⟨h, A, p, s, held, hv, av, l, hn⟩ | ⟨h, s, hv, av, f, l⟩
    · exact .inl ⟨h, A, p, s, held, hv, av, l.fr (T := fun _ => True) (Fr.of_below hb) trivial trivial (fun _ _ => trivial) (fun _ _ => trivial), hn⟩
    · exact .inr ⟨h, s, hv, av, f, l.fr (T := fun _ => True) (Fr.of_below hb) trivial trivial (fun _ _ => trivial)⟩
theorem ST.more {B n m : Nat} {w : World} {rv sv : Value} (h : ST B w rv sv n) (hm : n ≤ m) : ST B w rv sv m := by
  rcases h with h | ⟨R, S, h1, h2, h3, h4, h5⟩
  · exact .inl h
  · refine .inr ⟨R, S, h1, h2, h3, h4, ?_⟩
    rcases h5 with ⟨h, A, p, s, held, hv, av, l, hn⟩ | h5
    · exact .inl ⟨h, A, p, s, held, hv, av, l, Nat.le_trans hn hm⟩
    · exact .inr h5
theorem Below.of_fr {B : Nat} {w wr w' : World} {T : Nat → Prop} (h : Below B w wr) (f : Fr T wr w') (hT : ∀ k, k < B → T k) (hB : B ≤ w.heap.size) : Below B w w' :=
  ⟨f.os.trans h.os, f.tape.trans h.tape, f.output.trans h.output, Nat.le_trans h.size f.size, fun k hk => (f.block k (by have := h.size; omega) (hT k hk)).trans (h.block k hk)⟩
/-- bodies of these lengths, each in a block of Z -/
def OBx (B : Nat) (Z : Nat → Prop) (w : World) (v : Value) (ns : List Nat) : Prop := ∃ us : List Value, us.length = ns.length ∧ w.ownsRow B 28 1 v ns.length us ∧ ∀ i, i < ns.length → ∃ l : List UInt8, l.length = ns.getD i 0 ∧ BK Z w (us.getD i undef) l
theorem OB.obx {B : Nat} {Z Y : Nat → Prop} {w : World} {v : Value} {bs : List (List UInt8)} (h : OB B Z w v bs) (hz : ∀ g, Z g → g < w.heap.size → Y g) : OBx B Y w v (bs.map List.length) := by
  obtain ⟨us, h1, h2, h3⟩ := h
  refine ⟨us, by rw [List.length_map]; exact h1, by rw [List.length_map]; exact h2, fun i hi => ?_⟩
  rw [List.length_map] at hi
  refine ⟨bs.getD i [], ?_, (h3 i hi).keep (fun _ _ _ _ => rfl) hz⟩
  simp [List.getD, List.getElem?_map, List.getElem?_eq_getElem hi]
theorem OBx.form {B : Nat} {Z : Nat → Prop} {w : World} {v : Value} {ns : List Nat} (h : OBx B Z w v ns) : ∃ a c, v = .slice a ns.length c := by
  obtain ⟨us, _, h2, _⟩ := h
  rcases h2.2 with ⟨rfl, h0⟩ | ⟨g, cap, cur, rfl, _⟩
  · exact ⟨none, 0, by rw [h0]⟩
  · exact ⟨_, _, rfl⟩
theorem OBx.at {B : Nat} {Z : Nat → Prop} {w : World} {a : Option Addr} {n c : Nat} {ns : List Nat} (h : OBx B Z w (.slice a n c) ns) (i : Nat) (hi : i < ns.length) : ∃ g0 g m l, a = some ⟨g0, 0, none⟩ ∧ w.cell? ⟨g0, i, none⟩ = some (.slice (some ⟨g, 0, none⟩) m m) ∧ m = ns.getD i 0 ∧ Z g ∧ List.length l = m ∧ w.heap[g]? = some (.cells (bc l) 5 (0, 0)) := by
  obtain ⟨us, h1, h2, h3⟩ := h
  obtain ⟨l, hl, g, hz, hu, hg⟩ := h3 i hi
  have h2' := h2
  rcases h2.2 with ⟨e, h0⟩ | ⟨g0, cap, cur, e, _⟩
  · omega
  · cases e
    have := World.ownsRow.cellAt h2' i (by omega)
    refine ⟨g0, g, l.length, l, rfl, ?_, hl, hz, rfl, hg⟩
    rw [this, ← hu]
    simp [List.getD, List.getElem?_eq_getElem (show i < us.length by omega)]
theorem bc_set (l : List UInt8) (m : Nat) (c : UInt8) : (bc l).setIfInBounds m (.int .u8 (c.toNat : Int)) = bc (l.set m c) := by
  apply Array.ext'
  simp [bc, Lib.byteCells, List.map_set]
theorem OBx.set {B : Nat} {Z : Nat → Prop} {w : World} {v : Value} {ns : List Nat} (h : OBx B Z w v ns) {g m : Nat} {l : List UInt8} (hg : w.heap[g]? = some (.cells (bc l) 5 (0, 0))) (c : UInt8) : OBx B Z (w.setCell ⟨g, m, none⟩ (.int .u8 (c.toNat : Int))) v ns := by
  obtain ⟨us, h1, h2, h3⟩ := h
  refine ⟨us, h1, ownsRow_one h2 (fun k hk => setCell_other ?_), fun i hi => ?_⟩
  · intro e
    subst e
    obtain ⟨cs, f, hh⟩ := row_of h2 k hk
    rw [hg] at hh
    simp at hh
  · obtain ⟨l', hl, g', hz, hu, hg'⟩ := h3 i hi
    by_cases e : g' = g
    · subst e
      rw [hg] at hg'
      have e2 : bc l = bc l' := by simpa using hg'
      refine ⟨l'.set m c, by rw [List.length_set]; exact hl, g', hz, by rw [List.length_set]; exact hu, ?_⟩
      rw [setCell_eq_setRow w g' _ _ _ _ _ hg, e2, bc_set]
      exact heapSetRow _ _ _ _ _ hg
    · exact ⟨l', hl, g', hz, hu, (setCell_other e).trans hg'⟩
theorem Fr.set {T : Nat → Prop} {w w' : World} (a : Fr T w w') (g m : Nat) (v : Value) (h : ¬ T g) : Fr T w (w'.setCell ⟨g, m, none⟩ v) := a.setCell g m v h
set_option maxHeartbeats 2000000 in
theorem sameH2 (v1 v2 : Value) (met : List (List UInt8)) (B1 : Nat) (w : World) (h1 : OM B1 w v1 met) (h2 : SMet w v2 met) (hm : met.length ≤ 1) :
    Calls Try.prog 18 #[v1, v2] w fun e w' => e = .returned (.bool true) ∧ ∃ n, w' = w.drewN n := by
  rcases h2 with ⟨rfl, a2, c2, rfl⟩ | ⟨B2, h2⟩
  · obtain ⟨a1, c1, rfl⟩ := h1.form
    clear h1
    go_enter Try.func18, Try.ntmps18
    go_wp2
    go_loop [5] (fun i => i = .int .i64 0) (fun _ => 0)
    case atStart => rfl
    case round =>
      obtain rfl := hrel
      go_wp2
      go_ret
      exact ⟨rfl, 0, rfl⟩
  · exact sameHellos v1 v2 met B1 B2 w h1 h2 hm
end Go.Proofs.Ytkbfphdedgeofaa
