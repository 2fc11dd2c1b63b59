import Derived.Test.YtoiehkpmemmldaaDoorBb
import Derived.Test.YtoiehkpmemmldaaDoorAw
namespace Go.Proofs.YtoiehkpmemmldaaDoor
open Go.RowKit
theorem cells_os (w : World) (l : List ByteArray) (N : Nat) (h : l.length ≤ N) (hN : N ≤ 17) : OS w.heap.size (w.alloc (.cells (Lib.cellsOf l N) 9)) (.slice (some ⟨w.heap.size, 0, none⟩) l.length N) l := by
  refine ⟨by simp, .inr ⟨w.heap.size, N, Lib.cellsOf l N, rfl, Nat.le_refl _, heapNew _ _, h, by unfold maxLen; omega, ?_, ?_⟩⟩
  · unfold Lib.cellsOf; simp; omega
  · unfold Lib.cellsOf
    rw [Nat.mul_one]
    simp
set_option maxHeartbeats 400000 in
theorem splitNO (s : ByteArray) (w : World) (hs : s.size ≤ 140737488355328) :
    Calls Tryd.prog 26 #[.string s, .string ⟨#[47]⟩, .int .i64 17] w fun e w' => ∃ a c, e = .returned (.slice a (spb 16 s).length c) ∧ OS w.heap.size w' (.slice a (spb 16 s).length c) (spb 16 s) ∧ Below w.heap.size w w' := by
  have HG : Hid (Calls Tryd.prog 36 #[.string s, .string ⟨#[47]⟩, .int .i64 0, .int .i64 17] w fun e w' => ∃ a c, e = .returned (.slice a (spb 16 s).length c) ∧ OS w.heap.size w' (.slice a (spb 16 s).length c) (spb 16 s) ∧ Below w.heap.size w w') := by
    refine (genSplit24 s w hs _ rfl).mono ?_
    rintro e w' ⟨rfl, rfl⟩
    have e1 := spb_min s _ rfl
    have e2 := spb_len (min 17 (s.size + 1) - 1) s
    rw [e1] at e2 ⊢
    exact ⟨_, _, rfl, cells_os w _ _ (by omega) (by omega), (Below.refl _ _).alloc (Nat.le_refl _) _⟩
  go_enter Tryd.func26, Tryd.ntmps26
  go_wp2_with fail
  refine HG.out.mono ?_
  rintro e w' ⟨a, c, rfl, hsr, hb⟩
  go_wp2
  go_ret
  exact ⟨_, _, rfl, hsr, hb⟩
set_option maxHeartbeats 400000 in
theorem splitO (s : ByteArray) (w : World) (hs : s.size ≤ 140737488351232) :
    Calls Tryd.prog 13 #[.string s] w fun e w' => ∃ a c, e = .returned (.tuple #[.slice a (sq s).length c, .int .i64 (pe (spb 16 s))]) ∧ OS w.heap.size w' (.slice a (sq s).length c) (sq s) ∧ Below w.heap.size w w' := by
  have HF : Hid (FL (spb 16 s)) := ⟨by have := spb_len 16 s; omega, fun x hx => by have := spb_size 16 s x hx; omega⟩
  have HS : Hid (Calls Tryd.prog 26 #[.string s, .string ⟨#[47]⟩, .int .i64 17] w fun e w' => ∃ a c, e = .returned (.slice a (spb 16 s).length c) ∧ OS w.heap.size w' (.slice a (spb 16 s).length c) (spb 16 s) ∧ Below w.heap.size w w') := splitNO s w (by omega)
  unfold sq
  generalize spb 16 s = l at *
  by_cases hz : pe l = 0
  · rw [if_pos hz, hz]
    have HP : ∀ v w, Hid (SR w l v → Calls Tryd.prog 11 #[v] w fun e w' => e = .returned (.int .i64 0) ∧ Below w.heap.size w w') := fun v w h => hz ▸ path21 v l w HF.out h
    clear hz
    go_enter Tryd.func13, Tryd.ntmps13
    go_wp2_with fail
    refine HS.out.mono ?_
    rintro e w1 ⟨a, c, rfl, hsr, hb⟩
    have R1 : Hid (OS w.heap.size w1 (.slice a l.length c) l) := hsr
    have B1 : Hid (Below w.heap.size w w1) := hb
    clear hsr hb
    go_wp2_with fail
    refine ((HP _ _).out R1.out.sr).mono ?_
    rintro e w2 ⟨rfl, hb2⟩
    go_wp2
    go_ret2
    exact ⟨_, _, rfl, R1.out.grow hb2, B1.out.trans (hb2.mono B1.out.size)⟩
  · rw [if_neg hz]
    have HP : ∀ v w, Hid (SR w l v → Calls Tryd.prog 11 #[v] w fun e w' => e = .returned (.int .i64 (pe l)) ∧ Below w.heap.size w w') := fun v w h => path21 v l w HF.out h
    have hz' : (pe l == 0) = false := beq_eq_false_iff_ne.2 hz
    generalize pe l = z at *
    clear hz
    go_enter Tryd.func13, Tryd.ntmps13
    go_wp2_with fail
    refine HS.out.mono ?_
    rintro e w1 ⟨a, c, rfl, hsr, hb⟩
    have R1 : Hid (OS w.heap.size w1 (.slice a l.length c) l) := hsr
    have B1 : Hid (Below w.heap.size w w1) := hb
    clear hsr hb
    go_wp2_with fail
    refine ((HP _ _).out R1.out.sr).mono ?_
    rintro e w2 ⟨rfl, hb2⟩
    go_wp2
    go_ret2
    exact ⟨_, _, rfl, World.ownsRow_nil _ _ _ _, B1.out.trans (hb2.mono B1.out.size)⟩
/-- numbers that the call owns -/
def OI (B : Nat) (w : World) (v : Value) (l : List Nat) : Prop := w.ownsRow B 3 1 v l.length (l.map fun x : Nat => Value.int .i64 (x : Int))
theorem OI.ir {B : Nat} {w : World} {v : Value} {l : List Nat} (h : OI B w v l) : IR w l v := by
  have h' := h
  rcases h.2 with ⟨rfl, h0⟩ | ⟨g, cap, cur, rfl, _, hg, hc, _⟩
  · have : l = [] := List.length_eq_zero_iff.1 h0
    subst this; exact IR.nil _
  · refine ⟨_, cap, rfl, .inr ⟨g, 0, rfl, (Array.getElem?_eq_some_iff.1 hg).1, fun i hi => ?_⟩⟩
    have := World.ownsRow.cellAt h' i (by omega)
    rw [Nat.zero_add, this]
    simp [List.getD, List.getElem?_eq_getElem hi]
theorem SP.uniq {L : List (List ByteArray)} {l m : List Nat} (hn : ND L) (h : SP L l) (hm : SP L m) : l = m := by
  refine List.ext_getElem (h.len.trans hm.len.symm) (fun p h1 h2 => ?_)
  have hp : p < L.length := by rw [← h.len]; exact h1
  have e := rk_inj hn (h.low hp) (hm.low hp) ((h.rank hp).trans (hm.rank hp).symm)
  simpa [List.getD_eq_getElem?_getD, List.getElem?_eq_getElem h1, List.getElem?_eq_getElem h2] using e
/-- what Order answers, in memory of its own -/
def OO (L : List (List ByteArray)) (w : World) (e : Ending) (w' : World) : Prop :=
  ∃ (a : Option Addr) (c : Nat) (z : Int) (l : List Nat), e = .returned (.tuple #[.slice a l.length c, .int .i64 z]) ∧ OE L z ∧ OI w.heap.size w' (.slice a l.length c) l ∧ (z = 0 → SP L l) ∧ (z ≠ 0 → l = []) ∧ l.length ≤ 4096 ∧ Below w.heap.size w w'
/-- two answers of Order on the same paths are the same -/
theorem oo_same {L : List (List ByteArray)} {z z' : Int} {l l' : List Nat} (h1 : OE L z) (h2 : OE L z') (h3 : z = 0 → SP L l) (h4 : z ≠ 0 → l = []) (h5 : z' = 0 → SP L l') (h6 : z' ≠ 0 → l' = []) : z = z' ∧ l = l' := by
  obtain rfl := h1.unique h2
  refine ⟨rfl, ?_⟩
  by_cases hz : z = 0
  · have hd : ND L := by
      rw [hz] at h1
      exact h1.nd.2
    exact SP.uniq hd (h3 hz) (h5 hz)
  · rw [h4 hz, h6 hz]
set_option maxHeartbeats 1000000 in
theorem sameInts15 (v1 v2 : Value) (l : List Nat) (w : World) (h4 : l.length ≤ 4096) (h1 : IR w l v1) (h2 : IR w l v2) :
    Calls Tryd.prog 15 #[v1, v2] w fun e w' => e = .returned (.bool true) ∧ ∃ n, w' = w.drewN n := by
  have H1 : Hid (IR w l v1) := h1
  have H2 : Hid (IR w l v2) := h2
  obtain ⟨a1, c1, rfl, _⟩ := h1
  obtain ⟨a2, c2, rfl, _⟩ := h2
  generalize hn : l.length = n at *
  have HN : Hid (l.length = n) := hn
  clear hn
  go_enter Tryd.func15, Tryd.ntmps15
  go_wp2
  go_loopw [5] (fun i wr => ∃ k nq : Nat, k ≤ n ∧ i = .int .i64 k ∧ wr = w.drewN nq) (fun i _ => n - (intOf i).toNat)
  case atStart => exact ⟨0, 0, Nat.zero_le _, rfl, rfl⟩
  case round =>
    obtain ⟨k, nq, hk, rfl, rfl⟩ := hrel
    by_cases hlt : k < n
    · obtain ⟨b1, o1, rfl, _, k1⟩ := H1.out.cellAt (k := k) (by have := HN.out; omega)
      obtain ⟨b2, o2, rfl, _, k2⟩ := H2.out.cellAt (k := k) (by have := HN.out; omega)
      generalize ((l.getD k 0 : Nat) : Int) = x at k1 k2
      clear H1 H2
      go_wp2
      go_quiet (fail)
      go_wp2
      exact ⟨⟨k + 1, _, by omega, by go_num, rfl⟩, by simp [intOf]; omega⟩
    · obtain rfl : k = n := by omega
      go_wp2
      go_ret
      exact ⟨rfl, nq, rfl⟩
/-- a string of a list is written over -/
theorem Piece.setS {B : Nat} {w : World} {g c n : Nat} {l : List ByteArray} (h : Piece B w (.slice (some ⟨g, 0, none⟩) n c) l) (k : Nat) (hk : k < n) :
    w.cell? ⟨g, k, none⟩ = some (.string (sa l k)) ∧ w.frozen? ⟨g, k, none⟩ = false ∧ B ≤ g ∧ ∀ s : ByteArray, Piece B (w.setCell ⟨g, k, none⟩ (.string s)) (.slice (some ⟨g, 0, none⟩) n c) (l.set k s) := by
  obtain ⟨hn, hc, hcell⟩ := h.cap
  obtain ⟨g', c', e, ho⟩ := h
  simp only [Value.slice.injEq, Option.some.injEq, Addr.mk.injEq, and_true] at e
  obtain ⟨rfl, rfl, rfl⟩ := e
  have h2 : w.ownsRow B 9 1 (.slice (some ⟨g, 0, none⟩) (l.length + 1) c) (l.length + 1) ((l ++ [spS]).map .string) := by
    have := ho
    unfold OS at this
    rwa [List.length_append] at this
  refine ⟨?_, World.ownsRow.frozenAt h2 k, (ho.blk g rfl).1, fun s => ⟨g, c, by rw [List.length_set], ?_⟩⟩
  · rw [hcell k (by omega), sa_get hk, List.getD_eq_getElem?_getD, List.getElem?_append_left hk, List.getElem?_eq_getElem hk]
    rfl
  · have h3 := own_setR (i := k) (u := .string s) h2
    unfold OS
    rw [List.length_append, List.length_set]
    have e2 : ((l ++ [spS]).map Value.string).set k (.string s) = (l.set k s ++ [spS]).map Value.string := by
      rw [← List.map_set, List.set_append_left _ _ hk]
    rw [← e2]
    exact h3
end Go.Proofs.YtoiehkpmemmldaaDoor
