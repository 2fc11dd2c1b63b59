import Derived.Test.YtpembmfpgolniaaDoorRs
import Derived.Great.BuildSlice
namespace Go.Proofs.YtpembmfpgolniaaDoor
open Go.RowKit
theorem foldl_setN (N : Nat) : ∀ (xs : List Value) (k : Nat) (cs : Array Value), k + xs.length = cs.size → ((xs.zipIdx k).foldl (fun cs (p : Value × Nat) => cs.setIfInBounds (0 * N + p.2) p.1) cs).toList = cs.toList.take k ++ xs
  | [], k, cs, h => by simp at h ⊢; rw [h, ← Array.length_toList, List.take_length]
  | x :: xs, k, cs, h => by
    simp only [List.zipIdx_cons, List.foldl_cons]
    rw [foldl_setN N xs (k + 1) _ (by simp at h ⊢; omega)]
    have hk : k < cs.toList.length := by simp at h ⊢; omega
    rw [Array.toList_setIfInBounds, Nat.zero_mul, Nat.zero_add, List.take_succ_eq_append_getElem (by simpa using hk), List.take_set_of_le (Nat.le_refl _)]
    simp
theorem fillN (N : Nat) (cs : Array Value) (hs : cs.size = N) (Z : Array Value) (hZ : Z.size = N) : Instr.fill (fun i => some (i * N, N)) Z [(0, .agg cs)] = some cs := by
  have hc : (Value.agg cs).cells = cs := rfl
  unfold Instr.fill
  simp only [hc, hs, hZ]
  rw [if_neg (by simp)]
  unfold Instr.fill
  congr 1
  apply Array.ext'
  rw [← Array.foldl_toList, Array.toList_zipIdx]
  have := foldl_setN N cs.toList 0 Z (by rw [Array.length_toList, hs, hZ]; omega)
  rw [List.take_zero, List.nil_append] at this
  exact this
theorem build_hash {ops : Array Oper} {rest : List Oper} {o : Oper} {a : Act} {w : World} {Q : Exit → Act → World → Prop} (hg : o.guard = none) (x : Operand) (ho : o.op = .buildSlice 25 1 #[(0, x)]) (cs : Array Value) (hv : a.eval x = .agg cs) (hl : cs.size = 32)
    (h : wpList Tryd.prog ops Q rest (a.put o.dst (.slice (some ⟨w.heap.size, 0, none⟩) 1 1)) (w.alloc (.cells cs 24))) : wpList Tryd.prog ops Q (o :: rest) a w := by
  obtain ⟨i0, hi, hz0, hz1, hz2⟩ := info_parts info_hashP
  refine wpList_buildSlice hg 25 24 1 _ ho cs i0 _ Tryd.underlying25 hi hz0 (by rw [hz1]; decide) (by rw [hz1]; decide) ?_ h
  rw [hz1]
  have e : (#[(0, x)].map fun (i, y) => (i, a.eval y)).toList = [(0, .agg cs)] := by simp [hv]
  rw [e]
  exact fillN 32 cs hl _ (by rw [Array.size_map, Array.size_range])
/-- one more hash joins a list of hashes -/
theorem append_hash {ops : Array Oper} {rest : List Oper} {o : Oper} {a : Act} {Q : Exit → Act → World → Prop} {w : World} {B : Nat} {sv : Value} {l r : List UInt8} (hgd : o.guard = none) (s x : Operand)
    (ho : o.op = .call { callee := .builtin .append, args := #[s, x], argTypes := #[25, 25] }) (hs : a.eval s = sv) (hown : OH B w sv l) (b : Nat) (hx : a.eval x = .slice (some ⟨b, 0, none⟩) 1 1)
    (hc : w.heap[b]? = some (.cells (bc r) 24 (0, 0))) (hr : r.length = 32) (hB : B ≤ w.heap.size) (hlim : l.length < 1000000)
    (h : ∀ v' w', OH B w' v' (l ++ r) → Below B w w' → (∀ (k : Nat) (cs : Array Value) (t : TypeId), w.heap[k]? = some (.cells cs t (0, 0)) → t ≠ 24 → w'.heap[k]? = some (.cells cs t (0, 0))) → wpList Tryd.prog ops Q rest (a.put o.dst v') w') : wpList Tryd.prog ops Q (o :: rest) a w := by
  obtain ⟨i0, hi, hz0, hz1, hz2⟩ := info_parts info_hashP
  obtain ⟨n, hn, hown⟩ := hown
  refine wpList_append_own w hgd s x 25 ho B 24 i0 _ 32 32 Tryd.underlying25 hi hz0 hz1 hz2 rfl (by omega) sv n (Lib.byteCells l) hs hown ⟨b, 0, none⟩ 1 1 (Lib.byteCells r) hx (by rw [bcl_len, hr]) (fun j u hu => ?_) (Lib.byteCells_one _) (by unfold maxLen; omega) (by omega) hB (fun v' w' h1 h2 _ => ?_)
  · have hj' : j < r.length := by
      have := (List.getElem?_eq_some_iff.1 hu).1
      rwa [bcl_len] at this
    rw [Addr.add_mid, Nat.zero_add, cell_bc hc j hj', ← hu, bcl_get r j hj']
  · refine h v' w' ⟨n + 1, by rw [List.length_append, hn, hr]; omega, ?_⟩ ((Below.refl B w).grown h2 hB (fun k hk => (World.ownsRow.lt hown k hk).1)) (fun k cs t hk ht => ?_)
    · rw [bcl_append]; exact h1
    · refine (h2.block k (Array.getElem?_eq_some_iff.1 hk).1 fun e' => ?_).trans hk
      rcases hown.2 with ⟨rfl, _⟩ | ⟨g, cap, cur, rfl, _, hg, _⟩
      · simp [Value.ownBlock] at e'
      · simp [Value.ownBlock] at e'
        subst e'
        rw [hk] at hg
        simp at hg
        exact ht hg.2
theorem RS.hash {w X X' : World} {M : Nat} {m : Mv} {hb hb2 : List UInt8} {v : Value} (h : RS w X M m [] hb) (hd : m.d = .slice none 0 0) (ho : OH w.heap.size X' v hb2) (hb' : Below w.heap.size X X')
    (hrow : ∀ (k : Nat) (cs : Array Value) (t : TypeId), X.heap[k]? = some (.cells cs t (0, 0)) → t ≠ 24 → X'.heap[k]? = some (.cells cs t (0, 0))) : RS w (X'.setCell ⟨M, 39, none⟩ v) M { m with h := v } [] hb2 := by
  have hm : MB X' M m := hrow _ _ _ h.mb (by decide)
  have hz := hrow _ _ _ h.z (by decide)
  have bb := Besides.setCell X' M 39 v
  have b1 : Below w.heap.size w X' := h.b.trans hb'
  exact ⟨⟨h.ok.r, h.ok.d, ho.form⟩, hm.set 39 _ (Mv.set39 h.ok _), (bb.block _ (Array.getElem?_eq_some_iff.1 hz).1 (Nat.ne_of_lt h.lt)).trans hz, bb.below b1 (Nat.le_of_lt h.lt) b1.size, h.lt, by show OW _ _ m.d []; rw [hd]; exact World.ownsRow_nil _ _ _ _, ho.besides hm bb⟩
end Go.Proofs.YtpembmfpgolniaaDoor
