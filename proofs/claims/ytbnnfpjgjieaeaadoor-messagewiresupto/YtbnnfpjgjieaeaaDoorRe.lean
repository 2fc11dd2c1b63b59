import Derived.Test.YtbnnfpjgjieaeaaDoorEn
namespace Go.Proofs.YtbnnfpjgjieaeaaDoor
open Go.RowKit
set_option maxHeartbeats 1000000 in
theorem fourT (w : World) (B : Nat) (x : Int) (v : Value) (l : List UInt8) (hx : 0 ≤ x ∧ x ≤ 4294967295) (ho : OW B w v l) (hB : B ≤ w.heap.size) (hl : l.length ≤ 100000000) :
    Calls Tryd.prog 41 #[v, .int .i64 x] w fun e w' => LYR B w w' e (l ++ be4 x.toNat) := by
  obtain ⟨n, rfl⟩ := Int.eq_ofNat_of_zero_le hx.1
  have hn : n ≤ 4294967295 := by omega
  have HB := be4_cells' n hn
  have HO : Hid (OW B (w.alloc (.cells (bc (be4 n)) 5)) v l ∧ RB (w.alloc (.cells (bc (be4 n)) 5)) (.slice (some ⟨w.heap.size, 0, none⟩) 4 4) (be4 n) ∧ B ≤ (w.alloc (.cells (bc (be4 n)) 5)).heap.size ∧ l.length + (be4 n).length ≤ 140737488351232 ∧ Below B w (w.alloc (.cells (bc (be4 n)) 5))) := ⟨ho.alloc _, rb_new rfl, by simp; omega, by rw [be4_len]; omega, (Below.refl _ _).alloc hB _⟩
  obtain ⟨a, c, rfl⟩ := ho.form
  rw [← HB] at HO
  clear ho HB hx
  go_enter Tryd.func41, Tryd.ntmps41
  go_wp2_with (at_builtin; refine append_bytes rfl _ _ rfl rfl HO.out.1 rfl HO.out.2.1 HO.out.2.2.1 HO.out.2.2.2.1 ?_; intro v' w1 hown' hb1)
  have HE : Hid (OW B w1 v' (l ++ be4 n) ∧ Below B w w1) := ⟨hown', HO.out.2.2.2.2.trans hb1⟩
  clear hown' hb1
  go_wp2
  go_ret
  exact ⟨_, rfl, HE.out⟩
theorem append_byte_row {ops : Array Oper} {rest : List Oper} {o : Oper} {a : Act} {Q : Exit → Act → World → Prop} {w : World} {B : Nat} {sv : Value} {l : List UInt8} (hgd : o.guard = none) (s x : Operand)
    (ho : o.op = .call { callee := .builtin .append, args := #[s, x], argTypes := #[26, 26] }) (hs : a.eval s = sv) (hown : OW B w sv l) (b : Nat) (c : UInt8) (hx : a.eval x = .slice (some ⟨b, 0, none⟩) 1 1)
    (hc : w.cell? ⟨b, 0, none⟩ = some (.int .u8 c.toNat)) (hB : B ≤ w.heap.size) (hlim : l.length < 140737488351232)
    (h : ∀ v' w', OW B w' v' (l ++ [c]) → Below B w w' → (∀ (k : Nat) (cs : Array Value) (t : TypeId), w.heap[k]? = some (.cells cs t (0, 0)) → t ≠ 5 → w'.heap[k]? = some (.cells cs t (0, 0))) → wpList Tryd.prog ops Q rest (a.put o.dst v') w') : wpList Tryd.prog ops Q (o :: rest) a w := by
  obtain ⟨i0, hi, hz0, hz1, hz2⟩ := info_parts info5
  refine wpList_append_own w hgd s x 26 ho B 5 i0 _ 1 1 Tryd.underlying26 hi hz0 hz1 hz2 rfl (by omega) sv l.length (Lib.byteCells l) hs hown ⟨b, 0, none⟩ 1 1 [.int .u8 c.toNat] hx rfl (fun j u hu => ?_) (fun u hu => ?_) (by unfold maxLen; omega) (by omega) hB (fun v' w' h1 h2 _ => ?_)
  · match j, hu with
    | 0, hu => simp at hu; subst hu; simpa [Addr.add] using hc
  · simp at hu; subst hu; rfl
  · refine h v' w' ?_ ((Below.refl B w).grown h2 hB (fun k hk => (World.ownsRow.lt hown k hk).1)) (fun k cs t hk ht => ?_)
    · have e : Lib.byteCells l ++ [Value.int .u8 c.toNat] = Lib.byteCells (l ++ [c]) := by simp [Lib.byteCells]
      rw [e] at h1
      simpa [OW] using h1
    · refine (h2.block k (Array.getElem?_eq_some_iff.1 hk).1 fun e' => ?_).trans hk
      rcases hown.2 with ⟨rfl, _⟩ | ⟨g, cap, cur, rfl, _, hg, _⟩
      · simp [Value.ownBlock] at e'
      · simp [Value.ownBlock] at e'
        subst e'
        rw [hk] at hg
        simp at hg
        exact ht hg.2
set_option maxHeartbeats 1000000 in
set_option maxRecDepth 100000 in
theorem hashT (w : World) (B : Nat) (h : List UInt8) (v : Value) (l : List UInt8) (hh : h.length = 32) (ho : OW B w v l) (hB : B ≤ w.heap.size) (hl : l.length ≤ 100000000) :
    Calls Tryd.prog 43 #[v, .agg (bc h)] w fun e w' => LYR B w w' e (l ++ h) := by
  have hg := heapNew w (.cells (bc h) 44)
  have b0 : Below B w (w.alloc (.cells (bc h) 44)) := (Below.refl _ _).alloc hB _
  have HO : Hid (OW B (w.alloc (.cells (bc h) 44)) v l ∧ Below B w (w.alloc (.cells (bc h) 44)) ∧ B ≤ w.heap.size ∧ h.length = 32) := ⟨ho.alloc _, b0, hB, hh⟩
  have hs0 : w.heap.size < (w.alloc (.cells (bc h) 44)).heap.size := by simp
  obtain ⟨a, c, rfl⟩ := ho.form
  clear ho b0
  go_enter Tryd.func43, Tryd.ntmps43
  go_wp2
  have HG : Hid ((w.alloc (.cells (bc h) 44)).heap[w.heap.size]? = some (.cells (bc h) 44 (0, 0))) := hg
  clear hg
  generalize hbch : bc h = bch at *
  have HC : Hid (bc h = bch) := hbch
  clear hbch
  generalize w.alloc (.cells bch 44) = w0 at *
  go_loopw [0, 5] (fun u t wr => ∃ k : Nat, k ≤ 32 ∧ t = .int .i64 k ∧ Hid (OW B wr u (l ++ h.take k) ∧ Below B w0 wr ∧ wr.heap[w.heap.size]? = some (.cells bch 44 (0, 0)) ∧ w.heap.size < wr.heap.size)) (fun _ t _ => 32 - (intOf t).toNat)
  case atStart => exact ⟨0, by omega, rfl, by simpa using HO.out.1, Below.refl _ _, HG.out, hs0⟩
  case round =>
    obtain ⟨k, hk, rfl, hI⟩ := hrel
    by_cases hlt : k < 32
    · have hc1 : wr.cell? ⟨w.heap.size, k, none⟩ = some (.int .u8 ((byt h k).toNat : Int)) := by
        have h1 := hI.out.2.2.1
        rw [← HC.out] at h1
        exact cell_bc h1 k (by have := HO.out.2.2.2; omega)
      have HT : Hid (h.take (k + 1) = h.take k ++ [byt h k] ∧ (l ++ h.take k).length < 140737488351232) := ⟨take_snoc h k (by have := HO.out.2.2.2; omega), by rw [List.length_append, List.length_take]; omega⟩
      obtain ⟨ua, uc, rfl⟩ := hI.out.1.form
      generalize hLL : l ++ h.take k = LL at *
      have HLL : Hid (l ++ h.take k = LL) := hLL
      clear hLL
      generalize byt h k = y at *
      have HX : Hid (OW B (wr.alloc (.cells #[.int .u8 (y.toNat : Int)] 5)) (.slice ua LL.length uc) LL ∧ B ≤ (wr.alloc (.cells #[.int .u8 (y.toNat : Int)] 5)).heap.size) := ⟨hI.out.1.alloc _, by have := HO.out.2.2.1; have := hI.out.2.2.2; simp; omega⟩
      go_wp2_with (at_builtin; refine append_byte_row rfl _ _ rfl rfl HX.out.1 wr.heap.size y rfl (by go_simp) HX.out.2 HT.out.2 ?_; intro v' w1 hown' hb1 hrow)
      refine ⟨⟨k + 1, by omega, by go_num, ?_, ?_, ?_, ?_⟩, by simp [intOf]; omega⟩
      · rw [HT.out.1, ← List.append_assoc, HLL.out]; exact hown'
      · exact (hI.out.2.1.alloc (by have := hI.out.2.1.size; have := HO.out.2.2.1; have := hI.out.2.2.2; omega) _).trans hb1
      · exact hrow _ _ _ (by rw [heapOld _ _ _ hI.out.2.2.2]; exact hI.out.2.2.1) (by decide)
      · have h1 := hb1.size; have h2 := hI.out.2.2.2; simp at h1; omega
    · obtain rfl : k = 32 := by omega
      have HE : Hid (OW B wr u0 (l ++ h) ∧ Below B w wr) := by
        have h1 := hI.out.1
        rw [List.take_of_length_le (by have := HO.out.2.2.2; omega)] at h1
        exact ⟨h1, HO.out.2.1.trans hI.out.2.1⟩
      go_wp2
      go_ret
      exact ⟨_, rfl, HE.out⟩
theorem OW.form2 {B : Nat} {w : World} {v : Value} {l : List UInt8} (h : OW B w v l) : ∃ a n c, v = .slice a n c := by
  obtain ⟨a, c, e⟩ := h.form
  exact ⟨a, _, c, e⟩
theorem asksT2 (w : World) (k : Int) : Calls Tryd.prog 40 #[.int .i64 k] w fun e w' => e = .returned (.bool (asksB k)) ∧ w = w' := (asksT w k).mono fun _ _ h => ⟨h.1, h.2.symm⟩
theorem queryT2 (w : World) (k : Int) : Calls Tryd.prog 42 #[.int .i64 k] w fun e w' => e = .returned (.bool (queryB k)) ∧ w = w' := (queryT w k).mono fun _ _ h => ⟨h.1, h.2.symm⟩
theorem ref0 (m : Mv) (h : refE m = 0) : fR m = false ∧ fdR m = true := by
  unfold refE at h
  split at h
  · simp at h
  · split at h
    · simp at h
    · rename_i h1 h2
      split at h
      · rename_i h3
        exact ⟨by simpa using h2, h3⟩
      · simp at h
theorem ref0_nums (m : Mv) (h : refE m = 0) : (0 ≤ m.i ∧ m.i ≤ 4294967295) ∧ (0 ≤ m.b ∧ m.b ≤ 4294967295) ∧ (0 ≤ m.l ∧ m.l ≤ 4294967295) ∧ (0 ≤ m.ba ∧ m.ba ≤ 4294967295) ∧ (0 ≤ m.pr ∧ m.pr ≤ 4294967295) := by
  have := (ref0 m h).2
  simp [fdR, fd1, numB] at this
  omega
theorem ref0_data (m : Mv) (h : refE m = 0) (h5 : m.k ≠ 5) (h7 : m.k ≠ 7) (h9 : m.k ≠ 1000) : sln m.d = 0 := by
  have := (ref0 m h).1
  simp [fR, fc4] at this
  have := this.1.1.2
  omega
theorem ref0_hash (m : Mv) (h : refE m = 0) (h22 : m.k ≠ 22) : sln m.h = 0 := by
  have := (ref0 m h).1
  simp [fR, fc6] at this
  have := this.2
  omega
end Go.Proofs.YtbnnfpjgjieaeaaDoor
