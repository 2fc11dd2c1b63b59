import Derived.Test.YtglknmelcianjaaFu
import Derived.Great.BuildSlice
import Derived.Deep.RegionLaw
namespace Go.Proofs.Ytglknmelcianjaa
open Go.RowKit
theorem setCells_other (g k : Nat) (hk : k ≠ g) : ∀ (vs : List Value) (o : Nat) (w : World), (w.setCells g o vs).heap[k]? = w.heap[k]?
  | [], _, _ => rfl
  | v :: vs, o, w => (setCells_other g k hk vs (o + 1) (w.setCell ⟨g, o, none⟩ v)).trans (setCell_other hk)
theorem setCells_size (g : Nat) : ∀ (vs : List Value) (o : Nat) (w : World), (w.setCells g o vs).heap.size = w.heap.size
  | [], _, _ => rfl
  | v :: vs, o, w => (setCells_size g vs (o + 1) (w.setCell ⟨g, o, none⟩ v)).trans (by simp)
theorem setCells_below {B : Nat} {a : World} (g : Nat) (hg : B ≤ g) : ∀ (vs : List Value) (o : Nat) (w : World), Below B a w → Below B a (w.setCells g o vs)
  | [], _, _, h => h
  | v :: vs, o, w, h => setCells_below g hg vs (o + 1) (w.setCell ⟨g, o, none⟩ v) (h.setCell hg v)
theorem setCells_seg (g : Nat) (t : TypeId) (post : List Value) : ∀ (vs pre mid : List Value) (w : World), mid.length = vs.length →
    w.heap[g]? = some (.cells (pre ++ mid ++ post).toArray t (0, 0)) → (w.setCells g pre.length vs).heap[g]? = some (.cells (pre ++ vs ++ post).toArray t (0, 0))
  | [], pre, mid, w, hl, h => by
    have : mid = [] := List.length_eq_zero_iff.1 hl
    subst this; exact h
  | v :: vs, pre, [], w, hl, h => by simp at hl
  | v :: vs, pre, p :: mid, w, hl, h => by
    have h1 : (w.setCell ⟨g, pre.length, none⟩ v).heap[g]? = some (.cells ((pre ++ p :: mid ++ post).toArray.setIfInBounds pre.length v) t (0, 0)) := by
      rw [setCell_eq_setRow w g _ _ _ _ _ h]; exact heapSetRow _ _ _ _ _ h
    have e : (pre ++ p :: mid ++ post).toArray.setIfInBounds pre.length v = ((pre ++ [v]) ++ mid ++ post).toArray := by simp
    rw [e] at h1
    have h2 := setCells_seg g t post vs (pre ++ [v]) mid (w.setCell ⟨g, pre.length, none⟩ v) (by simpa using hl) h1
    simpa [World.setCells] using h2
/-- the cells of a write's box -/
def wx (n : Nat) (d : List UInt8) : Array Value := #[.int .i64 n] ++ bc d
theorem wx_size (n : Nat) (d : List UInt8) (h : d.length = 64) : (wx n d).size = 65 := by simp [wx, bc_size, h]
theorem wx_one (n : Nat) (d : List UInt8) : (wx n d).all (·.oneCell') = true := by
  unfold wx
  rw [Array.all_append]
  simp [Value.oneCell']
  intro i h
  exact Lib.byteCells_one d (bc d)[i] (by rw [← bc_list]; exact Array.getElem_mem_toList _)
theorem wx_cell {w : World} {b n : Nat} {d : List UInt8} (hg : w.heap[b]? = some (.cells (wx n d) 62 (0, 0))) (i : Nat) (hi : i < d.length) : w.cell? ⟨b, 1 + i, none⟩ = some (.int .u8 ((byt d i).toNat : Int)) := by
  have e : (wx n d)[1 + i]? = some (.int .u8 ((byt d i).toNat : Int)) := by
    unfold wx
    rw [Array.getElem?_append_right (by simp), getD_byt d i hi]
    simp [bc, Lib.byteCells, hi]
  simp [World.cell?, hg, e]
theorem wx_list (n : Nat) (d : List UInt8) : (wx n d).toList = [Value.int .i64 n] ++ Lib.byteCells d := by simp [wx, bc_list]
theorem copy_box (w : World) (ty : TypeId) (b n : Nat) (da : Option Addr) (dc : Nat) (d z : List UInt8) (hd : d.length = 64) (hz : z.length = 64) (hg : w.heap[b]? = some (.cells (wx n z) 62 (0, 0))) (hr : RB w (.slice da 64 dc) d) :
    (Builtin.copy_ #[27, 27] ty #[.slice (some ⟨b, 1, none⟩) 64 64, .slice da 64 dc]).run Try.prog w = .ok (goInt 64) (w.setRow b (wx n d)) := by
  obtain ⟨a, c, e, _, hr⟩ := hr
  simp only [Value.slice.injEq] at e
  obtain ⟨rfl, _, rfl⟩ := e
  rcases hr with rfl | ⟨g, o, rfl, _, hc⟩
  · simp at hd
  · have h := run_copy_row (P := Try.prog) w 27 27 ty 5 b 1 64 64 ⟨g, o, none⟩ 64 dc (wx n z) 62 (Lib.byteCells d) Try.underlying27 hs5 hg (by rw [bcl_len, hd]; rfl)
      (fun j v hj => by
        have hj' : j < d.length := by
          have := (List.getElem?_eq_some_iff.1 hj).1
          rwa [bcl_len] at this
        have hadd : (⟨g, o, none⟩ : Addr).add j = ⟨g, o + j, none⟩ := by unfold Addr.add; split <;> simp_all
        rw [hadd, hc j hj', getD_byt d j hj']
        simpa [Lib.byteCells, List.getElem?_eq_getElem hj'] using hj)
      (by rw [bcl_len, wx_size n z hz]; omega) (Lib.byteCells_one _)
    rw [h, bcl_len, hd]
    congr 2
    apply Array.ext'
    rw [wx_list, wx_list]
    simp [Lib.byteCells, hz]
theorem foldl_set : ∀ (xs : List Value) (k : Nat) (cs : Array Value), k + xs.length = cs.size → ((xs.zipIdx k).foldl (fun cs (p : Value × Nat) => cs.setIfInBounds (0 * 65 + p.2) p.1) cs).toList = cs.toList.take k ++ xs
  | [], k, cs, h => by simp at h ⊢; rw [h, ← Array.length_toList, List.take_length]
  | x :: xs, k, cs, h => by
    simp only [List.zipIdx_cons, List.foldl_cons]
    rw [foldl_set xs (k + 1) _ (by simp at h ⊢; omega)]
    have hk : k < cs.toList.length := by simp at h ⊢; omega
    rw [Array.toList_setIfInBounds, Nat.zero_mul, Nat.zero_add, List.take_succ_eq_append_getElem (by simpa using hk), List.take_set_of_le (Nat.le_refl _)]
    simp
theorem fill_w (cs : Array Value) (hs : cs.size = 65) (Z : Array Value) (hZ : Z.size = 65) : Instr.fill (fun i => some (i * 65, 65)) Z [(0, .agg cs)] = some cs := by
  have hc : (Value.agg cs).cells = cs := rfl
  unfold Instr.fill
  simp only [hc, hs, hZ]
  rw [if_neg (by decide)]
  unfold Instr.fill
  congr 1
  apply Array.ext'
  rw [← Array.foldl_toList, Array.toList_zipIdx]
  have := foldl_set cs.toList 0 Z (by rw [Array.length_toList, hs, hZ])
  rw [List.take_zero, List.nil_append] at this
  exact this
theorem build_w {ops : Array Oper} {rest : List Oper} {o : Oper} {a : Act} {w : World} {Q : Exit → Act → World → Prop} (hg : o.guard = none) (x : Operand) (ho : o.op = .buildSlice 57 1 #[(0, x)]) (cs : Array Value) (hv : a.eval x = .agg cs) (hl : cs.size = 65)
    (h : wpList Try.prog ops Q rest (a.put o.dst (.slice (some ⟨w.heap.size, 0, none⟩) 1 1)) (w.alloc (.cells cs 62))) : wpList Try.prog ops Q (o :: rest) a w := by
  obtain ⟨i0, hi, hz0, hz1, hz2⟩ := info_parts infoW
  refine wpList_buildSlice hg 57 62 1 _ ho cs i0 _ Try.underlying57 hi hz0 (by rw [hz1]; decide) (by rw [hz1]; decide) ?_ h
  rw [hz1]
  have e : (#[(0, x)].map fun (i, y) => (i, a.eval y)).toList = [(0, .agg cs)] := by simp [hv]
  rw [e]
  exact fill_w cs hl _ (by rw [Array.size_map, Array.size_range])
/-- one more write joins a list of writes -/
theorem append_w {ops : Array Oper} {rest : List Oper} {o : Oper} {a : Act} {Q : Exit → Act → World → Prop} {w : World} {sv : Value} {l : List (Nat × List UInt8)} (hgd : o.guard = none) (s x : Operand)
    (ho : o.op = .call { callee := .builtin .append, args := #[s, x], argTypes := #[57, 57] }) (hs : a.eval s = sv) (hown : OL w sv l) (b n : Nat) (d : List UInt8) (hx : a.eval x = .slice (some ⟨b, 0, none⟩) 1 1)
    (hc : w.heap[b]? = some (.cells (wx n d) 62 (0, 0))) (hd : d.length = 64) (hlim : l.length < 1073741824)
    (h : ∀ v' w', OL w' v' (l ++ [(n, d)]) → w.grownBy w' sv.ownBlock → (v'.ownBlock = sv.ownBlock ∨ v'.ownBlock = some w.heap.size) → wpList Try.prog ops Q rest (a.put o.dst v') w') : wpList Try.prog ops Q (o :: rest) a w := by
  obtain ⟨i0, hi, hz0, hz1, hz2⟩ := info_parts infoW
  refine wpList_append_own_at w hgd s x 57 ho 0 62 i0 _ 65 72 Try.underlying57 hi hz0 hz1 hz2 rfl (by omega) sv l.length (l.flatMap wc) hs hown ⟨b, 0, none⟩ 1 1 (wc (n, d)) hx (by simp [wc, bcl_len, hd]) (fun j u hu => ?_) (fun u hu => ?_) (by unfold maxLen; omega) (by omega) (Nat.zero_le _) (fun v' w' k1 k2 _ k4 => ?_)
  · have hadd : (⟨b, 0, none⟩ : Addr).add j = ⟨b, j, none⟩ := by unfold Addr.add; split <;> simp_all
    have e : (wx n d).toList = wc (n, d) := by rw [wx_list]; rfl
    rw [hadd]
    simp only [World.cell?, hc]
    rw [← Array.getElem?_toList, e]
    simpa using hu
  · have := Array.all_eq_true_iff_forall_mem.1 (wx_one n d) u (by
      have e : (wx n d).toList = wc (n, d) := by rw [wx_list]; rfl
      rw [← Array.mem_toList_iff, e]; exact hu)
    exact this
  · refine h v' w' ?_ k2 k4
    unfold OL
    rw [List.length_append, List.flatMap_append]
    simpa using k1
theorem range_wx {w : World} {b n : Nat} {d : List UInt8} (hg : w.heap[b]? = some (.cells (wx n d) 62 (0, 0))) : w.rangeAt b 1 (Lib.byteCells d) := fun j v hj => by
  have hj' : j < d.length := by
    have := (List.getElem?_eq_some_iff.1 hj).1
    rwa [bcl_len] at this
  rw [wx_cell hg j hj', getD_byt d j hj']
  simpa [Lib.byteCells, List.getElem?_eq_getElem hj'] using hj
theorem there_row {w : World} {b o n : Nat} {cs : Array Value} {t : TypeId} (hg : w.heap[b]? = some (.cells cs t (0, 0))) (h : o + n ≤ cs.size) : w.there b o n := fun j hj => by
  constructor
  · simp [World.cell?, hg]; omega
  · simp [World.frozen?, hg]
theorem bc_one (l : List UInt8) : (bc l).all (·.oneCell') = true := by
  rw [Array.all_eq_true_iff_forall_mem]
  intro v hv
  exact Lib.byteCells_one l v (by rw [← bc_list]; simpa using hv)
theorem sec_set {w : World} {b : Nat} {d d0 : List UInt8} {v : Value} (hg : w.heap[b]? = some (.cells (bc d0 ++ #[v]) 59 (0, 0))) (h0 : d0.length = 64) (hd : d.length = 64) : (w.setCells b 0 (bc d).toList).heap[b]? = some (.cells (bc d ++ #[v]) 59 (0, 0)) := by
  have := setCells_seg b 59 [v] (bc d).toList [] (bc d0).toList w (by simp [bc_size, h0, hd]) (by rw [hg]; congr 2; apply Array.ext'; simp)
  rw [List.length_nil, List.nil_append] at this
  rw [this]
  congr 2
  apply Array.ext'
  simp
theorem stage_d {w wB wC : World} {n : Nat} {d d0 : List UInt8} {v : Value} (h1 : Below w.heap.size w wB) (hB : wB.heap.size = w.heap.size + 1) (h2 : Below wB.heap.size wB wC) (hg : wC.heap[wB.heap.size]? = some (.cells (bc d0 ++ #[v]) 59 (0, 0))) (hC : wC.heap.size = wB.heap.size + 1) (h0 : d0.length = 64) (hd : d.length = 64)
    (hw : wC.heap[w.heap.size]? = some (.cells (wx n d) 62 (0, 0))) :
    Below w.heap.size w (wC.setCells wB.heap.size 0 (bc d).toList) ∧ (wC.setCells wB.heap.size 0 (bc d).toList).heap[w.heap.size]? = some (.cells (wx n d) 62 (0, 0)) ∧ (wC.setCells wB.heap.size 0 (bc d).toList).heap[w.heap.size + 1]? = some (.cells (bc d ++ #[v]) 59 (0, 0)) ∧ (wC.setCells wB.heap.size 0 (bc d).toList).heap.size = w.heap.size + 2 := by
  refine ⟨setCells_below _ (by omega) _ _ _ (h1.trans (h2.mono (by omega))), ?_, ?_, ?_⟩
  · rw [setCells_other _ _ (by omega)]; exact hw
  · rw [← hB]; exact sec_set hg h0 hd
  · rw [setCells_size]; omega
section
variable {S : Nat → Prop} {w : World} {p lb cap mb : Nat} {ov : Value} {M : DataW Value} {L : Nat → Value} {D : Dk}
theorem isKey (s : Nat) : WideAt.IsKeyLit (ky s) := trivial
theorem ky_inj {s t : Nat} (h : ky s = ky t) : s = t := by simp only [ky, Lit.int.injEq] at h; omega
/-- a write has joined -/
theorem dk_written (h : DI S w p lb cap mb ov M L D) {S' : Nat → Prop} {w' : World} {ov' : Value} {L' : Nat → Value} {F' : Nat → List (Nat × List UInt8)} (s : Nat) (d : List UInt8) (dead : Bool) (hs : 64 * s + 64 ≤ D.last.length) (hd : d.length = 64)
    (hF : ∀ t, F' t = lv t 0 (D.ws ++ [⟨s, d, dead⟩])) (hL : ∀ t, t ≠ s → L' t = L t) (hN : lv s 0 (D.ws ++ [⟨s, d, dead⟩]) = [] → L' s = .slice none 0 0)
    (hp : DP S' w' p lb cap mb (D.ws.length + 1) ov' ov' (M.put (ky s) (.held (secV d (L' s)))) L' F' D.last (D.ws.map (·.at_) ++ [s]) (burnt D.fu)) : DK S' w' p ⟨D.last, D.ws ++ [⟨s, d, dead⟩], burnt D.fu⟩ := by
  have hM := h.map.isMap
  refine ⟨lb, cap, mb, ov', M.put (ky s) (.held (secV d (L' s))), L', hp.blk, hp.las, ?_, ?_, ?_, ?_, ?_, ?_, hp.dis, hp.sp, hp.sl, hp.sm, hp.so, hp.sv, ?_⟩
  · show w'.ownsMap Try.prog 3 idR mb (D.ws ++ [(⟨s, d, dead⟩ : Wt)]).length _
    rw [List.length_append]; exact hp.map
  · have := hp.ord
    show w'.ownsRow 0 3 1 ov' (D.ws ++ [(⟨s, d, dead⟩ : Wt)]).length ((D.ws ++ [(⟨s, d, dead⟩ : Wt)]).map _)
    simpa [Function.comp_def] using this
  · intro kl hk
    by_cases hks : kl = ky s
    · exact ⟨s, hks, by show (nw s (D.ws ++ [⟨s, d, dead⟩])).isSome = true; rw [nw_snoc]; simp⟩
    · rw [Maps.has_put_other hks] at hk
      obtain ⟨t, e, ht⟩ := h.key kl hk
      refine ⟨t, e, ?_⟩
      show (nw t (D.ws ++ [⟨s, d, dead⟩])).isSome = true
      rw [nw_snoc]
      split
      · rfl
      · exact ht
  · intro t d' ht
    have ht' : nw t (D.ws ++ [⟨s, d, dead⟩]) = some d' := ht
    rw [nw_snoc] at ht'
    by_cases hts : t = s
    · subst hts
      simp at ht'
      subst ht'
      exact ⟨Maps.has_put_same hM (isKey t) _, fun z => Maps.atKey_put_same hM (isKey t) _ z⟩
    · rw [if_neg (fun e : s = t => hts e.symm)] at ht'
      obtain ⟨h1, h2⟩ := h.got t d' ht'
      have hne : ky t ≠ ky s := fun e => hts (ky_inj e)
      exact ⟨by rw [Maps.has_put_other hne]; exact h1, fun z => by rw [Maps.atKey_put_other hne, h2 z, hL t hts]⟩
  · intro t
    have := hp.liv t
    rw [hF t] at this
    exact this
  · intro t ht
    by_cases hts : t = s
    · subst hts; exact hN ht
    · rw [hL t hts]
      apply h.nol t
      have ht' : lv t 0 (D.ws ++ [⟨s, d, dead⟩]) = [] := ht
      rw [lv_snoc, List.append_eq_nil_iff] at ht'
      exact ht'.1
  · exact ⟨h.gd.mul, h.gd.pos, h.gd.max, fun x hx => by
      rcases List.mem_append.1 hx with hx | hx
      · exact h.gd.ws x hx
      · simp at hx; subst hx; exact ⟨hs, hd⟩, fun k hk => by
      have hk' : burnt D.fu = some k := hk
      cases hf : D.fu with
      | none => rw [hf] at hk'; cases hk'
      | some j =>
        have := h.gd.fu j hf
        rw [hf] at hk'
        cases j with
        | zero => simp [burnt] at hk'; omega
        | succ j => simp [burnt] at hk'; omega⟩
end
end Go.Proofs.Ytglknmelcianjaa
