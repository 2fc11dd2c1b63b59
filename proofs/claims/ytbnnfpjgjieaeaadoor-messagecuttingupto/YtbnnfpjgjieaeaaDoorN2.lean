import Derived.Test.YtbnnfpjgjieaeaaDoorN1
import Derived.Great.BuildSlice
namespace Go.Proofs.YtbnnfpjgjieaeaaDoor
open Go.RowKit
theorem info_msgP : (Tryd.prog.info? 47).map (fun i => (i.zero, i.size, i.bytes)) = some (some (.agg z40), 40, 128) := by kernel_rfl
theorem foldl_setN (N : Nat) : ∀ (xs : List Value) (k : Nat) (cs : Array Value), k + xs.length = cs.size → ((xs.zipIdx k).foldl (fun cs (p : Value × Nat) => cs.setIfInBounds (0 * N + p.2) p.1) cs).toList = cs.toList.take k ++ xs
  | [], k, cs, h => by simp at h ⊢; rw [h, ← Array.length_toList, List.take_length]
  | x :: xs, k, cs, h => by
    simp only [List.zipIdx_cons, List.foldl_cons]
    rw [foldl_setN N xs (k + 1) _ (by simp at h ⊢; omega)]
    have hk : k < cs.toList.length := by simp at h ⊢; omega
    rw [Array.toList_setIfInBounds, Nat.zero_mul, Nat.zero_add, List.take_succ_eq_append_getElem (by simpa using hk), List.take_set_of_le (Nat.le_refl _)]
    simp
theorem fillN (N : Nat) (cs : Array Value) (hs : cs.size = N) (Z : Array Value) (hZ : Z.size = N) : Instr.fill (fun i => some (i * N, N)) Z [(0, .agg cs)] = some cs := by
  have hc : (Value.agg cs).cells = cs := rfl
  unfold Instr.fill
  simp only [hc, hs, hZ]
  rw [if_neg (by simp)]
  unfold Instr.fill
  congr 1
  apply Array.ext'
  rw [← Array.foldl_toList, Array.toList_zipIdx]
  have := foldl_setN N cs.toList 0 Z (by rw [Array.length_toList, hs, hZ]; omega)
  rw [List.take_zero, List.nil_append] at this
  exact this
/-- a message whose lists the call owns -/
structure OMg (B : Nat) (w : World) (x : Mg) : Prop where
  ok : x.m.ok
  d : OW B w x.m.d x.D
  h : OH B w x.m.h x.hb
  dl : x.D.length ≤ 140737488351232
  hl : x.hb.length ≤ 140737488351232
theorem OMg.mm {B : Nat} {w : World} {x : Mg} (h : OMg B w x) : MM w x.m x.D x.hb := ⟨h.ok, h.d.rb, h.h.rh, by have := h.dl; omega, by have := h.hl; omega⟩
/-- a list of messages that the call owns -/
def OMS (B : Nat) (w : World) (v : Value) (ms : List Mg) : Prop := w.ownsRow B 47 40 v ms.length (ms.flatMap fun x => x.m.ls) ∧ ∀ x ∈ ms, OMg B w x
theorem OMS.nil (B : Nat) (w : World) : OMS B w (.slice none 0 0) [] := ⟨World.ownsRow_nil _ _ _ _, by simp⟩
theorem ok_ls {m : Mv} (h : m.ok) : m.ls.length = 40 := by have := h.size; unfold Mv.cs at this; simpa using this
theorem flat40 (ms : List Mg) (h : ∀ x ∈ ms, x.m.ls.length = 40) (i : Nat) (x : Mg) (hi : ms[i]? = some x) (j : Nat) (hj : j < 40) : (ms.flatMap fun x => x.m.ls)[i * 40 + j]? = x.m.ls[j]? := by
  induction ms generalizing i with
  | nil => simp at hi
  | cons y l ih =>
    have hy : y.m.ls.length = 40 := h y (by simp)
    cases i with
    | zero =>
      simp at hi; subst hi
      rw [List.flatMap_cons, Nat.zero_mul, Nat.zero_add, List.getElem?_append_left (by omega)]
    | succ i =>
      rw [List.flatMap_cons, List.getElem?_append_right (by omega), hy, show (i + 1) * 40 + j - 40 = i * 40 + j by omega]
      exact ih (fun z hz => h z (by simp [hz])) i (by simpa using hi)
theorem OMS.rms {B : Nat} {w : World} {v : Value} {ms : List Mg} (h : OMS B w v ms) : RMS w v ms := by
  have h40 : ∀ x ∈ ms, x.m.ls.length = 40 := fun x hx => ok_ls (h.2 x hx).ok
  have h' := h.1
  rcases h.1.2 with ⟨rfl, h0⟩ | ⟨g, cap, cur, rfl, _, hg, hle, _⟩
  · exact ⟨none, 0, by rw [h0], by omega, .inl (List.length_eq_zero_iff.1 h0), fun x hx => (h.2 x hx).mm⟩
  · refine ⟨_, cap, rfl, hle, .inr ⟨g, 0, rfl, (Array.getElem?_eq_some_iff.1 hg).1, fun i x hx j u hu => ?_⟩, fun x hx => (h.2 x hx).mm⟩
    have hj : j < 40 := by
      have := (List.getElem?_eq_some_iff.1 hu).1
      rw [h40 x (List.mem_of_getElem? hx)] at this
      exact this
    have hi : i < ms.length := (List.getElem?_eq_some_iff.1 hx).1
    have := World.ownsRow.cellAt h' (i * 40 + j) (by omega)
    rw [Nat.zero_add, this, flat40 ms h40 i x hx j hj, hu]
theorem OMS.form {B : Nat} {w : World} {v : Value} {ms : List Mg} (h : OMS B w v ms) : ∃ a c, v = .slice a ms.length c := by
  obtain ⟨a, c, e, _⟩ := h.rms
  exact ⟨a, c, e⟩
theorem OMg.grow {B : Nat} {w w' : World} {x : Mg} (h : OMg B w x) (hb : Below w.heap.size w w') : OMg B w' x := ⟨h.ok, h.d.grow hb, h.h.grow hb, h.dl, h.hl⟩
theorem OMg.mono {B B' : Nat} {w : World} {x : Mg} (h : OMg B w x) (hb : B' ≤ B) : OMg B' w x := by
  refine ⟨h.ok, h.d.mono hb, ?_, h.dl, h.hl⟩
  obtain ⟨n, e, h1⟩ := h.h
  exact ⟨n, e, ownsRow_mono h1 hb⟩
theorem OMS.grow {B : Nat} {w w' : World} {v : Value} {ms : List Mg} (h : OMS B w v ms) (hb : Below w.heap.size w w') : OMS B w' v ms := by
  refine ⟨⟨h.1.1, ?_⟩, fun x hx => (h.2 x hx).grow hb⟩
  rcases h.1.2 with h1 | ⟨g, cap, cur, h1, h2, h3, h4⟩
  · exact .inl h1
  · exact .inr ⟨g, cap, cur, h1, h2, (hb.block g (Array.getElem?_eq_some_iff.1 h3).1).trans h3, h4⟩
/-- rows of bytes and of hashes are kept by what keeps all but messages' blocks -/
theorem OMg.rows {B : Nat} {w w' : World} {x : Mg} (h : OMg B w x) (hr : ∀ (k : Nat) (cs : Array Value) (t : TypeId), w.heap[k]? = some (.cells cs t (0, 0)) → t ≠ 47 → w'.heap[k]? = some (.cells cs t (0, 0))) : OMg B w' x := by
  refine ⟨h.ok, ⟨h.d.1, ?_⟩, ?_, h.dl, h.hl⟩
  · rcases h.d.2 with h1 | ⟨k, cap, cur, h1, h2, h3, h4⟩
    · exact .inl h1
    · exact .inr ⟨k, cap, cur, h1, h2, hr _ _ _ h3 (by decide), h4⟩
  · obtain ⟨n, e, hh⟩ := h.h
    refine ⟨n, e, hh.1, ?_⟩
    rcases hh.2 with h1 | ⟨k, cap, cur, h1, h2, h3, h4⟩
    · exact .inl h1
    · exact .inr ⟨k, cap, cur, h1, h2, hr _ _ _ h3 (by decide), h4⟩
theorem build_msg {ops : Array Oper} {rest : List Oper} {o : Oper} {a : Act} {w : World} {Q : Exit → Act → World → Prop} (hg : o.guard = none) (x : Operand) (ho : o.op = .buildSlice 22 1 #[(0, x)]) (cs : Array Value) (hv : a.eval x = .agg cs) (hl : cs.size = 40)
    (h : wpList Tryd.prog ops Q rest (a.put o.dst (.slice (some ⟨w.heap.size, 0, none⟩) 1 1)) (w.alloc (.cells cs 47))) : wpList Tryd.prog ops Q (o :: rest) a w := by
  obtain ⟨i0, hi, hz0, hz1, hz2⟩ := info_parts info_msgP
  refine wpList_buildSlice hg 22 47 1 _ ho cs i0 _ Tryd.underlying22 hi hz0 (by rw [hz1]; decide) (by rw [hz1]; decide) ?_ h
  rw [hz1]
  have e : (#[(0, x)].map fun (i, y) => (i, a.eval y)).toList = [(0, .agg cs)] := by simp [hv]
  rw [e]
  exact fillN 40 cs hl _ (by rw [Array.size_map, Array.size_range])
/-- one more message joins a list of messages -/
theorem append_msg {ops : Array Oper} {rest : List Oper} {o : Oper} {a : Act} {Q : Exit → Act → World → Prop} {w : World} {B : Nat} {sv : Value} {ms : List Mg} (hgd : o.guard = none) (s x : Operand)
    (ho : o.op = .call { callee := .builtin .append, args := #[s, x], argTypes := #[22, 22] }) (hs : a.eval s = sv) (hown : OMS B w sv ms) (b : Nat) (y : Mg) (hx : a.eval x = .slice (some ⟨b, 0, none⟩) 1 1)
    (hc : w.heap[b]? = some (.cells y.m.cs 47 (0, 0))) (hy : OMg B w y) (hB : B ≤ w.heap.size) (hlim : ms.length < 1073741824)
    (h : ∀ v' w', OMS B w' v' (ms ++ [y]) → Below B w w' → (∀ (k : Nat) (cs : Array Value) (t : TypeId), w.heap[k]? = some (.cells cs t (0, 0)) → t ≠ 47 → w'.heap[k]? = some (.cells cs t (0, 0))) → wpList Tryd.prog ops Q rest (a.put o.dst v') w') : wpList Tryd.prog ops Q (o :: rest) a w := by
  obtain ⟨i0, hi, hz0, hz1, hz2⟩ := info_parts info_msgP
  have hy40 := ok_ls hy.ok
  refine wpList_append_own w hgd s x 22 ho B 47 i0 _ 40 128 Tryd.underlying22 hi hz0 hz1 hz2 rfl (by omega) sv ms.length (ms.flatMap fun x => x.m.ls) hs hown.1 ⟨b, 0, none⟩ 1 1 y.m.ls hx (by rw [hy40]) (fun j u hu => ?_) (fun u hu => ?_) (by unfold maxLen; omega) (by omega) hB (fun v' w' h1 h2 _ => ?_)
  · rw [Addr.add_mid, Nat.zero_add]
    simp only [World.cell?, hc]
    simpa [Mv.cs] using hu
  · exact Array.all_eq_true_iff_forall_mem.1 hy.ok.one u (by simpa [Mv.cs] using hu)
  · have hrow : ∀ (k : Nat) (cs : Array Value) (t : TypeId), w.heap[k]? = some (.cells cs t (0, 0)) → t ≠ 47 → w'.heap[k]? = some (.cells cs t (0, 0)) := fun k cs t hk ht => by
      refine (h2.block k (Array.getElem?_eq_some_iff.1 hk).1 fun e' => ?_).trans hk
      rcases hown.1.2 with ⟨rfl, _⟩ | ⟨g, cap, cur, rfl, _, hg, _⟩
      · simp [Value.ownBlock] at e'
      · simp [Value.ownBlock] at e'
        subst e'
        rw [hk] at hg
        simp at hg
        exact ht hg.2
    refine h v' w' ⟨?_, fun z hz => ?_⟩ ((Below.refl B w).grown h2 hB (fun k hk => (World.ownsRow.lt hown.1 k hk).1)) hrow
    · rw [List.flatMap_append, List.length_append]
      simpa using h1
    · rcases List.mem_append.1 hz with hz | hz
      · exact (hown.2 z hz).rows hrow
      · simp at hz; subst hz; exact hy.rows hrow
/-- the same messages, their lists elsewhere in memory -/
def MsEq (ms ns : List Mg) : Prop := ns.length = ms.length ∧ ∀ (i : Nat) x y, ms[i]? = some x → ns[i]? = some y → y.D = x.D ∧ y.hb = x.hb ∧ y.m = { x.m with d := y.m.d, h := y.m.h }
set_option maxHeartbeats 2000000 in
set_option maxRecDepth 100000 in
theorem rowSameT (w : World) (v1 v2 : Value) (ms ns : List Mg) (h1 : RMS w v1 ms) (h2 : RMS w v2 ns) (he : MsEq ms ns) (hl : ms.length ≤ 140737488351232) :
    Calls Tryd.prog 14 #[v1, v2] w fun e w' => e = .returned (.bool true) ∧ Below w.heap.size w w' := by
  obtain ⟨a1, c1, rfl, _⟩ := id h1
  obtain ⟨a2, c2, rfl, _⟩ := id h2
  have HE : Hid (RMS w (.slice a1 ms.length c1) ms ∧ RMS w (.slice a2 ns.length c2) ns ∧ MsEq ms ns) := ⟨h1, h2, he⟩
  have hln : ns.length = ms.length := he.1
  rw [hln] at HE ⊢
  clear h1 h2 he
  generalize hlm : ms.length = len at *
  have HN : Hid (ms.length = len ∧ ns.length = len) := ⟨hlm, hln⟩
  clear hlm hln
  go_enter Tryd.func14, Tryd.ntmps14
  go_wp2
  go_loopw [5] (fun t wr => ∃ n : Nat, n ≤ len ∧ t = .int .i64 n ∧ Hid (Below w.heap.size w wr)) (fun t _ => len - (intOf t).toNat)
  case atStart => exact ⟨0, by omega, rfl, Below.refl _ _⟩
  case round =>
    obtain ⟨n, hn, rfl, hb⟩ := hrel
    by_cases hlt : n < len
    · have hl1 : n < ms.length := by have := HN.out.1; omega
      have hl2 : n < ns.length := by have := HN.out.2; omega
      have hx : ms[n]? = some ms[n] := List.getElem?_eq_getElem hl1
      have hy : ns[n]? = some ns[n] := List.getElem?_eq_getElem hl2
      generalize ms[n] = x at hx
      generalize ns[n] = y at hy
      obtain ⟨g1, o1, rfl, hg1, hr1, hm1⟩ := HE.out.1.at n x hx
      obtain ⟨g2, o2, rfl, hg2, hr2, hm2⟩ := HE.out.2.1.at n y hy
      obtain ⟨e1, e2, e3⟩ := HE.out.2.2.2 n x y hx hy
      rw [e1, e2] at hm2
      have hr1' : wr.rangeAt g1 (o1 + n * 40) x.m.ls := fun j z hj => (hb.out.cell (p := ⟨g1, o1 + n * 40 + j, none⟩) hg1).trans (hr1 j z hj)
      have hr2' : wr.rangeAt g2 (o2 + n * 40) y.m.ls := fun j z hj => (hb.out.cell (p := ⟨g2, o2 + n * 40 + j, none⟩) hg2).trans (hr2 j z hj)
      have hi1 : (Tryd.prog.info? 47).map (·.size) = some x.m.ls.length := by rw [ok_ls hm1.ok]; kernel_rfl
      have hi2 : (Tryd.prog.info? 47).map (·.size) = some y.m.ls.length := by rw [ok_ls hm2.ok]; kernel_rfl
      have HC : Hid (Calls Tryd.prog 19 #[.agg x.m.cs, .agg y.m.cs] wr.drew fun e w' => e = .returned (.bool true) ∧ Below wr.drew.heap.size wr.drew w') := msameT wr.drew x.m y.m x.D x.hb (hm1.keep (hb.out.drew)) (hm2.keep (hb.out.drew)) e3
      clear hr1 hr2 hm1 hm2 e1 e2 e3 hx hy
      go_wp2
      refine wp_region_held_drew (S := fun u => u.rangeAt g1 (o1 + n * 40) x.m.ls ∧ u.rangeAt g2 (o2 + n * 40) y.m.ls) (by kernel_rfl) (⟨hr1', hr2'⟩) (fun hHeld => ?_)
      refine wpAnyH_take (i := 0) (v := .slice (some ⟨g1, o1, none⟩) len c1) rfl (by kernel_rfl) (by kernel_rfl) (by kernel_rfl) (fun _ _ _ h => h) (Or.inl ⟨by rfl, fun w hw => by go_simp⟩) hHeld ?_
      simp only [Act.put, List.getElem_toArray, List.getElem_cons_zero, List.setIfInBounds_toArray, List.set_cons_zero, List.set_cons_succ]
      refine wpAnyH_take (i := 1) (v := .int .i64 n) rfl (by kernel_rfl) (by kernel_rfl) (by kernel_rfl) (fun _ _ _ h => h) (Or.inl ⟨by rfl, fun w hw => by go_simp⟩) hHeld ?_
      simp only [Act.put, List.getElem_toArray, List.getElem_cons_zero, List.getElem_cons_succ, List.setIfInBounds_toArray, List.set_cons_zero, List.set_cons_succ]
      refine wpAnyH_take (i := 2) (v := .pointer (some ⟨g1, o1 + n * 40, none⟩)) rfl (by kernel_rfl) (by kernel_rfl) (by kernel_rfl) (fun _ _ _ h => h) (Or.inl ⟨by rfl, fun w hw => by go_simp⟩) hHeld ?_
      simp only [Act.put, List.getElem_toArray, List.getElem_cons_zero, List.getElem_cons_succ, List.setIfInBounds_toArray, List.set_cons_zero, List.set_cons_succ]
      refine wpAnyH_take (i := 3) (v := _) rfl (by kernel_rfl) (by kernel_rfl) (by kernel_rfl) (fun _ _ _ h => h) (yieldsIf_load_mid (by rfl) _ _ rfl _ _ rfl _ _ (fun _ h => h.1) Tryd.underlying47 rfl hi1) hHeld ?_
      simp only [Act.put, List.getElem_toArray, List.getElem_cons_zero, List.getElem_cons_succ, List.setIfInBounds_toArray, List.set_cons_zero, List.set_cons_succ]
      refine wpAnyH_take (i := 4) (v := .slice (some ⟨g2, o2, none⟩) len c2) rfl (by kernel_rfl) (by kernel_rfl) (by kernel_rfl) (fun _ _ _ h => h) (Or.inl ⟨by rfl, fun w hw => by go_simp⟩) hHeld ?_
      simp only [Act.put, List.getElem_toArray, List.getElem_cons_zero, List.getElem_cons_succ, List.setIfInBounds_toArray, List.set_cons_zero, List.set_cons_succ]
      refine wpAnyH_take (i := 5) (v := .int .i64 n) rfl (by kernel_rfl) (by kernel_rfl) (by kernel_rfl) (fun _ _ _ h => h) (Or.inl ⟨by rfl, fun w hw => by go_simp⟩) hHeld ?_
      simp only [Act.put, List.getElem_toArray, List.getElem_cons_zero, List.getElem_cons_succ, List.setIfInBounds_toArray, List.set_cons_zero, List.set_cons_succ]
      refine wpAnyH_take (i := 6) (v := .pointer (some ⟨g2, o2 + n * 40, none⟩)) rfl (by kernel_rfl) (by kernel_rfl) (by kernel_rfl) (fun _ _ _ h => h) (Or.inl ⟨by rfl, fun w hw => by go_simp⟩) hHeld ?_
      simp only [Act.put, List.getElem_toArray, List.getElem_cons_zero, List.getElem_cons_succ, List.setIfInBounds_toArray, List.set_cons_zero, List.set_cons_succ]
      refine wpAnyH_take (i := 7) (v := _) rfl (by kernel_rfl) (by kernel_rfl) (by kernel_rfl) (fun _ _ _ h => h) (yieldsIf_load_mid (by rfl) _ _ rfl _ _ rfl _ _ (fun _ h => h.2) Tryd.underlying47 rfl hi2) hHeld ?_
      simp only [Act.put, List.getElem_toArray, List.getElem_cons_zero, List.getElem_cons_succ, List.setIfInBounds_toArray, List.set_cons_zero, List.set_cons_succ]
      refine wpAnyH_ready (rs := [8]) (by kernel_rfl) (by simp) ?_
      refine AllReadyH.cons (o := _) rfl (fun K hK => ?_) AllReadyH.nil
      go_simp
      refine (HC.out).mono ?_
      rintro e w' ⟨rfl, b5⟩
      have b6 : Below w.heap.size w w' := hb.out.drew.trans (b5.mono hb.out.size)
      have HB6 : Hid (Below w.heap.size w w') := b6
      have hk1 : w'.rangeAt g1 (o1 + n * 40) x.m.ls := fun j z hj => (b5.cell (p := ⟨g1, o1 + n * 40 + j, none⟩) (Nat.lt_of_lt_of_le hg1 hb.out.size)).trans (hr1' j z hj)
      have hk2 : w'.rangeAt g2 (o2 + n * 40) y.m.ls := fun j z hj => (b5.cell (p := ⟨g2, o2 + n * 40 + j, none⟩) (Nat.lt_of_lt_of_le hg2 hb.out.size)).trans (hr2' j z hj)
      clear b5 b6
      go_wp2_with fail
      refine hK.out _ _ (⟨hk1, hk2⟩) (fun hHeld => ?_)
      clear hK K
      refine wpAnyH_ready (rs := [9]) (by kernel_rfl) (by simp) ?_
      refine AllReadyH.cons (o := _) rfl (fun K hK => ?_) AllReadyH.nil
      go_simp
      refine hK.out _ _ hHeld (fun hHeld => ?_)
      clear hK K
      refine wpAnyH_done (by kernel_rfl) ?_ _
      go_wp2
      exact ⟨⟨n + 1, by omega, by go_num, HB6.out⟩, by simp [intOf]; omega⟩
    · go_wp2
      go_ret
      exact ⟨rfl, hb.out⟩
end Go.Proofs.YtbnnfpjgjieaeaaDoor
