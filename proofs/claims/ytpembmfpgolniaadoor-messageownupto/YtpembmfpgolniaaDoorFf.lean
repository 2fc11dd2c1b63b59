import Derived.Test.YtpembmfpgolniaaDoorFe
namespace Go.Proofs.YtpembmfpgolniaaDoor
open Go.RowKit
theorem info_fieldP : (Tryd.prog.info? 64).map (fun i => (i.zero, i.size, i.bytes)) = some (some (.agg nil5), 5, 40) := by kernel_rfl
theorem rangeOf {w : World} {g : Nat} {cs : List Value} {t : TypeId} {f : Nat × Nat} (h : w.heap[g]? = some (.cells cs.toArray t f)) : w.rangeAt g 0 cs := by
  intro j v hj
  simp [World.cell?, h, hj]
/-- an own list of fields -/
def OFS (B : Nat) (W w : World) (v : Value) (cs : List Nat) : Prop :=
  ∃ xss : List (List Value), w.ownsRow B 64 5 v cs.length xss.flatten ∧ xss.length = cs.length ∧ ∀ (i c : Nat), cs[i]? = some c → ∃ vs, xss[i]? = some vs ∧ FLD W c vs
theorem OFS.nil (B : Nat) (W w : World) : OFS B W w (.slice none 0 0) [] := ⟨[], World.ownsRow_nil _ _ _ _, rfl, by simp⟩
theorem OFS.form {B : Nat} {W w : World} {v : Value} {cs : List Nat} (h : OFS B W w v cs) : ∃ a c, v = .slice a cs.length c := by
  obtain ⟨xss, h1, _⟩ := h
  rcases h1.2 with ⟨rfl, h0⟩ | ⟨g, cap, cur, rfl, _⟩
  · exact ⟨none, 0, by rw [h0]⟩
  · exact ⟨_, _, rfl⟩
theorem OFS.grow {B : Nat} {W w w' : World} {v : Value} {cs : List Nat} (h : OFS B W w v cs) (hb : Below w.heap.size w w') : OFS B W w' v cs := by
  obtain ⟨xss, h1, h2⟩ := h
  refine ⟨xss, ⟨h1.1, ?_⟩, h2⟩
  rcases h1.2 with h1 | ⟨g, cap, cur, h1, h2, h3, h4⟩
  · exact .inl h1
  · exact .inr ⟨g, cap, cur, h1, h2, (hb.block g (Array.getElem?_eq_some_iff.1 h3).1).trans h3, h4⟩
theorem FLD.five {w : World} {c : Nat} {vs : List Value} (h : FLD w c vs) : vs.length = 5 := by
  obtain ⟨_, _, _, _, _, rfl⟩ := h.len
  rfl
theorem append_field {ops : Array Oper} {rest : List Oper} {o : Oper} {a : Act} {Q : Exit → Act → World → Prop} {W w : World} {B : Nat} {sv : Value} {cs : List Nat} (hgd : o.guard = none) (s x : Operand)
    (ho : o.op = .call { callee := .builtin .append, args := #[s, x], argTypes := #[56, 56] }) (hs : a.eval s = sv) (hown : OFS B W w sv cs) (b c : Nat) (vs : List Value) (hv : FLD W c vs) (h1 : ∀ u ∈ vs, u.oneCell' = true) (hx : a.eval x = .slice (some ⟨b, 0, none⟩) 1 1)
    (hc : w.rangeAt b 0 vs) (hB : B ≤ w.heap.size) (hlim : cs.length < 100)
    (h : ∀ v' w', OFS B W w' v' (cs ++ [c]) → Below B w w' → wpList Tryd.prog ops Q rest (a.put o.dst v') w') : wpList Tryd.prog ops Q (o :: rest) a w := by
  obtain ⟨i0, hi, hz0, hz1, hz2⟩ := info_parts info_fieldP
  obtain ⟨xss, hown, hlen, hf⟩ := hown
  refine wpList_append_own w hgd s x 56 ho B 64 i0 _ 5 40 Tryd.underlying56 hi hz0 hz1 hz2 rfl (by omega) sv cs.length xss.flatten hs hown ⟨b, 0, none⟩ 1 1 vs hx hv.five (fun j u hu => ?_) h1 (by unfold maxLen; omega) (by omega) hB (fun v' w' h1 h2 _ => ?_)
  · rw [Addr.add_mid]; exact hc j u hu
  · refine h v' w' ⟨xss ++ [vs], ?_, by simp [hlen], fun i c' hi' => ?_⟩ ((Below.refl B w).grown h2 hB (fun k hk => (World.ownsRow.lt hown k hk).1))
    · simpa using h1
    · by_cases hlt : i < cs.length
      · rw [List.getElem?_append_left hlt] at hi'
        obtain ⟨vs', e1, e2⟩ := hf i c' hi'
        exact ⟨vs', by rw [List.getElem?_append_left (by omega)]; exact e1, e2⟩
      · rw [List.getElem?_append_right (by omega)] at hi'
        have h0 : i - cs.length = 0 := by
          have := (List.getElem?_eq_some_iff.1 hi').1
          simp at this; omega
        rw [h0] at hi'
        simp at hi'
        subst hi'
        exact ⟨vs, by rw [List.getElem?_append_right (by omega), hlen, h0]; rfl, hv⟩
def fcs (fs : List Nat) : List Value := fs.map fun (n : Nat) => Value.int .i64 (n : Int)
theorem fcs_len (fs : List Nat) : (fcs fs).length = fs.length := by simp [fcs]
/-- the cells of a kind's row -/
def rowL (k le mo st : Int) (fs : List Nat) : List Value := [.int .i64 k, .int .i64 le, .int .i64 mo, .int .i64 st] ++ fcs fs
theorem info_fs : (Tryd.prog.info? 49).map (·.size) = some 7 := by kernel_rfl
theorem info_row : (Tryd.prog.info? 51).map (·.size) = some 11 := by kernel_rfl
theorem rowL_fs {w : World} {g : Nat} {k le mo st : Int} {fs : List Nat} (h : w.heap[g]? = some (.cells (rowL k le mo st fs).toArray 51 (0, 0))) : w.rangeAt g 4 (fcs fs) := by
  intro j v hj
  have e : (rowL k le mo st fs)[4 + j]? = some v := by
    unfold rowL
    rw [List.getElem?_append_right (by simp)]
    simpa using hj
  simp [World.cell?, h, e]
theorem takeWhile_stop (fs : List Nat) (k : Nat) (h : ∀ c ∈ fs.take k, c ≠ 0) (h0 : fs[k]? = some 0 ∨ fs.length = k) : fs.takeWhile (· != 0) = fs.take k := by
  induction fs generalizing k with
  | nil => simp
  | cons a l ih =>
    cases k with
    | zero =>
      rcases h0 with h0 | h0
      · simp at h0; subst h0; simp
      · simp at h0
    | succ k =>
      have ha : a ≠ 0 := h a (by simp)
      simp only [List.take_succ_cons]
      rw [List.takeWhile_cons_of_pos (by simpa using ha), ih k (fun c hc => h c (by simp [hc])) (by simpa using h0)]
theorem hs3 : (Tryd.prog.info? 3).map (·.size) = some 1 := by kernel_rfl
theorem run_index7 (w : World) (cs : Array Value) (n : Nat) (v : Value) (hn : n < 7) (hx : cs[n]? = some v) : (Instr.index 49 (.agg cs) (.int .i64 (n : Int))).run Tryd.prog w = .ok v w := by
  obtain ⟨i3, hi3, hz⟩ := Option.map_eq_some_iff.1 hs3
  have h7 : (0 : Int) ≤ (n : Int) ∧ (n : Int) < (7 : Int) := by omega
  simp [Instr.index, asIntOf, run_underlying Tryd.underlying49, sizeOf, typeInfo, hi3, hz, h7, part, hx, isAgg, run_underlying Tryd.underlying3]
  intro h
  omega
set_option maxHeartbeats 1000000 in
set_option maxRecDepth 100000 in
theorem madeT (w : World) (k le mo st : Int) (fs : List Nat) (hf : fs.length = 7) (hm : ∀ c ∈ fs, c ≤ 11) :
    Calls Tryd.prog 20 #[.agg (rowL k le mo st fs).toArray] w fun e w' => ∃ v W, e = .returned v ∧ OFS W.heap.size W w' v (fs.takeWhile (· != 0)) ∧ Below w.heap.size w W ∧ Below W.heap.size W w' := by
  have hg0 := heapNew w (.cells (rowL k le mo st fs).toArray 51)
  have b0 : Below w.heap.size w (w.alloc (.cells (rowL k le mo st fs).toArray 51)) := (Below.refl _ _).alloc (Nat.le_refl _) _
  have lt0 : w.heap.size < (w.alloc (.cells (rowL k le mo st fs).toArray 51)).heap.size := by simp
  go_enter Tryd.func20, Tryd.ntmps20
  go_wp2_with fail
  generalize w.alloc (.cells (rowL k le mo st fs).toArray 51) = w0 at *
  refine (fieldTableT w0).mono ?_
  rintro e w1 ⟨T, rfl, ht, c1⟩
  have hg1 := (c1.block _ lt0).trans hg0
  have lt1 : w.heap.size < w1.heap.size := Nat.lt_of_lt_of_le lt0 c1.size
  have b1 := b0.trans (c1.mono (Nat.le_of_lt lt0))
  clear hg0 lt0 b0 c1
  have hz81 : nf60.size = T.toArray.size := by show nf60.size = T.length; rw [ht.1]; rfl
  have hit : (Tryd.prog.info? 73).map (·.size) = some T.toArray.size := by rw [List.size_toArray, ht.1]; exact info_table
  have hone : T.toArray.all (·.oneCell') = true := all_oneCell_toArray ht.2.1
  have HT : Hid (TBL w1 T) := ht
  have HG := heapNew w1 (.cells nf60 73)
  have hi7 : (Tryd.prog.info? 49).map (·.size) = some (fcs fs).length := by rw [fcs_len, hf]; exact info_fs
  have hgw : ((w1.alloc (.cells nf60 73)).setRow w1.heap.size T.toArray).heap[w.heap.size]? = some (.cells (rowL k le mo st fs).toArray 51 (0, 0)) := by
    rw [setRow_other _ _ _ _ (by omega), heapOld _ _ _ lt1]; exact hg1
  have hrg := rowL_fs hgw
  have HW : Hid (TBL ((w1.alloc (.cells nf60 73)).setRow w1.heap.size T.toArray) T ∧ ((w1.alloc (.cells nf60 73)).setRow w1.heap.size T.toArray).heap[w1.heap.size]? = some (.cells T.toArray 73 (0, 0)) ∧ Below w.heap.size w ((w1.alloc (.cells nf60 73)).setRow w1.heap.size T.toArray)) := by
    refine ⟨⟨ht.1, ht.2.1, fun c h1 h2 => ?_⟩, heapSetRow _ _ _ _ _ HG, belowSetRow (b1.alloc (Nat.le_of_lt lt1) _) (Nat.le_of_lt lt1) _⟩
    exact ((ht.2.2 c h1 h2).below ((Below.refl _ _).alloc (Nat.le_refl _) _)).keep (Besides.setRow _ _ _) HG (by decide)
  clear ht hg1 lt1 b1 HT hgw
  go_wp2_with (first | (refine wpList_store_row rfl 73 _ _ rfl w1.heap.size T.toArray rfl rfl 73 nf60 HG hit hz81 hone ?_) | (refine wpList_load_mid rfl 49 _ rfl w.heap.size 4 rfl (fcs fs) _ hrg Tryd.underlying49 rfl hi7 ?_))
  rw [nf60_eq]
  generalize (w1.alloc (.cells nf60 73)).setRow w1.heap.size T.toArray = W at *
  clear HG hit hz81 hone hi7 hrg
  generalize w1.heap.size = G at *
  clear w1 w0
  have HF : Hid (fs.length = 7 ∧ ∀ c ∈ fs, c ≤ 11) := ⟨hf, hm⟩
  clear hf hm
  go_loopw [4, 10] (fun v t wr => ∃ (n : Nat) (a : Option Addr) (cp : Nat), n ≤ 7 ∧ t = .int .i64 n ∧ v = .slice a n cp ∧ Hid (OFS W.heap.size W wr v (fs.take n)) ∧ Hid (∀ c ∈ fs.take n, c ≠ 0) ∧ Hid (Below W.heap.size W wr)) (fun _ t _ => 7 - (intOf t).toNat)
  case atStart => exact ⟨0, none, 0, by omega, rfl, rfl, OFS.nil _ _ _, by simp [Hid], Below.refl _ _⟩
  case round =>
    obtain ⟨n, a, cp, hn, rfl, rfl, ho, hz, hb⟩ := hrel
    by_cases h7 : n < 7
    · have hl : n < fs.length := by have := HF.out.1; omega
      have hx : fs[n]? = some fs[n] := List.getElem?_eq_getElem hl
      have hle : fs[n] ≤ 11 := HF.out.2 _ (List.getElem_mem hl)
      generalize fs[n] = c at hx hle
      have hidx : (fcs fs).toArray[n]? = some (.int .i64 (c : Int)) := by simp [fcs, hx]
      have hix := fun u => run_index7 u (fcs fs).toArray n _ h7 hidx
      by_cases hc : c = 0
      · subst hc
        go_wp2
        go_ret
        exact ⟨_, W, rfl, by rw [takeWhile_stop fs n hz.out (.inl hx)]; exact ho.out, HW.out.2.2, hb.out⟩
      · have HL := HW.out.1.2.2 c (by omega) hle
        have hr : wr.rangeAt G (c * 5) ((T.drop (5 * c)).take 5) := by
          rw [Nat.mul_comm c 5]
          intro j v hj
          have hj5 := (List.getElem?_eq_some_iff.1 hj).1
          rw [HL.five] at hj5
          rw [List.getElem?_take_of_lt hj5, List.getElem?_drop] at hj
          have hgg := (hb.out.block G (Array.getElem?_eq_some_iff.1 HW.out.2.1).1).trans HW.out.2.1
          simp [World.cell?, hgg, hj]
        have hi5 : (Tryd.prog.info? 64).map (·.size) = some ((T.drop (5 * c)).take 5).length := by rw [HL.five]; exact info_field
        have HO : Hid (FLD W c ((T.drop (5 * c)).take 5) ∧ ∀ u ∈ (T.drop (5 * c)).take 5, u.oneCell' = true) := ⟨HL, fun u hu => HW.out.1.2.1 u (List.mem_of_mem_drop (List.mem_of_mem_take hu))⟩
        clear HL
        generalize (T.drop (5 * c)).take 5 = vs at *
        obtain ⟨v0, v1, v2, v3, v4, rfl⟩ := HO.out.1.len
        have hrn : (wr.alloc (.cells #[v0, v1, v2, v3, v4] 64)).rangeAt wr.heap.size 0 [v0, v1, v2, v3, v4] := by
          exact rangeOf (cs := [v0, v1, v2, v3, v4]) (heapNew wr (.cells #[v0, v1, v2, v3, v4] 64))
        have HA : Hid (OFS W.heap.size W (wr.alloc (.cells #[v0, v1, v2, v3, v4] 64)) (.slice a n cp) (fs.take n) ∧ (fs.take n).length < 100 ∧ W.heap.size ≤ (wr.alloc (.cells #[v0, v1, v2, v3, v4] 64)).heap.size) := ⟨ho.out.grow ((Below.refl _ _).alloc (Nat.le_refl _) _), by rw [List.length_take]; omega, by have := hb.out.size; simp; omega⟩
        clear ho
        go_wp2_with (first | (refine wpList_load_mid rfl 64 _ rfl G (c * 5) rfl [v0, v1, v2, v3, v4] _ hr Tryd.underlying64 rfl hi5 ?_) | (at_builtin; refine append_field rfl _ _ rfl rfl HA.out.1 wr.heap.size c [v0, v1, v2, v3, v4] HO.out.1 HO.out.2 rfl hrn HA.out.2.2 HA.out.2.1 ?_; intro v' w' ho' hb'))
        obtain ⟨a', cp', rfl⟩ := ho'.form
        have e1 : fs.take n ++ [c] = fs.take (n + 1) := by rw [List.take_add_one, hx]; rfl
        have e2 : (fs.take n ++ [c]).length = n + 1 := by rw [List.length_append, List.length_take]; simp; omega
        rw [e2] at ho' ⊢
        rw [e1] at ho'
        refine ⟨⟨n + 1, a', cp', by omega, by go_num, rfl, ho', ?_, ?_⟩, by simp [intOf]; omega⟩
        · intro c' hc'
          rw [← e1] at hc'
          rcases List.mem_append.1 hc' with h | h
          · exact hz.out c' h
          · simp at h; subst h; exact hc
        · exact (hb.out.alloc hb.out.size _).trans hb'
    · obtain rfl : n = 7 := by omega
      go_wp2
      go_ret
      exact ⟨_, W, rfl, by rw [takeWhile_stop fs 7 hz.out (.inr HF.out.1)]; exact ho.out, HW.out.2.2, hb.out⟩
end Go.Proofs.YtpembmfpgolniaaDoor
