import Derived.Test.YtpembmfpgolniaaDoorAl
import Derived.Laws.StructEq
namespace Go.Proofs.YtpembmfpgolniaaDoor
open Go.RowKit
theorem eqItems_bytes (w : World) (d : Nat) (l m : List UInt8) (hlm : l.length = m.length) : ∀ js : List Nat, (∀ j ∈ js, j < l.length) → (Op.eqItems (d + 1) 5 1 (bc l) (bc m) js).run Tryd.prog w = .ok (js.all fun j => byt l j == byt m j) w
  | [], _ => by simp [Op.eqItems]
  | j :: js, h => by
    have hj : j < l.length := h j (by simp)
    have hv : (bc l)[j]? = some (.int .u8 ((byt l j).toNat : Int)) := by simp [bc, Lib.byteCells, hj, getD_byt l j hj]
    have hv2 : (bc m)[j]? = some (.int .u8 ((byt m j).toNat : Int)) := by simp [bc, Lib.byteCells, hlm ▸ hj, getD_byt m j (hlm ▸ hj)]
    have ih := eqItems_bytes w d l m hlm js (fun i hi => h i (by simp [hi]))
    by_cases he : byt l j = byt m j
    · simp [Op.eqItems, part, isAgg, run_underlying Tryd.underlying5, hv, hv2, Op.equalIn, ih, he]
    · have he2 : ¬ ((byt l j).toNat : Int) = ((byt m j).toNat : Int) := fun h => he (by
        have : (byt l j).toNat = (byt m j).toNat := by omega
        exact UInt8.toNat_inj.1 this)
      simp [Op.eqItems, part, isAgg, run_underlying Tryd.underlying5, hv, hv2, Op.equalIn]
      rw [if_neg he2, show (byt l j == byt m j) = false from beq_eq_false_iff_ne.2 he]
      rfl
theorem info5' : ∃ i, Tryd.prog.info? 5 = some i ∧ Tryd.prog.cellsOf 5 = 1 := by
  have h : (Tryd.prog.info? 5).isSome = true := by kernel_rfl
  obtain ⟨i, hi⟩ := Option.isSome_iff_exists.1 h
  exact ⟨i, hi, by kernel_rfl⟩
theorem all_byt (l m : List UInt8) (n : Nat) (hl : l.length = n) (hm : m.length = n) : ((List.range n).all fun j => byt l j == byt m j) = decide (l = m) := by
  by_cases h : l = m
  · subst h; simp
  · rw [decide_eq_false h, List.all_eq_false]
    refine Classical.byContradiction fun hno => h ?_
    apply List.ext_getElem?
    intro i
    by_cases hi : i < n
    · have : byt l i = byt m i := Classical.byContradiction fun hne => hno ⟨i, List.mem_range.2 hi, by simpa using hne⟩
      rw [getD_byt l i (by omega), getD_byt m i (by omega)] at this
      rw [List.getElem?_eq_getElem (by omega), List.getElem?_eq_getElem (by omega), this]
    · rw [List.getElem?_eq_none (by omega), List.getElem?_eq_none (by omega)]
theorem equal_hash (w : World) (d : Nat) (l m : List UInt8) (hl : l.length = 32) (hm : m.length = 32) : (Op.equalIn (d + 2) 24 (.agg (bc l)) (.agg (bc m))).run Tryd.prog w = .ok (decide (l = m)) w := by
  obtain ⟨i, hi, hc⟩ := info5'
  rw [run_equalIn_array w (d + 1) _ _ Tryd.underlying24 hi, hc, eqItems_bytes w d l m (by omega) _ (fun j hj => by rw [hl]; exact List.mem_range.1 hj), all_byt l m 32 hl hm]
theorem neq_hash (w : World) (l m : List UInt8) (hl : l.length = 32) (hm : m.length = 32) : (binOp .neq 24 (.agg (bc l)) (.agg (bc m))).run Tryd.prog w = .ok (.bool (!decide (l = m))) w := by
  rw [run_neq_struct, equal_hash w 9998 l m hl hm]
  rfl
theorem wpList_load_root {ops : Array Oper} {rest : List Oper} {o : Oper} {a : Act} {w : World} {Q : Exit → Act → World → Prop} (hw : Region.wanted o (yielded ops a.tmps) = true) (x : Operand) (ho : o.op = .load 24 x)
    (g : Nat) (hx : a.eval x = .pointer (some ⟨g, 5, none⟩)) (r : List UInt8) (hg : w.rangeAt g 5 (Lib.byteCells r)) (hl : r.length = 32)
    (h : wpList Tryd.prog ops Q rest (a.put o.dst (.agg (bc r))) w) : wpList Tryd.prog ops Q (o :: rest) a w :=
  wpList_step fun K hK => by
    rw [if_pos hw]
    exact wp_load_mid 24 x ho g 5 hx (Lib.byteCells r) _ hg Tryd.underlying24 rfl (by rw [bcl_len, hl]; exact info_hash) (hK _ _ h)
def blks (cs : List Nat) (m : Mv) : Mv := cs.foldl (fun m c => blk c m) m
theorem blks_ok (cs : List Nat) (m : Mv) (h : m.ok) : (blks cs m).ok := by
  induction cs generalizing m with
  | nil => exact h
  | cons c l ih => exact ih (blk c m) (blk_ok h c)
/-- something is left in a message -/
def frn (m : Mv) : Bool := m.i != 0 || m.b != 0 || m.l != 0 || m.ba != 0 || m.pr != 0 || m.r != zr 32 || decide (0 < sln m.d) || decide (0 < sln m.h)
set_option maxHeartbeats 1000000 in
set_option maxRecDepth 100000 in
theorem foreignT (w : World) (v : Value) (cs : List Nat) (m : Mv) (ok : m.ok) (hf : FS w v cs) (hl : cs.length < 100) :
    Calls Tryd.prog 29 #[v, .agg m.cs] w fun e w' => e = .returned (.bool (frn (blks cs m))) ∧ Below w.heap.size w w' := by
  have hm : MB (w.alloc (.cells m.cs 27)) w.heap.size m := heapNew w _
  have b0 : Below w.heap.size w (w.alloc (.cells m.cs 27)) := (Below.refl _ _).alloc (Nat.le_refl _) _
  have hsz0 : w.heap.size < (w.alloc (.cells m.cs 27)).heap.size := by simp
  have HF : Hid (FS (w.alloc (.cells m.cs 27)) v cs ∧ MB (w.alloc (.cells m.cs 27)) w.heap.size m ∧ m.ok ∧ Below w.heap.size w (w.alloc (.cells m.cs 27))) := ⟨hf.below b0, hm, ok, b0⟩
  obtain ⟨a, cap, rfl, hfa⟩ := hf.below b0
  clear hf b0 hm ok
  go_enter Tryd.func29, Tryd.ntmps29
  go_wp2
  generalize w.alloc (.cells m.cs 27) = w0 at *
  generalize hg : w.heap.size = g at *
  generalize m.cs = mcs
  generalize hn : cs.length = len at *
  have HN : Hid (cs.length = len ∧ w.heap.size = g) := ⟨hn, hg⟩
  clear hn hg hfa
  go_loopw [10] (fun t wr => ∃ n : Nat, n ≤ len ∧ t = .int .i64 n ∧ Hid (MB wr g (blks (cs.take n) m) ∧ FS wr (.slice a len cap) cs ∧ Besides g w0 wr)) (fun t _ => len - (intOf t).toNat)
  case atStart => exact ⟨0, by omega, rfl, HF.out.2.1, HF.out.1, Besides.refl _ _⟩
  case round =>
    obtain ⟨n, hn, rfl, hI⟩ := hrel
    by_cases hlt : n < len
    · have hl2 : n < cs.length := by rw [HN.out.1]; exact hlt
      have hx : cs[n]? = some cs[n] := List.getElem?_eq_getElem hl2
      generalize cs[n] = c at hx
      obtain ⟨a', cap', e, hfa⟩ := hI.out.2.1
      simp only [Value.slice.injEq] at e
      obtain ⟨rfl, -, rfl⟩ := e
      rcases hfa with h | ⟨G, cur, rfl, hG, hfa⟩
      · rw [h] at hl2; simp at hl2
      obtain ⟨vs, hv, hr'⟩ := hfa n c hx
      obtain ⟨v0, v1, v2, v3, v4, rfl⟩ := hv.len
      have hi5 : (Tryd.prog.info? 64).map (·.size) = some [v0, v1, v2, v3, v4].length := info_field
      have hi5' : (Tryd.prog.info? 64).map (·.size) = some ([v0, v1, v2, v3, v4] : List Value).toArray.size := info_field
      have hone : ([v0, v1, v2, v3, v4] : List Value).toArray.all (·.oneCell') = true := hv.one
      have hb2 := bxw_below wr [v0, v1, v2, v3, v4]
      have hv2 : FLD (bxw wr [v0, v1, v2, v3, v4]) c [v0, v1, v2, v3, v4] := hv.below hb2
      have hm2 : MB (bxw wr [v0, v1, v2, v3, v4]) g (blks (cs.take n) m) := hI.out.1.below hb2
      have hf2 := hI.out.2.1.below hb2
      have hs2 := hI.out.2.2.trans (Besides.of_below (cb := g) hb2)
      obtain ⟨f, caps, rfl, he, hc⟩ := hv2.blank
      have HC : Hid (BLC (bxw wr [v0, v1, v2, v3, clo f caps]) c f caps ∧ MB (bxw wr [v0, v1, v2, v3, clo f caps]) g (blks (cs.take n) m) ∧ FS (bxw wr [v0, v1, v2, v3, clo f caps]) (.slice (some ⟨G, 0, none⟩) len cap) cs ∧ Besides g w0 (bxw wr [v0, v1, v2, v3, clo f caps])) := ⟨hc, hm2, hf2, hs2⟩
      have h3 : (bxw wr [v0, v1, v2, v3, clo f caps]).cell? ⟨wr.heap.size, 4, none⟩ = some (clo f caps) := rangeOf (bxw_heap _ _) 4 _ rfl
      have hg0 := heapNew wr (.cells nil5 64)
      clear hc hb2 hv2 hv hfa hm2 hf2 hs2 hI
      go_wp2_with (first | (refine wpList_load_mid rfl 64 _ rfl G (n * 5) rfl _ _ hr' Tryd.underlying64 rfl hi5 ?_) | (refine wpList_store_row rfl 64 _ _ rfl wr.heap.size _ rfl rfl 64 nil5 hg0 hi5' rfl hone ?_))
      refine (HC.out.1 g _ HC.out.2.1 (blks_ok _ _ HF.out.2.2.1)).mono ?_
      rintro e w2 ⟨rfl, h1, h2⟩
      have ht : cs.take (n + 1) = cs.take n ++ [c] := by rw [List.take_add_one, hx]; rfl
      have HE : Hid (MB w2 g (blks (cs.take (n + 1)) m) ∧ FS w2 (.slice (some ⟨G, 0, none⟩) len cap) cs ∧ Besides g w0 w2) := by
        refine ⟨?_, ?_, HC.out.2.2.2.trans h2⟩
        · rw [ht]
          have : blks (cs.take n ++ [c]) m = blk c (blks (cs.take n) m) := by simp [blks]
          rw [this]; exact h1
        · exact HC.out.2.2.1.keep h2 HC.out.2.1
      clear h1 h2 HC h3 hg0 hr' hG
      go_wp2
      exact ⟨⟨n + 1, by omega, by go_num, HE.out⟩, by simp [intOf]; omega⟩
    · have HE : Hid (MB wr g (blks cs m) ∧ (blks cs m).ok ∧ Below g w wr) := by
        have := hI.out.1
        rw [List.take_of_length_le (by have := HN.out.1; omega)] at this
        exact ⟨this, blks_ok _ _ HF.out.2.2.1, hI.out.2.2.below HF.out.2.2.2 (Nat.le_refl _) (by omega)⟩
      clear hI
      obtain ⟨M, hM⟩ : ∃ M, blks cs m = M := ⟨_, rfl⟩
      rw [hM] at HE
      have HM : Hid (blks cs m = M) := hM
      clear hM
      have c1 := HE.out.1.c1
      have c2 := HE.out.1.c2
      have c3 := HE.out.1.c3
      have c37 := HE.out.1.c37 HE.out.2.1
      have c38 := HE.out.1.c38 HE.out.2.1
      have c4 := HE.out.1.c4
      have c39 := HE.out.1.c39 HE.out.2.1
      have hrt := HE.out.1.root
      have hne : ∀ u : World, (Op.equalIn 10000 24 (.agg (bc M.r)) (.agg #[Value.int .u8 0, Value.int .u8 0, Value.int .u8 0, Value.int .u8 0, Value.int .u8 0, Value.int .u8 0, Value.int .u8 0, Value.int .u8 0, Value.int .u8 0, Value.int .u8 0, Value.int .u8 0, Value.int .u8 0, Value.int .u8 0, Value.int .u8 0, Value.int .u8 0, Value.int .u8 0, Value.int .u8 0, Value.int .u8 0, Value.int .u8 0, Value.int .u8 0, Value.int .u8 0, Value.int .u8 0, Value.int .u8 0, Value.int .u8 0, Value.int .u8 0, Value.int .u8 0, Value.int .u8 0, Value.int .u8 0, Value.int .u8 0, Value.int .u8 0, Value.int .u8 0, Value.int .u8 0])).run Tryd.prog u = .ok (decide (M.r = zr 32)) u := fun u => equal_hash u 9998 M.r (zr 32) HE.out.2.1.r (zr_len 32)
      obtain ⟨ad, nd, cd, hd⟩ := HE.out.2.1.d
      obtain ⟨ah, nh, ch, hh⟩ := HE.out.2.1.h
      rw [hd] at c4
      rw [hh] at c39
      have HQ : Hid (frn M = (M.i != 0 || M.b != 0 || M.l != 0 || M.ba != 0 || M.pr != 0 || M.r != zr 32 || decide (0 < nd) || decide (0 < nh)) ∧ True ∧ M.r.length = 32) := by
        refine ⟨?_, trivial, HE.out.2.1.r⟩
        unfold frn; rw [hd, hh]; rfl
      clear hd hh
      by_cases q1 : M.i = 0
      · by_cases q2 : M.b = 0
        · by_cases q3 : M.l = 0
          · by_cases q4 : M.ba = 0
            · by_cases q5 : M.pr = 0
              · by_cases q6 : M.r = zr 32
                · rw [decide_eq_true q6] at hne
                  have H6 : Hid (M.r = zr 32) := q6
                  clear q6
                  by_cases q7 : nd = 0
                  · by_cases q8 : nh = 0
                    · go_wp2_with (first | (refine wpList_load_root rfl _ rfl g rfl M.r hrt HQ.out.2.2 ?_))
                      go_ret
                      exact ⟨by rw [HM.out, HQ.out.1]; simp [q1, q2, q3, q4, q5, H6.out, q7, q8], HN.out.2 ▸ HE.out.2.2⟩
                    · go_wp2_with (first | (refine wpList_load_root rfl _ rfl g rfl M.r hrt HQ.out.2.2 ?_))
                      go_ret
                      exact ⟨by rw [HM.out, HQ.out.1]; simp [q1, q2, q3, q4, q5, H6.out, q7], HN.out.2 ▸ HE.out.2.2⟩
                  · go_wp2_with (first | (refine wpList_load_root rfl _ rfl g rfl M.r hrt HQ.out.2.2 ?_))
                    go_ret
                    exact ⟨by rw [HM.out, HQ.out.1]; simp [q1, q2, q3, q4, q5, H6.out]; omega, HN.out.2 ▸ HE.out.2.2⟩
                · rw [decide_eq_false q6] at hne
                  go_wp2_with (first | (refine wpList_load_root rfl _ rfl g rfl M.r hrt HQ.out.2.2 ?_))
                  go_ret
                  exact ⟨by rw [HM.out, HQ.out.1]; simp [q1, q2, q3, q4, q5, q6], HN.out.2 ▸ HE.out.2.2⟩
              · go_wp2_with (first | (refine wpList_load_root rfl _ rfl g rfl M.r hrt HQ.out.2.2 ?_))
                go_ret
                exact ⟨by rw [HM.out, HQ.out.1]; simp [q1, q2, q3, q4, q5], HN.out.2 ▸ HE.out.2.2⟩
            · go_wp2_with (first | (refine wpList_load_root rfl _ rfl g rfl M.r hrt HQ.out.2.2 ?_))
              go_ret
              exact ⟨by rw [HM.out, HQ.out.1]; simp [q1, q2, q3, q4], HN.out.2 ▸ HE.out.2.2⟩
          · go_wp2_with (first | (refine wpList_load_root rfl _ rfl g rfl M.r hrt HQ.out.2.2 ?_))
            go_ret
            exact ⟨by rw [HM.out, HQ.out.1]; simp [q1, q2, q3], HN.out.2 ▸ HE.out.2.2⟩
        · go_wp2_with (first | (refine wpList_load_root rfl _ rfl g rfl M.r hrt HQ.out.2.2 ?_))
          go_ret
          exact ⟨by rw [HM.out, HQ.out.1]; simp [q1, q2], HN.out.2 ▸ HE.out.2.2⟩
      · go_wp2_with (first | (refine wpList_load_root rfl _ rfl g rfl M.r hrt HQ.out.2.2 ?_))
        go_ret
        exact ⟨by rw [HM.out, HQ.out.1]; simp [q1], HN.out.2 ▸ HE.out.2.2⟩
end Go.Proofs.YtpembmfpgolniaaDoor
