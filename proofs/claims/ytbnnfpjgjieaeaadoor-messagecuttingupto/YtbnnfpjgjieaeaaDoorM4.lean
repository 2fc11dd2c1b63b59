import Derived.Test.YtbnnfpjgjieaeaaDoorM3
import Derived.Laws.StructEq
import Derived.Laws.CopyRow
import Derived.Laws.CopyOwn
namespace Go.Proofs.YtbnnfpjgjieaeaaDoor.Fm
open Go.RowKit Go.Proofs.YtbnnfpjgjieaeaaDoor
set_option maxHeartbeats 1000000 in
set_option maxRecDepth 100000 in
theorem greet (hb : List UInt8) (hl : hb.length = 48) (w : World) :
    Calls Tryd.prog 9 #[.agg (bc hb)] w fun e w' => ∃ v, e = .returned v ∧ OW w.heap.size w' v (sgn ++ hb) ∧ Below w.heap.size w w' := by
  have hmk : ∀ u : World, (Instr.makeSlice 26 (.int .i64 68) (.int .i64 68)).run Tryd.prog u = .ok (.slice (some ⟨u.heap.size, 0, none⟩) 68 68) (u.alloc (.cells (bc (zr 68)) 5)) := make_bytes 68 (by omega)
  have C1 : ∃ W1, (∀ ty, (Builtin.copy_ #[26, 9] ty #[.slice (some ⟨w.heap.size + 1, 0, none⟩) 68 68, .string { data := #[19, 66, 105, 116, 84, 111, 114, 114, 101, 110, 116, 32, 112, 114, 111, 116, 111, 99, 111, 108] }]).run Tryd.prog ((w.alloc (.cells (bc hb) 34)).alloc (.cells (bc (zr 68)) 5)) = .ok (goInt 20) W1) ∧ W1.heap[w.heap.size + 1]? = some (.cells (bc (sgn ++ zr 48)) 5 (0, 0)) ∧ W1.heap[w.heap.size]? = some (.cells (bc hb) 34 (0, 0)) ∧ Below w.heap.size w W1 := by
    have hg : ((w.alloc (.cells (bc hb) 34)).alloc (.cells (bc (zr 68)) 5)).heap[w.heap.size + 1]? = some (.cells (bc (zr 68)) 5 (0, 0)) := by
      have := heapNew (w.alloc (.cells (bc hb) 34)) (.cells (bc (zr 68)) 5)
      simpa using this
    refine ⟨_, fun ty => Lib.run_copy_row_string _ 26 9 ty 5 (w.heap.size + 1) 0 68 68 _ (bc (zr 68)) 5 Tryd.underlying26 hs5 hg (by decide) (by rw [bc_size, zr_len]; decide), ?_, ?_, belowSetRow (((Below.refl _ _).alloc (Nat.le_refl _) _).alloc (by simp) _) (by omega) _⟩
    · rw [heapSetRow _ _ _ _ _ hg]
      rfl
    · rw [setRow_other _ _ _ _ (by omega), heapOld _ _ _ (by simp), heapNew]
  obtain ⟨W1, hc1, hb1, hh1, B1⟩ := C1
  obtain ⟨W2, hc2, hb2, hh2, B2⟩ := copy_part w W1.drew (w.heap.size + 1) w.heap.size 20 0 8 _ hb 5 34 hb1 hh1 (by omega) (by omega) (by omega) (by simp [sgn, zr_len]) B1.drew
  rw [splice_at (o := 20) (by simp [sgn]) (cut_len hb 0 8 (by omega))] at hb2
  obtain ⟨W3, hc3, hb3, hh3, B3⟩ := copy_part w W2.drew (w.heap.size + 1) w.heap.size 28 8 20 _ hb 5 34 hb2 hh2 (by omega) (by omega) (by omega) (by simp [sgn, hl, zr_len]) B2.drew
  rw [splice_at (o := 28) (by simp [sgn, hl]) (cut_len hb 8 20 (by omega))] at hb3
  obtain ⟨W4, hc4, hb4, hh4, B4⟩ := copy_part w W3.drew (w.heap.size + 1) w.heap.size 48 28 20 _ hb 5 34 hb3 hh3 (by omega) (by omega) (by omega) (by simp [sgn, hl, zr_len]) B3.drew
  rw [splice_at (o := 48) (by simp [sgn, hl]) (cut_len hb 28 20 (by omega))] at hb4
  have HO : Hid (OW w.heap.size W4 (.slice (some ⟨w.heap.size + 1, 0, none⟩) 68 68) (sgn ++ hb) ∧ Below w.heap.size w W4) := by
    refine ⟨?_, B4⟩
    have hx : sgn.length = 20 := rfl
    have h68 : (sgn ++ hb).length = 68 := by simp [hx, hl]
    have := OW.of_block (B := w.heap.size) (cap := 68) (l := sgn ++ hb) (by omega) hb4 (by simp [hx, hl, zr_len]) ?_ (by simp [hx, hl, zr_len]) (by simp [hx, hl, maxLen, zr_len])
    · rw [h68] at this; exact this
    · rw [h68, List.take_of_length_le (by simp [hx, hl, zr_len])]
      rw [List.append_assoc sgn, cut_join hb 0 8 20, List.append_assoc sgn, cut_join hb 0 28 20]
      have hz : List.drop 20 (List.drop 20 (List.drop 8 (zr 48))) = [] := List.drop_eq_nil_of_le (by simp [zr_len])
      rw [hz, List.append_nil, List.drop_zero, List.take_of_length_le (by omega)]
  have c1 := hc1 3
  have c2 := hc2 3 48 48 8 (by omega)
  have c3 := hc3 3 40 40 20 (by omega)
  have c4 := hc4 3 20 20 20 (by omega)
  clear hb1 hh1 B1 hb2 hh2 B2 hb3 hh3 B3 hb4 hh4 B4 hc1 hc2 hc3 hc4 hl
  go_enter Tryd.func9, Tryd.ntmps9
  go_wp2
  go_region
  go_wp2
  go_region
  go_wp2
  go_region
  go_wp2
  go_ret
  exact ⟨_, rfl, HO.out⟩
theorem wpList_load_g {ops : Array Oper} {rest : List Oper} {o : Oper} {a : Act} {w : World} {Q : Exit → Act → World → Prop} (hw : Region.wanted o (yielded ops a.tmps) = true) (x : Operand) (ho : o.op = .load 34 x)
    (g : Nat) (hx : a.eval x = .pointer (some ⟨g, 0, none⟩)) (hb : List UInt8) (hg : w.heap[g]? = some (.cells (bc hb) 34 (0, 0))) (hl : hb.length = 48)
    (h : wpList Tryd.prog ops Q rest (a.put o.dst (.agg (bc hb))) w) : wpList Tryd.prog ops Q (o :: rest) a w :=
  wpList_step fun K hK => by
    rw [if_pos hw]
    exact wp_load_row 34 x ho g hx 34 (bc hb) (0, 0) _ hg Tryd.underlying34 rfl (info_hello hl) (hK _ _ h)
theorem eqItems_bytes (w : World) (d : Nat) (l : List UInt8) : ∀ js : List Nat, (∀ j ∈ js, j < l.length) → (Op.eqItems (d + 1) 5 1 (bc l) (bc l) js).run Tryd.prog w = .ok true w
  | [], _ => by simp [Op.eqItems]
  | j :: js, h => by
    have hj : j < l.length := h j (by simp)
    have hv : (bc l)[j]? = some (.int .u8 ((byt l j).toNat : Int)) := by simp [bc, Lib.byteCells, hj, getD_byt l j hj]
    have ih := eqItems_bytes w d l js (fun i hi => h i (by simp [hi]))
    simp [Op.eqItems, part, isAgg, run_underlying Tryd.underlying5, hv, Op.equalIn, ih]
theorem equal_arr (w : World) (d : Nat) (t : TypeId) (n : Nat) (l : List UInt8) (ht : Tryd.prog.underlying t = some (.array n 5)) (hl : l.length = n) : (Op.equalIn (d + 2) t (.agg (bc l)) (.agg (bc l))).run Tryd.prog w = .ok true w := by
  obtain ⟨i, hi, hc⟩ := info5'
  rw [run_equalIn_array w (d + 1) _ _ ht hi, hc, eqItems_bytes w d l _ (fun j hj => by rw [hl]; exact List.mem_range.1 hj)]
theorem part_arr (w : World) (t : TypeId) (n o : Nat) (l : List UInt8) (ht : Tryd.prog.underlying t = some (.array n 5)) (hi : (Tryd.prog.info? t).map (·.size) = some n) : (part t (bc l) o).run Tryd.prog w = .ok (.agg (bc ((l.drop o).take n))) w := by
  cases hq : Tryd.prog.info? t with
  | none => simp [hq] at hi
  | some i =>
    have hs : i.size = n := by simpa [hq] using hi
    simp [part, isAgg, run_underlying ht, sizeOf, typeInfo, hq, hs]
    apply Array.ext'
    rw [Array.toList_extract, bc_list, bc_list]
    simp only [List.extract_eq_take_drop, bcl_drop, bcl_take]
    rw [Nat.add_sub_cancel_left]
theorem fields_hello : Tryd.prog.underlying 34 = some (.struct (Tryd.prog.fieldsOf 34)) ∧ Tryd.prog.stoodInHeld 34 = false ∧ (Tryd.prog.fieldsOf 34).toList.map (fun f => (f.name == "_", f.type, f.offset)) = [(false, 31, 0), (false, 32, 8), (false, 32, 28)] := by
  refine ⟨?_, by kernel_rfl, by kernel_rfl⟩
  kernel_rfl
theorem eqf_cons (w : World) (d : Nat) (l : List UInt8) (t : TypeId) (n o : Nat) (f : Field) (fs : List Field) (hn : (f.name == "_") = false) (hf : f.type = t) (ho : f.offset = o) (ht : Tryd.prog.underlying t = some (.array n 5)) (hi : (Tryd.prog.info? t).map (·.size) = some n) (hl : o + n ≤ l.length) :
    (Op.eqFields (d + 2) (bc l) (bc l) (f :: fs)).run Tryd.prog w = (Op.eqFields (d + 2) (bc l) (bc l) fs).run Tryd.prog w := by
  have p := part_arr w t n o l ht hi
  have q := equal_arr w d t n _ ht (cut_len l o n hl)
  have hn' : f.name ≠ "_" := beq_eq_false_iff_ne.1 hn
  rw [Op.eqFields, if_pos hn', hf, ho]
  simp only [Sem.run_bind, p, q, Result.andThen_ok, Bool.not_true, Bool.false_eq_true, if_false]
theorem eqFields_hello (w : World) (d : Nat) (hb : List UInt8) (hl : hb.length = 48) (fs : List Field) (h3 : fs.map (fun f => (f.name == "_", f.type, f.offset)) = [(false, 31, 0), (false, 32, 8), (false, 32, 28)]) : (Op.eqFields (d + 2) (bc hb) (bc hb) fs).run Tryd.prog w = .ok true w := by
  cases fs with
  | nil => cases h3
  | cons f1 fs =>
    rw [List.map_cons, List.cons.injEq, Prod.mk.injEq, Prod.mk.injEq] at h3
    obtain ⟨⟨a1, a2, a3⟩, h3⟩ := h3
    cases fs with
    | nil => cases h3
    | cons f2 fs =>
      rw [List.map_cons, List.cons.injEq, Prod.mk.injEq, Prod.mk.injEq] at h3
      obtain ⟨⟨b1, b2, b3⟩, h3⟩ := h3
      cases fs with
      | nil => cases h3
      | cons f3 fs =>
        rw [List.map_cons, List.cons.injEq, Prod.mk.injEq, Prod.mk.injEq] at h3
        obtain ⟨⟨c1, c2, c3⟩, h3⟩ := h3
        cases fs with
        | cons f4 fs => cases h3
        | nil =>
          rw [eqf_cons w d hb 31 8 0 f1 _ a1 a2 a3 Tryd.underlying31 (by kernel_rfl) (by omega), eqf_cons w d hb 32 20 8 f2 _ b1 b2 b3 Tryd.underlying32 (by kernel_rfl) (by omega), eqf_cons w d hb 32 20 28 f3 _ c1 c2 c3 Tryd.underlying32 (by kernel_rfl) (by omega)]
          rfl
theorem eq_hello (w : World) (hb : List UInt8) (hl : hb.length = 48) : (binOp .eql 34 (.agg (bc hb)) (.agg (bc hb))).run Tryd.prog w = .ok (.bool true) w := by
  obtain ⟨h1, h2, h3⟩ := fields_hello
  rw [run_eql_struct, run_equalIn_struct w 9999 _ _ _ h1 h2, eqFields_hello w 9997 hb hl _ h3]
  rfl
theorem neq_hello (w : World) (hb : List UInt8) (hl : hb.length = 48) : (binOp .neq 34 (.agg (bc hb)) (.agg (bc hb))).run Tryd.prog w = .ok (.bool false) w := by
  obtain ⟨h1, h2, h3⟩ := fields_hello
  rw [run_neq_struct, run_equalIn_struct w 9999 _ _ _ h1 h2, eqFields_hello w 9997 hb hl _ h3]
  rfl
/-- a list of lists that is read -/
def RBS (w : World) (v : Value) (bs : List (List UInt8)) : Prop :=
  ∃ a c, v = .slice a bs.length c ∧ bs.length ≤ c ∧ (bs = [] ∨ ∃ g o, a = some ⟨g, o, none⟩ ∧ g < w.heap.size ∧ ∀ i, i < bs.length → ∃ u, w.cell? ⟨g, o + i, none⟩ = some u ∧ RB w u (bs.getD i []))
theorem RBS.keep {w w' : World} {v : Value} {bs : List (List UInt8)} (h : RBS w v bs) (hb : Below w.heap.size w w') : RBS w' v bs := by
  obtain ⟨a, c, rfl, hle, h⟩ := h
  refine ⟨a, c, rfl, hle, ?_⟩
  rcases h with h | ⟨g, o, h1, h2, h3⟩
  · exact .inl h
  · refine .inr ⟨g, o, h1, Nat.lt_of_lt_of_le h2 hb.size, fun i hi => ?_⟩
    obtain ⟨u, h4, h5⟩ := h3 i hi
    exact ⟨u, (World.cell?_of_block (w := w) (hb.block g h2)).trans h4, h5.keep hb⟩
theorem RBS.nil (w : World) (a : Option Addr) (c : Nat) : RBS w (.slice a 0 c) [] := ⟨a, c, rfl, Nat.zero_le _, .inl rfl⟩
theorem row_rbs {w : World} {B : Nat} {v : Value} {bs : List (List UInt8)} {us : List Value} (h : w.ownsRow B 26 1 v bs.length us) (hu : us.length = bs.length) (hr : ∀ i, i < bs.length → RB w (us.getD i undef) (bs.getD i [])) : RBS w v bs := by
  have h' := h
  rcases h.2 with ⟨rfl, h0⟩ | ⟨g, cap, cur, rfl, _, hg, hle, _⟩
  · have : bs = [] := List.length_eq_zero_iff.1 h0
    subst this; exact RBS.nil _ _ _
  · refine ⟨_, cap, rfl, hle, .inr ⟨g, 0, rfl, (Array.getElem?_eq_some_iff.1 hg).1, fun i hi => ⟨us.getD i undef, ?_, hr i hi⟩⟩⟩
    have := World.ownsRow.cellAt h' i (by omega)
    rw [Nat.zero_add, this]
    simp [List.getElem?_eq_getElem (show i < us.length by omega)]
theorem BK.rb {S : Nat → Prop} {w : World} {u : Value} {l : List UInt8} (h : BK S w u l) : RB w u l := by
  obtain ⟨g, _, rfl, h3⟩ := h
  exact rb_block h3 _ rfl
theorem OB.rbs {B : Nat} {S : Nat → Prop} {w : World} {v : Value} {bs : List (List UInt8)} (h : OB B S w v bs) : RBS w v bs := by
  obtain ⟨us, h1, h2, h3⟩ := h
  exact row_rbs h2 h1 (fun i hi => (h3 i hi).rb)
/-- a list of own lists -/
def OR (B : Nat) (w : World) (v : Value) (bs : List (List UInt8)) : Prop := ∃ us : List Value, us.length = bs.length ∧ w.ownsRow B 26 1 v bs.length us ∧ ∀ i, i < bs.length → OW B w (us.getD i undef) (bs.getD i [])
theorem OR.rbs {B : Nat} {w : World} {v : Value} {bs : List (List UInt8)} (h : OR B w v bs) : RBS w v bs := by
  obtain ⟨us, h1, h2, h3⟩ := h
  exact row_rbs h2 h1 (fun i hi => (h3 i hi).rb)
theorem OR.form {B : Nat} {w : World} {v : Value} {bs : List (List UInt8)} (h : OR B w v bs) : ∃ a c, v = .slice a bs.length c := by
  obtain ⟨a, c, e, _⟩ := h.rbs
  exact ⟨a, c, e⟩
theorem OR.keep {B : Nat} {w w' : World} {v : Value} {bs : List (List UInt8)} (h : OR B w v bs) (hb : ∀ k, B ≤ k → k < w.heap.size → w'.heap[k]? = w.heap[k]?) : OR B w' v bs := by
  obtain ⟨us, h1, h2, h3⟩ := h
  exact ⟨us, h1, ownsRow_keep h2 hb, fun i hi => ownsRow_keep (h3 i hi) hb⟩
theorem OB.weak {B B' : Nat} {S T : Nat → Prop} {w : World} {v : Value} {bs : List (List UInt8)} (h : OB B S w v bs) (hb : B' ≤ B) (hs : ∀ g, S g → T g) : OB B' T w v bs := by
  obtain ⟨us, h1, h2, h3⟩ := h
  exact ⟨us, h1, ownsRow_mono h2 hb, fun i hi => (h3 i hi).keep (fun _ _ _ _ => rfl) (fun g x _ => hs g x)⟩
/-- the one handshake of a list -/
theorem OM.one {B : Nat} {w : World} {v : Value} {h : List UInt8} (hm : OM B w v [h]) : ∃ g c, v = .slice (some ⟨g, 0, none⟩) 1 c ∧ h.length = 48 ∧ g < w.heap.size ∧ w.rangeAt g 0 (Lib.byteCells h) := by
  have hl := hm.2 h (by simp)
  have h1 := hm.1
  rcases hm.1.2 with ⟨_, h0⟩ | ⟨g, cap, cur, rfl, _, hg, _⟩
  · simp at h0
  · refine ⟨g, cap, rfl, hl, (Array.getElem?_eq_some_iff.1 hg).1, fun j y hj => ?_⟩
    have hj' : j < 48 := by
      have := (List.getElem?_eq_some_iff.1 hj).1
      rw [bcl_len] at this; omega
    have := World.ownsRow.cellAt h1 j (by simp; omega)
    rw [Nat.zero_add, this]
    simpa using hj
theorem load_hello {w : World} {g o : Nat} {h : List UInt8} (hr : w.rangeAt g o (Lib.byteCells h)) (hl : h.length = 48) : (Instr.loadAt 34 (.pointer (some ⟨g, o, none⟩))).run Tryd.prog w = .ok (.agg (bc h)) w ∧ (loadVar 34 ⟨g, o, none⟩).run Tryd.prog w = .ok (.agg (bc h)) w := by
  have hi : (Tryd.prog.info? 34).map (·.size) = some (Lib.byteCells h).length := by rw [bcl_len, hl]; kernel_rfl
  exact ⟨run_loadAt_mid w g o 34 _ _ hr Tryd.underlying34 rfl hi, run_loadVar_mid w g o 34 _ _ hr Tryd.underlying34 rfl hi⟩
theorem wpQuiet_load {ops : Array Oper} {C : World → Prop} {Q : Act → Prop} {a : Act} {o : Oper} {rest : List Oper} (hw : Region.wanted o (yielded ops a.tmps) = true) (x : Operand) (ho : o.op = .load 34 x) (g k : Nat) (hx : a.eval x = .pointer (some ⟨g, k, none⟩)) (h : List UInt8) (hr : ∀ w', C w' → w'.rangeAt g k (Lib.byteCells h)) (hl : h.length = 48)
    (hn : wpQuiet Tryd.prog ops C Q rest (a.put o.dst (.agg (bc h)))) : wpQuiet Tryd.prog ops C Q (o :: rest) a := by
  refine wpQuiet_step (fun K hK => ?_)
  rw [if_pos hw]
  refine ⟨.agg (bc h), fun w' hC => ?_, hK _ hn⟩
  unfold Oper.quietAt
  have := (load_hello (hr w' hC) hl).1
  unfold execOp
  simp only [ho, hx, Sem.run_bind, this, Result.andThen_ok, Sem.run_pure]
  exact ⟨rfl, rfl⟩
end Go.Proofs.YtbnnfpjgjieaeaaDoor.Fm
namespace Go.Proofs.YtbnnfpjgjieaeaaDoor
open Go.RowKit
/-- the bodies of these messages -/
def encs (ms : List Mg) : List (List UInt8) := ms.map fun x => encB x.m x.D x.hb
theorem nm_frm (b rest : List UInt8) (hb : b.length ≤ 32768) : Fm.nm (frm b ++ rest) = b.length := by
  unfold frm
  rw [List.append_assoc]
  exact Fm.nm_be4 b.length _ (by omega)
theorem frm_len (b : List UInt8) : (frm b).length = 4 + b.length := by unfold frm; rw [List.length_append, be4_len]
theorem drop_frm (b rest : List UInt8) : (frm b ++ rest).drop (4 + b.length) = rest := List.drop_left' (frm_len b)
theorem body_frm (b rest : List UInt8) : ((frm b ++ rest).drop 4).take b.length = b := by
  unfold frm
  rw [List.append_assoc, List.drop_left' (be4_len _)]
  exact List.take_left' rfl
theorem wirE_mem {ms : List Mg} (h : wirE ms = 0) : ∀ x ∈ ms, valE x.m = 0 := by
  induction ms with
  | nil => simp
  | cons y ms ih =>
    unfold wirE at h
    split at h
    · rename_i h0
      intro x hx
      rcases List.mem_cons.1 hx with rfl | hx
      · exact h0
      · exact ih h x hx
    · rename_i h0
      exact absurd h h0
theorem encs_good {w : World} {ms : List Mg} (hm : ∀ x ∈ ms, MM w x.m x.D x.hb) (h : wirE ms = 0) : ∀ a ∈ encs ms, decE a = 0 := by
  intro a ha
  obtain ⟨x, hx, rfl⟩ := List.mem_map.1 ha
  have := hm x hx
  exact (back_way x.m this.ok x.D x.hb (wirE_mem h x hx) this.sd this.sh).1
theorem rws_szs (r : Kr) (hr : r ∈ rws) (m : Mv) : szs r.cs m ≤ 49 + sln m.d + 32 * sln m.h := by
  simp only [rws, List.mem_cons, List.not_mem_nil, or_false] at hr
  rcases hr with rfl | rfl | rfl | rfl | rfl | rfl | rfl | rfl | rfl | rfl | rfl | rfl | rfl | rfl
  · show 0 ≤ _; omega
  all_goals first | (show 1 + 0 ≤ _; omega) | (show 1 + (4 + 0) ≤ _; omega) | (show 1 + (sln m.d + 0) ≤ _; omega) | (show 1 + (4 + (4 + (4 + 0))) ≤ _; omega) | (show 1 + (4 + (4 + (sln m.d + 0))) ≤ _; omega) | (show 1 + (32 + (4 + (4 + (4 + (4 + 0))))) ≤ _; omega) | (show 1 + (32 + (4 + (4 + (4 + (4 + (32 * sln m.h + 0)))))) ≤ _; omega)
theorem lays_len (r : Kr) (hmem : r ∈ rws) (m : Mv) (ok : m.ok) (D hb : List UInt8) (hkk : r.k = m.k) (hfrn : frn (blks r.cs m) = false) (hlk : lks r.cs m = true) (hd : sln m.d = D.length) (hh : hb.length = sln m.h * 32) : (lays r.cs m D hb).length = szs r.cs m := by
  simp only [rws, List.mem_cons, List.not_mem_nil, or_false] at hmem
  rcases hmem with rfl | rfl | rfl | rfl | rfl | rfl | rfl | rfl | rfl | rfl | rfl | rfl | rfl | rfl
  · exact (bk_n1 m ok D hb hkk.symm hfrn hlk hd hh).2.1
  · exact (bk_0 m ok D hb hkk.symm hfrn hlk hd hh).2.1
  · exact (bk_1 m ok D hb hkk.symm hfrn hlk hd hh).2.1
  · exact (bk_2 m ok D hb hkk.symm hfrn hlk hd hh).2.1
  · exact (bk_3 m ok D hb hkk.symm hfrn hlk hd hh).2.1
  · exact (bk_4 m ok D hb hkk.symm hfrn hlk hd hh).2.1
  · exact (bk_5 m ok D hb hkk.symm hfrn hlk hd hh).2.1
  · exact (bk_6 m ok D hb hkk.symm hfrn hlk hd hh).2.1
  · exact (bk_7 m ok D hb hkk.symm hfrn hlk hd hh).2.1
  · exact (bk_8 m ok D hb hkk.symm hfrn hlk hd hh).2.1
  · exact (bk_21 m ok D hb hkk.symm hfrn hlk hd hh).2.1
  · exact (bk_22 m ok D hb hkk.symm hfrn hlk hd hh).2.1
  · exact (bk_23 m ok D hb hkk.symm hfrn hlk hd hh).2.1
  · exact (bk_1000 m ok D hb hkk.symm hfrn hlk hd hh).2.1
theorem enc_size {w : World} {x : Mg} (h : MM w x.m x.D x.hb) : (encB x.m x.D x.hb).length ≤ 49 + x.D.length + x.hb.length := by
  have h1 := h.sd
  have h2 := h.sh
  unfold encB
  split
  · rename_i h0
    split
    · rename_i r hr
      have hw : valE x.m = 0 := h0
      unfold valE at hw
      rw [hr] at hw
      simp only at hw
      split at hw
      · omega
      · rename_i hfrn
        split at hw
        · rename_i hlk
          obtain ⟨hmem, hkk⟩ := rowFor_mem hr
          have hs := rws_szs r hmem x.m
          have hlen := lays_len r hmem x.m h.ok x.D x.hb hkk (by simpa using hfrn) hlk h1 h2
          omega
        · omega
    · simp
  · simp
theorem wirB_bulk {w : World} (ms : List Mg) (h : ∀ x ∈ ms, MM w x.m x.D x.hb) : (wirB ms).length ≤ 6 * mgW ms ∧ ms.length ≤ mgW ms := by
  induction ms with
  | nil => simp [wirB, mgW]
  | cons y ms ih =>
    obtain ⟨i1, i2⟩ := ih (fun z hz => h z (by simp [hz]))
    have h1 := enc_size (h y (by simp))
    have e1 : wirB (y :: ms) = frm (encB y.m y.D y.hb) ++ wirB ms := rfl
    have e2 : mgW (y :: ms) = (10 + y.D.length + y.hb.length) + mgW ms := rfl
    rw [e1, e2, List.length_append, frm_len, List.length_cons]
    omega
/-- what a body reads as, with its lists in memory -/
def mgOf (b : List UInt8) (d h : Value) : Mg := ⟨{ (decS b).m with d := d, h := h }, (decS b).D, (decS b).hb⟩
/-- these messages are what these bodies read as -/
def MsOf (ms : List Mg) (bs : List (List UInt8)) : Prop := ms.length = bs.length ∧ ∀ (i : Nat) x b, ms[i]? = some x → bs[i]? = some b → ∃ d h, x = mgOf b d h
theorem MsOf.snoc {ms : List Mg} {bs : List (List UInt8)} (h : MsOf ms bs) (b : List UInt8) (d h' : Value) : MsOf (ms ++ [mgOf b d h']) (bs ++ [b]) := by
  refine ⟨by simp [h.1], fun i x c hx hc => ?_⟩
  by_cases hi : i < ms.length
  · rw [List.getElem?_append_left hi] at hx
    rw [List.getElem?_append_left (by rw [← h.1]; exact hi)] at hc
    exact h.2 i x c hx hc
  · rw [List.getElem?_append_right (by omega)] at hx
    rw [List.getElem?_append_right (by rw [← h.1]; omega), ← h.1] at hc
    have h0 : i - ms.length = 0 := by
      have := (List.getElem?_eq_some_iff.1 hx).1
      simp at this
      omega
    rw [h0] at hx hc
    simp at hx hc
    subst hx hc
    exact ⟨d, h', rfl⟩
theorem decS_len (l : List UInt8) : (decS l).D.length ≤ 32768 ∧ (decS l).hb.length ≤ 32768 := by
  unfold decS
  by_cases hE : decE l = 0
  · rw [if_pos hE]
    unfold decE at hE
    split at hE
    · omega
    · rename_i h1
      cases hr : rowFor (kindB l) with
      | none => rw [hr] at hE; simp at hE
      | some r =>
        simp only
        have key : ∀ (cs : List Nat) (s : Ds), s.l.length ≤ 32768 → s.D.length ≤ 32768 → s.hb.length ≤ 32768 → (Ds.tks cs s).D.length ≤ 32768 ∧ (Ds.tks cs s).hb.length ≤ 32768 := by
          intro cs
          induction cs with
          | nil => intro s _ h2 h3; exact ⟨h2, h3⟩
          | cons c cs ih =>
            intro s h1 h2 h3
            refine ih (Ds.tk c s) (Nat.le_trans (rst_le c s.l) h1) ?_ ?_
            · show (dD c s.l s.D).length ≤ _
              unfold dD; split <;> assumption
            · show (dH c s.l s.hb).length ≤ _
              unfold dH; split <;> assumption
        exact key r.cs ⟨zmk r.k, [], [], l⟩ (by simp only; omega) (by simp) (by simp)
  · rw [if_neg hE]
    exact ⟨by simp, by simp⟩
theorem OMg.of_dec {B : Nat} {w w' : World} {l : List UInt8} {d h : Value} (hB : B ≤ w.heap.size) (hd : OW w.heap.size w' d (decS l).D) (hh : OH w.heap.size w' h (decS l).hb) : OMg B w' (mgOf l d h) := by
  have hm := MM.of_dec hd hh
  have hl := decS_len l
  obtain ⟨n, e, h1⟩ := hh
  exact ⟨hm.ok, hd.mono hB, ⟨n, e, ownsRow_mono h1 hB⟩, Nat.le_trans hl.1 (by omega), Nat.le_trans hl.2 (by omega)⟩
theorem ms_back {w : World} {ms ns : List Mg} (hm : ∀ x ∈ ms, MM w x.m x.D x.hb) (h : wirE ms = 0) (hn : MsOf ns (encs ms)) : MsEq ns ms := by
  refine ⟨by rw [hn.1]; simp [encs], fun i x y hx hy => ?_⟩
  have hy2 : (encs ms)[i]? = some (encB y.m y.D y.hb) := by unfold encs; rw [List.getElem?_map, hy]; rfl
  obtain ⟨d, h', rfl⟩ := hn.2 i x _ hx hy2
  have hmem := List.mem_of_getElem? hy
  have hM := hm y hmem
  obtain ⟨_, k2, k3, k4, _⟩ := back_way y.m hM.ok y.D y.hb (wirE_mem h y hmem) hM.sd hM.sh
  refine ⟨k2.symm, k3.symm, ?_⟩
  show y.m = { ({ (decS (encB y.m y.D y.hb)).m with d := d, h := h' } : Mv) with d := y.m.d, h := y.m.h }
  rw [k4 d h']
theorem ownsRow_rows {B : Nat} {w w' : World} {e n : Nat} {size : Nat} {v : Value} {us : List Value} (he : e ≠ 47) (h : w.ownsRow B e size v n us) (hr : ∀ (k : Nat) (cs : Array Value) (t : TypeId), w.heap[k]? = some (.cells cs t (0, 0)) → t ≠ 47 → w'.heap[k]? = some (.cells cs t (0, 0))) : w'.ownsRow B e size v n us := by
  refine ⟨h.1, ?_⟩
  rcases h.2 with h1 | ⟨k, cap, cur, h1, h2, h3, h4⟩
  · exact .inl h1
  · exact .inr ⟨k, cap, cur, h1, h2, hr _ _ _ h3 he, h4⟩
theorem OR.rows {B : Nat} {w w' : World} {v : Value} {bs : List (List UInt8)} (h : Fm.OR B w v bs) (hr : ∀ (k : Nat) (cs : Array Value) (t : TypeId), w.heap[k]? = some (.cells cs t (0, 0)) → t ≠ 47 → w'.heap[k]? = some (.cells cs t (0, 0))) : Fm.OR B w' v bs := by
  obtain ⟨us, h1, h2, h3⟩ := h
  exact ⟨us, h1, ownsRow_rows (by decide) h2 hr, fun i hi => ownsRow_rows (by decide) (h3 i hi) hr⟩
theorem OR.grow {B : Nat} {w w' : World} {v : Value} {bs : List (List UInt8)} (h : Fm.OR B w v bs) (hb : Below w.heap.size w w') : Fm.OR B w' v bs := h.keep fun k _ hk => hb.block k hk
theorem OR.of_ob {B : Nat} {w : World} {v : Value} {bs : List (List UInt8)} (h : Fm.OB B (fun g => B ≤ g) w v bs) (hl : ∀ b ∈ bs, b.length ≤ 32768) : Fm.OR B w v bs := by
  obtain ⟨us, h1, h2, h3⟩ := h
  refine ⟨us, h1, h2, fun i hi => ?_⟩
  obtain ⟨g, hg, e, hh⟩ := h3 i hi
  rw [e]
  have hm : (bs.getD i []) ∈ bs := by rw [List.getD_eq_getElem?_getD, List.getElem?_eq_getElem hi]; exact List.getElem_mem hi
  have := hl _ hm
  exact OW.of_block (l := bs.getD i []) hg hh rfl (List.take_length ..) (Nat.le_refl _) (by unfold maxLen; omega)
set_option maxHeartbeats 1000000 in
theorem joinedT (w : World) (v1 v2 : Value) (l1 l2 : List UInt8) (h1 : RB w v1 l1) (h2 : RB w v2 l2) (hl : l1.length + l2.length ≤ 140737488351232) :
    Calls Tryd.prog 10 #[v1, v2] w fun e w' => ∃ v, e = .returned v ∧ OW w.heap.size w' v (l1 ++ l2) ∧ Below w.heap.size w w' := by
  obtain ⟨a1, c1, rfl, _⟩ := id h1
  obtain ⟨a2, c2, rfl, _⟩ := id h2
  have HO : Hid (OW w.heap.size w (.slice none 0 0) [] ∧ RB w (.slice a1 l1.length c1) l1 ∧ RB w (.slice a2 l2.length c2) l2 ∧ ([] : List UInt8).length + l1.length ≤ 140737488351232 ∧ l1.length + l2.length ≤ 140737488351232) := ⟨World.ownsRow_nil _ _ _ _, h1, h2, by simp; omega, hl⟩
  clear h1 h2 hl
  go_enter Tryd.func10, Tryd.ntmps10
  go_wp2_with (first | (at_builtin; refine append_bytes rfl _ _ rfl rfl HO.out.1 rfl HO.out.2.1 (Nat.le_refl _) HO.out.2.2.2.1 ?_; intro v3 w1 o1 b1; simp only [List.nil_append] at o1; obtain ⟨ca, cn, cc, rfl⟩ := o1.form3; have H1 : Hid (OW w.heap.size w1 (.slice ca cn cc) l1 ∧ RB w1 (.slice a2 l2.length c2) l2 ∧ Below w.heap.size w w1 ∧ l1.length + l2.length ≤ 140737488351232) := ⟨o1, HO.out.2.2.1.keep b1, b1, HO.out.2.2.2.2⟩; clear o1 b1) | (at_builtin; refine append_bytes rfl _ _ rfl rfl H1.out.1 rfl H1.out.2.1 H1.out.2.2.1.size H1.out.2.2.2 ?_; intro v4 w2 o2 b2))
  have H2 : Hid (OW w.heap.size w2 v4 (l1 ++ l2) ∧ Below w.heap.size w w2) := ⟨o2, H1.out.2.2.1.trans b2⟩
  clear o2 b2
  go_wp2
  go_ret
  exact ⟨_, rfl, H2.out⟩
end Go.Proofs.YtbnnfpjgjieaeaaDoor
