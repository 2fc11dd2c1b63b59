import Derived.Test.YtmfeelkjbpjhdaaQa
import Derived.ArgAppend
import Derived.Laws.OwnMore
namespace Go.Proofs.Ytmfeelkjbpjhdaa
open Go.RowKit
set_option maxHeartbeats 1000000 in
theorem wrapK (v : Value) (l : List UInt8) (hl : l.length ≤ 32768) (w : World) (hr : RB w v l) :
    Calls Try.prog 5 #[v] w fun e w' => ∃ v', e = .returned (.tuple #[v', .int .i64 0]) ∧ BK (fun g => w.heap.size ≤ g) w' v' (frm l) ∧ Below w.heap.size w w' := by
  obtain ⟨a, c, rfl, _, hr⟩ := hr
  have hmk : ∀ u : World, (Instr.makeSlice 28 (.int .i64 (4 + (l.length : Int))) (.int .i64 (4 + (l.length : Int)))).run Try.prog u = .ok (.slice (some ⟨u.heap.size, 0, none⟩) (4 + l.length) (4 + l.length)) (u.alloc (.cells (bc (zr (4 + l.length))) 5)) := by
    have := make_bytes (4 + l.length) (by omega)
    simpa using this
  have hb : Below w.heap.size w (w.alloc (.cells (bc (be4 l.length ++ zr l.length)) 5)) := (Below.refl _ _).alloc (Nat.le_refl _) _
  have HW := wrap_head l.length hl
  have hg := heapNew w (.cells (bc (be4 l.length ++ zr l.length)) 5)
  by_cases hn : l = []
  · subst hn
    have HO : Hid (BK (fun g => w.heap.size ≤ g) (w.alloc (.cells (bc (be4 0 ++ zr 0)) 5)) (.slice (some ⟨w.heap.size, 0, none⟩) 4 4) (frm [])) := ⟨w.heap.size, Nat.le_refl _, rfl, hg⟩
    have hm4 : ∀ u : World, (Instr.makeSlice 28 (.int .i64 4) (.int .i64 4)).run Try.prog u = .ok (.slice (some ⟨u.heap.size, 0, none⟩) 4 4) (u.alloc (.cells (bc (zr 4)) 5)) := make_bytes 4 (by omega)
    have HM : (((((bc (zr 4)).setIfInBounds 0 (Value.int .u8 0)).setIfInBounds 1 (Value.int .u8 0)).setIfInBounds 2 (Value.int .u8 0)).setIfInBounds 3 (Value.int .u8 0)) = bc (be4 0 ++ zr 0) := rfl
    have hc := fun (d : Option Addr) (dc : Nat) => run_copy_none (P := Try.prog) (w.alloc (.cells (bc (be4 0 ++ zr 0)) 5)) 28 28 3 5 d a 0 dc 0 c Try.underlying28 hs5 rfl
    have HB : Hid (Below w.heap.size w (w.alloc (.cells (bc (be4 0 ++ zr 0)) 5))) := hb
    have z0 := zr_get 4 0 (by omega)
    have z1 := zr_get 4 1 (by omega)
    have z2 := zr_get 4 2 (by omega)
    have z3 := zr_get 4 3 (by omega)
    rw [← HM] at hc HB HO
    clear hr hg HW hb hmk HM
    generalize bc (zr 4) = Z at *
    go_enter Try.func5, Try.ntmps5
    go_wp2
    go_ret2
    exact ⟨_, rfl, HO.out, HB.out⟩
  · rcases hr with h | ⟨b, off, rfl, hb1, hc1⟩
    · exact absurd h hn
    have hcp := copy_row (w.alloc (.cells (bc (be4 l.length ++ zr l.length)) 5)) 3 w.heap.size 4 l.length l.length b off l.length c (be4 l.length ++ zr l.length) l 5 hg (Nat.min_self _).symm (fun i hi => (hb.cell (p := ⟨b, off + i, none⟩) hb1).trans (hc1 i hi)) (by simp [be4_len, zr_len])
    have e1 : (be4 l.length ++ zr l.length).take 4 ++ l ++ (be4 l.length ++ zr l.length).drop (4 + l.length) = frm l := by
      rw [List.drop_eq_nil_of_le (by simp [be4_len, zr_len])]
      simp [frm, be4]
    rw [e1] at hcp
    have HO : Hid (BK (fun g => w.heap.size ≤ g) ((w.alloc (.cells (bc (be4 l.length ++ zr l.length)) 5)).setRow w.heap.size (bc (frm l))) (.slice (some ⟨w.heap.size, 0, none⟩) (4 + l.length) (4 + l.length)) (frm l) ∧ Below w.heap.size w ((w.alloc (.cells (bc (be4 l.length ++ zr l.length)) 5)).setRow w.heap.size (bc (frm l)))) := by
      have hfl : (frm l).length = 4 + l.length := by simp [frm, be4_len]
      exact ⟨⟨w.heap.size, Nat.le_refl _, by rw [hfl], heapSetRow _ _ _ (bc (frm l)) _ hg⟩, belowSetRow hb (Nat.le_refl _) _⟩
    rw [← HW] at hcp HO
    have hne : l.length ≠ 0 := fun h => hn (List.length_eq_zero_iff.1 h)
    have z0 := zr_get (4 + l.length) 0 (by omega)
    have z1 := zr_get (4 + l.length) 1 (by omega)
    have z2 := zr_get (4 + l.length) 2 (by omega)
    have z3 := zr_get (4 + l.length) 3 (by omega)
    clear hg HW hb hb1 hc1 e1
    generalize bc (zr (4 + l.length)) = Z at *
    generalize l.length = n at *
    generalize bc (frm l) = FL at *
    generalize frm l = fl at *
    go_enter Try.func5, Try.ntmps5
    go_wp2
    go_ret2
    exact ⟨_, rfl, HO.out⟩
set_option maxRecDepth 100000 in
theorem greetK (hb : List UInt8) (hl : hb.length = 48) (w : World) :
    Calls Try.prog 11 #[.agg (bc hb)] w fun e w' => ∃ v, e = .returned v ∧ BK (fun g => w.heap.size ≤ g) w' v (sgn ++ hb) ∧ Below w.heap.size w w' := by
  have hmk : ∀ u : World, (Instr.makeSlice 28 (.int .i64 68) (.int .i64 68)).run Try.prog u = .ok (.slice (some ⟨u.heap.size, 0, none⟩) 68 68) (u.alloc (.cells (bc (zr 68)) 5)) := make_bytes 68 (by omega)
  have C1 : ∃ W1, (∀ ty, (Builtin.copy_ #[28, 9] ty #[.slice (some ⟨w.heap.size + 1, 0, none⟩) 68 68, .string { data := #[19, 66, 105, 116, 84, 111, 114, 114, 101, 110, 116, 32, 112, 114, 111, 116, 111, 99, 111, 108] }]).run Try.prog ((w.alloc (.cells (bc hb) 25)).alloc (.cells (bc (zr 68)) 5)) = .ok (goInt 20) W1) ∧ W1.heap[w.heap.size + 1]? = some (.cells (bc (sgn ++ zr 48)) 5 (0, 0)) ∧ W1.heap[w.heap.size]? = some (.cells (bc hb) 25 (0, 0)) ∧ Below w.heap.size w W1 := by
    have hg : ((w.alloc (.cells (bc hb) 25)).alloc (.cells (bc (zr 68)) 5)).heap[w.heap.size + 1]? = some (.cells (bc (zr 68)) 5 (0, 0)) := by
      have := heapNew (w.alloc (.cells (bc hb) 25)) (.cells (bc (zr 68)) 5)
      simpa using this
    refine ⟨_, fun ty => Lib.run_copy_row_string _ 28 9 ty 5 (w.heap.size + 1) 0 68 68 _ (bc (zr 68)) 5 Try.underlying28 hs5 hg (by decide) (by rw [bc_size, zr_len]; decide), ?_, ?_, belowSetRow (((Below.refl _ _).alloc (Nat.le_refl _) _).alloc (by simp) _) (by omega) _⟩
    · rw [heapSetRow _ _ _ _ _ hg]
      rfl
    · rw [setRow_other _ _ _ _ (by omega), heapOld _ _ _ (by simp), heapNew]
  obtain ⟨W1, hc1, hb1, hh1, B1⟩ := C1
  obtain ⟨W2, hc2, hb2, hh2, B2⟩ := copy_part w W1.drew (w.heap.size + 1) w.heap.size 20 0 8 _ hb 5 25 hb1 hh1 (by omega) (by omega) (by omega) (by simp [sgn, zr_len]) B1.drew
  rw [splice_at (o := 20) (by simp [sgn]) (cut_len hb 0 8 (by omega))] at hb2
  obtain ⟨W3, hc3, hb3, hh3, B3⟩ := copy_part w W2.drew (w.heap.size + 1) w.heap.size 28 8 20 _ hb 5 25 hb2 hh2 (by omega) (by omega) (by omega) (by simp [sgn, hl, zr_len]) B2.drew
  rw [splice_at (o := 28) (by simp [sgn, hl]) (cut_len hb 8 20 (by omega))] at hb3
  obtain ⟨W4, hc4, hb4, hh4, B4⟩ := copy_part w W3.drew (w.heap.size + 1) w.heap.size 48 28 20 _ hb 5 25 hb3 hh3 (by omega) (by omega) (by omega) (by simp [sgn, hl, zr_len]) B3.drew
  rw [splice_at (o := 48) (by simp [sgn, hl]) (cut_len hb 28 20 (by omega))] at hb4
  have HO : Hid (BK (fun g => w.heap.size ≤ g) W4 (.slice (some ⟨w.heap.size + 1, 0, none⟩) 68 68) (sgn ++ hb) ∧ Below w.heap.size w W4) := by
    have hx : sgn.length = 20 := rfl
    have h68 : (sgn ++ hb).length = 68 := by simp [hx, hl]
    refine ⟨⟨w.heap.size + 1, by omega, by rw [h68], ?_⟩, B4⟩
    rw [List.append_assoc sgn, cut_join hb 0 8 20, List.append_assoc sgn, cut_join hb 0 28 20] at hb4
    have hz : List.drop 20 (List.drop 20 (List.drop 8 (zr 48))) = [] := List.drop_eq_nil_of_le (by simp [zr_len])
    rw [hz, List.append_nil, List.drop_zero, List.take_of_length_le (by omega)] at hb4
    exact hb4
  have c1 := hc1 3
  have c2 := hc2 3 48 48 8 (by omega)
  have c3 := hc3 3 40 40 20 (by omega)
  have c4 := hc4 3 20 20 20 (by omega)
  clear hb1 hh1 B1 hb2 hh2 B2 hb3 hh3 B3 hb4 hh4 B4 hc1 hc2 hc3 hc4 hl
  go_enter Try.func11, Try.ntmps11
  go_wp2
  go_region
  go_wp2
  go_region
  go_wp2
  go_region
  go_wp2
  go_ret
  exact ⟨_, rfl, HO.out⟩
theorem room_of {B : Nat} {w : World} {v : Value} {dl : List UInt8} {dn : Nat} (h : OW B w v (dl ++ [201, 202, 203])) (hn : dn = dl.length) : ∃ G cap, B ≤ G ∧ OW B w (.slice (some ⟨G, 0, none⟩) dn cap) dl ∧ dn + 3 ≤ cap ∧ w.cell? ⟨G, dn, none⟩ = some (.int .u8 201) ∧ w.cell? ⟨G, dn + 1, none⟩ = some (.int .u8 202) ∧ w.cell? ⟨G, dn + 2, none⟩ = some (.int .u8 203) ∧ v = .slice (some ⟨G, 0, none⟩) (dn + 3) cap := by
  subst hn
  have hr := h.rb
  rcases h.2 with ⟨_, h0⟩ | ⟨g, cap, cur, rfl, h2, h3, h4, h5, h6, h7⟩
  · simp at h0
  obtain ⟨a', c', e, _, hh⟩ := hr
  simp only [Value.slice.injEq] at e
  obtain ⟨rfl, _, _⟩ := e
  rcases hh with hh | ⟨g', o', e', _, hh⟩
  · simp at hh
  simp only [Option.some.injEq, Addr.mk.injEq] at e'
  obtain ⟨rfl, rfl, _⟩ := e'
  simp only [List.length_append, List.length_cons, List.length_nil, Nat.zero_add] at *
  have q0 := hh dl.length (by omega)
  have q1 := hh (dl.length + 1) (by omega)
  have q2 := hh (dl.length + 2) (by omega)
  refine ⟨g, cap, h2, ⟨by simp [Lib.byteCells], .inr ⟨g, cap, cur, rfl, h2, h3, by omega, h5, h6, ?_⟩⟩, by omega, ?_, ?_, ?_, rfl⟩
  · have := congrArg (List.take dl.length) h7
    rw [List.take_take, bcl_append, List.take_append_of_le_length (by rw [bcl_len]; exact Nat.le_refl _)] at this
    rw [Nat.min_eq_left (by omega)] at this
    rw [Nat.mul_one, this, List.take_of_length_le (by rw [bcl_len]; exact Nat.le_refl _)]
  · rw [q0]; simp [byt]
  · rw [q1]; simp [byt]
  · rw [q2]; simp [byt]
theorem OW.blk {B : Nat} {w : World} {v : Value} {l : List UInt8} (h : OW B w v l) : ∀ g, v.ownBlock = some g → B ≤ g ∧ g < w.heap.size := fun g hg => World.ownsRow.lt h g hg
theorem OW.at {B : Nat} {w : World} {g n cap : Nat} {l : List UInt8} (h : OW B w (.slice (some ⟨g, 0, none⟩) n cap) l) (k : Nat) (hk : k < l.length) : w.cell? ⟨g, k, none⟩ = some (.int .u8 ((byt l k).toNat : Int)) ∧ w.frozen? ⟨g, k, none⟩ = false := by
  constructor
  · obtain ⟨a', c', e, _, hh⟩ := h.rb
    simp only [Value.slice.injEq] at e
    obtain ⟨rfl, _, _⟩ := e
    rcases hh with hh | ⟨g', o', e', _, hh⟩
    · subst hh; simp at hk
    simp only [Option.some.injEq, Addr.mk.injEq] at e'
    obtain ⟨rfl, rfl, _⟩ := e'
    have := hh k hk
    rwa [Nat.zero_add] at this
  · rcases h.2 with ⟨e, _⟩ | ⟨g', cap', cur, e, _, h3, _⟩
    · cases e
    · cases e
      simp [World.frozen?, h3]
theorem OW.put {B : Nat} {w : World} {g n cap : Nat} {l : List UInt8} (h : OW B w (.slice (some ⟨g, 0, none⟩) n cap) l) (k : Nat) (c : UInt8) : OW B (w.setCell ⟨g, k, none⟩ (.int .u8 (c.toNat : Int))) (.slice (some ⟨g, 0, none⟩) n cap) (l.set k c) := by
  rcases h.2 with ⟨e, _⟩ | ⟨g', cap', cur, e, h2, h3, h4, h5, h6, h7⟩
  · cases e
  simp only [Value.slice.injEq, Option.some.injEq, Addr.mk.injEq] at e
  obtain ⟨⟨rfl, _⟩, rfl, rfl⟩ := e
  refine ⟨by simp [Lib.byteCells], .inr ⟨g, cap, cur.setIfInBounds k (.int .u8 (c.toNat : Int)), by rw [List.length_set], h2, heap_setCell_same w g k cur 5 _ h3, by rw [List.length_set]; exact h4, h5, by simpa using h6, ?_⟩⟩
  rw [List.length_set, Array.toList_setIfInBounds, List.take_set, h7]
  simp [Lib.byteCells, List.map_set]
/-- a list of bytes that is being written over: it stays a list of so many bytes, all else stays -/
structure Sp (w0 : World) (B : Nat) (g n cap : Nat) (wr : World) : Prop where
  ow : ∃ m : List UInt8, m.length = n ∧ OW B wr (.slice (some ⟨g, 0, none⟩) n cap) m
  fr : Fr (fun k => k ≠ g) w0 wr
theorem Sp.start {w : World} {B g n cap : Nat} {l : List UInt8} (h : OW B w (.slice (some ⟨g, 0, none⟩) n cap) l) (hn : l.length = n) : Sp w B g n cap w := ⟨⟨l, hn, h⟩, Fr.refl _ _⟩
theorem Sp.at {w0 wr : World} {B g n cap : Nat} (h : Sp w0 B g n cap wr) (k : Nat) (hk : k < n) : ∃ x : Int, 0 ≤ x ∧ x < 256 ∧ wr.cell? ⟨g, k, none⟩ = some (.int .u8 x) ∧ wr.frozen? ⟨g, k, none⟩ = false ∧ ∀ z : Int, 0 ≤ z → z < 256 → Sp w0 B g n cap (wr.setCell ⟨g, k, none⟩ (.int .u8 z)) := by
  obtain ⟨m, hm, ho⟩ := h.ow
  obtain ⟨q1, q2⟩ := ho.at k (by omega)
  refine ⟨_, by omega, by have := (byt m k).toNat_lt; omega, q1, q2, fun z h0 h1 => ⟨⟨m.set k (UInt8.ofNat z.toNat), by rw [List.length_set]; exact hm, ?_⟩, h.fr.setCell g k _ (fun x => x rfl)⟩⟩
  have ez : z = (((UInt8.ofNat z.toNat).toNat : Nat) : Int) := by rw [UInt8.toNat_ofNat', Nat.mod_eq_of_lt (by omega)]; omega
  have := ho.put k (UInt8.ofNat z.toNat)
  rw [← ez] at this
  exact this
theorem Sp.atz {w0 wr : World} {B g n cap : Nat} (h : Sp w0 B g n cap wr) (k : Nat) (hk : k < n) (z : Int) (h0 : 0 ≤ z) (h1 : z < 256) : (∃ x : Int, wr.cell? ⟨g, k, none⟩ = some (.int .u8 x)) ∧ wr.frozen? ⟨g, k, none⟩ = false ∧ Sp w0 B g n cap (wr.setCell ⟨g, k, none⟩ (.int .u8 z)) := by
  obtain ⟨x, _, _, q1, q2, q3⟩ := h.at k hk
  exact ⟨⟨x, q1⟩, q2, q3 z h0 h1⟩
theorem Fr.of_grown {w w' : World} {r : Option Nat} (h : w.grownBy w' r) : Fr (fun k => r ≠ some k) w w' := ⟨h.os, h.tape, h.output, h.size, fun k hk hs => h.block k hk (fun e => hs e.symm)⟩
/-- a list that is full, gone on with -/
theorem append_grow {ops : Array Oper} {rest : List Oper} {o : Oper} {a : Act} {Q : Exit → Act → World → Prop} {w : World} (hgd : o.guard = none) (s x : Operand)
    (ho : o.op = .call { callee := .builtin .append, args := #[s, x], argTypes := #[28, 28] }) {S : Nat → Prop} {u xv : Value} {l m : List UInt8} (hs : a.eval s = u) (hu : BK S w u l) (hx : a.eval x = xv) (hr : RB w xv m) (hm : m ≠ []) (hlim : l.length + m.length ≤ 16777216)
    (h : ∀ v' w', OW w.heap.size w' v' (l ++ m) → Below w.heap.size w w' → wpList Try.prog ops Q rest (a.put o.dst v') w') : wpList Try.prog ops Q (o :: rest) a w := by
  obtain ⟨i0, hi, hz0, hz1, hz2⟩ := info_parts info5
  obtain ⟨g, _, rfl, hg⟩ := hu
  obtain ⟨ad, c, rfl, _, hr⟩ := hr
  rcases hr with e | ⟨b, off, rfl, _, hc⟩
  · exact absurd e hm
  have hml : 0 < m.length := List.length_pos_iff.2 hm
  refine wpList_append_grows w hgd s x 28 ho 5 i0 _ 1 1 Try.underlying28 hi hz0 hz1 hz2 rfl (by omega) (some ⟨g, 0, none⟩) l.length l.length (Lib.byteCells l) hs (fun h => by cases h) (by rw [bcl_len, Nat.mul_one]) (fun b' hb j u hj => ?_) ⟨b, off, none⟩ m.length c (Lib.byteCells m) hx (by rw [bcl_len, Nat.mul_one]) (fun j u hj => ?_) (Lib.byteCells_one _) (by omega) (by unfold maxLen; omega) (by omega) (fun v' w' r1 r2 => h v' w' ?_ ⟨r2.os, r2.tape, r2.output, r2.size, fun k hk => r2.block k hk (by simp)⟩)
  · cases hb
    have hj' : j < l.length := by
      have := (List.getElem?_eq_some_iff.1 hj).1
      rwa [bcl_len] at this
    have hadd : (⟨g, 0, none⟩ : Addr).add j = ⟨g, j, none⟩ := by unfold Addr.add; split <;> simp_all
    rw [hadd, cell_bc hg j hj', getD_byt l j hj']
    simpa [Lib.byteCells, List.getElem?_eq_getElem hj'] using hj
  · have hj' : j < m.length := by
      have := (List.getElem?_eq_some_iff.1 hj).1
      rwa [bcl_len] at this
    have hadd : (⟨b, off, none⟩ : Addr).add j = ⟨b, off + j, none⟩ := by unfold Addr.add; split <;> simp_all
    rw [hadd, hc j hj', getD_byt m j hj']
    simpa [Lib.byteCells, List.getElem?_eq_getElem hj'] using hj
  · rw [← bcl_append] at r1
    simpa [OW] using r1
/-- one of the bodies, where it lies -/
theorem OB.at {B : Nat} {S : Nat → Prop} {w : World} {a : Option Addr} {n c : Nat} {bs : List (List UInt8)} (h : OB B S w (.slice a n c) bs) (i : Nat) (hi : i < bs.length) : ∃ g0 g m, a = some ⟨g0, 0, none⟩ ∧ w.cell? ⟨g0, i, none⟩ = some (.slice (some ⟨g, 0, none⟩) m m) ∧ m = (bs.getD i []).length ∧ S g ∧ w.heap[g]? = some (.cells (bc (bs.getD i [])) 5 (0, 0)) ∧
    ∀ (k : Nat) (z : UInt8), OB B S (w.setCell ⟨g, k, none⟩ (.int .u8 (z.toNat : Int))) (.slice a n c) (bs.set i ((bs.getD i []).set k z)) := by
  obtain ⟨us, h1, h2, h3⟩ := h
  obtain ⟨g, hs, e, hg⟩ := h3 i hi
  have h2' := h2
  rcases h2.2 with ⟨_, e0⟩ | ⟨g0, cap, cur, e1, e2, e3, e4⟩
  · rw [e0] at hi; exact absurd hi (Nat.not_lt_zero _)
  rw [Value.slice.injEq] at e1
  obtain ⟨rfl, rfl, rfl⟩ := e1
  have hge : us.getD i undef = us[i]'(by omega) := by simp [List.getD, List.getElem?_eq_getElem (show i < us.length by omega)]
  have ht : g ≠ g0 := fun e' => by
    rw [e', e3] at hg
    simp at hg
  refine ⟨g0, g, _, rfl, ?_, rfl, hs, hg, fun k z => ⟨us, ⟨by rw [List.length_set]; exact h1.1, h1.2⟩, ?_, fun j hj => ?_⟩⟩
  · have := World.ownsRow.cellAt h2' i (by omega)
    rw [this, ← e, hge, List.getElem?_eq_getElem (by omega)]
  · rw [List.length_set]
    exact ⟨h2.1, .inr ⟨g0, c, cur, rfl, e2, (setCell_other (fun x => ht x.symm)).trans e3, e4⟩⟩
  · rw [List.length_set] at hj
    by_cases hji : j = i
    · subst hji
      refine ⟨g, hs, ?_, ?_⟩
      · rw [e]
        simp [List.getD, hj]
      · rw [heap_setCell_same w g k _ 5 _ hg]
        have : (bs.set j ((bs.getD j []).set k z)).getD j [] = (bs.getD j []).set k z := by simp [List.getD, hj]
        rw [this]
        congr 2
        apply Array.ext'
        rw [Array.toList_setIfInBounds, bc_list, bc_list]
        simp [Lib.byteCells, List.map_set]
    · obtain ⟨g', hs', e', hg'⟩ := h3 j hj
      have hgg : g' ≠ g := fun ee => by
        subst ee
        rw [hg'] at hg
        simp only [Option.some.injEq, Obj.cells.injEq, and_true] at hg
        have hlen : (bs.getD j []).length = (bs.getD i []).length := by rw [← bc_size, hg, bc_size]
        have heq : us.getD j undef = us.getD i undef := by rw [e', e, hlen]
        have hgj : us.getD j undef = us[j]'(by omega) := by simp [List.getD, List.getElem?_eq_getElem (show j < us.length by omega)]
        rw [hgj, hge] at heq
        have hp := List.pairwise_iff_getElem.1 h1.2
        rcases Nat.lt_or_gt_of_ne hji with hlt | hlt
        · exact hp j i (by omega) (by omega) hlt heq
        · exact hp i j (by omega) (by omega) hlt heq.symm
      have hb : (bs.set i ((bs.getD i []).set k z)).getD j [] = bs.getD j [] := by simp [List.getD, List.getElem?_set_ne (fun x => hji x.symm)]
      rw [hb]
      exact ⟨g', hs', e', (setCell_other hgg).trans hg'⟩
set_option maxHeartbeats 1000000 in
theorem marked (v : Value) (l : List UInt8) (c B : Nat) (w : World) (ho : OW B w v l) (hnil : l = [] → v = .slice none 0 0) (hB : B ≤ w.heap.size) (hl : l.length ≤ 33554432) (hc : c ≤ 100) :
    Calls Try.prog 7 #[v, .int .i64 (c : Int)] w fun e w' => (∃ v', e = .returned v') ∧ Fr (fun k => v.ownBlock ≠ some k) w w' := by
  obtain ⟨a, ca, rfl⟩ := ho.form
  have HI : Hid (Fr (fun k => (Value.slice a l.length ca).ownBlock ≠ some k) w w ∧ ∃ m : List UInt8, m.length = l.length ∧ OW B w (.slice a l.length ca) m) := ⟨Fr.refl _ _, l, rfl, ho⟩
  have HNl : Hid (l.length = 0 → Value.slice a l.length ca = .slice none 0 0) := fun e => hnil (List.length_eq_zero_iff.1 e)
  clear ho hnil
  generalize l.length = n at *
  go_enter Try.func7, Try.ntmps7
  go_wp2
  go_loopw [5] (fun t wr => ∃ i : Nat, i ≤ n ∧ t = .int .i64 i ∧ Hid (Fr (fun k => (Value.slice a n ca).ownBlock ≠ some k) w wr ∧ ∃ m : List UInt8, m.length = n ∧ OW B wr (.slice a n ca) m)) (fun t _ => n - (intOf t).toNat)
  case atStart => exact ⟨0, Nat.zero_le _, rfl, HI⟩
  case round =>
    obtain ⟨i, hi, rfl, H⟩ := hrel
    by_cases hlt : i < n
    · obtain ⟨g, rfl, hF⟩ : ∃ g, a = some ⟨g, 0, none⟩ ∧ (wr.cell? ⟨g, i, none⟩ ≠ none ∧ wr.frozen? ⟨g, i, none⟩ = false ∧ ∀ z : Int, 0 ≤ z → z < 256 → Hid (Fr (fun k => (Value.slice a n ca).ownBlock ≠ some k) w (wr.setCell ⟨g, i, none⟩ (.int .u8 z)) ∧ ∃ m : List UInt8, m.length = n ∧ OW B (wr.setCell ⟨g, i, none⟩ (.int .u8 z)) (.slice a n ca) m)) := by
        obtain ⟨f, m, hm, ho⟩ := H.out
        have ho' := ho
        rcases ho.2 with ⟨e, _⟩ | ⟨g, cap, cur, e, _⟩
        · rw [Value.slice.injEq] at e; omega
        rw [Value.slice.injEq] at e
        obtain ⟨rfl, _, rfl⟩ := e
        obtain ⟨q1, q2⟩ := ho'.at i (by omega)
        refine ⟨g, rfl, by rw [q1]; simp, q2, fun z h0 h1 => ⟨f.setCell g i _ (fun x => x rfl), m.set i (UInt8.ofNat z.toNat), by rw [List.length_set]; exact hm, ?_⟩⟩
        have ez : z = (((UInt8.ofNat z.toNat).toNat : Nat) : Int) := by rw [UInt8.toNat_ofNat', Nat.mod_eq_of_lt (by omega)]; omega
        have := ho'.put i (UInt8.ofNat z.toNat)
        rw [← ez] at this
        exact this
      obtain ⟨hc0, hf0, hz⟩ := hF
      obtain ⟨x, hx⟩ := Option.ne_none_iff_exists'.1 hc0
      have HZ : Hid (∀ z : Int, 0 ≤ z → z < 256 → Hid (Fr (fun k => (Value.slice (some ⟨g, 0, none⟩) n ca).ownBlock ≠ some k) w (wr.setCell ⟨g, i, none⟩ (.int .u8 z)) ∧ ∃ m : List UInt8, m.length = n ∧ OW B (wr.setCell ⟨g, i, none⟩ (.int .u8 z)) (.slice (some ⟨g, 0, none⟩) n ca) m)) := hz
      clear hz H hc0 HI
      go_wp2
      exact ⟨⟨i + 1, by omega, by go_num, HZ.out _ (by omega) (by omega)⟩, by simp [intOf]; omega⟩
    · obtain ⟨hfr, m, hm, ho⟩ := H.out
      have TC : #[Value.int .u8 (c : Int), .int .u8 ((c : Int) + 1)] = bc [UInt8.ofNat c, UInt8.ofNat (c + 1)] := by
        have h1 := u8v c
        have h2 := u8v (c + 1)
        simp only [bc, Lib.byteCells, List.map_cons, List.map_nil, h1, h2]
        have k1 : (c : Int) % 256 = c := by omega
        have k2 : ((c + 1 : Nat) : Int) % 256 = (c : Int) + 1 := by omega
        rw [k1, k2]
      have bA : Below wr.heap.size wr (wr.alloc (.cells #[.int .u8 (c : Int), .int .u8 ((c : Int) + 1)] 5)) := (Below.refl _ _).alloc (Nat.le_refl _) _
      have HH : Hid (OW B (wr.alloc (.cells #[.int .u8 (c : Int), .int .u8 ((c : Int) + 1)] 5)) (.slice a n ca) m ∧ (m = [] → Value.slice a n ca = .slice none 0 0) ∧ RB (wr.alloc (.cells #[.int .u8 (c : Int), .int .u8 ((c : Int) + 1)] 5)) (.slice (some ⟨wr.heap.size, 0, none⟩) 2 2) [UInt8.ofNat c, UInt8.ofNat (c + 1)] ∧ B ≤ (wr.alloc (.cells #[.int .u8 (c : Int), .int .u8 ((c : Int) + 1)] 5)).heap.size ∧ m.length + 2 ≤ 140737488351232 ∧ Fr (fun k => (Value.slice a n ca).ownBlock ≠ some k) w (wr.alloc (.cells #[.int .u8 (c : Int), .int .u8 ((c : Int) + 1)] 5))) :=
        ⟨ho.alloc _, fun e => HNl.out (by rw [← hm, e]; rfl), by rw [TC]; exact rb_block (heapNew _ _) 2 rfl, Nat.le_trans hB (Nat.le_trans hfr.size bA.size), by omega, hfr.trans (Fr.of_below bA) (fun _ _ x => x)⟩
      clear hfr hm ho H HI TC bA HNl
      go_wp2_with (first | (at_builtin; refine append_held rfl _ _ rfl rfl HH.out.1 HH.out.2.1 rfl HH.out.2.2.1 HH.out.2.2.2.1 HH.out.2.2.2.2.1 ?_; intro v' w' k1 k2 k3 k4; obtain ⟨va, vn, vc, rfl⟩ := k1.form3; have HE : Hid (Fr (fun k => (Value.slice a n ca).ownBlock ≠ some k) w w') := HH.out.2.2.2.2.2.trans (Fr.of_grown k3) (fun _ _ x => x); clear k1 k2 k3 k4 HH))
      go_ret
      exact ⟨⟨_, rfl⟩, HE.out⟩
end Go.Proofs.Ytmfeelkjbpjhdaa
