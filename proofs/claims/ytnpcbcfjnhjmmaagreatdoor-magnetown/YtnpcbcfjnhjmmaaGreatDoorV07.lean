import Derived.Test.YtnpcbcfjnhjmmaaGreatDoorV06
import Derived.Laws.StructEq
import Derived.BigQuiet
import Derived.Deep.QuietTactic
namespace Go.Proofs.YtnpcbcfjnhjmmaaGreatDoor
open Go.RowKit Go.Deep
def tsC (ts : List ByteArray) : List Value := ts.map Value.string
def rsC (rs : List (Int × Int)) : List Value := rs.flatMap fun x => [.int .i64 x.1, .int .i64 x.2]
theorem rsC_len (rs : List (Int × Int)) : (rsC rs).length = rs.length * 2 := by
  induction rs with
  | nil => rfl
  | cons x rs ih =>
    have : rsC (x :: rs) = [.int .i64 x.1, .int .i64 x.2] ++ rsC rs := by simp [rsC]
    rw [this, List.length_append, ih]
    simp
    omega
theorem rsC_get : ∀ (rs : List (Int × Int)) (i : Nat) (x : Int × Int), rs[i]? = some x → (rsC rs)[i * 2]? = some (.int .i64 x.1) ∧ (rsC rs)[i * 2 + 1]? = some (.int .i64 x.2)
  | [], i, x, h => by simp at h
  | y :: rs, 0, x, h => by
    simp at h
    subst h
    simp [rsC]
  | y :: rs, i + 1, x, h => by
    have e : rsC (y :: rs) = [.int .i64 y.1, .int .i64 y.2] ++ rsC rs := by simp [rsC]
    have := rsC_get rs i x (by simpa using h)
    rw [e, List.getElem?_append_right (by simp; omega), List.getElem?_append_right (by simp; omega)]
    have e1 : (i + 1) * 2 - [Value.int .i64 y.1, Value.int .i64 y.2].length = i * 2 := by simp; omega
    have e2 : (i + 1) * 2 + 1 - [Value.int .i64 y.1, Value.int .i64 y.2].length = i * 2 + 1 := by simp; omega
    rw [e1, e2]
    exact this
theorem info9 : (Tryz.prog.info? 9).map (fun i => (i.zero, i.size, i.bytes)) = some (some (.string ByteArray.empty), 1, 16) := by kernel_rfl
theorem infoRng : (Tryz.prog.info? 36).map (fun i => (i.zero, i.size, i.bytes)) = some (some (.agg #[.int .i64 0, .int .i64 0]), 2, 16) := by kernel_rfl
theorem texts_of {w : World} {B : Nat} {v : Value} {ts : List ByteArray} (h : w.ownsRow B 9 1 v ts.length (tsC ts)) : RS (fun b => B ≤ b) w v ts := by
  rcases h.2 with ⟨rfl, h0⟩ | ⟨g, cap, cur, rfl, hB, hg, _, _, hsz, hx⟩
  · exact ⟨none, 0, by rw [h0], .inl h0⟩
  · refine ⟨_, _, rfl, .inr ⟨g, 0, rfl, hB, (Array.getElem?_eq_some_iff.1 hg).1, fun i x hi => ?_⟩⟩
    have hlt := (List.getElem?_eq_some_iff.1 hi).1
    have h2 : (tsC ts)[i]? = some (.string x) := by simp [tsC, hi]
    rw [← hx, List.getElem?_take_of_lt (by omega)] at h2
    simp only [Array.getElem?_toList] at h2
    simp only [World.cell?, hg]; simpa using h2
theorem runs_of {w : World} {B : Nat} {v : Value} {rs : List (Int × Int)} (h : w.ownsRow B 36 2 v rs.length (rsC rs)) : RR (fun b => B ≤ b) w v rs := by
  rcases h.2 with ⟨rfl, h0⟩ | ⟨g, cap, cur, rfl, hB, hg, _, _, hsz, hx⟩
  · exact ⟨none, 0, by rw [h0], .inl h0⟩
  · refine ⟨_, _, rfl, .inr ⟨g, 0, rfl, hB, (Array.getElem?_eq_some_iff.1 hg).1, fun i x hi => ?_⟩⟩
    have hlt := (List.getElem?_eq_some_iff.1 hi).1
    have h2 := rsC_get rs i x hi
    rw [← hx, List.getElem?_take_of_lt (by omega), List.getElem?_take_of_lt (by omega)] at h2
    simp only [Array.getElem?_toList] at h2
    constructor
    · simp only [World.cell?, hg]; simpa using h2.1
    · simp only [World.cell?, hg]; simpa using h2.2
theorem own_le {w : World} {B e sz n m c : Nat} {a : Option Addr} {xs : List Value} (h : w.ownsRow B e sz (.slice a m c) n xs) : m ≤ c := by
  rcases h.2 with ⟨e, h1⟩ | ⟨g, cap, cur, e, _, _, h2, _⟩
  · cases e; omega
  · cases e; exact h2
theorem addAt (b off j : Nat) : (⟨b, off, none⟩ : Addr).add j = ⟨b, off + j, none⟩ := by unfold Addr.add; split <;> simp_all
/-- append(none, texts...) -/
theorem append_texts {ops : Array Oper} {rest : List Oper} {o : Oper} {a : Act} {Q : Exit → Act → World → Prop} {w : World} {xv : Value} {ts : List ByteArray} {S : Nat → Prop} (hgd : o.guard = none) (s x : Operand)
    (ho : o.op = .call { callee := .builtin .append, args := #[s, x], argTypes := #[24, 24] }) (hs : a.eval s = .slice none 0 0) (hx : a.eval x = xv)
    (hr : RS S w xv ts) (hlim : ts.length ≤ 2147483647)
    (h : ∀ a' c' w', RS (fun b => w.heap.size ≤ b) w' (.slice a' ts.length c') ts → Below w.heap.size w w' → Hid (ts.length ≤ c') → wpList Tryz.prog ops Q rest (a.put o.dst (.slice a' ts.length c')) w') : wpList Tryz.prog ops Q (o :: rest) a w := by
  obtain ⟨i0, hi, hz0, hz1, hz2⟩ := info_parts info9
  obtain ⟨ad, c, rfl, hr⟩ := hr
  have fin : ∀ v' w', w'.ownsRow w.heap.size 9 1 v' ts.length (tsC ts) → w.grownBy w' (Value.slice none 0 0).ownBlock → wpList Tryz.prog ops Q rest (a.put o.dst v') w' := fun v' w' h1 h2 => by
    obtain ⟨a', c', rfl⟩ := ownForm h1
    exact h a' c' w' (texts_of h1) ((Below.refl _ w).grown h2 (Nat.le_refl _) (fun k hk => by simp [Value.ownBlock] at hk)) (own_le h1)
  rcases hr with h0 | ⟨b, off, rfl, _, _, hc⟩
  · obtain rfl : ts = [] := List.length_eq_zero_iff.1 h0
    cases ad with
    | none =>
      refine wpList_plain hgd fun K hK => ?_
      have hrun : (Builtin.append_ #[24, 24] o.type #[.slice none 0 0, .slice none 0 c]).run Tryz.prog w = .ok (.slice none 0 0) w := by
        simp [Builtin.append_, run_underlying Tryz.underlying24, sizeOf, typeInfo, hi, Builtin.lenOf, Builtin.firstCells]
      simp only [List.length_nil] at hx
      unfold Oper.wp
      simp [execOp, ho, resolve, invoke, builtin, hs, hx, hrun, Result.andThen]
      exact hK _ _ (h none 0 w ⟨none, 0, rfl, .inl rfl⟩ (Below.refl _ _) (Nat.le_refl 0))
    | some ad =>
      refine wpList_append_own w hgd s x 24 ho w.heap.size 9 i0 _ 1 16 Tryz.underlying24 hi hz0 hz1 hz2 rfl (by omega) (.slice none 0 0) 0 [] hs (World.ownsRow_nil _ _ _ _) ad 0 c [] hx (by simp) (fun j u hu => by simp at hu) (fun u hu => by cases hu) (by unfold maxLen; omega) (by omega) (Nat.le_refl _) (fun v' w' h1 h2 _ => ?_)
      exact fin v' w' (by simpa [tsC] using h1) h2
  · refine wpList_append_own w hgd s x 24 ho w.heap.size 9 i0 _ 1 16 Tryz.underlying24 hi hz0 hz1 hz2 rfl (by omega) (.slice none 0 0) 0 [] hs (World.ownsRow_nil _ _ _ _) ⟨b, off, none⟩ ts.length c (tsC ts) hx (by simp [tsC]) (fun j u hu => ?_) (fun u hu => ?_) (by unfold maxLen; omega) (by omega) (Nat.le_refl _) (fun v' w' h1 h2 _ => fin v' w' (by simpa using h1) h2)
    · simp only [tsC, List.getElem?_map, Option.map_eq_some_iff] at hu
      obtain ⟨x, hx, rfl⟩ := hu
      rw [addAt]; exact hc j x hx
    · simp only [tsC, List.mem_map] at hu
      obtain ⟨x, _, rfl⟩ := hu
      rfl
/-- append(none, runs...) -/
theorem append_runs {ops : Array Oper} {rest : List Oper} {o : Oper} {a : Act} {Q : Exit → Act → World → Prop} {w : World} {xv : Value} {rs : List (Int × Int)} {S : Nat → Prop} (hgd : o.guard = none) (s x : Operand)
    (ho : o.op = .call { callee := .builtin .append, args := #[s, x], argTypes := #[25, 25] }) (hs : a.eval s = .slice none 0 0) (hx : a.eval x = xv)
    (hr : RR S w xv rs) (hlim : rs.length ≤ 2147483647)
    (h : ∀ a' c' w', RR (fun b => w.heap.size ≤ b) w' (.slice a' rs.length c') rs → Below w.heap.size w w' → wpList Tryz.prog ops Q rest (a.put o.dst (.slice a' rs.length c')) w') : wpList Tryz.prog ops Q (o :: rest) a w := by
  obtain ⟨i0, hi, hz0, hz1, hz2⟩ := info_parts infoRng
  obtain ⟨ad, c, rfl, hr⟩ := hr
  have fin : ∀ v' w', w'.ownsRow w.heap.size 36 2 v' rs.length (rsC rs) → w.grownBy w' (Value.slice none 0 0).ownBlock → wpList Tryz.prog ops Q rest (a.put o.dst v') w' := fun v' w' h1 h2 => by
    obtain ⟨a', c', rfl⟩ := ownForm h1
    exact h a' c' w' (runs_of h1) ((Below.refl _ w).grown h2 (Nat.le_refl _) (fun k hk => by simp [Value.ownBlock] at hk))
  rcases hr with h0 | ⟨b, off, rfl, _, _, hc⟩
  · obtain rfl : rs = [] := List.length_eq_zero_iff.1 h0
    cases ad with
    | none =>
      refine wpList_plain hgd fun K hK => ?_
      have hrun : (Builtin.append_ #[25, 25] o.type #[.slice none 0 0, .slice none 0 c]).run Tryz.prog w = .ok (.slice none 0 0) w := by
        simp [Builtin.append_, run_underlying Tryz.underlying25, sizeOf, typeInfo, hi, Builtin.lenOf, Builtin.firstCells]
      simp only [List.length_nil] at hx
      unfold Oper.wp
      simp [execOp, ho, resolve, invoke, builtin, hs, hx, hrun, Result.andThen]
      exact hK _ _ (h none 0 w ⟨none, 0, rfl, .inl rfl⟩ (Below.refl _ _))
    | some ad =>
      refine wpList_append_own w hgd s x 25 ho w.heap.size 36 i0 _ 2 16 Tryz.underlying25 hi hz0 hz1 hz2 rfl (by omega) (.slice none 0 0) 0 [] hs (World.ownsRow_nil _ _ _ _) ad 0 c [] hx (by simp) (fun j u hu => by simp at hu) (fun u hu => by cases hu) (by unfold maxLen; omega) (by omega) (Nat.le_refl _) (fun v' w' h1 h2 _ => ?_)
      exact fin v' w' (by simpa [rsC] using h1) h2
  · refine wpList_append_own w hgd s x 25 ho w.heap.size 36 i0 _ 2 16 Tryz.underlying25 hi hz0 hz1 hz2 rfl (by omega) (.slice none 0 0) 0 [] hs (World.ownsRow_nil _ _ _ _) ⟨b, off, none⟩ rs.length c (rsC rs) hx (rsC_len rs) (fun j u hu => ?_) (fun u hu => ?_) (by unfold maxLen; omega) (by omega) (Nat.le_refl _) (fun v' w' h1 h2 _ => fin v' w' (by simpa using h1) h2)
    · have hj := (List.getElem?_eq_some_iff.1 hu).1
      rw [rsC_len] at hj
      obtain ⟨x, hx⟩ : ∃ x, rs[j / 2]? = some x := ⟨_, List.getElem?_eq_getElem (by omega)⟩
      have h1 := hc _ x hx
      have h2 := rsC_get rs _ x hx
      rw [addAt]
      rcases Nat.mod_two_eq_zero_or_one j with e | e
      · have e' : j / 2 * 2 = j := by omega
        rw [e'] at h1 h2
        rw [h1.1, ← h2.1]; exact hu
      · have e' : j / 2 * 2 + 1 = j := by omega
        rw [Nat.add_assoc, e'] at h1
        rw [e'] at h2
        rw [h1.2, ← h2.2]; exact hu
    · simp only [rsC, List.mem_flatMap] at hu
      obtain ⟨x, _, hx⟩ := hu
      simp at hx
      rcases hx with rfl | rfl <;> rfl
end Go.Proofs.YtnpcbcfjnhjmmaaGreatDoor
namespace Go.Proofs.YtnpcbcfjnhjmmaaGreatDoor
open Go.RowKit Go.Deep
theorem zlk : (#[.int .u8 0, .int .u8 0, .int .u8 0, .int .u8 0, .int .u8 0, .int .u8 0, .int .u8 0, .int .u8 0, .int .u8 0, .int .u8 0, .int .u8 0, .int .u8 0, .int .u8 0, .int .u8 0, .int .u8 0, .int .u8 0, .int .u8 0, .int .u8 0, .int .u8 0, .int .u8 0, .int .u8 0, .int .u8 0, .int .u8 0, .int .u8 0, .int .u8 0, .int .u8 0, .int .u8 0, .int .u8 0, .int .u8 0, .int .u8 0, .int .u8 0, .int .u8 0, .string { data := #[] }, .slice .none 0 0, .slice .none 0 0, .slice .none 0 0, .slice .none 0 0] : Array Value) = lkC (List.replicate 32 (0 : UInt8)) ⟨#[]⟩ (.slice none 0 0) (.slice none 0 0) (.slice none 0 0) (.slice none 0 0) := rfl
theorem lkC_set {l : List UInt8} (hl : l.length = 32) (nm : ByteArray) (tr pe on mo v : Value) :
    (lkC l nm tr pe on mo).setIfInBounds 33 v = lkC l nm v pe on mo ∧ (lkC l nm tr pe on mo).setIfInBounds 34 v = lkC l nm tr v on mo ∧ (lkC l nm tr pe on mo).setIfInBounds 35 v = lkC l nm tr pe v mo := by
  obtain ⟨x0, x1, x2, x3, x4, x5, x6, x7, x8, x9, x10, x11, x12, x13, x14, x15, x16, x17, x18, x19, x20, x21, x22, x23, x24, x25, x26, x27, x28, x29, x30, x31, rfl⟩ := len32 hl
  exact ⟨rfl, rfl, rfl⟩
theorem setAt {w : World} {b : Nat} {cs : Array Value} {ty : TypeId} (h : w.heap[b]? = some (.cells cs ty (0, 0))) (i : Nat) (u : Value) : (w.setCell ⟨b, i, none⟩ u).heap[b]? = some (.cells (cs.setIfInBounds i u) ty (0, 0)) := by
  rw [setCell_eq_setRow w b i _ _ _ _ h, setRow_heap w b _ _ _ _ h]
theorem lkC_one {l : List UInt8} {nm : ByteArray} {a1 a2 a3 a4 : Option Addr} {n1 n2 n3 n4 c1 c2 c3 c4 : Nat} : (lkC l nm (.slice a1 n1 c1) (.slice a2 n2 c2) (.slice a3 n3 c3) (.slice a4 n4 c4)).all (·.oneCell') = true := by
  unfold lkC
  rw [List.all_toArray, List.all_eq_true]
  intro u hu
  rcases List.mem_append.1 hu with h | h
  · simp only [Lib.byteCells, List.mem_map] at h
    obtain ⟨x, _, rfl⟩ := h
    rfl
  · simp at h
    rcases h with rfl | rfl | rfl | rfl | rfl <;> rfl
theorem infoLk {l : List UInt8} {nm : ByteArray} {tr pe on mo : Value} (hl : l.length = 32) : (Tryz.prog.info? 28).map (·.size) = some (lkC l nm tr pe on mo).size := by
  rw [lkC_size hl]; kernel_rfl
theorem infoHs {l : List UInt8} (hl : l.length = 32) : (Tryz.prog.info? 23).map (·.size) = some (Lib.byteCells l).length := by
  rw [bcl, hl]; kernel_rfl
/-- what stands while a link's twin is made: da is the new link's block -/
def CK (H da : Nat) (w wr : World) (k : Lk) (tr pe on mo t2 p2 o2 m2 : Value) : Prop :=
  Below H w wr ∧ LB wr H k.l k.nm tr pe on mo ∧ LB wr (H + 1) (List.replicate 32 (0 : UInt8)) ⟨#[]⟩ (.slice none 0 0) (.slice none 0 0) (.slice none 0 0) (.slice none 0 0) ∧ LB wr da k.l k.nm t2 p2 o2 m2 ∧ H + 2 ≤ da
def SN (H da : Nat) : Nat → Prop := fun b => H + 2 ≤ b ∧ b ≠ da
theorem ck_step {H da : Nat} {w wr u : World} {k : Lk} {tr pe on mo t2 p2 o2 m2 t3 p3 o3 v : Value} {i : Nat} (h : CK H da w wr k tr pe on mo t2 p2 o2 m2) (hS : w.heap.size = H) (hb : Below wr.heap.size wr u) (hi : (lkC k.l k.nm t2 p2 o2 m2).setIfInBounds i v = lkC k.l k.nm t3 p3 o3 m2) :
    CK H da w (u.setCell ⟨da, i, none⟩ v) k tr pe on mo t3 p3 o3 m2 := by
  obtain ⟨h1, h2, h3, h4, h5⟩ := h
  have hs := h1.size
  refine ⟨(h1.trans (hb.mono (by omega))).setCell (by show H ≤ da; omega) _, ?_, ?_, ?_, h5⟩
  · exact (h2.keep (hb.block _ h2.lt)).keep (Below.heap_setCell _ _ _ _ (by show H ≠ da; omega))
  · exact (h3.keep (hb.block _ h3.lt)).keep (Below.heap_setCell _ _ _ _ (by show H + 1 ≠ da; omega))
  · have := setAt (h4.keep (hb.block _ h4.lt)) i v
    rw [hi] at this
    exact this
theorem sn_step {H da : Nat} {wr u : World} {i : Nat} {v : Value} (hb : Below wr.heap.size wr u) : wr.heap.size ≤ (u.setCell ⟨da, i, none⟩ v).heap.size ∧ ∀ b, SN H da b → b < wr.heap.size → (u.setCell ⟨da, i, none⟩ v).heap[b]? = wr.heap[b]? := by
  refine ⟨by have := hb.size; simp [World.setCell]; exact this, fun b h hl => ?_⟩
  exact (Below.heap_setCell _ _ _ _ (by show b ≠ da; exact h.2)).trans (hb.block b hl)
theorem sn_new {H da : Nat} {w wr u : World} {k : Lk} {tr pe on mo t2 p2 o2 m2 v : Value} {i : Nat} (h : CK H da w wr k tr pe on mo t2 p2 o2 m2) : (∀ b, wr.heap.size ≤ b → b < u.heap.size → SN H da b) ∧ u.heap.size ≤ (u.setCell ⟨da, i, none⟩ v).heap.size ∧ ∀ b, wr.heap.size ≤ b → b < u.heap.size → (u.setCell ⟨da, i, none⟩ v).heap[b]? = u.heap[b]? := by
  have hd := h.2.2.2.1.lt
  have h5 := h.2.2.2.2
  refine ⟨fun b hb _ => ⟨by omega, by omega⟩, by simp [World.setCell], fun b hb _ => Below.heap_setCell _ _ _ _ (by show b ≠ da; omega)⟩
theorem sn_newS {H da : Nat} {w wr u : World} {k : Lk} {tr pe on mo t2 p2 o2 m2 : Value} (h : CK H da w wr k tr pe on mo t2 p2 o2 m2) : ∀ b, wr.heap.size ≤ b → b < u.heap.size → SN H da b := by
  have hd := h.2.2.2.1.lt
  have h5 := h.2.2.2.2
  exact fun b hb _ => ⟨by omega, by omega⟩
theorem tk_facts {H da : Nat} {w w0 wa : World} {k : Lk} {tr pe on mo m2 : Value} (hB : Below H w w0) (hS : w.heap.size = H) (ho : LB w0 H k.l k.nm tr pe on mo) (hz : LB w0 (H + 1) (List.replicate 32 (0 : UInt8)) ⟨#[]⟩ (.slice none 0 0) (.slice none 0 0) (.slice none 0 0) (.slice none 0 0))
    (hb : Below w0.heap.size w0 wa) (hd : LB wa da (List.replicate 32 (0 : UInt8)) ⟨#[]⟩ (.slice none 0 0) (.slice none 0 0) (.slice none 0 0) (.slice none 0 0)) (hda : w0.heap.size ≤ da) (hr : RD (fun b => w0.heap.size ≤ b ∧ b ≠ da) wa k.dn k.ky k.dv m2) :
    CK H da w (wa.setRow da (lkC k.l k.nm (.slice none 0 0) (.slice none 0 0) (.slice none 0 0) m2)) k tr pe on mo (.slice none 0 0) (.slice none 0 0) (.slice none 0 0) m2 ∧ RD (SN H da) (wa.setRow da (lkC k.l k.nm (.slice none 0 0) (.slice none 0 0) (.slice none 0 0) m2)) k.dn k.ky k.dv m2 := by
  have h1 := hz.lt
  have hs := hb.size
  have h0 := hB.size
  refine ⟨⟨?_, ?_, ?_, ?_, by omega⟩, ?_⟩
  · refine ⟨hb.os.trans hB.os, hb.tape.trans hB.tape, hb.output.trans hB.output, by rw [size_setRow]; omega, fun q hq => ?_⟩
    rw [setRow_other _ _ _ _ (by omega), hb.block q (by omega), hB.block q hq]
  · exact (ho.keep (hb.block _ (by omega))).keep (setRow_other _ _ _ _ (by omega))
  · exact (hz.keep (hb.block _ (by omega))).keep (setRow_other _ _ _ _ (by omega))
  · exact setRow_heap wa da _ _ _ _ hd
  · exact RD.move (fun b h _ => ⟨by omega, h.2⟩) (by rw [size_setRow]; exact Nat.le_refl _) (fun b h hl => setRow_other _ _ _ _ h.2) hr
theorem belowHeap {w w' : World} (h : Below w.heap.size w w') (b : Nat) (hb : b < w.heap.size) : w'.heap[b]? = w.heap[b]? := h.block b hb
set_option maxHeartbeats 4000000 in
set_option maxRecDepth 100000 in
theorem linkTwin (k : Lk) (tr pe on mo : Value) (w : World) (hk : k.ok) (hsm : k.small) (hr : RL4 (fun _ => True) w k tr pe on mo) :
    Calls Tryz.prog 7 #[.agg (lkC k.l k.nm tr pe on mo)] w fun e w' => ∃ t2 p2 o2 m2, e = .returned (.agg (lkC k.l k.nm t2 p2 o2 m2)) ∧ RL4 (fun b => w.heap.size ≤ b) w' k t2 p2 o2 m2 ∧ Below w.heap.size w w' ∧ (∀ a n c, t2 = .slice a n c → n ≤ c) ∧ (∀ a n c, p2 = .slice a n c → n ≤ c) := by
  obtain ⟨ta, tc, rfl⟩ : ∃ a c, tr = .slice a k.ts.length c := by obtain ⟨p, q, e, _⟩ := hr.1; exact ⟨p, q, e⟩
  obtain ⟨pa, pc, rfl⟩ : ∃ a c, pe = .slice a k.ps.length c := by obtain ⟨p, q, e, _⟩ := hr.2.1; exact ⟨p, q, e⟩
  obtain ⟨oa, oc, rfl⟩ : ∃ a c, on = .slice a k.rs.length c := by obtain ⟨p, q, e, _⟩ := hr.2.2.1; exact ⟨p, q, e⟩
  obtain ⟨ma, mc, rfl⟩ : ∃ a c, mo = .slice a k.dn c := by obtain ⟨p, q, e, _⟩ := hr.2.2.2; exact ⟨p, q, e⟩
  obtain ⟨tr, htr⟩ : ∃ v, v = Value.slice ta k.ts.length tc := ⟨_, rfl⟩
  obtain ⟨pe, hpe⟩ : ∃ v, v = Value.slice pa k.ps.length pc := ⟨_, rfl⟩
  obtain ⟨on, hon⟩ : ∃ v, v = Value.slice oa k.rs.length oc := ⟨_, rfl⟩
  rw [← htr, ← hpe, ← hon] at hr ⊢
  obtain ⟨mo, hmo⟩ : ∃ v, v = Value.slice ma k.dn mc := ⟨_, rfl⟩
  rw [← hmo] at hr ⊢
  clear htr hpe hon hmo ta tc pa pc oa oc ma mc
  have hl := hk.l
  have HPT : Hid (∀ w', Below w.heap.size w w' → Calls Tryz.prog 24 #[mo] w' fun e w'' => ∃ y', e = .returned y' ∧ RD (fun b => w'.heap.size ≤ b) w'' k.dn k.ky k.dv y' ∧ Below w'.heap.size w' w'') := fun w' hb => pairsTwin k.dn k.ky k.dv (fun i _ => valueTwin (k.dv i)) _ w' hsm.dn.1 (fun i hi => ⟨(hk.dn.2 i hi).2, hsm.dn.2 i hi⟩) (RD.move (fun _ _ _ => trivial) hb.size (fun b _ hl => hb.block b hl) hr.2.2.2)
  have HR : Hid (∀ w', Below w.heap.size w w' → RL4 (fun _ => True) w' k tr pe on mo) := fun w' hb => hr.move (fun _ h _ => h) hb.size (fun b _ hl => hb.block b hl)
  have HSM : Hid k.small := hsm
  have B0 : Hid (Below w.heap.size w ((w.alloc (Obj.cells (lkC k.l k.nm tr pe on mo) 28)).alloc (Obj.cells #[.int .u8 0, .int .u8 0, .int .u8 0, .int .u8 0, .int .u8 0, .int .u8 0, .int .u8 0, .int .u8 0, .int .u8 0, .int .u8 0, .int .u8 0, .int .u8 0, .int .u8 0, .int .u8 0, .int .u8 0, .int .u8 0, .int .u8 0, .int .u8 0, .int .u8 0, .int .u8 0, .int .u8 0, .int .u8 0, .int .u8 0, .int .u8 0, .int .u8 0, .int .u8 0, .int .u8 0, .int .u8 0, .int .u8 0, .int .u8 0, .int .u8 0, .int .u8 0, .string { data := #[] }, .slice .none 0 0, .slice .none 0 0, .slice .none 0 0, .slice .none 0 0] 28))) := ((Below.refl _ _).alloc (Nat.le_refl _) _).alloc (by simp) _
  have O0 : Hid (LB ((w.alloc (Obj.cells (lkC k.l k.nm tr pe on mo) 28)).alloc (Obj.cells #[.int .u8 0, .int .u8 0, .int .u8 0, .int .u8 0, .int .u8 0, .int .u8 0, .int .u8 0, .int .u8 0, .int .u8 0, .int .u8 0, .int .u8 0, .int .u8 0, .int .u8 0, .int .u8 0, .int .u8 0, .int .u8 0, .int .u8 0, .int .u8 0, .int .u8 0, .int .u8 0, .int .u8 0, .int .u8 0, .int .u8 0, .int .u8 0, .int .u8 0, .int .u8 0, .int .u8 0, .int .u8 0, .int .u8 0, .int .u8 0, .int .u8 0, .int .u8 0, .string { data := #[] }, .slice .none 0 0, .slice .none 0 0, .slice .none 0 0, .slice .none 0 0] 28)) w.heap.size k.l k.nm tr pe on mo) := (Below.heap_alloc _ _ _ (by simp)).trans (heap_new _ _)
  have Z0 : Hid (LB ((w.alloc (Obj.cells (lkC k.l k.nm tr pe on mo) 28)).alloc (Obj.cells #[.int .u8 0, .int .u8 0, .int .u8 0, .int .u8 0, .int .u8 0, .int .u8 0, .int .u8 0, .int .u8 0, .int .u8 0, .int .u8 0, .int .u8 0, .int .u8 0, .int .u8 0, .int .u8 0, .int .u8 0, .int .u8 0, .int .u8 0, .int .u8 0, .int .u8 0, .int .u8 0, .int .u8 0, .int .u8 0, .int .u8 0, .int .u8 0, .int .u8 0, .int .u8 0, .int .u8 0, .int .u8 0, .int .u8 0, .int .u8 0, .int .u8 0, .int .u8 0, .string { data := #[] }, .slice .none 0 0, .slice .none 0 0, .slice .none 0 0, .slice .none 0 0] 28)) (w.heap.size + 1) (List.replicate 32 (0 : UInt8)) ⟨#[]⟩ (.slice none 0 0) (.slice none 0 0) (.slice none 0 0) (.slice none 0 0)) := by
    have h9 := heap_new (w.alloc (Obj.cells (lkC k.l k.nm tr pe on mo) 28)) (Obj.cells #[.int .u8 0, .int .u8 0, .int .u8 0, .int .u8 0, .int .u8 0, .int .u8 0, .int .u8 0, .int .u8 0, .int .u8 0, .int .u8 0, .int .u8 0, .int .u8 0, .int .u8 0, .int .u8 0, .int .u8 0, .int .u8 0, .int .u8 0, .int .u8 0, .int .u8 0, .int .u8 0, .int .u8 0, .int .u8 0, .int .u8 0, .int .u8 0, .int .u8 0, .int .u8 0, .int .u8 0, .int .u8 0, .int .u8 0, .int .u8 0, .int .u8 0, .int .u8 0, .string { data := #[] }, .slice .none 0 0, .slice .none 0 0, .slice .none 0 0, .slice .none 0 0] 28)
    have e9 : (w.alloc (Obj.cells (lkC k.l k.nm tr pe on mo) 28)).heap.size = w.heap.size + 1 := by simp
    rw [e9] at h9
    have h8 : LB ((w.alloc (Obj.cells (lkC k.l k.nm tr pe on mo) 28)).alloc (Obj.cells #[.int .u8 0, .int .u8 0, .int .u8 0, .int .u8 0, .int .u8 0, .int .u8 0, .int .u8 0, .int .u8 0, .int .u8 0, .int .u8 0, .int .u8 0, .int .u8 0, .int .u8 0, .int .u8 0, .int .u8 0, .int .u8 0, .int .u8 0, .int .u8 0, .int .u8 0, .int .u8 0, .int .u8 0, .int .u8 0, .int .u8 0, .int .u8 0, .int .u8 0, .int .u8 0, .int .u8 0, .int .u8 0, .int .u8 0, .int .u8 0, .int .u8 0, .int .u8 0, .string { data := #[] }, .slice .none 0 0, .slice .none 0 0, .slice .none 0 0, .slice .none 0 0] 28)) (w.heap.size + 1) (List.replicate 32 (0 : UInt8)) ⟨#[]⟩ (.slice none 0 0) (.slice none 0 0) (.slice none 0 0) (.slice none 0 0) := h9
    exact h8
  clear hr hk hsm
  go_enter Tryz.func7, Tryz.ntmps7
  go_upto_region 1 with fail
  generalize ((w.alloc (Obj.cells (lkC k.l k.nm tr pe on mo) 28)).alloc (Obj.cells #[.int .u8 0, .int .u8 0, .int .u8 0, .int .u8 0, .int .u8 0, .int .u8 0, .int .u8 0, .int .u8 0, .int .u8 0, .int .u8 0, .int .u8 0, .int .u8 0, .int .u8 0, .int .u8 0, .int .u8 0, .int .u8 0, .int .u8 0, .int .u8 0, .int .u8 0, .int .u8 0, .int .u8 0, .int .u8 0, .int .u8 0, .int .u8 0, .int .u8 0, .int .u8 0, .int .u8 0, .int .u8 0, .int .u8 0, .int .u8 0, .int .u8 0, .int .u8 0, .string { data := #[] }, .slice .none 0 0, .slice .none 0 0, .slice .none 0 0, .slice .none 0 0] 28)) = w0 at *
  generalize hvb : w.heap.size = H at *
  have HS : Hid (w.heap.size = H) := hvb
  clear hvb
  have HK : Hid (∀ x, Below w0.heap.size w0 x → x.rangeAt H 0 (Lib.byteCells k.l) ∧ x.cell? ⟨H, 32, none⟩ = some (.string k.nm) ∧ x.cell? ⟨H, 36, none⟩ = some mo) := fun x hx => by
    have h9 := O0.out.keep (hx.block H O0.out.lt)
    obtain ⟨h0, _, _, _, h4⟩ := h9.cells hl
    exact ⟨h9.range, h0, h4⟩
  refine wp_region_held_drew (S := fun x => x.rangeAt H 0 (Lib.byteCells k.l) ∧ x.cell? ⟨H, 32, none⟩ = some (.string k.nm) ∧ x.cell? ⟨H, 36, none⟩ = some mo) (by kernel_rfl) (HK.out _ (belowDrew1 w0)) (fun hHeld => ?_)
  refine wpAnyH_take (i := 0) (v := .pointer (some ⟨H, 0, none⟩)) rfl (by kernel_rfl) (by kernel_rfl) (by kernel_rfl) (fun _ _ _ h => h) (Or.inl ⟨by rfl, fun w hw => by go_simp⟩) hHeld ?_
  simp only [Act.put, List.getElem_toArray, List.getElem_cons_zero, List.setIfInBounds_toArray, List.set_cons_zero, List.set_cons_succ]
  refine wpAnyH_take (i := 1) (v := .agg (Lib.byteCells k.l).toArray) rfl (by kernel_rfl) (by kernel_rfl) (by kernel_rfl) (fun _ _ _ h => h) (yieldsIf_load_mid (by rfl) 23 (.tmp 4) rfl H 0 rfl (Lib.byteCells k.l) _ (fun w hw => hw.1) Tryz.underlying23 rfl (infoHs hl)) hHeld ?_
  simp only [Act.put, List.getElem_toArray, List.getElem_cons_zero, List.getElem_cons_succ, List.setIfInBounds_toArray, List.set_cons_zero, List.set_cons_succ]
  refine wpAnyH_take (i := 2) (v := .pointer (some ⟨H, 32, none⟩)) rfl (by kernel_rfl) (by kernel_rfl) (by kernel_rfl) (fun _ _ _ h => h) (Or.inl ⟨by rfl, fun w hw => by go_simp⟩) hHeld ?_
  simp only [Act.put, List.getElem_toArray, List.getElem_cons_zero, List.getElem_cons_succ, List.setIfInBounds_toArray, List.set_cons_zero, List.set_cons_succ]
  refine wpAnyH_take (i := 3) (v := .string k.nm) rfl (by kernel_rfl) (by kernel_rfl) (by kernel_rfl) (fun _ _ _ h => h) (Or.inl ⟨by rfl, fun w hw => by obtain ⟨s0, s32, s36⟩ := hw; go_simp⟩) hHeld ?_
  simp only [Act.put, List.getElem_toArray, List.getElem_cons_zero, List.getElem_cons_succ, List.setIfInBounds_toArray, List.set_cons_zero, List.set_cons_succ]
  refine wpAnyH_take (i := 4) (v := .pointer (some ⟨H, 36, none⟩)) rfl (by kernel_rfl) (by kernel_rfl) (by kernel_rfl) (fun _ _ _ h => h) (Or.inl ⟨by rfl, fun w hw => by go_simp⟩) hHeld ?_
  simp only [Act.put, List.getElem_toArray, List.getElem_cons_zero, List.getElem_cons_succ, List.setIfInBounds_toArray, List.set_cons_zero, List.set_cons_succ]
  refine wpAnyH_take (i := 5) (v := mo) rfl (by kernel_rfl) (by kernel_rfl) (by kernel_rfl) (fun _ _ _ h => h) (Or.inl ⟨by rfl, fun w hw => by obtain ⟨s0, s32, s36⟩ := hw; go_simp⟩) hHeld ?_
  simp only [Act.put, List.getElem_toArray, List.getElem_cons_zero, List.getElem_cons_succ, List.setIfInBounds_toArray, List.set_cons_zero, List.set_cons_succ]
  refine wpAnyH_ready (rs := [6, 8]) (by kernel_rfl) (by simp) ?_
  refine AllReadyH.cons (o := _) rfl (fun K hK => ?_) (AllReadyH.cons (o := _) rfl (fun K hK => ?_) AllReadyH.nil)
  · go_simp
    refine (HPT.out w0.drew (B0.out.trans ((belowDrew1 w0).mono (by have := O0.out.lt; omega)))).mono ?_
    rintro e u ⟨y', rfl, hrd, b⟩
    obtain ⟨ya, yc, rfl⟩ : ∃ ya yc, y' = .slice ya k.dn yc := by obtain ⟨p, q, e, _⟩ := hrd; exact ⟨p, q, e⟩
    have BU : Hid (Below w0.heap.size w0 u) := (belowDrew1 w0).trans b
    have RDY0 : Hid (RD (fun b => w0.heap.size ≤ b) u k.dn k.ky k.dv (.slice ya k.dn yc)) := hrd
    clear hrd b
    have hS := HK.out u BU.out
    go_wp2_with fail
    refine hK.out _ _ hS (fun hHeld => ?_)
    clear hK K hS
    refine wpAnyH_take (i := 7) (v := .agg (lkC k.l k.nm (.slice none 0 0) (.slice none 0 0) (.slice none 0 0) (.slice ya k.dn yc))) rfl (by kernel_rfl) (by kernel_rfl) (by kernel_rfl) (fun _ _ _ h => h) (yields_link (by rfl) _ _ _ rfl hl k.nm ya k.dn yc rfl rfl rfl) hHeld ?_
    simp only [Act.put, List.getElem_toArray, List.getElem_cons_zero, List.getElem_cons_succ, List.setIfInBounds_toArray, List.set_cons_zero, List.set_cons_succ]
    refine wpAnyH_ready (rs := [8]) (by kernel_rfl) (by simp) ?_
    refine AllReadyH.cons (o := _) rfl (fun K hK => ?_) AllReadyH.nil
    go_simp
    have BA : Hid (Below w0.heap.size w0 (u.alloc (Obj.cells #[.int .u8 0, .int .u8 0, .int .u8 0, .int .u8 0, .int .u8 0, .int .u8 0, .int .u8 0, .int .u8 0, .int .u8 0, .int .u8 0, .int .u8 0, .int .u8 0, .int .u8 0, .int .u8 0, .int .u8 0, .int .u8 0, .int .u8 0, .int .u8 0, .int .u8 0, .int .u8 0, .int .u8 0, .int .u8 0, .int .u8 0, .int .u8 0, .int .u8 0, .int .u8 0, .int .u8 0, .int .u8 0, .int .u8 0, .int .u8 0, .int .u8 0, .int .u8 0, .string { data := #[] }, .slice .none 0 0, .slice .none 0 0, .slice .none 0 0, .slice .none 0 0] 28))) := BU.out.alloc BU.out.size _
    have AD : Hid (LB (u.alloc (Obj.cells #[.int .u8 0, .int .u8 0, .int .u8 0, .int .u8 0, .int .u8 0, .int .u8 0, .int .u8 0, .int .u8 0, .int .u8 0, .int .u8 0, .int .u8 0, .int .u8 0, .int .u8 0, .int .u8 0, .int .u8 0, .int .u8 0, .int .u8 0, .int .u8 0, .int .u8 0, .int .u8 0, .int .u8 0, .int .u8 0, .int .u8 0, .int .u8 0, .int .u8 0, .int .u8 0, .int .u8 0, .int .u8 0, .int .u8 0, .int .u8 0, .int .u8 0, .int .u8 0, .string { data := #[] }, .slice .none 0 0, .slice .none 0 0, .slice .none 0 0, .slice .none 0 0] 28)) u.heap.size (List.replicate 32 (0 : UInt8)) ⟨#[]⟩ (.slice none 0 0) (.slice none 0 0) (.slice none 0 0) (.slice none 0 0)) := heap_new _ _
    have HDA : Hid (w0.heap.size ≤ u.heap.size) := BU.out.size
    have RDY : Hid (RD (fun b => w0.heap.size ≤ b ∧ b ≠ u.heap.size) (u.alloc (Obj.cells #[.int .u8 0, .int .u8 0, .int .u8 0, .int .u8 0, .int .u8 0, .int .u8 0, .int .u8 0, .int .u8 0, .int .u8 0, .int .u8 0, .int .u8 0, .int .u8 0, .int .u8 0, .int .u8 0, .int .u8 0, .int .u8 0, .int .u8 0, .int .u8 0, .int .u8 0, .int .u8 0, .int .u8 0, .int .u8 0, .int .u8 0, .int .u8 0, .int .u8 0, .int .u8 0, .int .u8 0, .int .u8 0, .int .u8 0, .int .u8 0, .int .u8 0, .int .u8 0, .string { data := #[] }, .slice .none 0 0, .slice .none 0 0, .slice .none 0 0, .slice .none 0 0] 28)) k.dn k.ky k.dv (.slice ya k.dn yc)) := RD.move (fun b h hl => ⟨h, by omega⟩) (by simp) (fun b _ hl => Below.heap_alloc _ _ _ hl) RDY0.out
    have hS := HK.out _ BA.out
    refine hK.out _ _ hS (fun hHeld => ?_)
    clear hK K hS RDY0 BU
    generalize u.alloc (Obj.cells #[.int .u8 0, .int .u8 0, .int .u8 0, .int .u8 0, .int .u8 0, .int .u8 0, .int .u8 0, .int .u8 0, .int .u8 0, .int .u8 0, .int .u8 0, .int .u8 0, .int .u8 0, .int .u8 0, .int .u8 0, .int .u8 0, .int .u8 0, .int .u8 0, .int .u8 0, .int .u8 0, .int .u8 0, .int .u8 0, .int .u8 0, .int .u8 0, .int .u8 0, .int .u8 0, .int .u8 0, .int .u8 0, .int .u8 0, .int .u8 0, .int .u8 0, .int .u8 0, .string { data := #[] }, .slice .none 0 0, .slice .none 0 0, .slice .none 0 0, .slice .none 0 0] 28) = wa at *
    generalize u.heap.size = da at *
    have TF := tk_facts B0.out HS.out O0.out Z0.out BA.out AD.out HDA.out RDY.out
    have hS : (wa.setRow da (lkC k.l k.nm (.slice none 0 0) (.slice none 0 0) (.slice none 0 0) (.slice ya k.dn yc))).rangeAt H 0 (Lib.byteCells k.l) ∧ (wa.setRow da (lkC k.l k.nm (.slice none 0 0) (.slice none 0 0) (.slice none 0 0) (.slice ya k.dn yc))).cell? ⟨H, 32, none⟩ = some (.string k.nm) ∧ (wa.setRow da (lkC k.l k.nm (.slice none 0 0) (.slice none 0 0) (.slice none 0 0) (.slice ya k.dn yc))).cell? ⟨H, 36, none⟩ = some mo := by
      obtain ⟨h0, _, _, _, h4⟩ := TF.1.2.1.cells hl
      exact ⟨TF.1.2.1.range, h0, h4⟩
    have HTF : Hid (CK H da w (wa.setRow da (lkC k.l k.nm (.slice none 0 0) (.slice none 0 0) (.slice none 0 0) (.slice ya k.dn yc))) k tr pe on mo (.slice none 0 0) (.slice none 0 0) (.slice none 0 0) (.slice ya k.dn yc) ∧ RD (SN H da) (wa.setRow da (lkC k.l k.nm (.slice none 0 0) (.slice none 0 0) (.slice none 0 0) (.slice ya k.dn yc))) k.dn k.ky k.dv (.slice ya k.dn yc)) := TF
    clear TF
    refine wpAnyH_ready (rs := [9]) (by kernel_rfl) (by simp) ?_
    refine AllReadyH.cons (o := _) rfl (fun K hK => ?_) AllReadyH.nil
    rw [if_pos (by rfl)]
    refine wp_store_row 28 _ _ rfl da (lkC k.l k.nm (.slice none 0 0) (.slice none 0 0) (.slice none 0 0) (.slice ya k.dn yc)) rfl rfl 28 _ AD.out (infoLk hl) (by rw [lkC_size hl, lkC_size (by simp)]) lkC_one ?_
    simp only [Act.put, List.getElem_toArray, List.getElem_cons_zero, List.getElem_cons_succ]
    refine hK.out _ _ hS (fun hHeld => ?_)
    clear hK K hS
    refine wpAnyH_done (by kernel_rfl) ?_ _
    clear hHeld
    clear AD BA HDA RDY HK
    generalize (wa.setRow da (lkC k.l k.nm (.slice none 0 0) (.slice none 0 0) (.slice none 0 0) (.slice ya k.dn yc))) = w1 at *
    have HBW : Hid (Below H w w1) := HTF.out.1.1
    obtain ⟨_, q33, _, _, _⟩ := HTF.out.1.2.1.cells hl
    obtain ⟨_, d33, _, _, _⟩ := HTF.out.1.2.2.2.1.cells hl
    have f33 := HTF.out.1.2.2.2.1.frozen 33
    have HDL : Hid (da < w1.heap.size) := HTF.out.1.2.2.2.1.lt
    go_upto_region 3 with (at_builtin; refine append_texts rfl _ _ rfl rfl rfl (HR.out w1 HBW.out).1 HSM.out.ts ?_; intro a2 c2 w2 hN2 hb2 hc2; have d33' := (hb2.cell (p := ⟨da, 33, none⟩) HDL.out).trans d33; have f33' := (hb2.frozen (p := ⟨da, 33, none⟩) HDL.out).trans f33)
    have HC2 : Hid (CK H da w (w2.setCell ⟨da, 33, none⟩ (.slice a2 k.ts.length c2)) k tr pe on mo (.slice a2 k.ts.length c2) (.slice none 0 0) (.slice none 0 0) (.slice ya k.dn yc) ∧ RS (SN H da) (w2.setCell ⟨da, 33, none⟩ (.slice a2 k.ts.length c2)) (.slice a2 k.ts.length c2) k.ts ∧ RD (SN H da) (w2.setCell ⟨da, 33, none⟩ (.slice a2 k.ts.length c2)) k.dn k.ky k.dv (.slice ya k.dn yc)) :=
      ⟨ck_step HTF.out.1 HS.out hb2 (lkC_set hl _ _ _ _ _ _).1, RS.move (sn_newS HTF.out.1) (sn_new HTF.out.1).2.1 (sn_new HTF.out.1).2.2 hN2, RD.move (fun _ h _ => h) (sn_step (H := H) hb2).1 (sn_step hb2).2 HTF.out.2⟩
    clear q33 d33 f33 d33' f33' hN2 hb2 HDL HBW HTF
    generalize w2.setCell ⟨da, 33, none⟩ (.slice a2 k.ts.length c2) = w1b at *
    have HBW : Hid (Below H w w1b) := HC2.out.1.1
    have q34 := (HC2.out.1.2.1.cells hl).2.2.1
    have d34 := (HC2.out.1.2.2.2.1.cells hl).2.2.1
    have f34 := HC2.out.1.2.2.2.1.frozen 34
    have HDL : Hid (da < w1b.heap.size) := HC2.out.1.2.2.2.1.lt
    go_upto_region 4 with (at_builtin; refine append_texts rfl _ _ rfl rfl rfl (HR.out w1b HBW.out).2.1 HSM.out.ps ?_; intro a3 c3 w3 hN3 hb3 hc3; have d34' := (hb3.cell (p := ⟨da, 34, none⟩) HDL.out).trans d34; have f34' := (hb3.frozen (p := ⟨da, 34, none⟩) HDL.out).trans f34)
    have HC3 : Hid (CK H da w (w3.setCell ⟨da, 34, none⟩ (.slice a3 k.ps.length c3)) k tr pe on mo (.slice a2 k.ts.length c2) (.slice a3 k.ps.length c3) (.slice none 0 0) (.slice ya k.dn yc) ∧ RS (SN H da) (w3.setCell ⟨da, 34, none⟩ (.slice a3 k.ps.length c3)) (.slice a2 k.ts.length c2) k.ts ∧ RS (SN H da) (w3.setCell ⟨da, 34, none⟩ (.slice a3 k.ps.length c3)) (.slice a3 k.ps.length c3) k.ps ∧ RD (SN H da) (w3.setCell ⟨da, 34, none⟩ (.slice a3 k.ps.length c3)) k.dn k.ky k.dv (.slice ya k.dn yc)) :=
      ⟨ck_step HC2.out.1 HS.out hb3 (lkC_set hl _ _ _ _ _ _).2.1, RS.move (fun _ h _ => h) (sn_step (H := H) hb3).1 (sn_step hb3).2 HC2.out.2.1, RS.move (sn_newS HC2.out.1) (sn_new HC2.out.1).2.1 (sn_new HC2.out.1).2.2 hN3, RD.move (fun _ h _ => h) (sn_step (H := H) hb3).1 (sn_step hb3).2 HC2.out.2.2⟩
    clear q34 d34 f34 d34' f34' hN3 hb3 HDL HBW HC2
    generalize w3.setCell ⟨da, 34, none⟩ (.slice a3 k.ps.length c3) = w1c at *
    have HBW : Hid (Below H w w1c) := HC3.out.1.1
    have q35 := (HC3.out.1.2.1.cells hl).2.2.2.1
    have d35 := (HC3.out.1.2.2.2.1.cells hl).2.2.2.1
    have f35 := HC3.out.1.2.2.2.1.frozen 35
    have HDL : Hid (da < w1c.heap.size) := HC3.out.1.2.2.2.1.lt
    go_upto_region 5 with (at_builtin; refine append_runs rfl _ _ rfl rfl rfl (HR.out w1c HBW.out).2.2.1 HSM.out.rs ?_; intro a4 c4 w4 hN4 hb4; have d35' := (hb4.cell (p := ⟨da, 35, none⟩) HDL.out).trans d35; have f35' := (hb4.frozen (p := ⟨da, 35, none⟩) HDL.out).trans f35)
    have HC4 : Hid (CK H da w (w4.setCell ⟨da, 35, none⟩ (.slice a4 k.rs.length c4)) k tr pe on mo (.slice a2 k.ts.length c2) (.slice a3 k.ps.length c3) (.slice a4 k.rs.length c4) (.slice ya k.dn yc) ∧ RL4 (SN H da) (w4.setCell ⟨da, 35, none⟩ (.slice a4 k.rs.length c4)) k (.slice a2 k.ts.length c2) (.slice a3 k.ps.length c3) (.slice a4 k.rs.length c4) (.slice ya k.dn yc)) :=
      ⟨ck_step HC3.out.1 HS.out hb4 (lkC_set hl _ _ _ _ _ _).2.2, RS.move (fun _ h _ => h) (sn_step (H := H) hb4).1 (sn_step hb4).2 HC3.out.2.1, RS.move (fun _ h _ => h) (sn_step (H := H) hb4).1 (sn_step hb4).2 HC3.out.2.2.1, RR.move (sn_newS HC3.out.1) (sn_new HC3.out.1).2.1 (sn_new HC3.out.1).2.2 hN4, RD.move (fun _ h _ => h) (sn_step (H := H) hb4).1 (sn_step hb4).2 HC3.out.2.2.2⟩
    clear q35 d35 f35 d35' f35' hN4 hb4 HDL HBW HC3
    generalize w4.setCell ⟨da, 35, none⟩ (.slice a4 k.rs.length c4) = w1d at *
    have hRow := HC4.out.1.2.2.2.1
    have hZer := HC4.out.1.2.2.1
    go_wp2_with (first | (refine wpList_store_row rfl 28 _ _ rfl (H + 1) (lkC k.l k.nm (.slice a2 k.ts.length c2) (.slice a3 k.ps.length c3) (.slice a4 k.rs.length c4) (.slice ya k.dn yc)) rfl rfl 28 _ hZer (infoLk hl) (by rw [lkC_size hl, lkC_size (by simp)]) lkC_one ?_) | (refine wpList_load_row rfl 28 _ rfl da rfl 28 (lkC k.l k.nm (.slice a2 k.ts.length c2) (.slice a3 k.ps.length c3) (.slice a4 k.rs.length c4) (.slice ya k.dn yc)) (0, 0) _ hRow Tryz.underlying28 rfl (infoLk hl) ?_))
    refine bodyPost_ret (v := .agg (lkC k.l k.nm (.slice a2 k.ts.length c2) (.slice a3 k.ps.length c3) (.slice a4 k.rs.length c4) (.slice ya k.dn yc))) (results_cell_row Tryz.results7 _ _ (H + 1) 28 _ (0, 0) _ rfl (setRow_heap w1d (H + 1) _ _ _ _ hZer) Tryz.underlying28 rfl (infoLk hl)) rfl ⟨_, _, _, _, rfl, ?_, ?_, (fun a n c e => by cases e; exact hc2.out), (fun a n c e => by cases e; exact hc3.out)⟩
    · exact HC4.out.2.move (fun b h _ => by have := HS.out; unfold SN at h; omega) (by rw [size_setRow]; exact Nat.le_refl _) (fun b h _ => setRow_other _ _ _ _ (by unfold SN at h; omega))
    · have h9 := HC4.out.1.1
      rw [HS.out]
      refine ⟨h9.os, h9.tape, h9.output, by rw [size_setRow]; exact h9.size, fun q hq => ?_⟩
      rw [setRow_other _ _ _ _ (by omega), h9.block q hq]
  · go_simp
    have BZ : Below w0.heap.size w0 (w0.alloc (Obj.cells #[.int .u8 0, .int .u8 0, .int .u8 0, .int .u8 0, .int .u8 0, .int .u8 0, .int .u8 0, .int .u8 0, .int .u8 0, .int .u8 0, .int .u8 0, .int .u8 0, .int .u8 0, .int .u8 0, .int .u8 0, .int .u8 0, .int .u8 0, .int .u8 0, .int .u8 0, .int .u8 0, .int .u8 0, .int .u8 0, .int .u8 0, .int .u8 0, .int .u8 0, .int .u8 0, .int .u8 0, .int .u8 0, .int .u8 0, .int .u8 0, .int .u8 0, .int .u8 0, .string { data := #[] }, .slice .none 0 0, .slice .none 0 0, .slice .none 0 0, .slice .none 0 0] 28)).drew := ((Below.refl _ _).alloc (Nat.le_refl _) _).trans ((belowDrew1 _).mono (by simp))
    have BZ2 : Hid (Below w0.heap.size w0 (w0.alloc (Obj.cells #[.int .u8 0, .int .u8 0, .int .u8 0, .int .u8 0, .int .u8 0, .int .u8 0, .int .u8 0, .int .u8 0, .int .u8 0, .int .u8 0, .int .u8 0, .int .u8 0, .int .u8 0, .int .u8 0, .int .u8 0, .int .u8 0, .int .u8 0, .int .u8 0, .int .u8 0, .int .u8 0, .int .u8 0, .int .u8 0, .int .u8 0, .int .u8 0, .int .u8 0, .int .u8 0, .int .u8 0, .int .u8 0, .int .u8 0, .int .u8 0, .int .u8 0, .int .u8 0, .string { data := #[] }, .slice .none 0 0, .slice .none 0 0, .slice .none 0 0, .slice .none 0 0] 28)).drew) := BZ
    have AD0 : Hid (LB (w0.alloc (Obj.cells #[.int .u8 0, .int .u8 0, .int .u8 0, .int .u8 0, .int .u8 0, .int .u8 0, .int .u8 0, .int .u8 0, .int .u8 0, .int .u8 0, .int .u8 0, .int .u8 0, .int .u8 0, .int .u8 0, .int .u8 0, .int .u8 0, .int .u8 0, .int .u8 0, .int .u8 0, .int .u8 0, .int .u8 0, .int .u8 0, .int .u8 0, .int .u8 0, .int .u8 0, .int .u8 0, .int .u8 0, .int .u8 0, .int .u8 0, .int .u8 0, .int .u8 0, .int .u8 0, .string { data := #[] }, .slice .none 0 0, .slice .none 0 0, .slice .none 0 0, .slice .none 0 0] 28)).drew w0.heap.size (List.replicate 32 (0 : UInt8)) ⟨#[]⟩ (.slice none 0 0) (.slice none 0 0) (.slice none 0 0) (.slice none 0 0)) := heap_new w0 _
    have hsz : (w0.alloc (Obj.cells #[.int .u8 0, .int .u8 0, .int .u8 0, .int .u8 0, .int .u8 0, .int .u8 0, .int .u8 0, .int .u8 0, .int .u8 0, .int .u8 0, .int .u8 0, .int .u8 0, .int .u8 0, .int .u8 0, .int .u8 0, .int .u8 0, .int .u8 0, .int .u8 0, .int .u8 0, .int .u8 0, .int .u8 0, .int .u8 0, .int .u8 0, .int .u8 0, .int .u8 0, .int .u8 0, .int .u8 0, .int .u8 0, .int .u8 0, .int .u8 0, .int .u8 0, .int .u8 0, .string { data := #[] }, .slice .none 0 0, .slice .none 0 0, .slice .none 0 0, .slice .none 0 0] 28)).drew.heap.size = w0.heap.size + 1 := by simp
    have hS := HK.out _ BZ
    refine hK.out _ _ hS (fun hHeld => ?_)
    clear hK K hS BZ
    generalize (w0.alloc (Obj.cells #[.int .u8 0, .int .u8 0, .int .u8 0, .int .u8 0, .int .u8 0, .int .u8 0, .int .u8 0, .int .u8 0, .int .u8 0, .int .u8 0, .int .u8 0, .int .u8 0, .int .u8 0, .int .u8 0, .int .u8 0, .int .u8 0, .int .u8 0, .int .u8 0, .int .u8 0, .int .u8 0, .int .u8 0, .int .u8 0, .int .u8 0, .int .u8 0, .int .u8 0, .int .u8 0, .int .u8 0, .int .u8 0, .int .u8 0, .int .u8 0, .int .u8 0, .int .u8 0, .string { data := #[] }, .slice .none 0 0, .slice .none 0 0, .slice .none 0 0, .slice .none 0 0] 28)).drew = wz at *
    refine wpAnyH_ready (rs := [6]) (by kernel_rfl) (by simp) ?_
    refine AllReadyH.cons (o := _) rfl (fun K hK => ?_) AllReadyH.nil
    go_simp
    refine (HPT.out wz (B0.out.trans (BZ2.out.mono (by have := O0.out.lt; omega)))).mono ?_
    rintro e u ⟨y', rfl, hrd, b⟩
    obtain ⟨ya, yc, rfl⟩ : ∃ ya yc, y' = .slice ya k.dn yc := by obtain ⟨p, q, e, _⟩ := hrd; exact ⟨p, q, e⟩
    have BA : Hid (Below w0.heap.size w0 u) := BZ2.out.trans (b.mono BZ2.out.size)
    have AD : Hid (LB u w0.heap.size (List.replicate 32 (0 : UInt8)) ⟨#[]⟩ (.slice none 0 0) (.slice none 0 0) (.slice none 0 0) (.slice none 0 0)) := AD0.out.keep (b.block _ AD0.out.lt)
    have RDY : Hid (RD (fun b => w0.heap.size ≤ b ∧ b ≠ w0.heap.size) u k.dn k.ky k.dv (.slice ya k.dn yc)) := RD.move (fun b h _ => ⟨by omega, by omega⟩) (Nat.le_refl _) (fun _ _ _ => rfl) hrd
    clear hrd b AD0 BZ2 hsz
    have hS := HK.out u BA.out
    go_wp2_with fail
    refine hK.out _ _ hS (fun hHeld => ?_)
    clear hK K hS
    refine wpAnyH_take (i := 7) (v := .agg (lkC k.l k.nm (.slice none 0 0) (.slice none 0 0) (.slice none 0 0) (.slice ya k.dn yc))) rfl (by kernel_rfl) (by kernel_rfl) (by kernel_rfl) (fun _ _ _ h => h) (yields_link (by rfl) _ _ _ rfl hl k.nm ya k.dn yc rfl rfl rfl) hHeld ?_
    simp only [Act.put, List.getElem_toArray, List.getElem_cons_zero, List.getElem_cons_succ, List.setIfInBounds_toArray, List.set_cons_zero, List.set_cons_succ]
    obtain ⟨da, hda0⟩ : ∃ d, d = w0.heap.size := ⟨_, rfl⟩
    have AD1 : Hid (LB u da (List.replicate 32 (0 : UInt8)) ⟨#[]⟩ (.slice none 0 0) (.slice none 0 0) (.slice none 0 0) (.slice none 0 0)) := by rw [hda0]; exact AD
    have RDY1 : Hid (RD (fun b => w0.heap.size ≤ b ∧ b ≠ da) u k.dn k.ky k.dv (.slice ya k.dn yc)) := by rw [hda0]; exact RDY
    have HDA : Hid (w0.heap.size ≤ da) := Nat.le_of_eq hda0.symm
    rw [← hda0]
    clear AD RDY hda0
    have AD := AD1
    have RDY := RDY1
    clear AD1 RDY1
    have TF := tk_facts B0.out HS.out O0.out Z0.out BA.out AD.out HDA.out RDY.out
    have hS : (u.setRow da (lkC k.l k.nm (.slice none 0 0) (.slice none 0 0) (.slice none 0 0) (.slice ya k.dn yc))).rangeAt H 0 (Lib.byteCells k.l) ∧ (u.setRow da (lkC k.l k.nm (.slice none 0 0) (.slice none 0 0) (.slice none 0 0) (.slice ya k.dn yc))).cell? ⟨H, 32, none⟩ = some (.string k.nm) ∧ (u.setRow da (lkC k.l k.nm (.slice none 0 0) (.slice none 0 0) (.slice none 0 0) (.slice ya k.dn yc))).cell? ⟨H, 36, none⟩ = some mo := by
      obtain ⟨h0, _, _, _, h4⟩ := TF.1.2.1.cells hl
      exact ⟨TF.1.2.1.range, h0, h4⟩
    have HTF : Hid (CK H da w (u.setRow da (lkC k.l k.nm (.slice none 0 0) (.slice none 0 0) (.slice none 0 0) (.slice ya k.dn yc))) k tr pe on mo (.slice none 0 0) (.slice none 0 0) (.slice none 0 0) (.slice ya k.dn yc) ∧ RD (SN H da) (u.setRow da (lkC k.l k.nm (.slice none 0 0) (.slice none 0 0) (.slice none 0 0) (.slice ya k.dn yc))) k.dn k.ky k.dv (.slice ya k.dn yc)) := TF
    clear TF
    refine wpAnyH_ready (rs := [9]) (by kernel_rfl) (by simp) ?_
    refine AllReadyH.cons (o := _) rfl (fun K hK => ?_) AllReadyH.nil
    rw [if_pos (by rfl)]
    refine wp_store_row 28 _ _ rfl da (lkC k.l k.nm (.slice none 0 0) (.slice none 0 0) (.slice none 0 0) (.slice ya k.dn yc)) rfl rfl 28 _ AD.out (infoLk hl) (by rw [lkC_size hl, lkC_size (by simp)]) lkC_one ?_
    simp only [Act.put, List.getElem_toArray, List.getElem_cons_zero, List.getElem_cons_succ]
    refine hK.out _ _ hS (fun hHeld => ?_)
    clear hK K hS
    refine wpAnyH_done (by kernel_rfl) ?_ _
    clear hHeld
    clear AD BA HDA RDY HK
    generalize (u.setRow da (lkC k.l k.nm (.slice none 0 0) (.slice none 0 0) (.slice none 0 0) (.slice ya k.dn yc))) = w1 at *
    have HBW : Hid (Below H w w1) := HTF.out.1.1
    obtain ⟨_, q33, _, _, _⟩ := HTF.out.1.2.1.cells hl
    obtain ⟨_, d33, _, _, _⟩ := HTF.out.1.2.2.2.1.cells hl
    have f33 := HTF.out.1.2.2.2.1.frozen 33
    have HDL : Hid (da < w1.heap.size) := HTF.out.1.2.2.2.1.lt
    go_upto_region 3 with (at_builtin; refine append_texts rfl _ _ rfl rfl rfl (HR.out w1 HBW.out).1 HSM.out.ts ?_; intro a2 c2 w2 hN2 hb2 hc2; have d33' := (hb2.cell (p := ⟨da, 33, none⟩) HDL.out).trans d33; have f33' := (hb2.frozen (p := ⟨da, 33, none⟩) HDL.out).trans f33)
    have HC2 : Hid (CK H da w (w2.setCell ⟨da, 33, none⟩ (.slice a2 k.ts.length c2)) k tr pe on mo (.slice a2 k.ts.length c2) (.slice none 0 0) (.slice none 0 0) (.slice ya k.dn yc) ∧ RS (SN H da) (w2.setCell ⟨da, 33, none⟩ (.slice a2 k.ts.length c2)) (.slice a2 k.ts.length c2) k.ts ∧ RD (SN H da) (w2.setCell ⟨da, 33, none⟩ (.slice a2 k.ts.length c2)) k.dn k.ky k.dv (.slice ya k.dn yc)) :=
      ⟨ck_step HTF.out.1 HS.out hb2 (lkC_set hl _ _ _ _ _ _).1, RS.move (sn_newS HTF.out.1) (sn_new HTF.out.1).2.1 (sn_new HTF.out.1).2.2 hN2, RD.move (fun _ h _ => h) (sn_step (H := H) hb2).1 (sn_step hb2).2 HTF.out.2⟩
    clear q33 d33 f33 d33' f33' hN2 hb2 HDL HBW HTF
    generalize w2.setCell ⟨da, 33, none⟩ (.slice a2 k.ts.length c2) = w1b at *
    have HBW : Hid (Below H w w1b) := HC2.out.1.1
    have q34 := (HC2.out.1.2.1.cells hl).2.2.1
    have d34 := (HC2.out.1.2.2.2.1.cells hl).2.2.1
    have f34 := HC2.out.1.2.2.2.1.frozen 34
    have HDL : Hid (da < w1b.heap.size) := HC2.out.1.2.2.2.1.lt
    go_upto_region 4 with (at_builtin; refine append_texts rfl _ _ rfl rfl rfl (HR.out w1b HBW.out).2.1 HSM.out.ps ?_; intro a3 c3 w3 hN3 hb3 hc3; have d34' := (hb3.cell (p := ⟨da, 34, none⟩) HDL.out).trans d34; have f34' := (hb3.frozen (p := ⟨da, 34, none⟩) HDL.out).trans f34)
    have HC3 : Hid (CK H da w (w3.setCell ⟨da, 34, none⟩ (.slice a3 k.ps.length c3)) k tr pe on mo (.slice a2 k.ts.length c2) (.slice a3 k.ps.length c3) (.slice none 0 0) (.slice ya k.dn yc) ∧ RS (SN H da) (w3.setCell ⟨da, 34, none⟩ (.slice a3 k.ps.length c3)) (.slice a2 k.ts.length c2) k.ts ∧ RS (SN H da) (w3.setCell ⟨da, 34, none⟩ (.slice a3 k.ps.length c3)) (.slice a3 k.ps.length c3) k.ps ∧ RD (SN H da) (w3.setCell ⟨da, 34, none⟩ (.slice a3 k.ps.length c3)) k.dn k.ky k.dv (.slice ya k.dn yc)) :=
      ⟨ck_step HC2.out.1 HS.out hb3 (lkC_set hl _ _ _ _ _ _).2.1, RS.move (fun _ h _ => h) (sn_step (H := H) hb3).1 (sn_step hb3).2 HC2.out.2.1, RS.move (sn_newS HC2.out.1) (sn_new HC2.out.1).2.1 (sn_new HC2.out.1).2.2 hN3, RD.move (fun _ h _ => h) (sn_step (H := H) hb3).1 (sn_step hb3).2 HC2.out.2.2⟩
    clear q34 d34 f34 d34' f34' hN3 hb3 HDL HBW HC2
    generalize w3.setCell ⟨da, 34, none⟩ (.slice a3 k.ps.length c3) = w1c at *
    have HBW : Hid (Below H w w1c) := HC3.out.1.1
    have q35 := (HC3.out.1.2.1.cells hl).2.2.2.1
    have d35 := (HC3.out.1.2.2.2.1.cells hl).2.2.2.1
    have f35 := HC3.out.1.2.2.2.1.frozen 35
    have HDL : Hid (da < w1c.heap.size) := HC3.out.1.2.2.2.1.lt
    go_upto_region 5 with (at_builtin; refine append_runs rfl _ _ rfl rfl rfl (HR.out w1c HBW.out).2.2.1 HSM.out.rs ?_; intro a4 c4 w4 hN4 hb4; have d35' := (hb4.cell (p := ⟨da, 35, none⟩) HDL.out).trans d35; have f35' := (hb4.frozen (p := ⟨da, 35, none⟩) HDL.out).trans f35)
    have HC4 : Hid (CK H da w (w4.setCell ⟨da, 35, none⟩ (.slice a4 k.rs.length c4)) k tr pe on mo (.slice a2 k.ts.length c2) (.slice a3 k.ps.length c3) (.slice a4 k.rs.length c4) (.slice ya k.dn yc) ∧ RL4 (SN H da) (w4.setCell ⟨da, 35, none⟩ (.slice a4 k.rs.length c4)) k (.slice a2 k.ts.length c2) (.slice a3 k.ps.length c3) (.slice a4 k.rs.length c4) (.slice ya k.dn yc)) :=
      ⟨ck_step HC3.out.1 HS.out hb4 (lkC_set hl _ _ _ _ _ _).2.2, RS.move (fun _ h _ => h) (sn_step (H := H) hb4).1 (sn_step hb4).2 HC3.out.2.1, RS.move (fun _ h _ => h) (sn_step (H := H) hb4).1 (sn_step hb4).2 HC3.out.2.2.1, RR.move (sn_newS HC3.out.1) (sn_new HC3.out.1).2.1 (sn_new HC3.out.1).2.2 hN4, RD.move (fun _ h _ => h) (sn_step (H := H) hb4).1 (sn_step hb4).2 HC3.out.2.2.2⟩
    clear q35 d35 f35 d35' f35' hN4 hb4 HDL HBW HC3
    generalize w4.setCell ⟨da, 35, none⟩ (.slice a4 k.rs.length c4) = w1d at *
    have hRow := HC4.out.1.2.2.2.1
    have hZer := HC4.out.1.2.2.1
    go_wp2_with (first | (refine wpList_store_row rfl 28 _ _ rfl (H + 1) (lkC k.l k.nm (.slice a2 k.ts.length c2) (.slice a3 k.ps.length c3) (.slice a4 k.rs.length c4) (.slice ya k.dn yc)) rfl rfl 28 _ hZer (infoLk hl) (by rw [lkC_size hl, lkC_size (by simp)]) lkC_one ?_) | (refine wpList_load_row rfl 28 _ rfl da rfl 28 (lkC k.l k.nm (.slice a2 k.ts.length c2) (.slice a3 k.ps.length c3) (.slice a4 k.rs.length c4) (.slice ya k.dn yc)) (0, 0) _ hRow Tryz.underlying28 rfl (infoLk hl) ?_))
    refine bodyPost_ret (v := .agg (lkC k.l k.nm (.slice a2 k.ts.length c2) (.slice a3 k.ps.length c3) (.slice a4 k.rs.length c4) (.slice ya k.dn yc))) (results_cell_row Tryz.results7 _ _ (H + 1) 28 _ (0, 0) _ rfl (setRow_heap w1d (H + 1) _ _ _ _ hZer) Tryz.underlying28 rfl (infoLk hl)) rfl ⟨_, _, _, _, rfl, ?_, ?_, (fun a n c e => by cases e; exact hc2.out), (fun a n c e => by cases e; exact hc3.out)⟩
    · exact HC4.out.2.move (fun b h _ => by have := HS.out; unfold SN at h; omega) (by rw [size_setRow]; exact Nat.le_refl _) (fun b h _ => setRow_other _ _ _ _ (by unfold SN at h; omega))
    · have h9 := HC4.out.1.1
      rw [HS.out]
      refine ⟨h9.os, h9.tape, h9.output, by rw [size_setRow]; exact h9.size, fun q hq => ?_⟩
      rw [setRow_other _ _ _ _ (by omega), h9.block q hq]
end Go.Proofs.YtnpcbcfjnhjmmaaGreatDoor
namespace Go.Proofs.YtnpcbcfjnhjmmaaGreatDoor
open Go.RowKit Go.Deep
def bc (l : List UInt8) : Array Value := (Lib.byteCells l).toArray
theorem eqItems_bytes (w : World) (d : Nat) (l : List UInt8) : ∀ js : List Nat, (∀ j ∈ js, j < l.length) → (Op.eqItems (d + 1) 5 1 (bc l) (bc l) js).run Tryz.prog w = .ok true w
  | [], _ => by simp [Op.eqItems]
  | j :: js, h => by
    have hj : j < l.length := h j (by simp)
    have hv : (bc l)[j]? = some (.int .u8 (l[j].toNat : Int)) := by simp [bc, Lib.byteCells, hj]
    have ih := eqItems_bytes w d l js (fun i hi => h i (by simp [hi]))
    simp [Op.eqItems, part, isAgg, run_underlying Tryz.underlying5, hv, Op.equalIn, ih]
theorem info5' : ∃ i, Tryz.prog.info? 5 = some i ∧ Tryz.prog.cellsOf 5 = 1 := by
  have h : (Tryz.prog.info? 5).isSome = true := by kernel_rfl
  obtain ⟨i, hi⟩ := Option.isSome_iff_exists.1 h
  exact ⟨i, hi, by kernel_rfl⟩
theorem equal_arr (w : World) (d : Nat) (t : TypeId) (n : Nat) (l : List UInt8) (ht : Tryz.prog.underlying t = some (.array n 5)) (hl : l.length = n) : (Op.equalIn (d + 2) t (.agg (bc l)) (.agg (bc l))).run Tryz.prog w = .ok true w := by
  obtain ⟨i, hi, hc⟩ := info5'
  rw [run_equalIn_array w (d + 1) _ _ ht hi, hc, eqItems_bytes w d l _ (fun j hj => by rw [hl]; exact List.mem_range.1 hj)]
theorem neq_hash (w : World) (l : List UInt8) (hl : l.length = 32) : (binOp .neq 23 (.agg (Lib.byteCells l).toArray) (.agg (Lib.byteCells l).toArray)).run Tryz.prog w = .ok (.bool false) w := by
  have h := equal_arr w 9998 23 32 l Tryz.underlying23 hl
  unfold bc at h
  rw [run_neq_struct, h]
  rfl
theorem load_mid_if {ops : Array Oper} {rest : List Oper} {o : Oper} {a : Act} {w : World} {Q : Exit → Act → World → Prop} (hw : Region.wanted o (yielded ops a.tmps) = true) (ty : TypeId) (x : Operand) (ho : o.op = .load ty x)
    (b off : Nat) (hx : a.eval x = .pointer (some ⟨b, off, none⟩)) (cs : List Value) (d : TypeDesc) (hc : w.rangeAt b off cs) (hu : Tryz.prog.underlying ty = some d) (hd : d.isRow = true) (hi : (Tryz.prog.info? ty).map (·.size) = some cs.length)
    (h : wpList Tryz.prog ops Q rest (a.put o.dst (.agg cs.toArray)) w) : wpList Tryz.prog ops Q (o :: rest) a w := by
  unfold wpList
  rw [if_pos hw]
  exact .inl (wp_load_mid ty x ho b off hx cs d hc hu hd hi h)
set_option maxHeartbeats 400000 in
theorem textsSame (v1 v2 : Value) (ts : List ByteArray) (w : World) (hl : ts.length ≤ 140737488351232) (h1 : RS (fun _ => True) w v1 ts) (h2 : RS (fun _ => True) w v2 ts) :
    Calls Tryz.prog 20 #[v1, v2] w fun e w' => e = .returned (.bool true) ∧ ∃ n, w' = w.drewN n := by
  obtain ⟨a1, c1, rfl, h1⟩ := h1
  obtain ⟨a2, c2, rfl, h2⟩ := h2
  have HH : Hid ((ts.length = 0 ∨ ∃ b o, a1 = some ⟨b, o, none⟩ ∧ True ∧ b < w.heap.size ∧ ∀ i x, ts[i]? = some x → w.cell? ⟨b, o + i, none⟩ = some (.string x)) ∧
     (ts.length = 0 ∨ ∃ b o, a2 = some ⟨b, o, none⟩ ∧ True ∧ b < w.heap.size ∧ ∀ i x, ts[i]? = some x → w.cell? ⟨b, o + i, none⟩ = some (.string x))) := ⟨h1, h2⟩
  clear h1 h2
  generalize hn : ts.length = n at *
  have HN : Hid (ts.length = n) := hn
  clear hn
  go_enter Tryz.func20, Tryz.ntmps20
  go_wp2
  go_loopw [5] (fun i wr => ∃ k nq : Nat, k ≤ n ∧ i = .int .i64 k ∧ wr = w.drewN nq) (fun i _ => n - (intOf i).toNat)
  case atStart => exact ⟨0, 0, Nat.zero_le _, rfl, rfl⟩
  case round =>
    obtain ⟨k, nq, hk, rfl, rfl⟩ := hrel
    by_cases hlt : k < n
    · rcases HH.out.1 with h | ⟨b1, o1, rfl, _, _, h1⟩
      · omega
      rcases HH.out.2 with h | ⟨b2, o2, rfl, _, _, h2⟩
      · omega
      obtain ⟨x, hx⟩ : ∃ x, ts[k]? = some x := ⟨_, List.getElem?_eq_getElem (by have := HN.out; omega)⟩
      have g1 := h1 k x hx
      have g2 := h2 k x hx
      clear h1 h2 HH HN hx
      go_wp2
      go_quiet (fail)
      go_wp2
      go_roundw
      case rel => exact ⟨k + 1, _, by omega, by go_num, rfl⟩
      case measure => simp [intOf]; omega
    · obtain rfl : k = n := by omega
      go_wp2
      go_ret
      exact ⟨rfl, nq, rfl⟩
end Go.Proofs.YtnpcbcfjnhjmmaaGreatDoor
namespace Go.Proofs.YtnpcbcfjnhjmmaaGreatDoor
open Go.RowKit Go.Deep
theorem belowDrewN (w : World) (n : Nat) : Below w.heap.size w (w.drewN n) := ⟨rfl, rfl, rfl, Nat.le_refl _, fun _ _ => rfl⟩
set_option maxHeartbeats 4000000 in
set_option maxRecDepth 100000 in
theorem linkSame (k : Lk) (tr pe on mo t2 p2 o2 m2 : Value) (w : World) (hk : k.ok) (h1 : RL4 (fun _ => True) w k tr pe on mo) (h2 : RL4 (fun _ => True) w k t2 p2 o2 m2) :
    Calls Tryz.prog 11 #[.agg (lkC k.l k.nm tr pe on mo), .agg (lkC k.l k.nm t2 p2 o2 m2)] w fun e w' => e = .returned (.bool true) ∧ Below w.heap.size w w' := by
  obtain ⟨oa, oc, rfl⟩ : ∃ a c, on = .slice a k.rs.length c := by obtain ⟨p, q, e, _⟩ := h1.2.2.1; exact ⟨p, q, e⟩
  obtain ⟨ob, od, rfl⟩ : ∃ a c, o2 = .slice a k.rs.length c := by obtain ⟨p, q, e, _⟩ := h2.2.2.1; exact ⟨p, q, e⟩
  have hl := hk.l
  have hrs := hk.rs
  have HK : Hid k.ok := hk
  have B0 : Hid (Below w.heap.size w ((w.alloc (Obj.cells (lkC k.l k.nm tr pe (.slice oa k.rs.length oc) mo) 28)).alloc (Obj.cells (lkC k.l k.nm t2 p2 (.slice ob k.rs.length od) m2) 28))) := ((Below.refl _ _).alloc (Nat.le_refl _) _).alloc (by simp) _
  have LA : Hid (LB ((w.alloc (Obj.cells (lkC k.l k.nm tr pe (.slice oa k.rs.length oc) mo) 28)).alloc (Obj.cells (lkC k.l k.nm t2 p2 (.slice ob k.rs.length od) m2) 28)) w.heap.size k.l k.nm tr pe (.slice oa k.rs.length oc) mo) := (Below.heap_alloc _ _ _ (by simp)).trans (heap_new _ _)
  have LBb : Hid (LB ((w.alloc (Obj.cells (lkC k.l k.nm tr pe (.slice oa k.rs.length oc) mo) 28)).alloc (Obj.cells (lkC k.l k.nm t2 p2 (.slice ob k.rs.length od) m2) 28)) (w.heap.size + 1) k.l k.nm t2 p2 (.slice ob k.rs.length od) m2) := by
    have h9 := heap_new (w.alloc (Obj.cells (lkC k.l k.nm tr pe (.slice oa k.rs.length oc) mo) 28)) (Obj.cells (lkC k.l k.nm t2 p2 (.slice ob k.rs.length od) m2) 28)
    have e9 : (w.alloc (Obj.cells (lkC k.l k.nm tr pe (.slice oa k.rs.length oc) mo) 28)).heap.size = w.heap.size + 1 := by simp
    rw [e9] at h9
    exact h9
  have R1 : Hid (RL4 (fun _ => True) ((w.alloc (Obj.cells (lkC k.l k.nm tr pe (.slice oa k.rs.length oc) mo) 28)).alloc (Obj.cells (lkC k.l k.nm t2 p2 (.slice ob k.rs.length od) m2) 28)) k tr pe (.slice oa k.rs.length oc) mo ∧ RL4 (fun _ => True) ((w.alloc (Obj.cells (lkC k.l k.nm tr pe (.slice oa k.rs.length oc) mo) 28)).alloc (Obj.cells (lkC k.l k.nm t2 p2 (.slice ob k.rs.length od) m2) 28)) k t2 p2 (.slice ob k.rs.length od) m2) := ⟨h1.move (fun _ h _ => h) B0.out.size (fun b _ hl => B0.out.block b hl), h2.move (fun _ h _ => h) B0.out.size (fun b _ hl => B0.out.block b hl)⟩
  clear h1 h2 hk
  go_enter Tryz.func11, Tryz.ntmps11
  go_upto_region 1 with fail
  generalize ((w.alloc (Obj.cells (lkC k.l k.nm tr pe (.slice oa k.rs.length oc) mo) 28)).alloc (Obj.cells (lkC k.l k.nm t2 p2 (.slice ob k.rs.length od) m2) 28)) = w0 at *
  generalize hvb : w.heap.size = H at *
  have HS : Hid (w.heap.size = H) := hvb
  clear hvb
  obtain ⟨a32, a33, a34, a35, a36⟩ := LA.out.cells hl
  obtain ⟨b32, b33, b34, b35, b36⟩ := LBb.out.cells hl
  have hq := fun w => neq_hash w k.l hl
  go_wp2_with (first | (refine load_mid_if rfl 23 _ rfl H 0 rfl (Lib.byteCells k.l) _ LA.out.range Tryz.underlying23 rfl (infoHs hl) ?_) | (refine load_mid_if rfl 23 _ rfl (H + 1) 0 rfl (Lib.byteCells k.l) _ LBb.out.range Tryz.underlying23 rfl (infoHs hl) ?_))
  refine (textsSame tr t2 k.ts w0 HK.out.ts.1 R1.out.1.1 R1.out.2.1).mono ?_
  rintro e w1 ⟨rfl, nq, rfl⟩
  go_wp2_with fail
  refine (textsSame pe p2 k.ps (w0.drewN nq) HK.out.ps.1 (R1.out.1.2.1.move (fun _ h _ => h) (Nat.le_refl _) (fun _ _ _ => rfl)) (R1.out.2.2.1.move (fun _ h _ => h) (Nat.le_refl _) (fun _ _ _ => rfl))).mono ?_
  rintro e w1 ⟨rfl, nq2, rfl⟩
  clear hq a32 a33 a34 b32 b33 b34
  go_wp2
  have HD : Hid (Below w0.heap.size w0 (w0.drewN (nq + nq2))) := belowDrewN w0 (nq + nq2)
  replace a35 : (w0.drewN (nq + nq2)).cell? ⟨H, 35, none⟩ = some (.slice oa k.rs.length oc) := a35
  replace a36 : (w0.drewN (nq + nq2)).cell? ⟨H, 36, none⟩ = some mo := a36
  replace b35 : (w0.drewN (nq + nq2)).cell? ⟨H + 1, 35, none⟩ = some (.slice ob k.rs.length od) := b35
  replace b36 : (w0.drewN (nq + nq2)).cell? ⟨H + 1, 36, none⟩ = some m2 := b36
  generalize (w0.drewN (nq + nq2)) = w1 at *
  have R2 : Hid (RL4 (fun _ => True) w1 k tr pe (.slice oa k.rs.length oc) mo ∧ RL4 (fun _ => True) w1 k t2 p2 (.slice ob k.rs.length od) m2) := ⟨R1.out.1.move (fun _ h _ => h) HD.out.size (fun b _ hl => HD.out.block b hl), R1.out.2.move (fun _ h _ => h) HD.out.size (fun b _ hl => HD.out.block b hl)⟩
  have HB1 : Hid (Below H w w1) := B0.out.trans (HD.out.mono (by have := LA.out.lt; omega))
  clear R1 HD LA LBb B0
  generalize hn : k.rs.length = n at *
  have HN : Hid (k.rs.length = n) := hn
  clear hn
  go_loopw [5] (fun i wr => ∃ j nq : Nat, j ≤ n ∧ i = .int .i64 j ∧ wr = w1.drewN nq) (fun i _ => n - (intOf i).toNat)
  case atStart => exact ⟨0, 0, Nat.zero_le _, rfl, rfl⟩
  case round =>
    obtain ⟨j, nr, hj, rfl, rfl⟩ := hrel
    by_cases hlt : j < n
    · obtain ⟨p1, q1, e1, h1⟩ := R2.out.1.2.2.1
      obtain ⟨p2', q2, e2, h2⟩ := R2.out.2.2.2.1
      rw [HN.out] at e1 e2 h1 h2
      rcases h1 with h | ⟨b1, o1, rfl, _, _, h1⟩
      · omega
      rcases h2 with h | ⟨bb, oo, rfl, _, _, h2⟩
      · omega
      simp only [Value.slice.injEq, true_and] at e1 e2
      obtain ⟨rfl, rfl⟩ := e1
      obtain ⟨rfl, rfl⟩ := e2
      obtain ⟨x, hx⟩ : ∃ x, k.rs[j]? = some x := ⟨_, List.getElem?_eq_getElem (by have := HN.out; omega)⟩
      obtain ⟨g1, g2⟩ := h1 j x hx
      obtain ⟨g3, g4⟩ := h2 j x hx
      obtain ⟨x1, x2⟩ := x
      clear h1 h2 hx
      go_wp2
      go_quiet (fail)
      go_wp2
      go_roundw
      case rel => exact ⟨j + 1, _, by omega, by go_num, rfl⟩
      case measure => simp [intOf]; omega
    · obtain rfl : j = n := by omega
      go_wp2_with fail
      refine (pairsSame k.dn k.ky k.dv (fun i _ => valueSame (k.dv i)) mo m2 (w1.drewN nr) HK.out.dn.1 (fun i hi => (HK.out.dn.2 i hi).2) (RD.move (w := w1) (w' := w1.drewN nr) (fun _ h _ => h) (Nat.le_refl w1.heap.size) (fun _ _ _ => rfl) R2.out.1.2.2.2) (RD.move (w := w1) (w' := w1.drewN nr) (fun _ h _ => h) (Nat.le_refl w1.heap.size) (fun _ _ _ => rfl) R2.out.2.2.2.2)).mono ?_
      rintro e w2 ⟨rfl, b2⟩
      have HB2 : Hid (Below w.heap.size w w2) := by
        have h9 : Below H w w2 := (HB1.out.trans ((belowDrewN w1 nr).mono (by have := HB1.out.size; have := HS.out; omega))).trans (b2.mono (by have h8 := HB1.out.size; have := HS.out; show H ≤ w1.heap.size; omega))
        rw [HS.out]; exact h9
      clear b2
      go_wp2
      go_ret
      exact ⟨rfl, HB2.out⟩
end Go.Proofs.YtnpcbcfjnhjmmaaGreatDoor
