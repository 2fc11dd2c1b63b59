import Derived.Test.YtmfbhihjiebagaaDoorWg
namespace Go.Proofs.YtmfbhihjiebagaaDoor
open Go.RowKit Go.Deep
theorem zlk : (#[.int .u8 0, .int .u8 0, .int .u8 0, .int .u8 0, .int .u8 0, .int .u8 0, .int .u8 0, .int .u8 0, .int .u8 0, .int .u8 0, .int .u8 0, .int .u8 0, .int .u8 0, .int .u8 0, .int .u8 0, .int .u8 0, .int .u8 0, .int .u8 0, .int .u8 0, .int .u8 0, .int .u8 0, .int .u8 0, .int .u8 0, .int .u8 0, .int .u8 0, .int .u8 0, .int .u8 0, .int .u8 0, .int .u8 0, .int .u8 0, .int .u8 0, .int .u8 0, .string { data := #[] }, .slice .none 0 0, .slice .none 0 0, .slice .none 0 0, .slice .none 0 0] : Array Value) = lkC (List.replicate 32 (0 : UInt8)) ⟨#[]⟩ (.slice none 0 0) (.slice none 0 0) (.slice none 0 0) (.slice none 0 0) := rfl
theorem lkC_set {l : List UInt8} (hl : l.length = 32) (nm : ByteArray) (tr pe on mo v : Value) :
    (lkC l nm tr pe on mo).setIfInBounds 33 v = lkC l nm v pe on mo ∧ (lkC l nm tr pe on mo).setIfInBounds 34 v = lkC l nm tr v on mo ∧ (lkC l nm tr pe on mo).setIfInBounds 35 v = lkC l nm tr pe v mo := by
  obtain ⟨x0, x1, x2, x3, x4, x5, x6, x7, x8, x9, x10, x11, x12, x13, x14, x15, x16, x17, x18, x19, x20, x21, x22, x23, x24, x25, x26, x27, x28, x29, x30, x31, rfl⟩ := len32 hl
  exact ⟨rfl, rfl, rfl⟩
theorem setAt {w : World} {b : Nat} {cs : Array Value} {ty : TypeId} (h : w.heap[b]? = some (.cells cs ty (0, 0))) (i : Nat) (u : Value) : (w.setCell ⟨b, i, none⟩ u).heap[b]? = some (.cells (cs.setIfInBounds i u) ty (0, 0)) := by
  rw [setCell_eq_setRow w b i _ _ _ _ h, setRow_heap w b _ _ _ _ h]
theorem lkC_one {l : List UInt8} {nm : ByteArray} {a1 a2 a3 a4 : Option Addr} {n1 n2 n3 n4 c1 c2 c3 c4 : Nat} : (lkC l nm (.slice a1 n1 c1) (.slice a2 n2 c2) (.slice a3 n3 c3) (.slice a4 n4 c4)).all (·.oneCell') = true := by
  unfold lkC
  rw [List.all_toArray, List.all_eq_true]
  intro u hu
  rcases List.mem_append.1 hu with h | h
  · simp only [Lib.byteCells, List.mem_map] at h
    obtain ⟨x, _, rfl⟩ := h
    rfl
  · simp at h
    rcases h with rfl | rfl | rfl | rfl | rfl <;> rfl
theorem infoLk {l : List UInt8} {nm : ByteArray} {tr pe on mo : Value} (hl : l.length = 32) : (Tryd.prog.info? 28).map (·.size) = some (lkC l nm tr pe on mo).size := by
  rw [lkC_size hl]; kernel_rfl
theorem infoHs {l : List UInt8} (hl : l.length = 32) : (Tryd.prog.info? 23).map (·.size) = some (Lib.byteCells l).length := by
  rw [bcl, hl]; kernel_rfl
/-- what stands while a link's twin is made: da is the new link's block -/
def CK (H da : Nat) (w wr : World) (k : Lk) (tr pe on mo t2 p2 o2 m2 : Value) : Prop :=
  Below H w wr ∧ LB wr H k.l k.nm tr pe on mo ∧ LB wr (H + 1) (List.replicate 32 (0 : UInt8)) ⟨#[]⟩ (.slice none 0 0) (.slice none 0 0) (.slice none 0 0) (.slice none 0 0) ∧ LB wr da k.l k.nm t2 p2 o2 m2 ∧ H + 2 ≤ da
def SN (H da : Nat) : Nat → Prop := fun b => H + 2 ≤ b ∧ b ≠ da
theorem ck_step {H da : Nat} {w wr u : World} {k : Lk} {tr pe on mo t2 p2 o2 m2 t3 p3 o3 v : Value} {i : Nat} (h : CK H da w wr k tr pe on mo t2 p2 o2 m2) (hS : w.heap.size = H) (hb : Below wr.heap.size wr u) (hi : (lkC k.l k.nm t2 p2 o2 m2).setIfInBounds i v = lkC k.l k.nm t3 p3 o3 m2) :
    CK H da w (u.setCell ⟨da, i, none⟩ v) k tr pe on mo t3 p3 o3 m2 := by
  obtain ⟨h1, h2, h3, h4, h5⟩ := h
  have hs := h1.size
  refine ⟨(h1.trans (hb.mono (by omega))).setCell (by show H ≤ da; omega) _, ?_, ?_, ?_, h5⟩
  · exact (h2.keep (hb.block _ h2.lt)).keep (Below.heap_setCell _ _ _ _ (by show H ≠ da; omega))
  · exact (h3.keep (hb.block _ h3.lt)).keep (Below.heap_setCell _ _ _ _ (by show H + 1 ≠ da; omega))
  · have := setAt (h4.keep (hb.block _ h4.lt)) i v
    rw [hi] at this
    exact this
theorem sn_step {H da : Nat} {wr u : World} {i : Nat} {v : Value} (hb : Below wr.heap.size wr u) : wr.heap.size ≤ (u.setCell ⟨da, i, none⟩ v).heap.size ∧ ∀ b, SN H da b → b < wr.heap.size → (u.setCell ⟨da, i, none⟩ v).heap[b]? = wr.heap[b]? := by
  refine ⟨by have := hb.size; simp [World.setCell]; exact this, fun b h hl => ?_⟩
  exact (Below.heap_setCell _ _ _ _ (by show b ≠ da; exact h.2)).trans (hb.block b hl)
theorem sn_new {H da : Nat} {w wr u : World} {k : Lk} {tr pe on mo t2 p2 o2 m2 v : Value} {i : Nat} (h : CK H da w wr k tr pe on mo t2 p2 o2 m2) : (∀ b, wr.heap.size ≤ b → b < u.heap.size → SN H da b) ∧ u.heap.size ≤ (u.setCell ⟨da, i, none⟩ v).heap.size ∧ ∀ b, wr.heap.size ≤ b → b < u.heap.size → (u.setCell ⟨da, i, none⟩ v).heap[b]? = u.heap[b]? := by
  have hd := h.2.2.2.1.lt
  have h5 := h.2.2.2.2
  refine ⟨fun b hb _ => ⟨by omega, by omega⟩, by simp [World.setCell], fun b hb _ => Below.heap_setCell _ _ _ _ (by show b ≠ da; omega)⟩
theorem sn_newS {H da : Nat} {w wr u : World} {k : Lk} {tr pe on mo t2 p2 o2 m2 : Value} (h : CK H da w wr k tr pe on mo t2 p2 o2 m2) : ∀ b, wr.heap.size ≤ b → b < u.heap.size → SN H da b := by
  have hd := h.2.2.2.1.lt
  have h5 := h.2.2.2.2
  exact fun b hb _ => ⟨by omega, by omega⟩
theorem tk_facts {H da : Nat} {w w0 wa : World} {k : Lk} {tr pe on mo m2 : Value} (hB : Below H w w0) (hS : w.heap.size = H) (ho : LB w0 H k.l k.nm tr pe on mo) (hz : LB w0 (H + 1) (List.replicate 32 (0 : UInt8)) ⟨#[]⟩ (.slice none 0 0) (.slice none 0 0) (.slice none 0 0) (.slice none 0 0))
    (hb : Below w0.heap.size w0 wa) (hd : LB wa da (List.replicate 32 (0 : UInt8)) ⟨#[]⟩ (.slice none 0 0) (.slice none 0 0) (.slice none 0 0) (.slice none 0 0)) (hda : w0.heap.size ≤ da) (hr : RD (fun b => w0.heap.size ≤ b ∧ b ≠ da) wa k.dn k.ky k.dv m2) :
    CK H da w (wa.setRow da (lkC k.l k.nm (.slice none 0 0) (.slice none 0 0) (.slice none 0 0) m2)) k tr pe on mo (.slice none 0 0) (.slice none 0 0) (.slice none 0 0) m2 ∧ RD (SN H da) (wa.setRow da (lkC k.l k.nm (.slice none 0 0) (.slice none 0 0) (.slice none 0 0) m2)) k.dn k.ky k.dv m2 := by
  have h1 := hz.lt
  have hs := hb.size
  have h0 := hB.size
  refine ⟨⟨?_, ?_, ?_, ?_, by omega⟩, ?_⟩
  · refine ⟨hb.os.trans hB.os, hb.tape.trans hB.tape, hb.output.trans hB.output, by rw [size_setRow]; omega, fun q hq => ?_⟩
    rw [setRow_other _ _ _ _ (by omega), hb.block q (by omega), hB.block q hq]
  · exact (ho.keep (hb.block _ (by omega))).keep (setRow_other _ _ _ _ (by omega))
  · exact (hz.keep (hb.block _ (by omega))).keep (setRow_other _ _ _ _ (by omega))
  · exact setRow_heap wa da _ _ _ _ hd
  · exact RD.move (fun b h _ => ⟨by omega, h.2⟩) (by rw [size_setRow]; exact Nat.le_refl _) (fun b h hl => setRow_other _ _ _ _ h.2) hr
theorem belowHeap {w w' : World} (h : Below w.heap.size w w') (b : Nat) (hb : b < w.heap.size) : w'.heap[b]? = w.heap[b]? := h.block b hb
end Go.Proofs.YtmfbhihjiebagaaDoor
