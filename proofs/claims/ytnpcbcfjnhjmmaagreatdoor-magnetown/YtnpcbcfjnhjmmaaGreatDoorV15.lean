import Derived.Test.YtnpcbcfjnhjmmaaGreatDoorV14
import Derived.Shelf.Strconv.AtoiAll
namespace Go.Proofs.YtnpcbcfjnhjmmaaGreatDoor
open Go.Shelf Go.RowKit Go.Deep
/-- a reading's cells: the link, the kind ahead -/
def rdC (l : List UInt8) (nm : ByteArray) (tr pe on mo : Value) (ah : Nat) : Array Value := (Lib.byteCells l ++ [.string nm, tr, pe, on, mo, .int .i64 (ah : Int)]).toArray
def LR (w : World) (b : Nat) (l : List UInt8) (nm : ByteArray) (tr pe on mo : Value) (ah : Nat) : Prop := w.heap[b]? = some (.cells (rdC l nm tr pe on mo ah) 62 (0, 0))
theorem rdC_get {l : List UInt8} {nm : ByteArray} {tr pe on mo : Value} {ah : Nat} (hl : l.length = 32) (j : Nat) : (rdC l nm tr pe on mo ah)[32 + j]? = ([.string nm, tr, pe, on, mo, .int .i64 (ah : Int)] : List Value)[j]? := by
  have h : (Lib.byteCells l).length = 32 := by simp [Lib.byteCells, hl]
  unfold rdC
  simp only [List.getElem?_toArray]
  rw [List.getElem?_append_right (by omega), h]
  congr 1; omega
theorem LR.cell {w : World} {b : Nat} {l : List UInt8} {nm : ByteArray} {tr pe on mo : Value} {ah : Nat} (h0 : LR w b l nm tr pe on mo ah) (hl : l.length = 32) (j : Nat) : w.cell? ⟨b, 32 + j, none⟩ = ([.string nm, tr, pe, on, mo, .int .i64 (ah : Int)] : List Value)[j]? := by
  have h : w.heap[b]? = some (.cells (rdC l nm tr pe on mo ah) 62 (0, 0)) := h0
  simp only [World.cell?, h]
  exact rdC_get hl j
theorem LR.frozen {w : World} {b : Nat} {l : List UInt8} {nm : ByteArray} {tr pe on mo : Value} {ah : Nat} (h0 : LR w b l nm tr pe on mo ah) (i : Nat) : w.frozen? ⟨b, i, none⟩ = false := by
  have h : w.heap[b]? = some (.cells (rdC l nm tr pe on mo ah) 62 (0, 0)) := h0
  simp [World.frozen?, h]
theorem LR.lt {w : World} {b : Nat} {l : List UInt8} {nm : ByteArray} {tr pe on mo : Value} {ah : Nat} (h : LR w b l nm tr pe on mo ah) : b < w.heap.size := (Array.getElem?_eq_some_iff.1 h).1
theorem LR.keep {w w' : World} {b : Nat} {l : List UInt8} {nm : ByteArray} {tr pe on mo : Value} {ah : Nat} (h : LR w b l nm tr pe on mo ah) (hb : w'.heap[b]? = w.heap[b]?) : LR w' b l nm tr pe on mo ah := hb.trans h
theorem rdC_set {l : List UInt8} (hl : l.length = 32) (nm n2 : ByteArray) (tr pe on mo v : Value) (ah a2 : Nat) :
    (rdC l nm tr pe on mo ah).setIfInBounds 32 (.string n2) = rdC l n2 tr pe on mo ah ∧ (rdC l nm tr pe on mo ah).setIfInBounds 33 v = rdC l nm v pe on mo ah ∧ (rdC l nm tr pe on mo ah).setIfInBounds 34 v = rdC l nm tr v on mo ah ∧ (rdC l nm tr pe on mo ah).setIfInBounds 35 v = rdC l nm tr pe v mo ah ∧ (rdC l nm tr pe on mo ah).setIfInBounds 36 v = rdC l nm tr pe on v ah ∧ (rdC l nm tr pe on mo ah).setIfInBounds 37 (.int .i64 (a2 : Int)) = rdC l nm tr pe on mo a2 := by
  obtain ⟨x0, x1, x2, x3, x4, x5, x6, x7, x8, x9, x10, x11, x12, x13, x14, x15, x16, x17, x18, x19, x20, x21, x22, x23, x24, x25, x26, x27, x28, x29, x30, x31, rfl⟩ := len32 hl
  exact ⟨rfl, rfl, rfl, rfl, rfl, rfl⟩
/-- a reading in its block, its lists, what else is kept -/
def RDg (K : Nat → Prop) (B b : Nat) (w wr : World) (p : Ps) (t2 p2 o2 m2 : Value) (ah : Nat) : Prop := Below B w wr ∧ LR wr b p.h p.nm t2 p2 o2 m2 ah ∧ LO B wr p t2 p2 o2 m2 ∧ NoB b t2 p2 o2 m2 ∧ B ≤ b ∧ p.h.length = 32 ∧ ∀ g, K g → g ≠ b ∧ g < w.heap.size ∧ wr.heap[g]? = w.heap[g]? ∧ NoB g t2 p2 o2 m2
theorem RDg.below {K : Nat → Prop} {B b : Nat} {w wr w' : World} {p : Ps} {t2 p2 o2 m2 : Value} {ah : Nat} (h : RDg K B b w wr p t2 p2 o2 m2 ah) (hb : Below wr.heap.size wr w') : RDg K B b w w' p t2 p2 o2 m2 ah := by
  obtain ⟨h1, h2, h3, h4, h5, h6, h7⟩ := h
  have l1 := h2.lt
  have ls := h1.size
  exact ⟨h1.trans (hb.mono (by omega)), h2.keep (hb.block _ l1), h3.below hb, h4, h5, h6, fun g hg => ⟨(h7 g hg).1, (h7 g hg).2.1, (hb.block g (by have := (h7 g hg).2.1; omega)).trans (h7 g hg).2.2.1, (h7 g hg).2.2.2⟩⟩
theorem RDg.put {K : Nat → Prop} {B b i : Nat} {w wr w3 : World} {p p' : Ps} {t2 p2 o2 m2 t3 p3 o3 m3 v : Value} {ah a2 : Nat} {o : Obj} {row : Option Nat} (h : RDg K B b w wr p t2 p2 o2 m2 ah) (hr : ∀ g, NoB g t2 p2 o2 m2 → row ≠ some g) (hrB : ∀ q, row = some q → B ≤ q)
    (hg : (wr.alloc o).grownBy w3 row) (hlo : LO B w3 p' t3 p3 o3 m3) (hN : ∀ g, NoB g t2 p2 o2 m2 → g < (wr.alloc o).heap.size → NoB g t3 p3 o3 m3) (hp' : p'.h.length = 32) (hc : (rdC p.h p.nm t2 p2 o2 m2 ah).setIfInBounds i v = rdC p'.h p'.nm t3 p3 o3 m3 a2) : RDg K B b w (w3.setCell ⟨b, i, none⟩ v) p' t3 p3 o3 m3 a2 := by
  obtain ⟨h1, h2, h3, h4, h5, h6, h7⟩ := h
  have l1 := h2.lt
  have ls := h1.size
  have bg : ∀ g, NoB g t2 p2 o2 m2 → g < wr.heap.size → w3.heap[g]? = wr.heap[g]? := fun g hn hl => (grown_block hg (by simp; omega) (hr g hn)).trans (Below.heap_alloc _ _ _ hl)
  have NH := hN b h4 (by simp; omega)
  refine ⟨((h1.alloc (by omega) o).grown hg (by simp; omega) hrB).setCell (by show B ≤ b; exact h5) _, ?_, hlo.keep fun g hn => Below.heap_setCell _ _ _ _ (fun e => hn (e ▸ NH)), NH, h5, hp', fun g hg => ?_⟩
  · have h9 := setAt (h2.keep (bg b h4 l1)) i v
    rw [hc] at h9
    exact h9
  · obtain ⟨k1, k2, k3, k4⟩ := h7 g hg
    exact ⟨k1, k2, (Below.heap_setCell _ _ _ _ (by show g ≠ b; exact k1)).trans ((bg g k4 (by omega)).trans k3), hN g k4 (by simp; omega)⟩
theorem RDg.putNm {K : Nat → Prop} {B b : Nat} {w wr : World} {p : Ps} {t2 p2 o2 m2 : Value} {ah : Nat} (h : RDg K B b w wr p t2 p2 o2 m2 ah) (y : ByteArray) : RDg K B b w (wr.setCell ⟨b, 32, none⟩ (.string y)) { p with nm := y } t2 p2 o2 m2 ah := by
  obtain ⟨h1, h2, h3, h4, h5, h6, h7⟩ := h
  refine ⟨h1.setCell (by show B ≤ b; exact h5) _, ?_, ?_, h4, h5, h6, fun g hg => ⟨(h7 g hg).1, (h7 g hg).2.1, (Below.heap_setCell _ _ _ _ (by show g ≠ b; exact (h7 g hg).1)).trans (h7 g hg).2.2.1, (h7 g hg).2.2.2⟩⟩
  · have h9 := setAt h2 32 (.string y)
    rw [(rdC_set h6 _ _ _ _ _ _ (.slice none 0 0) _ 0).1] at h9
    exact h9
  · have h9 := h3.keep (w' := wr.setCell ⟨b, 32, none⟩ (.string y)) fun g hn => Below.heap_setCell _ _ _ _ (fun e => hn (e ▸ h4))
    exact ⟨h9.o1, h9.o2, h9.o3, h9.o4, h9.d1, h9.d2, h9.d3, h9.d4, h9.d5, h9.d6⟩
theorem RDg.putAh {K : Nat → Prop} {B b : Nat} {w wr : World} {p : Ps} {t2 p2 o2 m2 : Value} {ah : Nat} (h : RDg K B b w wr p t2 p2 o2 m2 ah) (a2 : Nat) : RDg K B b w (wr.setCell ⟨b, 37, none⟩ (.int .i64 (a2 : Int))) p t2 p2 o2 m2 a2 := by
  obtain ⟨h1, h2, h3, h4, h5, h6, h7⟩ := h
  refine ⟨h1.setCell (by show B ≤ b; exact h5) _, ?_, h3.keep fun g hn => Below.heap_setCell _ _ _ _ (fun e => hn (e ▸ h4)), h4, h5, h6, fun g hg => ⟨(h7 g hg).1, (h7 g hg).2.1, (Below.heap_setCell _ _ _ _ (by show g ≠ b; exact (h7 g hg).1)).trans (h7 g hg).2.2.1, (h7 g hg).2.2.2⟩⟩
  have h9 := setAt h2 37 (.int .i64 (a2 : Int))
  rw [(rdC_set h6 _ ⟨#[]⟩ _ _ _ _ (.slice none 0 0) _ a2).2.2.2.2.2] at h9
  exact h9
/-- what lay leaves -/
def LE (K : Nat → Prop) (B b : Nat) (w : World) (q : Ps × Int) (ah : Nat) (e : Ending) (w' : World) : Prop := e = .returned (.int .i64 q.2) ∧ ∃ t2 p2 o2 m2, RDg K B b w w' q.1 t2 p2 o2 m2 ah
theorem le_of {K : Nat → Prop} {B b : Nat} {w w' : World} {q : Ps × Int} {p' : Ps} {er : Int} {ah : Nat} {t2 p2 o2 m2 : Value} (hq : q = (p', er)) (h : RDg K B b w w' p' t2 p2 o2 m2 ah) : LE K B b w q ah (.returned (.int .i64 er)) w' := by
  subst hq; exact ⟨rfl, t2, p2, o2, m2, h⟩
set_option maxHeartbeats 1000000 in
/-- the name, a tracker, a peer -/
theorem laySome (K : Nat → Prop) (B b : Nat) (p : Ps) (tr pe on mo : Value) (ah k : Nat) (key value : ByteArray) (w0 w : World) (h : RDg K B b w0 w p tr pe on mo ah) (hn : p.ts.length < 16777215 ∧ p.ps.length < 16777215) (hk : k = 2 ∨ k = 4 ∨ k = 5) :
    Calls Tryz.prog 41 #[.pointer (some ⟨b, 0, none⟩), .int .i64 (k : Int), .string key, .string value] w fun e w' => LE K B b w0 (jnV p (k - 1) key value) ah e w' := by
  obtain ⟨ta, tc, rfl⟩ := ownForm h.2.2.1.o1
  obtain ⟨pa, pc, rfl⟩ := ownForm h.2.2.1.o2
  obtain ⟨oa, oc, rfl⟩ := ownForm h.2.2.1.o3
  obtain ⟨ma, mc, rfl⟩ := ownForm h.2.2.1.o4
  have J0 : Hid (RDg K B b w0 w p (.slice ta p.ts.length tc) (.slice pa p.ps.length pc) (.slice oa p.rs.length oc) (.slice ma p.mo.length mc) ah) := h
  clear h
  obtain ⟨n1, n2⟩ := hn
  cases hem : (value.toList == []) with
  | true =>
    have HE : Hid (jnV p (k - 1) key value = (p, 226)) := by unfold jnV; exact if_pos ⟨by omega, hem⟩
    rcases hk with rfl | rfl | rfl
    · go_enter Tryz.func41, Tryz.ntmps41
      go_wp2
      go_ret
      exact le_of HE.out J0.out
    · go_enter Tryz.func41, Tryz.ntmps41
      go_wp2
      go_ret
      exact le_of HE.out J0.out
    · go_enter Tryz.func41, Tryz.ntmps41
      go_wp2
      go_ret
      exact le_of HE.out J0.out
  | false =>
    have HF : Hid (jnV p (k - 1) key value = if k - 1 = 1 then ({ p with nm := value }, (0 : Int)) else if k - 1 = 2 then (match runsR (value.data.toList.length + 1) value.data.toList [] with | none => (p, 226) | some rs => if apB rs = true then ({ p with rs := rs }, 0) else (p, 227)) else if k - 1 = 3 then ({ p with ts := p.ts ++ [value] }, 0) else if k - 1 = 4 then ({ p with ps := p.ps ++ [value] }, 0) else ({ p with mo := p.mo ++ [(key, value)] }, 0)) := by unfold jnV; exact if_neg (fun h => by rw [hem] at h; cases h.2)
    rcases hk with rfl | rfl | rfl
    · have HE : Hid (jnV p (2 - 1) key value = ({ p with nm := value }, 0)) := HF.out
      have s32 := J0.out.2.1.cell J0.out.2.2.2.2.2.1 0
      have f32 := J0.out.2.1.frozen 32
      simp only [Nat.add_zero, List.getElem?_cons_zero] at s32
      have J1 := Lib.hid (J0.out.putNm value)
      clear J0
      go_enter Tryz.func41, Tryz.ntmps41
      go_wp2
      go_ret
      exact le_of HE.out J1.out
    · have HE : Hid (jnV p (4 - 1) key value = ({ p with ts := p.ts ++ [value] }, 0)) := HF.out
      have s33 := J0.out.2.1.cell J0.out.2.2.2.2.2.1 1
      have f33 := J0.out.2.1.frozen 33
      simp only [Nat.reduceAdd, List.getElem?_cons_succ, List.getElem?_cons_zero] at s33
      have HNB : Hid (NoB b (.slice ta p.ts.length tc) (.slice pa p.ps.length pc) (.slice oa p.rs.length oc) (.slice ma p.mo.length mc) ∧ b < w.heap.size ∧ B ≤ b) := ⟨J0.out.2.2.2.1, J0.out.2.1.lt, J0.out.2.2.2.2.1⟩
      have HLA : Hid (LO B (w.alloc (Obj.cells #[.string value] 9)) p (.slice ta p.ts.length tc) (.slice pa p.ps.length pc) (.slice oa p.rs.length oc) (.slice ma p.mo.length mc)) := J0.out.2.2.1.below ((Below.refl _ _).alloc (Nat.le_refl _) _)
      go_enter Tryz.func41, Tryz.ntmps41
      go_upto_region 19 with (at_builtin; refine append_strO (sv := (.slice ta p.ts.length tc)) rfl (.tmp 55) (.tmp 57) rfl rfl HLA.out.o1 w.heap.size value rfl (by go_simp) (by have := HNB.out.2; simp; omega) (by omega) ?_; intro g cap w3 h1 h2 h3; have s33' : w3.cell? ⟨b, 33, none⟩ = some (.slice ta p.ts.length tc) := (World.cell?_of_block (w := (w.alloc (Obj.cells #[.string value] 9))) (a := ⟨b, 33, none⟩) (grown_block h2 (by have := HNB.out.2; simp; omega) HNB.out.1.1)).trans (cell_alloc_old s33); have f33' : w3.frozen? ⟨b, 33, none⟩ = false := (World.frozen?_of_block (w := (w.alloc (Obj.cells #[.string value] 9))) (grown_block h2 (by have := HNB.out.2; simp; omega) HNB.out.1.1)).trans ((frozen_alloc_old s33).trans f33))
      have J1 : Hid (RDg K B b w0 (w3.setCell ⟨b, 33, none⟩ (.slice (some ⟨g, 0, none⟩) (p.ts.length + 1) cap)) { p with ts := p.ts ++ [value] } (.slice (some ⟨g, 0, none⟩) (p.ts.length + 1) cap) (.slice pa p.ps.length pc) (.slice oa p.rs.length oc) (.slice ma p.mo.length mc) ah) := J0.out.put (fun g h => h.1) (fun q e => (World.ownsRow.lt J0.out.2.2.1.o1 q e).1) h2 (HLA.out.putTs h1 h2 h3) (fun g hn hl => ⟨nob_new h3 hn.1 hl, hn.2.1, hn.2.2.1, hn.2.2.2⟩) J0.out.2.2.2.2.2.1 ((rdC_set J0.out.2.2.2.2.2.1 _ ⟨#[]⟩ _ _ _ _ _ _ 0).2.1)
      clear s33 f33 s33' f33' h1 h2 h3 HLA HNB J0
      go_wp2
      go_ret
      exact le_of HE.out J1.out
    · have HE : Hid (jnV p (5 - 1) key value = ({ p with ps := p.ps ++ [value] }, 0)) := HF.out
      have s34 := J0.out.2.1.cell J0.out.2.2.2.2.2.1 2
      have f34 := J0.out.2.1.frozen 34
      simp only [Nat.reduceAdd, List.getElem?_cons_succ, List.getElem?_cons_zero] at s34
      have HNB : Hid (NoB b (.slice ta p.ts.length tc) (.slice pa p.ps.length pc) (.slice oa p.rs.length oc) (.slice ma p.mo.length mc) ∧ b < w.heap.size ∧ B ≤ b) := ⟨J0.out.2.2.2.1, J0.out.2.1.lt, J0.out.2.2.2.2.1⟩
      have HLA : Hid (LO B (w.alloc (Obj.cells #[.string value] 9)) p (.slice ta p.ts.length tc) (.slice pa p.ps.length pc) (.slice oa p.rs.length oc) (.slice ma p.mo.length mc)) := J0.out.2.2.1.below ((Below.refl _ _).alloc (Nat.le_refl _) _)
      go_enter Tryz.func41, Tryz.ntmps41
      go_upto_region 19 with (at_builtin; refine append_strO (sv := (.slice pa p.ps.length pc)) rfl (.tmp 67) (.tmp 69) rfl rfl HLA.out.o2 w.heap.size value rfl (by go_simp) (by have := HNB.out.2; simp; omega) (by omega) ?_; intro g cap w3 h1 h2 h3; have s34' : w3.cell? ⟨b, 34, none⟩ = some (.slice pa p.ps.length pc) := (World.cell?_of_block (w := (w.alloc (Obj.cells #[.string value] 9))) (a := ⟨b, 34, none⟩) (grown_block h2 (by have := HNB.out.2; simp; omega) HNB.out.1.2.1)).trans (cell_alloc_old s34); have f34' : w3.frozen? ⟨b, 34, none⟩ = false := (World.frozen?_of_block (w := (w.alloc (Obj.cells #[.string value] 9))) (grown_block h2 (by have := HNB.out.2; simp; omega) HNB.out.1.2.1)).trans ((frozen_alloc_old s34).trans f34))
      have J1 : Hid (RDg K B b w0 (w3.setCell ⟨b, 34, none⟩ (.slice (some ⟨g, 0, none⟩) (p.ps.length + 1) cap)) { p with ps := p.ps ++ [value] } (.slice ta p.ts.length tc) (.slice (some ⟨g, 0, none⟩) (p.ps.length + 1) cap) (.slice oa p.rs.length oc) (.slice ma p.mo.length mc) ah) := J0.out.put (fun g h => h.2.1) (fun q e => (World.ownsRow.lt J0.out.2.2.1.o2 q e).1) h2 (HLA.out.putPs h1 h2 h3) (fun g hn hl => ⟨hn.1, nob_new h3 hn.2.1 hl, hn.2.2.1, hn.2.2.2⟩) J0.out.2.2.2.2.2.1 ((rdC_set J0.out.2.2.2.2.2.1 _ ⟨#[]⟩ _ _ _ _ _ _ 0).2.2.1)
      clear s34 f34 s34' f34' h1 h2 h3 HLA HNB J0
      go_wp2
      go_ret
      exact le_of HE.out J1.out
end Go.Proofs.YtnpcbcfjnhjmmaaGreatDoor
namespace Go.Proofs.YtnpcbcfjnhjmmaaGreatDoor
open Go.Shelf Go.RowKit Go.Deep
shelf_lay LaysC.n172 Nm 172 at Tryz as laysAtoi
/-- the variables that a number's reading needs: the table of powers, the two errors -/
def TG (w : World) : Prop := (∀ w', Below w.heap.size w w' → Lib.TabIs Tryz.prog w' "internal/strconv.uint64pow10" .u64 Lib.pow10Tab) ∧ (∃ ev, w.cell? ⟨laysAtoi_ren.g 15, 0, none⟩ = some ev ∧ (ev = .nilIface ∨ ∃ te pe, ev = .iface te pe)) ∧ (∃ ev, w.cell? ⟨laysAtoi_ren.g 16, 0, none⟩ = some ev ∧ (ev = .nilIface ∨ ∃ te pe, ev = .iface te pe))
theorem TG.below {w w' : World} (h : TG w) (hb : Below w.heap.size w w') : TG w' := by
  obtain ⟨h1, ⟨e1, c1, k1⟩, ⟨e2, c2, k2⟩⟩ := h
  exact ⟨fun w'' hb2 => h1 w'' (hb.trans (hb2.mono hb.size)), ⟨e1, (hb.cell (p := ⟨laysAtoi_ren.g 15, 0, none⟩) (Lib.lt_of_cell c1)).trans c1, k1⟩, ⟨e2, (hb.cell (p := ⟨laysAtoi_ren.g 16, 0, none⟩) (Lib.lt_of_cell c2)).trans c2, k2⟩⟩
/-- a place, as it is written -/
def plO (s : ByteArray) : Option Nat := match Lib.atoiAll s.data.toList with
  | .ok v => if 0 ≤ v ∧ v < 4096 ∧ ((⟨(Lib.itoa v).toArray⟩ : ByteArray).toList == s.toList) = true then some v.toNat else none
  | _ => none
/-- Atoi, told once: the number and no error, or an error -/
theorem atoi64 (s : ByteArray) (w : World) (hs : s.size ≤ 4096) (hT : TG w) :
    Calls Tryz.prog 116 #[.string s] w fun e w' => ((∃ v, Lib.atoiAll s.data.toList = .ok v ∧ e = .returned (.tuple #[.int .i64 v, .nilIface])) ∨ ((∀ v, Lib.atoiAll s.data.toList ≠ .ok v) ∧ ∃ n t N, e = .returned (.tuple #[.int .i64 n, .iface t (.pointer (some ⟨N, 0, none⟩))]))) ∧ Below w.heap.size w w' := by
  obtain ⟨_, ⟨e1, c1, k1⟩, ⟨e2, c2, k2⟩⟩ := hT
  cases hA : Lib.atoiAll s.data.toList with
  | ok v => exact (Any.strconv_Atoi_ok laysAtoi s (by omega) v hA w).mono fun e w' ⟨h1, h2⟩ => ⟨.inl ⟨v, rfl, h1⟩, by
      rcases h2 with h2 | ⟨t, h2⟩
      · rw [h2]; exact Below.refl _ _
      · rw [h2]; exact Lib.bytesWorld_below _ _ _⟩
  | «syntax» => exact (Any.strconv_Atoi_syntax laysAtoi s (by omega) hA e1 w c1 k1).mono fun e w' ⟨N, h1, _, _, h4⟩ => ⟨.inr ⟨fun v h => (by cases h), _, _, N, h1⟩, h4⟩
  | range => exact (Any.strconv_Atoi_range laysAtoi s (by omega) hA e2 w c2 k2).mono fun e w' ⟨N, h1, _, _, h4⟩ => ⟨.inr ⟨fun v h => (by cases h), _, _, N, h1⟩, h4⟩
theorem ret_ib {a b : Int} {m n : Bool} (h1 : a = b) (h2 : m = n) : Ending.returned (.tuple #[.int .i64 a, .bool m]) = .returned (.tuple #[.int .i64 b, .bool n]) := by rw [h1, h2]
set_option maxHeartbeats 1000000 in
theorem readPlace63 (s : ByteArray) (w : World) (hs : s.size ≤ 4096) (hT : TG w) :
    Calls Tryz.prog 102 #[.string s] w fun e w' => (∃ n : Int, e = .returned (.tuple #[.int .i64 n, .bool (plO s).isSome]) ∧ ∀ m, plO s = some m → n = (m : Int)) ∧ Below w.heap.size w w' := by
  have HC := Lib.hid (atoi64 s w hs hT)
  have HT : Hid (TG w) := hT
  clear hT
  have HP : Hid (∀ v, Lib.atoiAll s.data.toList = .ok v → plO s = if 0 ≤ v ∧ v < 4096 ∧ ((⟨(Lib.itoa v).toArray⟩ : ByteArray).toList == s.toList) = true then some v.toNat else none) := fun v h => by rw [plO, h]
  have HN : Hid ((∀ v, Lib.atoiAll s.data.toList ≠ .ok v) → plO s = none) := fun h => by
    unfold plO
    split
    · rename_i v hv; exact absurd hv (h v)
    · rfl
  generalize plO s = q at *
  go_enter Tryz.func102, Tryz.ntmps102
  go_wp2_with fail
  refine HC.out.mono ?_
  rintro e w1 ⟨he, b1⟩
  clear HC
  rcases he with ⟨v, hv, rfl⟩ | ⟨hno, n, t, N, rfl⟩
  · have HQ := Lib.hid (HP.out v hv)
    clear HP HN hv
    by_cases h0 : 0 ≤ v
    · by_cases h1 : v < 4096
      · obtain ⟨m, rfl⟩ : ∃ m : Nat, v = (m : Int) := ⟨v.toNat, by omega⟩
        have HI := Lib.hid (itoa65 m (by omega) w1 (HT.out.1 w1 b1))
        generalize (⟨(Lib.itoa (m : Int)).toArray⟩ : ByteArray) = tx at *
        go_wp2_with fail
        refine HI.out.mono ?_
        rintro e w2 ⟨rfl, b2⟩
        cases hb : (tx.toList == s.toList) with
        | true =>
          have HE : Hid (q = some m) := by have h9 := HQ.out; rw [if_pos ⟨h0, h1, hb⟩, Int.toNat_natCast] at h9; exact h9
          go_wp2
          go_ret2
          exact ⟨⟨_, ret_ib rfl (by rw [HE.out]; rfl), fun m' h => by rw [HE.out] at h; cases h; rfl⟩, b1.trans (b2.mono b1.size)⟩
        | false =>
          have HE : Hid (q = none) := by have h9 := HQ.out; rw [if_neg (fun h => by rw [hb] at h; cases h.2.2)] at h9; exact h9
          go_wp2
          go_ret2
          exact ⟨⟨_, ret_ib rfl (by rw [HE.out]; rfl), fun m' h => by rw [HE.out] at h; cases h⟩, b1.trans (b2.mono b1.size)⟩
      · have HE : Hid (q = none) := by have h9 := HQ.out; rw [if_neg (fun h => h1 h.2.1)] at h9; exact h9
        go_wp2
        go_ret2
        exact ⟨⟨_, ret_ib rfl (by rw [HE.out]; rfl), fun m' h => by rw [HE.out] at h; cases h⟩, b1⟩
    · have HE : Hid (q = none) := by have h9 := HQ.out; rw [if_neg (fun h => h0 h.1)] at h9; exact h9
      go_wp2
      go_ret2
      exact ⟨⟨_, ret_ib rfl (by rw [HE.out]; rfl), fun m' h => by rw [HE.out] at h; cases h⟩, b1⟩
  · have HE := Lib.hid (HN.out hno)
    clear HP HN hno
    go_wp2
    go_ret2
    exact ⟨⟨_, ret_ib rfl (by rw [HE.out]; rfl), fun m' h => by rw [HE.out] at h; cases h⟩, b1⟩
end Go.Proofs.YtnpcbcfjnhjmmaaGreatDoor
