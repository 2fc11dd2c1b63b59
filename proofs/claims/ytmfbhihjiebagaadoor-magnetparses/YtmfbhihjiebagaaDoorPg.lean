import Derived.Test.YtmfbhihjiebagaaDoorPf
namespace Go.Proofs.YtmfbhihjiebagaaDoor
open Go.Shelf Go.RowKit Go.Deep
theorem runsR_ok : ∀ (f : Nat) (l : List UInt8) (acc rs : List (Int × Int)), runsR f l acc = some rs → (∀ x ∈ acc, RnOk x) → ∀ x ∈ rs, RnOk x
  | 0, l, acc, rs, h, _ => by cases h
  | f + 1, l, acc, rs, h, ha => by
    cases hn : nrun l with
    | none => rw [runsR_no hn] at h; cases h
    | some q =>
      obtain ⟨a, m, c⟩ := q
      have hok : RnOk ((a : Int), (m : Int)) := by
        unfold nrun at hn
        cases h1 : numR l with
        | none => rw [h1] at hn; cases hn
        | some q1 =>
          obtain ⟨a1, c1⟩ := q1
          rw [h1] at hn
          have k1 := numR_ok h1
          simp only at hn
          split at hn
          · cases h2 : numR (l.drop (c1 + 1)) with
            | none => rw [h2] at hn; cases hn
            | some q2 =>
              obtain ⟨b1, c2⟩ := q2
              rw [h2] at hn
              have k2 := numR_ok h2
              simp only at hn
              split at hn
              · cases hn
              · rename_i hle
                simp only [Option.some.injEq, Prod.mk.injEq] at hn
                obtain ⟨rfl, rfl, _⟩ := hn
                exact ⟨⟨by show (0 : Int) ≤ (a1 : Int); omega, by show (a1 : Int) ≤ 4095; omega⟩, by show (1 : Int) ≤ ((b1 - a1 + 1 : Nat) : Int); omega, by show ((b1 - a1 + 1 : Nat) : Int) ≤ 4096; omega⟩
          · simp only [Option.some.injEq, Prod.mk.injEq] at hn
            obtain ⟨rfl, rfl, _⟩ := hn
            exact ⟨⟨by show (0 : Int) ≤ (a1 : Int); omega, by show (a1 : Int) ≤ 4095; omega⟩, by show (1 : Int) ≤ ((1 : Nat) : Int); omega, by show ((1 : Nat) : Int) ≤ 4096; omega⟩
      have ha' : ∀ x ∈ acc ++ [((a : Int), (m : Int))], RnOk x := fun x hx => by
        rcases List.mem_append.1 hx with h1 | h1
        · exact ha x h1
        · simp at h1; subst h1; exact hok
      by_cases hc : c = l.length
      · rw [runsR_end hn hc] at h
        cases h
        exact ha'
      · by_cases hx : l.getD c 0 = 44
        · rw [runsR_go hn hc hx] at h
          exact runsR_ok f _ _ _ h ha'
        · rw [runsR_bad hn hc hx] at h; cases h
/-- a link with a part more, by the rules of the values -/
def jnV (p : Ps) (k : Nat) (key value : ByteArray) : Ps × Int :=
  if (k = 1 ∨ k = 3 ∨ k = 4) ∧ (value.toList == []) = true then (p, 226)
  else if k = 1 then ({ p with nm := value }, 0)
  else if k = 2 then (match runsR (value.data.toList.length + 1) value.data.toList [] with | none => (p, 226) | some rs => if apB rs = true then ({ p with rs := rs }, 0) else (p, 227))
  else if k = 3 then ({ p with ts := p.ts ++ [value] }, 0)
  else if k = 4 then ({ p with ps := p.ps ++ [value] }, 0)
  else ({ p with mo := p.mo ++ [(key, value)] }, 0)
def jn (p : Ps) (key value : ByteArray) : Ps × Int := jnV p (kdR key) key value
/-- what the call leaves -/
def JE (K : Nat → Prop) (B : Nat) (w : World) (q : Ps × Int) (e : Ending) (w' : World) : Prop := ∃ t2 p2 o2 m2, e = .returned (.tuple #[.agg (lkC q.1.h q.1.nm t2 p2 o2 m2), .int .i64 q.2]) ∧ LO B w' q.1 t2 p2 o2 m2 ∧ Below B w w' ∧ ∀ g, K g → w'.heap[g]? = w.heap[g]? ∧ NoB g t2 p2 o2 m2
theorem je_of {K : Nat → Prop} {B : Nat} {w w' : World} {q : Ps × Int} {p' : Ps} {er : Int} {t2 p2 o2 m2 : Value} (hq : q = (p', er)) (h : Below B w w' ∧ LO B w' p' t2 p2 o2 m2 ∧ ∀ g, K g → w'.heap[g]? = w.heap[g]? ∧ NoB g t2 p2 o2 m2) : JE K B w q (.returned (.tuple #[.agg (lkC p'.h p'.nm t2 p2 o2 m2), .int .i64 er])) w' := by
  subst hq; exact ⟨t2, p2, o2, m2, rfl, h.2.1, h.1, h.2.2⟩
/-- the block of the answer, the lists -/
def JD (K : Nat → Prop) (B D : Nat) (w wr : World) (p : Ps) (t2 p2 o2 m2 : Value) : Prop := Below B w wr ∧ LB wr D (List.replicate 32 (0 : UInt8)) ⟨#[]⟩ (.slice none 0 0) (.slice none 0 0) (.slice none 0 0) (.slice none 0 0) ∧ LO B wr p t2 p2 o2 m2 ∧ NoB D t2 p2 o2 m2 ∧ B ≤ D ∧ ∀ g, K g → g < D ∧ wr.heap[g]? = w.heap[g]? ∧ NoB g t2 p2 o2 m2
theorem JD.store {K : Nat → Prop} {B D : Nat} {w wr : World} {p : Ps} {t2 p2 o2 m2 : Value} (h : JD K B D w wr p t2 p2 o2 m2) (cs : Array Value) : Below B w (wr.setRow D cs) ∧ LO B (wr.setRow D cs) p t2 p2 o2 m2 ∧ ∀ g, K g → (wr.setRow D cs).heap[g]? = w.heap[g]? ∧ NoB g t2 p2 o2 m2 := by
  obtain ⟨h1, h3, h4, h6, h7, h8⟩ := h
  exact ⟨below_setRow h1 (by omega) _, h4.keep fun g hn => setRow_other _ _ _ _ (fun e => hn (e ▸ h6)), fun g hg => ⟨(setRow_other _ _ _ _ (by have := (h8 g hg).1; omega)).trans (h8 g hg).2.1, (h8 g hg).2.2⟩⟩
/-- the link's block in the call, the block of the answer, the lists -/
def JB (K : Nat → Prop) (B H : Nat) (w wr : World) (p : Ps) (t2 p2 o2 m2 : Value) : Prop := Below B w wr ∧ LB wr H p.h p.nm t2 p2 o2 m2 ∧ LB wr (H + 1) (List.replicate 32 (0 : UInt8)) ⟨#[]⟩ (.slice none 0 0) (.slice none 0 0) (.slice none 0 0) (.slice none 0 0) ∧ LO B wr p t2 p2 o2 m2 ∧ NoB H t2 p2 o2 m2 ∧ NoB (H + 1) t2 p2 o2 m2 ∧ B ≤ H ∧ ∀ g, K g → g < H ∧ wr.heap[g]? = w.heap[g]? ∧ NoB g t2 p2 o2 m2
theorem JB.toD {K : Nat → Prop} {B H : Nat} {w wr : World} {p : Ps} {t2 p2 o2 m2 : Value} (h : JB K B H w wr p t2 p2 o2 m2) : JD K B (H + 1) w wr p t2 p2 o2 m2 :=
  ⟨h.1, h.2.2.1, h.2.2.2.1, h.2.2.2.2.2.1, Nat.le_succ_of_le h.2.2.2.2.2.2.1, fun g hg => ⟨Nat.lt_succ_of_lt (h.2.2.2.2.2.2.2 g hg).1, (h.2.2.2.2.2.2.2 g hg).2⟩⟩
theorem JB.store {K : Nat → Prop} {B H : Nat} {w wr : World} {p : Ps} {t2 p2 o2 m2 : Value} (h : JB K B H w wr p t2 p2 o2 m2) (cs : Array Value) : Below B w (wr.setRow (H + 1) cs) ∧ LO B (wr.setRow (H + 1) cs) p t2 p2 o2 m2 ∧ ∀ g, K g → (wr.setRow (H + 1) cs).heap[g]? = w.heap[g]? ∧ NoB g t2 p2 o2 m2 := h.toD.store cs
theorem JB.below {K : Nat → Prop} {B H : Nat} {w wr w' : World} {p : Ps} {t2 p2 o2 m2 : Value} (h : JB K B H w wr p t2 p2 o2 m2) (hb : Below wr.heap.size wr w') : JB K B H w w' p t2 p2 o2 m2 := by
  obtain ⟨h1, h2, h3, h4, h5, h6, h7, h8⟩ := h
  exact ⟨h1.trans (hb.mono (by have := h2.lt; omega)), h2.keep (hb.block _ h2.lt), h3.keep (hb.block _ h3.lt), h4.below hb, h5, h6, h7, fun g hg => ⟨(h8 g hg).1, (hb.block g (by have := (h8 g hg).1; have := h2.lt; omega)).trans (h8 g hg).2.1, (h8 g hg).2.2⟩⟩
theorem lkC_set2 {l : List UInt8} (hl : l.length = 32) (nm : ByteArray) (tr pe on mo v : Value) (n2 : ByteArray) :
    (lkC l nm tr pe on mo).setIfInBounds 32 (.string n2) = lkC l n2 tr pe on mo ∧ (lkC l nm tr pe on mo).setIfInBounds 36 v = lkC l nm tr pe on v := by
  obtain ⟨x0, x1, x2, x3, x4, x5, x6, x7, x8, x9, x10, x11, x12, x13, x14, x15, x16, x17, x18, x19, x20, x21, x22, x23, x24, x25, x26, x27, x28, x29, x30, x31, rfl⟩ := len32 hl
  exact ⟨rfl, rfl⟩
theorem JB.put {K : Nat → Prop} {B H i : Nat} {w wr w3 : World} {p p' : Ps} {t2 p2 o2 m2 t3 p3 o3 m3 v : Value} {o : Obj} {row : Option Nat} (h : JB K B H w wr p t2 p2 o2 m2) (hr : ∀ g, NoB g t2 p2 o2 m2 → row ≠ some g) (hrB : ∀ q, row = some q → B ≤ q)
    (hg : (wr.alloc o).grownBy w3 row) (hlo : LO B w3 p' t3 p3 o3 m3) (hN : ∀ g, NoB g t2 p2 o2 m2 → g < (wr.alloc o).heap.size → NoB g t3 p3 o3 m3) (hc : (lkC p.h p.nm t2 p2 o2 m2).setIfInBounds i v = lkC p'.h p'.nm t3 p3 o3 m3) : JB K B H w (w3.setCell ⟨H, i, none⟩ v) p' t3 p3 o3 m3 := by
  obtain ⟨h1, h2, h3, h4, h5, h6, h7, h8⟩ := h
  have l1 := h2.lt
  have l2 := h3.lt
  have bg : ∀ g, NoB g t2 p2 o2 m2 → g < wr.heap.size → w3.heap[g]? = wr.heap[g]? := fun g hn hl => (grown_block hg (by simp; omega) (hr g hn)).trans (Below.heap_alloc _ _ _ hl)
  have NH := hN H h5 (by simp; omega)
  refine ⟨?_, ?_, ?_, hlo.keep fun g hn => Below.heap_setCell _ _ _ _ (fun e => hn (e ▸ NH)), NH, hN _ h6 (by simp; omega), h7, fun g hg => ?_⟩
  · exact ((h1.alloc (by omega) o).grown hg (by simp; omega) hrB).setCell (by show B ≤ H; exact h7) _
  · have h9 := setAt (h2.keep (bg H h5 l1)) i v
    rw [hc] at h9
    exact h9
  · exact (h3.keep (bg _ h6 l2)).keep (Below.heap_setCell _ _ _ _ (by show H + 1 ≠ H; omega))
  · obtain ⟨k1, k2, k3⟩ := h8 g hg
    exact ⟨k1, (Below.heap_setCell _ _ _ _ (by show g ≠ H; omega)).trans ((bg g k3 (by omega)).trans k2), hN g k3 (by simp; omega)⟩
theorem nob_new {g n c hs H : Nat} {sv : Value} (hat : sv.ownBlock = some g ∨ g = hs) (h1 : sv.ownBlock ≠ some H) (h2 : H < hs) : (Value.slice (some ⟨g, 0, none⟩) n c).ownBlock ≠ some H := fun e => by
  have e1 : g = H := by simpa [Value.ownBlock] using e
  subst e1
  rcases hat with h | h
  · exact h1 h
  · omega
theorem JB.putNm {K : Nat → Prop} {B H : Nat} {w wr : World} {p : Ps} {t2 p2 o2 m2 : Value} (h : JB K B H w wr p t2 p2 o2 m2) (hp : p.h.length = 32) (y : ByteArray) : JB K B H w (wr.setCell ⟨H, 32, none⟩ (.string y)) { p with nm := y } t2 p2 o2 m2 := by
  obtain ⟨h1, h2, h3, h4, h5, h6, h7, h8⟩ := h
  refine ⟨h1.setCell (by show B ≤ H; exact h7) _, ?_, h3.keep (Below.heap_setCell _ _ _ _ (by show H + 1 ≠ H; omega)), ?_, h5, h6, h7, fun g hg => ⟨(h8 g hg).1, (Below.heap_setCell _ _ _ _ (by show g ≠ H; have := (h8 g hg).1; omega)).trans (h8 g hg).2.1, (h8 g hg).2.2⟩⟩
  · have h9 := setAt h2 32 (.string y)
    rw [(lkC_set2 hp _ _ _ _ _ (.slice none 0 0) _).1] at h9
    exact h9
  · have h9 := h4.keep (w' := wr.setCell ⟨H, 32, none⟩ (.string y)) fun g hn => Below.heap_setCell _ _ _ _ (fun e => hn (e ▸ h5))
    exact ⟨h9.o1, h9.o2, h9.o3, h9.o4, h9.d1, h9.d2, h9.d3, h9.d4, h9.d5, h9.d6⟩
theorem JB.putRs {K : Nat → Prop} {B H : Nat} {w wr : World} {p : Ps} {t2 p2 o2 m2 v : Value} {rs : List (Int × Int)} (h : JB K B H w wr p t2 p2 o2 m2) (hp : p.h.length = 32) (h8 : LO B wr { p with rs := rs } t2 p2 v m2) (hv : ∀ g, g ≤ H + 1 → v.ownBlock ≠ some g) : JB K B H w (wr.setCell ⟨H, 35, none⟩ v) { p with rs := rs } t2 p2 v m2 := by
  obtain ⟨h1, h2, h3, h4, h5, h6, h7, hK⟩ := h
  have NH : NoB H t2 p2 v m2 := ⟨h5.1, h5.2.1, hv _ (by omega), h5.2.2.2⟩
  refine ⟨h1.setCell (by show B ≤ H; exact h7) _, ?_, h3.keep (Below.heap_setCell _ _ _ _ (by show H + 1 ≠ H; omega)), h8.keep fun g hn => Below.heap_setCell _ _ _ _ (fun e => hn (e ▸ NH)), NH, ⟨h6.1, h6.2.1, hv _ (by omega), h6.2.2.2⟩, h7, fun g hg => ?_⟩
  · have h9 := setAt h2 35 v
    rw [(lkC_set hp _ _ _ _ _ _).2.2] at h9
    exact h9
  · obtain ⟨k1, k2, k3⟩ := hK g hg
    exact ⟨k1, (Below.heap_setCell _ _ _ _ (by show g ≠ H; omega)).trans k2, ⟨k3.1, k3.2.1, hv _ (by omega), k3.2.2.2⟩⟩
set_option maxHeartbeats 4000000 in
set_option maxRecDepth 100000 in
theorem rjoined (K : Nat → Prop) (B : Nat) (p : Ps) (tr pe on mo : Value) (key value : ByteArray) (w : World) (hp : p.h.length = 32) (hlo : LO B w p tr pe on mo) (hB : B ≤ w.heap.size) (hv : value.size ≤ 4096) (hn : p.ts.length < 16777215 ∧ p.ps.length < 16777215 ∧ p.mo.length < 16777215) (hK : ∀ g, K g → g < w.heap.size ∧ NoB g tr pe on mo) :
    Calls Tryd.prog 26 #[.agg (lkC p.h p.nm tr pe on mo), .string key, .string value] w fun e w' => JE K B w (jn p key value) e w' := by
  obtain ⟨ta, tc, rfl⟩ := ownForm hlo.o1
  obtain ⟨pa, pc, rfl⟩ := ownForm hlo.o2
  obtain ⟨oa, oc, rfl⟩ := ownForm hlo.o3
  obtain ⟨ma, mc, rfl⟩ := ownForm hlo.o4
  have J0 : Hid (JB K B w.heap.size w ((w.alloc (Obj.cells (lkC p.h p.nm (.slice ta p.ts.length tc) (.slice pa p.ps.length pc) (.slice oa p.rs.length oc) (.slice ma p.mo.length mc)) 28)).alloc (Obj.cells #[.int .u8 0, .int .u8 0, .int .u8 0, .int .u8 0, .int .u8 0, .int .u8 0, .int .u8 0, .int .u8 0, .int .u8 0, .int .u8 0, .int .u8 0, .int .u8 0, .int .u8 0, .int .u8 0, .int .u8 0, .int .u8 0, .int .u8 0, .int .u8 0, .int .u8 0, .int .u8 0, .int .u8 0, .int .u8 0, .int .u8 0, .int .u8 0, .int .u8 0, .int .u8 0, .int .u8 0, .int .u8 0, .int .u8 0, .int .u8 0, .int .u8 0, .int .u8 0, .string { data := #[] }, .slice .none 0 0, .slice .none 0 0, .slice .none 0 0, .slice .none 0 0] 28)) p (.slice ta p.ts.length tc) (.slice pa p.ps.length pc) (.slice oa p.rs.length oc) (.slice ma p.mo.length mc)) := by
    have b0 : Below w.heap.size w ((w.alloc (Obj.cells (lkC p.h p.nm (.slice ta p.ts.length tc) (.slice pa p.ps.length pc) (.slice oa p.rs.length oc) (.slice ma p.mo.length mc)) 28)).alloc (Obj.cells #[.int .u8 0, .int .u8 0, .int .u8 0, .int .u8 0, .int .u8 0, .int .u8 0, .int .u8 0, .int .u8 0, .int .u8 0, .int .u8 0, .int .u8 0, .int .u8 0, .int .u8 0, .int .u8 0, .int .u8 0, .int .u8 0, .int .u8 0, .int .u8 0, .int .u8 0, .int .u8 0, .int .u8 0, .int .u8 0, .int .u8 0, .int .u8 0, .int .u8 0, .int .u8 0, .int .u8 0, .int .u8 0, .int .u8 0, .int .u8 0, .int .u8 0, .int .u8 0, .string { data := #[] }, .slice .none 0 0, .slice .none 0 0, .slice .none 0 0, .slice .none 0 0] 28)) := ((Below.refl _ _).alloc (Nat.le_refl _) _).alloc (by simp) _
    have h9 := heap_new (w.alloc (Obj.cells (lkC p.h p.nm (.slice ta p.ts.length tc) (.slice pa p.ps.length pc) (.slice oa p.rs.length oc) (.slice ma p.mo.length mc)) 28)) (Obj.cells #[.int .u8 0, .int .u8 0, .int .u8 0, .int .u8 0, .int .u8 0, .int .u8 0, .int .u8 0, .int .u8 0, .int .u8 0, .int .u8 0, .int .u8 0, .int .u8 0, .int .u8 0, .int .u8 0, .int .u8 0, .int .u8 0, .int .u8 0, .int .u8 0, .int .u8 0, .int .u8 0, .int .u8 0, .int .u8 0, .int .u8 0, .int .u8 0, .int .u8 0, .int .u8 0, .int .u8 0, .int .u8 0, .int .u8 0, .int .u8 0, .int .u8 0, .int .u8 0, .string { data := #[] }, .slice .none 0 0, .slice .none 0 0, .slice .none 0 0, .slice .none 0 0] 28)
    have e9 : (w.alloc (Obj.cells (lkC p.h p.nm (.slice ta p.ts.length tc) (.slice pa p.ps.length pc) (.slice oa p.rs.length oc) (.slice ma p.mo.length mc)) 28)).heap.size = w.heap.size + 1 := by simp
    rw [e9] at h9
    exact (⟨b0.mono hB, (Below.heap_alloc _ _ _ (by simp)).trans (heap_new _ _), h9, hlo.below b0, hlo.nob (Nat.le_refl _), hlo.nob (Nat.le_succ _), hB, fun g hg => ⟨(hK g hg).1, b0.block g (hK g hg).1, (hK g hg).2⟩⟩ : JB K B w.heap.size w ((w.alloc (Obj.cells (lkC p.h p.nm (.slice ta p.ts.length tc) (.slice pa p.ps.length pc) (.slice oa p.rs.length oc) (.slice ma p.mo.length mc)) 28)).alloc (Obj.cells #[.int .u8 0, .int .u8 0, .int .u8 0, .int .u8 0, .int .u8 0, .int .u8 0, .int .u8 0, .int .u8 0, .int .u8 0, .int .u8 0, .int .u8 0, .int .u8 0, .int .u8 0, .int .u8 0, .int .u8 0, .int .u8 0, .int .u8 0, .int .u8 0, .int .u8 0, .int .u8 0, .int .u8 0, .int .u8 0, .int .u8 0, .int .u8 0, .int .u8 0, .int .u8 0, .int .u8 0, .int .u8 0, .int .u8 0, .int .u8 0, .int .u8 0, .int .u8 0, .string { data := #[] }, .slice .none 0 0, .slice .none 0 0, .slice .none 0 0, .slice .none 0 0] 28)) p (.slice ta p.ts.length tc) (.slice pa p.ps.length pc) (.slice oa p.rs.length oc) (.slice ma p.mo.length mc))
  have HQ : Hid (∀ k, kdR key = k → jn p key value = jnV p k key value) := fun k hk => by rw [jn, hk]
  clear hlo hB hK
  have k5 := kdR_le key
  go_enter Tryd.func26, Tryd.ntmps26
  go_upto_region 1 with fail
  generalize ((w.alloc (Obj.cells (lkC p.h p.nm (.slice ta p.ts.length tc) (.slice pa p.ps.length pc) (.slice oa p.rs.length oc) (.slice ma p.mo.length mc)) 28)).alloc (Obj.cells #[.int .u8 0, .int .u8 0, .int .u8 0, .int .u8 0, .int .u8 0, .int .u8 0, .int .u8 0, .int .u8 0, .int .u8 0, .int .u8 0, .int .u8 0, .int .u8 0, .int .u8 0, .int .u8 0, .int .u8 0, .int .u8 0, .int .u8 0, .int .u8 0, .int .u8 0, .int .u8 0, .int .u8 0, .int .u8 0, .int .u8 0, .int .u8 0, .int .u8 0, .int .u8 0, .int .u8 0, .int .u8 0, .int .u8 0, .int .u8 0, .int .u8 0, .int .u8 0, .string { data := #[] }, .slice .none 0 0, .slice .none 0 0, .slice .none 0 0, .slice .none 0 0] 28)) = w0 at *
  generalize hvb : w.heap.size = H at *
  clear hvb
  go_wp2_with fail
  refine (rkind key w0).mono ?_
  rintro e w1 ⟨rfl, rfl⟩
  simp only [Nat.add_zero]
  have HQ2 := Lib.hid (HQ.out _ rfl)
  clear HQ
  generalize kdR key = k at *
  obtain ⟨n1, n2, n3⟩ := hn
  have hk : k = 0 ∨ k = 1 ∨ k = 2 ∨ k = 3 ∨ k = 4 ∨ k = 5 := by omega
  rcases hk with rfl | rfl | rfl | rfl | rfl | rfl
  · have s36 := (J0.out.2.1.cells hp).2.2.2.2
    have f36 := J0.out.2.1.frozen 36
    have HNB : Hid (NoB H (.slice ta p.ts.length tc) (.slice pa p.ps.length pc) (.slice oa p.rs.length oc) (.slice ma p.mo.length mc) ∧ NoB (H + 1) (.slice ta p.ts.length tc) (.slice pa p.ps.length pc) (.slice oa p.rs.length oc) (.slice ma p.mo.length mc) ∧ H + 1 < w1.heap.size ∧ B ≤ H) := ⟨J0.out.2.2.2.2.1, J0.out.2.2.2.2.2.1, J0.out.2.2.1.lt, J0.out.2.2.2.2.2.2.1⟩
    have HLA : Hid (LO B (w1.alloc (Obj.cells #[.string key, .int .i64 2, .int .i64 0, .string value, .slice none 0 0, .slice none 0 0] 68)) p (.slice ta p.ts.length tc) (.slice pa p.ps.length pc) (.slice oa p.rs.length oc) (.slice ma p.mo.length mc)) := J0.out.2.2.2.1.below ((Below.refl _ _).alloc (Nat.le_refl _) _)
    go_upto_region 20 with (at_builtin; refine append_pairO (sv := (.slice ma p.mo.length mc)) rfl (.tmp 31) (.tmp 36) rfl rfl HLA.out.o4 w1.heap.size (key, value) rfl (heap_new w1 _) (by have := HNB.out.2.2; simp; omega) (by omega) ?_; intro g cap w3 h1 h2 h3; have s36' : w3.cell? ⟨H, 36, none⟩ = some (.slice ma p.mo.length mc) := (World.cell?_of_block (w := (w1.alloc (Obj.cells #[.string key, .int .i64 2, .int .i64 0, .string value, .slice none 0 0, .slice none 0 0] 68))) (a := ⟨H, 36, none⟩) (grown_block h2 (by have := HNB.out.2.2; simp; omega) HNB.out.1.2.2.2)).trans (cell_alloc_old s36); have f36' : w3.frozen? ⟨H, 36, none⟩ = false := (World.frozen?_of_block (w := (w1.alloc (Obj.cells #[.string key, .int .i64 2, .int .i64 0, .string value, .slice none 0 0, .slice none 0 0] 68))) (grown_block h2 (by have := HNB.out.2.2; simp; omega) HNB.out.1.2.2.2)).trans ((frozen_alloc_old s36).trans f36))
    have J1 : Hid (JB K B H w (w3.setCell ⟨H, 36, none⟩ (.slice (some ⟨g, 0, none⟩) (p.mo.length + 1) cap)) { p with mo := p.mo ++ [(key, value)] } (.slice ta p.ts.length tc) (.slice pa p.ps.length pc) (.slice oa p.rs.length oc) (.slice (some ⟨g, 0, none⟩) (p.mo.length + 1) cap)) := J0.out.put (fun g h => h.2.2.2) (fun q e => (World.ownsRow.lt J0.out.2.2.2.1.o4 q e).1) h2 (HLA.out.putMo h1 h2 h3) (fun g hn hl => ⟨hn.1, hn.2.1, hn.2.2.1, nob_new h3 hn.2.2.2 (hl)⟩) ((lkC_set2 hp _ _ _ _ _ _ ⟨#[]⟩).2)
    clear s36 f36 s36' f36' h1 h2 h3 HLA HNB J0
    generalize w3.setCell ⟨H, 36, none⟩ (.slice (some ⟨g, 0, none⟩) (p.mo.length + 1) cap) = w4 at *
    have hRow := J1.out.2.1
    have hZer := J1.out.2.2.1
    have HE : Hid (jn p key value = ({ p with mo := p.mo ++ [(key, value)] }, 0)) := by rw [HQ2.out]; unfold jnV; rfl
    go_wp2_with (first | (refine wpList_store_row rfl 28 _ _ rfl (H + 1) (lkC p.h p.nm (.slice ta p.ts.length tc) (.slice pa p.ps.length pc) (.slice oa p.rs.length oc) (.slice (some ⟨g, 0, none⟩) (p.mo.length + 1) cap)) rfl rfl 28 _ hZer (infoLk hp) (by rw [lkC_size hp, lkC_size (by simp)]) lkC_one ?_) | (refine wpList_load_row rfl 28 _ rfl H rfl 28 (lkC p.h p.nm (.slice ta p.ts.length tc) (.slice pa p.ps.length pc) (.slice oa p.rs.length oc) (.slice (some ⟨g, 0, none⟩) (p.mo.length + 1) cap)) (0, 0) _ hRow Tryd.underlying28 rfl (infoLk hp) ?_))
    exact bodyPost_ret (results_ct Tryd.results26 _ _ (H + 1) 28 _ (0, 0) _ rfl (setRow_heap w4 (H + 1) _ _ _ _ hZer) rfl Tryd.underlying28 (infoLk hp)) rfl (je_of (p' := { p with mo := p.mo ++ [(key, value)] }) HE.out (J1.out.store _))
  · cases hem : (value.toList == []) with
    | true =>
      have hRow := J0.out.2.1
      have hZer := J0.out.2.2.1
      have HE : Hid (jn p key value = (p, 226)) := by rw [HQ2.out]; unfold jnV; rw [hem]; rfl
      go_wp2_with (first | (refine wpList_store_row rfl 28 _ _ rfl (H + 1) (lkC p.h p.nm (.slice ta p.ts.length tc) (.slice pa p.ps.length pc) (.slice oa p.rs.length oc) (.slice ma p.mo.length mc)) rfl rfl 28 _ hZer (infoLk hp) (by rw [lkC_size hp, lkC_size (by simp)]) lkC_one ?_) | (refine wpList_load_row rfl 28 _ rfl H rfl 28 (lkC p.h p.nm (.slice ta p.ts.length tc) (.slice pa p.ps.length pc) (.slice oa p.rs.length oc) (.slice ma p.mo.length mc)) (0, 0) _ hRow Tryd.underlying28 rfl (infoLk hp) ?_))
      exact bodyPost_ret (results_ct Tryd.results26 _ _ (H + 1) 28 _ (0, 0) _ rfl (setRow_heap w1 (H + 1) _ _ _ _ hZer) rfl Tryd.underlying28 (infoLk hp)) rfl (je_of (p' := p) HE.out (J0.out.store _))
    | false =>
      have s32 := (J0.out.2.1.cells hp).1
      have f32 := J0.out.2.1.frozen 32
      have J1 : Hid (JB K B H w (w1.setCell ⟨H, 32, none⟩ (.string value)) { p with nm := value } (.slice ta p.ts.length tc) (.slice pa p.ps.length pc) (.slice oa p.rs.length oc) (.slice ma p.mo.length mc)) := J0.out.putNm hp value
      go_upto_region 20 with fail
      clear s32 f32 J0
      generalize w1.setCell ⟨H, 32, none⟩ (.string value) = w4 at *
      have hRow := J1.out.2.1
      have hZer := J1.out.2.2.1
      have HE : Hid (jn p key value = ({ p with nm := value }, 0)) := by rw [HQ2.out]; unfold jnV; rw [hem]; rfl
      go_wp2_with (first | (refine wpList_store_row rfl 28 _ _ rfl (H + 1) (lkC p.h value (.slice ta p.ts.length tc) (.slice pa p.ps.length pc) (.slice oa p.rs.length oc) (.slice ma p.mo.length mc)) rfl rfl 28 _ hZer (infoLk hp) (by rw [lkC_size hp, lkC_size (by simp)]) lkC_one ?_) | (refine wpList_load_row rfl 28 _ rfl H rfl 28 (lkC p.h value (.slice ta p.ts.length tc) (.slice pa p.ps.length pc) (.slice oa p.rs.length oc) (.slice ma p.mo.length mc)) (0, 0) _ hRow Tryd.underlying28 rfl (infoLk hp) ?_))
      exact bodyPost_ret (results_ct Tryd.results26 _ _ (H + 1) 28 _ (0, 0) _ rfl (setRow_heap w4 (H + 1) _ _ _ _ hZer) rfl Tryd.underlying28 (infoLk hp)) rfl (je_of (p' := { p with nm := value }) HE.out (J1.out.store _))
  · go_wp2_with fail
    refine (rruns value w1 hv).mono ?_
    rintro e w2 ⟨v, bb, rfl, hres, b2⟩
    have J1 : Hid (JB K B H w w2 p (.slice ta p.ts.length tc) (.slice pa p.ps.length pc) (.slice oa p.rs.length oc) (.slice ma p.mo.length mc)) := J0.out.below b2
    have HB2 : Hid (Below w1.heap.size w1 w2) := b2
    clear b2
    rcases hres with ⟨hno, rfl, rfl⟩ | ⟨rs, hyes, rfl, hor, hrl⟩
    · have HNO : Hid (runsR (value.data.toList.length + 1) value.data.toList [] = none) := hno
      clear hno J0
      have hRow := J1.out.2.1
      have hZer := J1.out.2.2.1
      have HE : Hid (jn p key value = (p, 226)) := by rw [HQ2.out]; unfold jnV; rw [HNO.out]; rfl
      go_wp2_with (first | (refine wpList_store_row rfl 28 _ _ rfl (H + 1) (lkC p.h p.nm (.slice ta p.ts.length tc) (.slice pa p.ps.length pc) (.slice oa p.rs.length oc) (.slice ma p.mo.length mc)) rfl rfl 28 _ hZer (infoLk hp) (by rw [lkC_size hp, lkC_size (by simp)]) lkC_one ?_) | (refine wpList_load_row rfl 28 _ rfl H rfl 28 (lkC p.h p.nm (.slice ta p.ts.length tc) (.slice pa p.ps.length pc) (.slice oa p.rs.length oc) (.slice ma p.mo.length mc)) (0, 0) _ hRow Tryd.underlying28 rfl (infoLk hp) ?_))
      exact bodyPost_ret (results_ct Tryd.results26 _ _ (H + 1) 28 _ (0, 0) _ rfl (setRow_heap w2 (H + 1) _ _ _ _ hZer) rfl Tryd.underlying28 (infoLk hp)) rfl (je_of (p' := p) HE.out (J1.out.store _))
    · have HYES : Hid (runsR (value.data.toList.length + 1) value.data.toList [] = some rs) := hyes
      obtain ⟨va, vc, rfl⟩ := hor.form
      have HOR : Hid (OR w1.heap.size w2 (.slice va rs.length vc) rs) := hor
      clear hyes hor
      go_wp2_with fail
      refine (rapart _ rs w2 (HOR.out.rr.move (fun _ _ _ => trivial) (Nat.le_refl _) (fun _ _ _ => rfl)) (by omega) (runsR_ok _ _ _ _ HYES.out (fun x hx => by cases hx))).mono ?_
      rintro e w3 ⟨rfl, nq, rfl⟩
      have J2 : Hid (JB K B H w (w2.drewN nq) p (.slice ta p.ts.length tc) (.slice pa p.ps.length pc) (.slice oa p.rs.length oc) (.slice ma p.mo.length mc)) := J1.out.below (belowDrewN w2 nq)
      have HOR2 : Hid (OR w1.heap.size (w2.drewN nq) (.slice va rs.length vc) rs) := HOR.out.grow (belowDrewN w2 nq)
      have HB3 : Hid (Below w1.heap.size w1 (w2.drewN nq)) := HB2.out.trans ((belowDrewN w2 nq).mono HB2.out.size)
      clear J1 HB2 HOR
      generalize w2.drewN nq = w4 at *
      cases hap : apB rs with
      | false =>
        clear J0 HOR2 HB3
        have hRow := J2.out.2.1
        have hZer := J2.out.2.2.1
        have HE : Hid (jn p key value = (p, 227)) := by rw [HQ2.out]; unfold jnV; rw [HYES.out]; show (if apB rs = true then _ else _) = _; rw [hap]; rfl
        go_wp2_with (first | (refine wpList_store_row rfl 28 _ _ rfl (H + 1) (lkC p.h p.nm (.slice ta p.ts.length tc) (.slice pa p.ps.length pc) (.slice oa p.rs.length oc) (.slice ma p.mo.length mc)) rfl rfl 28 _ hZer (infoLk hp) (by rw [lkC_size hp, lkC_size (by simp)]) lkC_one ?_) | (refine wpList_load_row rfl 28 _ rfl H rfl 28 (lkC p.h p.nm (.slice ta p.ts.length tc) (.slice pa p.ps.length pc) (.slice oa p.rs.length oc) (.slice ma p.mo.length mc)) (0, 0) _ hRow Tryd.underlying28 rfl (infoLk hp) ?_))
        exact bodyPost_ret (results_ct Tryd.results26 _ _ (H + 1) 28 _ (0, 0) _ rfl (setRow_heap w4 (H + 1) _ _ _ _ hZer) rfl Tryd.underlying28 (infoLk hp)) rfl (je_of (p' := p) HE.out (J2.out.store _))
      | true =>
        have LR : Hid (LO B w4 { p with rs := rs } (.slice ta p.ts.length tc) (.slice pa p.ps.length pc) (.slice va rs.length vc) (.slice ma p.mo.length mc)) := LO.putRs J0.out.2.2.2.1 HB3.out HOR2.out (by have := J0.out.2.2.2.2.2.2.1; have := J0.out.2.1.lt; omega)
        have nv : ∀ g, g < w1.heap.size → (Value.slice va rs.length vc).ownBlock ≠ some g := fun g hg e => by have := (World.ownsRow.lt HOR2.out g e).1; omega
        have J3 : Hid (JB K B H w (w4.setCell ⟨H, 35, none⟩ (.slice va rs.length vc)) { p with rs := rs } (.slice ta p.ts.length tc) (.slice pa p.ps.length pc) (.slice va rs.length vc) (.slice ma p.mo.length mc)) := J2.out.putRs hp LR.out (fun g hg => nv g (Nat.lt_of_le_of_lt hg J0.out.2.2.1.lt))
        have s35 := (J2.out.2.1.cells hp).2.2.2.1
        have f35 := J2.out.2.1.frozen 35
        clear nv
        go_upto_region 20 with fail
        clear s35 f35 J2 LR J0 HOR2 HB3
        generalize w4.setCell ⟨H, 35, none⟩ (.slice va rs.length vc) = w5 at *
        have hRow := J3.out.2.1
        have hZer := J3.out.2.2.1
        have HE : Hid (jn p key value = ({ p with rs := rs }, 0)) := by rw [HQ2.out]; unfold jnV; rw [HYES.out]; show (if apB rs = true then _ else _) = _; rw [hap]; rfl
        go_wp2_with (first | (refine wpList_store_row rfl 28 _ _ rfl (H + 1) (lkC p.h p.nm (.slice ta p.ts.length tc) (.slice pa p.ps.length pc) (.slice va rs.length vc) (.slice ma p.mo.length mc)) rfl rfl 28 _ hZer (infoLk hp) (by rw [lkC_size hp, lkC_size (by simp)]) lkC_one ?_) | (refine wpList_load_row rfl 28 _ rfl H rfl 28 (lkC p.h p.nm (.slice ta p.ts.length tc) (.slice pa p.ps.length pc) (.slice va rs.length vc) (.slice ma p.mo.length mc)) (0, 0) _ hRow Tryd.underlying28 rfl (infoLk hp) ?_))
        exact bodyPost_ret (results_ct Tryd.results26 _ _ (H + 1) 28 _ (0, 0) _ rfl (setRow_heap w5 (H + 1) _ _ _ _ hZer) rfl Tryd.underlying28 (infoLk hp)) rfl (je_of (p' := { p with rs := rs }) HE.out (J3.out.store _))
  · cases hem : (value.toList == []) with
    | true =>
      have hRow := J0.out.2.1
      have hZer := J0.out.2.2.1
      have HE : Hid (jn p key value = (p, 226)) := by rw [HQ2.out]; unfold jnV; rw [hem]; rfl
      go_wp2_with (first | (refine wpList_store_row rfl 28 _ _ rfl (H + 1) (lkC p.h p.nm (.slice ta p.ts.length tc) (.slice pa p.ps.length pc) (.slice oa p.rs.length oc) (.slice ma p.mo.length mc)) rfl rfl 28 _ hZer (infoLk hp) (by rw [lkC_size hp, lkC_size (by simp)]) lkC_one ?_) | (refine wpList_load_row rfl 28 _ rfl H rfl 28 (lkC p.h p.nm (.slice ta p.ts.length tc) (.slice pa p.ps.length pc) (.slice oa p.rs.length oc) (.slice ma p.mo.length mc)) (0, 0) _ hRow Tryd.underlying28 rfl (infoLk hp) ?_))
      exact bodyPost_ret (results_ct Tryd.results26 _ _ (H + 1) 28 _ (0, 0) _ rfl (setRow_heap w1 (H + 1) _ _ _ _ hZer) rfl Tryd.underlying28 (infoLk hp)) rfl (je_of (p' := p) HE.out (J0.out.store _))
    | false =>
      have s33 := (J0.out.2.1.cells hp).2.1
      have f33 := J0.out.2.1.frozen 33
      have HNB : Hid (NoB H (.slice ta p.ts.length tc) (.slice pa p.ps.length pc) (.slice oa p.rs.length oc) (.slice ma p.mo.length mc) ∧ NoB (H + 1) (.slice ta p.ts.length tc) (.slice pa p.ps.length pc) (.slice oa p.rs.length oc) (.slice ma p.mo.length mc) ∧ H + 1 < w1.heap.size ∧ B ≤ H) := ⟨J0.out.2.2.2.2.1, J0.out.2.2.2.2.2.1, J0.out.2.2.1.lt, J0.out.2.2.2.2.2.2.1⟩
      have HLA : Hid (LO B (w1.alloc (Obj.cells #[.string value] 9)) p (.slice ta p.ts.length tc) (.slice pa p.ps.length pc) (.slice oa p.rs.length oc) (.slice ma p.mo.length mc)) := J0.out.2.2.2.1.below ((Below.refl _ _).alloc (Nat.le_refl _) _)
      go_upto_region 20 with (at_builtin; refine append_strO (sv := (.slice ta p.ts.length tc)) rfl (.tmp 63) (.tmp 65) rfl rfl HLA.out.o1 w1.heap.size value rfl (by go_simp) (by have := HNB.out.2.2; simp; omega) (by omega) ?_; intro g cap w3 h1 h2 h3; have s33' : w3.cell? ⟨H, 33, none⟩ = some (.slice ta p.ts.length tc) := (World.cell?_of_block (w := (w1.alloc (Obj.cells #[.string value] 9))) (a := ⟨H, 33, none⟩) (grown_block h2 (by have := HNB.out.2.2; simp; omega) HNB.out.1.1)).trans (cell_alloc_old s33); have f33' : w3.frozen? ⟨H, 33, none⟩ = false := (World.frozen?_of_block (w := (w1.alloc (Obj.cells #[.string value] 9))) (grown_block h2 (by have := HNB.out.2.2; simp; omega) HNB.out.1.1)).trans ((frozen_alloc_old s33).trans f33))
      have J1 : Hid (JB K B H w (w3.setCell ⟨H, 33, none⟩ (.slice (some ⟨g, 0, none⟩) (p.ts.length + 1) cap)) { p with ts := p.ts ++ [value] } (.slice (some ⟨g, 0, none⟩) (p.ts.length + 1) cap) (.slice pa p.ps.length pc) (.slice oa p.rs.length oc) (.slice ma p.mo.length mc)) := J0.out.put (fun g h => h.1) (fun q e => (World.ownsRow.lt J0.out.2.2.2.1.o1 q e).1) h2 (HLA.out.putTs h1 h2 h3) (fun g hn hl => ⟨nob_new h3 hn.1 (hl), hn.2.1, hn.2.2.1, hn.2.2.2⟩) ((lkC_set hp _ _ _ _ _ _).1)
      clear s33 f33 s33' f33' h1 h2 h3 HLA HNB J0
      generalize w3.setCell ⟨H, 33, none⟩ (.slice (some ⟨g, 0, none⟩) (p.ts.length + 1) cap) = w4 at *
      have hRow := J1.out.2.1
      have hZer := J1.out.2.2.1
      have HE : Hid (jn p key value = ({ p with ts := p.ts ++ [value] }, 0)) := by rw [HQ2.out]; unfold jnV; rw [hem]; rfl
      go_wp2_with (first | (refine wpList_store_row rfl 28 _ _ rfl (H + 1) (lkC p.h p.nm (.slice (some ⟨g, 0, none⟩) (p.ts.length + 1) cap) (.slice pa p.ps.length pc) (.slice oa p.rs.length oc) (.slice ma p.mo.length mc)) rfl rfl 28 _ hZer (infoLk hp) (by rw [lkC_size hp, lkC_size (by simp)]) lkC_one ?_) | (refine wpList_load_row rfl 28 _ rfl H rfl 28 (lkC p.h p.nm (.slice (some ⟨g, 0, none⟩) (p.ts.length + 1) cap) (.slice pa p.ps.length pc) (.slice oa p.rs.length oc) (.slice ma p.mo.length mc)) (0, 0) _ hRow Tryd.underlying28 rfl (infoLk hp) ?_))
      exact bodyPost_ret (results_ct Tryd.results26 _ _ (H + 1) 28 _ (0, 0) _ rfl (setRow_heap w4 (H + 1) _ _ _ _ hZer) rfl Tryd.underlying28 (infoLk hp)) rfl (je_of (p' := { p with ts := p.ts ++ [value] }) HE.out (J1.out.store _))
  · cases hem : (value.toList == []) with
    | true =>
      have hRow := J0.out.2.1
      have hZer := J0.out.2.2.1
      have HE : Hid (jn p key value = (p, 226)) := by rw [HQ2.out]; unfold jnV; rw [hem]; rfl
      go_wp2_with (first | (refine wpList_store_row rfl 28 _ _ rfl (H + 1) (lkC p.h p.nm (.slice ta p.ts.length tc) (.slice pa p.ps.length pc) (.slice oa p.rs.length oc) (.slice ma p.mo.length mc)) rfl rfl 28 _ hZer (infoLk hp) (by rw [lkC_size hp, lkC_size (by simp)]) lkC_one ?_) | (refine wpList_load_row rfl 28 _ rfl H rfl 28 (lkC p.h p.nm (.slice ta p.ts.length tc) (.slice pa p.ps.length pc) (.slice oa p.rs.length oc) (.slice ma p.mo.length mc)) (0, 0) _ hRow Tryd.underlying28 rfl (infoLk hp) ?_))
      exact bodyPost_ret (results_ct Tryd.results26 _ _ (H + 1) 28 _ (0, 0) _ rfl (setRow_heap w1 (H + 1) _ _ _ _ hZer) rfl Tryd.underlying28 (infoLk hp)) rfl (je_of (p' := p) HE.out (J0.out.store _))
    | false =>
      have s34 := (J0.out.2.1.cells hp).2.2.1
      have f34 := J0.out.2.1.frozen 34
      have HNB : Hid (NoB H (.slice ta p.ts.length tc) (.slice pa p.ps.length pc) (.slice oa p.rs.length oc) (.slice ma p.mo.length mc) ∧ NoB (H + 1) (.slice ta p.ts.length tc) (.slice pa p.ps.length pc) (.slice oa p.rs.length oc) (.slice ma p.mo.length mc) ∧ H + 1 < w1.heap.size ∧ B ≤ H) := ⟨J0.out.2.2.2.2.1, J0.out.2.2.2.2.2.1, J0.out.2.2.1.lt, J0.out.2.2.2.2.2.2.1⟩
      have HLA : Hid (LO B (w1.alloc (Obj.cells #[.string value] 9)) p (.slice ta p.ts.length tc) (.slice pa p.ps.length pc) (.slice oa p.rs.length oc) (.slice ma p.mo.length mc)) := J0.out.2.2.2.1.below ((Below.refl _ _).alloc (Nat.le_refl _) _)
      go_upto_region 20 with (at_builtin; refine append_strO (sv := (.slice pa p.ps.length pc)) rfl (.tmp 71) (.tmp 73) rfl rfl HLA.out.o2 w1.heap.size value rfl (by go_simp) (by have := HNB.out.2.2; simp; omega) (by omega) ?_; intro g cap w3 h1 h2 h3; have s34' : w3.cell? ⟨H, 34, none⟩ = some (.slice pa p.ps.length pc) := (World.cell?_of_block (w := (w1.alloc (Obj.cells #[.string value] 9))) (a := ⟨H, 34, none⟩) (grown_block h2 (by have := HNB.out.2.2; simp; omega) HNB.out.1.2.1)).trans (cell_alloc_old s34); have f34' : w3.frozen? ⟨H, 34, none⟩ = false := (World.frozen?_of_block (w := (w1.alloc (Obj.cells #[.string value] 9))) (grown_block h2 (by have := HNB.out.2.2; simp; omega) HNB.out.1.2.1)).trans ((frozen_alloc_old s34).trans f34))
      have J1 : Hid (JB K B H w (w3.setCell ⟨H, 34, none⟩ (.slice (some ⟨g, 0, none⟩) (p.ps.length + 1) cap)) { p with ps := p.ps ++ [value] } (.slice ta p.ts.length tc) (.slice (some ⟨g, 0, none⟩) (p.ps.length + 1) cap) (.slice oa p.rs.length oc) (.slice ma p.mo.length mc)) := J0.out.put (fun g h => h.2.1) (fun q e => (World.ownsRow.lt J0.out.2.2.2.1.o2 q e).1) h2 (HLA.out.putPs h1 h2 h3) (fun g hn hl => ⟨hn.1, nob_new h3 hn.2.1 (hl), hn.2.2.1, hn.2.2.2⟩) ((lkC_set hp _ _ _ _ _ _).2.1)
      clear s34 f34 s34' f34' h1 h2 h3 HLA HNB J0
      generalize w3.setCell ⟨H, 34, none⟩ (.slice (some ⟨g, 0, none⟩) (p.ps.length + 1) cap) = w4 at *
      have hRow := J1.out.2.1
      have hZer := J1.out.2.2.1
      have HE : Hid (jn p key value = ({ p with ps := p.ps ++ [value] }, 0)) := by rw [HQ2.out]; unfold jnV; rw [hem]; rfl
      go_wp2_with (first | (refine wpList_store_row rfl 28 _ _ rfl (H + 1) (lkC p.h p.nm (.slice ta p.ts.length tc) (.slice (some ⟨g, 0, none⟩) (p.ps.length + 1) cap) (.slice oa p.rs.length oc) (.slice ma p.mo.length mc)) rfl rfl 28 _ hZer (infoLk hp) (by rw [lkC_size hp, lkC_size (by simp)]) lkC_one ?_) | (refine wpList_load_row rfl 28 _ rfl H rfl 28 (lkC p.h p.nm (.slice ta p.ts.length tc) (.slice (some ⟨g, 0, none⟩) (p.ps.length + 1) cap) (.slice oa p.rs.length oc) (.slice ma p.mo.length mc)) (0, 0) _ hRow Tryd.underlying28 rfl (infoLk hp) ?_))
      exact bodyPost_ret (results_ct Tryd.results26 _ _ (H + 1) 28 _ (0, 0) _ rfl (setRow_heap w4 (H + 1) _ _ _ _ hZer) rfl Tryd.underlying28 (infoLk hp)) rfl (je_of (p' := { p with ps := p.ps ++ [value] }) HE.out (J1.out.store _))
  · have s36 := (J0.out.2.1.cells hp).2.2.2.2
    have f36 := J0.out.2.1.frozen 36
    have HNB : Hid (NoB H (.slice ta p.ts.length tc) (.slice pa p.ps.length pc) (.slice oa p.rs.length oc) (.slice ma p.mo.length mc) ∧ NoB (H + 1) (.slice ta p.ts.length tc) (.slice pa p.ps.length pc) (.slice oa p.rs.length oc) (.slice ma p.mo.length mc) ∧ H + 1 < w1.heap.size ∧ B ≤ H) := ⟨J0.out.2.2.2.2.1, J0.out.2.2.2.2.2.1, J0.out.2.2.1.lt, J0.out.2.2.2.2.2.2.1⟩
    have HLA : Hid (LO B (w1.alloc (Obj.cells #[.string key, .int .i64 2, .int .i64 0, .string value, .slice none 0 0, .slice none 0 0] 68)) p (.slice ta p.ts.length tc) (.slice pa p.ps.length pc) (.slice oa p.rs.length oc) (.slice ma p.mo.length mc)) := J0.out.2.2.2.1.below ((Below.refl _ _).alloc (Nat.le_refl _) _)
    go_upto_region 20 with (at_builtin; refine append_pairO (sv := (.slice ma p.mo.length mc)) rfl (.tmp 31) (.tmp 36) rfl rfl HLA.out.o4 w1.heap.size (key, value) rfl (heap_new w1 _) (by have := HNB.out.2.2; simp; omega) (by omega) ?_; intro g cap w3 h1 h2 h3; have s36' : w3.cell? ⟨H, 36, none⟩ = some (.slice ma p.mo.length mc) := (World.cell?_of_block (w := (w1.alloc (Obj.cells #[.string key, .int .i64 2, .int .i64 0, .string value, .slice none 0 0, .slice none 0 0] 68))) (a := ⟨H, 36, none⟩) (grown_block h2 (by have := HNB.out.2.2; simp; omega) HNB.out.1.2.2.2)).trans (cell_alloc_old s36); have f36' : w3.frozen? ⟨H, 36, none⟩ = false := (World.frozen?_of_block (w := (w1.alloc (Obj.cells #[.string key, .int .i64 2, .int .i64 0, .string value, .slice none 0 0, .slice none 0 0] 68))) (grown_block h2 (by have := HNB.out.2.2; simp; omega) HNB.out.1.2.2.2)).trans ((frozen_alloc_old s36).trans f36))
    have J1 : Hid (JB K B H w (w3.setCell ⟨H, 36, none⟩ (.slice (some ⟨g, 0, none⟩) (p.mo.length + 1) cap)) { p with mo := p.mo ++ [(key, value)] } (.slice ta p.ts.length tc) (.slice pa p.ps.length pc) (.slice oa p.rs.length oc) (.slice (some ⟨g, 0, none⟩) (p.mo.length + 1) cap)) := J0.out.put (fun g h => h.2.2.2) (fun q e => (World.ownsRow.lt J0.out.2.2.2.1.o4 q e).1) h2 (HLA.out.putMo h1 h2 h3) (fun g hn hl => ⟨hn.1, hn.2.1, hn.2.2.1, nob_new h3 hn.2.2.2 (hl)⟩) ((lkC_set2 hp _ _ _ _ _ _ ⟨#[]⟩).2)
    clear s36 f36 s36' f36' h1 h2 h3 HLA HNB J0
    generalize w3.setCell ⟨H, 36, none⟩ (.slice (some ⟨g, 0, none⟩) (p.mo.length + 1) cap) = w4 at *
    have hRow := J1.out.2.1
    have hZer := J1.out.2.2.1
    have HE : Hid (jn p key value = ({ p with mo := p.mo ++ [(key, value)] }, 0)) := by rw [HQ2.out]; unfold jnV; rfl
    go_wp2_with (first | (refine wpList_store_row rfl 28 _ _ rfl (H + 1) (lkC p.h p.nm (.slice ta p.ts.length tc) (.slice pa p.ps.length pc) (.slice oa p.rs.length oc) (.slice (some ⟨g, 0, none⟩) (p.mo.length + 1) cap)) rfl rfl 28 _ hZer (infoLk hp) (by rw [lkC_size hp, lkC_size (by simp)]) lkC_one ?_) | (refine wpList_load_row rfl 28 _ rfl H rfl 28 (lkC p.h p.nm (.slice ta p.ts.length tc) (.slice pa p.ps.length pc) (.slice oa p.rs.length oc) (.slice (some ⟨g, 0, none⟩) (p.mo.length + 1) cap)) (0, 0) _ hRow Tryd.underlying28 rfl (infoLk hp) ?_))
    exact bodyPost_ret (results_ct Tryd.results26 _ _ (H + 1) 28 _ (0, 0) _ rfl (setRow_heap w4 (H + 1) _ _ _ _ hZer) rfl Tryd.underlying28 (infoLk hp)) rfl (je_of (p' := { p with mo := p.mo ++ [(key, value)] }) HE.out (J1.out.store _))
end Go.Proofs.YtmfbhihjiebagaaDoor
