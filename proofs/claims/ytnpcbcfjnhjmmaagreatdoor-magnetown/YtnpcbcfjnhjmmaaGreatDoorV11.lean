import Derived.Test.YtnpcbcfjnhjmmaaGreatDoorV10
import Derived.Test.YtnpcbcfjnhjmmaaGreatDoorV00
import Derived.Deep.Upon
import Derived.Lib.LazyBuf
namespace Go.Proofs.YtnpcbcfjnhjmmaaGreatDoor
open Go.Shelf Go.RowKit Go.Deep
theorem runsR_ok : ∀ (f : Nat) (l : List UInt8) (acc rs : List (Int × Int)), runsR f l acc = some rs → (∀ x ∈ acc, RnOk x) → ∀ x ∈ rs, RnOk x
  | 0, l, acc, rs, h, _ => by cases h
  | f + 1, l, acc, rs, h, ha => by
    cases hn : nrun l with
    | none => rw [runsR_no hn] at h; cases h
    | some q =>
      obtain ⟨a, m, c⟩ := q
      have hok : RnOk ((a : Int), (m : Int)) := by
        unfold nrun at hn
        cases h1 : numR l with
        | none => rw [h1] at hn; cases hn
        | some q1 =>
          obtain ⟨a1, c1⟩ := q1
          rw [h1] at hn
          have k1 := numR_ok h1
          simp only at hn
          split at hn
          · cases h2 : numR (l.drop (c1 + 1)) with
            | none => rw [h2] at hn; cases hn
            | some q2 =>
              obtain ⟨b1, c2⟩ := q2
              rw [h2] at hn
              have k2 := numR_ok h2
              simp only at hn
              split at hn
              · cases hn
              · rename_i hle
                simp only [Option.some.injEq, Prod.mk.injEq] at hn
                obtain ⟨rfl, rfl, _⟩ := hn
                exact ⟨⟨by show (0 : Int) ≤ (a1 : Int); omega, by show (a1 : Int) ≤ 4095; omega⟩, by show (1 : Int) ≤ ((b1 - a1 + 1 : Nat) : Int); omega, by show ((b1 - a1 + 1 : Nat) : Int) ≤ 4096; omega⟩
          · simp only [Option.some.injEq, Prod.mk.injEq] at hn
            obtain ⟨rfl, rfl, _⟩ := hn
            exact ⟨⟨by show (0 : Int) ≤ (a1 : Int); omega, by show (a1 : Int) ≤ 4095; omega⟩, by show (1 : Int) ≤ ((1 : Nat) : Int); omega, by show ((1 : Nat) : Int) ≤ 4096; omega⟩
      have ha' : ∀ x ∈ acc ++ [((a : Int), (m : Int))], RnOk x := fun x hx => by
        rcases List.mem_append.1 hx with h1 | h1
        · exact ha x h1
        · simp at h1; subst h1; exact hok
      by_cases hc : c = l.length
      · rw [runsR_end hn hc] at h
        cases h
        exact ha'
      · by_cases hx : l.getD c 0 = 44
        · rw [runsR_go hn hc hx] at h
          exact runsR_ok f _ _ _ h ha'
        · rw [runsR_bad hn hc hx] at h; cases h
/-- a link with a part more, by the rules of the values -/
def jnV (p : Ps) (k : Nat) (key value : ByteArray) : Ps × Int :=
  if (k = 1 ∨ k = 3 ∨ k = 4) ∧ (value.toList == []) = true then (p, 226)
  else if k = 1 then ({ p with nm := value }, 0)
  else if k = 2 then (match runsR (value.data.toList.length + 1) value.data.toList [] with | none => (p, 226) | some rs => if apB rs = true then ({ p with rs := rs }, 0) else (p, 227))
  else if k = 3 then ({ p with ts := p.ts ++ [value] }, 0)
  else if k = 4 then ({ p with ps := p.ps ++ [value] }, 0)
  else ({ p with mo := p.mo ++ [(key, value)] }, 0)
def jn (p : Ps) (key value : ByteArray) : Ps × Int := jnV p (kdR key) key value
/-- what the call leaves -/
def JE (K : Nat → Prop) (B : Nat) (w : World) (q : Ps × Int) (e : Ending) (w' : World) : Prop := ∃ t2 p2 o2 m2, e = .returned (.tuple #[.agg (lkC q.1.h q.1.nm t2 p2 o2 m2), .int .i64 q.2]) ∧ LO B w' q.1 t2 p2 o2 m2 ∧ Below B w w' ∧ ∀ g, K g → w'.heap[g]? = w.heap[g]? ∧ NoB g t2 p2 o2 m2
theorem je_of {K : Nat → Prop} {B : Nat} {w w' : World} {q : Ps × Int} {p' : Ps} {er : Int} {t2 p2 o2 m2 : Value} (hq : q = (p', er)) (h : Below B w w' ∧ LO B w' p' t2 p2 o2 m2 ∧ ∀ g, K g → w'.heap[g]? = w.heap[g]? ∧ NoB g t2 p2 o2 m2) : JE K B w q (.returned (.tuple #[.agg (lkC p'.h p'.nm t2 p2 o2 m2), .int .i64 er])) w' := by
  subst hq; exact ⟨t2, p2, o2, m2, rfl, h.2.1, h.1, h.2.2⟩
/-- the block of the answer, the lists -/
def JD (K : Nat → Prop) (B D : Nat) (w wr : World) (p : Ps) (t2 p2 o2 m2 : Value) : Prop := Below B w wr ∧ LB wr D (List.replicate 32 (0 : UInt8)) ⟨#[]⟩ (.slice none 0 0) (.slice none 0 0) (.slice none 0 0) (.slice none 0 0) ∧ LO B wr p t2 p2 o2 m2 ∧ NoB D t2 p2 o2 m2 ∧ B ≤ D ∧ ∀ g, K g → g < D ∧ wr.heap[g]? = w.heap[g]? ∧ NoB g t2 p2 o2 m2
theorem JD.store {K : Nat → Prop} {B D : Nat} {w wr : World} {p : Ps} {t2 p2 o2 m2 : Value} (h : JD K B D w wr p t2 p2 o2 m2) (cs : Array Value) : Below B w (wr.setRow D cs) ∧ LO B (wr.setRow D cs) p t2 p2 o2 m2 ∧ ∀ g, K g → (wr.setRow D cs).heap[g]? = w.heap[g]? ∧ NoB g t2 p2 o2 m2 := by
  obtain ⟨h1, h3, h4, h6, h7, h8⟩ := h
  exact ⟨below_setRow h1 (by omega) _, h4.keep fun g hn => setRow_other _ _ _ _ (fun e => hn (e ▸ h6)), fun g hg => ⟨(setRow_other _ _ _ _ (by have := (h8 g hg).1; omega)).trans (h8 g hg).2.1, (h8 g hg).2.2⟩⟩
/-- the link's block in the call, the block of the answer, the lists -/
def JB (K : Nat → Prop) (B H : Nat) (w wr : World) (p : Ps) (t2 p2 o2 m2 : Value) : Prop := Below B w wr ∧ LB wr H p.h p.nm t2 p2 o2 m2 ∧ LB wr (H + 1) (List.replicate 32 (0 : UInt8)) ⟨#[]⟩ (.slice none 0 0) (.slice none 0 0) (.slice none 0 0) (.slice none 0 0) ∧ LO B wr p t2 p2 o2 m2 ∧ NoB H t2 p2 o2 m2 ∧ NoB (H + 1) t2 p2 o2 m2 ∧ B ≤ H ∧ ∀ g, K g → g < H ∧ wr.heap[g]? = w.heap[g]? ∧ NoB g t2 p2 o2 m2
theorem JB.toD {K : Nat → Prop} {B H : Nat} {w wr : World} {p : Ps} {t2 p2 o2 m2 : Value} (h : JB K B H w wr p t2 p2 o2 m2) : JD K B (H + 1) w wr p t2 p2 o2 m2 :=
  ⟨h.1, h.2.2.1, h.2.2.2.1, h.2.2.2.2.2.1, Nat.le_succ_of_le h.2.2.2.2.2.2.1, fun g hg => ⟨Nat.lt_succ_of_lt (h.2.2.2.2.2.2.2 g hg).1, (h.2.2.2.2.2.2.2 g hg).2⟩⟩
theorem JB.store {K : Nat → Prop} {B H : Nat} {w wr : World} {p : Ps} {t2 p2 o2 m2 : Value} (h : JB K B H w wr p t2 p2 o2 m2) (cs : Array Value) : Below B w (wr.setRow (H + 1) cs) ∧ LO B (wr.setRow (H + 1) cs) p t2 p2 o2 m2 ∧ ∀ g, K g → (wr.setRow (H + 1) cs).heap[g]? = w.heap[g]? ∧ NoB g t2 p2 o2 m2 := h.toD.store cs
theorem JB.below {K : Nat → Prop} {B H : Nat} {w wr w' : World} {p : Ps} {t2 p2 o2 m2 : Value} (h : JB K B H w wr p t2 p2 o2 m2) (hb : Below wr.heap.size wr w') : JB K B H w w' p t2 p2 o2 m2 := by
  obtain ⟨h1, h2, h3, h4, h5, h6, h7, h8⟩ := h
  exact ⟨h1.trans (hb.mono (by have := h2.lt; omega)), h2.keep (hb.block _ h2.lt), h3.keep (hb.block _ h3.lt), h4.below hb, h5, h6, h7, fun g hg => ⟨(h8 g hg).1, (hb.block g (by have := (h8 g hg).1; have := h2.lt; omega)).trans (h8 g hg).2.1, (h8 g hg).2.2⟩⟩
theorem lkC_set2 {l : List UInt8} (hl : l.length = 32) (nm : ByteArray) (tr pe on mo v : Value) (n2 : ByteArray) :
    (lkC l nm tr pe on mo).setIfInBounds 32 (.string n2) = lkC l n2 tr pe on mo ∧ (lkC l nm tr pe on mo).setIfInBounds 36 v = lkC l nm tr pe on v := by
  obtain ⟨x0, x1, x2, x3, x4, x5, x6, x7, x8, x9, x10, x11, x12, x13, x14, x15, x16, x17, x18, x19, x20, x21, x22, x23, x24, x25, x26, x27, x28, x29, x30, x31, rfl⟩ := len32 hl
  exact ⟨rfl, rfl⟩
theorem JB.put {K : Nat → Prop} {B H i : Nat} {w wr w3 : World} {p p' : Ps} {t2 p2 o2 m2 t3 p3 o3 m3 v : Value} {o : Obj} {row : Option Nat} (h : JB K B H w wr p t2 p2 o2 m2) (hr : ∀ g, NoB g t2 p2 o2 m2 → row ≠ some g) (hrB : ∀ q, row = some q → B ≤ q)
    (hg : (wr.alloc o).grownBy w3 row) (hlo : LO B w3 p' t3 p3 o3 m3) (hN : ∀ g, NoB g t2 p2 o2 m2 → g < (wr.alloc o).heap.size → NoB g t3 p3 o3 m3) (hc : (lkC p.h p.nm t2 p2 o2 m2).setIfInBounds i v = lkC p'.h p'.nm t3 p3 o3 m3) : JB K B H w (w3.setCell ⟨H, i, none⟩ v) p' t3 p3 o3 m3 := by
  obtain ⟨h1, h2, h3, h4, h5, h6, h7, h8⟩ := h
  have l1 := h2.lt
  have l2 := h3.lt
  have bg : ∀ g, NoB g t2 p2 o2 m2 → g < wr.heap.size → w3.heap[g]? = wr.heap[g]? := fun g hn hl => (grown_block hg (by simp; omega) (hr g hn)).trans (Below.heap_alloc _ _ _ hl)
  have NH := hN H h5 (by simp; omega)
  refine ⟨?_, ?_, ?_, hlo.keep fun g hn => Below.heap_setCell _ _ _ _ (fun e => hn (e ▸ NH)), NH, hN _ h6 (by simp; omega), h7, fun g hg => ?_⟩
  · exact ((h1.alloc (by omega) o).grown hg (by simp; omega) hrB).setCell (by show B ≤ H; exact h7) _
  · have h9 := setAt (h2.keep (bg H h5 l1)) i v
    rw [hc] at h9
    exact h9
  · exact (h3.keep (bg _ h6 l2)).keep (Below.heap_setCell _ _ _ _ (by show H + 1 ≠ H; omega))
  · obtain ⟨k1, k2, k3⟩ := h8 g hg
    exact ⟨k1, (Below.heap_setCell _ _ _ _ (by show g ≠ H; omega)).trans ((bg g k3 (by omega)).trans k2), hN g k3 (by simp; omega)⟩
theorem nob_new {g n c hs H : Nat} {sv : Value} (hat : sv.ownBlock = some g ∨ g = hs) (h1 : sv.ownBlock ≠ some H) (h2 : H < hs) : (Value.slice (some ⟨g, 0, none⟩) n c).ownBlock ≠ some H := fun e => by
  have e1 : g = H := by simpa [Value.ownBlock] using e
  subst e1
  rcases hat with h | h
  · exact h1 h
  · omega
theorem JB.putNm {K : Nat → Prop} {B H : Nat} {w wr : World} {p : Ps} {t2 p2 o2 m2 : Value} (h : JB K B H w wr p t2 p2 o2 m2) (hp : p.h.length = 32) (y : ByteArray) : JB K B H w (wr.setCell ⟨H, 32, none⟩ (.string y)) { p with nm := y } t2 p2 o2 m2 := by
  obtain ⟨h1, h2, h3, h4, h5, h6, h7, h8⟩ := h
  refine ⟨h1.setCell (by show B ≤ H; exact h7) _, ?_, h3.keep (Below.heap_setCell _ _ _ _ (by show H + 1 ≠ H; omega)), ?_, h5, h6, h7, fun g hg => ⟨(h8 g hg).1, (Below.heap_setCell _ _ _ _ (by show g ≠ H; have := (h8 g hg).1; omega)).trans (h8 g hg).2.1, (h8 g hg).2.2⟩⟩
  · have h9 := setAt h2 32 (.string y)
    rw [(lkC_set2 hp _ _ _ _ _ (.slice none 0 0) _).1] at h9
    exact h9
  · have h9 := h4.keep (w' := wr.setCell ⟨H, 32, none⟩ (.string y)) fun g hn => Below.heap_setCell _ _ _ _ (fun e => hn (e ▸ h5))
    exact ⟨h9.o1, h9.o2, h9.o3, h9.o4, h9.d1, h9.d2, h9.d3, h9.d4, h9.d5, h9.d6⟩
theorem JB.putRs {K : Nat → Prop} {B H : Nat} {w wr : World} {p : Ps} {t2 p2 o2 m2 v : Value} {rs : List (Int × Int)} (h : JB K B H w wr p t2 p2 o2 m2) (hp : p.h.length = 32) (h8 : LO B wr { p with rs := rs } t2 p2 v m2) (hv : ∀ g, g ≤ H + 1 → v.ownBlock ≠ some g) : JB K B H w (wr.setCell ⟨H, 35, none⟩ v) { p with rs := rs } t2 p2 v m2 := by
  obtain ⟨h1, h2, h3, h4, h5, h6, h7, hK⟩ := h
  have NH : NoB H t2 p2 v m2 := ⟨h5.1, h5.2.1, hv _ (by omega), h5.2.2.2⟩
  refine ⟨h1.setCell (by show B ≤ H; exact h7) _, ?_, h3.keep (Below.heap_setCell _ _ _ _ (by show H + 1 ≠ H; omega)), h8.keep fun g hn => Below.heap_setCell _ _ _ _ (fun e => hn (e ▸ NH)), NH, ⟨h6.1, h6.2.1, hv _ (by omega), h6.2.2.2⟩, h7, fun g hg => ?_⟩
  · have h9 := setAt h2 35 v
    rw [(lkC_set hp _ _ _ _ _ _).2.2] at h9
    exact h9
  · obtain ⟨k1, k2, k3⟩ := hK g hg
    exact ⟨k1, (Below.heap_setCell _ _ _ _ (by show g ≠ H; omega)).trans k2, ⟨k3.1, k3.2.1, hv _ (by omega), k3.2.2.2⟩⟩
end Go.Proofs.YtnpcbcfjnhjmmaaGreatDoor
namespace Go.Proofs.YtnpcbcfjnhjmmaaGreatDoor
open Go.Shelf Go.RowKit Go.Deep
theorem une_len : ∀ (f : Nat) (l : List UInt8) (k : Nat) (acc : List UInt8), acc.length ≤ k → k ≤ l.length → (une f l k acc).1.length ≤ l.length ∧ ((une f l k acc).2 = -1 ∨ (0 ≤ (une f l k acc).2 ∧ (une f l k acc).2 < (l.length : Int)))
  | 0, l, k, acc, h, hk => ⟨by show acc.length ≤ _; omega, .inl rfl⟩
  | f + 1, l, k, acc, h, hk => by
    unfold une
    split
    · exact ⟨by show acc.length ≤ _; omega, .inl rfl⟩
    · rename_i hlt
      split
      · exact ⟨Nat.zero_le _, .inr ⟨by show (0 : Int) ≤ (k : Int); omega, by show (k : Int) < _; omega⟩⟩
      · rename_i hn
        exact une_len f l _ _ (by simp; omega) (stN_drop (by omega))
theorem uneL_len (l : List UInt8) : (uneL l).1.length ≤ l.length ∧ ((uneL l).2 = -1 ∨ (0 ≤ (uneL l).2 ∧ (uneL l).2 < (l.length : Int))) := une_len _ l 0 [] (Nat.le_refl _) (Nat.zero_le _)
theorem extT (s : ByteArray) (k : Nat) : (s.extract 0 k).data.toList = s.data.toList.take k := by
  rw [ByteArray.data_extract, Array.toList_extract]; simp
theorem fsH_len (l : List UInt8) : (fsH l).length = 32 := by
  unfold fsH fstR
  split
  · rename_i h
    obtain ⟨h1, _, h3⟩ := h
    have h4 := good_len h3
    show (byL _).length = 32
    rw [byL, List.length_map, h4]
    have : (⟨(l.drop 13).toArray⟩ : ByteArray).size = (l.drop 13).length := by simp [ByteArray.size]
    rw [this, List.length_drop]; omega
  · simp
/-- a part of a link, its key and value read -/
def pt3 (p : Ps) (i : Nat) (ahead key value : ByteArray) : Ps × ByteArray × Int × Int :=
  if i = 0 ∧ (key.toList == [120, 116]) = false then (p, ⟨#[]⟩, 0, 223)
  else if (key.toList == [120, 116]) = true then
    if Lib.hasPrefix value.data.toList [117, 114, 110, 58, 98, 116, 105, 104, 58] = true then (p, ⟨#[]⟩, 0, 224)
    else if 0 < i then (p, ⟨#[]⟩, 0, 225)
    else ({ p with h := fsH value.data.toList }, key, 0, fsE value.data.toList)
  else if ordR p.ts p.ps ahead key value (strGt ahead key) ≠ 0 then (p, ⟨#[]⟩, 0, ordR p.ts p.ps ahead key value (strGt ahead key))
  else ((jn p key value).1, key, 0, (jn p key value).2)
/-- a part of a link -/
def ptR (p : Ps) (i : Nat) (ahead s : ByteArray) : Ps × ByteArray × Int × Int :=
  if Lib.indexByte s.data.toList 61 < 1 then (p, ⟨#[]⟩, 0, 226)
  else if 0 ≤ (uneL (s.data.toList.take (Lib.indexByte s.data.toList 61).toNat)).2 then (p, ⟨#[]⟩, (uneL (s.data.toList.take (Lib.indexByte s.data.toList 61).toNat)).2, 222)
  else if 0 ≤ (uneL (s.data.toList.drop ((Lib.indexByte s.data.toList 61).toNat + 1))).2 then (p, ⟨#[]⟩, (((Lib.indexByte s.data.toList 61).toNat + 1 : Nat) : Int) + (uneL (s.data.toList.drop ((Lib.indexByte s.data.toList 61).toNat + 1))).2, 222)
  else pt3 p i ahead ⟨(uneL (s.data.toList.take (Lib.indexByte s.data.toList 61).toNat)).1.toArray⟩ ⟨(uneL (s.data.toList.drop ((Lib.indexByte s.data.toList 61).toNat + 1))).1.toArray⟩
def PE (K : Nat → Prop) (B : Nat) (w : World) (q : Ps × ByteArray × Int × Int) (e : Ending) (w' : World) : Prop := ∃ t2 p2 o2 m2, e = .returned (.tuple #[.agg (lkC q.1.h q.1.nm t2 p2 o2 m2), .string q.2.1, .int .i64 q.2.2.1, .int .i64 q.2.2.2]) ∧ LO B w' q.1 t2 p2 o2 m2 ∧ Below B w w' ∧ ∀ g, K g → w'.heap[g]? = w.heap[g]? ∧ NoB g t2 p2 o2 m2
theorem pe_of {K : Nat → Prop} {B : Nat} {w w' : World} {q : Ps × ByteArray × Int × Int} {p' : Ps} {k' : ByteArray} {pl er : Int} {t2 p2 o2 m2 : Value} (hq : q = (p', k', pl, er)) (h : Below B w w' ∧ LO B w' p' t2 p2 o2 m2 ∧ ∀ g, K g → w'.heap[g]? = w.heap[g]? ∧ NoB g t2 p2 o2 m2) : PE K B w q (.returned (.tuple #[.agg (lkC p'.h p'.nm t2 p2 o2 m2), .string k', .int .i64 pl, .int .i64 er])) w' := by
  subst hq; exact ⟨t2, p2, o2, m2, rfl, h.2.1, h.1, h.2.2⟩
theorem results_c3 {fn : Func} {p q r s : Tmp} {ty : TypeId} (h : fn.results = #[.cell p ty, .tmp q, .tmp r, .tmp s]) (tmps : Array Value) (w : World) (g : Nat) (t : TypeId) (cs : Array Value) (fr : Nat × Nat) (d : TypeDesc)
    (hp : tmps.getD p undef = .pointer (some ⟨g, 0, none⟩)) (hg : w.heap[g]? = some (.cells cs t fr)) (hd : d.isRow = true) (hu : Tryz.prog.underlying ty = some d) (hi : (Tryz.prog.info? ty).map (·.size) = some cs.size) :
    (results fn tmps).run Tryz.prog w = .ok (.tuple #[.agg cs, tmps.getD q undef, tmps.getD r undef, tmps.getD s undef]) w := by
  have hp' : tmps[p]?.getD undef = .pointer (some ⟨g, 0, none⟩) := by simpa using hp
  have hc : w.rangeAt g 0 cs.toList := fun j v hj => by
    rw [Nat.zero_add]
    simp only [World.cell?, hg]
    rw [Array.getElem?_toList] at hj
    rw [hj]; rfl
  have h9 := run_loadVar_mid (P := Tryz.prog) w g 0 ty cs.toList d hc hu hd (by simpa using hi)
  simp [results, h, hp', asAddr, h9]
/-- a row with values put in from a place on -/
def putAt (cs : Array Value) : Nat → List Value → Array Value
  | _, [] => cs
  | o, v :: r => putAt (cs.setIfInBounds o v) (o + 1) r
theorem setCells_at {b : Nat} {ty : TypeId} : ∀ (vs : List Value) (o : Nat) (w : World) (cs : Array Value), w.heap[b]? = some (.cells cs ty (0, 0)) → (w.setCells b o vs).heap[b]? = some (.cells (putAt cs o vs) ty (0, 0))
  | [], _, _, _, h => h
  | v :: r, o, _, _, h => setCells_at r (o + 1) _ _ (setAt h o v)
theorem putAt_app : ∀ (vs xs pre ys : List Value), vs.length = xs.length → putAt (pre ++ (xs ++ ys)).toArray pre.length vs = (pre ++ (vs ++ ys)).toArray
  | [], [], _, _, _ => rfl
  | v :: r, x :: xs, pre, ys, h => by
    have e : (pre ++ (x :: xs ++ ys)).toArray.setIfInBounds pre.length v = ((pre ++ [v]) ++ (xs ++ ys)).toArray := by simp
    have h9 := putAt_app r xs (pre ++ [v]) ys (by simpa using h)
    unfold putAt
    rw [e]
    simpa using h9
theorem lkC_info {l h : List UInt8} (hl : l.length = 32) (hh : h.length = 32) (nm : ByteArray) (tr pe on mo : Value) : putAt (lkC l nm tr pe on mo) 0 (bc h).toList = lkC h nm tr pe on mo := by
  have h9 := putAt_app (Lib.byteCells h) (Lib.byteCells l) [] [.string nm, tr, pe, on, mo] (by simp [Lib.byteCells, hl, hh])
  simpa [lkC, bc] using h9
theorem JB.putH {K : Nat → Prop} {B H : Nat} {w wr : World} {p : Ps} {t2 p2 o2 m2 : Value} {h : List UInt8} (J : JB K B H w wr p t2 p2 o2 m2) (hp : p.h.length = 32) (hh : h.length = 32) : JB K B H w (wr.setCells H 0 (bc h).toList) { p with h := h } t2 p2 o2 m2 := by
  obtain ⟨h1, h2, h3, h4, h5, h6, h7, h8⟩ := J
  have l1 := h3.lt
  have ho : ∀ g, g < wr.heap.size → g ≠ H → (wr.setCells H 0 (bc h).toList).heap[g]? = wr.heap[g]? := fun g hg hne => World.heap_setCells_other _ _ _ _ hg hne
  refine ⟨below_setCells (by omega) _ _ _ h1, ?_, h3.keep (ho _ l1 (by omega)), ?_, h5, h6, h7, fun g hg => ⟨(h8 g hg).1, (ho g (by have := (h8 g hg).1; omega) (by have := (h8 g hg).1; omega)).trans (h8 g hg).2.1, (h8 g hg).2.2⟩⟩
  · have h9 := setCells_at (bc h).toList 0 wr _ h2
    rw [lkC_info hp hh] at h9
    exact h9
  · have h9 := h4.keep (w' := wr.setCells H 0 (bc h).toList) fun g hn => by
      by_cases hl : g < wr.heap.size
      · exact ho g hl (fun e => hn (e ▸ h5))
      · exact absurd (h4.nob (g := g) (by omega)) hn
    exact ⟨h9.o1, h9.o2, h9.o3, h9.o4, h9.d1, h9.d2, h9.d3, h9.d4, h9.d5, h9.d6⟩
/-- behind joined: the block of the answer stands, the new link lies in a block of its own -/
theorem JB.next {K : Nat → Prop} {B H : Nat} {w wr w5 : World} {p p' : Ps} {t2 p2 o2 m2 t3 p3 o3 m3 : Value} (J : JB K B H w wr p t2 p2 o2 m2) (hlo : LO B w5 p' t3 p3 o3 m3) (hb : Below B wr w5) (hk : ∀ g, (K g ∨ g = H ∨ g = H + 1) → w5.heap[g]? = wr.heap[g]? ∧ NoB g t3 p3 o3 m3) (o : Obj) (cs : Array Value) :
    JD K B (H + 1) w ((w5.alloc o).setRow w5.heap.size cs) p' t3 p3 o3 m3 ∧ H + 1 < w5.heap.size := by
  obtain ⟨h1, h2, h3, h4, h5, h6, h7, h8⟩ := J
  have l1 := h3.lt
  have l2 := (h3.keep (hk (H + 1) (.inr (.inr rfl))).1).lt
  have hK : ∀ g, g < w5.heap.size → ((w5.alloc o).setRow w5.heap.size cs).heap[g]? = w5.heap[g]? := fun g hg => (setRow_other _ _ _ _ (by omega)).trans (Below.heap_alloc _ _ _ hg)
  refine ⟨⟨below_setRow (((h1.trans hb)).alloc (by omega) o) (by omega) _, (h3.keep (hk (H + 1) (.inr (.inr rfl))).1).keep (hK _ l2), hlo.keep fun g hn => ?_, (hk (H + 1) (.inr (.inr rfl))).2, by omega, fun g hg => ?_⟩, l2⟩
  · by_cases hl : g < w5.heap.size
    · exact hK g hl
    · exact absurd (hlo.nob (g := g) (by omega)) hn
  · have k1 := (h8 g hg).1
    exact ⟨by omega, (hK g (by omega)).trans ((hk g (.inl hg)).1.trans (h8 g hg).2.1), (hk g (.inl hg)).2⟩
theorem LB.there {w : World} {b : Nat} {l : List UInt8} {nm : ByteArray} {tr pe on mo : Value} (h : LB w b l nm tr pe on mo) (hl : l.length = 32) : w.there b 0 32 := fun j hj => ⟨by
  have hj2 : j < (Lib.byteCells l).length := by simp [Lib.byteCells]; omega
  rw [h.range j _ (List.getElem?_eq_getElem hj2)]; rfl, h.frozen _⟩
theorem jn_h (p : Ps) (key value : ByteArray) : (jn p key value).1.h = p.h := by
  unfold jn jnV
  repeat' split
  all_goals rfl
end Go.Proofs.YtnpcbcfjnhjmmaaGreatDoor
