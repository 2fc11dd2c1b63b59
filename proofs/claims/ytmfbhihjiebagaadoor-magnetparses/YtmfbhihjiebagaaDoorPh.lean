import Derived.Test.YtmfbhihjiebagaaDoorPg
import Derived.Deep.Upon
import Derived.Lib.LazyBuf
namespace Go.Proofs.YtmfbhihjiebagaaDoor
open Go.Shelf Go.RowKit Go.Deep
theorem une_len : ∀ (f : Nat) (l : List UInt8) (k : Nat) (acc : List UInt8), acc.length ≤ k → k ≤ l.length → (une f l k acc).1.length ≤ l.length ∧ ((une f l k acc).2 = -1 ∨ (0 ≤ (une f l k acc).2 ∧ (une f l k acc).2 < (l.length : Int)))
  | 0, l, k, acc, h, hk => ⟨by show acc.length ≤ _; omega, .inl rfl⟩
  | f + 1, l, k, acc, h, hk => by
    unfold une
    split
    · exact ⟨by show acc.length ≤ _; omega, .inl rfl⟩
    · rename_i hlt
      split
      · exact ⟨Nat.zero_le _, .inr ⟨by show (0 : Int) ≤ (k : Int); omega, by show (k : Int) < _; omega⟩⟩
      · rename_i hn
        exact une_len f l _ _ (by simp; omega) (stN_drop (by omega))
theorem uneL_len (l : List UInt8) : (uneL l).1.length ≤ l.length ∧ ((uneL l).2 = -1 ∨ (0 ≤ (uneL l).2 ∧ (uneL l).2 < (l.length : Int))) := une_len _ l 0 [] (Nat.le_refl _) (Nat.zero_le _)
theorem extT (s : ByteArray) (k : Nat) : (s.extract 0 k).data.toList = s.data.toList.take k := by
  rw [ByteArray.data_extract, Array.toList_extract]; simp
theorem fsH_len (l : List UInt8) : (fsH l).length = 32 := by
  unfold fsH fstR
  split
  · rename_i h
    obtain ⟨h1, _, h3⟩ := h
    have h4 := good_len h3
    show (byL _).length = 32
    rw [byL, List.length_map, h4]
    have : (⟨(l.drop 13).toArray⟩ : ByteArray).size = (l.drop 13).length := by simp [ByteArray.size]
    rw [this, List.length_drop]; omega
  · simp
/-- a part of a link, its key and value read -/
def pt3 (p : Ps) (i : Nat) (ahead key value : ByteArray) : Ps × ByteArray × Int × Int :=
  if i = 0 ∧ (key.toList == [120, 116]) = false then (p, ⟨#[]⟩, 0, 223)
  else if (key.toList == [120, 116]) = true then
    if Lib.hasPrefix value.data.toList [117, 114, 110, 58, 98, 116, 105, 104, 58] = true then (p, ⟨#[]⟩, 0, 224)
    else if 0 < i then (p, ⟨#[]⟩, 0, 225)
    else ({ p with h := fsH value.data.toList }, key, 0, fsE value.data.toList)
  else if ordR p.ts p.ps ahead key value (strGt ahead key) ≠ 0 then (p, ⟨#[]⟩, 0, ordR p.ts p.ps ahead key value (strGt ahead key))
  else ((jn p key value).1, key, 0, (jn p key value).2)
/-- a part of a link -/
def ptR (p : Ps) (i : Nat) (ahead s : ByteArray) : Ps × ByteArray × Int × Int :=
  if Lib.indexByte s.data.toList 61 < 1 then (p, ⟨#[]⟩, 0, 226)
  else if 0 ≤ (uneL (s.data.toList.take (Lib.indexByte s.data.toList 61).toNat)).2 then (p, ⟨#[]⟩, (uneL (s.data.toList.take (Lib.indexByte s.data.toList 61).toNat)).2, 222)
  else if 0 ≤ (uneL (s.data.toList.drop ((Lib.indexByte s.data.toList 61).toNat + 1))).2 then (p, ⟨#[]⟩, (((Lib.indexByte s.data.toList 61).toNat + 1 : Nat) : Int) + (uneL (s.data.toList.drop ((Lib.indexByte s.data.toList 61).toNat + 1))).2, 222)
  else pt3 p i ahead ⟨(uneL (s.data.toList.take (Lib.indexByte s.data.toList 61).toNat)).1.toArray⟩ ⟨(uneL (s.data.toList.drop ((Lib.indexByte s.data.toList 61).toNat + 1))).1.toArray⟩
def PE (K : Nat → Prop) (B : Nat) (w : World) (q : Ps × ByteArray × Int × Int) (e : Ending) (w' : World) : Prop := ∃ t2 p2 o2 m2, e = .returned (.tuple #[.agg (lkC q.1.h q.1.nm t2 p2 o2 m2), .string q.2.1, .int .i64 q.2.2.1, .int .i64 q.2.2.2]) ∧ LO B w' q.1 t2 p2 o2 m2 ∧ Below B w w' ∧ ∀ g, K g → w'.heap[g]? = w.heap[g]? ∧ NoB g t2 p2 o2 m2
theorem pe_of {K : Nat → Prop} {B : Nat} {w w' : World} {q : Ps × ByteArray × Int × Int} {p' : Ps} {k' : ByteArray} {pl er : Int} {t2 p2 o2 m2 : Value} (hq : q = (p', k', pl, er)) (h : Below B w w' ∧ LO B w' p' t2 p2 o2 m2 ∧ ∀ g, K g → w'.heap[g]? = w.heap[g]? ∧ NoB g t2 p2 o2 m2) : PE K B w q (.returned (.tuple #[.agg (lkC p'.h p'.nm t2 p2 o2 m2), .string k', .int .i64 pl, .int .i64 er])) w' := by
  subst hq; exact ⟨t2, p2, o2, m2, rfl, h.2.1, h.1, h.2.2⟩
theorem results_c3 {fn : Func} {p q r s : Tmp} {ty : TypeId} (h : fn.results = #[.cell p ty, .tmp q, .tmp r, .tmp s]) (tmps : Array Value) (w : World) (g : Nat) (t : TypeId) (cs : Array Value) (fr : Nat × Nat) (d : TypeDesc)
    (hp : tmps.getD p undef = .pointer (some ⟨g, 0, none⟩)) (hg : w.heap[g]? = some (.cells cs t fr)) (hd : d.isRow = true) (hu : Tryd.prog.underlying ty = some d) (hi : (Tryd.prog.info? ty).map (·.size) = some cs.size) :
    (results fn tmps).run Tryd.prog w = .ok (.tuple #[.agg cs, tmps.getD q undef, tmps.getD r undef, tmps.getD s undef]) w := by
  have hp' : tmps[p]?.getD undef = .pointer (some ⟨g, 0, none⟩) := by simpa using hp
  have hc : w.rangeAt g 0 cs.toList := fun j v hj => by
    rw [Nat.zero_add]
    simp only [World.cell?, hg]
    rw [Array.getElem?_toList] at hj
    rw [hj]; rfl
  have h9 := run_loadVar_mid (P := Tryd.prog) w g 0 ty cs.toList d hc hu hd (by simpa using hi)
  simp [results, h, hp', asAddr, h9]
/-- a row with values put in from a place on -/
def putAt (cs : Array Value) : Nat → List Value → Array Value
  | _, [] => cs
  | o, v :: r => putAt (cs.setIfInBounds o v) (o + 1) r
theorem setCells_at {b : Nat} {ty : TypeId} : ∀ (vs : List Value) (o : Nat) (w : World) (cs : Array Value), w.heap[b]? = some (.cells cs ty (0, 0)) → (w.setCells b o vs).heap[b]? = some (.cells (putAt cs o vs) ty (0, 0))
  | [], _, _, _, h => h
  | v :: r, o, _, _, h => setCells_at r (o + 1) _ _ (setAt h o v)
theorem putAt_app : ∀ (vs xs pre ys : List Value), vs.length = xs.length → putAt (pre ++ (xs ++ ys)).toArray pre.length vs = (pre ++ (vs ++ ys)).toArray
  | [], [], _, _, _ => rfl
  | v :: r, x :: xs, pre, ys, h => by
    have e : (pre ++ (x :: xs ++ ys)).toArray.setIfInBounds pre.length v = ((pre ++ [v]) ++ (xs ++ ys)).toArray := by simp
    have h9 := putAt_app r xs (pre ++ [v]) ys (by simpa using h)
    unfold putAt
    rw [e]
    simpa using h9
theorem lkC_info {l h : List UInt8} (hl : l.length = 32) (hh : h.length = 32) (nm : ByteArray) (tr pe on mo : Value) : putAt (lkC l nm tr pe on mo) 0 (bc h).toList = lkC h nm tr pe on mo := by
  have h9 := putAt_app (Lib.byteCells h) (Lib.byteCells l) [] [.string nm, tr, pe, on, mo] (by simp [Lib.byteCells, hl, hh])
  simpa [lkC, bc] using h9
theorem JB.putH {K : Nat → Prop} {B H : Nat} {w wr : World} {p : Ps} {t2 p2 o2 m2 : Value} {h : List UInt8} (J : JB K B H w wr p t2 p2 o2 m2) (hp : p.h.length = 32) (hh : h.length = 32) : JB K B H w (wr.setCells H 0 (bc h).toList) { p with h := h } t2 p2 o2 m2 := by
  obtain ⟨h1, h2, h3, h4, h5, h6, h7, h8⟩ := J
  have l1 := h3.lt
  have ho : ∀ g, g < wr.heap.size → g ≠ H → (wr.setCells H 0 (bc h).toList).heap[g]? = wr.heap[g]? := fun g hg hne => World.heap_setCells_other _ _ _ _ hg hne
  refine ⟨below_setCells (by omega) _ _ _ h1, ?_, h3.keep (ho _ l1 (by omega)), ?_, h5, h6, h7, fun g hg => ⟨(h8 g hg).1, (ho g (by have := (h8 g hg).1; omega) (by have := (h8 g hg).1; omega)).trans (h8 g hg).2.1, (h8 g hg).2.2⟩⟩
  · have h9 := setCells_at (bc h).toList 0 wr _ h2
    rw [lkC_info hp hh] at h9
    exact h9
  · have h9 := h4.keep (w' := wr.setCells H 0 (bc h).toList) fun g hn => by
      by_cases hl : g < wr.heap.size
      · exact ho g hl (fun e => hn (e ▸ h5))
      · exact absurd (h4.nob (g := g) (by omega)) hn
    exact ⟨h9.o1, h9.o2, h9.o3, h9.o4, h9.d1, h9.d2, h9.d3, h9.d4, h9.d5, h9.d6⟩
/-- behind joined: the block of the answer stands, the new link lies in a block of its own -/
theorem JB.next {K : Nat → Prop} {B H : Nat} {w wr w5 : World} {p p' : Ps} {t2 p2 o2 m2 t3 p3 o3 m3 : Value} (J : JB K B H w wr p t2 p2 o2 m2) (hlo : LO B w5 p' t3 p3 o3 m3) (hb : Below B wr w5) (hk : ∀ g, (K g ∨ g = H ∨ g = H + 1) → w5.heap[g]? = wr.heap[g]? ∧ NoB g t3 p3 o3 m3) (o : Obj) (cs : Array Value) :
    JD K B (H + 1) w ((w5.alloc o).setRow w5.heap.size cs) p' t3 p3 o3 m3 ∧ H + 1 < w5.heap.size := by
  obtain ⟨h1, h2, h3, h4, h5, h6, h7, h8⟩ := J
  have l1 := h3.lt
  have l2 := (h3.keep (hk (H + 1) (.inr (.inr rfl))).1).lt
  have hK : ∀ g, g < w5.heap.size → ((w5.alloc o).setRow w5.heap.size cs).heap[g]? = w5.heap[g]? := fun g hg => (setRow_other _ _ _ _ (by omega)).trans (Below.heap_alloc _ _ _ hg)
  refine ⟨⟨below_setRow (((h1.trans hb)).alloc (by omega) o) (by omega) _, (h3.keep (hk (H + 1) (.inr (.inr rfl))).1).keep (hK _ l2), hlo.keep fun g hn => ?_, (hk (H + 1) (.inr (.inr rfl))).2, by omega, fun g hg => ?_⟩, l2⟩
  · by_cases hl : g < w5.heap.size
    · exact hK g hl
    · exact absurd (hlo.nob (g := g) (by omega)) hn
  · have k1 := (h8 g hg).1
    exact ⟨by omega, (hK g (by omega)).trans ((hk g (.inl hg)).1.trans (h8 g hg).2.1), (hk g (.inl hg)).2⟩
theorem LB.there {w : World} {b : Nat} {l : List UInt8} {nm : ByteArray} {tr pe on mo : Value} (h : LB w b l nm tr pe on mo) (hl : l.length = 32) : w.there b 0 32 := fun j hj => ⟨by
  have hj2 : j < (Lib.byteCells l).length := by simp [Lib.byteCells]; omega
  rw [h.range j _ (List.getElem?_eq_getElem hj2)]; rfl, h.frozen _⟩
theorem jn_h (p : Ps) (key value : ByteArray) : (jn p key value).1.h = p.h := by
  unfold jn jnV
  repeat' split
  all_goals rfl
set_option maxHeartbeats 4000000 in
set_option maxRecDepth 100000 in
theorem rpart (K : Nat → Prop) (B : Nat) (p : Ps) (tr pe on mo : Value) (i : Nat) (ahead s : ByteArray) (w : World) (hp : p.h.length = 32) (hlo : LO B w p tr pe on mo) (hB : B ≤ w.heap.size) (hs : s.size ≤ 4096) (hi : i ≤ 4096) (hn : p.ts.length ≤ 4096 ∧ p.ps.length ≤ 4096 ∧ p.mo.length < 16777215) (hK : ∀ g, K g → g < w.heap.size ∧ NoB g tr pe on mo) :
    Calls Tryd.prog 11 #[.agg (lkC p.h p.nm tr pe on mo), .int .i64 (i : Int), .string ahead, .string s] w fun e w' => PE K B w (ptR p i ahead s) e w' := by
  obtain ⟨ta, tc, rfl⟩ := ownForm hlo.o1
  obtain ⟨pa, pc, rfl⟩ := ownForm hlo.o2
  obtain ⟨oa, oc, rfl⟩ := ownForm hlo.o3
  obtain ⟨ma, mc, rfl⟩ := ownForm hlo.o4
  have J0 : Hid (JB K B w.heap.size w ((w.alloc (Obj.cells (lkC p.h p.nm (.slice ta p.ts.length tc) (.slice pa p.ps.length pc) (.slice oa p.rs.length oc) (.slice ma p.mo.length mc)) 28)).alloc (Obj.cells #[.int .u8 0, .int .u8 0, .int .u8 0, .int .u8 0, .int .u8 0, .int .u8 0, .int .u8 0, .int .u8 0, .int .u8 0, .int .u8 0, .int .u8 0, .int .u8 0, .int .u8 0, .int .u8 0, .int .u8 0, .int .u8 0, .int .u8 0, .int .u8 0, .int .u8 0, .int .u8 0, .int .u8 0, .int .u8 0, .int .u8 0, .int .u8 0, .int .u8 0, .int .u8 0, .int .u8 0, .int .u8 0, .int .u8 0, .int .u8 0, .int .u8 0, .int .u8 0, .string { data := #[] }, .slice .none 0 0, .slice .none 0 0, .slice .none 0 0, .slice .none 0 0] 28)) p (.slice ta p.ts.length tc) (.slice pa p.ps.length pc) (.slice oa p.rs.length oc) (.slice ma p.mo.length mc)) := by
    have b0 : Below w.heap.size w ((w.alloc (Obj.cells (lkC p.h p.nm (.slice ta p.ts.length tc) (.slice pa p.ps.length pc) (.slice oa p.rs.length oc) (.slice ma p.mo.length mc)) 28)).alloc (Obj.cells #[.int .u8 0, .int .u8 0, .int .u8 0, .int .u8 0, .int .u8 0, .int .u8 0, .int .u8 0, .int .u8 0, .int .u8 0, .int .u8 0, .int .u8 0, .int .u8 0, .int .u8 0, .int .u8 0, .int .u8 0, .int .u8 0, .int .u8 0, .int .u8 0, .int .u8 0, .int .u8 0, .int .u8 0, .int .u8 0, .int .u8 0, .int .u8 0, .int .u8 0, .int .u8 0, .int .u8 0, .int .u8 0, .int .u8 0, .int .u8 0, .int .u8 0, .int .u8 0, .string { data := #[] }, .slice .none 0 0, .slice .none 0 0, .slice .none 0 0, .slice .none 0 0] 28)) := ((Below.refl _ _).alloc (Nat.le_refl _) _).alloc (by simp) _
    have h9 := heap_new (w.alloc (Obj.cells (lkC p.h p.nm (.slice ta p.ts.length tc) (.slice pa p.ps.length pc) (.slice oa p.rs.length oc) (.slice ma p.mo.length mc)) 28)) (Obj.cells #[.int .u8 0, .int .u8 0, .int .u8 0, .int .u8 0, .int .u8 0, .int .u8 0, .int .u8 0, .int .u8 0, .int .u8 0, .int .u8 0, .int .u8 0, .int .u8 0, .int .u8 0, .int .u8 0, .int .u8 0, .int .u8 0, .int .u8 0, .int .u8 0, .int .u8 0, .int .u8 0, .int .u8 0, .int .u8 0, .int .u8 0, .int .u8 0, .int .u8 0, .int .u8 0, .int .u8 0, .int .u8 0, .int .u8 0, .int .u8 0, .int .u8 0, .int .u8 0, .string { data := #[] }, .slice .none 0 0, .slice .none 0 0, .slice .none 0 0, .slice .none 0 0] 28)
    have e9 : (w.alloc (Obj.cells (lkC p.h p.nm (.slice ta p.ts.length tc) (.slice pa p.ps.length pc) (.slice oa p.rs.length oc) (.slice ma p.mo.length mc)) 28)).heap.size = w.heap.size + 1 := by simp
    rw [e9] at h9
    exact (⟨b0.mono hB, (Below.heap_alloc _ _ _ (by simp)).trans (heap_new _ _), h9, hlo.below b0, hlo.nob (Nat.le_refl _), hlo.nob (Nat.le_succ _), hB, fun g hg => ⟨(hK g hg).1, b0.block g (hK g hg).1, (hK g hg).2⟩⟩ : JB K B w.heap.size w ((w.alloc (Obj.cells (lkC p.h p.nm (.slice ta p.ts.length tc) (.slice pa p.ps.length pc) (.slice oa p.rs.length oc) (.slice ma p.mo.length mc)) 28)).alloc (Obj.cells #[.int .u8 0, .int .u8 0, .int .u8 0, .int .u8 0, .int .u8 0, .int .u8 0, .int .u8 0, .int .u8 0, .int .u8 0, .int .u8 0, .int .u8 0, .int .u8 0, .int .u8 0, .int .u8 0, .int .u8 0, .int .u8 0, .int .u8 0, .int .u8 0, .int .u8 0, .int .u8 0, .int .u8 0, .int .u8 0, .int .u8 0, .int .u8 0, .int .u8 0, .int .u8 0, .int .u8 0, .int .u8 0, .int .u8 0, .int .u8 0, .int .u8 0, .int .u8 0, .string { data := #[] }, .slice .none 0 0, .slice .none 0 0, .slice .none 0 0, .slice .none 0 0] 28)) p (.slice ta p.ts.length tc) (.slice pa p.ps.length pc) (.slice oa p.rs.length oc) (.slice ma p.mo.length mc))
  have HC : Hid (∀ w, Calls Tryd.prog 22 #[.string s, .int .u8 61] w fun e w' => e = .returned (.int .i64 (Lib.indexByte s.data.toList 61)) ∧ w' = w) := fun w => rplace s 61 w (by omega)
  have HQ : Hid (ptR p i ahead s = if Lib.indexByte s.data.toList 61 < 1 then (p, ⟨#[]⟩, 0, 226)
    else if 0 ≤ (uneL (s.data.toList.take (Lib.indexByte s.data.toList 61).toNat)).2 then (p, ⟨#[]⟩, (uneL (s.data.toList.take (Lib.indexByte s.data.toList 61).toNat)).2, 222)
    else if 0 ≤ (uneL (s.data.toList.drop ((Lib.indexByte s.data.toList 61).toNat + 1))).2 then (p, ⟨#[]⟩, (((Lib.indexByte s.data.toList 61).toNat + 1 : Nat) : Int) + (uneL (s.data.toList.drop ((Lib.indexByte s.data.toList 61).toNat + 1))).2, 222)
    else pt3 p i ahead ⟨(uneL (s.data.toList.take (Lib.indexByte s.data.toList 61).toNat)).1.toArray⟩ ⟨(uneL (s.data.toList.drop ((Lib.indexByte s.data.toList 61).toNat + 1))).1.toArray⟩) := rfl
  have HX : Hid (∀ o : Nat, Lib.indexByte s.data.toList 61 = (o : Int) → o < s.size) := fun o h => by
    have h9 := (Lib.indexByte_some h).1
    have := (List.getElem?_eq_some_iff.1 h9).1
    rw [Lib.size_eq]; exact this
  clear hlo hB hK
  generalize ptR p i ahead s = q at *
  go_enter Tryd.func11, Tryd.ntmps11
  go_upto_region 1 with fail
  generalize ((w.alloc (Obj.cells (lkC p.h p.nm (.slice ta p.ts.length tc) (.slice pa p.ps.length pc) (.slice oa p.rs.length oc) (.slice ma p.mo.length mc)) 28)).alloc (Obj.cells #[.int .u8 0, .int .u8 0, .int .u8 0, .int .u8 0, .int .u8 0, .int .u8 0, .int .u8 0, .int .u8 0, .int .u8 0, .int .u8 0, .int .u8 0, .int .u8 0, .int .u8 0, .int .u8 0, .int .u8 0, .int .u8 0, .int .u8 0, .int .u8 0, .int .u8 0, .int .u8 0, .int .u8 0, .int .u8 0, .int .u8 0, .int .u8 0, .int .u8 0, .int .u8 0, .int .u8 0, .int .u8 0, .int .u8 0, .int .u8 0, .int .u8 0, .int .u8 0, .string { data := #[] }, .slice .none 0 0, .slice .none 0 0, .slice .none 0 0, .slice .none 0 0] 28)) = w0 at *
  generalize hvb : w.heap.size = H at *
  clear hvb
  go_wp2_with fail
  refine (HC.out w0).mono ?_
  rintro e w1 ⟨rfl, rfl⟩
  clear HC
  obtain ⟨n1, n2, n3⟩ := hn
  generalize Lib.indexByte s.data.toList 61 = E at *
  by_cases hE : E < 1
  · have HE : Hid (q = (p, ⟨#[]⟩, 0, 226)) := by have h9 := HQ.out; rw [if_pos hE] at h9; exact h9
    clear HQ HX
    have hRow := J0.out.2.1
    have hZer := J0.out.2.2.1
    go_wp2_with (first | (refine wpList_store_row rfl 28 _ _ rfl (H + 1) (lkC p.h p.nm (.slice ta p.ts.length tc) (.slice pa p.ps.length pc) (.slice oa p.rs.length oc) (.slice ma p.mo.length mc)) rfl rfl 28 _ hZer (infoLk hp) (by rw [lkC_size hp, lkC_size (by simp)]) lkC_one ?_) | (refine wpList_load_row rfl 28 _ rfl H rfl 28 (lkC p.h p.nm (.slice ta p.ts.length tc) (.slice pa p.ps.length pc) (.slice oa p.rs.length oc) (.slice ma p.mo.length mc)) (0, 0) _ hRow Tryd.underlying28 rfl (infoLk hp) ?_))
    exact bodyPost_ret (results_c3 Tryd.results11 _ _ (H + 1) 28 _ (0, 0) _ rfl (setRow_heap w1 (H + 1) _ _ _ _ hZer) rfl Tryd.underlying28 (infoLk hp)) rfl (pe_of (p' := p) HE.out (J0.out.store _))
  obtain ⟨n, rfl⟩ : ∃ n : Nat, E = (n : Int) := ⟨E.toNat, by omega⟩
  have hn1 : 1 ≤ n := by omega
  have hn2 : n < s.size := HX.out n rfl
  have hE' : ¬ (n : Int) < 1 := hE
  clear hE HX
  have hsl : ∀ w : World, (Instr.slice 9 (.string s) none (some (.int .i64 (n : Int))) none).run Tryd.prog w = .ok (.string (s.extract 0 n)) w := fun w => by
    have hh := Lib.size_eq s
    simp [go_sem, Tryd.underlying9]; omega
  have hsl2 : ∀ w : World, (Instr.slice 9 (.string s) (some (.int .i64 ((n : Int) + 1))) none none).run Tryd.prog w = .ok (.string (s.extract (n + 1) s.size)) w := fun w => by
    have hh := Lib.size_eq s
    have h3 : ((n : Int) + 1).toNat = n + 1 := by omega
    simp [go_sem, Tryd.underlying9, h3]; omega
  obtain ⟨ky, a1, HU1, HD1⟩ : ∃ (ky : ByteArray) (a1 : Int), Hid (∀ w, Calls Tryd.prog 23 #[.string (s.extract 0 n)] w fun e w' => e = .returned (.tuple #[.string ky, .int .i64 a1]) ∧ Below w.heap.size w w') ∧ Hid (ky = ⟨(uneL (s.data.toList.take n)).1.toArray⟩ ∧ a1 = (uneL (s.data.toList.take n)).2) := by
    refine ⟨_, _, Lib.hid (fun w => ?_), Lib.hid ⟨rfl, rfl⟩⟩
    have h9 := runescape (s.extract 0 n) w (by simp; omega)
    rw [extT] at h9; exact h9
  obtain ⟨va, a2, HU2, HD2⟩ : ∃ (va : ByteArray) (a2 : Int), Hid (∀ w, Calls Tryd.prog 23 #[.string (s.extract (n + 1) s.size)] w fun e w' => e = .returned (.tuple #[.string va, .int .i64 a2]) ∧ Below w.heap.size w w') ∧ Hid (va = ⟨(uneL (s.data.toList.drop (n + 1))).1.toArray⟩ ∧ a2 = (uneL (s.data.toList.drop (n + 1))).2) := by
    refine ⟨_, _, Lib.hid (fun w => ?_), Lib.hid ⟨rfl, rfl⟩⟩
    have h9 := runescape (s.extract (n + 1) s.size) w (by simp; omega)
    rw [extD] at h9; exact h9
  have hva : va.size ≤ 4096 := by
    have h9 := (uneL_len (s.data.toList.drop (n + 1))).1
    rw [HD2.out.1]
    have e9 : (⟨(uneL (s.data.toList.drop (n + 1))).1.toArray⟩ : ByteArray).size = (uneL (s.data.toList.drop (n + 1))).1.length := by simp [ByteArray.size]
    have e8 := Lib.size_eq s
    rw [List.length_drop] at h9
    omega
  have ha2 : a2 ≤ 4096 := by
    have h9 := (uneL_len (s.data.toList.drop (n + 1))).2
    have e8 := Lib.size_eq s
    rw [List.length_drop, ← HD2.out.2] at h9
    omega
  have HQ1 : Hid (q = if 0 ≤ a1 then (p, ⟨#[]⟩, a1, 222) else if 0 ≤ a2 then (p, ⟨#[]⟩, ((n + 1 : Nat) : Int) + a2, 222) else pt3 p i ahead ky va) := by
    have h9 := HQ.out
    rw [if_neg hE', Int.toNat_natCast, ← HD1.out.1, ← HD1.out.2, ← HD2.out.1, ← HD2.out.2] at h9
    exact h9
  clear HQ HD1 HD2
  go_wp2_with fail
  refine (HU1.out w1).mono ?_
  rintro e w2 ⟨rfl, b2⟩
  have J1 : Hid (JB K B H w w2 p (.slice ta p.ts.length tc) (.slice pa p.ps.length pc) (.slice oa p.rs.length oc) (.slice ma p.mo.length mc)) := J0.out.below b2
  clear J0 b2 HU1 hsl hE'
  by_cases ha : 0 ≤ a1
  · have HE : Hid (q = (p, ⟨#[]⟩, a1, 222)) := by have h9 := HQ1.out; rw [if_pos ha] at h9; exact h9
    clear HQ1 HU2 hsl2
    have hRow := J1.out.2.1
    have hZer := J1.out.2.2.1
    go_wp2_with (first | (refine wpList_store_row rfl 28 _ _ rfl (H + 1) (lkC p.h p.nm (.slice ta p.ts.length tc) (.slice pa p.ps.length pc) (.slice oa p.rs.length oc) (.slice ma p.mo.length mc)) rfl rfl 28 _ hZer (infoLk hp) (by rw [lkC_size hp, lkC_size (by simp)]) lkC_one ?_) | (refine wpList_load_row rfl 28 _ rfl H rfl 28 (lkC p.h p.nm (.slice ta p.ts.length tc) (.slice pa p.ps.length pc) (.slice oa p.rs.length oc) (.slice ma p.mo.length mc)) (0, 0) _ hRow Tryd.underlying28 rfl (infoLk hp) ?_))
    exact bodyPost_ret (results_c3 Tryd.results11 _ _ (H + 1) 28 _ (0, 0) _ rfl (setRow_heap w2 (H + 1) _ _ _ _ hZer) rfl Tryd.underlying28 (infoLk hp)) rfl (pe_of (p' := p) HE.out (J1.out.store _))
  have HQ2 : Hid (q = if 0 ≤ a2 then (p, ⟨#[]⟩, ((n + 1 : Nat) : Int) + a2, 222) else pt3 p i ahead ky va) := by have h9 := HQ1.out; rw [if_neg ha] at h9; exact h9
  clear HQ1
  go_wp2_with fail
  refine (HU2.out w2).mono ?_
  rintro e w3 ⟨rfl, b3⟩
  have J2 : Hid (JB K B H w w3 p (.slice ta p.ts.length tc) (.slice pa p.ps.length pc) (.slice oa p.rs.length oc) (.slice ma p.mo.length mc)) := J1.out.below b3
  clear J1 b3 HU2 hsl2
  by_cases hb : 0 ≤ a2
  · have HE : Hid (q = (p, ⟨#[]⟩, (n : Int) + 1 + a2, 222)) := by have h9 := HQ2.out; rw [if_pos hb] at h9; exact h9
    clear HQ2
    have hRow := J2.out.2.1
    have hZer := J2.out.2.2.1
    go_wp2_with (first | (refine wpList_store_row rfl 28 _ _ rfl (H + 1) (lkC p.h p.nm (.slice ta p.ts.length tc) (.slice pa p.ps.length pc) (.slice oa p.rs.length oc) (.slice ma p.mo.length mc)) rfl rfl 28 _ hZer (infoLk hp) (by rw [lkC_size hp, lkC_size (by simp)]) lkC_one ?_) | (refine wpList_load_row rfl 28 _ rfl H rfl 28 (lkC p.h p.nm (.slice ta p.ts.length tc) (.slice pa p.ps.length pc) (.slice oa p.rs.length oc) (.slice ma p.mo.length mc)) (0, 0) _ hRow Tryd.underlying28 rfl (infoLk hp) ?_))
    exact bodyPost_ret (results_c3 Tryd.results11 _ _ (H + 1) 28 _ (0, 0) _ rfl (setRow_heap w3 (H + 1) _ _ _ _ hZer) rfl Tryd.underlying28 (infoLk hp)) rfl (pe_of (p' := p) HE.out (J2.out.store _))
  have HQ3 : Hid (q = pt3 p i ahead ky va) := by have h9 := HQ2.out; rw [if_neg hb] at h9; exact h9
  clear HQ2 hn1 hn2 hs ha2
  by_cases hi0 : i = 0
  · subst hi0
    cases hx : (ky.toList == [120, 116]) with
    | false =>
      have HE : Hid (q = (p, ⟨#[]⟩, 0, 223)) := by have h9 := HQ3.out; unfold pt3 at h9; rw [if_pos ⟨rfl, hx⟩] at h9; exact h9
      clear HQ3
      have hRow := J2.out.2.1
      have hZer := J2.out.2.2.1
      go_wp2_with (first | (refine wpList_store_row rfl 28 _ _ rfl (H + 1) (lkC p.h p.nm (.slice ta p.ts.length tc) (.slice pa p.ps.length pc) (.slice oa p.rs.length oc) (.slice ma p.mo.length mc)) rfl rfl 28 _ hZer (infoLk hp) (by rw [lkC_size hp, lkC_size (by simp)]) lkC_one ?_) | (refine wpList_load_row rfl 28 _ rfl H rfl 28 (lkC p.h p.nm (.slice ta p.ts.length tc) (.slice pa p.ps.length pc) (.slice oa p.rs.length oc) (.slice ma p.mo.length mc)) (0, 0) _ hRow Tryd.underlying28 rfl (infoLk hp) ?_))
      exact bodyPost_ret (results_c3 Tryd.results11 _ _ (H + 1) 28 _ (0, 0) _ rfl (setRow_heap w3 (H + 1) _ _ _ _ hZer) rfl Tryd.underlying28 (infoLk hp)) rfl (pe_of (p' := p) HE.out (J2.out.store _))
    | true =>
      have HST : Hid (∀ w, Calls Tryd.prog 10 #[.string va, .string { data := #[117, 114, 110, 58, 98, 116, 105, 104, 58] }] w fun e w' => e = .returned (.bool (Lib.hasPrefix va.data.toList [117, 114, 110, 58, 98, 116, 105, 104, 58])) ∧ w' = w) := fun w => rstarts va { data := #[117, 114, 110, 58, 98, 116, 105, 104, 58] } w
      go_wp2_with fail
      refine (HST.out w3).mono ?_
      rintro e w4 ⟨rfl, rfl⟩
      clear HST
      cases hpf : Lib.hasPrefix va.data.toList [117, 114, 110, 58, 98, 116, 105, 104, 58] with
      | true =>
        have HE : Hid (q = (p, ⟨#[]⟩, 0, 224)) := by have h9 := HQ3.out; unfold pt3 at h9; rw [if_neg (fun h => by rw [hx] at h; cases h.2), if_pos hx, if_pos hpf] at h9; exact h9
        clear HQ3
        have hRow := J2.out.2.1
        have hZer := J2.out.2.2.1
        go_wp2_with (first | (refine wpList_store_row rfl 28 _ _ rfl (H + 1) (lkC p.h p.nm (.slice ta p.ts.length tc) (.slice pa p.ps.length pc) (.slice oa p.rs.length oc) (.slice ma p.mo.length mc)) rfl rfl 28 _ hZer (infoLk hp) (by rw [lkC_size hp, lkC_size (by simp)]) lkC_one ?_) | (refine wpList_load_row rfl 28 _ rfl H rfl 28 (lkC p.h p.nm (.slice ta p.ts.length tc) (.slice pa p.ps.length pc) (.slice oa p.rs.length oc) (.slice ma p.mo.length mc)) (0, 0) _ hRow Tryd.underlying28 rfl (infoLk hp) ?_))
        exact bodyPost_ret (results_c3 Tryd.results11 _ _ (H + 1) 28 _ (0, 0) _ rfl (setRow_heap w4 (H + 1) _ _ _ _ hZer) rfl Tryd.underlying28 (infoLk hp)) rfl (pe_of (p' := p) HE.out (J2.out.store _))
      | false =>
        go_wp2_with fail
        refine (rfirst va w4).mono ?_
        rintro e w5 ⟨rfl, b5⟩
        have hhl := fsH_len va.data.toList
        have HE : Hid (q = ({ p with h := fsH va.data.toList }, ky, 0, fsE va.data.toList)) := by have h9 := HQ3.out; unfold pt3 at h9; rw [if_neg (fun h => by rw [hx] at h; cases h.2), if_pos hx, if_neg (by rw [hpf]; decide), if_neg (by omega)] at h9; exact h9
        have J3 : Hid (JB K B H w w5 p (.slice ta p.ts.length tc) (.slice pa p.ps.length pc) (.slice oa p.rs.length oc) (.slice ma p.mo.length mc)) := J2.out.below b5
        clear J2 b5 HQ3
        generalize fsH va.data.toList = hh at *
        generalize fsE va.data.toList = er at *
        have J4 : Hid (JB K B H w ((w5.alloc (Obj.cells #[.int .u8 0, .int .u8 0, .int .u8 0, .int .u8 0, .int .u8 0, .int .u8 0, .int .u8 0, .int .u8 0, .int .u8 0, .int .u8 0, .int .u8 0, .int .u8 0, .int .u8 0, .int .u8 0, .int .u8 0, .int .u8 0, .int .u8 0, .int .u8 0, .int .u8 0, .int .u8 0, .int .u8 0, .int .u8 0, .int .u8 0, .int .u8 0, .int .u8 0, .int .u8 0, .int .u8 0, .int .u8 0, .int .u8 0, .int .u8 0, .int .u8 0, .int .u8 0] 23)).setRow w5.heap.size (bc hh)) p (.slice ta p.ts.length tc) (.slice pa p.ps.length pc) (.slice oa p.rs.length oc) (.slice ma p.mo.length mc)) := J3.out.below (below_setRow ((Below.refl _ _).alloc (Nat.le_refl _) _) (Nat.le_refl _) _)
        have X4 : ((w5.alloc (Obj.cells #[.int .u8 0, .int .u8 0, .int .u8 0, .int .u8 0, .int .u8 0, .int .u8 0, .int .u8 0, .int .u8 0, .int .u8 0, .int .u8 0, .int .u8 0, .int .u8 0, .int .u8 0, .int .u8 0, .int .u8 0, .int .u8 0, .int .u8 0, .int .u8 0, .int .u8 0, .int .u8 0, .int .u8 0, .int .u8 0, .int .u8 0, .int .u8 0, .int .u8 0, .int .u8 0, .int .u8 0, .int .u8 0, .int .u8 0, .int .u8 0, .int .u8 0, .int .u8 0] 23)).setRow w5.heap.size (bc hh)).heap[w5.heap.size]? = some (.cells (bc hh) 23 (0, 0)) := setRow_heap _ _ _ _ _ _ (heap_new w5 _)
        go_upto_region 19 with (refine wpList_store_row rfl 23 _ _ rfl w5.heap.size (bc hh) rfl rfl 23 _ (heap_new w5 _) (infoHb hhl) (by rw [bc_size, hhl]; rfl) (bc_one _) ?_)
        clear J3
        generalize ((w5.alloc (Obj.cells #[.int .u8 0, .int .u8 0, .int .u8 0, .int .u8 0, .int .u8 0, .int .u8 0, .int .u8 0, .int .u8 0, .int .u8 0, .int .u8 0, .int .u8 0, .int .u8 0, .int .u8 0, .int .u8 0, .int .u8 0, .int .u8 0, .int .u8 0, .int .u8 0, .int .u8 0, .int .u8 0, .int .u8 0, .int .u8 0, .int .u8 0, .int .u8 0, .int .u8 0, .int .u8 0, .int .u8 0, .int .u8 0, .int .u8 0, .int .u8 0, .int .u8 0, .int .u8 0] 23)).setRow w5.heap.size (bc hh)) = w6 at *
        generalize w5.heap.size = G at *
        have T6 : w6.there H 0 (bc hh).size := by rw [bc_size, hhl]; exact J4.out.2.1.there hp
        have J5 : Hid (JB K B H w (w6.setCells H 0 (bc hh).toList) { p with h := hh } (.slice ta p.ts.length tc) (.slice pa p.ps.length pc) (.slice oa p.rs.length oc) (.slice ma p.mo.length mc)) := J4.out.putH hp hhl
        go_upto_region 20 with (first | (refine wpList_store_mid rfl 23 _ _ rfl H 0 (bc hh) rfl rfl T6 (infoHb hhl) (bc_one _) ?_) | (refine wpList_load_row rfl 23 _ rfl G rfl 23 (bc hh) (0, 0) _ X4 Tryd.underlying23 rfl (infoHb hhl) ?_))
        clear T6 X4 J4
        generalize w6.setCells H 0 (bc hh).toList = w7 at *
        have hRow := J5.out.2.1
        have hZer := J5.out.2.2.1
        go_wp2_with (first | (refine wpList_store_row rfl 28 _ _ rfl (H + 1) (lkC hh p.nm (.slice ta p.ts.length tc) (.slice pa p.ps.length pc) (.slice oa p.rs.length oc) (.slice ma p.mo.length mc)) rfl rfl 28 _ hZer (infoLk hhl) (by rw [lkC_size hhl, lkC_size (by simp)]) lkC_one ?_) | (refine wpList_load_row rfl 28 _ rfl H rfl 28 (lkC hh p.nm (.slice ta p.ts.length tc) (.slice pa p.ps.length pc) (.slice oa p.rs.length oc) (.slice ma p.mo.length mc)) (0, 0) _ hRow Tryd.underlying28 rfl (infoLk hhl) ?_))
        exact bodyPost_ret (results_c3 Tryd.results11 _ _ (H + 1) 28 _ (0, 0) _ rfl (setRow_heap w7 (H + 1) _ _ _ _ hZer) rfl Tryd.underlying28 (infoLk hhl)) rfl (pe_of (p' := { p with h := hh }) HE.out (J5.out.store _))
  · have hi1 : ¬ (i : Int) = 0 := by omega
    have hi2 : (i : Int) > 0 := by omega
    cases hx : (ky.toList == [120, 116]) with
    | false =>
      have hRow := J2.out.2.1
      have HRS : Hid (RS (fun _ => True) w3 (.slice ta p.ts.length tc) p.ts ∧ RS (fun _ => True) w3 (.slice pa p.ps.length pc) p.ps) := ⟨(texts_of J2.out.2.2.2.1.o1).move (fun _ _ _ => trivial) (Nat.le_refl _) (fun _ _ _ => rfl), (texts_of J2.out.2.2.2.1.o2).move (fun _ _ _ => trivial) (Nat.le_refl _) (fun _ _ _ => rfl)⟩
      have HQ4 : Hid (q = if ordR p.ts p.ps ahead ky va (strGt ahead ky) ≠ 0 then (p, ⟨#[]⟩, 0, ordR p.ts p.ps ahead ky va (strGt ahead ky)) else ((jn p ky va).1, ky, 0, (jn p ky va).2)) := by have h9 := HQ3.out; unfold pt3 at h9; rw [if_neg (fun h => hi0 h.1), if_neg (by rw [hx]; decide)] at h9; exact h9
      clear HQ3
      go_wp2_with (refine wpList_load_row rfl 28 _ rfl H rfl 28 (lkC p.h p.nm (.slice ta p.ts.length tc) (.slice pa p.ps.length pc) (.slice oa p.rs.length oc) (.slice ma p.mo.length mc)) (0, 0) _ hRow Tryd.underlying28 rfl (infoLk hp) ?_)
      refine (rordered p.h p.nm _ _ _ _ p.ts p.ps ahead ky va w3 hp HRS.out.1 HRS.out.2 n1 n2).mono ?_
      rintro e w4 ⟨rfl, b4⟩
      have J3 : Hid (JB K B H w w4 p (.slice ta p.ts.length tc) (.slice pa p.ps.length pc) (.slice oa p.rs.length oc) (.slice ma p.mo.length mc)) := J2.out.below b4
      clear J2 b4 HRS hRow
      generalize ordR p.ts p.ps ahead ky va (strGt ahead ky) = od at *
      by_cases hod : od = 0
      · have HQ5 : Hid (q = ((jn p ky va).1, ky, 0, (jn p ky va).2)) := by have h9 := HQ4.out; rw [if_neg (fun h => h hod)] at h9; exact h9
        clear HQ4
        subst hod
        have hRow := J3.out.2.1
        go_wp2_with (refine wpList_load_row rfl 28 _ rfl H rfl 28 (lkC p.h p.nm (.slice ta p.ts.length tc) (.slice pa p.ps.length pc) (.slice oa p.rs.length oc) (.slice ma p.mo.length mc)) (0, 0) _ hRow Tryd.underlying28 rfl (infoLk hp) ?_)
        refine (rjoined (fun g => K g ∨ g = H ∨ g = H + 1) B p _ _ _ _ ky va w4 hp J3.out.2.2.2.1 (by have := J3.out.2.2.2.2.2.2.1; have := J3.out.2.1.lt; omega) hva ⟨by omega, by omega, by omega⟩ (fun g hg => ?_)).mono ?_
        · rcases hg with hg | rfl | rfl
          · have k1 := J3.out.2.2.2.2.2.2.2 g hg
            exact ⟨by have := J3.out.2.1.lt; omega, k1.2.2⟩
          · exact ⟨J3.out.2.1.lt, J3.out.2.2.2.2.1⟩
          · exact ⟨J3.out.2.2.1.lt, J3.out.2.2.2.2.2.1⟩
        rintro e w5 ⟨t3, p3, o3, m3, rfl, hlo, hb5, hk5⟩
        have hph : (jn p ky va).1.h.length = 32 := by rw [jn_h]; exact hp
        generalize jn p ky va = r at *
        obtain ⟨r1, er⟩ := r
        obtain ⟨x0, z0, e0⟩ := ownForm hlo.o1
        obtain ⟨x1, z1, e1⟩ := ownForm hlo.o2
        obtain ⟨x2, z2, e2⟩ := ownForm hlo.o3
        obtain ⟨x3, z3, e3⟩ := ownForm hlo.o4
        obtain ⟨y0, hy0⟩ : ∃ y, y = r1.ts.length := ⟨_, rfl⟩
        obtain ⟨y1, hy1⟩ : ∃ y, y = r1.ps.length := ⟨_, rfl⟩
        obtain ⟨y2, hy2⟩ : ∃ y, y = r1.rs.length := ⟨_, rfl⟩
        obtain ⟨y3, hy3⟩ : ∃ y, y = r1.mo.length := ⟨_, rfl⟩
        simp only [← hy0, ← hy1, ← hy2, ← hy3] at e0 e1 e2 e3
        subst e0 e1 e2 e3
        clear hy0 hy1 hy2 hy3
        have D5 : Hid (JD K B (H + 1) w ((w5.alloc (Obj.cells #[.int .u8 0, .int .u8 0, .int .u8 0, .int .u8 0, .int .u8 0, .int .u8 0, .int .u8 0, .int .u8 0, .int .u8 0, .int .u8 0, .int .u8 0, .int .u8 0, .int .u8 0, .int .u8 0, .int .u8 0, .int .u8 0, .int .u8 0, .int .u8 0, .int .u8 0, .int .u8 0, .int .u8 0, .int .u8 0, .int .u8 0, .int .u8 0, .int .u8 0, .int .u8 0, .int .u8 0, .int .u8 0, .int .u8 0, .int .u8 0, .int .u8 0, .int .u8 0, .string { data := #[] }, .slice .none 0 0, .slice .none 0 0, .slice .none 0 0, .slice .none 0 0] 28)).setRow w5.heap.size (lkC r1.h r1.nm (.slice x0 y0 z0) (.slice x1 y1 z1) (.slice x2 y2 z2) (.slice x3 y3 z3))) r1 (.slice x0 y0 z0) (.slice x1 y1 z1) (.slice x2 y2 z2) (.slice x3 y3 z3)) := (J3.out.next hlo hb5 hk5 _ _).1
        have X5 : ((w5.alloc (Obj.cells #[.int .u8 0, .int .u8 0, .int .u8 0, .int .u8 0, .int .u8 0, .int .u8 0, .int .u8 0, .int .u8 0, .int .u8 0, .int .u8 0, .int .u8 0, .int .u8 0, .int .u8 0, .int .u8 0, .int .u8 0, .int .u8 0, .int .u8 0, .int .u8 0, .int .u8 0, .int .u8 0, .int .u8 0, .int .u8 0, .int .u8 0, .int .u8 0, .int .u8 0, .int .u8 0, .int .u8 0, .int .u8 0, .int .u8 0, .int .u8 0, .int .u8 0, .int .u8 0, .string { data := #[] }, .slice .none 0 0, .slice .none 0 0, .slice .none 0 0, .slice .none 0 0] 28)).setRow w5.heap.size (lkC r1.h r1.nm (.slice x0 y0 z0) (.slice x1 y1 z1) (.slice x2 y2 z2) (.slice x3 y3 z3))).heap[w5.heap.size]? = some (.cells (lkC r1.h r1.nm (.slice x0 y0 z0) (.slice x1 y1 z1) (.slice x2 y2 z2) (.slice x3 y3 z3)) 28 (0, 0)) := setRow_heap _ _ _ _ _ _ (heap_new w5 _)
        go_upto_region 25 with (refine wpList_store_row rfl 28 _ _ rfl w5.heap.size (lkC r1.h r1.nm (.slice x0 y0 z0) (.slice x1 y1 z1) (.slice x2 y2 z2) (.slice x3 y3 z3)) rfl rfl 28 _ (heap_new w5 _) (infoLk hph) (by rw [lkC_size hph]; rfl) lkC_one ?_)
        clear J3 hlo hb5 hk5 hRow
        generalize ((w5.alloc (Obj.cells #[.int .u8 0, .int .u8 0, .int .u8 0, .int .u8 0, .int .u8 0, .int .u8 0, .int .u8 0, .int .u8 0, .int .u8 0, .int .u8 0, .int .u8 0, .int .u8 0, .int .u8 0, .int .u8 0, .int .u8 0, .int .u8 0, .int .u8 0, .int .u8 0, .int .u8 0, .int .u8 0, .int .u8 0, .int .u8 0, .int .u8 0, .int .u8 0, .int .u8 0, .int .u8 0, .int .u8 0, .int .u8 0, .int .u8 0, .int .u8 0, .int .u8 0, .int .u8 0, .string { data := #[] }, .slice .none 0 0, .slice .none 0 0, .slice .none 0 0, .slice .none 0 0] 28)).setRow w5.heap.size (lkC r1.h r1.nm (.slice x0 y0 z0) (.slice x1 y1 z1) (.slice x2 y2 z2) (.slice x3 y3 z3))) = w6 at *
        generalize w5.heap.size = G at *
        have HE : Hid (q = (r1, ky, 0, er)) := HQ5.out
        have hRow := X5
        have hZer := D5.out.2.1
        go_wp2_with (first | (refine wpList_store_row rfl 28 _ _ rfl (H + 1) (lkC r1.h r1.nm (.slice x0 y0 z0) (.slice x1 y1 z1) (.slice x2 y2 z2) (.slice x3 y3 z3)) rfl rfl 28 _ hZer (infoLk hph) (by rw [lkC_size hph, lkC_size (by simp)]) lkC_one ?_) | (refine wpList_load_row rfl 28 _ rfl G rfl 28 (lkC r1.h r1.nm (.slice x0 y0 z0) (.slice x1 y1 z1) (.slice x2 y2 z2) (.slice x3 y3 z3)) (0, 0) _ hRow Tryd.underlying28 rfl (infoLk hph) ?_))
        exact bodyPost_ret (results_c3 Tryd.results11 _ _ (H + 1) 28 _ (0, 0) _ rfl (setRow_heap w6 (H + 1) _ _ _ _ hZer) rfl Tryd.underlying28 (infoLk hph)) rfl (pe_of (p' := r1) HE.out (D5.out.store _))
      · have HE : Hid (q = (p, ⟨#[]⟩, 0, od)) := by have h9 := HQ4.out; rw [if_pos hod] at h9; exact h9
        clear HQ4
        have hRow := J3.out.2.1
        have hZer := J3.out.2.2.1
        go_wp2_with (first | (refine wpList_store_row rfl 28 _ _ rfl (H + 1) (lkC p.h p.nm (.slice ta p.ts.length tc) (.slice pa p.ps.length pc) (.slice oa p.rs.length oc) (.slice ma p.mo.length mc)) rfl rfl 28 _ hZer (infoLk hp) (by rw [lkC_size hp, lkC_size (by simp)]) lkC_one ?_) | (refine wpList_load_row rfl 28 _ rfl H rfl 28 (lkC p.h p.nm (.slice ta p.ts.length tc) (.slice pa p.ps.length pc) (.slice oa p.rs.length oc) (.slice ma p.mo.length mc)) (0, 0) _ hRow Tryd.underlying28 rfl (infoLk hp) ?_))
        exact bodyPost_ret (results_c3 Tryd.results11 _ _ (H + 1) 28 _ (0, 0) _ rfl (setRow_heap w4 (H + 1) _ _ _ _ hZer) rfl Tryd.underlying28 (infoLk hp)) rfl (pe_of (p' := p) HE.out (J3.out.store _))
    | true =>
      have HST : Hid (∀ w, Calls Tryd.prog 10 #[.string va, .string { data := #[117, 114, 110, 58, 98, 116, 105, 104, 58] }] w fun e w' => e = .returned (.bool (Lib.hasPrefix va.data.toList [117, 114, 110, 58, 98, 116, 105, 104, 58])) ∧ w' = w) := fun w => rstarts va { data := #[117, 114, 110, 58, 98, 116, 105, 104, 58] } w
      go_wp2_with fail
      refine (HST.out w3).mono ?_
      rintro e w4 ⟨rfl, rfl⟩
      clear HST
      cases hpf : Lib.hasPrefix va.data.toList [117, 114, 110, 58, 98, 116, 105, 104, 58] with
      | true =>
        have HE : Hid (q = (p, ⟨#[]⟩, 0, 224)) := by have h9 := HQ3.out; unfold pt3 at h9; rw [if_neg (fun h => by rw [hx] at h; cases h.2), if_pos hx, if_pos hpf] at h9; exact h9
        clear HQ3
        have hRow := J2.out.2.1
        have hZer := J2.out.2.2.1
        go_wp2_with (first | (refine wpList_store_row rfl 28 _ _ rfl (H + 1) (lkC p.h p.nm (.slice ta p.ts.length tc) (.slice pa p.ps.length pc) (.slice oa p.rs.length oc) (.slice ma p.mo.length mc)) rfl rfl 28 _ hZer (infoLk hp) (by rw [lkC_size hp, lkC_size (by simp)]) lkC_one ?_) | (refine wpList_load_row rfl 28 _ rfl H rfl 28 (lkC p.h p.nm (.slice ta p.ts.length tc) (.slice pa p.ps.length pc) (.slice oa p.rs.length oc) (.slice ma p.mo.length mc)) (0, 0) _ hRow Tryd.underlying28 rfl (infoLk hp) ?_))
        exact bodyPost_ret (results_c3 Tryd.results11 _ _ (H + 1) 28 _ (0, 0) _ rfl (setRow_heap w4 (H + 1) _ _ _ _ hZer) rfl Tryd.underlying28 (infoLk hp)) rfl (pe_of (p' := p) HE.out (J2.out.store _))
      | false =>
        have HE : Hid (q = (p, ⟨#[]⟩, 0, 225)) := by have h9 := HQ3.out; unfold pt3 at h9; rw [if_neg (fun h => by rw [hx] at h; cases h.2), if_pos hx, if_neg (by rw [hpf]; decide), if_pos (by omega)] at h9; exact h9
        clear HQ3
        have hRow := J2.out.2.1
        have hZer := J2.out.2.2.1
        go_wp2_with (first | (refine wpList_store_row rfl 28 _ _ rfl (H + 1) (lkC p.h p.nm (.slice ta p.ts.length tc) (.slice pa p.ps.length pc) (.slice oa p.rs.length oc) (.slice ma p.mo.length mc)) rfl rfl 28 _ hZer (infoLk hp) (by rw [lkC_size hp, lkC_size (by simp)]) lkC_one ?_) | (refine wpList_load_row rfl 28 _ rfl H rfl 28 (lkC p.h p.nm (.slice ta p.ts.length tc) (.slice pa p.ps.length pc) (.slice oa p.rs.length oc) (.slice ma p.mo.length mc)) (0, 0) _ hRow Tryd.underlying28 rfl (infoLk hp) ?_))
        exact bodyPost_ret (results_c3 Tryd.results11 _ _ (H + 1) 28 _ (0, 0) _ rfl (setRow_heap w4 (H + 1) _ _ _ _ hZer) rfl Tryd.underlying28 (infoLk hp)) rfl (pe_of (p' := p) HE.out (J2.out.store _))
end Go.Proofs.YtmfbhihjiebagaaDoor
