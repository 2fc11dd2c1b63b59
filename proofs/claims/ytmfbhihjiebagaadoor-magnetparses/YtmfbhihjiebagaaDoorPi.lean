import Derived.Test.YtmfbhihjiebagaaDoorPh
import Derived.Deep.RegionHeld3
namespace Go.Proofs.YtmfbhihjiebagaaDoor
open Go.Shelf Go.RowKit Go.Deep
theorem jn_len (p : Ps) (key value : ByteArray) : (jn p key value).1.ts.length ≤ p.ts.length + 1 ∧ (jn p key value).1.ps.length ≤ p.ps.length + 1 ∧ (jn p key value).1.mo.length ≤ p.mo.length + 1 := by
  unfold jn jnV
  repeat' split
  all_goals simp
theorem ptR_len (p : Ps) (i : Nat) (ahead s : ByteArray) (hp : p.h.length = 32) : (ptR p i ahead s).1.ts.length ≤ p.ts.length + 1 ∧ (ptR p i ahead s).1.ps.length ≤ p.ps.length + 1 ∧ (ptR p i ahead s).1.mo.length ≤ p.mo.length + 1 ∧ (ptR p i ahead s).1.h.length = 32 := by
  unfold ptR pt3
  repeat' split
  all_goals first | exact ⟨Nat.le_succ _, Nat.le_succ _, Nat.le_succ _, hp⟩ | exact ⟨Nat.le_succ _, Nat.le_succ _, Nat.le_succ _, fsH_len _⟩ | exact ⟨(jn_len p _ _).1, (jn_len p _ _).2.1, (jn_len p _ _).2.2, by rw [jn_h]; exact hp⟩
theorem pt3_at (p : Ps) (i : Nat) (ahead key value : ByteArray) : (pt3 p i ahead key value).2.2.1 = 0 := by
  unfold pt3
  repeat' split
  all_goals rfl
theorem ptR_at (p : Ps) (i : Nat) (ahead s : ByteArray) (hs : s.size ≤ 4096) : 0 ≤ (ptR p i ahead s).2.2.1 ∧ (ptR p i ahead s).2.2.1 ≤ 8194 := by
  have e8 := Lib.size_eq s
  have g1 := Lib.indexByte_ge s.data.toList 61
  have g2 : (Lib.indexByte s.data.toList 61).toNat ≤ 4096 := by
    by_cases h : Lib.indexByte s.data.toList 61 < 1
    · omega
    · have h9 := (Lib.indexByte_some (l := s.data.toList) (c := 61) (o := (Lib.indexByte s.data.toList 61).toNat) (by omega)).1
      have := (List.getElem?_eq_some_iff.1 h9).1
      omega
  unfold ptR
  split
  · exact ⟨by show (0 : Int) ≤ 0; omega, by show (0 : Int) ≤ 8194; omega⟩
  split
  · rename_i h
    have h9 := (uneL_len (s.data.toList.take (Lib.indexByte s.data.toList 61).toNat)).2
    rw [List.length_take] at h9
    exact ⟨h, by show (uneL _).2 ≤ _; omega⟩
  split
  · rename_i h
    have h9 := (uneL_len (s.data.toList.drop ((Lib.indexByte s.data.toList 61).toNat + 1))).2
    rw [List.length_drop] at h9
    constructor
    · show (0 : Int) ≤ (((Lib.indexByte s.data.toList 61).toNat + 1 : Nat) : Int) + (uneL _).2; omega
    · show (((Lib.indexByte s.data.toList 61).toNat + 1 : Nat) : Int) + (uneL _).2 ≤ _; omega
  · rw [pt3_at]; omega
def zP : Ps := ⟨List.replicate 32 0, ⟨#[]⟩, [], [], [], []⟩
/-- the parts of a link, one after another -/
def prG (s : ByteArray) : Nat → Ps → Nat → ByteArray → Nat → Nat → Ps × Int × Int
  | 0, p, _, _, _, _ => (p, 0, 0)
  | f + 1, p, n, ah, fr, i =>
    if s.size < i then (p, 0, 0)
    else if i < s.size ∧ s.data.toList.getD i 0 ≠ 38 then prG s f p n ah fr (i + 1)
    else if (ptR p n ah (s.extract fr i)).2.2.2 ≠ 0 then (zP, (fr : Int) + (ptR p n ah (s.extract fr i)).2.2.1, (ptR p n ah (s.extract fr i)).2.2.2)
    else prG s f (ptR p n ah (s.extract fr i)).1 (n + 1) (ptR p n ah (s.extract fr i)).2.1 (i + 1) (i + 1)
/-- what the reference reads out of a link's text -/
def prR (s : ByteArray) : Ps × Int × Int :=
  if 4096 < s.size then (zP, 0, 221)
  else if Lib.hasPrefix s.data.toList [109, 97, 103, 110, 101, 116, 58, 63] = false then (zP, 0, 220)
  else prG s (s.size + 2) zP 0 ⟨#[]⟩ 8 8
def RP (B : Nat) (w : World) (q : Ps × Int × Int) (e : Ending) (w' : World) : Prop := ∃ t2 p2 o2 m2, e = .returned (.tuple #[.agg (lkC q.1.h q.1.nm t2 p2 o2 m2), .int .i64 q.2.1, .int .i64 q.2.2]) ∧ LO B w' q.1 t2 p2 o2 m2 ∧ Below B w w'
theorem rp_of {B : Nat} {w w' : World} {q : Ps × Int × Int} {p' : Ps} {pl er : Int} {t2 p2 o2 m2 : Value} {H : Nat} (hH : B = H) (hq : q = (p', pl, er)) (h : LO H w' p' t2 p2 o2 m2 ∧ Below H w w') : RP B w q (.returned (.tuple #[.agg (lkC p'.h p'.nm t2 p2 o2 m2), .int .i64 pl, .int .i64 er])) w' := by
  subst hH; subst hq; exact ⟨t2, p2, o2, m2, rfl, h.1, h.2⟩
theorem rp_zero {B : Nat} {w w' : World} {q : Ps × Int × Int} {pl er : Int} {H : Nat} (hH : B = H) (hq : q = (zP, pl, er)) (h : Below H w w') : RP B w q (.returned (.tuple #[.agg (lkC (List.replicate 32 (0 : UInt8)) ⟨#[]⟩ (.slice none 0 0) (.slice none 0 0) (.slice none 0 0) (.slice none 0 0)), .int .i64 pl, .int .i64 er])) w' := rp_of hH hq ⟨LO.nil _ _ _, h⟩
theorem results_c2 {fn : Func} {p q r : Tmp} {ty : TypeId} (h : fn.results = #[.cell p ty, .tmp q, .tmp r]) (tmps : Array Value) (w : World) (g : Nat) (t : TypeId) (cs : Array Value) (fr : Nat × Nat) (d : TypeDesc)
    (hp : tmps.getD p undef = .pointer (some ⟨g, 0, none⟩)) (hg : w.heap[g]? = some (.cells cs t fr)) (hd : d.isRow = true) (hu : Tryd.prog.underlying ty = some d) (hi : (Tryd.prog.info? ty).map (·.size) = some cs.size) :
    (results fn tmps).run Tryd.prog w = .ok (.tuple #[.agg cs, tmps.getD q undef, tmps.getD r undef]) w := by
  have hp' : tmps[p]?.getD undef = .pointer (some ⟨g, 0, none⟩) := by simpa using hp
  have hc : w.rangeAt g 0 cs.toList := fun j v hj => by
    rw [Nat.zero_add]
    simp only [World.cell?, hg]
    rw [Array.getElem?_toList] at hj
    rw [hj]; rfl
  have h9 := run_loadVar_mid (P := Tryd.prog) w g 0 ty cs.toList d hc hu hd (by simpa using hi)
  simp [results, h, hp', asAddr, h9]
/-- the block of the answer, the link so far -/
def PI (H : Nat) (w wr : World) (p : Ps) (t2 p2 o2 m2 : Value) : Prop := Below H w wr ∧ LB wr H (List.replicate 32 (0 : UInt8)) ⟨#[]⟩ (.slice none 0 0) (.slice none 0 0) (.slice none 0 0) (.slice none 0 0) ∧ LB wr (H + 1) p.h p.nm t2 p2 o2 m2 ∧ LO H wr p t2 p2 o2 m2 ∧ NoB H t2 p2 o2 m2 ∧ NoB (H + 1) t2 p2 o2 m2
/-- the same with the next link in a block of its own -/
def PN (H da : Nat) (w wr : World) (p r : Ps) (t2 p2 o2 m2 t3 p3 o3 m3 : Value) : Prop := Below H w wr ∧ LB wr H (List.replicate 32 (0 : UInt8)) ⟨#[]⟩ (.slice none 0 0) (.slice none 0 0) (.slice none 0 0) (.slice none 0 0) ∧ LB wr (H + 1) p.h p.nm t2 p2 o2 m2 ∧ LB wr da r.h r.nm t3 p3 o3 m3 ∧ LO H wr r t3 p3 o3 m3 ∧ NoB H t3 p3 o3 m3 ∧ NoB (H + 1) t3 p3 o3 m3
theorem pn_of {H da : Nat} {w u : World} {p r : Ps} {t2 p2 o2 m2 t3 p3 o3 m3 : Value} (hb : Below H w u) (h1 : LB u H (List.replicate 32 (0 : UInt8)) ⟨#[]⟩ (.slice none 0 0) (.slice none 0 0) (.slice none 0 0) (.slice none 0 0)) (h2 : LB u (H + 1) p.h p.nm t2 p2 o2 m2) (h3 : LB u da (List.replicate 32 (0 : UInt8)) ⟨#[]⟩ (.slice none 0 0) (.slice none 0 0) (.slice none 0 0) (.slice none 0 0)) (h4 : LO H u r t3 p3 o3 m3) (h5 : NoB H t3 p3 o3 m3) (h6 : NoB (H + 1) t3 p3 o3 m3) (h7 : NoB da t3 p3 o3 m3) (h8 : H + 1 < da) : PN H da w (u.setRow da (lkC r.h r.nm t3 p3 o3 m3)) p r t2 p2 o2 m2 t3 p3 o3 m3 :=
  ⟨below_setRow hb (by omega) _, h1.keep (setRow_other _ _ _ _ (by omega)), h2.keep (setRow_other _ _ _ _ (by omega)), setRow_heap u da _ _ _ _ h3, h4.keep fun _ hn => setRow_other _ _ _ _ (fun e => hn (e ▸ h7)), h5, h6⟩
theorem PN.step {H da : Nat} {w wr : World} {p r : Ps} {t2 p2 o2 m2 t3 p3 o3 m3 : Value} (h : PN H da w wr p r t2 p2 o2 m2 t3 p3 o3 m3) : PI H w (wr.setRow (H + 1) (lkC r.h r.nm t3 p3 o3 m3)) r t3 p3 o3 m3 := by
  obtain ⟨h1, h2, h3, h4, h5, h6, h7⟩ := h
  exact ⟨below_setRow h1 (by omega) _, h2.keep (setRow_other _ _ _ _ (by omega)), setRow_heap wr (H + 1) _ _ _ _ h3, h5.keep fun _ hn => setRow_other _ _ _ _ (fun e => hn (e ▸ h7)), h6, h7⟩
theorem PI.fin {H : Nat} {w wr : World} {p : Ps} {t2 p2 o2 m2 : Value} (h : PI H w wr p t2 p2 o2 m2) (cs : Array Value) : LO H (wr.setRow H cs) p t2 p2 o2 m2 ∧ Below H w (wr.setRow H cs) :=
  ⟨h.2.2.2.1.keep fun _ hn => setRow_other _ _ _ _ (fun e => hn (e ▸ h.2.2.2.2.1)), below_setRow h.1 (Nat.le_refl _) _⟩
theorem LB.rangeAll {w : World} {b : Nat} {l : List UInt8} {nm : ByteArray} {tr pe on mo : Value} (h0 : LB w b l nm tr pe on mo) : w.rangeAt b 0 (Lib.byteCells l ++ [.string nm, tr, pe, on, mo]) := fun j v hj => by
  have h : w.heap[b]? = some (.cells (lkC l nm tr pe on mo) 28 (0, 0)) := h0
  rw [Nat.zero_add]
  simp only [World.cell?, h]
  unfold lkC
  simp only [List.getElem?_toArray]
  rw [hj]; rfl
set_option maxHeartbeats 4000000 in
set_option maxRecDepth 100000 in
theorem rParse (s : ByteArray) (w : World) :
    Calls Tryd.prog 5 #[.string s] w fun e w' => RP w.heap.size w (prR s) e w' := by
  have B0 : Hid (Below w.heap.size w (w.alloc (Obj.cells #[.int .u8 0, .int .u8 0, .int .u8 0, .int .u8 0, .int .u8 0, .int .u8 0, .int .u8 0, .int .u8 0, .int .u8 0, .int .u8 0, .int .u8 0, .int .u8 0, .int .u8 0, .int .u8 0, .int .u8 0, .int .u8 0, .int .u8 0, .int .u8 0, .int .u8 0, .int .u8 0, .int .u8 0, .int .u8 0, .int .u8 0, .int .u8 0, .int .u8 0, .int .u8 0, .int .u8 0, .int .u8 0, .int .u8 0, .int .u8 0, .int .u8 0, .int .u8 0, .string { data := #[] }, .slice .none 0 0, .slice .none 0 0, .slice .none 0 0, .slice .none 0 0] 28))) := (Below.refl _ _).alloc (Nat.le_refl _) _
  have Z0 : Hid (LB (w.alloc (Obj.cells #[.int .u8 0, .int .u8 0, .int .u8 0, .int .u8 0, .int .u8 0, .int .u8 0, .int .u8 0, .int .u8 0, .int .u8 0, .int .u8 0, .int .u8 0, .int .u8 0, .int .u8 0, .int .u8 0, .int .u8 0, .int .u8 0, .int .u8 0, .int .u8 0, .int .u8 0, .int .u8 0, .int .u8 0, .int .u8 0, .int .u8 0, .int .u8 0, .int .u8 0, .int .u8 0, .int .u8 0, .int .u8 0, .int .u8 0, .int .u8 0, .int .u8 0, .int .u8 0, .string { data := #[] }, .slice .none 0 0, .slice .none 0 0, .slice .none 0 0, .slice .none 0 0] 28)) w.heap.size (List.replicate 32 (0 : UInt8)) ⟨#[]⟩ (.slice none 0 0) (.slice none 0 0) (.slice none 0 0) (.slice none 0 0)) := heap_new _ _
  have S0 : Hid ((w.alloc (Obj.cells #[.int .u8 0, .int .u8 0, .int .u8 0, .int .u8 0, .int .u8 0, .int .u8 0, .int .u8 0, .int .u8 0, .int .u8 0, .int .u8 0, .int .u8 0, .int .u8 0, .int .u8 0, .int .u8 0, .int .u8 0, .int .u8 0, .int .u8 0, .int .u8 0, .int .u8 0, .int .u8 0, .int .u8 0, .int .u8 0, .int .u8 0, .int .u8 0, .int .u8 0, .int .u8 0, .int .u8 0, .int .u8 0, .int .u8 0, .int .u8 0, .int .u8 0, .int .u8 0, .string { data := #[] }, .slice .none 0 0, .slice .none 0 0, .slice .none 0 0, .slice .none 0 0] 28)).heap.size = w.heap.size + 1) := (by simp : (w.alloc (Obj.cells #[.int .u8 0, .int .u8 0, .int .u8 0, .int .u8 0, .int .u8 0, .int .u8 0, .int .u8 0, .int .u8 0, .int .u8 0, .int .u8 0, .int .u8 0, .int .u8 0, .int .u8 0, .int .u8 0, .int .u8 0, .int .u8 0, .int .u8 0, .int .u8 0, .int .u8 0, .int .u8 0, .int .u8 0, .int .u8 0, .int .u8 0, .int .u8 0, .int .u8 0, .int .u8 0, .int .u8 0, .int .u8 0, .int .u8 0, .int .u8 0, .int .u8 0, .int .u8 0, .string { data := #[] }, .slice .none 0 0, .slice .none 0 0, .slice .none 0 0, .slice .none 0 0] 28)).heap.size = w.heap.size + 1)
  have HST : Hid (∀ w, Calls Tryd.prog 10 #[.string s, .string { data := #[109, 97, 103, 110, 101, 116, 58, 63] }] w fun e w' => e = .returned (.bool (Lib.hasPrefix s.data.toList [109, 97, 103, 110, 101, 116, 58, 63])) ∧ w' = w) := fun w => rstarts s { data := #[109, 97, 103, 110, 101, 116, 58, 63] } w
  have HQ : Hid (prR s = if 4096 < s.size then (zP, 0, 221) else if Lib.hasPrefix s.data.toList [109, 97, 103, 110, 101, 116, 58, 63] = false then (zP, 0, 220) else prG s (s.size + 2) zP 0 ⟨#[]⟩ 8 8) := rfl
  have HPL : Hid (Lib.hasPrefix s.data.toList [109, 97, 103, 110, 101, 116, 58, 63] = true → 8 ≤ s.size) := fun h => by
    have h9 := Lib.hasPrefix_of_take s.data.toList [109, 97, 103, 110, 101, 116, 58, 63]
    rw [h] at h9
    rw [Lib.size_eq]
    simp at h9
    exact h9.1
  generalize prR s = q at *
  go_enter Tryd.func5, Tryd.ntmps5
  go_upto_region 1 with fail
  generalize w.alloc (Obj.cells #[.int .u8 0, .int .u8 0, .int .u8 0, .int .u8 0, .int .u8 0, .int .u8 0, .int .u8 0, .int .u8 0, .int .u8 0, .int .u8 0, .int .u8 0, .int .u8 0, .int .u8 0, .int .u8 0, .int .u8 0, .int .u8 0, .int .u8 0, .int .u8 0, .int .u8 0, .int .u8 0, .int .u8 0, .int .u8 0, .int .u8 0, .int .u8 0, .int .u8 0, .int .u8 0, .int .u8 0, .int .u8 0, .int .u8 0, .int .u8 0, .int .u8 0, .int .u8 0, .string { data := #[] }, .slice .none 0 0, .slice .none 0 0, .slice .none 0 0, .slice .none 0 0] 28) = w0 at *
  generalize hvb : w.heap.size = H at *
  have HS : Hid (w.heap.size = H) := hvb
  clear hvb
  by_cases hs : 4096 < s.size
  · have hs' : (s.size : Int) > 4096 := by omega
    have HE : Hid (q = (zP, 0, 221)) := by have h9 := HQ.out; rw [if_pos hs] at h9; exact h9
    have hZer := Z0.out
    go_wp2_with (refine wpList_store_row rfl 28 _ _ rfl H (lkC (List.replicate 32 (0 : UInt8)) ⟨#[]⟩ (.slice none 0 0) (.slice none 0 0) (.slice none 0 0) (.slice none 0 0)) rfl rfl 28 _ hZer (infoLk (by simp)) rfl lkC_one ?_)
    exact bodyPost_ret (results_c2 Tryd.results5 _ _ H 28 _ (0, 0) _ rfl (setRow_heap w0 H _ _ _ _ hZer) rfl Tryd.underlying28 (infoLk (by simp))) rfl (rp_zero HS.out HE.out (below_setRow B0.out (Nat.le_refl _) _))
  have hs' : ¬ (s.size : Int) > 4096 := by omega
  go_wp2_with fail
  refine (HST.out w0).mono ?_
  rintro e w1 ⟨rfl, rfl⟩
  clear HST
  cases hpf : Lib.hasPrefix s.data.toList [109, 97, 103, 110, 101, 116, 58, 63] with
  | false =>
    have HE : Hid (q = (zP, 0, 220)) := by have h9 := HQ.out; rw [if_neg hs, if_pos hpf] at h9; exact h9
    have hZer := Z0.out
    go_wp2_with (refine wpList_store_row rfl 28 _ _ rfl H (lkC (List.replicate 32 (0 : UInt8)) ⟨#[]⟩ (.slice none 0 0) (.slice none 0 0) (.slice none 0 0) (.slice none 0 0)) rfl rfl 28 _ hZer (infoLk (by simp)) rfl lkC_one ?_)
    exact bodyPost_ret (results_c2 Tryd.results5 _ _ H 28 _ (0, 0) _ rfl (setRow_heap w1 H _ _ _ _ hZer) rfl Tryd.underlying28 (infoLk (by simp))) rfl (rp_zero HS.out HE.out (below_setRow B0.out (Nat.le_refl _) _))
  | true =>
    have HQ1 : Hid (q = prG s (s.size + 2) zP 0 ⟨#[]⟩ 8 8) := by have h9 := HQ.out; rw [if_neg hs, if_neg (by rw [hpf]; decide)] at h9; exact h9
    have hs8 : 8 ≤ s.size := HPL.out hpf
    have P0 : Hid (PI H w (w1.alloc (Obj.cells #[.int .u8 0, .int .u8 0, .int .u8 0, .int .u8 0, .int .u8 0, .int .u8 0, .int .u8 0, .int .u8 0, .int .u8 0, .int .u8 0, .int .u8 0, .int .u8 0, .int .u8 0, .int .u8 0, .int .u8 0, .int .u8 0, .int .u8 0, .int .u8 0, .int .u8 0, .int .u8 0, .int .u8 0, .int .u8 0, .int .u8 0, .int .u8 0, .int .u8 0, .int .u8 0, .int .u8 0, .int .u8 0, .int .u8 0, .int .u8 0, .int .u8 0, .int .u8 0, .string { data := #[] }, .slice .none 0 0, .slice .none 0 0, .slice .none 0 0, .slice .none 0 0] 28)) zP (.slice none 0 0) (.slice none 0 0) (.slice none 0 0) (.slice none 0 0)) := by
      have h9 := heap_new w1 (Obj.cells #[.int .u8 0, .int .u8 0, .int .u8 0, .int .u8 0, .int .u8 0, .int .u8 0, .int .u8 0, .int .u8 0, .int .u8 0, .int .u8 0, .int .u8 0, .int .u8 0, .int .u8 0, .int .u8 0, .int .u8 0, .int .u8 0, .int .u8 0, .int .u8 0, .int .u8 0, .int .u8 0, .int .u8 0, .int .u8 0, .int .u8 0, .int .u8 0, .int .u8 0, .int .u8 0, .int .u8 0, .int .u8 0, .int .u8 0, .int .u8 0, .int .u8 0, .int .u8 0, .string { data := #[] }, .slice .none 0 0, .slice .none 0 0, .slice .none 0 0, .slice .none 0 0] 28)
      rw [S0.out] at h9
      exact (⟨B0.out.alloc (by have := S0.out; omega) _, Z0.out.keep (Below.heap_alloc _ _ _ Z0.out.lt), h9, LO.nil _ _ _, by simp [NoB, Value.ownBlock], by simp [NoB, Value.ownBlock]⟩ : PI H w (w1.alloc (Obj.cells #[.int .u8 0, .int .u8 0, .int .u8 0, .int .u8 0, .int .u8 0, .int .u8 0, .int .u8 0, .int .u8 0, .int .u8 0, .int .u8 0, .int .u8 0, .int .u8 0, .int .u8 0, .int .u8 0, .int .u8 0, .int .u8 0, .int .u8 0, .int .u8 0, .int .u8 0, .int .u8 0, .int .u8 0, .int .u8 0, .int .u8 0, .int .u8 0, .int .u8 0, .int .u8 0, .int .u8 0, .int .u8 0, .int .u8 0, .int .u8 0, .int .u8 0, .int .u8 0, .string { data := #[] }, .slice .none 0 0, .slice .none 0 0, .slice .none 0 0, .slice .none 0 0] 28)) zP (.slice none 0 0) (.slice none 0 0) (.slice none 0 0) (.slice none 0 0))
    clear HQ HPL hpf
    have S1 : w1.heap.size = H + 1 := S0.out
    go_upto_region 9 with fail
    try rw [S1]
    clear B0 Z0 S0 S1
    generalize w1.alloc (Obj.cells #[.int .u8 0, .int .u8 0, .int .u8 0, .int .u8 0, .int .u8 0, .int .u8 0, .int .u8 0, .int .u8 0, .int .u8 0, .int .u8 0, .int .u8 0, .int .u8 0, .int .u8 0, .int .u8 0, .int .u8 0, .int .u8 0, .int .u8 0, .int .u8 0, .int .u8 0, .int .u8 0, .int .u8 0, .int .u8 0, .int .u8 0, .int .u8 0, .int .u8 0, .int .u8 0, .int .u8 0, .int .u8 0, .int .u8 0, .int .u8 0, .int .u8 0, .int .u8 0, .string { data := #[] }, .slice .none 0 0, .slice .none 0 0, .slice .none 0 0, .slice .none 0 0] 28) = w2 at *
    go_wp2_with fail
    go_loopw [7, 8, 9, 10] (fun ta tn tf ti wr => ∃ (i fr n : Nat) (ah : ByteArray), i ≤ s.size + 1 ∧ fr ≤ i ∧ n ≤ fr ∧ ta = .string ah ∧ tn = .int .i64 n ∧ tf = .int .i64 fr ∧ ti = .int .i64 i ∧ Hid (∃ p t2 p2 o2 m2 f, PI H w wr p t2 p2 o2 m2 ∧ p.h.length = 32 ∧ (p.ts.length ≤ n ∧ p.ps.length ≤ n ∧ p.mo.length ≤ n) ∧ s.size + 1 - i < f ∧ q = prG s f p n ah fr i)) (fun _ _ _ ti _ => s.size + 1 - (intOf ti).toNat)
    case atStart => exact ⟨8, 8, 0, ⟨#[]⟩, by omega, by omega, by omega, rfl, rfl, rfl, rfl, (⟨zP, _, _, _, _, s.size + 2, P0.out, by simp [zP], ⟨Nat.zero_le _, Nat.zero_le _, Nat.zero_le _⟩, by omega, HQ1.out⟩ : ∃ p t2 p2 o2 m2 f, PI H w w2 p t2 p2 o2 m2 ∧ p.h.length = 32 ∧ (p.ts.length ≤ 0 ∧ p.ps.length ≤ 0 ∧ p.mo.length ≤ 0) ∧ s.size + 1 - 8 < f ∧ q = prG s f p 0 ⟨#[]⟩ 8 8)⟩
    case round =>
      clear P0 HQ1
      obtain ⟨i, fr, n, ah, hi, hfr, hnf, rfl, rfl, rfl, rfl, hh⟩ := hrel
      obtain ⟨p, t2, p2, o2, m2, f, hPI, hp, hln, hf, hq⟩ := hh.out
      clear hh
      obtain ⟨ta, tc, rfl⟩ := ownForm hPI.2.2.2.1.o1
      obtain ⟨pa, pc, rfl⟩ := ownForm hPI.2.2.2.1.o2
      obtain ⟨oa, oc, rfl⟩ := ownForm hPI.2.2.2.1.o3
      obtain ⟨ma, mc, rfl⟩ := ownForm hPI.2.2.2.1.o4
      have HPI : Hid (PI H w wr p (.slice ta p.ts.length tc) (.slice pa p.ps.length pc) (.slice oa p.rs.length oc) (.slice ma p.mo.length mc)) := hPI
      obtain ⟨g, rfl⟩ : ∃ g, f = g + 1 := ⟨f - 1, by omega⟩
      have HF : Hid (s.size + 1 - i < g + 1 ∧ q = prG s (g + 1) p n ah fr i) := ⟨hf, hq⟩
      have HLN : Hid (p.ts.length ≤ n ∧ p.ps.length ≤ n ∧ p.mo.length ≤ n) := hln
      clear hPI hf hq hln
      by_cases hend : s.size < i
      · have hle : ¬ (i : Int) ≤ (s.size : Int) := by omega
        have HE : Hid (q = (p, 0, 0)) := by have h9 := HF.out.2; rw [prG, if_pos hend] at h9; exact h9
        have hRow := HPI.out.2.2.1
        have hZer := HPI.out.2.1
        go_wp2_with (first | (refine wpList_store_row rfl 28 _ _ rfl H (lkC p.h p.nm (.slice ta p.ts.length tc) (.slice pa p.ps.length pc) (.slice oa p.rs.length oc) (.slice ma p.mo.length mc)) rfl rfl 28 _ hZer (infoLk hp) (by rw [lkC_size hp, lkC_size (by simp)]) lkC_one ?_) | (refine wpList_load_row rfl 28 _ rfl (H + 1) rfl 28 (lkC p.h p.nm (.slice ta p.ts.length tc) (.slice pa p.ps.length pc) (.slice oa p.rs.length oc) (.slice ma p.mo.length mc)) (0, 0) _ hRow Tryd.underlying28 rfl (infoLk hp) ?_))
        exact bodyPost_ret (results_c2 Tryd.results5 _ _ H 28 _ (0, 0) _ rfl (setRow_heap wr H _ _ _ _ hZer) rfl Tryd.underlying28 (infoLk hp)) rfl (rp_of (p' := p) HS.out HE.out (HPI.out.fin _))
      have hle : (i : Int) ≤ (s.size : Int) := by omega
      have HQ2 : Hid (q = if i < s.size ∧ s.data.toList.getD i 0 ≠ 38 then prG s g p n ah fr (i + 1) else if (ptR p n ah (s.extract fr i)).2.2.2 ≠ 0 then (zP, (fr : Int) + (ptR p n ah (s.extract fr i)).2.2.1, (ptR p n ah (s.extract fr i)).2.2.2) else prG s g (ptR p n ah (s.extract fr i)).1 (n + 1) (ptR p n ah (s.extract fr i)).2.1 (i + 1) (i + 1)) := by have h9 := HF.out.2; rw [prG, if_neg hend] at h9; exact h9
      have HG : Hid (s.size + 1 - i < g + 1) := HF.out.1
      clear HF
      by_cases hlt : i < s.size
      · have hlt' : (i : Int) < (s.size : Int) := by omega
        have hx0 := index_s s i hlt i rfl
        have hgd : s.data.toList.getD i 0 = s[i] := bgetD s i hlt
        by_cases h38 : s[i] = 38
        · have h38' : (s[i].toNat : Int) = 38 := by rw [h38]; rfl
          have HNC : ¬ (i < s.size ∧ s.data.toList.getD i 0 ≠ 38) := fun h => h.2 (hgd.trans h38)
          have HQ3 : Hid (q = if (ptR p n ah (s.extract fr i)).2.2.2 ≠ 0 then (zP, (fr : Int) + (ptR p n ah (s.extract fr i)).2.2.1, (ptR p n ah (s.extract fr i)).2.2.2) else prG s g (ptR p n ah (s.extract fr i)).1 (n + 1) (ptR p n ah (s.extract fr i)).2.1 (i + 1) (i + 1)) := by have h9 := HQ2.out; rw [if_neg HNC] at h9; exact h9
          clear HQ2
          have hes : (s.extract fr i).size ≤ 4096 := by simp; omega
          have hsl : ∀ w : World, (Instr.slice 9 (.string s) (some (.int .i64 (fr : Int))) (some (.int .i64 (i : Int))) none).run Tryd.prog w = .ok (.string (s.extract fr i)) w := fun w => by
            have hh := Lib.size_eq s
            simp [go_sem, Tryd.underlying9]; rw [if_pos (by omega), if_pos (by omega)]
          have HCALL : Hid (∀ (K : Nat → Prop) x, LO H x p (.slice ta p.ts.length tc) (.slice pa p.ps.length pc) (.slice oa p.rs.length oc) (.slice ma p.mo.length mc) → H ≤ x.heap.size → (∀ g, K g → g < x.heap.size ∧ NoB g (.slice ta p.ts.length tc) (.slice pa p.ps.length pc) (.slice oa p.rs.length oc) (.slice ma p.mo.length mc)) → Calls Tryd.prog 11 #[.agg (lkC p.h p.nm (.slice ta p.ts.length tc) (.slice pa p.ps.length pc) (.slice oa p.rs.length oc) (.slice ma p.mo.length mc)), .int .i64 (n : Int), .string ah, .string (s.extract fr i)] x fun e w' => PE K H x (ptR p n ah (s.extract fr i)) e w') := fun K x h1 h2 h3 => rpart K H p _ _ _ _ n ah (s.extract fr i) x hp h1 h2 hes (by omega) ⟨by have := HLN.out.1; omega, by have := HLN.out.2.1; omega, by have := HLN.out.2.2; omega⟩ h3
          have HLR : Hid ((ptR p n ah (s.extract fr i)).1.ts.length ≤ n + 1 ∧ (ptR p n ah (s.extract fr i)).1.ps.length ≤ n + 1 ∧ (ptR p n ah (s.extract fr i)).1.mo.length ≤ n + 1) := by have h9 := ptR_len p n ah (s.extract fr i) hp; have h8 := HLN.out; exact ⟨by omega, by omega, by omega⟩
          have hr1 := (ptR_len p n ah (s.extract fr i) hp).2.2.2
          have hat := ptR_at p n ah (s.extract fr i) hes
          clear hes HLN
          generalize ptR p n ah (s.extract fr i) = r at *
          obtain ⟨r1, k2, pl, er⟩ := r
          obtain ⟨hat1, hat2⟩ := hat
          have hat1' : 0 ≤ pl := hat1
          have hat2' : pl ≤ 8194 := hat2
          clear hat1 hat2
          have hr2 : r1.h.length = 32 := hr1
          clear hr1
          go_upto_region 14 with fail
          refine wp_region_held_drew (S := fun x => x.rangeAt (H + 1) 0 (Lib.byteCells p.h ++ [.string p.nm, (.slice ta p.ts.length tc), (.slice pa p.ps.length pc), (.slice oa p.rs.length oc), (.slice ma p.mo.length mc)])) (by kernel_rfl) ((LB.keep (w' := wr.drew) HPI.out.2.2.1 rfl).rangeAll) (fun hHeld => ?_)
          refine wpAnyH_take (i := 0) (v := .agg (lkC p.h p.nm (.slice ta p.ts.length tc) (.slice pa p.ps.length pc) (.slice oa p.rs.length oc) (.slice ma p.mo.length mc))) rfl (by kernel_rfl) (by kernel_rfl) (by kernel_rfl) (fun _ _ _ h => h) (yieldsIf_load_mid (by rfl) 28 (.tmp 6) rfl (H + 1) 0 rfl (Lib.byteCells p.h ++ [.string p.nm, (.slice ta p.ts.length tc), (.slice pa p.ps.length pc), (.slice oa p.rs.length oc), (.slice ma p.mo.length mc)]) _ (fun w hw => hw) Tryd.underlying28 rfl (infoLk hp)) hHeld ?_
          simp only [Act.put, List.getElem_toArray, List.getElem_cons_zero, List.setIfInBounds_toArray, List.set_cons_zero, List.set_cons_succ]
          refine wpAnyH_take (i := 1) (v := .int .i64 (n : Int)) rfl (by kernel_rfl) (by kernel_rfl) (by kernel_rfl) (fun _ _ _ h => h) (Or.inl ⟨by rfl, fun w hw => by go_simp⟩) hHeld ?_
          simp only [Act.put, List.getElem_toArray, List.getElem_cons_zero, List.getElem_cons_succ, List.setIfInBounds_toArray, List.set_cons_zero, List.set_cons_succ]
          refine wpAnyH_take (i := 2) (v := .string ah) rfl (by kernel_rfl) (by kernel_rfl) (by kernel_rfl) (fun _ _ _ h => h) (Or.inl ⟨by rfl, fun w hw => by go_simp⟩) hHeld ?_
          simp only [Act.put, List.getElem_toArray, List.getElem_cons_zero, List.getElem_cons_succ, List.setIfInBounds_toArray, List.set_cons_zero, List.set_cons_succ]
          refine wpAnyH_take (i := 3) (v := .string s) rfl (by kernel_rfl) (by kernel_rfl) (by kernel_rfl) (fun _ _ _ h => h) (Or.inl ⟨by rfl, fun w hw => by go_simp⟩) hHeld ?_
          simp only [Act.put, List.getElem_toArray, List.getElem_cons_zero, List.getElem_cons_succ, List.setIfInBounds_toArray, List.set_cons_zero, List.set_cons_succ]
          refine wpAnyH_take (i := 4) (v := .int .i64 (fr : Int)) rfl (by kernel_rfl) (by kernel_rfl) (by kernel_rfl) (fun _ _ _ h => h) (Or.inl ⟨by rfl, fun w hw => by go_simp⟩) hHeld ?_
          simp only [Act.put, List.getElem_toArray, List.getElem_cons_zero, List.getElem_cons_succ, List.setIfInBounds_toArray, List.set_cons_zero, List.set_cons_succ]
          refine wpAnyH_take (i := 5) (v := .int .i64 (i : Int)) rfl (by kernel_rfl) (by kernel_rfl) (by kernel_rfl) (fun _ _ _ h => h) (Or.inl ⟨by rfl, fun w hw => by go_simp⟩) hHeld ?_
          simp only [Act.put, List.getElem_toArray, List.getElem_cons_zero, List.getElem_cons_succ, List.setIfInBounds_toArray, List.set_cons_zero, List.set_cons_succ]
          refine wpAnyH_take (i := 6) (v := .string (s.extract fr i)) rfl (by kernel_rfl) (by kernel_rfl) (by kernel_rfl) (fun _ _ _ h => h) (Or.inl ⟨by rfl, fun w hw => by go_simp⟩) hHeld ?_
          simp only [Act.put, List.getElem_toArray, List.getElem_cons_zero, List.getElem_cons_succ, List.setIfInBounds_toArray, List.set_cons_zero, List.set_cons_succ]
          refine wpAnyH_ready (rs := [7, 13]) (by kernel_rfl) (by simp) ?_
          refine AllReadyH.cons (o := _) rfl (fun K hK => ?_) (AllReadyH.cons (o := _) rfl (fun K hK => ?_) AllReadyH.nil)
          · go_simp
            refine (HCALL.out (fun g => g = H ∨ g = H + 1) wr.drew (HPI.out.2.2.2.1.below (belowDrew1 wr)) (by have := HPI.out.2.1.lt; show H ≤ wr.heap.size; omega) (fun g hg => hg.elim (fun e => by subst e; exact ⟨HPI.out.2.1.lt, HPI.out.2.2.2.2.1⟩) (fun e => by subst e; exact ⟨HPI.out.2.2.1.lt, HPI.out.2.2.2.2.2⟩))).mono ?_
            rintro e u ⟨t3, p3, o3, m3, rfl, hlo, hb, hk⟩
            obtain ⟨x0, z0, rfl⟩ := ownForm hlo.o1
            obtain ⟨x1, z1, rfl⟩ := ownForm hlo.o2
            obtain ⟨x2, z2, rfl⟩ := ownForm hlo.o3
            obtain ⟨x3, z3, rfl⟩ := ownForm hlo.o4
            have hS : u.rangeAt (H + 1) 0 (Lib.byteCells p.h ++ [.string p.nm, (.slice ta p.ts.length tc), (.slice pa p.ps.length pc), (.slice oa p.rs.length oc), (.slice ma p.mo.length mc)]) := (LB.keep (w := wr) HPI.out.2.2.1 (hk (H + 1) (.inr rfl)).1).rangeAll
            have HU : Hid (Below H w u ∧ LB u H (List.replicate 32 (0 : UInt8)) ⟨#[]⟩ (.slice none 0 0) (.slice none 0 0) (.slice none 0 0) (.slice none 0 0) ∧ LB u (H + 1) p.h p.nm (.slice ta p.ts.length tc) (.slice pa p.ps.length pc) (.slice oa p.rs.length oc) (.slice ma p.mo.length mc) ∧ LO H u r1 (.slice x0 r1.ts.length z0) (.slice x1 r1.ps.length z1) (.slice x2 r1.rs.length z2) (.slice x3 r1.mo.length z3) ∧ NoB H (.slice x0 r1.ts.length z0) (.slice x1 r1.ps.length z1) (.slice x2 r1.rs.length z2) (.slice x3 r1.mo.length z3) ∧ NoB (H + 1) (.slice x0 r1.ts.length z0) (.slice x1 r1.ps.length z1) (.slice x2 r1.rs.length z2) (.slice x3 r1.mo.length z3)) := ⟨HPI.out.1.trans (((belowDrew1 wr).mono (by have := HPI.out.2.1.lt; omega)).trans hb), LB.keep (w := wr) HPI.out.2.1 (hk H (.inl rfl)).1, LB.keep (w := wr) HPI.out.2.2.1 (hk (H + 1) (.inr rfl)).1, hlo, (hk H (.inl rfl)).2, (hk (H + 1) (.inr rfl)).2⟩
            clear hlo hb hk HCALL
            go_wp2_with fail
            refine hK.out _ _ hS (fun hHeld => ?_)
            clear hK K hS
            refine wpAnyH_take (i := 8) (v := .tuple #[.agg (lkC r1.h r1.nm (.slice x0 r1.ts.length z0) (.slice x1 r1.ps.length z1) (.slice x2 r1.rs.length z2) (.slice x3 r1.mo.length z3)), .string k2, .int .i64 pl, .int .i64 er]) rfl (by kernel_rfl) (by kernel_rfl) (by kernel_rfl) (fun _ _ _ h => h) (Or.inl ⟨by rfl, fun w hw => by go_simp⟩) hHeld ?_
            simp only [Act.put, List.getElem_toArray, List.getElem_cons_zero, List.getElem_cons_succ, List.setIfInBounds_toArray, List.set_cons_zero, List.set_cons_succ]
            refine wpAnyH_take (i := 9) (v := .agg (lkC r1.h r1.nm (.slice x0 r1.ts.length z0) (.slice x1 r1.ps.length z1) (.slice x2 r1.rs.length z2) (.slice x3 r1.mo.length z3))) rfl (by kernel_rfl) (by kernel_rfl) (by kernel_rfl) (fun _ _ _ h => h) (Or.inl ⟨by rfl, fun w hw => by go_simp⟩) hHeld ?_
            simp only [Act.put, List.getElem_toArray, List.getElem_cons_zero, List.getElem_cons_succ, List.setIfInBounds_toArray, List.set_cons_zero, List.set_cons_succ]
            refine wpAnyH_take (i := 10) (v := .string k2) rfl (by kernel_rfl) (by kernel_rfl) (by kernel_rfl) (fun _ _ _ h => h) (Or.inl ⟨by rfl, fun w hw => by go_simp⟩) hHeld ?_
            simp only [Act.put, List.getElem_toArray, List.getElem_cons_zero, List.getElem_cons_succ, List.setIfInBounds_toArray, List.set_cons_zero, List.set_cons_succ]
            refine wpAnyH_take (i := 11) (v := .int .i64 pl) rfl (by kernel_rfl) (by kernel_rfl) (by kernel_rfl) (fun _ _ _ h => h) (Or.inl ⟨by rfl, fun w hw => by go_simp⟩) hHeld ?_
            simp only [Act.put, List.getElem_toArray, List.getElem_cons_zero, List.getElem_cons_succ, List.setIfInBounds_toArray, List.set_cons_zero, List.set_cons_succ]
            refine wpAnyH_take (i := 12) (v := .int .i64 er) rfl (by kernel_rfl) (by kernel_rfl) (by kernel_rfl) (fun _ _ _ h => h) (Or.inl ⟨by rfl, fun w hw => by go_simp⟩) hHeld ?_
            simp only [Act.put, List.getElem_toArray, List.getElem_cons_zero, List.getElem_cons_succ, List.setIfInBounds_toArray, List.set_cons_zero, List.set_cons_succ]
            refine wpAnyH_ready (rs := [13]) (by kernel_rfl) (by simp) ?_
            refine AllReadyH.cons (o := _) rfl (fun K hK => ?_) AllReadyH.nil
            go_simp
            have U1 : Hid (Below H w (u.alloc (Obj.cells #[.int .u8 0, .int .u8 0, .int .u8 0, .int .u8 0, .int .u8 0, .int .u8 0, .int .u8 0, .int .u8 0, .int .u8 0, .int .u8 0, .int .u8 0, .int .u8 0, .int .u8 0, .int .u8 0, .int .u8 0, .int .u8 0, .int .u8 0, .int .u8 0, .int .u8 0, .int .u8 0, .int .u8 0, .int .u8 0, .int .u8 0, .int .u8 0, .int .u8 0, .int .u8 0, .int .u8 0, .int .u8 0, .int .u8 0, .int .u8 0, .int .u8 0, .int .u8 0, .string { data := #[] }, .slice .none 0 0, .slice .none 0 0, .slice .none 0 0, .slice .none 0 0] 28)) ∧ LB (u.alloc (Obj.cells #[.int .u8 0, .int .u8 0, .int .u8 0, .int .u8 0, .int .u8 0, .int .u8 0, .int .u8 0, .int .u8 0, .int .u8 0, .int .u8 0, .int .u8 0, .int .u8 0, .int .u8 0, .int .u8 0, .int .u8 0, .int .u8 0, .int .u8 0, .int .u8 0, .int .u8 0, .int .u8 0, .int .u8 0, .int .u8 0, .int .u8 0, .int .u8 0, .int .u8 0, .int .u8 0, .int .u8 0, .int .u8 0, .int .u8 0, .int .u8 0, .int .u8 0, .int .u8 0, .string { data := #[] }, .slice .none 0 0, .slice .none 0 0, .slice .none 0 0, .slice .none 0 0] 28)) H (List.replicate 32 (0 : UInt8)) ⟨#[]⟩ (.slice none 0 0) (.slice none 0 0) (.slice none 0 0) (.slice none 0 0) ∧ LB (u.alloc (Obj.cells #[.int .u8 0, .int .u8 0, .int .u8 0, .int .u8 0, .int .u8 0, .int .u8 0, .int .u8 0, .int .u8 0, .int .u8 0, .int .u8 0, .int .u8 0, .int .u8 0, .int .u8 0, .int .u8 0, .int .u8 0, .int .u8 0, .int .u8 0, .int .u8 0, .int .u8 0, .int .u8 0, .int .u8 0, .int .u8 0, .int .u8 0, .int .u8 0, .int .u8 0, .int .u8 0, .int .u8 0, .int .u8 0, .int .u8 0, .int .u8 0, .int .u8 0, .int .u8 0, .string { data := #[] }, .slice .none 0 0, .slice .none 0 0, .slice .none 0 0, .slice .none 0 0] 28)) (H + 1) p.h p.nm (.slice ta p.ts.length tc) (.slice pa p.ps.length pc) (.slice oa p.rs.length oc) (.slice ma p.mo.length mc) ∧ LB (u.alloc (Obj.cells #[.int .u8 0, .int .u8 0, .int .u8 0, .int .u8 0, .int .u8 0, .int .u8 0, .int .u8 0, .int .u8 0, .int .u8 0, .int .u8 0, .int .u8 0, .int .u8 0, .int .u8 0, .int .u8 0, .int .u8 0, .int .u8 0, .int .u8 0, .int .u8 0, .int .u8 0, .int .u8 0, .int .u8 0, .int .u8 0, .int .u8 0, .int .u8 0, .int .u8 0, .int .u8 0, .int .u8 0, .int .u8 0, .int .u8 0, .int .u8 0, .int .u8 0, .int .u8 0, .string { data := #[] }, .slice .none 0 0, .slice .none 0 0, .slice .none 0 0, .slice .none 0 0] 28)) u.heap.size (List.replicate 32 (0 : UInt8)) ⟨#[]⟩ (.slice none 0 0) (.slice none 0 0) (.slice none 0 0) (.slice none 0 0) ∧ LO H (u.alloc (Obj.cells #[.int .u8 0, .int .u8 0, .int .u8 0, .int .u8 0, .int .u8 0, .int .u8 0, .int .u8 0, .int .u8 0, .int .u8 0, .int .u8 0, .int .u8 0, .int .u8 0, .int .u8 0, .int .u8 0, .int .u8 0, .int .u8 0, .int .u8 0, .int .u8 0, .int .u8 0, .int .u8 0, .int .u8 0, .int .u8 0, .int .u8 0, .int .u8 0, .int .u8 0, .int .u8 0, .int .u8 0, .int .u8 0, .int .u8 0, .int .u8 0, .int .u8 0, .int .u8 0, .string { data := #[] }, .slice .none 0 0, .slice .none 0 0, .slice .none 0 0, .slice .none 0 0] 28)) r1 (.slice x0 r1.ts.length z0) (.slice x1 r1.ps.length z1) (.slice x2 r1.rs.length z2) (.slice x3 r1.mo.length z3) ∧ NoB H (.slice x0 r1.ts.length z0) (.slice x1 r1.ps.length z1) (.slice x2 r1.rs.length z2) (.slice x3 r1.mo.length z3) ∧ NoB (H + 1) (.slice x0 r1.ts.length z0) (.slice x1 r1.ps.length z1) (.slice x2 r1.rs.length z2) (.slice x3 r1.mo.length z3) ∧ NoB u.heap.size (.slice x0 r1.ts.length z0) (.slice x1 r1.ps.length z1) (.slice x2 r1.rs.length z2) (.slice x3 r1.mo.length z3) ∧ H + 1 < u.heap.size) := by
              obtain ⟨k1, k2, k3, k4, k5, k6⟩ := HU.out
              exact (⟨k1.alloc (by have := k2.lt; omega) _, k2.keep (Below.heap_alloc _ _ _ k2.lt), k3.keep (Below.heap_alloc _ _ _ k3.lt), heap_new _ _, k4.below ((Below.refl _ _).alloc (Nat.le_refl _) _), k5, k6, k4.nob (Nat.le_refl _), k3.lt⟩ : (Below H w (u.alloc (Obj.cells #[.int .u8 0, .int .u8 0, .int .u8 0, .int .u8 0, .int .u8 0, .int .u8 0, .int .u8 0, .int .u8 0, .int .u8 0, .int .u8 0, .int .u8 0, .int .u8 0, .int .u8 0, .int .u8 0, .int .u8 0, .int .u8 0, .int .u8 0, .int .u8 0, .int .u8 0, .int .u8 0, .int .u8 0, .int .u8 0, .int .u8 0, .int .u8 0, .int .u8 0, .int .u8 0, .int .u8 0, .int .u8 0, .int .u8 0, .int .u8 0, .int .u8 0, .int .u8 0, .string { data := #[] }, .slice .none 0 0, .slice .none 0 0, .slice .none 0 0, .slice .none 0 0] 28)) ∧ LB (u.alloc (Obj.cells #[.int .u8 0, .int .u8 0, .int .u8 0, .int .u8 0, .int .u8 0, .int .u8 0, .int .u8 0, .int .u8 0, .int .u8 0, .int .u8 0, .int .u8 0, .int .u8 0, .int .u8 0, .int .u8 0, .int .u8 0, .int .u8 0, .int .u8 0, .int .u8 0, .int .u8 0, .int .u8 0, .int .u8 0, .int .u8 0, .int .u8 0, .int .u8 0, .int .u8 0, .int .u8 0, .int .u8 0, .int .u8 0, .int .u8 0, .int .u8 0, .int .u8 0, .int .u8 0, .string { data := #[] }, .slice .none 0 0, .slice .none 0 0, .slice .none 0 0, .slice .none 0 0] 28)) H (List.replicate 32 (0 : UInt8)) ⟨#[]⟩ (.slice none 0 0) (.slice none 0 0) (.slice none 0 0) (.slice none 0 0) ∧ LB (u.alloc (Obj.cells #[.int .u8 0, .int .u8 0, .int .u8 0, .int .u8 0, .int .u8 0, .int .u8 0, .int .u8 0, .int .u8 0, .int .u8 0, .int .u8 0, .int .u8 0, .int .u8 0, .int .u8 0, .int .u8 0, .int .u8 0, .int .u8 0, .int .u8 0, .int .u8 0, .int .u8 0, .int .u8 0, .int .u8 0, .int .u8 0, .int .u8 0, .int .u8 0, .int .u8 0, .int .u8 0, .int .u8 0, .int .u8 0, .int .u8 0, .int .u8 0, .int .u8 0, .int .u8 0, .string { data := #[] }, .slice .none 0 0, .slice .none 0 0, .slice .none 0 0, .slice .none 0 0] 28)) (H + 1) p.h p.nm (.slice ta p.ts.length tc) (.slice pa p.ps.length pc) (.slice oa p.rs.length oc) (.slice ma p.mo.length mc) ∧ LB (u.alloc (Obj.cells #[.int .u8 0, .int .u8 0, .int .u8 0, .int .u8 0, .int .u8 0, .int .u8 0, .int .u8 0, .int .u8 0, .int .u8 0, .int .u8 0, .int .u8 0, .int .u8 0, .int .u8 0, .int .u8 0, .int .u8 0, .int .u8 0, .int .u8 0, .int .u8 0, .int .u8 0, .int .u8 0, .int .u8 0, .int .u8 0, .int .u8 0, .int .u8 0, .int .u8 0, .int .u8 0, .int .u8 0, .int .u8 0, .int .u8 0, .int .u8 0, .int .u8 0, .int .u8 0, .string { data := #[] }, .slice .none 0 0, .slice .none 0 0, .slice .none 0 0, .slice .none 0 0] 28)) u.heap.size (List.replicate 32 (0 : UInt8)) ⟨#[]⟩ (.slice none 0 0) (.slice none 0 0) (.slice none 0 0) (.slice none 0 0) ∧ LO H (u.alloc (Obj.cells #[.int .u8 0, .int .u8 0, .int .u8 0, .int .u8 0, .int .u8 0, .int .u8 0, .int .u8 0, .int .u8 0, .int .u8 0, .int .u8 0, .int .u8 0, .int .u8 0, .int .u8 0, .int .u8 0, .int .u8 0, .int .u8 0, .int .u8 0, .int .u8 0, .int .u8 0, .int .u8 0, .int .u8 0, .int .u8 0, .int .u8 0, .int .u8 0, .int .u8 0, .int .u8 0, .int .u8 0, .int .u8 0, .int .u8 0, .int .u8 0, .int .u8 0, .int .u8 0, .string { data := #[] }, .slice .none 0 0, .slice .none 0 0, .slice .none 0 0, .slice .none 0 0] 28)) r1 (.slice x0 r1.ts.length z0) (.slice x1 r1.ps.length z1) (.slice x2 r1.rs.length z2) (.slice x3 r1.mo.length z3) ∧ NoB H (.slice x0 r1.ts.length z0) (.slice x1 r1.ps.length z1) (.slice x2 r1.rs.length z2) (.slice x3 r1.mo.length z3) ∧ NoB (H + 1) (.slice x0 r1.ts.length z0) (.slice x1 r1.ps.length z1) (.slice x2 r1.rs.length z2) (.slice x3 r1.mo.length z3) ∧ NoB u.heap.size (.slice x0 r1.ts.length z0) (.slice x1 r1.ps.length z1) (.slice x2 r1.rs.length z2) (.slice x3 r1.mo.length z3) ∧ H + 1 < u.heap.size))
            have hS : (u.alloc (Obj.cells #[.int .u8 0, .int .u8 0, .int .u8 0, .int .u8 0, .int .u8 0, .int .u8 0, .int .u8 0, .int .u8 0, .int .u8 0, .int .u8 0, .int .u8 0, .int .u8 0, .int .u8 0, .int .u8 0, .int .u8 0, .int .u8 0, .int .u8 0, .int .u8 0, .int .u8 0, .int .u8 0, .int .u8 0, .int .u8 0, .int .u8 0, .int .u8 0, .int .u8 0, .int .u8 0, .int .u8 0, .int .u8 0, .int .u8 0, .int .u8 0, .int .u8 0, .int .u8 0, .string { data := #[] }, .slice .none 0 0, .slice .none 0 0, .slice .none 0 0, .slice .none 0 0] 28)).rangeAt (H + 1) 0 (Lib.byteCells p.h ++ [.string p.nm, (.slice ta p.ts.length tc), (.slice pa p.ps.length pc), (.slice oa p.rs.length oc), (.slice ma p.mo.length mc)]) := U1.out.2.2.1.rangeAll
            refine hK.out _ _ hS (fun hHeld => ?_)
            clear hK K hS HU
            generalize u.alloc (Obj.cells #[.int .u8 0, .int .u8 0, .int .u8 0, .int .u8 0, .int .u8 0, .int .u8 0, .int .u8 0, .int .u8 0, .int .u8 0, .int .u8 0, .int .u8 0, .int .u8 0, .int .u8 0, .int .u8 0, .int .u8 0, .int .u8 0, .int .u8 0, .int .u8 0, .int .u8 0, .int .u8 0, .int .u8 0, .int .u8 0, .int .u8 0, .int .u8 0, .int .u8 0, .int .u8 0, .int .u8 0, .int .u8 0, .int .u8 0, .int .u8 0, .int .u8 0, .int .u8 0, .string { data := #[] }, .slice .none 0 0, .slice .none 0 0, .slice .none 0 0, .slice .none 0 0] 28) = wa at *
            generalize u.heap.size = da at *
            have HPN : Hid (PN H da w (wa.setRow da (lkC r1.h r1.nm (.slice x0 r1.ts.length z0) (.slice x1 r1.ps.length z1) (.slice x2 r1.rs.length z2) (.slice x3 r1.mo.length z3))) p r1 (.slice ta p.ts.length tc) (.slice pa p.ps.length pc) (.slice oa p.rs.length oc) (.slice ma p.mo.length mc) (.slice x0 r1.ts.length z0) (.slice x1 r1.ps.length z1) (.slice x2 r1.rs.length z2) (.slice x3 r1.mo.length z3)) := pn_of U1.out.1 U1.out.2.1 U1.out.2.2.1 U1.out.2.2.2.1 U1.out.2.2.2.2.1 U1.out.2.2.2.2.2.1 U1.out.2.2.2.2.2.2.1 U1.out.2.2.2.2.2.2.2.1 U1.out.2.2.2.2.2.2.2.2
            have AD : LB wa da (List.replicate 32 (0 : UInt8)) ⟨#[]⟩ (.slice none 0 0) (.slice none 0 0) (.slice none 0 0) (.slice none 0 0) := U1.out.2.2.2.1
            have hS : (wa.setRow da (lkC r1.h r1.nm (.slice x0 r1.ts.length z0) (.slice x1 r1.ps.length z1) (.slice x2 r1.rs.length z2) (.slice x3 r1.mo.length z3))).rangeAt (H + 1) 0 (Lib.byteCells p.h ++ [.string p.nm, (.slice ta p.ts.length tc), (.slice pa p.ps.length pc), (.slice oa p.rs.length oc), (.slice ma p.mo.length mc)]) := HPN.out.2.2.1.rangeAll
            refine wpAnyH_ready (rs := [14]) (by kernel_rfl) (by simp) ?_
            refine AllReadyH.cons (o := _) rfl (fun K hK => ?_) AllReadyH.nil
            rw [if_pos (by rfl)]
            refine wp_store_row 28 _ _ rfl da (lkC r1.h r1.nm (.slice x0 r1.ts.length z0) (.slice x1 r1.ps.length z1) (.slice x2 r1.rs.length z2) (.slice x3 r1.mo.length z3)) rfl rfl 28 _ AD (infoLk hr2) (by rw [lkC_size hr2, lkC_size (by simp)]) lkC_one ?_
            simp only [Act.put, List.getElem_toArray, List.getElem_cons_zero, List.getElem_cons_succ]
            refine hK.out _ _ hS (fun hHeld => ?_)
            clear hK K hS AD U1
            refine wpAnyH_take (i := 15) (v := .string k2) rfl (by kernel_rfl) (by kernel_rfl) (by kernel_rfl) (fun _ _ _ h => h) (Or.inl ⟨by rfl, fun w hw => by go_simp⟩) hHeld ?_
            simp only [Act.put, List.getElem_toArray, List.getElem_cons_zero, List.getElem_cons_succ, List.setIfInBounds_toArray, List.set_cons_zero, List.set_cons_succ]
            refine wpAnyH_take (i := 16) (v := .int .i64 pl) rfl (by kernel_rfl) (by kernel_rfl) (by kernel_rfl) (fun _ _ _ h => h) (Or.inl ⟨by rfl, fun w hw => by go_simp⟩) hHeld ?_
            simp only [Act.put, List.getElem_toArray, List.getElem_cons_zero, List.getElem_cons_succ, List.setIfInBounds_toArray, List.set_cons_zero, List.set_cons_succ]
            refine wpAnyH_take (i := 17) (v := .int .i64 er) rfl (by kernel_rfl) (by kernel_rfl) (by kernel_rfl) (fun _ _ _ h => h) (Or.inl ⟨by rfl, fun w hw => by go_simp⟩) hHeld ?_
            simp only [Act.put, List.getElem_toArray, List.getElem_cons_zero, List.getElem_cons_succ, List.setIfInBounds_toArray, List.set_cons_zero, List.set_cons_succ]
            refine wpAnyH_done (by kernel_rfl) ?_ _
            clear hHeld
            generalize (wa.setRow da (lkC r1.h r1.nm (.slice x0 r1.ts.length z0) (.slice x1 r1.ps.length z1) (.slice x2 r1.rs.length z2) (.slice x3 r1.mo.length z3))) = w3 at *
            have hZer := HPN.out.2.1
            by_cases her : er = 0
            · have HH : Hid (∃ p t2 p2 o2 m2 f, PI H w (w3.setRow (H + 1) (lkC r1.h r1.nm (.slice x0 r1.ts.length z0) (.slice x1 r1.ps.length z1) (.slice x2 r1.rs.length z2) (.slice x3 r1.mo.length z3))) p t2 p2 o2 m2 ∧ p.h.length = 32 ∧ (p.ts.length ≤ (n + 1) ∧ p.ps.length ≤ (n + 1) ∧ p.mo.length ≤ (n + 1)) ∧ s.size + 1 - (i + 1) < f ∧ q = prG s f p (n + 1) k2 (i + 1) (i + 1)) := by
                have h9 := HQ3.out
                rw [if_neg (fun h => h her)] at h9
                exact (⟨r1, _, _, _, _, g, HPN.out.step, hr2, HLR.out, by have := HG.out; omega, h9⟩ : ∃ p t2 p2 o2 m2 f, PI H w (w3.setRow (H + 1) (lkC r1.h r1.nm (.slice x0 r1.ts.length z0) (.slice x1 r1.ps.length z1) (.slice x2 r1.rs.length z2) (.slice x3 r1.mo.length z3))) p t2 p2 o2 m2 ∧ p.h.length = 32 ∧ (p.ts.length ≤ n + 1 ∧ p.ps.length ≤ n + 1 ∧ p.mo.length ≤ n + 1) ∧ s.size + 1 - (i + 1) < f ∧ q = prG s f p (n + 1) k2 (i + 1) (i + 1))
              have hRow := HPN.out.2.2.2.1
              have hOld := HPN.out.2.2.1
              clear HQ3 HPN HLR HG HPI
              subst her
              go_wp2_with (first | (refine wpList_store_row rfl 28 _ _ rfl (H + 1) (lkC r1.h r1.nm (.slice x0 r1.ts.length z0) (.slice x1 r1.ps.length z1) (.slice x2 r1.rs.length z2) (.slice x3 r1.mo.length z3)) rfl rfl 28 _ hOld (infoLk hr2) (by rw [lkC_size hr2, lkC_size hp]) lkC_one ?_) | (refine wpList_load_row rfl 28 _ rfl da rfl 28 (lkC r1.h r1.nm (.slice x0 r1.ts.length z0) (.slice x1 r1.ps.length z1) (.slice x2 r1.rs.length z2) (.slice x3 r1.mo.length z3)) (0, 0) _ hRow Tryd.underlying28 rfl (infoLk hr2) ?_))
              go_roundw
              case rel => exact ⟨i + 1, i + 1, n + 1, k2, by omega, by omega, by omega, rfl, by go_num, by go_num, by go_num, HH⟩
              case measure => simp [intOf]; omega
            · have HE : Hid (q = (zP, (fr : Int) + pl, er)) := by have h9 := HQ3.out; rw [if_pos her] at h9; exact h9
              have HB3 : Hid (Below H w w3) := HPN.out.1
              clear HQ3 HPN HLR HG HPI
              go_wp2_with (refine wpList_store_row rfl 28 _ _ rfl H (lkC (List.replicate 32 (0 : UInt8)) ⟨#[]⟩ (.slice none 0 0) (.slice none 0 0) (.slice none 0 0) (.slice none 0 0)) rfl rfl 28 _ hZer (infoLk (by simp)) rfl lkC_one ?_)
              exact bodyPost_ret (results_c2 Tryd.results5 _ _ H 28 _ (0, 0) _ rfl (setRow_heap w3 H _ _ _ _ hZer) rfl Tryd.underlying28 (infoLk (by simp))) rfl (rp_zero HS.out HE.out (below_setRow HB3.out (Nat.le_refl _) _))
          · go_simp
            have HZ : Hid (Below H w (wr.alloc (Obj.cells #[.int .u8 0, .int .u8 0, .int .u8 0, .int .u8 0, .int .u8 0, .int .u8 0, .int .u8 0, .int .u8 0, .int .u8 0, .int .u8 0, .int .u8 0, .int .u8 0, .int .u8 0, .int .u8 0, .int .u8 0, .int .u8 0, .int .u8 0, .int .u8 0, .int .u8 0, .int .u8 0, .int .u8 0, .int .u8 0, .int .u8 0, .int .u8 0, .int .u8 0, .int .u8 0, .int .u8 0, .int .u8 0, .int .u8 0, .int .u8 0, .int .u8 0, .int .u8 0, .string { data := #[] }, .slice .none 0 0, .slice .none 0 0, .slice .none 0 0, .slice .none 0 0] 28)).drew ∧ LB (wr.alloc (Obj.cells #[.int .u8 0, .int .u8 0, .int .u8 0, .int .u8 0, .int .u8 0, .int .u8 0, .int .u8 0, .int .u8 0, .int .u8 0, .int .u8 0, .int .u8 0, .int .u8 0, .int .u8 0, .int .u8 0, .int .u8 0, .int .u8 0, .int .u8 0, .int .u8 0, .int .u8 0, .int .u8 0, .int .u8 0, .int .u8 0, .int .u8 0, .int .u8 0, .int .u8 0, .int .u8 0, .int .u8 0, .int .u8 0, .int .u8 0, .int .u8 0, .int .u8 0, .int .u8 0, .string { data := #[] }, .slice .none 0 0, .slice .none 0 0, .slice .none 0 0, .slice .none 0 0] 28)).drew H (List.replicate 32 (0 : UInt8)) ⟨#[]⟩ (.slice none 0 0) (.slice none 0 0) (.slice none 0 0) (.slice none 0 0) ∧ LB (wr.alloc (Obj.cells #[.int .u8 0, .int .u8 0, .int .u8 0, .int .u8 0, .int .u8 0, .int .u8 0, .int .u8 0, .int .u8 0, .int .u8 0, .int .u8 0, .int .u8 0, .int .u8 0, .int .u8 0, .int .u8 0, .int .u8 0, .int .u8 0, .int .u8 0, .int .u8 0, .int .u8 0, .int .u8 0, .int .u8 0, .int .u8 0, .int .u8 0, .int .u8 0, .int .u8 0, .int .u8 0, .int .u8 0, .int .u8 0, .int .u8 0, .int .u8 0, .int .u8 0, .int .u8 0, .string { data := #[] }, .slice .none 0 0, .slice .none 0 0, .slice .none 0 0, .slice .none 0 0] 28)).drew (H + 1) p.h p.nm (.slice ta p.ts.length tc) (.slice pa p.ps.length pc) (.slice oa p.rs.length oc) (.slice ma p.mo.length mc) ∧ LB (wr.alloc (Obj.cells #[.int .u8 0, .int .u8 0, .int .u8 0, .int .u8 0, .int .u8 0, .int .u8 0, .int .u8 0, .int .u8 0, .int .u8 0, .int .u8 0, .int .u8 0, .int .u8 0, .int .u8 0, .int .u8 0, .int .u8 0, .int .u8 0, .int .u8 0, .int .u8 0, .int .u8 0, .int .u8 0, .int .u8 0, .int .u8 0, .int .u8 0, .int .u8 0, .int .u8 0, .int .u8 0, .int .u8 0, .int .u8 0, .int .u8 0, .int .u8 0, .int .u8 0, .int .u8 0, .string { data := #[] }, .slice .none 0 0, .slice .none 0 0, .slice .none 0 0, .slice .none 0 0] 28)).drew wr.heap.size (List.replicate 32 (0 : UInt8)) ⟨#[]⟩ (.slice none 0 0) (.slice none 0 0) (.slice none 0 0) (.slice none 0 0) ∧ LO H (wr.alloc (Obj.cells #[.int .u8 0, .int .u8 0, .int .u8 0, .int .u8 0, .int .u8 0, .int .u8 0, .int .u8 0, .int .u8 0, .int .u8 0, .int .u8 0, .int .u8 0, .int .u8 0, .int .u8 0, .int .u8 0, .int .u8 0, .int .u8 0, .int .u8 0, .int .u8 0, .int .u8 0, .int .u8 0, .int .u8 0, .int .u8 0, .int .u8 0, .int .u8 0, .int .u8 0, .int .u8 0, .int .u8 0, .int .u8 0, .int .u8 0, .int .u8 0, .int .u8 0, .int .u8 0, .string { data := #[] }, .slice .none 0 0, .slice .none 0 0, .slice .none 0 0, .slice .none 0 0] 28)).drew p (.slice ta p.ts.length tc) (.slice pa p.ps.length pc) (.slice oa p.rs.length oc) (.slice ma p.mo.length mc) ∧ NoB H (.slice ta p.ts.length tc) (.slice pa p.ps.length pc) (.slice oa p.rs.length oc) (.slice ma p.mo.length mc) ∧ NoB (H + 1) (.slice ta p.ts.length tc) (.slice pa p.ps.length pc) (.slice oa p.rs.length oc) (.slice ma p.mo.length mc) ∧ NoB wr.heap.size (.slice ta p.ts.length tc) (.slice pa p.ps.length pc) (.slice oa p.rs.length oc) (.slice ma p.mo.length mc) ∧ H + 1 < wr.heap.size) := by
              obtain ⟨k1, k2, k3, k4, k5, k6⟩ := HPI.out
              have kb : Below wr.heap.size wr (wr.alloc (Obj.cells #[.int .u8 0, .int .u8 0, .int .u8 0, .int .u8 0, .int .u8 0, .int .u8 0, .int .u8 0, .int .u8 0, .int .u8 0, .int .u8 0, .int .u8 0, .int .u8 0, .int .u8 0, .int .u8 0, .int .u8 0, .int .u8 0, .int .u8 0, .int .u8 0, .int .u8 0, .int .u8 0, .int .u8 0, .int .u8 0, .int .u8 0, .int .u8 0, .int .u8 0, .int .u8 0, .int .u8 0, .int .u8 0, .int .u8 0, .int .u8 0, .int .u8 0, .int .u8 0, .string { data := #[] }, .slice .none 0 0, .slice .none 0 0, .slice .none 0 0, .slice .none 0 0] 28)).drew := ((Below.refl _ _).alloc (Nat.le_refl _) _).trans ((belowDrew1 _).mono (by simp))
              exact (⟨k1.trans (kb.mono (by have := k2.lt; omega)), k2.keep (kb.block _ k2.lt), k3.keep (kb.block _ k3.lt), heap_new wr _, k4.below kb, k5, k6, k4.nob (Nat.le_refl _), k3.lt⟩ : Below H w (wr.alloc (Obj.cells #[.int .u8 0, .int .u8 0, .int .u8 0, .int .u8 0, .int .u8 0, .int .u8 0, .int .u8 0, .int .u8 0, .int .u8 0, .int .u8 0, .int .u8 0, .int .u8 0, .int .u8 0, .int .u8 0, .int .u8 0, .int .u8 0, .int .u8 0, .int .u8 0, .int .u8 0, .int .u8 0, .int .u8 0, .int .u8 0, .int .u8 0, .int .u8 0, .int .u8 0, .int .u8 0, .int .u8 0, .int .u8 0, .int .u8 0, .int .u8 0, .int .u8 0, .int .u8 0, .string { data := #[] }, .slice .none 0 0, .slice .none 0 0, .slice .none 0 0, .slice .none 0 0] 28)).drew ∧ LB (wr.alloc (Obj.cells #[.int .u8 0, .int .u8 0, .int .u8 0, .int .u8 0, .int .u8 0, .int .u8 0, .int .u8 0, .int .u8 0, .int .u8 0, .int .u8 0, .int .u8 0, .int .u8 0, .int .u8 0, .int .u8 0, .int .u8 0, .int .u8 0, .int .u8 0, .int .u8 0, .int .u8 0, .int .u8 0, .int .u8 0, .int .u8 0, .int .u8 0, .int .u8 0, .int .u8 0, .int .u8 0, .int .u8 0, .int .u8 0, .int .u8 0, .int .u8 0, .int .u8 0, .int .u8 0, .string { data := #[] }, .slice .none 0 0, .slice .none 0 0, .slice .none 0 0, .slice .none 0 0] 28)).drew H (List.replicate 32 (0 : UInt8)) ⟨#[]⟩ (.slice none 0 0) (.slice none 0 0) (.slice none 0 0) (.slice none 0 0) ∧ LB (wr.alloc (Obj.cells #[.int .u8 0, .int .u8 0, .int .u8 0, .int .u8 0, .int .u8 0, .int .u8 0, .int .u8 0, .int .u8 0, .int .u8 0, .int .u8 0, .int .u8 0, .int .u8 0, .int .u8 0, .int .u8 0, .int .u8 0, .int .u8 0, .int .u8 0, .int .u8 0, .int .u8 0, .int .u8 0, .int .u8 0, .int .u8 0, .int .u8 0, .int .u8 0, .int .u8 0, .int .u8 0, .int .u8 0, .int .u8 0, .int .u8 0, .int .u8 0, .int .u8 0, .int .u8 0, .string { data := #[] }, .slice .none 0 0, .slice .none 0 0, .slice .none 0 0, .slice .none 0 0] 28)).drew (H + 1) p.h p.nm (.slice ta p.ts.length tc) (.slice pa p.ps.length pc) (.slice oa p.rs.length oc) (.slice ma p.mo.length mc) ∧ LB (wr.alloc (Obj.cells #[.int .u8 0, .int .u8 0, .int .u8 0, .int .u8 0, .int .u8 0, .int .u8 0, .int .u8 0, .int .u8 0, .int .u8 0, .int .u8 0, .int .u8 0, .int .u8 0, .int .u8 0, .int .u8 0, .int .u8 0, .int .u8 0, .int .u8 0, .int .u8 0, .int .u8 0, .int .u8 0, .int .u8 0, .int .u8 0, .int .u8 0, .int .u8 0, .int .u8 0, .int .u8 0, .int .u8 0, .int .u8 0, .int .u8 0, .int .u8 0, .int .u8 0, .int .u8 0, .string { data := #[] }, .slice .none 0 0, .slice .none 0 0, .slice .none 0 0, .slice .none 0 0] 28)).drew wr.heap.size (List.replicate 32 (0 : UInt8)) ⟨#[]⟩ (.slice none 0 0) (.slice none 0 0) (.slice none 0 0) (.slice none 0 0) ∧ LO H (wr.alloc (Obj.cells #[.int .u8 0, .int .u8 0, .int .u8 0, .int .u8 0, .int .u8 0, .int .u8 0, .int .u8 0, .int .u8 0, .int .u8 0, .int .u8 0, .int .u8 0, .int .u8 0, .int .u8 0, .int .u8 0, .int .u8 0, .int .u8 0, .int .u8 0, .int .u8 0, .int .u8 0, .int .u8 0, .int .u8 0, .int .u8 0, .int .u8 0, .int .u8 0, .int .u8 0, .int .u8 0, .int .u8 0, .int .u8 0, .int .u8 0, .int .u8 0, .int .u8 0, .int .u8 0, .string { data := #[] }, .slice .none 0 0, .slice .none 0 0, .slice .none 0 0, .slice .none 0 0] 28)).drew p (.slice ta p.ts.length tc) (.slice pa p.ps.length pc) (.slice oa p.rs.length oc) (.slice ma p.mo.length mc) ∧ NoB H (.slice ta p.ts.length tc) (.slice pa p.ps.length pc) (.slice oa p.rs.length oc) (.slice ma p.mo.length mc) ∧ NoB (H + 1) (.slice ta p.ts.length tc) (.slice pa p.ps.length pc) (.slice oa p.rs.length oc) (.slice ma p.mo.length mc) ∧ NoB wr.heap.size (.slice ta p.ts.length tc) (.slice pa p.ps.length pc) (.slice oa p.rs.length oc) (.slice ma p.mo.length mc) ∧ H + 1 < wr.heap.size)
            have hS : (wr.alloc (Obj.cells #[.int .u8 0, .int .u8 0, .int .u8 0, .int .u8 0, .int .u8 0, .int .u8 0, .int .u8 0, .int .u8 0, .int .u8 0, .int .u8 0, .int .u8 0, .int .u8 0, .int .u8 0, .int .u8 0, .int .u8 0, .int .u8 0, .int .u8 0, .int .u8 0, .int .u8 0, .int .u8 0, .int .u8 0, .int .u8 0, .int .u8 0, .int .u8 0, .int .u8 0, .int .u8 0, .int .u8 0, .int .u8 0, .int .u8 0, .int .u8 0, .int .u8 0, .int .u8 0, .string { data := #[] }, .slice .none 0 0, .slice .none 0 0, .slice .none 0 0, .slice .none 0 0] 28)).drew.rangeAt (H + 1) 0 (Lib.byteCells p.h ++ [.string p.nm, (.slice ta p.ts.length tc), (.slice pa p.ps.length pc), (.slice oa p.rs.length oc), (.slice ma p.mo.length mc)]) := HZ.out.2.2.1.rangeAll
            refine hK.out _ _ hS (fun hHeld => ?_)
            clear hK K hS HPI
            generalize (wr.alloc (Obj.cells #[.int .u8 0, .int .u8 0, .int .u8 0, .int .u8 0, .int .u8 0, .int .u8 0, .int .u8 0, .int .u8 0, .int .u8 0, .int .u8 0, .int .u8 0, .int .u8 0, .int .u8 0, .int .u8 0, .int .u8 0, .int .u8 0, .int .u8 0, .int .u8 0, .int .u8 0, .int .u8 0, .int .u8 0, .int .u8 0, .int .u8 0, .int .u8 0, .int .u8 0, .int .u8 0, .int .u8 0, .int .u8 0, .int .u8 0, .int .u8 0, .int .u8 0, .int .u8 0, .string { data := #[] }, .slice .none 0 0, .slice .none 0 0, .slice .none 0 0, .slice .none 0 0] 28)).drew = wz at *
            generalize wr.heap.size = da at *
            refine wpAnyH_ready (rs := [7]) (by kernel_rfl) (by simp) ?_
            refine AllReadyH.cons (o := _) rfl (fun K hK => ?_) AllReadyH.nil
            go_simp
            refine (HCALL.out (fun g => g = H ∨ g = H + 1 ∨ g = da) wz HZ.out.2.2.2.2.1 (by have := HZ.out.2.1.lt; omega) (fun g hg => hg.elim (fun e => by subst e; exact ⟨HZ.out.2.1.lt, HZ.out.2.2.2.2.2.1⟩) (fun e => e.elim (fun e => by subst e; exact ⟨HZ.out.2.2.1.lt, HZ.out.2.2.2.2.2.2.1⟩) (fun e => by subst e; exact ⟨HZ.out.2.2.2.1.lt, HZ.out.2.2.2.2.2.2.2.1⟩)))).mono ?_
            rintro e u ⟨t3, p3, o3, m3, rfl, hlo, hb, hk⟩
            obtain ⟨x0, z0, rfl⟩ := ownForm hlo.o1
            obtain ⟨x1, z1, rfl⟩ := ownForm hlo.o2
            obtain ⟨x2, z2, rfl⟩ := ownForm hlo.o3
            obtain ⟨x3, z3, rfl⟩ := ownForm hlo.o4
            have U1 : Hid (Below H w u ∧ LB u H (List.replicate 32 (0 : UInt8)) ⟨#[]⟩ (.slice none 0 0) (.slice none 0 0) (.slice none 0 0) (.slice none 0 0) ∧ LB u (H + 1) p.h p.nm (.slice ta p.ts.length tc) (.slice pa p.ps.length pc) (.slice oa p.rs.length oc) (.slice ma p.mo.length mc) ∧ LB u da (List.replicate 32 (0 : UInt8)) ⟨#[]⟩ (.slice none 0 0) (.slice none 0 0) (.slice none 0 0) (.slice none 0 0) ∧ LO H u r1 (.slice x0 r1.ts.length z0) (.slice x1 r1.ps.length z1) (.slice x2 r1.rs.length z2) (.slice x3 r1.mo.length z3) ∧ NoB H (.slice x0 r1.ts.length z0) (.slice x1 r1.ps.length z1) (.slice x2 r1.rs.length z2) (.slice x3 r1.mo.length z3) ∧ NoB (H + 1) (.slice x0 r1.ts.length z0) (.slice x1 r1.ps.length z1) (.slice x2 r1.rs.length z2) (.slice x3 r1.mo.length z3) ∧ NoB da (.slice x0 r1.ts.length z0) (.slice x1 r1.ps.length z1) (.slice x2 r1.rs.length z2) (.slice x3 r1.mo.length z3) ∧ H + 1 < da) := ⟨HZ.out.1.trans hb, HZ.out.2.1.keep (hk _ (.inl rfl)).1, HZ.out.2.2.1.keep (hk _ (.inr (.inl rfl))).1, HZ.out.2.2.2.1.keep (hk _ (.inr (.inr rfl))).1, hlo, (hk _ (.inl rfl)).2, (hk _ (.inr (.inl rfl))).2, (hk _ (.inr (.inr rfl))).2, HZ.out.2.2.2.2.2.2.2.2⟩
            have hS : u.rangeAt (H + 1) 0 (Lib.byteCells p.h ++ [.string p.nm, (.slice ta p.ts.length tc), (.slice pa p.ps.length pc), (.slice oa p.rs.length oc), (.slice ma p.mo.length mc)]) := U1.out.2.2.1.rangeAll
            clear hlo hb hk HCALL HZ
            go_wp2_with fail
            refine hK.out _ _ hS (fun hHeld => ?_)
            clear hK K hS
            refine wpAnyH_take (i := 8) (v := .tuple #[.agg (lkC r1.h r1.nm (.slice x0 r1.ts.length z0) (.slice x1 r1.ps.length z1) (.slice x2 r1.rs.length z2) (.slice x3 r1.mo.length z3)), .string k2, .int .i64 pl, .int .i64 er]) rfl (by kernel_rfl) (by kernel_rfl) (by kernel_rfl) (fun _ _ _ h => h) (Or.inl ⟨by rfl, fun w hw => by go_simp⟩) hHeld ?_
            simp only [Act.put, List.getElem_toArray, List.getElem_cons_zero, List.getElem_cons_succ, List.setIfInBounds_toArray, List.set_cons_zero, List.set_cons_succ]
            refine wpAnyH_take (i := 9) (v := .agg (lkC r1.h r1.nm (.slice x0 r1.ts.length z0) (.slice x1 r1.ps.length z1) (.slice x2 r1.rs.length z2) (.slice x3 r1.mo.length z3))) rfl (by kernel_rfl) (by kernel_rfl) (by kernel_rfl) (fun _ _ _ h => h) (Or.inl ⟨by rfl, fun w hw => by go_simp⟩) hHeld ?_
            simp only [Act.put, List.getElem_toArray, List.getElem_cons_zero, List.getElem_cons_succ, List.setIfInBounds_toArray, List.set_cons_zero, List.set_cons_succ]
            refine wpAnyH_take (i := 10) (v := .string k2) rfl (by kernel_rfl) (by kernel_rfl) (by kernel_rfl) (fun _ _ _ h => h) (Or.inl ⟨by rfl, fun w hw => by go_simp⟩) hHeld ?_
            simp only [Act.put, List.getElem_toArray, List.getElem_cons_zero, List.getElem_cons_succ, List.setIfInBounds_toArray, List.set_cons_zero, List.set_cons_succ]
            refine wpAnyH_take (i := 11) (v := .int .i64 pl) rfl (by kernel_rfl) (by kernel_rfl) (by kernel_rfl) (fun _ _ _ h => h) (Or.inl ⟨by rfl, fun w hw => by go_simp⟩) hHeld ?_
            simp only [Act.put, List.getElem_toArray, List.getElem_cons_zero, List.getElem_cons_succ, List.setIfInBounds_toArray, List.set_cons_zero, List.set_cons_succ]
            refine wpAnyH_take (i := 12) (v := .int .i64 er) rfl (by kernel_rfl) (by kernel_rfl) (by kernel_rfl) (fun _ _ _ h => h) (Or.inl ⟨by rfl, fun w hw => by go_simp⟩) hHeld ?_
            simp only [Act.put, List.getElem_toArray, List.getElem_cons_zero, List.getElem_cons_succ, List.setIfInBounds_toArray, List.set_cons_zero, List.set_cons_succ]
            have HPN : Hid (PN H da w (u.setRow da (lkC r1.h r1.nm (.slice x0 r1.ts.length z0) (.slice x1 r1.ps.length z1) (.slice x2 r1.rs.length z2) (.slice x3 r1.mo.length z3))) p r1 (.slice ta p.ts.length tc) (.slice pa p.ps.length pc) (.slice oa p.rs.length oc) (.slice ma p.mo.length mc) (.slice x0 r1.ts.length z0) (.slice x1 r1.ps.length z1) (.slice x2 r1.rs.length z2) (.slice x3 r1.mo.length z3)) := pn_of U1.out.1 U1.out.2.1 U1.out.2.2.1 U1.out.2.2.2.1 U1.out.2.2.2.2.1 U1.out.2.2.2.2.2.1 U1.out.2.2.2.2.2.2.1 U1.out.2.2.2.2.2.2.2.1 U1.out.2.2.2.2.2.2.2.2
            have AD : LB u da (List.replicate 32 (0 : UInt8)) ⟨#[]⟩ (.slice none 0 0) (.slice none 0 0) (.slice none 0 0) (.slice none 0 0) := U1.out.2.2.2.1
            have hS : (u.setRow da (lkC r1.h r1.nm (.slice x0 r1.ts.length z0) (.slice x1 r1.ps.length z1) (.slice x2 r1.rs.length z2) (.slice x3 r1.mo.length z3))).rangeAt (H + 1) 0 (Lib.byteCells p.h ++ [.string p.nm, (.slice ta p.ts.length tc), (.slice pa p.ps.length pc), (.slice oa p.rs.length oc), (.slice ma p.mo.length mc)]) := HPN.out.2.2.1.rangeAll
            refine wpAnyH_ready (rs := [14]) (by kernel_rfl) (by simp) ?_
            refine AllReadyH.cons (o := _) rfl (fun K hK => ?_) AllReadyH.nil
            rw [if_pos (by rfl)]
            refine wp_store_row 28 _ _ rfl da (lkC r1.h r1.nm (.slice x0 r1.ts.length z0) (.slice x1 r1.ps.length z1) (.slice x2 r1.rs.length z2) (.slice x3 r1.mo.length z3)) rfl rfl 28 _ AD (infoLk hr2) (by rw [lkC_size hr2, lkC_size (by simp)]) lkC_one ?_
            simp only [Act.put, List.getElem_toArray, List.getElem_cons_zero, List.getElem_cons_succ]
            refine hK.out _ _ hS (fun hHeld => ?_)
            clear hK K hS AD U1
            refine wpAnyH_take (i := 15) (v := .string k2) rfl (by kernel_rfl) (by kernel_rfl) (by kernel_rfl) (fun _ _ _ h => h) (Or.inl ⟨by rfl, fun w hw => by go_simp⟩) hHeld ?_
            simp only [Act.put, List.getElem_toArray, List.getElem_cons_zero, List.getElem_cons_succ, List.setIfInBounds_toArray, List.set_cons_zero, List.set_cons_succ]
            refine wpAnyH_take (i := 16) (v := .int .i64 pl) rfl (by kernel_rfl) (by kernel_rfl) (by kernel_rfl) (fun _ _ _ h => h) (Or.inl ⟨by rfl, fun w hw => by go_simp⟩) hHeld ?_
            simp only [Act.put, List.getElem_toArray, List.getElem_cons_zero, List.getElem_cons_succ, List.setIfInBounds_toArray, List.set_cons_zero, List.set_cons_succ]
            refine wpAnyH_take (i := 17) (v := .int .i64 er) rfl (by kernel_rfl) (by kernel_rfl) (by kernel_rfl) (fun _ _ _ h => h) (Or.inl ⟨by rfl, fun w hw => by go_simp⟩) hHeld ?_
            simp only [Act.put, List.getElem_toArray, List.getElem_cons_zero, List.getElem_cons_succ, List.setIfInBounds_toArray, List.set_cons_zero, List.set_cons_succ]
            refine wpAnyH_done (by kernel_rfl) ?_ _
            clear hHeld
            generalize (u.setRow da (lkC r1.h r1.nm (.slice x0 r1.ts.length z0) (.slice x1 r1.ps.length z1) (.slice x2 r1.rs.length z2) (.slice x3 r1.mo.length z3))) = w3 at *
            have hZer := HPN.out.2.1
            by_cases her : er = 0
            · have HH : Hid (∃ p t2 p2 o2 m2 f, PI H w (w3.setRow (H + 1) (lkC r1.h r1.nm (.slice x0 r1.ts.length z0) (.slice x1 r1.ps.length z1) (.slice x2 r1.rs.length z2) (.slice x3 r1.mo.length z3))) p t2 p2 o2 m2 ∧ p.h.length = 32 ∧ (p.ts.length ≤ (n + 1) ∧ p.ps.length ≤ (n + 1) ∧ p.mo.length ≤ (n + 1)) ∧ s.size + 1 - (i + 1) < f ∧ q = prG s f p (n + 1) k2 (i + 1) (i + 1)) := by
                have h9 := HQ3.out
                rw [if_neg (fun h => h her)] at h9
                exact (⟨r1, _, _, _, _, g, HPN.out.step, hr2, HLR.out, by have := HG.out; omega, h9⟩ : ∃ p t2 p2 o2 m2 f, PI H w (w3.setRow (H + 1) (lkC r1.h r1.nm (.slice x0 r1.ts.length z0) (.slice x1 r1.ps.length z1) (.slice x2 r1.rs.length z2) (.slice x3 r1.mo.length z3))) p t2 p2 o2 m2 ∧ p.h.length = 32 ∧ (p.ts.length ≤ n + 1 ∧ p.ps.length ≤ n + 1 ∧ p.mo.length ≤ n + 1) ∧ s.size + 1 - (i + 1) < f ∧ q = prG s f p (n + 1) k2 (i + 1) (i + 1))
              have hRow := HPN.out.2.2.2.1
              have hOld := HPN.out.2.2.1
              clear HQ3 HPN HLR HG
              subst her
              go_wp2_with (first | (refine wpList_store_row rfl 28 _ _ rfl (H + 1) (lkC r1.h r1.nm (.slice x0 r1.ts.length z0) (.slice x1 r1.ps.length z1) (.slice x2 r1.rs.length z2) (.slice x3 r1.mo.length z3)) rfl rfl 28 _ hOld (infoLk hr2) (by rw [lkC_size hr2, lkC_size hp]) lkC_one ?_) | (refine wpList_load_row rfl 28 _ rfl da rfl 28 (lkC r1.h r1.nm (.slice x0 r1.ts.length z0) (.slice x1 r1.ps.length z1) (.slice x2 r1.rs.length z2) (.slice x3 r1.mo.length z3)) (0, 0) _ hRow Tryd.underlying28 rfl (infoLk hr2) ?_))
              go_roundw
              case rel => exact ⟨i + 1, i + 1, n + 1, k2, by omega, by omega, by omega, rfl, by go_num, by go_num, by go_num, HH⟩
              case measure => simp [intOf]; omega
            · have HE : Hid (q = (zP, (fr : Int) + pl, er)) := by have h9 := HQ3.out; rw [if_pos her] at h9; exact h9
              have HB3 : Hid (Below H w w3) := HPN.out.1
              clear HQ3 HPN HLR HG
              go_wp2_with (refine wpList_store_row rfl 28 _ _ rfl H (lkC (List.replicate 32 (0 : UInt8)) ⟨#[]⟩ (.slice none 0 0) (.slice none 0 0) (.slice none 0 0) (.slice none 0 0)) rfl rfl 28 _ hZer (infoLk (by simp)) rfl lkC_one ?_)
              exact bodyPost_ret (results_c2 Tryd.results5 _ _ H 28 _ (0, 0) _ rfl (setRow_heap w3 H _ _ _ _ hZer) rfl Tryd.underlying28 (infoLk (by simp))) rfl (rp_zero HS.out HE.out (below_setRow HB3.out (Nat.le_refl _) _))
        · have h38' : ¬ (s[i].toNat : Int) = 38 := fun h => h38 (UInt8.toNat_inj.1 (by show s[i].toNat = 38; omega))
          have HH : Hid (∃ p t2 p2 o2 m2 f, PI H w wr p t2 p2 o2 m2 ∧ p.h.length = 32 ∧ (p.ts.length ≤ n ∧ p.ps.length ≤ n ∧ p.mo.length ≤ n) ∧ s.size + 1 - (i + 1) < f ∧ q = prG s f p n ah fr (i + 1)) := by
            have h9 := HQ2.out
            rw [if_pos ⟨hlt, fun h => h38 (hgd.symm.trans h)⟩] at h9
            exact (⟨p, _, _, _, _, g, HPI.out, hp, HLN.out, by have := HG.out; omega, h9⟩ : ∃ p t2 p2 o2 m2 f, PI H w wr p t2 p2 o2 m2 ∧ p.h.length = 32 ∧ (p.ts.length ≤ n ∧ p.ps.length ≤ n ∧ p.mo.length ≤ n) ∧ s.size + 1 - (i + 1) < f ∧ q = prG s f p n ah fr (i + 1))
          clear HQ2 HPI HLN HG
          go_wp2
          go_roundw
          case rel => exact ⟨i + 1, fr, n, ah, by omega, by omega, by omega, rfl, rfl, rfl, by go_num, HH⟩
          case measure => simp [intOf]; omega
      · have hlt' : ¬ (i : Int) < (s.size : Int) := by omega
        have HNC : ¬ (i < s.size ∧ s.data.toList.getD i 0 ≠ 38) := fun h => hlt h.1
        have HQ3 : Hid (q = if (ptR p n ah (s.extract fr i)).2.2.2 ≠ 0 then (zP, (fr : Int) + (ptR p n ah (s.extract fr i)).2.2.1, (ptR p n ah (s.extract fr i)).2.2.2) else prG s g (ptR p n ah (s.extract fr i)).1 (n + 1) (ptR p n ah (s.extract fr i)).2.1 (i + 1) (i + 1)) := by have h9 := HQ2.out; rw [if_neg HNC] at h9; exact h9
        clear HQ2
        have hes : (s.extract fr i).size ≤ 4096 := by simp; omega
        have hsl : ∀ w : World, (Instr.slice 9 (.string s) (some (.int .i64 (fr : Int))) (some (.int .i64 (i : Int))) none).run Tryd.prog w = .ok (.string (s.extract fr i)) w := fun w => by
          have hh := Lib.size_eq s
          simp [go_sem, Tryd.underlying9]; rw [if_pos (by omega), if_pos (by omega)]
        have HCALL : Hid (∀ (K : Nat → Prop) x, LO H x p (.slice ta p.ts.length tc) (.slice pa p.ps.length pc) (.slice oa p.rs.length oc) (.slice ma p.mo.length mc) → H ≤ x.heap.size → (∀ g, K g → g < x.heap.size ∧ NoB g (.slice ta p.ts.length tc) (.slice pa p.ps.length pc) (.slice oa p.rs.length oc) (.slice ma p.mo.length mc)) → Calls Tryd.prog 11 #[.agg (lkC p.h p.nm (.slice ta p.ts.length tc) (.slice pa p.ps.length pc) (.slice oa p.rs.length oc) (.slice ma p.mo.length mc)), .int .i64 (n : Int), .string ah, .string (s.extract fr i)] x fun e w' => PE K H x (ptR p n ah (s.extract fr i)) e w') := fun K x h1 h2 h3 => rpart K H p _ _ _ _ n ah (s.extract fr i) x hp h1 h2 hes (by omega) ⟨by have := HLN.out.1; omega, by have := HLN.out.2.1; omega, by have := HLN.out.2.2; omega⟩ h3
        have HLR : Hid ((ptR p n ah (s.extract fr i)).1.ts.length ≤ n + 1 ∧ (ptR p n ah (s.extract fr i)).1.ps.length ≤ n + 1 ∧ (ptR p n ah (s.extract fr i)).1.mo.length ≤ n + 1) := by have h9 := ptR_len p n ah (s.extract fr i) hp; have h8 := HLN.out; exact ⟨by omega, by omega, by omega⟩
        have hr1 := (ptR_len p n ah (s.extract fr i) hp).2.2.2
        have hat := ptR_at p n ah (s.extract fr i) hes
        clear hes HLN
        generalize ptR p n ah (s.extract fr i) = r at *
        obtain ⟨r1, k2, pl, er⟩ := r
        obtain ⟨hat1, hat2⟩ := hat
        have hat1' : 0 ≤ pl := hat1
        have hat2' : pl ≤ 8194 := hat2
        clear hat1 hat2
        have hr2 : r1.h.length = 32 := hr1
        clear hr1
        go_upto_region 14 with fail
        refine wp_region_held_drew (S := fun x => x.rangeAt (H + 1) 0 (Lib.byteCells p.h ++ [.string p.nm, (.slice ta p.ts.length tc), (.slice pa p.ps.length pc), (.slice oa p.rs.length oc), (.slice ma p.mo.length mc)])) (by kernel_rfl) ((LB.keep (w' := wr.drew) HPI.out.2.2.1 rfl).rangeAll) (fun hHeld => ?_)
        refine wpAnyH_take (i := 0) (v := .agg (lkC p.h p.nm (.slice ta p.ts.length tc) (.slice pa p.ps.length pc) (.slice oa p.rs.length oc) (.slice ma p.mo.length mc))) rfl (by kernel_rfl) (by kernel_rfl) (by kernel_rfl) (fun _ _ _ h => h) (yieldsIf_load_mid (by rfl) 28 (.tmp 6) rfl (H + 1) 0 rfl (Lib.byteCells p.h ++ [.string p.nm, (.slice ta p.ts.length tc), (.slice pa p.ps.length pc), (.slice oa p.rs.length oc), (.slice ma p.mo.length mc)]) _ (fun w hw => hw) Tryd.underlying28 rfl (infoLk hp)) hHeld ?_
        simp only [Act.put, List.getElem_toArray, List.getElem_cons_zero, List.setIfInBounds_toArray, List.set_cons_zero, List.set_cons_succ]
        refine wpAnyH_take (i := 1) (v := .int .i64 (n : Int)) rfl (by kernel_rfl) (by kernel_rfl) (by kernel_rfl) (fun _ _ _ h => h) (Or.inl ⟨by rfl, fun w hw => by go_simp⟩) hHeld ?_
        simp only [Act.put, List.getElem_toArray, List.getElem_cons_zero, List.getElem_cons_succ, List.setIfInBounds_toArray, List.set_cons_zero, List.set_cons_succ]
        refine wpAnyH_take (i := 2) (v := .string ah) rfl (by kernel_rfl) (by kernel_rfl) (by kernel_rfl) (fun _ _ _ h => h) (Or.inl ⟨by rfl, fun w hw => by go_simp⟩) hHeld ?_
        simp only [Act.put, List.getElem_toArray, List.getElem_cons_zero, List.getElem_cons_succ, List.setIfInBounds_toArray, List.set_cons_zero, List.set_cons_succ]
        refine wpAnyH_take (i := 3) (v := .string s) rfl (by kernel_rfl) (by kernel_rfl) (by kernel_rfl) (fun _ _ _ h => h) (Or.inl ⟨by rfl, fun w hw => by go_simp⟩) hHeld ?_
        simp only [Act.put, List.getElem_toArray, List.getElem_cons_zero, List.getElem_cons_succ, List.setIfInBounds_toArray, List.set_cons_zero, List.set_cons_succ]
        refine wpAnyH_take (i := 4) (v := .int .i64 (fr : Int)) rfl (by kernel_rfl) (by kernel_rfl) (by kernel_rfl) (fun _ _ _ h => h) (Or.inl ⟨by rfl, fun w hw => by go_simp⟩) hHeld ?_
        simp only [Act.put, List.getElem_toArray, List.getElem_cons_zero, List.getElem_cons_succ, List.setIfInBounds_toArray, List.set_cons_zero, List.set_cons_succ]
        refine wpAnyH_take (i := 5) (v := .int .i64 (i : Int)) rfl (by kernel_rfl) (by kernel_rfl) (by kernel_rfl) (fun _ _ _ h => h) (Or.inl ⟨by rfl, fun w hw => by go_simp⟩) hHeld ?_
        simp only [Act.put, List.getElem_toArray, List.getElem_cons_zero, List.getElem_cons_succ, List.setIfInBounds_toArray, List.set_cons_zero, List.set_cons_succ]
        refine wpAnyH_take (i := 6) (v := .string (s.extract fr i)) rfl (by kernel_rfl) (by kernel_rfl) (by kernel_rfl) (fun _ _ _ h => h) (Or.inl ⟨by rfl, fun w hw => by go_simp⟩) hHeld ?_
        simp only [Act.put, List.getElem_toArray, List.getElem_cons_zero, List.getElem_cons_succ, List.setIfInBounds_toArray, List.set_cons_zero, List.set_cons_succ]
        refine wpAnyH_ready (rs := [7, 13]) (by kernel_rfl) (by simp) ?_
        refine AllReadyH.cons (o := _) rfl (fun K hK => ?_) (AllReadyH.cons (o := _) rfl (fun K hK => ?_) AllReadyH.nil)
        · go_simp
          refine (HCALL.out (fun g => g = H ∨ g = H + 1) wr.drew (HPI.out.2.2.2.1.below (belowDrew1 wr)) (by have := HPI.out.2.1.lt; show H ≤ wr.heap.size; omega) (fun g hg => hg.elim (fun e => by subst e; exact ⟨HPI.out.2.1.lt, HPI.out.2.2.2.2.1⟩) (fun e => by subst e; exact ⟨HPI.out.2.2.1.lt, HPI.out.2.2.2.2.2⟩))).mono ?_
          rintro e u ⟨t3, p3, o3, m3, rfl, hlo, hb, hk⟩
          obtain ⟨x0, z0, rfl⟩ := ownForm hlo.o1
          obtain ⟨x1, z1, rfl⟩ := ownForm hlo.o2
          obtain ⟨x2, z2, rfl⟩ := ownForm hlo.o3
          obtain ⟨x3, z3, rfl⟩ := ownForm hlo.o4
          have hS : u.rangeAt (H + 1) 0 (Lib.byteCells p.h ++ [.string p.nm, (.slice ta p.ts.length tc), (.slice pa p.ps.length pc), (.slice oa p.rs.length oc), (.slice ma p.mo.length mc)]) := (LB.keep (w := wr) HPI.out.2.2.1 (hk (H + 1) (.inr rfl)).1).rangeAll
          have HU : Hid (Below H w u ∧ LB u H (List.replicate 32 (0 : UInt8)) ⟨#[]⟩ (.slice none 0 0) (.slice none 0 0) (.slice none 0 0) (.slice none 0 0) ∧ LB u (H + 1) p.h p.nm (.slice ta p.ts.length tc) (.slice pa p.ps.length pc) (.slice oa p.rs.length oc) (.slice ma p.mo.length mc) ∧ LO H u r1 (.slice x0 r1.ts.length z0) (.slice x1 r1.ps.length z1) (.slice x2 r1.rs.length z2) (.slice x3 r1.mo.length z3) ∧ NoB H (.slice x0 r1.ts.length z0) (.slice x1 r1.ps.length z1) (.slice x2 r1.rs.length z2) (.slice x3 r1.mo.length z3) ∧ NoB (H + 1) (.slice x0 r1.ts.length z0) (.slice x1 r1.ps.length z1) (.slice x2 r1.rs.length z2) (.slice x3 r1.mo.length z3)) := ⟨HPI.out.1.trans (((belowDrew1 wr).mono (by have := HPI.out.2.1.lt; omega)).trans hb), LB.keep (w := wr) HPI.out.2.1 (hk H (.inl rfl)).1, LB.keep (w := wr) HPI.out.2.2.1 (hk (H + 1) (.inr rfl)).1, hlo, (hk H (.inl rfl)).2, (hk (H + 1) (.inr rfl)).2⟩
          clear hlo hb hk HCALL
          go_wp2_with fail
          refine hK.out _ _ hS (fun hHeld => ?_)
          clear hK K hS
          refine wpAnyH_take (i := 8) (v := .tuple #[.agg (lkC r1.h r1.nm (.slice x0 r1.ts.length z0) (.slice x1 r1.ps.length z1) (.slice x2 r1.rs.length z2) (.slice x3 r1.mo.length z3)), .string k2, .int .i64 pl, .int .i64 er]) rfl (by kernel_rfl) (by kernel_rfl) (by kernel_rfl) (fun _ _ _ h => h) (Or.inl ⟨by rfl, fun w hw => by go_simp⟩) hHeld ?_
          simp only [Act.put, List.getElem_toArray, List.getElem_cons_zero, List.getElem_cons_succ, List.setIfInBounds_toArray, List.set_cons_zero, List.set_cons_succ]
          refine wpAnyH_take (i := 9) (v := .agg (lkC r1.h r1.nm (.slice x0 r1.ts.length z0) (.slice x1 r1.ps.length z1) (.slice x2 r1.rs.length z2) (.slice x3 r1.mo.length z3))) rfl (by kernel_rfl) (by kernel_rfl) (by kernel_rfl) (fun _ _ _ h => h) (Or.inl ⟨by rfl, fun w hw => by go_simp⟩) hHeld ?_
          simp only [Act.put, List.getElem_toArray, List.getElem_cons_zero, List.getElem_cons_succ, List.setIfInBounds_toArray, List.set_cons_zero, List.set_cons_succ]
          refine wpAnyH_take (i := 10) (v := .string k2) rfl (by kernel_rfl) (by kernel_rfl) (by kernel_rfl) (fun _ _ _ h => h) (Or.inl ⟨by rfl, fun w hw => by go_simp⟩) hHeld ?_
          simp only [Act.put, List.getElem_toArray, List.getElem_cons_zero, List.getElem_cons_succ, List.setIfInBounds_toArray, List.set_cons_zero, List.set_cons_succ]
          refine wpAnyH_take (i := 11) (v := .int .i64 pl) rfl (by kernel_rfl) (by kernel_rfl) (by kernel_rfl) (fun _ _ _ h => h) (Or.inl ⟨by rfl, fun w hw => by go_simp⟩) hHeld ?_
          simp only [Act.put, List.getElem_toArray, List.getElem_cons_zero, List.getElem_cons_succ, List.setIfInBounds_toArray, List.set_cons_zero, List.set_cons_succ]
          refine wpAnyH_take (i := 12) (v := .int .i64 er) rfl (by kernel_rfl) (by kernel_rfl) (by kernel_rfl) (fun _ _ _ h => h) (Or.inl ⟨by rfl, fun w hw => by go_simp⟩) hHeld ?_
          simp only [Act.put, List.getElem_toArray, List.getElem_cons_zero, List.getElem_cons_succ, List.setIfInBounds_toArray, List.set_cons_zero, List.set_cons_succ]
          refine wpAnyH_ready (rs := [13]) (by kernel_rfl) (by simp) ?_
          refine AllReadyH.cons (o := _) rfl (fun K hK => ?_) AllReadyH.nil
          go_simp
          have U1 : Hid (Below H w (u.alloc (Obj.cells #[.int .u8 0, .int .u8 0, .int .u8 0, .int .u8 0, .int .u8 0, .int .u8 0, .int .u8 0, .int .u8 0, .int .u8 0, .int .u8 0, .int .u8 0, .int .u8 0, .int .u8 0, .int .u8 0, .int .u8 0, .int .u8 0, .int .u8 0, .int .u8 0, .int .u8 0, .int .u8 0, .int .u8 0, .int .u8 0, .int .u8 0, .int .u8 0, .int .u8 0, .int .u8 0, .int .u8 0, .int .u8 0, .int .u8 0, .int .u8 0, .int .u8 0, .int .u8 0, .string { data := #[] }, .slice .none 0 0, .slice .none 0 0, .slice .none 0 0, .slice .none 0 0] 28)) ∧ LB (u.alloc (Obj.cells #[.int .u8 0, .int .u8 0, .int .u8 0, .int .u8 0, .int .u8 0, .int .u8 0, .int .u8 0, .int .u8 0, .int .u8 0, .int .u8 0, .int .u8 0, .int .u8 0, .int .u8 0, .int .u8 0, .int .u8 0, .int .u8 0, .int .u8 0, .int .u8 0, .int .u8 0, .int .u8 0, .int .u8 0, .int .u8 0, .int .u8 0, .int .u8 0, .int .u8 0, .int .u8 0, .int .u8 0, .int .u8 0, .int .u8 0, .int .u8 0, .int .u8 0, .int .u8 0, .string { data := #[] }, .slice .none 0 0, .slice .none 0 0, .slice .none 0 0, .slice .none 0 0] 28)) H (List.replicate 32 (0 : UInt8)) ⟨#[]⟩ (.slice none 0 0) (.slice none 0 0) (.slice none 0 0) (.slice none 0 0) ∧ LB (u.alloc (Obj.cells #[.int .u8 0, .int .u8 0, .int .u8 0, .int .u8 0, .int .u8 0, .int .u8 0, .int .u8 0, .int .u8 0, .int .u8 0, .int .u8 0, .int .u8 0, .int .u8 0, .int .u8 0, .int .u8 0, .int .u8 0, .int .u8 0, .int .u8 0, .int .u8 0, .int .u8 0, .int .u8 0, .int .u8 0, .int .u8 0, .int .u8 0, .int .u8 0, .int .u8 0, .int .u8 0, .int .u8 0, .int .u8 0, .int .u8 0, .int .u8 0, .int .u8 0, .int .u8 0, .string { data := #[] }, .slice .none 0 0, .slice .none 0 0, .slice .none 0 0, .slice .none 0 0] 28)) (H + 1) p.h p.nm (.slice ta p.ts.length tc) (.slice pa p.ps.length pc) (.slice oa p.rs.length oc) (.slice ma p.mo.length mc) ∧ LB (u.alloc (Obj.cells #[.int .u8 0, .int .u8 0, .int .u8 0, .int .u8 0, .int .u8 0, .int .u8 0, .int .u8 0, .int .u8 0, .int .u8 0, .int .u8 0, .int .u8 0, .int .u8 0, .int .u8 0, .int .u8 0, .int .u8 0, .int .u8 0, .int .u8 0, .int .u8 0, .int .u8 0, .int .u8 0, .int .u8 0, .int .u8 0, .int .u8 0, .int .u8 0, .int .u8 0, .int .u8 0, .int .u8 0, .int .u8 0, .int .u8 0, .int .u8 0, .int .u8 0, .int .u8 0, .string { data := #[] }, .slice .none 0 0, .slice .none 0 0, .slice .none 0 0, .slice .none 0 0] 28)) u.heap.size (List.replicate 32 (0 : UInt8)) ⟨#[]⟩ (.slice none 0 0) (.slice none 0 0) (.slice none 0 0) (.slice none 0 0) ∧ LO H (u.alloc (Obj.cells #[.int .u8 0, .int .u8 0, .int .u8 0, .int .u8 0, .int .u8 0, .int .u8 0, .int .u8 0, .int .u8 0, .int .u8 0, .int .u8 0, .int .u8 0, .int .u8 0, .int .u8 0, .int .u8 0, .int .u8 0, .int .u8 0, .int .u8 0, .int .u8 0, .int .u8 0, .int .u8 0, .int .u8 0, .int .u8 0, .int .u8 0, .int .u8 0, .int .u8 0, .int .u8 0, .int .u8 0, .int .u8 0, .int .u8 0, .int .u8 0, .int .u8 0, .int .u8 0, .string { data := #[] }, .slice .none 0 0, .slice .none 0 0, .slice .none 0 0, .slice .none 0 0] 28)) r1 (.slice x0 r1.ts.length z0) (.slice x1 r1.ps.length z1) (.slice x2 r1.rs.length z2) (.slice x3 r1.mo.length z3) ∧ NoB H (.slice x0 r1.ts.length z0) (.slice x1 r1.ps.length z1) (.slice x2 r1.rs.length z2) (.slice x3 r1.mo.length z3) ∧ NoB (H + 1) (.slice x0 r1.ts.length z0) (.slice x1 r1.ps.length z1) (.slice x2 r1.rs.length z2) (.slice x3 r1.mo.length z3) ∧ NoB u.heap.size (.slice x0 r1.ts.length z0) (.slice x1 r1.ps.length z1) (.slice x2 r1.rs.length z2) (.slice x3 r1.mo.length z3) ∧ H + 1 < u.heap.size) := by
            obtain ⟨k1, k2, k3, k4, k5, k6⟩ := HU.out
            exact (⟨k1.alloc (by have := k2.lt; omega) _, k2.keep (Below.heap_alloc _ _ _ k2.lt), k3.keep (Below.heap_alloc _ _ _ k3.lt), heap_new _ _, k4.below ((Below.refl _ _).alloc (Nat.le_refl _) _), k5, k6, k4.nob (Nat.le_refl _), k3.lt⟩ : (Below H w (u.alloc (Obj.cells #[.int .u8 0, .int .u8 0, .int .u8 0, .int .u8 0, .int .u8 0, .int .u8 0, .int .u8 0, .int .u8 0, .int .u8 0, .int .u8 0, .int .u8 0, .int .u8 0, .int .u8 0, .int .u8 0, .int .u8 0, .int .u8 0, .int .u8 0, .int .u8 0, .int .u8 0, .int .u8 0, .int .u8 0, .int .u8 0, .int .u8 0, .int .u8 0, .int .u8 0, .int .u8 0, .int .u8 0, .int .u8 0, .int .u8 0, .int .u8 0, .int .u8 0, .int .u8 0, .string { data := #[] }, .slice .none 0 0, .slice .none 0 0, .slice .none 0 0, .slice .none 0 0] 28)) ∧ LB (u.alloc (Obj.cells #[.int .u8 0, .int .u8 0, .int .u8 0, .int .u8 0, .int .u8 0, .int .u8 0, .int .u8 0, .int .u8 0, .int .u8 0, .int .u8 0, .int .u8 0, .int .u8 0, .int .u8 0, .int .u8 0, .int .u8 0, .int .u8 0, .int .u8 0, .int .u8 0, .int .u8 0, .int .u8 0, .int .u8 0, .int .u8 0, .int .u8 0, .int .u8 0, .int .u8 0, .int .u8 0, .int .u8 0, .int .u8 0, .int .u8 0, .int .u8 0, .int .u8 0, .int .u8 0, .string { data := #[] }, .slice .none 0 0, .slice .none 0 0, .slice .none 0 0, .slice .none 0 0] 28)) H (List.replicate 32 (0 : UInt8)) ⟨#[]⟩ (.slice none 0 0) (.slice none 0 0) (.slice none 0 0) (.slice none 0 0) ∧ LB (u.alloc (Obj.cells #[.int .u8 0, .int .u8 0, .int .u8 0, .int .u8 0, .int .u8 0, .int .u8 0, .int .u8 0, .int .u8 0, .int .u8 0, .int .u8 0, .int .u8 0, .int .u8 0, .int .u8 0, .int .u8 0, .int .u8 0, .int .u8 0, .int .u8 0, .int .u8 0, .int .u8 0, .int .u8 0, .int .u8 0, .int .u8 0, .int .u8 0, .int .u8 0, .int .u8 0, .int .u8 0, .int .u8 0, .int .u8 0, .int .u8 0, .int .u8 0, .int .u8 0, .int .u8 0, .string { data := #[] }, .slice .none 0 0, .slice .none 0 0, .slice .none 0 0, .slice .none 0 0] 28)) (H + 1) p.h p.nm (.slice ta p.ts.length tc) (.slice pa p.ps.length pc) (.slice oa p.rs.length oc) (.slice ma p.mo.length mc) ∧ LB (u.alloc (Obj.cells #[.int .u8 0, .int .u8 0, .int .u8 0, .int .u8 0, .int .u8 0, .int .u8 0, .int .u8 0, .int .u8 0, .int .u8 0, .int .u8 0, .int .u8 0, .int .u8 0, .int .u8 0, .int .u8 0, .int .u8 0, .int .u8 0, .int .u8 0, .int .u8 0, .int .u8 0, .int .u8 0, .int .u8 0, .int .u8 0, .int .u8 0, .int .u8 0, .int .u8 0, .int .u8 0, .int .u8 0, .int .u8 0, .int .u8 0, .int .u8 0, .int .u8 0, .int .u8 0, .string { data := #[] }, .slice .none 0 0, .slice .none 0 0, .slice .none 0 0, .slice .none 0 0] 28)) u.heap.size (List.replicate 32 (0 : UInt8)) ⟨#[]⟩ (.slice none 0 0) (.slice none 0 0) (.slice none 0 0) (.slice none 0 0) ∧ LO H (u.alloc (Obj.cells #[.int .u8 0, .int .u8 0, .int .u8 0, .int .u8 0, .int .u8 0, .int .u8 0, .int .u8 0, .int .u8 0, .int .u8 0, .int .u8 0, .int .u8 0, .int .u8 0, .int .u8 0, .int .u8 0, .int .u8 0, .int .u8 0, .int .u8 0, .int .u8 0, .int .u8 0, .int .u8 0, .int .u8 0, .int .u8 0, .int .u8 0, .int .u8 0, .int .u8 0, .int .u8 0, .int .u8 0, .int .u8 0, .int .u8 0, .int .u8 0, .int .u8 0, .int .u8 0, .string { data := #[] }, .slice .none 0 0, .slice .none 0 0, .slice .none 0 0, .slice .none 0 0] 28)) r1 (.slice x0 r1.ts.length z0) (.slice x1 r1.ps.length z1) (.slice x2 r1.rs.length z2) (.slice x3 r1.mo.length z3) ∧ NoB H (.slice x0 r1.ts.length z0) (.slice x1 r1.ps.length z1) (.slice x2 r1.rs.length z2) (.slice x3 r1.mo.length z3) ∧ NoB (H + 1) (.slice x0 r1.ts.length z0) (.slice x1 r1.ps.length z1) (.slice x2 r1.rs.length z2) (.slice x3 r1.mo.length z3) ∧ NoB u.heap.size (.slice x0 r1.ts.length z0) (.slice x1 r1.ps.length z1) (.slice x2 r1.rs.length z2) (.slice x3 r1.mo.length z3) ∧ H + 1 < u.heap.size))
          have hS : (u.alloc (Obj.cells #[.int .u8 0, .int .u8 0, .int .u8 0, .int .u8 0, .int .u8 0, .int .u8 0, .int .u8 0, .int .u8 0, .int .u8 0, .int .u8 0, .int .u8 0, .int .u8 0, .int .u8 0, .int .u8 0, .int .u8 0, .int .u8 0, .int .u8 0, .int .u8 0, .int .u8 0, .int .u8 0, .int .u8 0, .int .u8 0, .int .u8 0, .int .u8 0, .int .u8 0, .int .u8 0, .int .u8 0, .int .u8 0, .int .u8 0, .int .u8 0, .int .u8 0, .int .u8 0, .string { data := #[] }, .slice .none 0 0, .slice .none 0 0, .slice .none 0 0, .slice .none 0 0] 28)).rangeAt (H + 1) 0 (Lib.byteCells p.h ++ [.string p.nm, (.slice ta p.ts.length tc), (.slice pa p.ps.length pc), (.slice oa p.rs.length oc), (.slice ma p.mo.length mc)]) := U1.out.2.2.1.rangeAll
          refine hK.out _ _ hS (fun hHeld => ?_)
          clear hK K hS HU
          generalize u.alloc (Obj.cells #[.int .u8 0, .int .u8 0, .int .u8 0, .int .u8 0, .int .u8 0, .int .u8 0, .int .u8 0, .int .u8 0, .int .u8 0, .int .u8 0, .int .u8 0, .int .u8 0, .int .u8 0, .int .u8 0, .int .u8 0, .int .u8 0, .int .u8 0, .int .u8 0, .int .u8 0, .int .u8 0, .int .u8 0, .int .u8 0, .int .u8 0, .int .u8 0, .int .u8 0, .int .u8 0, .int .u8 0, .int .u8 0, .int .u8 0, .int .u8 0, .int .u8 0, .int .u8 0, .string { data := #[] }, .slice .none 0 0, .slice .none 0 0, .slice .none 0 0, .slice .none 0 0] 28) = wa at *
          generalize u.heap.size = da at *
          have HPN : Hid (PN H da w (wa.setRow da (lkC r1.h r1.nm (.slice x0 r1.ts.length z0) (.slice x1 r1.ps.length z1) (.slice x2 r1.rs.length z2) (.slice x3 r1.mo.length z3))) p r1 (.slice ta p.ts.length tc) (.slice pa p.ps.length pc) (.slice oa p.rs.length oc) (.slice ma p.mo.length mc) (.slice x0 r1.ts.length z0) (.slice x1 r1.ps.length z1) (.slice x2 r1.rs.length z2) (.slice x3 r1.mo.length z3)) := pn_of U1.out.1 U1.out.2.1 U1.out.2.2.1 U1.out.2.2.2.1 U1.out.2.2.2.2.1 U1.out.2.2.2.2.2.1 U1.out.2.2.2.2.2.2.1 U1.out.2.2.2.2.2.2.2.1 U1.out.2.2.2.2.2.2.2.2
          have AD : LB wa da (List.replicate 32 (0 : UInt8)) ⟨#[]⟩ (.slice none 0 0) (.slice none 0 0) (.slice none 0 0) (.slice none 0 0) := U1.out.2.2.2.1
          have hS : (wa.setRow da (lkC r1.h r1.nm (.slice x0 r1.ts.length z0) (.slice x1 r1.ps.length z1) (.slice x2 r1.rs.length z2) (.slice x3 r1.mo.length z3))).rangeAt (H + 1) 0 (Lib.byteCells p.h ++ [.string p.nm, (.slice ta p.ts.length tc), (.slice pa p.ps.length pc), (.slice oa p.rs.length oc), (.slice ma p.mo.length mc)]) := HPN.out.2.2.1.rangeAll
          refine wpAnyH_ready (rs := [14]) (by kernel_rfl) (by simp) ?_
          refine AllReadyH.cons (o := _) rfl (fun K hK => ?_) AllReadyH.nil
          rw [if_pos (by rfl)]
          refine wp_store_row 28 _ _ rfl da (lkC r1.h r1.nm (.slice x0 r1.ts.length z0) (.slice x1 r1.ps.length z1) (.slice x2 r1.rs.length z2) (.slice x3 r1.mo.length z3)) rfl rfl 28 _ AD (infoLk hr2) (by rw [lkC_size hr2, lkC_size (by simp)]) lkC_one ?_
          simp only [Act.put, List.getElem_toArray, List.getElem_cons_zero, List.getElem_cons_succ]
          refine hK.out _ _ hS (fun hHeld => ?_)
          clear hK K hS AD U1
          refine wpAnyH_take (i := 15) (v := .string k2) rfl (by kernel_rfl) (by kernel_rfl) (by kernel_rfl) (fun _ _ _ h => h) (Or.inl ⟨by rfl, fun w hw => by go_simp⟩) hHeld ?_
          simp only [Act.put, List.getElem_toArray, List.getElem_cons_zero, List.getElem_cons_succ, List.setIfInBounds_toArray, List.set_cons_zero, List.set_cons_succ]
          refine wpAnyH_take (i := 16) (v := .int .i64 pl) rfl (by kernel_rfl) (by kernel_rfl) (by kernel_rfl) (fun _ _ _ h => h) (Or.inl ⟨by rfl, fun w hw => by go_simp⟩) hHeld ?_
          simp only [Act.put, List.getElem_toArray, List.getElem_cons_zero, List.getElem_cons_succ, List.setIfInBounds_toArray, List.set_cons_zero, List.set_cons_succ]
          refine wpAnyH_take (i := 17) (v := .int .i64 er) rfl (by kernel_rfl) (by kernel_rfl) (by kernel_rfl) (fun _ _ _ h => h) (Or.inl ⟨by rfl, fun w hw => by go_simp⟩) hHeld ?_
          simp only [Act.put, List.getElem_toArray, List.getElem_cons_zero, List.getElem_cons_succ, List.setIfInBounds_toArray, List.set_cons_zero, List.set_cons_succ]
          refine wpAnyH_done (by kernel_rfl) ?_ _
          clear hHeld
          generalize (wa.setRow da (lkC r1.h r1.nm (.slice x0 r1.ts.length z0) (.slice x1 r1.ps.length z1) (.slice x2 r1.rs.length z2) (.slice x3 r1.mo.length z3))) = w3 at *
          have hZer := HPN.out.2.1
          by_cases her : er = 0
          · have HH : Hid (∃ p t2 p2 o2 m2 f, PI H w (w3.setRow (H + 1) (lkC r1.h r1.nm (.slice x0 r1.ts.length z0) (.slice x1 r1.ps.length z1) (.slice x2 r1.rs.length z2) (.slice x3 r1.mo.length z3))) p t2 p2 o2 m2 ∧ p.h.length = 32 ∧ (p.ts.length ≤ (n + 1) ∧ p.ps.length ≤ (n + 1) ∧ p.mo.length ≤ (n + 1)) ∧ s.size + 1 - (i + 1) < f ∧ q = prG s f p (n + 1) k2 (i + 1) (i + 1)) := by
              have h9 := HQ3.out
              rw [if_neg (fun h => h her)] at h9
              exact (⟨r1, _, _, _, _, g, HPN.out.step, hr2, HLR.out, by have := HG.out; omega, h9⟩ : ∃ p t2 p2 o2 m2 f, PI H w (w3.setRow (H + 1) (lkC r1.h r1.nm (.slice x0 r1.ts.length z0) (.slice x1 r1.ps.length z1) (.slice x2 r1.rs.length z2) (.slice x3 r1.mo.length z3))) p t2 p2 o2 m2 ∧ p.h.length = 32 ∧ (p.ts.length ≤ n + 1 ∧ p.ps.length ≤ n + 1 ∧ p.mo.length ≤ n + 1) ∧ s.size + 1 - (i + 1) < f ∧ q = prG s f p (n + 1) k2 (i + 1) (i + 1))
            have hRow := HPN.out.2.2.2.1
            have hOld := HPN.out.2.2.1
            clear HQ3 HPN HLR HG HPI
            subst her
            go_wp2_with (first | (refine wpList_store_row rfl 28 _ _ rfl (H + 1) (lkC r1.h r1.nm (.slice x0 r1.ts.length z0) (.slice x1 r1.ps.length z1) (.slice x2 r1.rs.length z2) (.slice x3 r1.mo.length z3)) rfl rfl 28 _ hOld (infoLk hr2) (by rw [lkC_size hr2, lkC_size hp]) lkC_one ?_) | (refine wpList_load_row rfl 28 _ rfl da rfl 28 (lkC r1.h r1.nm (.slice x0 r1.ts.length z0) (.slice x1 r1.ps.length z1) (.slice x2 r1.rs.length z2) (.slice x3 r1.mo.length z3)) (0, 0) _ hRow Tryd.underlying28 rfl (infoLk hr2) ?_))
            go_roundw
            case rel => exact ⟨i + 1, i + 1, n + 1, k2, by omega, by omega, by omega, rfl, by go_num, by go_num, by go_num, HH⟩
            case measure => simp [intOf]; omega
          · have HE : Hid (q = (zP, (fr : Int) + pl, er)) := by have h9 := HQ3.out; rw [if_pos her] at h9; exact h9
            have HB3 : Hid (Below H w w3) := HPN.out.1
            clear HQ3 HPN HLR HG HPI
            go_wp2_with (refine wpList_store_row rfl 28 _ _ rfl H (lkC (List.replicate 32 (0 : UInt8)) ⟨#[]⟩ (.slice none 0 0) (.slice none 0 0) (.slice none 0 0) (.slice none 0 0)) rfl rfl 28 _ hZer (infoLk (by simp)) rfl lkC_one ?_)
            exact bodyPost_ret (results_c2 Tryd.results5 _ _ H 28 _ (0, 0) _ rfl (setRow_heap w3 H _ _ _ _ hZer) rfl Tryd.underlying28 (infoLk (by simp))) rfl (rp_zero HS.out HE.out (below_setRow HB3.out (Nat.le_refl _) _))
        · go_simp
          have HZ : Hid (Below H w (wr.alloc (Obj.cells #[.int .u8 0, .int .u8 0, .int .u8 0, .int .u8 0, .int .u8 0, .int .u8 0, .int .u8 0, .int .u8 0, .int .u8 0, .int .u8 0, .int .u8 0, .int .u8 0, .int .u8 0, .int .u8 0, .int .u8 0, .int .u8 0, .int .u8 0, .int .u8 0, .int .u8 0, .int .u8 0, .int .u8 0, .int .u8 0, .int .u8 0, .int .u8 0, .int .u8 0, .int .u8 0, .int .u8 0, .int .u8 0, .int .u8 0, .int .u8 0, .int .u8 0, .int .u8 0, .string { data := #[] }, .slice .none 0 0, .slice .none 0 0, .slice .none 0 0, .slice .none 0 0] 28)).drew ∧ LB (wr.alloc (Obj.cells #[.int .u8 0, .int .u8 0, .int .u8 0, .int .u8 0, .int .u8 0, .int .u8 0, .int .u8 0, .int .u8 0, .int .u8 0, .int .u8 0, .int .u8 0, .int .u8 0, .int .u8 0, .int .u8 0, .int .u8 0, .int .u8 0, .int .u8 0, .int .u8 0, .int .u8 0, .int .u8 0, .int .u8 0, .int .u8 0, .int .u8 0, .int .u8 0, .int .u8 0, .int .u8 0, .int .u8 0, .int .u8 0, .int .u8 0, .int .u8 0, .int .u8 0, .int .u8 0, .string { data := #[] }, .slice .none 0 0, .slice .none 0 0, .slice .none 0 0, .slice .none 0 0] 28)).drew H (List.replicate 32 (0 : UInt8)) ⟨#[]⟩ (.slice none 0 0) (.slice none 0 0) (.slice none 0 0) (.slice none 0 0) ∧ LB (wr.alloc (Obj.cells #[.int .u8 0, .int .u8 0, .int .u8 0, .int .u8 0, .int .u8 0, .int .u8 0, .int .u8 0, .int .u8 0, .int .u8 0, .int .u8 0, .int .u8 0, .int .u8 0, .int .u8 0, .int .u8 0, .int .u8 0, .int .u8 0, .int .u8 0, .int .u8 0, .int .u8 0, .int .u8 0, .int .u8 0, .int .u8 0, .int .u8 0, .int .u8 0, .int .u8 0, .int .u8 0, .int .u8 0, .int .u8 0, .int .u8 0, .int .u8 0, .int .u8 0, .int .u8 0, .string { data := #[] }, .slice .none 0 0, .slice .none 0 0, .slice .none 0 0, .slice .none 0 0] 28)).drew (H + 1) p.h p.nm (.slice ta p.ts.length tc) (.slice pa p.ps.length pc) (.slice oa p.rs.length oc) (.slice ma p.mo.length mc) ∧ LB (wr.alloc (Obj.cells #[.int .u8 0, .int .u8 0, .int .u8 0, .int .u8 0, .int .u8 0, .int .u8 0, .int .u8 0, .int .u8 0, .int .u8 0, .int .u8 0, .int .u8 0, .int .u8 0, .int .u8 0, .int .u8 0, .int .u8 0, .int .u8 0, .int .u8 0, .int .u8 0, .int .u8 0, .int .u8 0, .int .u8 0, .int .u8 0, .int .u8 0, .int .u8 0, .int .u8 0, .int .u8 0, .int .u8 0, .int .u8 0, .int .u8 0, .int .u8 0, .int .u8 0, .int .u8 0, .string { data := #[] }, .slice .none 0 0, .slice .none 0 0, .slice .none 0 0, .slice .none 0 0] 28)).drew wr.heap.size (List.replicate 32 (0 : UInt8)) ⟨#[]⟩ (.slice none 0 0) (.slice none 0 0) (.slice none 0 0) (.slice none 0 0) ∧ LO H (wr.alloc (Obj.cells #[.int .u8 0, .int .u8 0, .int .u8 0, .int .u8 0, .int .u8 0, .int .u8 0, .int .u8 0, .int .u8 0, .int .u8 0, .int .u8 0, .int .u8 0, .int .u8 0, .int .u8 0, .int .u8 0, .int .u8 0, .int .u8 0, .int .u8 0, .int .u8 0, .int .u8 0, .int .u8 0, .int .u8 0, .int .u8 0, .int .u8 0, .int .u8 0, .int .u8 0, .int .u8 0, .int .u8 0, .int .u8 0, .int .u8 0, .int .u8 0, .int .u8 0, .int .u8 0, .string { data := #[] }, .slice .none 0 0, .slice .none 0 0, .slice .none 0 0, .slice .none 0 0] 28)).drew p (.slice ta p.ts.length tc) (.slice pa p.ps.length pc) (.slice oa p.rs.length oc) (.slice ma p.mo.length mc) ∧ NoB H (.slice ta p.ts.length tc) (.slice pa p.ps.length pc) (.slice oa p.rs.length oc) (.slice ma p.mo.length mc) ∧ NoB (H + 1) (.slice ta p.ts.length tc) (.slice pa p.ps.length pc) (.slice oa p.rs.length oc) (.slice ma p.mo.length mc) ∧ NoB wr.heap.size (.slice ta p.ts.length tc) (.slice pa p.ps.length pc) (.slice oa p.rs.length oc) (.slice ma p.mo.length mc) ∧ H + 1 < wr.heap.size) := by
            obtain ⟨k1, k2, k3, k4, k5, k6⟩ := HPI.out
            have kb : Below wr.heap.size wr (wr.alloc (Obj.cells #[.int .u8 0, .int .u8 0, .int .u8 0, .int .u8 0, .int .u8 0, .int .u8 0, .int .u8 0, .int .u8 0, .int .u8 0, .int .u8 0, .int .u8 0, .int .u8 0, .int .u8 0, .int .u8 0, .int .u8 0, .int .u8 0, .int .u8 0, .int .u8 0, .int .u8 0, .int .u8 0, .int .u8 0, .int .u8 0, .int .u8 0, .int .u8 0, .int .u8 0, .int .u8 0, .int .u8 0, .int .u8 0, .int .u8 0, .int .u8 0, .int .u8 0, .int .u8 0, .string { data := #[] }, .slice .none 0 0, .slice .none 0 0, .slice .none 0 0, .slice .none 0 0] 28)).drew := ((Below.refl _ _).alloc (Nat.le_refl _) _).trans ((belowDrew1 _).mono (by simp))
            exact (⟨k1.trans (kb.mono (by have := k2.lt; omega)), k2.keep (kb.block _ k2.lt), k3.keep (kb.block _ k3.lt), heap_new wr _, k4.below kb, k5, k6, k4.nob (Nat.le_refl _), k3.lt⟩ : Below H w (wr.alloc (Obj.cells #[.int .u8 0, .int .u8 0, .int .u8 0, .int .u8 0, .int .u8 0, .int .u8 0, .int .u8 0, .int .u8 0, .int .u8 0, .int .u8 0, .int .u8 0, .int .u8 0, .int .u8 0, .int .u8 0, .int .u8 0, .int .u8 0, .int .u8 0, .int .u8 0, .int .u8 0, .int .u8 0, .int .u8 0, .int .u8 0, .int .u8 0, .int .u8 0, .int .u8 0, .int .u8 0, .int .u8 0, .int .u8 0, .int .u8 0, .int .u8 0, .int .u8 0, .int .u8 0, .string { data := #[] }, .slice .none 0 0, .slice .none 0 0, .slice .none 0 0, .slice .none 0 0] 28)).drew ∧ LB (wr.alloc (Obj.cells #[.int .u8 0, .int .u8 0, .int .u8 0, .int .u8 0, .int .u8 0, .int .u8 0, .int .u8 0, .int .u8 0, .int .u8 0, .int .u8 0, .int .u8 0, .int .u8 0, .int .u8 0, .int .u8 0, .int .u8 0, .int .u8 0, .int .u8 0, .int .u8 0, .int .u8 0, .int .u8 0, .int .u8 0, .int .u8 0, .int .u8 0, .int .u8 0, .int .u8 0, .int .u8 0, .int .u8 0, .int .u8 0, .int .u8 0, .int .u8 0, .int .u8 0, .int .u8 0, .string { data := #[] }, .slice .none 0 0, .slice .none 0 0, .slice .none 0 0, .slice .none 0 0] 28)).drew H (List.replicate 32 (0 : UInt8)) ⟨#[]⟩ (.slice none 0 0) (.slice none 0 0) (.slice none 0 0) (.slice none 0 0) ∧ LB (wr.alloc (Obj.cells #[.int .u8 0, .int .u8 0, .int .u8 0, .int .u8 0, .int .u8 0, .int .u8 0, .int .u8 0, .int .u8 0, .int .u8 0, .int .u8 0, .int .u8 0, .int .u8 0, .int .u8 0, .int .u8 0, .int .u8 0, .int .u8 0, .int .u8 0, .int .u8 0, .int .u8 0, .int .u8 0, .int .u8 0, .int .u8 0, .int .u8 0, .int .u8 0, .int .u8 0, .int .u8 0, .int .u8 0, .int .u8 0, .int .u8 0, .int .u8 0, .int .u8 0, .int .u8 0, .string { data := #[] }, .slice .none 0 0, .slice .none 0 0, .slice .none 0 0, .slice .none 0 0] 28)).drew (H + 1) p.h p.nm (.slice ta p.ts.length tc) (.slice pa p.ps.length pc) (.slice oa p.rs.length oc) (.slice ma p.mo.length mc) ∧ LB (wr.alloc (Obj.cells #[.int .u8 0, .int .u8 0, .int .u8 0, .int .u8 0, .int .u8 0, .int .u8 0, .int .u8 0, .int .u8 0, .int .u8 0, .int .u8 0, .int .u8 0, .int .u8 0, .int .u8 0, .int .u8 0, .int .u8 0, .int .u8 0, .int .u8 0, .int .u8 0, .int .u8 0, .int .u8 0, .int .u8 0, .int .u8 0, .int .u8 0, .int .u8 0, .int .u8 0, .int .u8 0, .int .u8 0, .int .u8 0, .int .u8 0, .int .u8 0, .int .u8 0, .int .u8 0, .string { data := #[] }, .slice .none 0 0, .slice .none 0 0, .slice .none 0 0, .slice .none 0 0] 28)).drew wr.heap.size (List.replicate 32 (0 : UInt8)) ⟨#[]⟩ (.slice none 0 0) (.slice none 0 0) (.slice none 0 0) (.slice none 0 0) ∧ LO H (wr.alloc (Obj.cells #[.int .u8 0, .int .u8 0, .int .u8 0, .int .u8 0, .int .u8 0, .int .u8 0, .int .u8 0, .int .u8 0, .int .u8 0, .int .u8 0, .int .u8 0, .int .u8 0, .int .u8 0, .int .u8 0, .int .u8 0, .int .u8 0, .int .u8 0, .int .u8 0, .int .u8 0, .int .u8 0, .int .u8 0, .int .u8 0, .int .u8 0, .int .u8 0, .int .u8 0, .int .u8 0, .int .u8 0, .int .u8 0, .int .u8 0, .int .u8 0, .int .u8 0, .int .u8 0, .string { data := #[] }, .slice .none 0 0, .slice .none 0 0, .slice .none 0 0, .slice .none 0 0] 28)).drew p (.slice ta p.ts.length tc) (.slice pa p.ps.length pc) (.slice oa p.rs.length oc) (.slice ma p.mo.length mc) ∧ NoB H (.slice ta p.ts.length tc) (.slice pa p.ps.length pc) (.slice oa p.rs.length oc) (.slice ma p.mo.length mc) ∧ NoB (H + 1) (.slice ta p.ts.length tc) (.slice pa p.ps.length pc) (.slice oa p.rs.length oc) (.slice ma p.mo.length mc) ∧ NoB wr.heap.size (.slice ta p.ts.length tc) (.slice pa p.ps.length pc) (.slice oa p.rs.length oc) (.slice ma p.mo.length mc) ∧ H + 1 < wr.heap.size)
          have hS : (wr.alloc (Obj.cells #[.int .u8 0, .int .u8 0, .int .u8 0, .int .u8 0, .int .u8 0, .int .u8 0, .int .u8 0, .int .u8 0, .int .u8 0, .int .u8 0, .int .u8 0, .int .u8 0, .int .u8 0, .int .u8 0, .int .u8 0, .int .u8 0, .int .u8 0, .int .u8 0, .int .u8 0, .int .u8 0, .int .u8 0, .int .u8 0, .int .u8 0, .int .u8 0, .int .u8 0, .int .u8 0, .int .u8 0, .int .u8 0, .int .u8 0, .int .u8 0, .int .u8 0, .int .u8 0, .string { data := #[] }, .slice .none 0 0, .slice .none 0 0, .slice .none 0 0, .slice .none 0 0] 28)).drew.rangeAt (H + 1) 0 (Lib.byteCells p.h ++ [.string p.nm, (.slice ta p.ts.length tc), (.slice pa p.ps.length pc), (.slice oa p.rs.length oc), (.slice ma p.mo.length mc)]) := HZ.out.2.2.1.rangeAll
          refine hK.out _ _ hS (fun hHeld => ?_)
          clear hK K hS HPI
          generalize (wr.alloc (Obj.cells #[.int .u8 0, .int .u8 0, .int .u8 0, .int .u8 0, .int .u8 0, .int .u8 0, .int .u8 0, .int .u8 0, .int .u8 0, .int .u8 0, .int .u8 0, .int .u8 0, .int .u8 0, .int .u8 0, .int .u8 0, .int .u8 0, .int .u8 0, .int .u8 0, .int .u8 0, .int .u8 0, .int .u8 0, .int .u8 0, .int .u8 0, .int .u8 0, .int .u8 0, .int .u8 0, .int .u8 0, .int .u8 0, .int .u8 0, .int .u8 0, .int .u8 0, .int .u8 0, .string { data := #[] }, .slice .none 0 0, .slice .none 0 0, .slice .none 0 0, .slice .none 0 0] 28)).drew = wz at *
          generalize wr.heap.size = da at *
          refine wpAnyH_ready (rs := [7]) (by kernel_rfl) (by simp) ?_
          refine AllReadyH.cons (o := _) rfl (fun K hK => ?_) AllReadyH.nil
          go_simp
          refine (HCALL.out (fun g => g = H ∨ g = H + 1 ∨ g = da) wz HZ.out.2.2.2.2.1 (by have := HZ.out.2.1.lt; omega) (fun g hg => hg.elim (fun e => by subst e; exact ⟨HZ.out.2.1.lt, HZ.out.2.2.2.2.2.1⟩) (fun e => e.elim (fun e => by subst e; exact ⟨HZ.out.2.2.1.lt, HZ.out.2.2.2.2.2.2.1⟩) (fun e => by subst e; exact ⟨HZ.out.2.2.2.1.lt, HZ.out.2.2.2.2.2.2.2.1⟩)))).mono ?_
          rintro e u ⟨t3, p3, o3, m3, rfl, hlo, hb, hk⟩
          obtain ⟨x0, z0, rfl⟩ := ownForm hlo.o1
          obtain ⟨x1, z1, rfl⟩ := ownForm hlo.o2
          obtain ⟨x2, z2, rfl⟩ := ownForm hlo.o3
          obtain ⟨x3, z3, rfl⟩ := ownForm hlo.o4
          have U1 : Hid (Below H w u ∧ LB u H (List.replicate 32 (0 : UInt8)) ⟨#[]⟩ (.slice none 0 0) (.slice none 0 0) (.slice none 0 0) (.slice none 0 0) ∧ LB u (H + 1) p.h p.nm (.slice ta p.ts.length tc) (.slice pa p.ps.length pc) (.slice oa p.rs.length oc) (.slice ma p.mo.length mc) ∧ LB u da (List.replicate 32 (0 : UInt8)) ⟨#[]⟩ (.slice none 0 0) (.slice none 0 0) (.slice none 0 0) (.slice none 0 0) ∧ LO H u r1 (.slice x0 r1.ts.length z0) (.slice x1 r1.ps.length z1) (.slice x2 r1.rs.length z2) (.slice x3 r1.mo.length z3) ∧ NoB H (.slice x0 r1.ts.length z0) (.slice x1 r1.ps.length z1) (.slice x2 r1.rs.length z2) (.slice x3 r1.mo.length z3) ∧ NoB (H + 1) (.slice x0 r1.ts.length z0) (.slice x1 r1.ps.length z1) (.slice x2 r1.rs.length z2) (.slice x3 r1.mo.length z3) ∧ NoB da (.slice x0 r1.ts.length z0) (.slice x1 r1.ps.length z1) (.slice x2 r1.rs.length z2) (.slice x3 r1.mo.length z3) ∧ H + 1 < da) := ⟨HZ.out.1.trans hb, HZ.out.2.1.keep (hk _ (.inl rfl)).1, HZ.out.2.2.1.keep (hk _ (.inr (.inl rfl))).1, HZ.out.2.2.2.1.keep (hk _ (.inr (.inr rfl))).1, hlo, (hk _ (.inl rfl)).2, (hk _ (.inr (.inl rfl))).2, (hk _ (.inr (.inr rfl))).2, HZ.out.2.2.2.2.2.2.2.2⟩
          have hS : u.rangeAt (H + 1) 0 (Lib.byteCells p.h ++ [.string p.nm, (.slice ta p.ts.length tc), (.slice pa p.ps.length pc), (.slice oa p.rs.length oc), (.slice ma p.mo.length mc)]) := U1.out.2.2.1.rangeAll
          clear hlo hb hk HCALL HZ
          go_wp2_with fail
          refine hK.out _ _ hS (fun hHeld => ?_)
          clear hK K hS
          refine wpAnyH_take (i := 8) (v := .tuple #[.agg (lkC r1.h r1.nm (.slice x0 r1.ts.length z0) (.slice x1 r1.ps.length z1) (.slice x2 r1.rs.length z2) (.slice x3 r1.mo.length z3)), .string k2, .int .i64 pl, .int .i64 er]) rfl (by kernel_rfl) (by kernel_rfl) (by kernel_rfl) (fun _ _ _ h => h) (Or.inl ⟨by rfl, fun w hw => by go_simp⟩) hHeld ?_
          simp only [Act.put, List.getElem_toArray, List.getElem_cons_zero, List.getElem_cons_succ, List.setIfInBounds_toArray, List.set_cons_zero, List.set_cons_succ]
          refine wpAnyH_take (i := 9) (v := .agg (lkC r1.h r1.nm (.slice x0 r1.ts.length z0) (.slice x1 r1.ps.length z1) (.slice x2 r1.rs.length z2) (.slice x3 r1.mo.length z3))) rfl (by kernel_rfl) (by kernel_rfl) (by kernel_rfl) (fun _ _ _ h => h) (Or.inl ⟨by rfl, fun w hw => by go_simp⟩) hHeld ?_
          simp only [Act.put, List.getElem_toArray, List.getElem_cons_zero, List.getElem_cons_succ, List.setIfInBounds_toArray, List.set_cons_zero, List.set_cons_succ]
          refine wpAnyH_take (i := 10) (v := .string k2) rfl (by kernel_rfl) (by kernel_rfl) (by kernel_rfl) (fun _ _ _ h => h) (Or.inl ⟨by rfl, fun w hw => by go_simp⟩) hHeld ?_
          simp only [Act.put, List.getElem_toArray, List.getElem_cons_zero, List.getElem_cons_succ, List.setIfInBounds_toArray, List.set_cons_zero, List.set_cons_succ]
          refine wpAnyH_take (i := 11) (v := .int .i64 pl) rfl (by kernel_rfl) (by kernel_rfl) (by kernel_rfl) (fun _ _ _ h => h) (Or.inl ⟨by rfl, fun w hw => by go_simp⟩) hHeld ?_
          simp only [Act.put, List.getElem_toArray, List.getElem_cons_zero, List.getElem_cons_succ, List.setIfInBounds_toArray, List.set_cons_zero, List.set_cons_succ]
          refine wpAnyH_take (i := 12) (v := .int .i64 er) rfl (by kernel_rfl) (by kernel_rfl) (by kernel_rfl) (fun _ _ _ h => h) (Or.inl ⟨by rfl, fun w hw => by go_simp⟩) hHeld ?_
          simp only [Act.put, List.getElem_toArray, List.getElem_cons_zero, List.getElem_cons_succ, List.setIfInBounds_toArray, List.set_cons_zero, List.set_cons_succ]
          have HPN : Hid (PN H da w (u.setRow da (lkC r1.h r1.nm (.slice x0 r1.ts.length z0) (.slice x1 r1.ps.length z1) (.slice x2 r1.rs.length z2) (.slice x3 r1.mo.length z3))) p r1 (.slice ta p.ts.length tc) (.slice pa p.ps.length pc) (.slice oa p.rs.length oc) (.slice ma p.mo.length mc) (.slice x0 r1.ts.length z0) (.slice x1 r1.ps.length z1) (.slice x2 r1.rs.length z2) (.slice x3 r1.mo.length z3)) := pn_of U1.out.1 U1.out.2.1 U1.out.2.2.1 U1.out.2.2.2.1 U1.out.2.2.2.2.1 U1.out.2.2.2.2.2.1 U1.out.2.2.2.2.2.2.1 U1.out.2.2.2.2.2.2.2.1 U1.out.2.2.2.2.2.2.2.2
          have AD : LB u da (List.replicate 32 (0 : UInt8)) ⟨#[]⟩ (.slice none 0 0) (.slice none 0 0) (.slice none 0 0) (.slice none 0 0) := U1.out.2.2.2.1
          have hS : (u.setRow da (lkC r1.h r1.nm (.slice x0 r1.ts.length z0) (.slice x1 r1.ps.length z1) (.slice x2 r1.rs.length z2) (.slice x3 r1.mo.length z3))).rangeAt (H + 1) 0 (Lib.byteCells p.h ++ [.string p.nm, (.slice ta p.ts.length tc), (.slice pa p.ps.length pc), (.slice oa p.rs.length oc), (.slice ma p.mo.length mc)]) := HPN.out.2.2.1.rangeAll
          refine wpAnyH_ready (rs := [14]) (by kernel_rfl) (by simp) ?_
          refine AllReadyH.cons (o := _) rfl (fun K hK => ?_) AllReadyH.nil
          rw [if_pos (by rfl)]
          refine wp_store_row 28 _ _ rfl da (lkC r1.h r1.nm (.slice x0 r1.ts.length z0) (.slice x1 r1.ps.length z1) (.slice x2 r1.rs.length z2) (.slice x3 r1.mo.length z3)) rfl rfl 28 _ AD (infoLk hr2) (by rw [lkC_size hr2, lkC_size (by simp)]) lkC_one ?_
          simp only [Act.put, List.getElem_toArray, List.getElem_cons_zero, List.getElem_cons_succ]
          refine hK.out _ _ hS (fun hHeld => ?_)
          clear hK K hS AD U1
          refine wpAnyH_take (i := 15) (v := .string k2) rfl (by kernel_rfl) (by kernel_rfl) (by kernel_rfl) (fun _ _ _ h => h) (Or.inl ⟨by rfl, fun w hw => by go_simp⟩) hHeld ?_
          simp only [Act.put, List.getElem_toArray, List.getElem_cons_zero, List.getElem_cons_succ, List.setIfInBounds_toArray, List.set_cons_zero, List.set_cons_succ]
          refine wpAnyH_take (i := 16) (v := .int .i64 pl) rfl (by kernel_rfl) (by kernel_rfl) (by kernel_rfl) (fun _ _ _ h => h) (Or.inl ⟨by rfl, fun w hw => by go_simp⟩) hHeld ?_
          simp only [Act.put, List.getElem_toArray, List.getElem_cons_zero, List.getElem_cons_succ, List.setIfInBounds_toArray, List.set_cons_zero, List.set_cons_succ]
          refine wpAnyH_take (i := 17) (v := .int .i64 er) rfl (by kernel_rfl) (by kernel_rfl) (by kernel_rfl) (fun _ _ _ h => h) (Or.inl ⟨by rfl, fun w hw => by go_simp⟩) hHeld ?_
          simp only [Act.put, List.getElem_toArray, List.getElem_cons_zero, List.getElem_cons_succ, List.setIfInBounds_toArray, List.set_cons_zero, List.set_cons_succ]
          refine wpAnyH_done (by kernel_rfl) ?_ _
          clear hHeld
          generalize (u.setRow da (lkC r1.h r1.nm (.slice x0 r1.ts.length z0) (.slice x1 r1.ps.length z1) (.slice x2 r1.rs.length z2) (.slice x3 r1.mo.length z3))) = w3 at *
          have hZer := HPN.out.2.1
          by_cases her : er = 0
          · have HH : Hid (∃ p t2 p2 o2 m2 f, PI H w (w3.setRow (H + 1) (lkC r1.h r1.nm (.slice x0 r1.ts.length z0) (.slice x1 r1.ps.length z1) (.slice x2 r1.rs.length z2) (.slice x3 r1.mo.length z3))) p t2 p2 o2 m2 ∧ p.h.length = 32 ∧ (p.ts.length ≤ (n + 1) ∧ p.ps.length ≤ (n + 1) ∧ p.mo.length ≤ (n + 1)) ∧ s.size + 1 - (i + 1) < f ∧ q = prG s f p (n + 1) k2 (i + 1) (i + 1)) := by
              have h9 := HQ3.out
              rw [if_neg (fun h => h her)] at h9
              exact (⟨r1, _, _, _, _, g, HPN.out.step, hr2, HLR.out, by have := HG.out; omega, h9⟩ : ∃ p t2 p2 o2 m2 f, PI H w (w3.setRow (H + 1) (lkC r1.h r1.nm (.slice x0 r1.ts.length z0) (.slice x1 r1.ps.length z1) (.slice x2 r1.rs.length z2) (.slice x3 r1.mo.length z3))) p t2 p2 o2 m2 ∧ p.h.length = 32 ∧ (p.ts.length ≤ n + 1 ∧ p.ps.length ≤ n + 1 ∧ p.mo.length ≤ n + 1) ∧ s.size + 1 - (i + 1) < f ∧ q = prG s f p (n + 1) k2 (i + 1) (i + 1))
            have hRow := HPN.out.2.2.2.1
            have hOld := HPN.out.2.2.1
            clear HQ3 HPN HLR HG
            subst her
            go_wp2_with (first | (refine wpList_store_row rfl 28 _ _ rfl (H + 1) (lkC r1.h r1.nm (.slice x0 r1.ts.length z0) (.slice x1 r1.ps.length z1) (.slice x2 r1.rs.length z2) (.slice x3 r1.mo.length z3)) rfl rfl 28 _ hOld (infoLk hr2) (by rw [lkC_size hr2, lkC_size hp]) lkC_one ?_) | (refine wpList_load_row rfl 28 _ rfl da rfl 28 (lkC r1.h r1.nm (.slice x0 r1.ts.length z0) (.slice x1 r1.ps.length z1) (.slice x2 r1.rs.length z2) (.slice x3 r1.mo.length z3)) (0, 0) _ hRow Tryd.underlying28 rfl (infoLk hr2) ?_))
            go_roundw
            case rel => exact ⟨i + 1, i + 1, n + 1, k2, by omega, by omega, by omega, rfl, by go_num, by go_num, by go_num, HH⟩
            case measure => simp [intOf]; omega
          · have HE : Hid (q = (zP, (fr : Int) + pl, er)) := by have h9 := HQ3.out; rw [if_pos her] at h9; exact h9
            have HB3 : Hid (Below H w w3) := HPN.out.1
            clear HQ3 HPN HLR HG
            go_wp2_with (refine wpList_store_row rfl 28 _ _ rfl H (lkC (List.replicate 32 (0 : UInt8)) ⟨#[]⟩ (.slice none 0 0) (.slice none 0 0) (.slice none 0 0) (.slice none 0 0)) rfl rfl 28 _ hZer (infoLk (by simp)) rfl lkC_one ?_)
            exact bodyPost_ret (results_c2 Tryd.results5 _ _ H 28 _ (0, 0) _ rfl (setRow_heap w3 H _ _ _ _ hZer) rfl Tryd.underlying28 (infoLk (by simp))) rfl (rp_zero HS.out HE.out (below_setRow HB3.out (Nat.le_refl _) _))
end Go.Proofs.YtmfbhihjiebagaaDoor
