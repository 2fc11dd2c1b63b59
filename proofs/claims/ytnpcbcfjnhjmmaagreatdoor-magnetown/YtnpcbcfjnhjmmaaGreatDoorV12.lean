import Derived.Test.YtnpcbcfjnhjmmaaGreatDoorV11
import Derived.Deep.RegionHeld3
namespace Go.Proofs.YtnpcbcfjnhjmmaaGreatDoor
open Go.Shelf Go.RowKit Go.Deep
theorem jn_len (p : Ps) (key value : ByteArray) : (jn p key value).1.ts.length ≤ p.ts.length + 1 ∧ (jn p key value).1.ps.length ≤ p.ps.length + 1 ∧ (jn p key value).1.mo.length ≤ p.mo.length + 1 := by
  unfold jn jnV
  repeat' split
  all_goals simp
theorem ptR_len (p : Ps) (i : Nat) (ahead s : ByteArray) (hp : p.h.length = 32) : (ptR p i ahead s).1.ts.length ≤ p.ts.length + 1 ∧ (ptR p i ahead s).1.ps.length ≤ p.ps.length + 1 ∧ (ptR p i ahead s).1.mo.length ≤ p.mo.length + 1 ∧ (ptR p i ahead s).1.h.length = 32 := by
  unfold ptR pt3
  repeat' split
  all_goals first | exact ⟨Nat.le_succ _, Nat.le_succ _, Nat.le_succ _, hp⟩ | exact ⟨Nat.le_succ _, Nat.le_succ _, Nat.le_succ _, fsH_len _⟩ | exact ⟨(jn_len p _ _).1, (jn_len p _ _).2.1, (jn_len p _ _).2.2, by rw [jn_h]; exact hp⟩
theorem pt3_at (p : Ps) (i : Nat) (ahead key value : ByteArray) : (pt3 p i ahead key value).2.2.1 = 0 := by
  unfold pt3
  repeat' split
  all_goals rfl
theorem ptR_at (p : Ps) (i : Nat) (ahead s : ByteArray) (hs : s.size ≤ 4096) : 0 ≤ (ptR p i ahead s).2.2.1 ∧ (ptR p i ahead s).2.2.1 ≤ 8194 := by
  have e8 := Lib.size_eq s
  have g1 := Lib.indexByte_ge s.data.toList 61
  have g2 : (Lib.indexByte s.data.toList 61).toNat ≤ 4096 := by
    by_cases h : Lib.indexByte s.data.toList 61 < 1
    · omega
    · have h9 := (Lib.indexByte_some (l := s.data.toList) (c := 61) (o := (Lib.indexByte s.data.toList 61).toNat) (by omega)).1
      have := (List.getElem?_eq_some_iff.1 h9).1
      omega
  unfold ptR
  split
  · exact ⟨by show (0 : Int) ≤ 0; omega, by show (0 : Int) ≤ 8194; omega⟩
  split
  · rename_i h
    have h9 := (uneL_len (s.data.toList.take (Lib.indexByte s.data.toList 61).toNat)).2
    rw [List.length_take] at h9
    exact ⟨h, by show (uneL _).2 ≤ _; omega⟩
  split
  · rename_i h
    have h9 := (uneL_len (s.data.toList.drop ((Lib.indexByte s.data.toList 61).toNat + 1))).2
    rw [List.length_drop] at h9
    constructor
    · show (0 : Int) ≤ (((Lib.indexByte s.data.toList 61).toNat + 1 : Nat) : Int) + (uneL _).2; omega
    · show (((Lib.indexByte s.data.toList 61).toNat + 1 : Nat) : Int) + (uneL _).2 ≤ _; omega
  · rw [pt3_at]; omega
def zP : Ps := ⟨List.replicate 32 0, ⟨#[]⟩, [], [], [], []⟩
/-- the parts of a link, one after another -/
def prG (s : ByteArray) : Nat → Ps → Nat → ByteArray → Nat → Nat → Ps × Int × Int
  | 0, p, _, _, _, _ => (p, 0, 0)
  | f + 1, p, n, ah, fr, i =>
    if s.size < i then (p, 0, 0)
    else if i < s.size ∧ s.data.toList.getD i 0 ≠ 38 then prG s f p n ah fr (i + 1)
    else if (ptR p n ah (s.extract fr i)).2.2.2 ≠ 0 then (zP, (fr : Int) + (ptR p n ah (s.extract fr i)).2.2.1, (ptR p n ah (s.extract fr i)).2.2.2)
    else prG s f (ptR p n ah (s.extract fr i)).1 (n + 1) (ptR p n ah (s.extract fr i)).2.1 (i + 1) (i + 1)
/-- what the reference reads out of a link's text -/
def prR (s : ByteArray) : Ps × Int × Int :=
  if 4096 < s.size then (zP, 0, 221)
  else if Lib.hasPrefix s.data.toList [109, 97, 103, 110, 101, 116, 58, 63] = false then (zP, 0, 220)
  else prG s (s.size + 2) zP 0 ⟨#[]⟩ 8 8
def RP (B : Nat) (w : World) (q : Ps × Int × Int) (e : Ending) (w' : World) : Prop := ∃ t2 p2 o2 m2, e = .returned (.tuple #[.agg (lkC q.1.h q.1.nm t2 p2 o2 m2), .int .i64 q.2.1, .int .i64 q.2.2]) ∧ LO B w' q.1 t2 p2 o2 m2 ∧ Below B w w'
theorem rp_of {B : Nat} {w w' : World} {q : Ps × Int × Int} {p' : Ps} {pl er : Int} {t2 p2 o2 m2 : Value} {H : Nat} (hH : B = H) (hq : q = (p', pl, er)) (h : LO H w' p' t2 p2 o2 m2 ∧ Below H w w') : RP B w q (.returned (.tuple #[.agg (lkC p'.h p'.nm t2 p2 o2 m2), .int .i64 pl, .int .i64 er])) w' := by
  subst hH; subst hq; exact ⟨t2, p2, o2, m2, rfl, h.1, h.2⟩
theorem rp_zero {B : Nat} {w w' : World} {q : Ps × Int × Int} {pl er : Int} {H : Nat} (hH : B = H) (hq : q = (zP, pl, er)) (h : Below H w w') : RP B w q (.returned (.tuple #[.agg (lkC (List.replicate 32 (0 : UInt8)) ⟨#[]⟩ (.slice none 0 0) (.slice none 0 0) (.slice none 0 0) (.slice none 0 0)), .int .i64 pl, .int .i64 er])) w' := rp_of hH hq ⟨LO.nil _ _ _, h⟩
theorem results_c2 {fn : Func} {p q r : Tmp} {ty : TypeId} (h : fn.results = #[.cell p ty, .tmp q, .tmp r]) (tmps : Array Value) (w : World) (g : Nat) (t : TypeId) (cs : Array Value) (fr : Nat × Nat) (d : TypeDesc)
    (hp : tmps.getD p undef = .pointer (some ⟨g, 0, none⟩)) (hg : w.heap[g]? = some (.cells cs t fr)) (hd : d.isRow = true) (hu : Tryz.prog.underlying ty = some d) (hi : (Tryz.prog.info? ty).map (·.size) = some cs.size) :
    (results fn tmps).run Tryz.prog w = .ok (.tuple #[.agg cs, tmps.getD q undef, tmps.getD r undef]) w := by
  have hp' : tmps[p]?.getD undef = .pointer (some ⟨g, 0, none⟩) := by simpa using hp
  have hc : w.rangeAt g 0 cs.toList := fun j v hj => by
    rw [Nat.zero_add]
    simp only [World.cell?, hg]
    rw [Array.getElem?_toList] at hj
    rw [hj]; rfl
  have h9 := run_loadVar_mid (P := Tryz.prog) w g 0 ty cs.toList d hc hu hd (by simpa using hi)
  simp [results, h, hp', asAddr, h9]
/-- the block of the answer, the link so far -/
def PI (H : Nat) (w wr : World) (p : Ps) (t2 p2 o2 m2 : Value) : Prop := Below H w wr ∧ LB wr H (List.replicate 32 (0 : UInt8)) ⟨#[]⟩ (.slice none 0 0) (.slice none 0 0) (.slice none 0 0) (.slice none 0 0) ∧ LB wr (H + 1) p.h p.nm t2 p2 o2 m2 ∧ LO H wr p t2 p2 o2 m2 ∧ NoB H t2 p2 o2 m2 ∧ NoB (H + 1) t2 p2 o2 m2
/-- the same with the next link in a block of its own -/
def PN (H da : Nat) (w wr : World) (p r : Ps) (t2 p2 o2 m2 t3 p3 o3 m3 : Value) : Prop := Below H w wr ∧ LB wr H (List.replicate 32 (0 : UInt8)) ⟨#[]⟩ (.slice none 0 0) (.slice none 0 0) (.slice none 0 0) (.slice none 0 0) ∧ LB wr (H + 1) p.h p.nm t2 p2 o2 m2 ∧ LB wr da r.h r.nm t3 p3 o3 m3 ∧ LO H wr r t3 p3 o3 m3 ∧ NoB H t3 p3 o3 m3 ∧ NoB (H + 1) t3 p3 o3 m3
theorem pn_of {H da : Nat} {w u : World} {p r : Ps} {t2 p2 o2 m2 t3 p3 o3 m3 : Value} (hb : Below H w u) (h1 : LB u H (List.replicate 32 (0 : UInt8)) ⟨#[]⟩ (.slice none 0 0) (.slice none 0 0) (.slice none 0 0) (.slice none 0 0)) (h2 : LB u (H + 1) p.h p.nm t2 p2 o2 m2) (h3 : LB u da (List.replicate 32 (0 : UInt8)) ⟨#[]⟩ (.slice none 0 0) (.slice none 0 0) (.slice none 0 0) (.slice none 0 0)) (h4 : LO H u r t3 p3 o3 m3) (h5 : NoB H t3 p3 o3 m3) (h6 : NoB (H + 1) t3 p3 o3 m3) (h7 : NoB da t3 p3 o3 m3) (h8 : H + 1 < da) : PN H da w (u.setRow da (lkC r.h r.nm t3 p3 o3 m3)) p r t2 p2 o2 m2 t3 p3 o3 m3 :=
  ⟨below_setRow hb (by omega) _, h1.keep (setRow_other _ _ _ _ (by omega)), h2.keep (setRow_other _ _ _ _ (by omega)), setRow_heap u da _ _ _ _ h3, h4.keep fun _ hn => setRow_other _ _ _ _ (fun e => hn (e ▸ h7)), h5, h6⟩
theorem PN.step {H da : Nat} {w wr : World} {p r : Ps} {t2 p2 o2 m2 t3 p3 o3 m3 : Value} (h : PN H da w wr p r t2 p2 o2 m2 t3 p3 o3 m3) : PI H w (wr.setRow (H + 1) (lkC r.h r.nm t3 p3 o3 m3)) r t3 p3 o3 m3 := by
  obtain ⟨h1, h2, h3, h4, h5, h6, h7⟩ := h
  exact ⟨below_setRow h1 (by omega) _, h2.keep (setRow_other _ _ _ _ (by omega)), setRow_heap wr (H + 1) _ _ _ _ h3, h5.keep fun _ hn => setRow_other _ _ _ _ (fun e => hn (e ▸ h7)), h6, h7⟩
theorem PI.fin {H : Nat} {w wr : World} {p : Ps} {t2 p2 o2 m2 : Value} (h : PI H w wr p t2 p2 o2 m2) (cs : Array Value) : LO H (wr.setRow H cs) p t2 p2 o2 m2 ∧ Below H w (wr.setRow H cs) :=
  ⟨h.2.2.2.1.keep fun _ hn => setRow_other _ _ _ _ (fun e => hn (e ▸ h.2.2.2.2.1)), below_setRow h.1 (Nat.le_refl _) _⟩
theorem LB.rangeAll {w : World} {b : Nat} {l : List UInt8} {nm : ByteArray} {tr pe on mo : Value} (h0 : LB w b l nm tr pe on mo) : w.rangeAt b 0 (Lib.byteCells l ++ [.string nm, tr, pe, on, mo]) := fun j v hj => by
  have h : w.heap[b]? = some (.cells (lkC l nm tr pe on mo) 28 (0, 0)) := h0
  rw [Nat.zero_add]
  simp only [World.cell?, h]
  unfold lkC
  simp only [List.getElem?_toArray]
  rw [hj]; rfl
end Go.Proofs.YtnpcbcfjnhjmmaaGreatDoor
namespace Go.Proofs.YtnpcbcfjnhjmmaaGreatDoor
open Go.Shelf Go.RowKit Go.Deep
set_option maxHeartbeats 1000000 in
theorem hasPrefix28 (s p : ByteArray) (w : World) : Calls Tryz.prog 58 #[.string s, .string p] w fun e w' => e = .returned (.bool (Lib.hasPrefix s.data.toList p.data.toList)) ∧ w' = w := by
  rw [← Lib.hasPrefix_of_take, ← Lib.size_eq, ← Lib.size_eq]
  by_cases h : p.size ≤ s.size
  · have hsl : ∀ w : World, (Instr.slice 9 (.string s) none (some (.int .i64 (p.size : Int))) none).run Tryz.prog w = .ok (.string (s.extract 0 p.size)) w := fun w => by
      simp [go_sem, Tryz.underlying9]; omega
    have HR : Hid (((s.extract 0 p.size).toList == p.toList) = (decide (p.size ≤ s.size) && (s.data.toList.take p.size == p.data.toList))) := by
      have h9 : ((s.extract 0 p.size).toList == p.toList) = (decide (p.size ≤ s.size) && (s.data.toList.take p.size == p.data.toList)) := by
        rw [Lib.extract_toList, Lib.toList_data, decide_eq_true h, Bool.true_and]; simp
      exact h9
    have h2 : (p.size : Int) ≤ (s.size : Int) := by omega
    generalize (decide (p.size ≤ s.size) && (s.data.toList.take p.size == p.data.toList)) = r at *
    generalize s.extract 0 p.size = t at *
    clear h
    go_enter Tryz.func58, Tryz.ntmps58
    go_wp2
    go_ret
    exact ⟨ret_b HR.out, rfl⟩
  · have HR : Hid (false = (decide (p.size ≤ s.size) && (s.data.toList.take p.size == p.data.toList))) := by
      have h9 : (decide (p.size ≤ s.size) && (s.data.toList.take p.size == p.data.toList)) = false := by rw [decide_eq_false h, Bool.false_and]
      exact h9.symm
    generalize (decide (p.size ≤ s.size) && (s.data.toList.take p.size == p.data.toList)) = r at *
    have h2 : ¬ (p.size : Int) ≤ (s.size : Int) := by omega
    clear h
    go_enter Tryz.func58, Tryz.ntmps58
    go_wp2
    go_ret
    exact ⟨ret_b HR.out, rfl⟩
theorem hasPrefix34 (s p : ByteArray) (w : World) : Calls Tryz.prog 63 #[.string s, .string p] w fun e w' => e = .returned (.bool (Lib.hasPrefix s.data.toList p.data.toList)) ∧ w' = w := by
  have HC : Hid (∀ w, Calls Tryz.prog 58 #[.string s, .string p] w fun e w' => e = .returned (.bool (Lib.hasPrefix s.data.toList p.data.toList)) ∧ w' = w) := fun w => hasPrefix28 s p w
  generalize Lib.hasPrefix s.data.toList p.data.toList = r at *
  go_enter Tryz.func63, Tryz.ntmps63
  go_wp2_with fail
  refine (HC.out w).mono ?_
  rintro e w1 ⟨rfl, rfl⟩
  go_wp2
  go_ret
  exact ⟨rfl, rfl⟩
/-- a text without its beginning -/
def cpB (s p : ByteArray) : ByteArray := if Lib.hasPrefix s.data.toList p.data.toList = true then s.extract p.size s.size else s
theorem ret_sb {a b : ByteArray} {m n : Bool} (h1 : a = b) (h2 : m = n) : Ending.returned (.tuple #[.string a, .bool m]) = .returned (.tuple #[.string b, .bool n]) := by rw [h1, h2]
theorem hp_size {s p : ByteArray} (h : Lib.hasPrefix s.data.toList p.data.toList = true) : p.size ≤ s.size := by
  rw [← Lib.hasPrefix_of_take] at h
  rw [Lib.size_eq, Lib.size_eq]
  simp at h
  exact h.1
theorem cutPrefix14 (s p : ByteArray) (w : World) : Calls Tryz.prog 34 #[.string s, .string p] w fun e w' => e = .returned (.tuple #[.string (cpB s p), .bool (Lib.hasPrefix s.data.toList p.data.toList)]) ∧ w' = w := by
  have HC : Hid (∀ w, Calls Tryz.prog 58 #[.string s, .string p] w fun e w' => e = .returned (.bool (Lib.hasPrefix s.data.toList p.data.toList)) ∧ w' = w) := fun w => hasPrefix28 s p w
  have HD : Hid (cpB s p = if Lib.hasPrefix s.data.toList p.data.toList = true then s.extract p.size s.size else s) := rfl
  have HZ : Hid (Lib.hasPrefix s.data.toList p.data.toList = true → p.size ≤ s.size) := hp_size
  generalize Lib.hasPrefix s.data.toList p.data.toList = r at *
  generalize cpB s p = c at *
  go_enter Tryz.func34, Tryz.ntmps34
  go_wp2_with fail
  refine (HC.out w).mono ?_
  rintro e w1 ⟨rfl, rfl⟩
  cases r with
  | false =>
    have HE : Hid (s = c) := by have h9 := HD.out; rw [if_neg (by decide)] at h9; exact h9.symm
    go_wp2
    go_ret2
    exact ⟨ret_sb HE.out rfl, rfl⟩
  | true =>
    have h1 : p.size ≤ s.size := HZ.out rfl
    have HE : Hid (s.extract p.size s.size = c) := by have h9 := HD.out; rw [if_pos rfl] at h9; exact h9.symm
    have hsl : ∀ w : World, (Instr.slice 9 (.string s) (some (.int .i64 (p.size : Int))) none none).run Tryz.prog w = .ok (.string (s.extract p.size s.size)) w := fun w => by
      have hh := Lib.size_eq s
      simp [go_sem, Tryz.underlying9]; omega
    go_wp2
    go_ret2
    exact ⟨ret_sb HE.out rfl, rfl⟩
theorem cutPrefix7 (s p : ByteArray) (w : World) : Calls Tryz.prog 21 #[.string s, .string p] w fun e w' => e = .returned (.tuple #[.string (cpB s p), .bool (Lib.hasPrefix s.data.toList p.data.toList)]) ∧ w' = w := by
  have HC : Hid (∀ w, Calls Tryz.prog 34 #[.string s, .string p] w fun e w' => e = .returned (.tuple #[.string (cpB s p), .bool (Lib.hasPrefix s.data.toList p.data.toList)]) ∧ w' = w) := fun w => cutPrefix14 s p w
  generalize Lib.hasPrefix s.data.toList p.data.toList = r at *
  generalize cpB s p = c at *
  go_enter Tryz.func21, Tryz.ntmps21
  go_wp2_with fail
  refine (HC.out w).mono ?_
  rintro e w1 ⟨rfl, rfl⟩
  go_wp2
  go_ret2
  exact ⟨rfl, rfl⟩
theorem ret_str {a b : ByteArray} (h : a = b) : Ending.returned (.string a) = .returned (.string b) := by rw [h]
/-- the key of the last pair -/
def lkey (l : List (ByteArray × ByteArray)) : ByteArray := ((l.getLast?).map (·.1)).getD ⟨#[]⟩
theorem moC_get : ∀ (l : List (ByteArray × ByteArray)) (i : Nat) (x : ByteArray × ByteArray), l[i]? = some x → (moC l)[i * 6]? = some (.string x.1)
  | [], i, x, h => by simp at h
  | y :: l, 0, x, h => by simp at h; subst h; simp [moC]
  | y :: l, i + 1, x, h => by
    have h1 : l[i]? = some x := by simpa using h
    have h2 := moC_get l i x h1
    show (([.string y.1, .int .i64 2, .int .i64 0, .string y.2, .slice none 0 0, .slice none 0 0] : List Value) ++ moC l)[(i + 1) * 6]? = _
    rw [List.getElem?_append_right (by simp; omega)]
    have e : (i + 1) * 6 - ([.string y.1, .int .i64 2, .int .i64 0, .string y.2, .slice none 0 0, .slice none 0 0] : List Value).length = i * 6 := by simp; omega
    rw [e]; exact h2
theorem pairs_of {w : World} {B : Nat} {v : Value} {l : List (ByteArray × ByteArray)} (h : OM B w v l) (hne : l.length ≠ 0) : ∃ g c, v = .slice (some ⟨g, 0, none⟩) l.length c ∧ ∀ i x, l[i]? = some x → w.cell? ⟨g, i * 6, none⟩ = some (.string x.1) := by
  rcases h.2 with ⟨rfl, h0⟩ | ⟨g, cap, cur, rfl, hB, hg, _, _, hsz, hx⟩
  · exact absurd h0 hne
  · refine ⟨g, _, rfl, fun i x hi => ?_⟩
    have hlt := (List.getElem?_eq_some_iff.1 hi).1
    have h2 := moC_get l i x hi
    rw [← hx, List.getElem?_take_of_lt (by omega)] at h2
    simp only [Array.getElem?_toList] at h2
    simp only [World.cell?, hg]; simpa using h2
set_option maxHeartbeats 1000000 in
theorem lastKey36 (B b : Nat) (v : Value) (l : List (ByteArray × ByteArray)) (w : World) (hc : w.cell? ⟨b, 36, none⟩ = some v) (ho : OM B w v l) (hl : l.length ≤ 4096) :
    Calls Tryz.prog 65 #[.pointer (some ⟨b, 0, none⟩)] w fun e w' => e = .returned (.string (lkey l)) ∧ Below w.heap.size w w' := by
  by_cases hne : l.length = 0
  · obtain ⟨ma, mc, rfl⟩ := ownForm ho
    have hnil : l = [] := List.length_eq_zero_iff.1 hne
    subst hnil
    clear ho
    simp only [List.length_nil] at hc
    go_enter Tryz.func65, Tryz.ntmps65
    go_wp2
    go_ret
    exact ⟨rfl, Below.refl _ _⟩
  · obtain ⟨g, c, rfl, hcell⟩ := pairs_of ho hne
    obtain ⟨m, hm⟩ : ∃ m, l.length = m + 1 := ⟨l.length - 1, by omega⟩
    obtain ⟨x, hx⟩ : ∃ x, l[m]? = some x := ⟨_, List.getElem?_eq_getElem (by omega)⟩
    have hk := hcell m x hx
    have HR : Hid (x.1 = lkey l) := by
      have h9 : l.getLast? = some x := by rw [List.getLast?_eq_getElem?, hm]; exact hx
      have h8 : x.1 = lkey l := by rw [lkey, h9]; rfl
      exact h8
    clear hcell ho hx hne
    rw [hm] at hc
    have hml : m ≤ 4095 := by omega
    have hwm : IntKind.i64.wrap (m : Int) = (m : Int) := by simp only [IntKind.wrap, IntKind.bits, IntKind.signed]; simp; omega
    clear hm hl
    go_enter Tryz.func65, Tryz.ntmps65
    go_wp2
    refine wp_region_held_drew (S := fun y => y.cell? ⟨b, 36, none⟩ = some (.slice (some ⟨g, 0, none⟩) (m + 1) c) ∧ y.cell? ⟨g, m * 6, none⟩ = some (.string x.1)) (by kernel_rfl) ((⟨hc, hk⟩ : w.drew.cell? ⟨b, 36, none⟩ = some (.slice (some ⟨g, 0, none⟩) (m + 1) c) ∧ w.drew.cell? ⟨g, m * 6, none⟩ = some (.string x.1))) (fun hHeld => ?_)
    refine wpAnyH_take (i := 0) (v := .pointer (some ⟨b, 0, none⟩)) rfl (by kernel_rfl) (by kernel_rfl) (by kernel_rfl) (fun _ _ _ h => h) (Or.inl ⟨by rfl, fun w hw => by go_simp⟩) hHeld ?_
    simp only [Act.put, List.getElem_toArray, List.getElem_cons_zero, List.setIfInBounds_toArray, List.set_cons_zero, List.set_cons_succ]
    refine wpAnyH_take (i := 1) (v := .pointer (some ⟨b, 0, none⟩)) rfl (by kernel_rfl) (by kernel_rfl) (by kernel_rfl) (fun _ _ _ h => h) (Or.inl ⟨by rfl, fun w hw => by go_simp⟩) hHeld ?_
    simp only [Act.put, List.getElem_toArray, List.getElem_cons_zero, List.getElem_cons_succ, List.setIfInBounds_toArray, List.set_cons_zero, List.set_cons_succ]
    refine wpAnyH_take (i := 2) (v := .pointer (some ⟨b, 0, none⟩)) rfl (by kernel_rfl) (by kernel_rfl) (by kernel_rfl) (fun _ _ _ h => h) (Or.inl ⟨by rfl, fun w hw => by go_simp⟩) hHeld ?_
    simp only [Act.put, List.getElem_toArray, List.getElem_cons_zero, List.getElem_cons_succ, List.setIfInBounds_toArray, List.set_cons_zero, List.set_cons_succ]
    refine wpAnyH_take (i := 3) (v := .pointer (some ⟨b, 36, none⟩)) rfl (by kernel_rfl) (by kernel_rfl) (by kernel_rfl) (fun _ _ _ h => h) (Or.inl ⟨by rfl, fun w hw => by go_simp⟩) hHeld ?_
    simp only [Act.put, List.getElem_toArray, List.getElem_cons_zero, List.getElem_cons_succ, List.setIfInBounds_toArray, List.set_cons_zero, List.set_cons_succ]
    refine wpAnyH_take (i := 4) (v := (.slice (some ⟨g, 0, none⟩) (m + 1) c)) rfl (by kernel_rfl) (by kernel_rfl) (by kernel_rfl) (fun _ _ _ h => h) (Or.inl ⟨by rfl, fun w hw => by obtain ⟨s36, sk⟩ := hw; go_simp⟩) hHeld ?_
    simp only [Act.put, List.getElem_toArray, List.getElem_cons_zero, List.getElem_cons_succ, List.setIfInBounds_toArray, List.set_cons_zero, List.set_cons_succ]
    refine wpAnyH_take (i := 5) (v := .pointer (some ⟨b, 0, none⟩)) rfl (by kernel_rfl) (by kernel_rfl) (by kernel_rfl) (fun _ _ _ h => h) (Or.inl ⟨by rfl, fun w hw => by go_simp⟩) hHeld ?_
    simp only [Act.put, List.getElem_toArray, List.getElem_cons_zero, List.getElem_cons_succ, List.setIfInBounds_toArray, List.set_cons_zero, List.set_cons_succ]
    refine wpAnyH_take (i := 6) (v := .pointer (some ⟨b, 0, none⟩)) rfl (by kernel_rfl) (by kernel_rfl) (by kernel_rfl) (fun _ _ _ h => h) (Or.inl ⟨by rfl, fun w hw => by go_simp⟩) hHeld ?_
    simp only [Act.put, List.getElem_toArray, List.getElem_cons_zero, List.getElem_cons_succ, List.setIfInBounds_toArray, List.set_cons_zero, List.set_cons_succ]
    refine wpAnyH_take (i := 7) (v := .pointer (some ⟨b, 0, none⟩)) rfl (by kernel_rfl) (by kernel_rfl) (by kernel_rfl) (fun _ _ _ h => h) (Or.inl ⟨by rfl, fun w hw => by go_simp⟩) hHeld ?_
    simp only [Act.put, List.getElem_toArray, List.getElem_cons_zero, List.getElem_cons_succ, List.setIfInBounds_toArray, List.set_cons_zero, List.set_cons_succ]
    refine wpAnyH_take (i := 8) (v := .pointer (some ⟨b, 36, none⟩)) rfl (by kernel_rfl) (by kernel_rfl) (by kernel_rfl) (fun _ _ _ h => h) (Or.inl ⟨by rfl, fun w hw => by go_simp⟩) hHeld ?_
    simp only [Act.put, List.getElem_toArray, List.getElem_cons_zero, List.getElem_cons_succ, List.setIfInBounds_toArray, List.set_cons_zero, List.set_cons_succ]
    refine wpAnyH_take (i := 9) (v := (.slice (some ⟨g, 0, none⟩) (m + 1) c)) rfl (by kernel_rfl) (by kernel_rfl) (by kernel_rfl) (fun _ _ _ h => h) (Or.inl ⟨by rfl, fun w hw => by obtain ⟨s36, sk⟩ := hw; go_simp⟩) hHeld ?_
    simp only [Act.put, List.getElem_toArray, List.getElem_cons_zero, List.getElem_cons_succ, List.setIfInBounds_toArray, List.set_cons_zero, List.set_cons_succ]
    refine wpAnyH_take (i := 10) (v := .int .i64 ((m : Int) + 1)) rfl (by kernel_rfl) (by kernel_rfl) (by kernel_rfl) (fun _ _ _ h => h) (Or.inl ⟨by rfl, fun w hw => by go_simp⟩) hHeld ?_
    simp only [Act.put, List.getElem_toArray, List.getElem_cons_zero, List.getElem_cons_succ, List.setIfInBounds_toArray, List.set_cons_zero, List.set_cons_succ]
    refine wpAnyH_take (i := 11) (v := .int .i64 (m : Int)) rfl (by kernel_rfl) (by kernel_rfl) (by kernel_rfl) (fun _ _ _ h => h) (Or.inl ⟨by rfl, fun w hw => by go_simp⟩) hHeld ?_
    simp only [Act.put, List.getElem_toArray, List.getElem_cons_zero, List.getElem_cons_succ, List.setIfInBounds_toArray, List.set_cons_zero, List.set_cons_succ]
    refine wpAnyH_take (i := 12) (v := .pointer (some ⟨g, m * 6, none⟩)) rfl (by kernel_rfl) (by kernel_rfl) (by kernel_rfl) (fun _ _ _ h => h) (Or.inl ⟨by rfl, fun w hw => by go_simp; intro h9; exact absurd h9 (by omega)⟩) hHeld ?_
    simp only [Act.put, List.getElem_toArray, List.getElem_cons_zero, List.getElem_cons_succ, List.setIfInBounds_toArray, List.set_cons_zero, List.set_cons_succ]
    refine wpAnyH_take (i := 13) (v := .pointer (some ⟨g, m * 6, none⟩)) rfl (by kernel_rfl) (by kernel_rfl) (by kernel_rfl) (fun _ _ _ h => h) (Or.inl ⟨by rfl, fun w hw => by go_simp⟩) hHeld ?_
    simp only [Act.put, List.getElem_toArray, List.getElem_cons_zero, List.getElem_cons_succ, List.setIfInBounds_toArray, List.set_cons_zero, List.set_cons_succ]
    refine wpAnyH_take (i := 14) (v := .string x.1) rfl (by kernel_rfl) (by kernel_rfl) (by kernel_rfl) (fun _ _ _ h => h) (Or.inl ⟨by rfl, fun w hw => by obtain ⟨s36, sk⟩ := hw; go_simp⟩) hHeld ?_
    simp only [Act.put, List.getElem_toArray, List.getElem_cons_zero, List.getElem_cons_succ, List.setIfInBounds_toArray, List.set_cons_zero, List.set_cons_succ]
    refine wpAnyH_take (i := 15) (v := .string x.1) rfl (by kernel_rfl) (by kernel_rfl) (by kernel_rfl) (fun _ _ _ h => h) (Or.inl ⟨by rfl, fun w hw => by go_simp⟩) hHeld ?_
    simp only [Act.put, List.getElem_toArray, List.getElem_cons_zero, List.getElem_cons_succ, List.setIfInBounds_toArray, List.set_cons_zero, List.set_cons_succ]
    refine wpAnyH_done (by kernel_rfl) ?_ _
    clear hHeld
    go_wp2
    go_ret
    exact ⟨ret_str HR.out, belowDrew1 w⟩
end Go.Proofs.YtnpcbcfjnhjmmaaGreatDoor
