import Derived.Test.YtmfbhihjiebagaaDoorHx
import Derived.Laws.CopyOwn
namespace Go.Proofs.YtmfbhihjiebagaaDoor
open Go.Shelf Go.RowKit Go.Deep
theorem results_ct {fn : Func} {p q : Tmp} {ty : TypeId} (h : fn.results = #[.cell p ty, .tmp q]) (tmps : Array Value) (w : World) (g : Nat) (t : TypeId) (cs : Array Value) (fr : Nat × Nat) (d : TypeDesc)
    (hp : tmps.getD p undef = .pointer (some ⟨g, 0, none⟩)) (hg : w.heap[g]? = some (.cells cs t fr)) (hd : d.isRow = true) (hu : Tryd.prog.underlying ty = some d) (hi : (Tryd.prog.info? ty).map (·.size) = some cs.size) :
    (results fn tmps).run Tryd.prog w = .ok (.tuple #[.agg cs, tmps.getD q undef]) w := by
  have hp' : tmps[p]?.getD undef = .pointer (some ⟨g, 0, none⟩) := by simpa using hp
  have hc : w.rangeAt g 0 cs.toList := fun j v hj => by
    rw [Nat.zero_add]
    simp only [World.cell?, hg]
    rw [Array.getElem?_toList] at hj
    rw [hj]; rfl
  have h9 := run_loadVar_mid (P := Tryd.prog) w g 0 ty cs.toList d hc hu hd (by simpa using hi)
  simp [results, h, hp', asAddr, h9]
/-- bytes out of numbers -/
def byL (xs : List Int) : List UInt8 := xs.map fun x => UInt8.ofNat x.toNat
/-- the infohash that the value of xt tells -/
def fstR (l : List UInt8) : Option (List UInt8) :=
  if l.length = 77 ∧ Lib.hasPrefix l [117, 114, 110, 58, 98, 116, 109, 104, 58, 49, 50, 50, 48] = true ∧ Hx.goodB ⟨(l.drop 13).toArray⟩ = true then some (byL (Hx.resL ⟨(l.drop 13).toArray⟩)) else none
def fsH (l : List UInt8) : List UInt8 := (fstR l).getD (List.replicate 32 0)
def fsE (l : List UInt8) : Int := if (fstR l).isSome then 0 else 223
theorem zhs : (#[.int .u8 0, .int .u8 0, .int .u8 0, .int .u8 0, .int .u8 0, .int .u8 0, .int .u8 0, .int .u8 0, .int .u8 0, .int .u8 0, .int .u8 0, .int .u8 0, .int .u8 0, .int .u8 0, .int .u8 0, .int .u8 0, .int .u8 0, .int .u8 0, .int .u8 0, .int .u8 0, .int .u8 0, .int .u8 0, .int .u8 0, .int .u8 0, .int .u8 0, .int .u8 0, .int .u8 0, .int .u8 0, .int .u8 0, .int .u8 0, .int .u8 0, .int .u8 0] : Array Value) = bc (List.replicate 32 0) := rfl
theorem bc_size (l : List UInt8) : (bc l).size = l.length := by simp [bc, Lib.byteCells]
theorem infoHb {l : List UInt8} (hl : l.length = 32) : (Tryd.prog.info? 23).map (·.size) = some (bc l).size := by
  rw [bc_size, hl]; kernel_rfl
theorem bc_one (l : List UInt8) : (bc l).all (·.oneCell') = true := by
  unfold bc
  rw [List.all_toArray, List.all_eq_true]
  intro u hu
  simp only [Lib.byteCells, List.mem_map] at hu
  obtain ⟨x, _, rfl⟩ := hu
  rfl
/-- the first j bytes laid -/
def hfill (xs : List UInt8) (j : Nat) : List UInt8 := xs.take j ++ List.replicate (32 - j) 0
theorem hfill_len {xs : List UInt8} (h : xs.length = 32) (j : Nat) (hj : j ≤ 32) : (hfill xs j).length = 32 := by
  unfold hfill; rw [List.length_append, List.length_take, List.length_replicate]; omega
theorem hfill_set {xs : List UInt8} (h : xs.length = 32) (j : Nat) (hj : j < 32) : (bc (hfill xs j)).setIfInBounds j (.int .u8 ((xs.getD j 0).toNat : Int)) = bc (hfill xs (j + 1)) := by
  obtain ⟨x0, x1, x2, x3, x4, x5, x6, x7, x8, x9, x10, x11, x12, x13, x14, x15, x16, x17, x18, x19, x20, x21, x22, x23, x24, x25, x26, x27, x28, x29, x30, x31, rfl⟩ := len32 h
  match j, hj with
  | 0, _ => rfl
  | 1, _ => rfl
  | 2, _ => rfl
  | 3, _ => rfl
  | 4, _ => rfl
  | 5, _ => rfl
  | 6, _ => rfl
  | 7, _ => rfl
  | 8, _ => rfl
  | 9, _ => rfl
  | 10, _ => rfl
  | 11, _ => rfl
  | 12, _ => rfl
  | 13, _ => rfl
  | 14, _ => rfl
  | 15, _ => rfl
  | 16, _ => rfl
  | 17, _ => rfl
  | 18, _ => rfl
  | 19, _ => rfl
  | 20, _ => rfl
  | 21, _ => rfl
  | 22, _ => rfl
  | 23, _ => rfl
  | 24, _ => rfl
  | 25, _ => rfl
  | 26, _ => rfl
  | 27, _ => rfl
  | 28, _ => rfl
  | 29, _ => rfl
  | 30, _ => rfl
  | 31, _ => rfl
  | n + 32, hn => omega
theorem good_len {s : ByteArray} (h : Hx.goodB s = true) : (Hx.resL s).length = s.size / 2 := by
  rw [Hx.resL, if_pos h, Hx.unL_len]
theorem res_by {s : ByteArray} (h : Hx.goodB s = true) (i : Nat) (hi : i < (Hx.resL s).length) : (Hx.resL s).getD i 0 = (((byL (Hx.resL s)).getD i 0).toNat : Int) := by
  have hg := Hx.goodB_iff.1 h
  have h1 : ∃ y, (Hx.resL s)[i]? = some y ∧ 0 ≤ y ∧ y ≤ 255 := by
    rw [Hx.resL, if_pos h] at hi ⊢
    rw [Hx.unL_len] at hi
    refine ⟨16 * Hx.dv (Hx.bt s (2 * i)) + Hx.dv (Hx.bt s (2 * i + 1)), by simp [Hx.unL, hi], ?_⟩
    have a1 := hg.2 (2 * i) (by omega)
    have a2 := hg.2 (2 * i + 1) (by omega)
    have b1 := Hx.dv_bd (Hx.bt s (2 * i))
    have b2 := Hx.dv_bd (Hx.bt s (2 * i + 1))
    omega
  obtain ⟨y, hy, h2, h3⟩ := h1
  unfold byL
  simp only [List.getD, List.getElem?_map, hy, Option.map_some, Option.getD_some]
  rw [UInt8.toNat_ofNat']
  omega
theorem ret_t {cs ds : Array Value} {a b : Int} (h1 : cs = ds) (h2 : a = b) : Ending.returned (.tuple #[.agg cs, .int .i64 a]) = .returned (.tuple #[.agg ds, .int .i64 b]) := by rw [h1, h2]
set_option maxHeartbeats 4000000 in
set_option maxRecDepth 100000 in
theorem rfirst (s : ByteArray) (w : World) :
    Calls Tryd.prog 24 #[.string s] w fun e w' => e = .returned (.tuple #[.agg (bc (fsH s.data.toList)), .int .i64 (fsE s.data.toList)]) ∧ Below w.heap.size w w' := by
  have HZ : Hid (s.data.toList.length = s.size) := (by simp : s.data.toList.length = s.size)
  have HN : Hid (fstR s.data.toList = none → bc (List.replicate 32 0) = bc (fsH s.data.toList) ∧ 223 = fsE s.data.toList) := fun h => ⟨by rw [fsH, h]; rfl, by rw [fsE, h]; rfl⟩
  have B0 : Hid (Below w.heap.size w ((w.alloc (Obj.cells #[.int .u8 0, .int .u8 0, .int .u8 0, .int .u8 0, .int .u8 0, .int .u8 0, .int .u8 0, .int .u8 0, .int .u8 0, .int .u8 0, .int .u8 0, .int .u8 0, .int .u8 0, .int .u8 0, .int .u8 0, .int .u8 0, .int .u8 0, .int .u8 0, .int .u8 0, .int .u8 0, .int .u8 0, .int .u8 0, .int .u8 0, .int .u8 0, .int .u8 0, .int .u8 0, .int .u8 0, .int .u8 0, .int .u8 0, .int .u8 0, .int .u8 0, .int .u8 0] 23)).alloc (Obj.cells #[.int .u8 0, .int .u8 0, .int .u8 0, .int .u8 0, .int .u8 0, .int .u8 0, .int .u8 0, .int .u8 0, .int .u8 0, .int .u8 0, .int .u8 0, .int .u8 0, .int .u8 0, .int .u8 0, .int .u8 0, .int .u8 0, .int .u8 0, .int .u8 0, .int .u8 0, .int .u8 0, .int .u8 0, .int .u8 0, .int .u8 0, .int .u8 0, .int .u8 0, .int .u8 0, .int .u8 0, .int .u8 0, .int .u8 0, .int .u8 0, .int .u8 0, .int .u8 0] 23))) := ((Below.refl _ _).alloc (Nat.le_refl _) _).alloc (by simp) _
  have X0 : Hid (((w.alloc (Obj.cells #[.int .u8 0, .int .u8 0, .int .u8 0, .int .u8 0, .int .u8 0, .int .u8 0, .int .u8 0, .int .u8 0, .int .u8 0, .int .u8 0, .int .u8 0, .int .u8 0, .int .u8 0, .int .u8 0, .int .u8 0, .int .u8 0, .int .u8 0, .int .u8 0, .int .u8 0, .int .u8 0, .int .u8 0, .int .u8 0, .int .u8 0, .int .u8 0, .int .u8 0, .int .u8 0, .int .u8 0, .int .u8 0, .int .u8 0, .int .u8 0, .int .u8 0, .int .u8 0] 23)).alloc (Obj.cells #[.int .u8 0, .int .u8 0, .int .u8 0, .int .u8 0, .int .u8 0, .int .u8 0, .int .u8 0, .int .u8 0, .int .u8 0, .int .u8 0, .int .u8 0, .int .u8 0, .int .u8 0, .int .u8 0, .int .u8 0, .int .u8 0, .int .u8 0, .int .u8 0, .int .u8 0, .int .u8 0, .int .u8 0, .int .u8 0, .int .u8 0, .int .u8 0, .int .u8 0, .int .u8 0, .int .u8 0, .int .u8 0, .int .u8 0, .int .u8 0, .int .u8 0, .int .u8 0] 23)).heap[w.heap.size]? = some (.cells (bc (List.replicate 32 0)) 23 (0, 0)) ∧ ((w.alloc (Obj.cells #[.int .u8 0, .int .u8 0, .int .u8 0, .int .u8 0, .int .u8 0, .int .u8 0, .int .u8 0, .int .u8 0, .int .u8 0, .int .u8 0, .int .u8 0, .int .u8 0, .int .u8 0, .int .u8 0, .int .u8 0, .int .u8 0, .int .u8 0, .int .u8 0, .int .u8 0, .int .u8 0, .int .u8 0, .int .u8 0, .int .u8 0, .int .u8 0, .int .u8 0, .int .u8 0, .int .u8 0, .int .u8 0, .int .u8 0, .int .u8 0, .int .u8 0, .int .u8 0] 23)).alloc (Obj.cells #[.int .u8 0, .int .u8 0, .int .u8 0, .int .u8 0, .int .u8 0, .int .u8 0, .int .u8 0, .int .u8 0, .int .u8 0, .int .u8 0, .int .u8 0, .int .u8 0, .int .u8 0, .int .u8 0, .int .u8 0, .int .u8 0, .int .u8 0, .int .u8 0, .int .u8 0, .int .u8 0, .int .u8 0, .int .u8 0, .int .u8 0, .int .u8 0, .int .u8 0, .int .u8 0, .int .u8 0, .int .u8 0, .int .u8 0, .int .u8 0, .int .u8 0, .int .u8 0] 23)).heap[w.heap.size + 1]? = some (.cells (bc (List.replicate 32 0)) 23 (0, 0))) := by
    have h9 := heap_new (w.alloc (Obj.cells #[.int .u8 0, .int .u8 0, .int .u8 0, .int .u8 0, .int .u8 0, .int .u8 0, .int .u8 0, .int .u8 0, .int .u8 0, .int .u8 0, .int .u8 0, .int .u8 0, .int .u8 0, .int .u8 0, .int .u8 0, .int .u8 0, .int .u8 0, .int .u8 0, .int .u8 0, .int .u8 0, .int .u8 0, .int .u8 0, .int .u8 0, .int .u8 0, .int .u8 0, .int .u8 0, .int .u8 0, .int .u8 0, .int .u8 0, .int .u8 0, .int .u8 0, .int .u8 0] 23)) (Obj.cells #[.int .u8 0, .int .u8 0, .int .u8 0, .int .u8 0, .int .u8 0, .int .u8 0, .int .u8 0, .int .u8 0, .int .u8 0, .int .u8 0, .int .u8 0, .int .u8 0, .int .u8 0, .int .u8 0, .int .u8 0, .int .u8 0, .int .u8 0, .int .u8 0, .int .u8 0, .int .u8 0, .int .u8 0, .int .u8 0, .int .u8 0, .int .u8 0, .int .u8 0, .int .u8 0, .int .u8 0, .int .u8 0, .int .u8 0, .int .u8 0, .int .u8 0, .int .u8 0] 23)
    have e9 : (w.alloc (Obj.cells #[.int .u8 0, .int .u8 0, .int .u8 0, .int .u8 0, .int .u8 0, .int .u8 0, .int .u8 0, .int .u8 0, .int .u8 0, .int .u8 0, .int .u8 0, .int .u8 0, .int .u8 0, .int .u8 0, .int .u8 0, .int .u8 0, .int .u8 0, .int .u8 0, .int .u8 0, .int .u8 0, .int .u8 0, .int .u8 0, .int .u8 0, .int .u8 0, .int .u8 0, .int .u8 0, .int .u8 0, .int .u8 0, .int .u8 0, .int .u8 0, .int .u8 0, .int .u8 0] 23)).heap.size = w.heap.size + 1 := by simp
    rw [e9] at h9
    exact ⟨(Below.heap_alloc _ _ _ (by simp)).trans (heap_new _ _), h9⟩
  go_enter Tryd.func24, Tryd.ntmps24
  go_upto_region 2 with fail
  generalize ((w.alloc (Obj.cells #[.int .u8 0, .int .u8 0, .int .u8 0, .int .u8 0, .int .u8 0, .int .u8 0, .int .u8 0, .int .u8 0, .int .u8 0, .int .u8 0, .int .u8 0, .int .u8 0, .int .u8 0, .int .u8 0, .int .u8 0, .int .u8 0, .int .u8 0, .int .u8 0, .int .u8 0, .int .u8 0, .int .u8 0, .int .u8 0, .int .u8 0, .int .u8 0, .int .u8 0, .int .u8 0, .int .u8 0, .int .u8 0, .int .u8 0, .int .u8 0, .int .u8 0, .int .u8 0] 23)).alloc (Obj.cells #[.int .u8 0, .int .u8 0, .int .u8 0, .int .u8 0, .int .u8 0, .int .u8 0, .int .u8 0, .int .u8 0, .int .u8 0, .int .u8 0, .int .u8 0, .int .u8 0, .int .u8 0, .int .u8 0, .int .u8 0, .int .u8 0, .int .u8 0, .int .u8 0, .int .u8 0, .int .u8 0, .int .u8 0, .int .u8 0, .int .u8 0, .int .u8 0, .int .u8 0, .int .u8 0, .int .u8 0, .int .u8 0, .int .u8 0, .int .u8 0, .int .u8 0, .int .u8 0] 23)) = w0 at *
  generalize hvb : w.heap.size = H at *
  have HS : Hid (w.heap.size = H) := hvb
  clear hvb
  have HEND : Hid (∀ wx cs, Below H w wx → wx.heap[H]? = some (.cells (bc (List.replicate 32 0)) 23 (0, 0)) → Below w.heap.size w (wx.setRow H cs)) := fun wx cs hb _ => by rw [HS.out]; exact below_setRow hb (Nat.le_refl _) _
  by_cases h77 : s.size = 77
  · have h77' : (s.size : Int) = 77 := by omega
    have HST : Hid (Calls Tryd.prog 10 #[.string s, .string { data := #[117, 114, 110, 58, 98, 116, 109, 104, 58, 49, 50, 50, 48] }] w0 fun e w' => e = .returned (.bool (Lib.hasPrefix s.data.toList [117, 114, 110, 58, 98, 116, 109, 104, 58, 49, 50, 50, 48])) ∧ w' = w0) := rstarts s { data := #[117, 114, 110, 58, 98, 116, 109, 104, 58, 49, 50, 50, 48] } w0
    go_wp2_with fail
    refine HST.out.mono ?_
    rintro e w1 ⟨rfl, rfl⟩
    clear HST
    cases hp : Lib.hasPrefix s.data.toList [117, 114, 110, 58, 98, 116, 109, 104, 58, 49, 50, 50, 48] with
    | false =>
      have HR := Lib.hid (HN.out (by rw [fstR]; exact if_neg (fun h => by rw [hp] at h; cases h.2.1)))
      go_wp2_with (first | (refine wpList_store_row rfl 23 _ _ rfl H (bc (List.replicate 32 0)) rfl rfl 23 _ X0.out.1 (infoHb (by simp)) (by rw [bc_size]) (bc_one _) ?_) | (refine wpList_load_row rfl 23 _ rfl (H + 1) rfl 23 (bc (List.replicate 32 0)) (0, 0) _ X0.out.2 Tryd.underlying23 rfl (infoHb (by simp)) ?_))
      exact bodyPost_ret (results_ct Tryd.results24 _ _ H 23 _ (0, 0) _ rfl (setRow_heap w1 H _ _ _ _ X0.out.1) rfl Tryd.underlying23 (infoHb (by simp))) rfl ⟨ret_t HR.out.1 HR.out.2, HEND.out _ _ B0.out X0.out.1⟩
    | true =>
      have hsl : ∀ w : World, (Instr.slice 9 (.string s) (some (.int .i64 13)) none none).run Tryd.prog w = .ok (.string (s.extract 13 s.size)) w := fun w => by
        have hh := Lib.size_eq s
        simp [go_sem, Tryd.underlying9]; omega
      have HT : Hid ((⟨(s.data.toList.drop 13).toArray⟩ : ByteArray) = s.extract 13 s.size ∧ (s.extract 13 s.size).size = 64) := by
        have e1 : (s.extract 13 s.size).data.toList = s.data.toList.drop 13 := extD s 13
        have e2 : (s.extract 13 s.size).size = 64 := by simp; omega
        exact (⟨by rw [← e1], e2⟩ : (⟨(s.data.toList.drop 13).toArray⟩ : ByteArray) = s.extract 13 s.size ∧ (s.extract 13 s.size).size = 64)
      have HF : Hid (fstR s.data.toList = if Hx.goodB (s.extract 13 s.size) = true then some (byL (Hx.resL (s.extract 13 s.size))) else none) := by
        have h9 : fstR s.data.toList = if Hx.goodB (s.extract 13 s.size) = true then some (byL (Hx.resL (s.extract 13 s.size))) else none := by
          unfold fstR
          rw [HT.out.1]
          by_cases hg : Hx.goodB (s.extract 13 s.size) = true
          · rw [if_pos ⟨by rw [HZ.out]; exact h77, hp, hg⟩, if_pos hg]
          · rw [if_neg (fun h => hg h.2.2), if_neg hg]
        exact h9
      generalize s.extract 13 s.size = t at *
      go_wp2_with fail
      refine (Hx.unhex21 t w1 (by have := HT.out.2; omega)).mono ?_
      rintro e w2 ⟨v, rfl, hrd, hnew, b2⟩
      have HNW : Hid (Hx.NewV w1.heap.size v) := hnew
      have B2 : Hid (Below H w w2) := B0.out.trans (b2.mono (by have := (Array.getElem?_eq_some_iff.1 X0.out.2).1; omega))
      have X2 : Hid (w2.heap[H]? = some (.cells (bc (List.replicate 32 0)) 23 (0, 0)) ∧ w2.heap[H + 1]? = some (.cells (bc (List.replicate 32 0)) 23 (0, 0))) := ⟨(b2.block _ (Array.getElem?_eq_some_iff.1 X0.out.1).1).trans X0.out.1, (b2.block _ (Array.getElem?_eq_some_iff.1 X0.out.2).1).trans X0.out.2⟩
      have HRD : Hid (Hx.Reads w2 v (Hx.resL t)) := hrd
      have HH1 : Hid (H + 1 < w1.heap.size) := (Array.getElem?_eq_some_iff.1 X0.out.2).1
      clear hrd b2 B0 X0 hsl hnew
      cases hg : Hx.goodB t with
      | false =>
        have hr : Hx.resN t = 13 := by rw [Hx.resN, hg]; rfl
        have HR := Lib.hid (HN.out (by rw [HF.out, hg]; rfl))
        rw [hr]
        clear HN HF
        go_wp2_with (first | (refine wpList_store_row rfl 23 _ _ rfl H (bc (List.replicate 32 0)) rfl rfl 23 _ X2.out.1 (infoHb (by simp)) (by rw [bc_size]) (bc_one _) ?_) | (refine wpList_load_row rfl 23 _ rfl (H + 1) rfl 23 (bc (List.replicate 32 0)) (0, 0) _ X2.out.2 Tryd.underlying23 rfl (infoHb (by simp)) ?_))
        exact bodyPost_ret (results_ct Tryd.results24 _ _ H 23 _ (0, 0) _ rfl (setRow_heap w2 H _ _ _ _ X2.out.1) rfl Tryd.underlying23 (infoHb (by simp))) rfl ⟨ret_t HR.out.1 HR.out.2, HEND.out _ _ B2.out X2.out.1⟩
      | true =>
        have hr : Hx.resN t = 0 := by rw [Hx.resN, hg]; rfl
        rw [hr]
        have HLN : Hid ((Hx.resL t).length = 32) := (by rw [good_len hg, HT.out.2] : (Hx.resL t).length = 32)
        obtain ⟨va, vc, rfl, hrd⟩ := HRD.out
        have HV : Hid (∃ b off, va = some ⟨b, off, none⟩ ∧ b < w2.heap.size ∧ ∀ i, i < 32 → w2.cell? ⟨b, off + i, none⟩ = some (.int .u8 (((byL (Hx.resL t)).getD i 0).toNat : Int))) := by
          rcases hrd with h | ⟨b, off, h1, h2, h3⟩
          · have := HLN.out; rw [h] at this; cases this
          · exact (⟨b, off, h1, h2, fun i hi => by rw [h3 i (by rw [HLN.out]; exact hi), res_by hg i (by rw [HLN.out]; exact hi)]⟩ : ∃ b off, va = some ⟨b, off, none⟩ ∧ b < w2.heap.size ∧ ∀ i, i < 32 → w2.cell? ⟨b, off + i, none⟩ = some (.int .u8 (((byL (Hx.resL t)).getD i 0).toNat : Int)))
        have HXL : Hid ((byL (Hx.resL t)).length = 32 ∧ fsH s.data.toList = byL (Hx.resL t) ∧ fsE s.data.toList = 0) := by
          have e1 : fstR s.data.toList = some (byL (Hx.resL t)) := by rw [HF.out, hg]; rfl
          exact (⟨by rw [byL, List.length_map, HLN.out], by rw [fsH, e1]; rfl, by rw [fsE, e1]; rfl⟩ : (byL (Hx.resL t)).length = 32 ∧ fsH s.data.toList = byL (Hx.resL t) ∧ fsE s.data.toList = 0)
        rw [HLN.out]
        clear hrd HRD HF HN HT
        generalize byL (Hx.resL t) = xs at *
        obtain ⟨b, off, rfl, hbl, hcell⟩ := HV.out
        have HC : Hid (∀ i, i < 32 → w2.cell? ⟨b, off + i, none⟩ = some (.int .u8 ((xs.getD i 0).toNat : Int))) := hcell
        have HNB : Hid (b < w2.heap.size) := hbl
        have HNE : Hid (b ≠ H + 1) := (by have h8 := HNW.out b rfl; have h7 := HH1.out; omega : b ≠ H + 1)
        clear hcell hbl HV HNW
        go_wp2
        go_loopw [7] (fun t wr => ∃ i : Nat, i ≤ 32 ∧ t = .int .i64 i ∧ Hid (Besides (H + 1) w2 wr ∧ wr.heap[H + 1]? = some (.cells (bc (hfill xs i)) 23 (0, 0)))) (fun t _ => 32 - (intOf t).toNat)
        case atStart => exact ⟨0, Nat.zero_le _, rfl, (⟨Besides.refl _ _, X2.out.2⟩ : Besides (H + 1) w2 _ ∧ _)⟩
        case round =>
          obtain ⟨i, hi, rfl, HI⟩ := hrel
          by_cases hlt : i < 32
          · have g0 := HI.out.1.cell (p := ⟨b, off + i, none⟩) HNE.out (HC.out i hlt)
            have hc1 : wr.cell? ⟨H + 1, i, none⟩ = some (.int .u8 (((hfill xs i).getD i 0).toNat : Int)) := by
              have hl9 := hfill_len HXL.out.1 i hi
              simp only [World.cell?, HI.out.2]
              simp [bc, Lib.byteCells, List.getD, List.getElem?_eq_getElem (show i < (hfill xs i).length by omega)]
            have hf1 : wr.frozen? ⟨H + 1, i, none⟩ = false := by simp [World.frozen?, HI.out.2]
            have HJ : Hid (Besides (H + 1) w2 (wr.setCell ⟨H + 1, i, none⟩ (.int .u8 ((xs.getD i 0).toNat : Int))) ∧ (wr.setCell ⟨H + 1, i, none⟩ (.int .u8 ((xs.getD i 0).toNat : Int))).heap[H + 1]? = some (.cells (bc (hfill xs (i + 1))) 23 (0, 0))) := by
              have h9 := setAt HI.out.2 i (.int .u8 ((xs.getD i 0).toNat : Int))
              rw [hfill_set HXL.out.1 i hlt] at h9
              exact ⟨HI.out.1.trans (Besides.setCell _ ⟨H + 1, i, none⟩ _), h9⟩
            generalize ((hfill xs i).getD i 0) = y0 at *
            generalize xs.getD i 0 = y1 at *
            clear HI
            go_wp2
            exact ⟨⟨i + 1, by omega, by go_num, HJ⟩, by simp [intOf]; omega⟩
          · obtain rfl : i = 32 := by omega
            have hZ1 : wr.heap[H]? = some (.cells (bc (List.replicate 32 0)) 23 (0, 0)) := (HI.out.1.block H (Array.getElem?_eq_some_iff.1 X2.out.1).1 (by omega)).trans X2.out.1
            have hX1 : wr.heap[H + 1]? = some (.cells (bc xs) 23 (0, 0)) := by
              have h9 := HI.out.2
              rw [show hfill xs 32 = xs by unfold hfill; rw [List.take_of_length_le (by rw [HXL.out.1]; exact Nat.le_refl _)]; simp] at h9
              exact h9
            have HBE : Hid (Below H w wr) := ⟨HI.out.1.os.trans B2.out.os, HI.out.1.tape.trans B2.out.tape, HI.out.1.output.trans B2.out.output, Nat.le_trans B2.out.size HI.out.1.size, fun q hq => (HI.out.1.block q (by have := (Array.getElem?_eq_some_iff.1 X2.out.1).1; omega) (by omega)).trans (B2.out.block q hq)⟩
            clear HI
            go_wp2_with (first | (refine wpList_store_row rfl 23 _ _ rfl H (bc xs) rfl rfl 23 _ hZ1 (infoHb HXL.out.1) (by rw [bc_size, bc_size, HXL.out.1]; simp) (bc_one _) ?_) | (refine wpList_load_row rfl 23 _ rfl (H + 1) rfl 23 (bc xs) (0, 0) _ hX1 Tryd.underlying23 rfl (infoHb HXL.out.1) ?_))
            exact bodyPost_ret (results_ct Tryd.results24 _ _ H 23 _ (0, 0) _ rfl (setRow_heap wr H _ _ _ _ hZ1) rfl Tryd.underlying23 (infoHb HXL.out.1)) rfl ⟨ret_t (by rw [HXL.out.2.1]) HXL.out.2.2.symm, HEND.out _ _ HBE.out hZ1⟩
  · have h77' : ¬ (s.size : Int) = 77 := by omega
    have HR := Lib.hid (HN.out (by rw [fstR]; exact if_neg (fun h => h77 (by rw [← HZ.out]; exact h.1))))
    clear HN
    go_wp2_with (first | (refine wpList_store_row rfl 23 _ _ rfl H (bc (List.replicate 32 0)) rfl rfl 23 _ X0.out.1 (infoHb (by simp)) (by rw [bc_size]) (bc_one _) ?_) | (refine wpList_load_row rfl 23 _ rfl (H + 1) rfl 23 (bc (List.replicate 32 0)) (0, 0) _ X0.out.2 Tryd.underlying23 rfl (infoHb (by simp)) ?_))
    exact bodyPost_ret (results_ct Tryd.results24 _ _ H 23 _ (0, 0) _ rfl (setRow_heap w0 H _ _ _ _ X0.out.1) rfl Tryd.underlying23 (infoHb (by simp))) rfl ⟨ret_t HR.out.1 HR.out.2, HEND.out _ _ B0.out X0.out.1⟩
end Go.Proofs.YtmfbhihjiebagaaDoor
