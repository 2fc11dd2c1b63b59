import Derived.Test.YtpembmfpgolniaaDoorFf
namespace Go.Proofs.YtpembmfpgolniaaDoor
open Go.RowKit
/-- a kind's row -/
structure Kr where
  k : Int
  le : Int
  mo : Int
  st : Int
  fs : List Nat
deriving DecidableEq
def Kr.ls (r : Kr) : List Value := rowL r.k r.le r.mo r.st r.fs
def rws : List Kr := [⟨-1, 0, 0, 1, [0, 0, 0, 0, 0, 0, 0]⟩, ⟨0, 1, 1, 1, [1, 0, 0, 0, 0, 0, 0]⟩, ⟨1, 1, 1, 1, [1, 0, 0, 0, 0, 0, 0]⟩, ⟨2, 1, 1, 1, [1, 0, 0, 0, 0, 0, 0]⟩, ⟨3, 1, 1, 1, [1, 0, 0, 0, 0, 0, 0]⟩,
  ⟨4, 5, 5, 1, [1, 3, 0, 0, 0, 0, 0]⟩, ⟨5, 1, 8193, 1, [1, 10, 0, 0, 0, 0, 0]⟩, ⟨6, 13, 13, 1, [1, 3, 4, 6, 0, 0, 0]⟩, ⟨7, 10, 16393, 1, [1, 3, 4, 10, 0, 0, 0]⟩, ⟨8, 13, 13, 1, [1, 3, 4, 6, 0, 0, 0]⟩,
  ⟨21, 49, 49, 1, [1, 7, 8, 3, 5, 9, 0]⟩, ⟨22, 49, 17969, 32, [1, 7, 8, 3, 5, 9, 11]⟩, ⟨23, 49, 49, 1, [1, 7, 8, 3, 5, 9, 0]⟩, ⟨1000, 1, 32768, 1, [2, 10, 0, 0, 0, 0, 0]⟩]
def kindsL : List Value := rws.flatMap Kr.ls
/-- the table of the kinds is there -/
def KT (w : World) : Prop := w.rangeAt 0 0 kindsL
theorem KT.below {w w' : World} {B : Nat} (h : KT w) (hb : Below B w w') (hB : 0 < B) : KT w' := fun j v hj => by
  have := h j v hj
  exact (hb.cell (p := ⟨0, 0 + j, none⟩) hB).trans this
theorem KT.pos {w : World} (h : KT w) : 0 < w.heap.size := by
  have := h 0 (.int .i64 (-1)) rfl
  exact World.block_lt_of_cell? w _ this
theorem info_kinds : (Tryd.prog.info? 72).map (·.size) = some kindsL.length := by kernel_rfl
theorem rws_row (n : Nat) (r : Kr) (h : rws[n]? = some r) : (kindsL.drop (n * 11)).take 11 = r.ls ∧ n < 14 ∧ r.fs.length = 7 ∧ (∀ c ∈ r.fs, c ≤ 11) := by
  have hn : n < 14 := (List.getElem?_eq_some_iff.1 h).1
  have h14 : n = 0 ∨ n = 1 ∨ n = 2 ∨ n = 3 ∨ n = 4 ∨ n = 5 ∨ n = 6 ∨ n = 7 ∨ n = 8 ∨ n = 9 ∨ n = 10 ∨ n = 11 ∨ n = 12 ∨ n = 13 := by omega
  rcases h14 with rfl | rfl | rfl | rfl | rfl | rfl | rfl | rfl | rfl | rfl | rfl | rfl | rfl | rfl
  all_goals (simp [rws] at h; subst h; exact ⟨rfl, by omega, rfl, by decide⟩)
/-- the row of a kind -/
def rowFor (k : Int) : Option Kr := rws.find? (fun r => r.k == k)
theorem rowFor_at {k : Int} {n : Nat} {r : Kr} (h : rws[n]? = some r) (hk : r.k = k) (hno : ∀ j r', j < n → rws[j]? = some r' → r'.k ≠ k) : rowFor k = some r := by
  unfold rowFor
  have hn := (List.getElem?_eq_some_iff.1 h)
  rw [List.find?_eq_some_iff_getElem]
  refine ⟨by simp [hk], n, hn.1, hn.2, fun j hj => ?_⟩
  have := hno j _ hj (List.getElem?_eq_getElem (by have := hn.1; omega))
  simpa using this
theorem rowFor_none {k : Int} (hno : ∀ j r', j < 14 → rws[j]? = some r' → r'.k ≠ k) : rowFor k = none := by
  unfold rowFor
  rw [List.find?_eq_none]
  intro r hr
  obtain ⟨j, hj, e⟩ := List.getElem_of_mem hr
  have := hno j r hj (by rw [List.getElem?_eq_getElem hj, e])
  simpa using this
def zrow : Kr := ⟨0, 0, 0, 0, [0, 0, 0, 0, 0, 0, 0]⟩
theorem info_rowK (r : Kr) (h : r.fs.length = 7) : (Tryd.prog.info? 51).map (·.size) = some r.ls.toArray.size := by
  have : r.ls.toArray.size = 11 := by simp [Kr.ls, rowL, fcs, h]
  rw [this]; exact info_row
theorem row_one (r : Kr) : r.ls.toArray.all (·.oneCell') = true := by simp [Kr.ls, rowL, fcs, Value.oneCell']
theorem run_index14 (w : World) (n : Nat) (r : Kr) (hr : rws[n]? = some r) : (Instr.index 72 (.agg kindsL.toArray) (.int .i64 (n : Int))).run Tryd.prog w = .ok (.agg r.ls.toArray) w := by
  obtain ⟨e, hn, hf, _⟩ := rws_row n r hr
  obtain ⟨i3, hi3, hz⟩ := Option.map_eq_some_iff.1 info_row
  have h7 : (0 : Int) ≤ (n : Int) ∧ (n : Int) < (14 : Int) := by omega
  simp [Instr.index, asIntOf, run_underlying Tryd.underlying72, sizeOf, typeInfo, hi3, hz, h7, part, isAgg, run_underlying Tryd.underlying51]
  rw [if_pos hn, e]
theorem results_row {fn : Func} {p q : Tmp} (h : fn.results = #[.cell p 51, .tmp q]) (tmps : Array Value) (w : World) (g : Nat) (cs : Array Value)
    (hp : tmps.getD p undef = .pointer (some ⟨g, 0, none⟩)) (hg : w.heap[g]? = some (.cells cs 51 (0, 0))) (hi : (Tryd.prog.info? 51).map (·.size) = some cs.size) : (results fn tmps).run Tryd.prog w = .ok (.tuple #[.agg cs, tmps.getD q undef]) w := by
  have hp' : tmps[p]?.getD undef = .pointer (some ⟨g, 0, none⟩) := by simpa using hp
  simp [results, h, hp', asAddr, run_loadVar_row w g 51 51 cs (0, 0) _ hg Tryd.underlying51 rfl hi]
abbrev z11 : Array Value := #[.int .i64 0, .int .i64 0, .int .i64 0, .int .i64 0, .int .i64 0, .int .i64 0, .int .i64 0, .int .i64 0, .int .i64 0, .int .i64 0, .int .i64 0]
set_option maxHeartbeats 1000000 in
set_option maxRecDepth 100000 in
theorem rowOfT (w : World) (k : Int) (hk : KT w) :
    Calls Tryd.prog 17 #[.int .i64 k] w fun e w' => e = .returned (.tuple #[.agg ((rowFor k).getD zrow).ls.toArray, .bool (rowFor k).isSome]) ∧ Below w.heap.size w w' := by
  have hg0 := heapNew w (.cells z11 51)
  have b0 : Below w.heap.size w (w.alloc (.cells z11 51)) := (Below.refl _ _).alloc (Nat.le_refl _) _
  have hk0 : KT (w.alloc (.cells z11 51)) := hk.below b0 hk.pos
  have lt0 : w.heap.size < (w.alloc (.cells z11 51)).heap.size := by simp
  go_enter Tryd.func17, Tryd.ntmps17
  go_wp2_with (first | (refine wpList_load_mid rfl 72 _ rfl 0 0 rfl kindsL _ hk0 Tryd.underlying72 rfl info_kinds ?_))
  generalize w.alloc (.cells z11 51) = w0 at *
  clear hk0
  go_loopw [7] (fun t wr => ∃ n : Nat, n ≤ 14 ∧ t = .int .i64 n ∧ Hid (∀ j r', j < n → rws[j]? = some r' → r'.k ≠ k) ∧ Hid (Below w0.heap.size w0 wr)) (fun t _ => 14 - (intOf t).toNat)
  case atStart => exact ⟨0, by omega, rfl, fun j r' h => by omega, Below.refl _ _⟩
  case round =>
    obtain ⟨n, hn, rfl, hno, hb⟩ := hrel
    by_cases h14 : n < 14
    · obtain ⟨r, hr⟩ : ∃ r, rws[n]? = some r := ⟨_, List.getElem?_eq_getElem h14⟩
      have hix := fun u => run_index14 u n r hr
      obtain ⟨_, _, hf, _⟩ := rws_row n r hr
      have hi := info_rowK r hf
      have h1 := row_one r
      have hG := heapNew wr (.cells z11 51)
      have hz : z11.size = r.ls.toArray.size := by simp [Kr.ls, rowL, fcs, hf]
      have hG2 := heapSetRow _ _ _ r.ls.toArray _ hG
      have hc0 : ((wr.alloc (.cells z11 51)).setRow wr.heap.size r.ls.toArray).cell? ⟨wr.heap.size, 0, none⟩ = some (.int .i64 r.k) := by
        exact rangeOf hG2 0 _ rfl
      have hR : ((wr.alloc (.cells z11 51)).setRow wr.heap.size r.ls.toArray).heap[w.heap.size]? = some (.cells z11 51 (0, 0)) := by
        have hsz := hb.out.size
        rw [setRow_other _ _ _ _ (by omega), heapOld _ _ _ (by omega), hb.out.block _ lt0]; exact hg0
      have HB : Hid (Below w.heap.size w ((wr.alloc (.cells z11 51)).setRow wr.heap.size r.ls.toArray) ∧ Below w0.heap.size w0 ((wr.alloc (.cells z11 51)).setRow wr.heap.size r.ls.toArray)) := by
        have hsz := hb.out.size
        have b1 := b0.trans (hb.out.mono (Nat.le_of_lt lt0))
        exact ⟨belowSetRow (b1.alloc (by omega) _) (by omega) _, belowSetRow (hb.out.alloc hsz _) hsz _⟩
      by_cases he : r.k = k
      · have hrf : Hid (rowFor k = some r) := rowFor_at hr he hno.out
        go_wp2_with (first | (refine wpList_store_row rfl 51 _ _ rfl wr.heap.size r.ls.toArray rfl rfl 51 z11 hG hi hz h1 ?_) | (refine wpList_load_row rfl 51 _ rfl wr.heap.size rfl 51 r.ls.toArray (0, 0) _ hG2 Tryd.underlying51 rfl hi ?_) | (refine wpList_store_row rfl 51 _ _ rfl w.heap.size r.ls.toArray rfl rfl 51 z11 hR hi hz h1 ?_))
        exact bodyPost_ret (results_row Tryd.results17 _ _ w.heap.size _ rfl (heapSetRow _ _ _ _ _ hR) hi) rfl ⟨by rw [hrf.out]; rfl, belowSetRow HB.out.1 (Nat.le_refl _) _⟩
      · go_wp2_with (first | (refine wpList_store_row rfl 51 _ _ rfl wr.heap.size r.ls.toArray rfl rfl 51 z11 hG hi hz h1 ?_))
        refine ⟨⟨n + 1, by omega, by go_num, fun j r' hj hr' => ?_, HB.out.2⟩, by simp [intOf]; omega⟩
        rcases Nat.lt_or_ge j n with h | h
        · exact hno.out j r' h hr'
        · obtain rfl : j = n := by omega
          rw [hr] at hr'; cases hr'; exact he
    · obtain rfl : n = 14 := by omega
      have hrf : Hid (rowFor k = none) := rowFor_none hno.out
      have hgr : wr.heap[w.heap.size]? = some (.cells z11 51 (0, 0)) := (hb.out.block _ lt0).trans hg0
      have hiz : (Tryd.prog.info? 51).map (·.size) = some z11.size := info_row
      have h1z : z11.all (·.oneCell') = true := by simp [Value.oneCell']
      have HB : Hid (Below w.heap.size w wr) := b0.trans (hb.out.mono (Nat.le_of_lt lt0))
      go_wp2_with (first | (refine wpList_store_row rfl 51 _ _ rfl w.heap.size z11 rfl rfl 51 z11 hgr hiz rfl h1z ?_))
      exact bodyPost_ret (results_row Tryd.results17 _ _ w.heap.size _ rfl (heapSetRow _ _ _ _ _ hgr) hiz) rfl ⟨by rw [hrf.out]; rfl, belowSetRow HB.out (Nat.le_refl _) _⟩
/-- a body of the kind can have n bytes -/
def Kr.fit (r : Kr) (n : Int) : Bool := decide (r.le ≤ n) && decide (n ≤ r.mo) && ((n - r.le) % r.st == 0)
theorem fitsT (w : World) (r : Kr) (n : Int) (hn : 0 ≤ n) (hn2 : n ≤ 1152921504606846976) (hs : 1 ≤ r.st) (hle : 0 ≤ r.le) (hle2 : r.le ≤ 1000000) :
    Calls Tryd.prog 19 #[.agg r.ls.toArray, .int .i64 n] w fun e w' => e = .returned (.bool (r.fit n)) ∧ Below w.heap.size w w' := by
  have hg0 := heapNew w (.cells r.ls.toArray 51)
  have c1 : (w.alloc (.cells r.ls.toArray 51)).cell? ⟨w.heap.size, 1, none⟩ = some (.int .i64 r.le) := rangeOf hg0 1 _ rfl
  have c2 : (w.alloc (.cells r.ls.toArray 51)).cell? ⟨w.heap.size, 2, none⟩ = some (.int .i64 r.mo) := rangeOf hg0 2 _ rfl
  have c3 : (w.alloc (.cells r.ls.toArray 51)).cell? ⟨w.heap.size, 3, none⟩ = some (.int .i64 r.st) := rangeOf hg0 3 _ rfl
  have HB : Hid (Below w.heap.size w (w.alloc (.cells r.ls.toArray 51))) := (Below.refl _ _).alloc (Nat.le_refl _) _
  clear hg0
  unfold Kr.fit
  generalize r.le = a at *
  generalize r.mo = b at *
  generalize r.st = s at *
  by_cases h1 : a ≤ n
  · by_cases h2 : n ≤ b
    · rw [decide_eq_true h1, decide_eq_true h2]
      go_enter Tryd.func19, Tryd.ntmps19
      go_wp2
      go_ret
      exact ⟨rfl, HB.out⟩
    · rw [decide_eq_true h1, decide_eq_false h2]
      go_enter Tryd.func19, Tryd.ntmps19
      go_wp2
      go_ret
      exact ⟨rfl, HB.out⟩
  · rw [decide_eq_false h1]
    go_enter Tryd.func19, Tryd.ntmps19
    go_wp2
    go_ret
    exact ⟨rfl, HB.out⟩
end Go.Proofs.YtpembmfpgolniaaDoor
