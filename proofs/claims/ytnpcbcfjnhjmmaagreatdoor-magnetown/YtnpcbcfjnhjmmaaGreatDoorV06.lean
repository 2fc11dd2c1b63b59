import Derived.Test.YtnpcbcfjnhjmmaaGreatDoorV05
import Derived.Deep.MidRow
import Derived.Laws.Tables
import Derived.Deep.Cut
namespace Go.Proofs.YtnpcbcfjnhjmmaaGreatDoor
open Go.RowKit Go.Deep
/-- the cells of a link -/
def lkC (l : List UInt8) (nm : ByteArray) (tr pe on mo : Value) : Array Value := (Lib.byteCells l ++ [.string nm, tr, pe, on, mo]).toArray
def LB (w : World) (b : Nat) (l : List UInt8) (nm : ByteArray) (tr pe on mo : Value) : Prop := w.heap[b]? = some (.cells (lkC l nm tr pe on mo) 28 (0, 0))
theorem bcl (l : List UInt8) : (Lib.byteCells l).length = l.length := by simp [Lib.byteCells]
theorem lkC_get {l : List UInt8} {nm : ByteArray} {tr pe on mo : Value} (hl : l.length = 32) (j : Nat) : (lkC l nm tr pe on mo)[32 + j]? = ([.string nm, tr, pe, on, mo] : List Value)[j]? := by
  unfold lkC
  rw [List.getElem?_toArray, List.getElem?_append_right (by rw [bcl]; omega), bcl, hl, Nat.add_sub_cancel_left]
theorem lkC_size {l : List UInt8} {nm : ByteArray} {tr pe on mo : Value} (hl : l.length = 32) : (lkC l nm tr pe on mo).size = 37 := by
  unfold lkC; simp [bcl, hl]
theorem LB.cells {w : World} {b : Nat} {l : List UInt8} {nm : ByteArray} {tr pe on mo : Value} (h : LB w b l nm tr pe on mo) (hl : l.length = 32) :
    w.cell? ⟨b, 32, none⟩ = some (.string nm) ∧ w.cell? ⟨b, 33, none⟩ = some tr ∧ w.cell? ⟨b, 34, none⟩ = some pe ∧ w.cell? ⟨b, 35, none⟩ = some on ∧ w.cell? ⟨b, 36, none⟩ = some mo := by
  have key : ∀ j, w.cell? ⟨b, 32 + j, none⟩ = ([.string nm, tr, pe, on, mo] : List Value)[j]? := fun j => by
    rw [← lkC_get (l := l) hl j]
    unfold LB at h
    simp [World.cell?, h]
  exact ⟨key 0, key 1, key 2, key 3, key 4⟩
theorem LB.frozen {w : World} {b : Nat} {l : List UInt8} {nm : ByteArray} {tr pe on mo : Value} (h : LB w b l nm tr pe on mo) (i : Nat) : w.frozen? ⟨b, i, none⟩ = false := by
  unfold LB at h
  simp [World.frozen?, h]
theorem LB.keep {w w' : World} {b : Nat} {l : List UInt8} {nm : ByteArray} {tr pe on mo : Value} (h : LB w b l nm tr pe on mo) (hb : w'.heap[b]? = w.heap[b]?) : LB w' b l nm tr pe on mo := hb.trans h
theorem LB.lt {w : World} {b : Nat} {l : List UInt8} {nm : ByteArray} {tr pe on mo : Value} (h : LB w b l nm tr pe on mo) : b < w.heap.size := (Array.getElem?_eq_some_iff.1 h).1
theorem LB.range {w : World} {b : Nat} {l : List UInt8} {nm : ByteArray} {tr pe on mo : Value} (h : LB w b l nm tr pe on mo) : w.rangeAt b 0 (Lib.byteCells l) := fun j v hj => by
  unfold LB at h
  have hj2 := (List.getElem?_eq_some_iff.1 hj).1
  rw [Nat.zero_add]
  simp only [World.cell?, h]
  unfold lkC
  simp only [List.getElem?_toArray]
  rw [List.getElem?_append_left hj2, hj]
  rfl
/-- a list of strings in memory -/
def RS (S : Nat → Prop) (w : World) (v : Value) (ts : List ByteArray) : Prop :=
  ∃ a c, v = .slice a ts.length c ∧ (ts.length = 0 ∨ ∃ b o, a = some ⟨b, o, none⟩ ∧ S b ∧ b < w.heap.size ∧ ∀ i x, ts[i]? = some x → w.cell? ⟨b, o + i, none⟩ = some (.string x))
/-- a list of runs in memory -/
def RR (S : Nat → Prop) (w : World) (v : Value) (rs : List (Int × Int)) : Prop :=
  ∃ a c, v = .slice a rs.length c ∧ (rs.length = 0 ∨ ∃ b o, a = some ⟨b, o, none⟩ ∧ S b ∧ b < w.heap.size ∧ ∀ i x, rs[i]? = some x → w.cell? ⟨b, o + i * 2, none⟩ = some (.int .i64 x.1) ∧ w.cell? ⟨b, o + i * 2 + 1, none⟩ = some (.int .i64 x.2))
theorem RS.move {S S' : Nat → Prop} {w w' : World} (hS : ∀ b, S b → b < w.heap.size → S' b) (hs : w.heap.size ≤ w'.heap.size) (hb : ∀ b, S b → b < w.heap.size → w'.heap[b]? = w.heap[b]?) {v : Value} {ts : List ByteArray} (h : RS S w v ts) : RS S' w' v ts := by
  obtain ⟨a, c, rfl, h⟩ := h
  refine ⟨a, c, rfl, ?_⟩
  rcases h with h | ⟨b, o, rfl, h1, h2, h3⟩
  · exact .inl h
  · exact .inr ⟨b, o, rfl, hS b h1 h2, by omega, fun i x hx => (World.cell?_of_block (w := w) (a := ⟨b, _, none⟩) (hb b h1 h2)).trans (h3 i x hx)⟩
theorem RR.move {S S' : Nat → Prop} {w w' : World} (hS : ∀ b, S b → b < w.heap.size → S' b) (hs : w.heap.size ≤ w'.heap.size) (hb : ∀ b, S b → b < w.heap.size → w'.heap[b]? = w.heap[b]?) {v : Value} {rs : List (Int × Int)} (h : RR S w v rs) : RR S' w' v rs := by
  obtain ⟨a, c, rfl, h⟩ := h
  refine ⟨a, c, rfl, ?_⟩
  rcases h with h | ⟨b, o, rfl, h1, h2, h3⟩
  · exact .inl h
  · exact .inr ⟨b, o, rfl, hS b h1 h2, by omega, fun i x hx => ⟨(World.cell?_of_block (w := w) (a := ⟨b, _, none⟩) (hb b h1 h2)).trans (h3 i x hx).1, (World.cell?_of_block (w := w) (a := ⟨b, _, none⟩) (hb b h1 h2)).trans (h3 i x hx).2⟩⟩
/-- a link: what its fields are -/
structure Lk where
  l : List UInt8
  nm : ByteArray
  ts : List ByteArray
  ps : List ByteArray
  rs : List (Int × Int)
  dn : Nat
  ky : Nat → ByteArray
  dv : Nat → T
structure Lk.ok (k : Lk) : Prop where
  l : k.l.length = 32
  nm : k.nm.size ≤ 140737488351232
  ts : k.ts.length ≤ 140737488351232 ∧ ∀ x ∈ k.ts, x.size ≤ 140737488351232
  ps : k.ps.length ≤ 140737488351232 ∧ ∀ x ∈ k.ps, x.size ≤ 140737488351232
  rs : k.rs.length ≤ 140737488351232
  dn : k.dn ≤ 140737488351232 ∧ ∀ i, i < k.dn → (k.ky i).size ≤ 140737488351232 ∧ (k.dv i).ok
structure Lk.small (k : Lk) : Prop where
  ts : k.ts.length ≤ 2147483647
  ps : k.ps.length ≤ 2147483647
  rs : k.rs.length ≤ 2147483647
  dn : k.dn ≤ 2147483647 ∧ ∀ i, i < k.dn → (k.dv i).small
/-- all texts of a link together -/
def Lk.few (k : Lk) : Prop := k.nm.size + (k.ts.map ByteArray.size).sum + (k.ps.map ByteArray.size).sum + sumN (fun i => (k.ky i).size + (k.dv i).s.size) k.dn ≤ 2147483647
/-- the lists of a link in memory -/
def RL4 (S : Nat → Prop) (w : World) (k : Lk) (tr pe on mo : Value) : Prop := RS S w tr k.ts ∧ RS S w pe k.ps ∧ RR S w on k.rs ∧ RD S w k.dn k.ky k.dv mo
theorem RL4.move {S S' : Nat → Prop} {w w' : World} (hS : ∀ b, S b → b < w.heap.size → S' b) (hs : w.heap.size ≤ w'.heap.size) (hb : ∀ b, S b → b < w.heap.size → w'.heap[b]? = w.heap[b]?) {k : Lk} {tr pe on mo : Value} (h : RL4 S w k tr pe on mo) : RL4 S' w' k tr pe on mo :=
  ⟨h.1.move hS hs hb, h.2.1.move hS hs hb, h.2.2.1.move hS hs hb, RD.move hS hs hb h.2.2.2⟩
set_option maxHeartbeats 1000000 in
theorem texts (cb : Nat) (m : Int) (v : Value) (ts : List ByteArray) (w : World) (h0 : 0 ≤ m) (h1 : m ≤ 2147483647) (hl : ts.length ≤ 140737488351232) (hx : ∀ x ∈ ts, x.size ≤ 140737488351232) (hr : RS (fun b => b ≠ cb) w v ts)
    (hc : w.cell? ⟨cb, 0, none⟩ = some (.int .i64 m)) (hf : w.frozen? ⟨cb, 0, none⟩ = false) :
    Calls Tryz.prog 18 #[.pointer (some ⟨cb, 0, none⟩), v] w fun e w' => ∃ r, e = .returned (.bool r) ∧ FP cb m (fun m' => ts.length ≤ 2147483647 ∧ m + ((ts.map ByteArray.size).sum : Nat) ≤ m') w w' r := by
  obtain ⟨a, ca, rfl, hr⟩ := hr
  have HR : Hid (ts.length = 0 ∨ ∃ b o, a = some ⟨b, o, none⟩ ∧ b ≠ cb ∧ b < w.heap.size ∧ ∀ i x, ts[i]? = some x → w.cell? ⟨b, o + i, none⟩ = some (.string x)) := hr
  have HX : Hid (∀ x ∈ ts, x.size ≤ 140737488351232) := hx
  clear hr hx
  generalize hn : ts.length = n at *
  have HN : Hid (ts.length = n) := hn
  clear hn
  go_enter Tryz.func18, Tryz.ntmps18
  go_wp2
  go_loopw [5] (fun i wr => ∃ (k : Nat) (m' : Int), k ≤ n ∧ i = .int .i64 k ∧ Hid (Besides cb w wr) ∧ wr.frozen? ⟨cb, 0, none⟩ = false ∧ wr.cell? ⟨cb, 0, none⟩ = some (.int .i64 m') ∧ m + k ≤ m' ∧ m' ≤ 2147483647 ∧ Hid (m + (((ts.take k).map ByteArray.size).sum : Nat) ≤ m')) (fun i _ => n - (intOf i).toNat)
  case atStart => exact ⟨0, m, Nat.zero_le _, rfl, (Besides.refl _ _ : Besides cb w _), hf, hc, by omega, h1, (show m + ((0 : Nat) : Int) ≤ m by omega)⟩
  case round =>
    obtain ⟨k, m', hk, rfl, hb, hf', hc', hm, hm', HMS⟩ := hrel
    by_cases hlt : k < n
    · rcases HR.out with h | ⟨b, o, rfl, hnb, hbl, hr⟩
      · omega
      obtain ⟨x, hx⟩ : ∃ x, ts[k]? = some x := ⟨_, List.getElem?_eq_getElem (by have := HN.out; omega)⟩
      have g0 := hb.out.cell (p := ⟨b, o + k, none⟩) hnb (hr k x hx)
      have hxs := HX.out x (List.mem_of_getElem? hx)
      have HTK : Hid (((ts.take (k + 1)).map ByteArray.size).sum = ((ts.take k).map ByteArray.size).sum + x.size) := (show _ = _ by rw [List.take_add_one, hx]; simp)
      clear hr hx
      go_wp2_with fail
      refine (add30 cb m' x.size _ (by omega) hm' (by omega) (by omega) hc' hf').mono ?_
      rintro e w1 ⟨rfl, hb1, hc1, hf1⟩
      have HB1 : Hid (Besides cb w w1) := hb.out.trans hb1
      clear hb1 hb g0 hc' hf'
      by_cases hbig : 2147483647 < m' + 1 + (x.size : Int)
      · go_wp2
        go_ret
        exact ⟨true, rfl, HB1.out, hf1, _, hc1, fun h => by cases h⟩
      · go_wp2
        go_roundw
        case rel => exact ⟨k + 1, _, by omega, by go_num, HB1, hf1, hc1, by omega, by omega, (show m + (((ts.take (k + 1)).map ByteArray.size).sum : Nat) ≤ m' + 1 + (x.size : Int) by rw [HTK.out]; have := HMS.out; omega)⟩
        case measure => simp [intOf]; omega
    · obtain rfl : k = n := by omega
      go_wp2
      go_ret
      exact ⟨false, rfl, hb.out, hf', m', hc', fun _ => ⟨by omega, hm', by omega, by have h9 := HMS.out; rw [List.take_of_length_le (Nat.le_of_eq HN.out)] at h9; exact h9⟩⟩
set_option maxHeartbeats 2000000 in
theorem farLink (k : Lk) (tr pe on mo : Value) (w : World) (hk : k.ok) (hr : RL4 (fun _ => True) w k tr pe on mo) :
    Calls Tryz.prog 4 #[.agg (lkC k.l k.nm tr pe on mo)] w fun e w' => ∃ r, e = .returned (.bool r) ∧ Below w.heap.size w w' ∧ (r = false → k.small ∧ k.few) := by
  have hb0 : Below w.heap.size w ((w.alloc (Obj.cells (lkC k.l k.nm tr pe on mo) 28)).alloc (Obj.cells #[.int .i64 0] 54)) := ((Below.refl _ _).alloc (Nat.le_refl _) _).alloc (by simp) _
  have L0 : LB ((w.alloc (Obj.cells (lkC k.l k.nm tr pe on mo) 28)).alloc (Obj.cells #[.int .i64 0] 54)) w.heap.size k.l k.nm tr pe on mo := (Below.heap_alloc _ _ _ (by simp)).trans (heap_new _ _)
  have c0 : ((w.alloc (Obj.cells (lkC k.l k.nm tr pe on mo) 28)).alloc (Obj.cells #[.int .i64 0] 54)).cell? ⟨w.heap.size + 1, 0, none⟩ = some (.int .i64 0) := by go_simp
  have f0 : ((w.alloc (Obj.cells (lkC k.l k.nm tr pe on mo) 28)).alloc (Obj.cells #[.int .i64 0] 54)).frozen? ⟨w.heap.size + 1, 0, none⟩ = false := by go_simp
  have R0 : RL4 (fun b => b ≠ w.heap.size + 1) ((w.alloc (Obj.cells (lkC k.l k.nm tr pe on mo) 28)).alloc (Obj.cells #[.int .i64 0] 54)) k tr pe on mo := hr.move (fun b _ hl => by omega) hb0.size (fun b _ hl => hb0.block b hl)
  go_enter Tryz.func4, Tryz.ntmps4
  go_upto_region 2 with fail
  generalize ((w.alloc (Obj.cells (lkC k.l k.nm tr pe on mo) 28)).alloc (Obj.cells #[.int .i64 0] 54)) = w0 at *
  generalize hvb : w.heap.size = H at *
  have HS : Hid (w.heap.size = H) := hvb
  clear hvb hr
  obtain ⟨oa, oc, rfl⟩ : ∃ oa oc, on = .slice oa k.rs.length oc := by obtain ⟨p, q, e, _⟩ := R0.2.2.1; exact ⟨p, q, e⟩
  obtain ⟨s32, s33, s34, s35, s36⟩ := L0.cells hk.l
  have hnm := hk.nm
  have hrs := hk.rs
  have HK : Hid (k.ok ∧ Below H w w0 ∧ RL4 (fun b => b ≠ H + 1) w0 k tr pe (.slice oa k.rs.length oc) mo) := ⟨hk, hb0, R0⟩
  clear hk hb0 R0 L0
  have HE : Hid (∀ wE, Besides (H + 1) w0 wE → Below w.heap.size w wE) := fun wE hE => by
    have h0 := HK.out.2.1
    have h1 := HS.out
    refine ⟨hE.os.trans h0.os, hE.tape.trans h0.tape, hE.output.trans h0.output, Nat.le_trans h0.size hE.size, fun q hq => (hE.block q (Nat.lt_of_lt_of_le hq h0.size) (by omega)).trans (h0.block q (by omega))⟩
  have HRr : Hid (∀ wE, Besides (H + 1) w0 wE → RL4 (fun b => b ≠ H + 1) wE k tr pe (.slice oa k.rs.length oc) mo) := fun wE hE => HK.out.2.2.move (fun _ h _ => h) hE.size (fun b h hl => hE.block b hl h)
  go_wp2_with fail
  refine (add30 (H + 1) 0 ((k.nm.size : Int) + (k.rs.length : Int)) w0 (by omega) (by omega) (by omega) (by omega) c0 f0).mono ?_
  rintro e w1 ⟨rfl, hb1, hc1, hf1⟩
  replace s33 := hb1.cell (p := ⟨H, 33, none⟩) (show H ≠ H + 1 by omega) s33
  replace s34 := hb1.cell (p := ⟨H, 34, none⟩) (show H ≠ H + 1 by omega) s34
  replace s36 := hb1.cell (p := ⟨H, 36, none⟩) (show H ≠ H + 1 by omega) s36
  have HB1 : Hid (Besides (H + 1) w0 w1) := hb1
  clear hb1 s32 s35 c0 f0
  by_cases hbig : 2147483647 < 0 + 1 + ((k.nm.size : Int) + (k.rs.length : Int))
  · go_wp2
    go_ret
    exact ⟨true, rfl, HE.out _ HB1.out, fun h => by cases h⟩
  have Hrs : Hid (k.rs.length ≤ 2147483647) := (by omega : k.rs.length ≤ 2147483647)
  generalize hm1 : 0 + 1 + ((k.nm.size : Int) + (k.rs.length : Int)) = m1 at *
  have hm10 : 0 ≤ m1 := by omega
  have HM1 : Hid ((k.nm.size : Int) ≤ m1) := (show (k.nm.size : Int) ≤ m1 by omega)
  clear hm1
  go_wp2_with fail
  refine (texts (H + 1) m1 tr k.ts w1 hm10 (by omega) HK.out.1.ts.1 HK.out.1.ts.2 (HRr.out _ HB1.out).1 hc1 hf1).mono ?_
  rintro e w2 ⟨r, rfl, hb2, hf2, m2, hc2, hm2⟩
  replace s34 := hb2.cell (p := ⟨H, 34, none⟩) (show H ≠ H + 1 by omega) s34
  replace s36 := hb2.cell (p := ⟨H, 36, none⟩) (show H ≠ H + 1 by omega) s36
  have HB2 : Hid (Besides (H + 1) w0 w2) := HB1.out.trans hb2
  clear hb2 s33 hc1 hf1 HB1
  cases r with
  | true =>
    go_wp2
    go_ret
    exact ⟨true, rfl, HE.out _ HB2.out, fun h => by cases h⟩
  | false =>
    obtain ⟨hm21, hm22, hts, hsum2⟩ := hm2 rfl
    have HM2 : Hid ((k.nm.size : Int) + ((k.ts.map ByteArray.size).sum : Nat) ≤ m2) := (show (k.nm.size : Int) + ((k.ts.map ByteArray.size).sum : Nat) ≤ m2 by have := HM1.out; omega)
    clear hsum2
    have Hts : Hid (k.ts.length ≤ 2147483647) := hts
    have hm20 : 0 ≤ m2 := by omega
    clear hts hm2 hm21
    go_wp2_with fail
    refine (texts (H + 1) m2 pe k.ps w2 hm20 (by omega) HK.out.1.ps.1 HK.out.1.ps.2 (HRr.out _ HB2.out).2.1 hc2 hf2).mono ?_
    rintro e w3 ⟨r, rfl, hb3, hf3, m3, hc3, hm3⟩
    replace s36 := hb3.cell (p := ⟨H, 36, none⟩) (show H ≠ H + 1 by omega) s36
    have HB3 : Hid (Besides (H + 1) w0 w3) := HB2.out.trans hb3
    clear hb3 s34 hc2 hf2 HB2
    cases r with
    | true =>
      go_wp2
      go_ret
      exact ⟨true, rfl, HE.out _ HB3.out, fun h => by cases h⟩
    | false =>
      obtain ⟨hm31, hm32, hps, hsum3⟩ := hm3 rfl
      have HM3 : Hid ((k.nm.size : Int) + ((k.ts.map ByteArray.size).sum : Nat) + ((k.ps.map ByteArray.size).sum : Nat) ≤ m3) := (show (k.nm.size : Int) + ((k.ts.map ByteArray.size).sum : Nat) + ((k.ps.map ByteArray.size).sum : Nat) ≤ m3 by have := HM2.out; omega)
      clear hsum3
      have Hps : Hid (k.ps.length ≤ 2147483647) := hps
      have hm30 : 0 ≤ m3 := by omega
      clear hps hm3 hm31
      go_wp2_with fail
      refine (pairs31 (H + 1) m3 65520 k.dn k.ky k.dv (fun i _ => value18 (k.dv i)) mo w3 hm30 (by omega) (by omega) (by omega) HK.out.1.dn.2 HK.out.1.dn.1 (HRr.out _ HB3.out).2.2.2 hc3 hf3).mono ?_
      rintro e w4 ⟨r, rfl, hb4, hf4, m4, hc4, hm4⟩
      have HB4 : Hid (Besides (H + 1) w0 w4) := HB3.out.trans hb4
      have HM : Hid (r = false → k.small ∧ k.few) := fun h => ⟨⟨Hts.out, Hps.out, Hrs.out, (hm4 h).2.2.1⟩, by have h1 := (hm4 h).2.2.2; have h2 := (hm4 h).2.1; have h3 := HM3.out; unfold Lk.few; omega⟩
      clear hb4 hm4 hc4 hf4 hc3 hf3 s36 HB3
      go_wp2
      go_ret
      exact ⟨r, rfl, HE.out _ HB4.out, HM.out⟩
end Go.Proofs.YtnpcbcfjnhjmmaaGreatDoor
namespace Go.Proofs.YtnpcbcfjnhjmmaaGreatDoor
open Go.RowKit Go.Deep
theorem len32 {α : Type} {l : List α} (h : l.length = 32) : ∃ x0 x1 x2 x3 x4 x5 x6 x7 x8 x9 x10 x11 x12 x13 x14 x15 x16 x17 x18 x19 x20 x21 x22 x23 x24 x25 x26 x27 x28 x29 x30 x31, l = [x0, x1, x2, x3, x4, x5, x6, x7, x8, x9, x10, x11, x12, x13, x14, x15, x16, x17, x18, x19, x20, x21, x22, x23, x24, x25, x26, x27, x28, x29, x30, x31] := by
  match l, h with
  | [x0, x1, x2, x3, x4, x5, x6, x7, x8, x9, x10, x11, x12, x13, x14, x15, x16, x17, x18, x19, x20, x21, x22, x23, x24, x25, x26, x27, x28, x29, x30, x31], _ => exact ⟨x0, x1, x2, x3, x4, x5, x6, x7, x8, x9, x10, x11, x12, x13, x14, x15, x16, x17, x18, x19, x20, x21, x22, x23, x24, x25, x26, x27, x28, x29, x30, x31, rfl⟩
theorem built_link {l : List UInt8} (hl : l.length = 32) (nm : ByteArray) (a : Option Addr) (n c : Nat) :
    Tryz.prog.built 28 [(0, .agg (Lib.byteCells l).toArray), (1, .string nm), (5, .slice a n c)] = some (lkC l nm (.slice none 0 0) (.slice none 0 0) (.slice none 0 0) (.slice a n c)) := by
  obtain ⟨x0, x1, x2, x3, x4, x5, x6, x7, x8, x9, x10, x11, x12, x13, x14, x15, x16, x17, x18, x19, x20, x21, x22, x23, x24, x25, x26, x27, x28, x29, x30, x31, rfl⟩ := len32 hl
  kernel_rfl
theorem yields_build {ops : Array Oper} {S : World → Prop} {op : Oper} {a : Act} (hw : Region.wanted op (yielded ops a.tmps) = true) (t : TypeId) (parts : Array (Nat × Operand)) (ho : op.op = .build t parts)
    (cells : Array Value) (hc : Tryz.prog.built t (parts.map fun (i, x) => (i, a.eval x)).toList = some cells) : YieldsIf Tryz.prog ops S op (.agg cells) a :=
  .inl ⟨hw, fun w _ => by
    unfold execOp
    simp only [ho, Sem.run_bind, run_build w t _ cells hc, Result.andThen_ok]
    rfl⟩
theorem yields_link {ops : Array Oper} {S : World → Prop} {op : Oper} {act : Act} (hw : Region.wanted op (yielded ops act.tmps) = true) (x0 x1 x2 : Operand) (ho : op.op = .build 28 #[(0, x0), (1, x1), (5, x2)]) {l : List UInt8} (hl : l.length = 32) (nm : ByteArray) (a : Option Addr) (n c : Nat)
    (h0 : act.eval x0 = .agg (Lib.byteCells l).toArray) (h1 : act.eval x1 = .string nm) (h2 : act.eval x2 = .slice a n c) : YieldsIf Tryz.prog ops S op (.agg (lkC l nm (.slice none 0 0) (.slice none 0 0) (.slice none 0 0) (.slice a n c))) act :=
  yields_build hw _ _ ho _ (by
    have e : (#[(0, x0), (1, x1), (5, x2)].map fun (i, y) => (i, act.eval y)).toList = [(0, .agg (Lib.byteCells l).toArray), (1, .string nm), (5, .slice a n c)] := by simp [h0, h1, h2]
    rw [e]
    exact built_link hl nm a n c)
end Go.Proofs.YtnpcbcfjnhjmmaaGreatDoor
