import Derived.Test.YtabjpffaleaoaaaGreatDoorM24
import Derived.Test.YtabjpffaleaoaaaGreatDoorM18
import Derived.Test.YtabjpffaleaoaaaGreatDoorM13
import Derived.Lib.SmallJoins
import Derived.Lib.LaidTab
import Derived.LaidMore
namespace Go.Proofs.YtabjpffaleaoaaaGreatDoor
open Go.ChangeShapes Go.WideShapes Go.ChangeAt Go.RowKit Go.Deep
theorem one_of {L : List Value} {k : Nat} (h : k < L.length) : ∃ v, (L.drop k).take 1 = [v] := ⟨L[k], by rw [List.drop_eq_getElem_cons h]; rfl⟩
theorem bulk_times {H : Type} (c : Nat) : ∀ E : List (DataW H), (∀ e ∈ E, c ≤ Rows.uptoBulk e) → c * E.length ≤ Rows.uptoBulkAll E
  | [], _ => by simp
  | d :: E, h => by
    have h1 := bulk_times c E (fun e he => h e (by simp [he]))
    have h2 := h d (by simp)
    simp only [Rows.uptoBulkAll, List.length_cons, Nat.mul_add, Nat.mul_one]
    omega
section
variable {H : Type} {enc : TypeId × Value → H} {w : World}
set_option maxRecDepth 100000 in
theorem hashBulk {m : Nat} {cs : List Value} {x : DataW H × List MemPlace} (h : DataW.trod enc Tryz.prog w 0 (fun _ => true) true m 25 cs = some x) : 32 ≤ Rows.uptoBulk x.1 := by
  obtain ⟨xs, m', _, hx, hlen, hxs, hget⟩ := DataW.trod_array Tryz.underlying25 h
  have e : x.1 = .agg (xs.map (·.1)) := congrArg Prod.fst hx
  rw [e]
  simp only [Rows.uptoBulk]
  have := bulk_len (xs.map (·.1))
  rw [List.length_map, hxs] at this
  omega
set_option maxRecDepth 100000 in
theorem openHashesB {fuel : Nat} {v : Value} {x : DataW H × List MemPlace} (h : DataW.trod enc Tryz.prog w 0 (fun _ => true) true fuel 45 [v] = some x) :
    ∃ l, RH w v l ∧ l.length + 1 ≤ Rows.uptoBulk x.1 := by
  have c32 : Tryz.prog.cellsOf 25 = 32 := by kernel_rfl
  obtain ⟨a, len, cap, rfl, hlc, hrow⟩ := openRowB Tryz.underlying45 h (by rw [c32]; omega)
  rcases hrow with rfl | ⟨m, elems, hlen, hbulk, b, o, rfl, hlt, hel⟩
  · exact ⟨[], ⟨a, 0, cap, rfl, rfl, hlc, .inl rfl⟩, by have := bulk_pos x.1; simpa using this⟩
  have key : ∀ i, i < len * 32 → ∃ y : UInt8, w.cell? ⟨b, o + i, none⟩ = some (.int .u8 (y.toNat : Int)) := by
    intro i hi
    obtain ⟨cs', h1, h2, h3⟩ := hel (i / 32) (by omega)
    rw [c32] at h1 h2
    obtain ⟨hl32, hby⟩ := cellsHash h3
    obtain ⟨y, hy⟩ := hby (i % 32) (by omega)
    refine ⟨y, ?_⟩
    have := h2 (i % 32) (by omega)
    rw [hy, show o + i / 32 * 32 + i % 32 = o + i by omega] at this
    exact this
  have hinh : Inhabited UInt8 := ⟨0⟩
  obtain ⟨f, hf⟩ := choose_lt key
  obtain ⟨l, hll, hl⟩ := lists_of f (len * 32)
  refine ⟨l, ⟨_, len, cap, rfl, hll, hlc, .inr ⟨b, o, rfl, hlt, fun i hi => ?_⟩⟩, ?_⟩
  · rw [hll] at hi
    have : byt l i = f i := by unfold byt; simp [List.getD, hl i hi]
    rw [this]; exact hf i hi
  · have h9 := bulk_times 32 (elems.map (·.1)) (fun e he => by
      obtain ⟨y, hy, rfl⟩ := List.mem_map.1 he
      obtain ⟨i, hi, rfl⟩ := List.getElem_of_mem hy
      obtain ⟨cs', _, _, h3⟩ := hel i hi
      exact hashBulk h3)
    rw [List.length_map] at h9
    omega
set_option maxRecDepth 100000 in
/-- the cells of a message, and its bulk -/
theorem openMsgC {fuel : Nat} {cs : List Value} {x : DataW H × List MemPlace} (hf : DataW.trod enc Tryz.prog w 0 (fun _ => true) true fuel 47 cs = some x) (hbk : Rows.uptoBulk x.1 ≤ 1048576) :
    ∃ y : Mg, cs = y.m.ls ∧ MM w y.m y.D y.hb ∧ 10 + y.D.length + y.hb.length ≤ Rows.uptoBulk x.1 := by
  obtain ⟨xs, n, _, hx, hl, hlen, hf⟩ := DataW.trod_struct Tryz.underlying47 hf
  have hL : xs.length = 9 := hlen
  have hd : x.1 = .agg (xs.map (·.1)) := congrArg Prod.fst hx
  have hcs : cs.length = 40 := hl.trans (by kernel_rfl)
  have f0 : DataW.trod enc Tryz.prog w 0 (fun _ => true) true n 3 ((cs.drop 0).take (Tryz.prog.cellsOf 3)) = xs[0]? := hf 0 _ rfl
  have f1 : DataW.trod enc Tryz.prog w 0 (fun _ => true) true n 3 ((cs.drop 1).take (Tryz.prog.cellsOf 3)) = xs[1]? := hf 1 _ rfl
  have f2 : DataW.trod enc Tryz.prog w 0 (fun _ => true) true n 3 ((cs.drop 2).take (Tryz.prog.cellsOf 3)) = xs[2]? := hf 2 _ rfl
  have f3 : DataW.trod enc Tryz.prog w 0 (fun _ => true) true n 3 ((cs.drop 3).take (Tryz.prog.cellsOf 3)) = xs[3]? := hf 3 _ rfl
  have f4 : DataW.trod enc Tryz.prog w 0 (fun _ => true) true n 31 ((cs.drop 4).take (Tryz.prog.cellsOf 31)) = xs[4]? := hf 4 _ rfl
  have f5 : DataW.trod enc Tryz.prog w 0 (fun _ => true) true n 25 ((cs.drop 5).take (Tryz.prog.cellsOf 25)) = xs[5]? := hf 5 _ rfl
  have f6 : DataW.trod enc Tryz.prog w 0 (fun _ => true) true n 3 ((cs.drop 37).take (Tryz.prog.cellsOf 3)) = xs[6]? := hf 6 _ rfl
  have f7 : DataW.trod enc Tryz.prog w 0 (fun _ => true) true n 3 ((cs.drop 38).take (Tryz.prog.cellsOf 3)) = xs[7]? := hf 7 _ rfl
  have f8 : DataW.trod enc Tryz.prog w 0 (fun _ => true) true n 45 ((cs.drop 39).take (Tryz.prog.cellsOf 45)) = xs[8]? := hf 8 _ rfl
  obtain ⟨y0, y1, y2, y3, y4, y5, y6, y7, y8, rfl⟩ : ∃ y0 y1 y2 y3 y4 y5 y6 y7 y8, xs = [y0, y1, y2, y3, y4, y5, y6, y7, y8] := by
    match xs, hL with
    | [y0, y1, y2, y3, y4, y5, y6, y7, y8], _ => exact ⟨y0, y1, y2, y3, y4, y5, y6, y7, y8, rfl⟩
  clear hf
  replace f0 : _ = some y0 := f0
  replace f1 : _ = some y1 := f1
  replace f2 : _ = some y2 := f2
  replace f3 : _ = some y3 := f3
  replace f4 : _ = some y4 := f4
  replace f5 : _ = some y5 := f5
  replace f6 : _ = some y6 := f6
  replace f7 : _ = some y7 := f7
  replace f8 : _ = some y8 := f8
  have k3 : Tryz.prog.cellsOf 3 = 1 := by kernel_rfl
  have k22 : Tryz.prog.cellsOf 31 = 1 := by kernel_rfl
  have k26 : Tryz.prog.cellsOf 45 = 1 := by kernel_rfl
  have k25 : Tryz.prog.cellsOf 25 = 32 := by kernel_rfl
  rw [k3] at f0 f1 f2 f3 f6 f7
  rw [k22] at f4
  rw [k25] at f5
  rw [k26] at f8
  obtain ⟨a0, e0, _⟩ := DataW.trod_int Tryz.underlying3 f0
  obtain ⟨a1, e1, _⟩ := DataW.trod_int Tryz.underlying3 f1
  obtain ⟨a2, e2, _⟩ := DataW.trod_int Tryz.underlying3 f2
  obtain ⟨a3, e3, _⟩ := DataW.trod_int Tryz.underlying3 f3
  obtain ⟨a6, e6, _⟩ := DataW.trod_int Tryz.underlying3 f6
  obtain ⟨a7, e7, _⟩ := DataW.trod_int Tryz.underlying3 f7
  obtain ⟨dv, e4⟩ := one_of (L := cs) (k := 4) (by omega)
  obtain ⟨hv', e8⟩ := one_of (L := cs) (k := 39) (by omega)
  rw [e4] at f4
  rw [e8] at f8
  obtain ⟨D, rd, dl⟩ := openBytesB f4
  obtain ⟨hb, rh, hl8⟩ := openHashesB f8
  obtain ⟨l5, b5⟩ := cellsHash f5
  have e5 := bytes_of (cs := (cs.drop 5).take 32) (fun i hi => b5 i (by rw [l5] at hi; exact hi))
  have hbulk : 10 + D.length + hb.length ≤ Rows.uptoBulk x.1 := by
    rw [hd]
    simp only [List.map_cons, List.map_nil, Rows.uptoBulk, Rows.uptoBulkAll]
    have p0 := bulk_pos y0.1
    have p1 := bulk_pos y1.1
    have p2 := bulk_pos y2.1
    have p3 := bulk_pos y3.1
    have p5 := bulk_pos y5.1
    have p6 := bulk_pos y6.1
    have p7 := bulk_pos y7.1
    omega
  refine ⟨⟨⟨a0, a1, a2, a3, dv, ((cs.drop 5).take 32).map asB, a6, a7, hv'⟩, D, hb⟩, ?_, ⟨⟨by rw [List.length_map, l5], ?_, ?_⟩, rd, rh, by simp only; omega, by simp only; omega⟩, hbulk⟩
  · have e := split40 _ hcs
    rw [e0, e1, e2, e3, e4, e5, e6, e7, e8] at e
    exact e.trans (by simp [Mv.ls])
  · obtain ⟨a, c, e, _⟩ := rd
    exact ⟨_, _, _, e⟩
  · obtain ⟨a, n, c, e, _⟩ := rh
    exact ⟨_, _, _, e⟩
/-- how much these messages weigh -/
def mgW (ms : List Mg) : Nat := (ms.map fun y => 10 + y.D.length + y.hb.length).sum
theorem mgW_bulk : ∀ (ms : List Mg) (E : List (DataW H)), ms.length = E.length → (∀ i (hi : i < E.length) y, ms[i]? = some y → 10 + y.D.length + y.hb.length ≤ Rows.uptoBulk E[i]) → mgW ms ≤ Rows.uptoBulkAll E
  | [], _, _, _ => by simp [mgW]
  | y :: ms, [], h, _ => by simp at h
  | y :: ms, e :: E, h, hb => by
    have h1 := mgW_bulk ms E (by simpa using h) (fun i hi z hz => hb (i + 1) (by simpa using hi) z (by simpa using hz))
    have h2 := hb 0 (by simp) y rfl
    simp only [List.getElem_cons_zero] at h2
    simp only [mgW, List.map_cons, List.sum_cons, Rows.uptoBulkAll] at h1 ⊢
    omega
set_option maxRecDepth 100000 in
/-- an argument that is a slice of messages -/
theorem openMsgsU {base : Nat} {v : Value} {d : DataW H} {ps : List MemPlace} (hv : Value.okWide Tryz.prog w .any base 68 v)
    (h : DataW.Trod enc Tryz.prog w 0 (fun _ => true) true 68 v d ps) (hbk : Rows.uptoBulk d ≤ 1048576) : ∃ ms, RMS w v ms ∧ mgW ms + 1 ≤ Rows.uptoBulk d := by
  obtain ⟨a0, len0, cap0, rfl⟩ := okWide_slice Tryz.underlying68 hv
  obtain ⟨fuel, hf⟩ := h
  have hf' : DataW.trod enc Tryz.prog w 0 (fun _ => true) true fuel 68 [.slice a0 len0 cap0] = some (d, ps) := hf
  have c40 : Tryz.prog.cellsOf 47 = 40 := by kernel_rfl
  obtain ⟨a, len, cap, he, hlc, hrow⟩ := openRowB Tryz.underlying68 hf' (by rw [c40]; omega)
  rw [he]
  rcases hrow with rfl | ⟨m, elems, hlen, hbulk, b, o, rfl, hlt, hel⟩
  · exact ⟨[], ⟨a, cap, rfl, hlc, .inl rfl, by simp⟩, by have := bulk_pos d; simpa [mgW] using this⟩
  have key : ∀ i, i < len → ∃ y : Mg, w.rangeAt b (o + i * 40) y.m.ls ∧ MM w y.m y.D y.hb ∧ ∀ hi : i < elems.length, 10 + y.D.length + y.hb.length ≤ Rows.uptoBulk elems[i].1 := by
    intro i hi
    obtain ⟨cs, h1, h2, h3⟩ := hel i (by omega)
    rw [c40] at h1 h2
    have hbi : Rows.uptoBulk elems[i].1 ≤ Rows.uptoBulkAll (elems.map (·.1)) := bulk_mem (List.mem_map.2 ⟨elems[i], List.getElem_mem _, rfl⟩)
    obtain ⟨y, e1, e2, e3⟩ := openMsgC h3 (by simp only at hbulk; omega)
    refine ⟨y, fun j u hu => ?_, e2, fun _ => e3⟩
    have hj : j < 40 := by
      have := (List.getElem?_eq_some_iff.1 hu).1
      rw [ok_ls e2.ok] at this; exact this
    rw [h2 j hj, e1]; exact hu
  have hinh : Inhabited Mg := ⟨⟨zm, [], []⟩⟩
  obtain ⟨f, hf2⟩ := choose_lt key
  obtain ⟨ms, hml, hms⟩ := lists_of f len
  refine ⟨ms, ⟨_, cap, by rw [hml], by omega, .inr ⟨b, o, rfl, hlt, fun i x hx => ?_⟩, fun x hx => ?_⟩, ?_⟩
  · have hi : i < len := by rw [← hml]; exact (List.getElem?_eq_some_iff.1 hx).1
    rw [hms i hi] at hx
    cases hx
    exact (hf2 i hi).1
  · obtain ⟨i, hi, rfl⟩ := List.getElem_of_mem hx
    have hi' : i < len := by omega
    have := hms i hi'
    rw [List.getElem?_eq_getElem hi] at this
    have e9 := Option.some.inj this
    rw [e9]
    exact (hf2 i hi').2.1
  · have h9 := mgW_bulk ms (elems.map (·.1)) (by rw [List.length_map]; omega) (fun i hi y hy => by
      rw [List.length_map] at hi
      rw [hms i (by omega)] at hy
      cases hy
      rw [List.getElem_map]
      exact (hf2 i (by omega)).2.2 hi)
    simp only at hbulk
    omega
end
end Go.Proofs.YtabjpffaleaoaaaGreatDoor
namespace Go.Proofs.YtabjpffaleaoaaaGreatDoor
open Go.ChangeShapes Go.WideShapes Go.ChangeAt Go.RowKit Go.Joins Go.Deep
section
variable {H : Type} {enc : TypeId × Value → H} {w : World}
set_option maxRecDepth 100000 in
theorem openMsgU {base : Nat} {v : Value} {d : DataW H} {p : List MemPlace} (hv : Value.okWide Tryz.prog w .any base 47 v)
    (h : DataW.Trod enc Tryz.prog w 0 (fun _ => true) true 47 v d p) (hbk : Rows.uptoBulk d ≤ 1048576) : ∃ y : Mg, v = .agg y.m.cs ∧ MM w y.m y.D y.hb ∧ 10 + y.D.length + y.hb.length ≤ Rows.uptoBulk d := by
  obtain ⟨cs, rfl, _⟩ := okWide_struct Tryz.underlying47 hv
  obtain ⟨fuel, hf⟩ := h
  obtain ⟨y, e, hm, hl⟩ := openMsgC hf hbk
  refine ⟨y, ?_, hm, hl⟩
  have e' : cs.toList = y.m.ls := e
  rw [Mv.cs, ← e']
set_option maxRecDepth 100000 in
/-- a list of numbers that is read, and its bulk -/
theorem openIntsZ {base : Nat} {v : Value} {d : DataW H} {ps : List MemPlace} (hv : Value.okWide Tryz.prog w .any base 26 v)
    (h : DataW.Trod enc Tryz.prog w 0 (fun _ => true) true 26 v d ps) : ∃ zs, Bs.RZ w v zs ∧ zs.length + 1 ≤ Rows.uptoBulk d ∧ (∀ z ∈ zs, -9223372036854775808 ≤ z ∧ z ≤ 9223372036854775807) := by
  obtain ⟨a0, len0, cap0, rfl⟩ := okWide_slice Tryz.underlying26 hv
  obtain ⟨fuel, hf⟩ := h
  have hf' : DataW.trod enc Tryz.prog w 0 (fun _ => true) true fuel 26 [.slice a0 len0 cap0] = some (d, ps) := hf
  obtain ⟨a, len, cap, e, hlc, hrow⟩ := openRowB Tryz.underlying26 hf' (by rw [cells3]; omega)
  obtain ⟨rfl, rfl, rfl⟩ : a0 = a ∧ len0 = len ∧ cap0 = cap := by simpa using e
  rcases hrow with rfl | ⟨m, elems, hlen, hbulk, b, o, rfl, hlt, hel⟩
  · exact ⟨[], ⟨_, _, rfl, fun _ => rfl, .inl rfl⟩, by have := bulk_pos d; simpa using this, fun z hz => by cases hz⟩
  have : ∀ i, i < len0 → ∃ c : Int, w.cell? ⟨b, o + i, none⟩ = some (.int .i64 c) ∧ -9223372036854775808 ≤ c ∧ c ≤ 9223372036854775807 := fun i hi => by
    obtain ⟨cs, hcl, hc, ht⟩ := hel i (by omega)
    have h0 := hc 0 (by rw [cells3]; omega)
    rw [cells3] at h0 hcl
    obtain ⟨y, rfl⟩ := List.length_eq_one_iff.1 hcl
    obtain ⟨z, e0, _, wa⟩ := DataW.trod_int Tryz.underlying3 ht
    have hz : -9223372036854775808 ≤ z ∧ z ≤ 9223372036854775807 := by simpa [Lit.wf, IntKind.min, IntKind.max, IntKind.signed, IntKind.bits] using wa
    simp at e0
    subst e0
    refine ⟨z, ?_, hz⟩
    simpa using h0
  have hinh : Inhabited Int := ⟨0⟩
  obtain ⟨f, hf⟩ := choose_lt this
  obtain ⟨l, rfl, hl⟩ := lists_of f len0
  refine ⟨l, ⟨_, _, rfl, (fun h => by cases h), .inr ⟨b, o, rfl, hlt, fun i hi => ?_⟩⟩, ?_, fun z hz => ?_⟩
  · have : Bs.iz l i = f i := by unfold Bs.iz; simp [List.getD, hl i hi]
    rw [this]; exact (hf i hi).1
  · have := bulk_len (elems.map (·.1)); rw [List.length_map] at this; show _ ≤ Rows.uptoBulk d; have : Rows.uptoBulk (d, ps).1 = Rows.uptoBulk d := rfl; omega
  · obtain ⟨i, hi, rfl⟩ := List.getElem_of_mem hz
    have h1 := hl i hi
    rw [List.getElem?_eq_getElem hi] at h1
    rw [Option.some.inj h1]
    exact (hf i hi).2
theorem cells23 : Tryz.prog.cellsOf 23 = 2 := by kernel_rfl
set_option maxRecDepth 100000 in
/-- a scale -/
theorem openScale {base : Nat} {v : Value} {d : DataW H} {p : List MemPlace} (hv : Value.okWide Tryz.prog w .any base 23 v)
    (h : DataW.Trod enc Tryz.prog w 0 (fun _ => true) true 23 v d p) : ∃ a b : Int, v = Bs.sc a b ∧ -9223372036854775808 ≤ a ∧ a ≤ 9223372036854775807 ∧ -9223372036854775808 ≤ b ∧ b ≤ 9223372036854775807 := by
  obtain ⟨c0, c1, y0, y1, m, rfl, rfl, rfl, hy0, hy1⟩ := open_agg2 Tryz.underlying23 (by kernel_rfl) cells23 hv h
  obtain ⟨a, e0, -, wa⟩ := DataW.trod_int Tryz.underlying3 hy0
  obtain ⟨b, e1, -, wb⟩ := DataW.trod_int Tryz.underlying3 hy1
  simp at e0 e1
  subst e0 e1
  have ha : -9223372036854775808 ≤ a ∧ a ≤ 9223372036854775807 := by simpa [Lit.wf, IntKind.min, IntKind.max, IntKind.signed, IntKind.bits] using wa
  have hb : -9223372036854775808 ≤ b ∧ b ≤ 9223372036854775807 := by simpa [Lit.wf, IntKind.min, IntKind.max, IntKind.signed, IntKind.bits] using wb
  exact ⟨a, b, rfl, ha.1, ha.2, hb.1, hb.2⟩
set_option maxRecDepth 100000 in
/-- a hash -/
theorem openHashU {base : Nat} {v : Value} {d : DataW H} {p : List MemPlace} (hv : Value.okWide Tryz.prog w .any base 25 v)
    (h : DataW.Trod enc Tryz.prog w 0 (fun _ => true) true 25 v d p) : ∃ hb : List UInt8, v = .agg (bc hb) ∧ hb.length = 32 := by
  simp only [Value.okWide, Tryz.underlying25] at hv
  obtain ⟨cs, rfl, _⟩ := hv
  obtain ⟨fuel, hf⟩ := h
  obtain ⟨l5, b5⟩ := cellsHash (cs := cs.toList) hf
  have e5 := bytes_of (cs := cs.toList) (fun i hi => b5 i (by rw [l5] at hi; exact hi))
  refine ⟨cs.toList.map asB, ?_, by rw [List.length_map, l5]⟩
  unfold bc
  rw [← e5]
set_option maxRecDepth 100000 in
/-- the cells of an array of bytes -/
theorem cellsArr {t : TypeId} {n : Nat} (ht : Tryz.prog.underlying t = some (.array n 5)) (hc : Tryz.prog.cellsOf t = n) {fuel : Nat} {cs : List Value} {x : DataW H × List MemPlace}
    (hf : DataW.trod enc Tryz.prog w 0 (fun _ => true) true fuel t cs = some x) : cs.length = n ∧ ∀ i, i < n → ∃ a : UInt8, cs[i]? = some (.int .u8 (a.toNat : Int)) := by
  obtain ⟨xs, m, _, _, hlen, hxs, hget⟩ := DataW.trod_array ht hf
  have c5 : Tryz.prog.cellsOf 5 = 1 := by kernel_rfl
  rw [hc] at hlen
  refine ⟨hlen, fun i hi => ?_⟩
  have h1 := hget i hi
  rw [c5, Nat.mul_one, List.getElem?_eq_getElem (by omega)] at h1
  exact cellByte (by omega) h1
set_option maxRecDepth 100000 in
/-- a handshake -/
theorem openHelloU {base : Nat} {v : Value} {d : DataW H} {p : List MemPlace} (hv : Value.okWide Tryz.prog w .any base 30 v)
    (h : DataW.Trod enc Tryz.prog w 0 (fun _ => true) true 30 v d p) : ∃ hb : List UInt8, v = .agg (bc hb) ∧ hb.length = 48 := by
  obtain ⟨cs, rfl, _⟩ := okWide_struct Tryz.underlying30 hv
  obtain ⟨fuel, hf⟩ := h
  obtain ⟨xs, n, _, hx, hl, hlen, hf⟩ := DataW.trod_struct (cs := cs.toList) Tryz.underlying30 hf
  have hL : xs.length = 3 := hlen
  have hcs : cs.toList.length = 48 := hl.trans (by kernel_rfl)
  have f0 : DataW.trod enc Tryz.prog w 0 (fun _ => true) true n 27 ((cs.toList.drop 0).take (Tryz.prog.cellsOf 27)) = xs[0]? := hf 0 _ rfl
  have f1 : DataW.trod enc Tryz.prog w 0 (fun _ => true) true n 28 ((cs.toList.drop 8).take (Tryz.prog.cellsOf 28)) = xs[1]? := hf 1 _ rfl
  have f2 : DataW.trod enc Tryz.prog w 0 (fun _ => true) true n 28 ((cs.toList.drop 28).take (Tryz.prog.cellsOf 28)) = xs[2]? := hf 2 _ rfl
  obtain ⟨y0, y1, y2, rfl⟩ : ∃ y0 y1 y2, xs = [y0, y1, y2] := by
    match xs, hL with
    | [y0, y1, y2], _ => exact ⟨y0, y1, y2, rfl⟩
  clear hf
  replace f0 : _ = some y0 := f0
  replace f1 : _ = some y1 := f1
  replace f2 : _ = some y2 := f2
  have k8 : Tryz.prog.cellsOf 27 = 8 := by kernel_rfl
  have k20 : Tryz.prog.cellsOf 28 = 20 := by kernel_rfl
  rw [k8] at f0
  rw [k20] at f1 f2
  obtain ⟨l0, b0⟩ := cellsArr Tryz.underlying27 k8 f0
  obtain ⟨l1, b1⟩ := cellsArr Tryz.underlying28 k20 f1
  obtain ⟨l2, b2⟩ := cellsArr Tryz.underlying28 k20 f2
  have key : ∀ i, i < cs.toList.length → ∃ a : UInt8, cs.toList[i]? = some (.int .u8 (a.toNat : Int)) := fun i hi => by
    by_cases h8 : i < 8
    · obtain ⟨a, ha⟩ := b0 i h8
      rw [List.getElem?_take_of_lt h8, List.getElem?_drop, Nat.zero_add] at ha
      exact ⟨a, ha⟩
    · by_cases h28 : i < 28
      · obtain ⟨a, ha⟩ := b1 (i - 8) (by omega)
        rw [List.getElem?_take_of_lt (by omega), List.getElem?_drop, show 8 + (i - 8) = i by omega] at ha
        exact ⟨a, ha⟩
      · obtain ⟨a, ha⟩ := b2 (i - 28) (by omega)
        rw [List.getElem?_take_of_lt (by omega), List.getElem?_drop, show 28 + (i - 28) = i by omega] at ha
        exact ⟨a, ha⟩
  have e5 := bytes_of key
  refine ⟨cs.toList.map asB, ?_, by rw [List.length_map, hcs]⟩
  unfold bc
  rw [← e5]
end
end Go.Proofs.YtabjpffaleaoaaaGreatDoor
namespace Go.Proofs.YtabjpffaleaoaaaGreatDoor
open Go.ChangeShapes Go.WideShapes Go.ChangeAt Go.RowKit
/-- what a row of the table reads as -/
def rowD (r : Kr) : DataW Unit := .agg [.lit (.int .i64 r.k), .lit (.int .i64 r.le), .lit (.int .i64 r.mo), .lit (.int .i64 r.st), Lib.tabData .i64 (r.fs.map fun (n : Nat) => (n : Int))]
set_option maxRecDepth 100000 in
theorem row_cellsK {enc : TypeId × Value → Unit} {W : World} {base : Nat} {sp : Nat → Bool} {held : Bool} {fuel : Nat} {cs : List Value} {r : Kr} {p : List MemPlace}
    (h : DataW.trod enc Tryz.prog W base sp held fuel 126 cs = some (rowD r, p)) : cs = r.ls := by
  obtain ⟨xs, n, _, hx, hl, hlen, hf⟩ := DataW.trod_struct Tryz.underlying126 h
  have hL : xs.length = 5 := hlen
  have hd : rowD r = .agg (xs.map (·.1)) := congrArg Prod.fst hx
  have hc : cs.length = 11 := hl.trans (by kernel_rfl)
  have f0 : DataW.trod enc Tryz.prog W base sp held n 3 ((cs.drop 0).take (Tryz.prog.cellsOf 3)) = xs[0]? := hf 0 _ rfl
  have f1 : DataW.trod enc Tryz.prog W base sp held n 3 ((cs.drop 1).take (Tryz.prog.cellsOf 3)) = xs[1]? := hf 1 _ rfl
  have f2 : DataW.trod enc Tryz.prog W base sp held n 3 ((cs.drop 2).take (Tryz.prog.cellsOf 3)) = xs[2]? := hf 2 _ rfl
  have f3 : DataW.trod enc Tryz.prog W base sp held n 3 ((cs.drop 3).take (Tryz.prog.cellsOf 3)) = xs[3]? := hf 3 _ rfl
  have f4 : DataW.trod enc Tryz.prog W base sp held n 124 ((cs.drop 4).take (Tryz.prog.cellsOf 124)) = xs[4]? := hf 4 _ rfl
  obtain ⟨y0, y1, y2, y3, y4, rfl⟩ : ∃ y0 y1 y2 y3 y4, xs = [y0, y1, y2, y3, y4] := by
    match xs, hL with
    | [y0, y1, y2, y3, y4], _ => exact ⟨y0, y1, y2, y3, y4, rfl⟩
  clear hf
  replace f0 : _ = some y0 := f0
  replace f1 : _ = some y1 := f1
  replace f2 : _ = some y2 := f2
  replace f3 : _ = some y3 := f3
  replace f4 : _ = some y4 := f4
  have k3 : Tryz.prog.cellsOf 3 = 1 := by kernel_rfl
  have k50 : Tryz.prog.cellsOf 124 = 7 := by kernel_rfl
  rw [k3] at f0 f1 f2 f3
  rw [k50] at f4
  simp only [rowD, List.map_cons, List.map_nil, DataW.agg.injEq, List.cons.injEq, and_true] at hd
  obtain ⟨d0, d1, d2, d3, d4⟩ := hd
  obtain ⟨a0, e0, q0, _⟩ := DataW.trod_int Tryz.underlying3 f0
  obtain ⟨a1, e1, q1, _⟩ := DataW.trod_int Tryz.underlying3 f1
  obtain ⟨a2, e2, q2, _⟩ := DataW.trod_int Tryz.underlying3 f2
  obtain ⟨a3, e3, q3, _⟩ := DataW.trod_int Tryz.underlying3 f3
  rw [q0] at d0
  rw [q1] at d1
  rw [q2] at d2
  rw [q3] at d3
  simp only [DataW.lit.injEq, Lit.int.injEq, true_and] at d0 d1 d2 d3
  have e4 := Lib.cells_of_tab (zs := r.fs.map fun (n : Nat) => (n : Int)) (p := y4.2) Tryz.underlying124 Tryz.underlying3 k3 k50 (by rw [f4, d4])
  have e11 : cs.drop 11 = [] := List.drop_eq_nil_of_le (by omega)
  have h4 := dsplit cs 4 7
  rw [e11, List.append_nil] at h4
  have e : cs = (cs.drop 0).take 1 ++ ((cs.drop 1).take 1 ++ ((cs.drop 2).take 1 ++ ((cs.drop 3).take 1 ++ (cs.drop 4).take 7))) := by
    conv => lhs; rw [← List.drop_zero (l := cs), dsplit cs 0 1, dsplit cs (0 + 1) 1, dsplit cs (0 + 1 + 1) 1, dsplit cs (0 + 1 + 1 + 1) 1, show 0 + 1 + 1 + 1 + 1 = 4 from rfl, h4]
  rw [e, e0, e1, e2, e3, e4, ← d0, ← d1, ← d2, ← d3]
  simp [Kr.ls, rowL, fcs]
theorem slices_eq {L M : List Value} (hl : L.length = 154) (hm : M.length = 154) (h : ∀ n, n < 14 → (L.drop (n * 11)).take 11 = (M.drop (n * 11)).take 11) : L = M := by
  apply List.ext_getElem?
  intro j
  by_cases hj : j < 154
  · have key : ∀ K : List Value, ((K.drop (j / 11 * 11)).take 11)[j % 11]? = K[j]? := by
      intro K
      rw [List.getElem?_take_of_lt (by omega), List.getElem?_drop, show j / 11 * 11 + j % 11 = j by omega]
    rw [← key L, ← key M, h (j / 11) (by omega)]
  · rw [List.getElem?_eq_none (by omega), List.getElem?_eq_none (by omega)]
theorem laid_rows : (Rows.laid_torrent_message_kinds : DataW Unit) = .agg (rws.map rowD) := rfl
theorem masks_of_laid {W : World} {a : String × DataW Unit} {r : List (String × DataW Unit)} (h0 : laidMet Tryz.prog (a :: ("torrent/bitset.masks", Rows.laid_torrent_bitset_masks) :: r) W) : Bs.MT W := by
  have h : laidMet Tryz.prog (("torrent/bitset.masks", Rows.laid_torrent_bitset_masks) :: r) W := by
    obtain ⟨ps, hv, hn, hc⟩ := h0
    obtain ⟨n, d⟩ := a
    obtain ⟨g, t, cs, fuel, p, q, _, _, _, _, hr, rfl⟩ := hv
    exact ⟨q, hr, (List.nodup_append.1 hn).2.1, fun b off hm => hc b off (by simp [hm])⟩
  have ht : Lib.TabIs Tryz.prog W "torrent/bitset.masks" .u8 [128, 64, 32, 16, 8, 4, 2, 1] := Lib.tabIs_of_head (g := 0) (t := 27) (e := 5) (n := 8) (by kernel_rfl) (by kernel_rfl) (by kernel_rfl) (by kernel_rfl) (by kernel_rfl) (by kernel_rfl) h
  have hc := fun i hi => ht.cell (g := 0) (by kernel_rfl) i hi
  refine ⟨World.block_lt_of_cell? W _ (hc 0 (by decide)), fun j hj => ?_⟩
  rw [hc j hj]
  match j, hj with
  | 0, _ | 1, _ | 2, _ | 3, _ | 4, _ | 5, _ | 6, _ | 7, _ => rfl
  | j + 8, h => omega
set_option maxRecDepth 100000 in
theorem kt_of_laid {W : World} {r : List (String × DataW Unit)} (h : laidMet Tryz.prog (("torrent/message.kinds", Rows.laid_torrent_message_kinds) :: r) W) : KT W := by
  obtain ⟨ps, ⟨g, t, cs, fuel, p, q, hg, ht, hvar, hd, _, _⟩, _⟩ := h
  have hg0 : Tryz.prog.globalNamed "torrent/message.kinds" = some 1 := by kernel_rfl
  have ht0 : (Tryz.prog.globals[1]?).map (·.type) = some 148 := by kernel_rfl
  obtain rfl := Option.some.inj (hg0.symm.trans hg)
  obtain rfl := Option.some.inj (ht0.symm.trans ht)
  rw [laid_rows] at hd
  obtain ⟨xs, m, _, hx, hlen, hxs, hget⟩ := DataW.trod_array Tryz.underlying148 hd
  have k52 : Tryz.prog.cellsOf 126 = 11 := by kernel_rfl
  have k80 : Tryz.prog.cellsOf 148 = 154 := by kernel_rfl
  rw [k80] at hlen
  have hxd : rws.map rowD = xs.map (·.1) := by
    have := congrArg Prod.fst hx
    simpa using this
  have hcs : cs.toList = kindsL := by
    refine slices_eq (M := kindsL) hlen rfl fun n hn => ?_
    obtain ⟨r, hr⟩ : ∃ r, rws[n]? = some r := ⟨_, List.getElem?_eq_getElem hn⟩
    rw [(rws_row n r hr).1]
    have h1 := hget n hn
    rw [k52] at h1
    have h2 : (xs.map (·.1))[n]? = some (rowD r) := by rw [← hxd, List.getElem?_map, hr]; rfl
    rw [List.getElem?_map] at h2
    obtain ⟨y, hy, hy2⟩ := Option.map_eq_some_iff.1 h2
    rw [hy] at h1
    obtain ⟨y1, y2⟩ := y
    simp only at hy2
    subst hy2
    exact row_cellsK h1
  intro j v hj
  have := World.var?_cell hg0 hvar j
  rw [Nat.zero_add, this, ← Array.getElem?_toList, hcs]
  exact hj
end Go.Proofs.YtabjpffaleaoaaaGreatDoor
