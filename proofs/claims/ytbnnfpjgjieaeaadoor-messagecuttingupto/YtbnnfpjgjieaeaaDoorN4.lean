import Derived.Test.YtbnnfpjgjieaeaaDoorOu
import Derived.Test.YtbnnfpjgjieaeaaDoorN3
namespace Go.Proofs.YtbnnfpjgjieaeaaDoor
open Go.ChangeShapes Go.WideShapes Go.ChangeAt Go.RowKit Go.Deep
theorem one_of {L : List Value} {k : Nat} (h : k < L.length) : ∃ v, (L.drop k).take 1 = [v] := ⟨L[k], by rw [List.drop_eq_getElem_cons h]; rfl⟩
theorem bulk_times {H : Type} (c : Nat) : ∀ E : List (DataW H), (∀ e ∈ E, c ≤ Rows.uptoBulk e) → c * E.length ≤ Rows.uptoBulkAll E
  | [], _ => by simp
  | d :: E, h => by
    have h1 := bulk_times c E (fun e he => h e (by simp [he]))
    have h2 := h d (by simp)
    simp only [Rows.uptoBulkAll, List.length_cons, Nat.mul_add, Nat.mul_one]
    omega
section
variable {H : Type} {enc : TypeId × Value → H} {w : World}
set_option maxRecDepth 100000 in
theorem hashBulk {m : Nat} {cs : List Value} {x : DataW H × List MemPlace} (h : DataW.trod enc Tryd.prog w 0 (fun _ => true) true m 44 cs = some x) : 32 ≤ Rows.uptoBulk x.1 := by
  obtain ⟨xs, m', _, hx, hlen, hxs, hget⟩ := DataW.trod_array Tryd.underlying44 h
  have e : x.1 = .agg (xs.map (·.1)) := congrArg Prod.fst hx
  rw [e]
  simp only [Rows.uptoBulk]
  have := bulk_len (xs.map (·.1))
  rw [List.length_map, hxs] at this
  omega
set_option maxRecDepth 100000 in
theorem openHashesB {fuel : Nat} {v : Value} {x : DataW H × List MemPlace} (h : DataW.trod enc Tryd.prog w 0 (fun _ => true) true fuel 45 [v] = some x) :
    ∃ l, RH w v l ∧ l.length + 1 ≤ Rows.uptoBulk x.1 := by
  have c32 : Tryd.prog.cellsOf 44 = 32 := by kernel_rfl
  obtain ⟨a, len, cap, rfl, hlc, hrow⟩ := openRowB Tryd.underlying45 h (by rw [c32]; omega)
  rcases hrow with rfl | ⟨m, elems, hlen, hbulk, b, o, rfl, hlt, hel⟩
  · exact ⟨[], ⟨a, 0, cap, rfl, rfl, hlc, .inl rfl⟩, by have := bulk_pos x.1; simpa using this⟩
  have key : ∀ i, i < len * 32 → ∃ y : UInt8, w.cell? ⟨b, o + i, none⟩ = some (.int .u8 (y.toNat : Int)) := by
    intro i hi
    obtain ⟨cs', h1, h2, h3⟩ := hel (i / 32) (by omega)
    rw [c32] at h1 h2
    obtain ⟨hl32, hby⟩ := cellsHash h3
    obtain ⟨y, hy⟩ := hby (i % 32) (by omega)
    refine ⟨y, ?_⟩
    have := h2 (i % 32) (by omega)
    rw [hy, show o + i / 32 * 32 + i % 32 = o + i by omega] at this
    exact this
  have hinh : Inhabited UInt8 := ⟨0⟩
  obtain ⟨f, hf⟩ := choose_lt key
  obtain ⟨l, hll, hl⟩ := lists_of f (len * 32)
  refine ⟨l, ⟨_, len, cap, rfl, hll, hlc, .inr ⟨b, o, rfl, hlt, fun i hi => ?_⟩⟩, ?_⟩
  · rw [hll] at hi
    have : byt l i = f i := by unfold byt; simp [List.getD, hl i hi]
    rw [this]; exact hf i hi
  · have h9 := bulk_times 32 (elems.map (·.1)) (fun e he => by
      obtain ⟨y, hy, rfl⟩ := List.mem_map.1 he
      obtain ⟨i, hi, rfl⟩ := List.getElem_of_mem hy
      obtain ⟨cs', _, _, h3⟩ := hel i hi
      exact hashBulk h3)
    rw [List.length_map] at h9
    omega
set_option maxRecDepth 100000 in
/-- the cells of a message, and its bulk -/
theorem openMsgC {fuel : Nat} {cs : List Value} {x : DataW H × List MemPlace} (hf : DataW.trod enc Tryd.prog w 0 (fun _ => true) true fuel 47 cs = some x) (hbk : Rows.uptoBulk x.1 ≤ 1048576) :
    ∃ y : Mg, cs = y.m.ls ∧ MM w y.m y.D y.hb ∧ 10 + y.D.length + y.hb.length ≤ Rows.uptoBulk x.1 := by
  obtain ⟨xs, n, _, hx, hl, hlen, hf⟩ := DataW.trod_struct Tryd.underlying47 hf
  have hL : xs.length = 9 := hlen
  have hd : x.1 = .agg (xs.map (·.1)) := congrArg Prod.fst hx
  have hcs : cs.length = 40 := hl.trans (by kernel_rfl)
  have f0 : DataW.trod enc Tryd.prog w 0 (fun _ => true) true n 3 ((cs.drop 0).take (Tryd.prog.cellsOf 3)) = xs[0]? := hf 0 _ rfl
  have f1 : DataW.trod enc Tryd.prog w 0 (fun _ => true) true n 3 ((cs.drop 1).take (Tryd.prog.cellsOf 3)) = xs[1]? := hf 1 _ rfl
  have f2 : DataW.trod enc Tryd.prog w 0 (fun _ => true) true n 3 ((cs.drop 2).take (Tryd.prog.cellsOf 3)) = xs[2]? := hf 2 _ rfl
  have f3 : DataW.trod enc Tryd.prog w 0 (fun _ => true) true n 3 ((cs.drop 3).take (Tryd.prog.cellsOf 3)) = xs[3]? := hf 3 _ rfl
  have f4 : DataW.trod enc Tryd.prog w 0 (fun _ => true) true n 26 ((cs.drop 4).take (Tryd.prog.cellsOf 26)) = xs[4]? := hf 4 _ rfl
  have f5 : DataW.trod enc Tryd.prog w 0 (fun _ => true) true n 44 ((cs.drop 5).take (Tryd.prog.cellsOf 44)) = xs[5]? := hf 5 _ rfl
  have f6 : DataW.trod enc Tryd.prog w 0 (fun _ => true) true n 3 ((cs.drop 37).take (Tryd.prog.cellsOf 3)) = xs[6]? := hf 6 _ rfl
  have f7 : DataW.trod enc Tryd.prog w 0 (fun _ => true) true n 3 ((cs.drop 38).take (Tryd.prog.cellsOf 3)) = xs[7]? := hf 7 _ rfl
  have f8 : DataW.trod enc Tryd.prog w 0 (fun _ => true) true n 45 ((cs.drop 39).take (Tryd.prog.cellsOf 45)) = xs[8]? := hf 8 _ rfl
  obtain ⟨y0, y1, y2, y3, y4, y5, y6, y7, y8, rfl⟩ : ∃ y0 y1 y2 y3 y4 y5 y6 y7 y8, xs = [y0, y1, y2, y3, y4, y5, y6, y7, y8] := by
    match xs, hL with
    | [y0, y1, y2, y3, y4, y5, y6, y7, y8], _ => exact ⟨y0, y1, y2, y3, y4, y5, y6, y7, y8, rfl⟩
  clear hf
  replace f0 : _ = some y0 := f0
  replace f1 : _ = some y1 := f1
  replace f2 : _ = some y2 := f2
  replace f3 : _ = some y3 := f3
  replace f4 : _ = some y4 := f4
  replace f5 : _ = some y5 := f5
  replace f6 : _ = some y6 := f6
  replace f7 : _ = some y7 := f7
  replace f8 : _ = some y8 := f8
  have k3 : Tryd.prog.cellsOf 3 = 1 := by kernel_rfl
  have k22 : Tryd.prog.cellsOf 26 = 1 := by kernel_rfl
  have k26 : Tryd.prog.cellsOf 45 = 1 := by kernel_rfl
  have k25 : Tryd.prog.cellsOf 44 = 32 := by kernel_rfl
  rw [k3] at f0 f1 f2 f3 f6 f7
  rw [k22] at f4
  rw [k25] at f5
  rw [k26] at f8
  obtain ⟨a0, e0, _⟩ := DataW.trod_int Tryd.underlying3 f0
  obtain ⟨a1, e1, _⟩ := DataW.trod_int Tryd.underlying3 f1
  obtain ⟨a2, e2, _⟩ := DataW.trod_int Tryd.underlying3 f2
  obtain ⟨a3, e3, _⟩ := DataW.trod_int Tryd.underlying3 f3
  obtain ⟨a6, e6, _⟩ := DataW.trod_int Tryd.underlying3 f6
  obtain ⟨a7, e7, _⟩ := DataW.trod_int Tryd.underlying3 f7
  obtain ⟨dv, e4⟩ := one_of (L := cs) (k := 4) (by omega)
  obtain ⟨hv', e8⟩ := one_of (L := cs) (k := 39) (by omega)
  rw [e4] at f4
  rw [e8] at f8
  obtain ⟨D, rd, dl⟩ := openBytesB f4
  obtain ⟨hb, rh, hl8⟩ := openHashesB f8
  obtain ⟨l5, b5⟩ := cellsHash f5
  have e5 := bytes_of (cs := (cs.drop 5).take 32) (fun i hi => b5 i (by rw [l5] at hi; exact hi))
  have hbulk : 10 + D.length + hb.length ≤ Rows.uptoBulk x.1 := by
    rw [hd]
    simp only [List.map_cons, List.map_nil, Rows.uptoBulk, Rows.uptoBulkAll]
    have p0 := bulk_pos y0.1
    have p1 := bulk_pos y1.1
    have p2 := bulk_pos y2.1
    have p3 := bulk_pos y3.1
    have p5 := bulk_pos y5.1
    have p6 := bulk_pos y6.1
    have p7 := bulk_pos y7.1
    omega
  refine ⟨⟨⟨a0, a1, a2, a3, dv, ((cs.drop 5).take 32).map asB, a6, a7, hv'⟩, D, hb⟩, ?_, ⟨⟨by rw [List.length_map, l5], ?_, ?_⟩, rd, rh, by simp only; omega, by simp only; omega⟩, hbulk⟩
  · have e := split40 _ hcs
    rw [e0, e1, e2, e3, e4, e5, e6, e7, e8] at e
    exact e.trans (by simp [Mv.ls])
  · obtain ⟨a, c, e, _⟩ := rd
    exact ⟨_, _, _, e⟩
  · obtain ⟨a, n, c, e, _⟩ := rh
    exact ⟨_, _, _, e⟩
/-- how much these messages weigh -/
def mgW (ms : List Mg) : Nat := (ms.map fun y => 10 + y.D.length + y.hb.length).sum
theorem mgW_bulk : ∀ (ms : List Mg) (E : List (DataW H)), ms.length = E.length → (∀ i (hi : i < E.length) y, ms[i]? = some y → 10 + y.D.length + y.hb.length ≤ Rows.uptoBulk E[i]) → mgW ms ≤ Rows.uptoBulkAll E
  | [], _, _, _ => by simp [mgW]
  | y :: ms, [], h, _ => by simp at h
  | y :: ms, e :: E, h, hb => by
    have h1 := mgW_bulk ms E (by simpa using h) (fun i hi z hz => hb (i + 1) (by simpa using hi) z (by simpa using hz))
    have h2 := hb 0 (by simp) y rfl
    simp only [List.getElem_cons_zero] at h2
    simp only [mgW, List.map_cons, List.sum_cons, Rows.uptoBulkAll] at h1 ⊢
    omega
set_option maxRecDepth 100000 in
/-- an argument that is a slice of messages -/
theorem openMsgsU {base : Nat} {v : Value} {d : DataW H} {ps : List MemPlace} (hv : Value.okWide Tryd.prog w .any base 22 v)
    (h : DataW.Trod enc Tryd.prog w 0 (fun _ => true) true 22 v d ps) (hbk : Rows.uptoBulk d ≤ 1048576) : ∃ ms, RMS w v ms ∧ mgW ms + 1 ≤ Rows.uptoBulk d := by
  obtain ⟨a0, len0, cap0, rfl⟩ := okWide_slice Tryd.underlying22 hv
  obtain ⟨fuel, hf⟩ := h
  have hf' : DataW.trod enc Tryd.prog w 0 (fun _ => true) true fuel 22 [.slice a0 len0 cap0] = some (d, ps) := hf
  have c40 : Tryd.prog.cellsOf 47 = 40 := by kernel_rfl
  obtain ⟨a, len, cap, he, hlc, hrow⟩ := openRowB Tryd.underlying22 hf' (by rw [c40]; omega)
  rw [he]
  rcases hrow with rfl | ⟨m, elems, hlen, hbulk, b, o, rfl, hlt, hel⟩
  · exact ⟨[], ⟨a, cap, rfl, hlc, .inl rfl, by simp⟩, by have := bulk_pos d; simpa [mgW] using this⟩
  have key : ∀ i, i < len → ∃ y : Mg, w.rangeAt b (o + i * 40) y.m.ls ∧ MM w y.m y.D y.hb ∧ ∀ hi : i < elems.length, 10 + y.D.length + y.hb.length ≤ Rows.uptoBulk elems[i].1 := by
    intro i hi
    obtain ⟨cs, h1, h2, h3⟩ := hel i (by omega)
    rw [c40] at h1 h2
    have hbi : Rows.uptoBulk elems[i].1 ≤ Rows.uptoBulkAll (elems.map (·.1)) := bulk_mem (List.mem_map.2 ⟨elems[i], List.getElem_mem _, rfl⟩)
    obtain ⟨y, e1, e2, e3⟩ := openMsgC h3 (by simp only at hbulk; omega)
    refine ⟨y, fun j u hu => ?_, e2, fun _ => e3⟩
    have hj : j < 40 := by
      have := (List.getElem?_eq_some_iff.1 hu).1
      rw [ok_ls e2.ok] at this; exact this
    rw [h2 j hj, e1]; exact hu
  have hinh : Inhabited Mg := ⟨⟨zm, [], []⟩⟩
  obtain ⟨f, hf2⟩ := choose_lt key
  obtain ⟨ms, hml, hms⟩ := lists_of f len
  refine ⟨ms, ⟨_, cap, by rw [hml], by omega, .inr ⟨b, o, rfl, hlt, fun i x hx => ?_⟩, fun x hx => ?_⟩, ?_⟩
  · have hi : i < len := by rw [← hml]; exact (List.getElem?_eq_some_iff.1 hx).1
    rw [hms i hi] at hx
    cases hx
    exact (hf2 i hi).1
  · obtain ⟨i, hi, rfl⟩ := List.getElem_of_mem hx
    have hi' : i < len := by omega
    have := hms i hi'
    rw [List.getElem?_eq_getElem hi] at this
    have e9 := Option.some.inj this
    rw [e9]
    exact (hf2 i hi').2.1
  · have h9 := mgW_bulk ms (elems.map (·.1)) (by rw [List.length_map]; omega) (fun i hi y hy => by
      rw [List.length_map] at hi
      rw [hms i (by omega)] at hy
      cases hy
      rw [List.getElem_map]
      exact (hf2 i (by omega)).2.2 hi)
    simp only at hbulk
    omega
end
end Go.Proofs.YtbnnfpjgjieaeaaDoor
namespace Go.Proofs.YtbnnfpjgjieaeaaDoor
open Go.RowKit
theorem mgW_len (ms : List Mg) : ms.length ≤ mgW ms := by
  induction ms with
  | nil => exact Nat.zero_le _
  | cons x l ih => unfold mgW at ih ⊢; rw [List.map_cons, List.sum_cons, List.length_cons]; omega
set_option maxHeartbeats 2000000 in
set_option maxRecDepth 100000 in
theorem farMsgsT (w : World) (v : Value) (ms : List Mg) (hr : RMS w v ms) (hb : mgW ms ≤ 1048576) :
    Calls Tryd.prog 5 #[v] w fun e w' => e = .returned (.bool false) ∧ Below w.heap.size w w' := by
  obtain ⟨a, c, rfl, _⟩ := id hr
  have HR : Hid (RMS w (.slice a ms.length c) ms ∧ mgW ms ≤ 1048576) := ⟨hr, hb⟩
  clear hr hb
  go_enter Tryd.func5, Tryd.ntmps5
  go_wp2
  generalize hln : ms.length = len at *
  have HN : Hid (ms.length = len) := hln
  have hlm : len ≤ 1048576 := by
    have h1 := mgW_len ms
    have h2 := HR.out.2
    omega
  clear hln
  go_loopw [3, 4] (fun u t wr => ∃ n s : Nat, n ≤ len ∧ t = .int .i64 n ∧ u = .int .i64 s ∧ Hid (s + 9 * n = mgW (ms.take n)) ∧ Hid (Below w.heap.size w wr)) (fun _ t _ => len - (intOf t).toNat)
  case atStart => exact ⟨0, 0, by omega, rfl, rfl, rfl, Below.refl _ _⟩
  case round =>
    obtain ⟨n, s, hn, rfl, rfl, hs, hb⟩ := hrel
    by_cases hlt : n < len
    · have hl2 : n < ms.length := by rw [HN.out]; exact hlt
      have hx : ms[n]? = some ms[n] := List.getElem?_eq_getElem hl2
      generalize ms[n] = x at hx
      obtain ⟨g, o, rfl, hg, hrg, hmx⟩ := HR.out.1.at n x hx
      have hrg' : ∀ (j : Nat) y, x.m.ls[j]? = some y → wr.cell? ⟨g, o + n * 40 + j, none⟩ = some y := fun j y hj => (hb.out.cell (p := ⟨g, o + n * 40 + j, none⟩) hg).trans (hrg j y hj)
      obtain ⟨da, dc, ed, _⟩ := hmx.d
      obtain ⟨ha, hn', hc, eh, hhl, _⟩ := hmx.h
      have c4 : wr.cell? ⟨g, o + n * 40 + 4, none⟩ = some (.slice da x.D.length dc) := by rw [← ed]; exact hrg' 4 _ rfl
      have c39 : wr.cell? ⟨g, o + n * 40 + 39, none⟩ = some (.slice ha hn' hc) := by rw [← eh]; exact hrg' 39 _ hmx.ok.g39
      have ht : ms.take (n + 1) = ms.take n ++ [x] := by rw [List.take_add_one, hx]; rfl
      have hw1 : mgW (ms.take (n + 1)) = mgW (ms.take n) + (10 + x.D.length + x.hb.length) := by rw [ht]; unfold mgW; simp
      have hw2 : mgW (ms.take (n + 1)) ≤ mgW ms := by
        conv => rhs; rw [← List.take_append_drop (n + 1) ms]
        unfold mgW
        rw [List.map_append, List.sum_append]
        omega
      have hw3 := HR.out.2
      have hs0 := hs.out
      have HS : Hid (s + 1 + x.D.length + 32 * hn' + 9 * (n + 1) = mgW (ms.take (n + 1))) := by unfold Hid; omega
      have hsm : s + 1 + x.D.length + 32 * hn' ≤ 1048576 := by omega
      clear hw1 hw2 hw3 hs0 ht hx hrg hrg' hmx ed eh hhl hs
      generalize x.D.length = dl at *
      go_wp2
      go_quiet (fail)
      go_wp2
      exact ⟨⟨n + 1, s + 1 + dl + 32 * hn', by omega, by go_num, by go_num, HS, belowN hb.out _⟩, by simp [intOf]; omega⟩
    · go_wp2
      go_ret
      exact ⟨rfl, hb.out⟩
end Go.Proofs.YtbnnfpjgjieaeaaDoor
