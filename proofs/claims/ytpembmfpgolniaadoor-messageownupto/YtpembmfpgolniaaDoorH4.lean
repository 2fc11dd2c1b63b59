import Derived.Test.YtpembmfpgolniaaDoorOu
import Derived.Test.YtpembmfpgolniaaDoorH3
namespace Go.Proofs.YtpembmfpgolniaaDoor
open Go.ChangeShapes Go.WideShapes Go.ChangeAt Go.RowKit Go.Deep
theorem one_of {L : List Value} {k : Nat} (h : k < L.length) : ∃ v, (L.drop k).take 1 = [v] := ⟨L[k], by rw [List.drop_eq_getElem_cons h]; rfl⟩
theorem bulk_times {H : Type} (c : Nat) : ∀ E : List (DataW H), (∀ e ∈ E, c ≤ Rows.uptoBulk e) → c * E.length ≤ Rows.uptoBulkAll E
  | [], _ => by simp
  | d :: E, h => by
    have h1 := bulk_times c E (fun e he => h e (by simp [he]))
    have h2 := h d (by simp)
    simp only [Rows.uptoBulkAll, List.length_cons, Nat.mul_add, Nat.mul_one]
    omega
section
variable {H : Type} {enc : TypeId × Value → H} {w : World}
set_option maxRecDepth 100000 in
theorem hashBulk {m : Nat} {cs : List Value} {x : DataW H × List MemPlace} (h : DataW.trod enc Tryd.prog w 0 (fun _ => true) true m 24 cs = some x) : 32 ≤ Rows.uptoBulk x.1 := by
  obtain ⟨xs, m', _, hx, hlen, hxs, hget⟩ := DataW.trod_array Tryd.underlying24 h
  have e : x.1 = .agg (xs.map (·.1)) := congrArg Prod.fst hx
  rw [e]
  simp only [Rows.uptoBulk]
  have := bulk_len (xs.map (·.1))
  rw [List.length_map, hxs] at this
  omega
set_option maxRecDepth 100000 in
theorem openHashesB {fuel : Nat} {v : Value} {x : DataW H × List MemPlace} (h : DataW.trod enc Tryd.prog w 0 (fun _ => true) true fuel 25 [v] = some x) :
    ∃ l, RH w v l ∧ l.length + 1 ≤ Rows.uptoBulk x.1 := by
  have c32 : Tryd.prog.cellsOf 24 = 32 := by kernel_rfl
  obtain ⟨a, len, cap, rfl, hlc, hrow⟩ := openRowB Tryd.underlying25 h (by rw [c32]; omega)
  rcases hrow with rfl | ⟨m, elems, hlen, hbulk, b, o, rfl, hlt, hel⟩
  · exact ⟨[], ⟨a, 0, cap, rfl, rfl, hlc, .inl rfl⟩, by have := bulk_pos x.1; simpa using this⟩
  have key : ∀ i, i < len * 32 → ∃ y : UInt8, w.cell? ⟨b, o + i, none⟩ = some (.int .u8 (y.toNat : Int)) := by
    intro i hi
    obtain ⟨cs', h1, h2, h3⟩ := hel (i / 32) (by omega)
    rw [c32] at h1 h2
    obtain ⟨hl32, hby⟩ := cellsHash h3
    obtain ⟨y, hy⟩ := hby (i % 32) (by omega)
    refine ⟨y, ?_⟩
    have := h2 (i % 32) (by omega)
    rw [hy, show o + i / 32 * 32 + i % 32 = o + i by omega] at this
    exact this
  have hinh : Inhabited UInt8 := ⟨0⟩
  obtain ⟨f, hf⟩ := choose_lt key
  obtain ⟨l, hll, hl⟩ := lists_of f (len * 32)
  refine ⟨l, ⟨_, len, cap, rfl, hll, hlc, .inr ⟨b, o, rfl, hlt, fun i hi => ?_⟩⟩, ?_⟩
  · rw [hll] at hi
    have : byt l i = f i := by unfold byt; simp [List.getD, hl i hi]
    rw [this]; exact hf i hi
  · have h9 := bulk_times 32 (elems.map (·.1)) (fun e he => by
      obtain ⟨y, hy, rfl⟩ := List.mem_map.1 he
      obtain ⟨i, hi, rfl⟩ := List.getElem_of_mem hy
      obtain ⟨cs', _, _, h3⟩ := hel i hi
      exact hashBulk h3)
    rw [List.length_map] at h9
    omega
set_option maxRecDepth 100000 in
/-- the cells of a message, and its bulk -/
theorem openMsgC {fuel : Nat} {cs : List Value} {x : DataW H × List MemPlace} (hf : DataW.trod enc Tryd.prog w 0 (fun _ => true) true fuel 27 cs = some x) (hbk : Rows.uptoBulk x.1 ≤ 1048576) :
    ∃ y : Mg, cs = y.m.ls ∧ MM w y.m y.D y.hb ∧ 10 + y.D.length + y.hb.length ≤ Rows.uptoBulk x.1 := by
  obtain ⟨xs, n, _, hx, hl, hlen, hf⟩ := DataW.trod_struct Tryd.underlying27 hf
  have hL : xs.length = 9 := hlen
  have hd : x.1 = .agg (xs.map (·.1)) := congrArg Prod.fst hx
  have hcs : cs.length = 40 := hl.trans (by kernel_rfl)
  have f0 : DataW.trod enc Tryd.prog w 0 (fun _ => true) true n 3 ((cs.drop 0).take (Tryd.prog.cellsOf 3)) = xs[0]? := hf 0 _ rfl
  have f1 : DataW.trod enc Tryd.prog w 0 (fun _ => true) true n 3 ((cs.drop 1).take (Tryd.prog.cellsOf 3)) = xs[1]? := hf 1 _ rfl
  have f2 : DataW.trod enc Tryd.prog w 0 (fun _ => true) true n 3 ((cs.drop 2).take (Tryd.prog.cellsOf 3)) = xs[2]? := hf 2 _ rfl
  have f3 : DataW.trod enc Tryd.prog w 0 (fun _ => true) true n 3 ((cs.drop 3).take (Tryd.prog.cellsOf 3)) = xs[3]? := hf 3 _ rfl
  have f4 : DataW.trod enc Tryd.prog w 0 (fun _ => true) true n 22 ((cs.drop 4).take (Tryd.prog.cellsOf 22)) = xs[4]? := hf 4 _ rfl
  have f5 : DataW.trod enc Tryd.prog w 0 (fun _ => true) true n 24 ((cs.drop 5).take (Tryd.prog.cellsOf 24)) = xs[5]? := hf 5 _ rfl
  have f6 : DataW.trod enc Tryd.prog w 0 (fun _ => true) true n 3 ((cs.drop 37).take (Tryd.prog.cellsOf 3)) = xs[6]? := hf 6 _ rfl
  have f7 : DataW.trod enc Tryd.prog w 0 (fun _ => true) true n 3 ((cs.drop 38).take (Tryd.prog.cellsOf 3)) = xs[7]? := hf 7 _ rfl
  have f8 : DataW.trod enc Tryd.prog w 0 (fun _ => true) true n 25 ((cs.drop 39).take (Tryd.prog.cellsOf 25)) = xs[8]? := hf 8 _ rfl
  obtain ⟨y0, y1, y2, y3, y4, y5, y6, y7, y8, rfl⟩ : ∃ y0 y1 y2 y3 y4 y5 y6 y7 y8, xs = [y0, y1, y2, y3, y4, y5, y6, y7, y8] := by
    match xs, hL with
    | [y0, y1, y2, y3, y4, y5, y6, y7, y8], _ => exact ⟨y0, y1, y2, y3, y4, y5, y6, y7, y8, rfl⟩
  clear hf
  replace f0 : _ = some y0 := f0
  replace f1 : _ = some y1 := f1
  replace f2 : _ = some y2 := f2
  replace f3 : _ = some y3 := f3
  replace f4 : _ = some y4 := f4
  replace f5 : _ = some y5 := f5
  replace f6 : _ = some y6 := f6
  replace f7 : _ = some y7 := f7
  replace f8 : _ = some y8 := f8
  have k3 : Tryd.prog.cellsOf 3 = 1 := by kernel_rfl
  have k22 : Tryd.prog.cellsOf 22 = 1 := by kernel_rfl
  have k26 : Tryd.prog.cellsOf 25 = 1 := by kernel_rfl
  have k25 : Tryd.prog.cellsOf 24 = 32 := by kernel_rfl
  rw [k3] at f0 f1 f2 f3 f6 f7
  rw [k22] at f4
  rw [k25] at f5
  rw [k26] at f8
  obtain ⟨a0, e0, _⟩ := DataW.trod_int Tryd.underlying3 f0
  obtain ⟨a1, e1, _⟩ := DataW.trod_int Tryd.underlying3 f1
  obtain ⟨a2, e2, _⟩ := DataW.trod_int Tryd.underlying3 f2
  obtain ⟨a3, e3, _⟩ := DataW.trod_int Tryd.underlying3 f3
  obtain ⟨a6, e6, _⟩ := DataW.trod_int Tryd.underlying3 f6
  obtain ⟨a7, e7, _⟩ := DataW.trod_int Tryd.underlying3 f7
  obtain ⟨dv, e4⟩ := one_of (L := cs) (k := 4) (by omega)
  obtain ⟨hv', e8⟩ := one_of (L := cs) (k := 39) (by omega)
  rw [e4] at f4
  rw [e8] at f8
  obtain ⟨D, rd, dl⟩ := openBytesB f4
  obtain ⟨hb, rh, hl8⟩ := openHashesB f8
  obtain ⟨l5, b5⟩ := cellsHash f5
  have e5 := bytes_of (cs := (cs.drop 5).take 32) (fun i hi => b5 i (by rw [l5] at hi; exact hi))
  have hbulk : 10 + D.length + hb.length ≤ Rows.uptoBulk x.1 := by
    rw [hd]
    simp only [List.map_cons, List.map_nil, Rows.uptoBulk, Rows.uptoBulkAll]
    have p0 := bulk_pos y0.1
    have p1 := bulk_pos y1.1
    have p2 := bulk_pos y2.1
    have p3 := bulk_pos y3.1
    have p5 := bulk_pos y5.1
    have p6 := bulk_pos y6.1
    have p7 := bulk_pos y7.1
    omega
  refine ⟨⟨⟨a0, a1, a2, a3, dv, ((cs.drop 5).take 32).map asB, a6, a7, hv'⟩, D, hb⟩, ?_, ⟨⟨by rw [List.length_map, l5], ?_, ?_⟩, rd, rh, by simp only; omega, by simp only; omega⟩, hbulk⟩
  · have e := split40 _ hcs
    rw [e0, e1, e2, e3, e4, e5, e6, e7, e8] at e
    exact e.trans (by simp [Mv.ls])
  · obtain ⟨a, c, e, _⟩ := rd
    exact ⟨_, _, _, e⟩
  · obtain ⟨a, n, c, e, _⟩ := rh
    exact ⟨_, _, _, e⟩
/-- how much these messages weigh -/
def mgW (ms : List Mg) : Nat := (ms.map fun y => 10 + y.D.length + y.hb.length).sum
theorem mgW_bulk : ∀ (ms : List Mg) (E : List (DataW H)), ms.length = E.length → (∀ i (hi : i < E.length) y, ms[i]? = some y → 10 + y.D.length + y.hb.length ≤ Rows.uptoBulk E[i]) → mgW ms ≤ Rows.uptoBulkAll E
  | [], _, _, _ => by simp [mgW]
  | y :: ms, [], h, _ => by simp at h
  | y :: ms, e :: E, h, hb => by
    have h1 := mgW_bulk ms E (by simpa using h) (fun i hi z hz => hb (i + 1) (by simpa using hi) z (by simpa using hz))
    have h2 := hb 0 (by simp) y rfl
    simp only [List.getElem_cons_zero] at h2
    simp only [mgW, List.map_cons, List.sum_cons, Rows.uptoBulkAll] at h1 ⊢
    omega
set_option maxRecDepth 100000 in
/-- an argument that is a slice of messages -/
theorem openMsgsU {base : Nat} {v : Value} {d : DataW H} {ps : List MemPlace} (hv : Value.okWide Tryd.prog w .any base 33 v)
    (h : DataW.Trod enc Tryd.prog w 0 (fun _ => true) true 33 v d ps) (hbk : Rows.uptoBulk d ≤ 1048576) : ∃ ms, RMS w v ms ∧ mgW ms + 1 ≤ Rows.uptoBulk d := by
  obtain ⟨a0, len0, cap0, rfl⟩ := okWide_slice Tryd.underlying33 hv
  obtain ⟨fuel, hf⟩ := h
  have hf' : DataW.trod enc Tryd.prog w 0 (fun _ => true) true fuel 33 [.slice a0 len0 cap0] = some (d, ps) := hf
  have c40 : Tryd.prog.cellsOf 27 = 40 := by kernel_rfl
  obtain ⟨a, len, cap, he, hlc, hrow⟩ := openRowB Tryd.underlying33 hf' (by rw [c40]; omega)
  rw [he]
  rcases hrow with rfl | ⟨m, elems, hlen, hbulk, b, o, rfl, hlt, hel⟩
  · exact ⟨[], ⟨a, cap, rfl, hlc, .inl rfl, by simp⟩, by have := bulk_pos d; simpa [mgW] using this⟩
  have key : ∀ i, i < len → ∃ y : Mg, w.rangeAt b (o + i * 40) y.m.ls ∧ MM w y.m y.D y.hb ∧ ∀ hi : i < elems.length, 10 + y.D.length + y.hb.length ≤ Rows.uptoBulk elems[i].1 := by
    intro i hi
    obtain ⟨cs, h1, h2, h3⟩ := hel i (by omega)
    rw [c40] at h1 h2
    have hbi : Rows.uptoBulk elems[i].1 ≤ Rows.uptoBulkAll (elems.map (·.1)) := bulk_mem (List.mem_map.2 ⟨elems[i], List.getElem_mem _, rfl⟩)
    obtain ⟨y, e1, e2, e3⟩ := openMsgC h3 (by simp only at hbulk; omega)
    refine ⟨y, fun j u hu => ?_, e2, fun _ => e3⟩
    have hj : j < 40 := by
      have := (List.getElem?_eq_some_iff.1 hu).1
      rw [ok_ls e2.ok] at this; exact this
    rw [h2 j hj, e1]; exact hu
  have hinh : Inhabited Mg := ⟨⟨zm, [], []⟩⟩
  obtain ⟨f, hf2⟩ := choose_lt key
  obtain ⟨ms, hml, hms⟩ := lists_of f len
  refine ⟨ms, ⟨_, cap, by rw [hml], by omega, .inr ⟨b, o, rfl, hlt, fun i x hx => ?_⟩, fun x hx => ?_⟩, ?_⟩
  · have hi : i < len := by rw [← hml]; exact (List.getElem?_eq_some_iff.1 hx).1
    rw [hms i hi] at hx
    cases hx
    exact (hf2 i hi).1
  · obtain ⟨i, hi, rfl⟩ := List.getElem_of_mem hx
    have hi' : i < len := by omega
    have := hms i hi'
    rw [List.getElem?_eq_getElem hi] at this
    have e9 := Option.some.inj this
    rw [e9]
    exact (hf2 i hi').2.1
  · have h9 := mgW_bulk ms (elems.map (·.1)) (by rw [List.length_map]; omega) (fun i hi y hy => by
      rw [List.length_map] at hi
      rw [hms i (by omega)] at hy
      cases hy
      rw [List.getElem_map]
      exact (hf2 i (by omega)).2.2 hi)
    simp only at hbulk
    omega
end
end Go.Proofs.YtpembmfpgolniaaDoor
namespace Go.Proofs.YtpembmfpgolniaaDoor
open Go.RowKit
/-- the bodies of these messages -/
def encs (ms : List Mg) : List (List UInt8) := ms.map fun x => encB x.m x.D x.hb
theorem nm_frm (b rest : List UInt8) (hb : b.length ≤ 32768) : Fm.nm (frm b ++ rest) = b.length := by
  unfold frm
  rw [List.append_assoc]
  exact Fm.nm_be4 b.length _ (by omega)
theorem frm_len (b : List UInt8) : (frm b).length = 4 + b.length := by unfold frm; rw [List.length_append, be4_len]
theorem drop_frm (b rest : List UInt8) : (frm b ++ rest).drop (4 + b.length) = rest := List.drop_left' (frm_len b)
theorem body_frm (b rest : List UInt8) : ((frm b ++ rest).drop 4).take b.length = b := by
  unfold frm
  rw [List.append_assoc, List.drop_left' (be4_len _)]
  exact List.take_left' rfl
/-- a frame at the begin of a stream is told first -/
theorem rd_inv {b rest : List UInt8} {met bs : List (List UInt8)} {h' : Bool} {r : List UInt8} {e : Int} (hb : b.length ≤ 32768) (x : Fm.Rd false (frm b ++ rest) met bs h' r e) : ∃ bs', bs = b :: bs' ∧ Fm.Rd false rest met bs' h' r e := by
  have hn := nm_frm b rest hb
  have hl : (frm b ++ rest).length = 4 + b.length + rest.length := by rw [List.length_append, frm_len]
  generalize hL : frm b ++ rest = L at *
  cases x with
  | num _ h1 => omega
  | big _ h1 h2 => omega
  | part _ h1 h2 h3 => omega
  | body _ _ bs' _ _ _ h1 h2 h3 x =>
    refine ⟨bs', ?_, ?_⟩
    · rw [hn, ← hL, body_frm]
    · rw [hn, ← hL, drop_frm] at x
      exact x
theorem rd_wire (ms : List Mg) (hl : ∀ x ∈ ms, (encB x.m x.D x.hb).length ≤ 32768) {rest : List UInt8} {met bs : List (List UInt8)} {h' : Bool} {r : List UInt8} {e : Int} (x : Fm.Rd false (wirB ms ++ rest) met bs h' r e) : ∃ bs', bs = encs ms ++ bs' ∧ Fm.Rd false rest met bs' h' r e := by
  induction ms generalizing bs with
  | nil => exact ⟨bs, rfl, x⟩
  | cons y ms ih =>
    have e1 : wirB (y :: ms) ++ rest = frm (encB y.m y.D y.hb) ++ (wirB ms ++ rest) := by
      show (y.fr ++ wirB ms) ++ rest = _
      rw [List.append_assoc]; rfl
    rw [e1] at x
    obtain ⟨bs1, rfl, x1⟩ := rd_inv (hl y (by simp)) x
    obtain ⟨bs2, rfl, x2⟩ := ih (fun z hz => hl z (by simp [hz])) x1
    exact ⟨bs2, rfl, x2⟩
theorem rd_few {l : List UInt8} {met bs : List (List UInt8)} {h' : Bool} {r : List UInt8} {e : Int} (x : Fm.Rd false l met bs h' r e) (h : l.length < 4 ∨ (Fm.nm l ≤ 32768 ∧ l.length < 4 + Fm.nm l)) : bs = [] ∧ e = 0 := by
  cases x with
  | num => exact ⟨rfl, rfl⟩
  | big _ h1 h2 => omega
  | part => exact ⟨rfl, rfl⟩
  | body _ _ _ _ _ _ h1 h2 h3 _ => omega
theorem rd_big {l : List UInt8} {met bs : List (List UInt8)} {h' : Bool} {r : List UInt8} {e : Int} (x : Fm.Rd false l met bs h' r e) (h4 : 4 ≤ l.length) (h : 32768 < Fm.nm l) : bs = [] ∧ e = 102 := by
  cases x with
  | num _ h1 => omega
  | big => exact ⟨rfl, rfl⟩
  | part _ _ h2 _ => omega
  | body _ _ _ _ _ _ h1 h2 h3 _ => omega
theorem gds_app (cs bs : List (List UInt8)) (h : ∀ a ∈ cs, decE a = 0) : gds (cs ++ bs) = cs ++ gds bs := by
  induction cs with
  | nil => rfl
  | cons a cs ih =>
    have h0 := h a (by simp)
    have h1 := ih (fun b hb => h b (by simp [hb]))
    unfold gds at h1 ⊢
    rw [List.cons_append, List.takeWhile_cons, if_pos (by simpa using h0), h1]
    rfl
theorem unwE_app (cs bs : List (List UInt8)) (er : Int) (h : ∀ a ∈ cs, decE a = 0) : unwE (cs ++ bs) er = unwE bs er := by
  unfold unwE
  rw [gds_app cs bs h, List.length_append, List.drop_append, List.drop_eq_nil_of_le (by omega), List.nil_append, Nat.add_sub_cancel_left]
theorem sz_encs (ms : List Mg) : Fm.sz (encs ms) = (wirB ms).length := by
  induction ms with
  | nil => rfl
  | cons y ms ih =>
    have e1 : wirB (y :: ms) = frm (encB y.m y.D y.hb) ++ wirB ms := rfl
    rw [e1, List.length_append, frm_len, ← ih]
    exact Fm.sz_cons _ _
theorem wirE_mem {ms : List Mg} (h : wirE ms = 0) : ∀ x ∈ ms, valE x.m = 0 := by
  induction ms with
  | nil => simp
  | cons y ms ih =>
    unfold wirE at h
    split at h
    · rename_i h0
      intro x hx
      rcases List.mem_cons.1 hx with rfl | hx
      · exact h0
      · exact ih h x hx
    · rename_i h0
      exact absurd h h0
theorem encs_good {w : World} {ms : List Mg} (hm : ∀ x ∈ ms, MM w x.m x.D x.hb) (h : wirE ms = 0) : ∀ a ∈ encs ms, decE a = 0 := by
  intro a ha
  obtain ⟨x, hx, rfl⟩ := List.mem_map.1 ha
  have := hm x hx
  exact (back_way x.m this.ok x.D x.hb (wirE_mem h x hx) this.sd this.sh).1
theorem ms_back {w : World} {ms ns : List Mg} (hm : ∀ x ∈ ms, MM w x.m x.D x.hb) (h : wirE ms = 0) (hn : MsOf ns (encs ms)) : MsEq ns ms := by
  refine ⟨by rw [hn.1]; simp [encs], fun i x y hx hy => ?_⟩
  have hy2 : (encs ms)[i]? = some (encB y.m y.D y.hb) := by unfold encs; rw [List.getElem?_map, hy]; rfl
  obtain ⟨d, h', rfl⟩ := hn.2 i x _ hx hy2
  have hmem := List.mem_of_getElem? hy
  have hM := hm y hmem
  obtain ⟨_, k2, k3, k4, _⟩ := back_way y.m hM.ok y.D y.hb (wirE_mem h y hmem) hM.sd hM.sh
  refine ⟨k2.symm, k3.symm, ?_⟩
  show y.m = { ({ (decS (encB y.m y.D y.hb)).m with d := d, h := h' } : Mv) with d := y.m.d, h := y.m.h }
  rw [k4 d h']
theorem rws_szs (r : Kr) (hr : r ∈ rws) (m : Mv) : szs r.cs m ≤ 49 + sln m.d + 32 * sln m.h := by
  simp only [rws, List.mem_cons, List.not_mem_nil, or_false] at hr
  rcases hr with rfl | rfl | rfl | rfl | rfl | rfl | rfl | rfl | rfl | rfl | rfl | rfl | rfl | rfl
  · show 0 ≤ _; omega
  all_goals first | (show 1 + 0 ≤ _; omega) | (show 1 + (4 + 0) ≤ _; omega) | (show 1 + (sln m.d + 0) ≤ _; omega) | (show 1 + (4 + (4 + (4 + 0))) ≤ _; omega) | (show 1 + (4 + (4 + (sln m.d + 0))) ≤ _; omega) | (show 1 + (32 + (4 + (4 + (4 + (4 + 0))))) ≤ _; omega) | (show 1 + (32 + (4 + (4 + (4 + (4 + (32 * sln m.h + 0)))))) ≤ _; omega)
theorem lays_len (r : Kr) (hmem : r ∈ rws) (m : Mv) (ok : m.ok) (D hb : List UInt8) (hkk : r.k = m.k) (hfrn : frn (blks r.cs m) = false) (hlk : lks r.cs m = true) (hd : sln m.d = D.length) (hh : hb.length = sln m.h * 32) : (lays r.cs m D hb).length = szs r.cs m := by
  simp only [rws, List.mem_cons, List.not_mem_nil, or_false] at hmem
  rcases hmem with rfl | rfl | rfl | rfl | rfl | rfl | rfl | rfl | rfl | rfl | rfl | rfl | rfl | rfl
  · exact (bk_n1 m ok D hb hkk.symm hfrn hlk hd hh).2.1
  · exact (bk_0 m ok D hb hkk.symm hfrn hlk hd hh).2.1
  · exact (bk_1 m ok D hb hkk.symm hfrn hlk hd hh).2.1
  · exact (bk_2 m ok D hb hkk.symm hfrn hlk hd hh).2.1
  · exact (bk_3 m ok D hb hkk.symm hfrn hlk hd hh).2.1
  · exact (bk_4 m ok D hb hkk.symm hfrn hlk hd hh).2.1
  · exact (bk_5 m ok D hb hkk.symm hfrn hlk hd hh).2.1
  · exact (bk_6 m ok D hb hkk.symm hfrn hlk hd hh).2.1
  · exact (bk_7 m ok D hb hkk.symm hfrn hlk hd hh).2.1
  · exact (bk_8 m ok D hb hkk.symm hfrn hlk hd hh).2.1
  · exact (bk_21 m ok D hb hkk.symm hfrn hlk hd hh).2.1
  · exact (bk_22 m ok D hb hkk.symm hfrn hlk hd hh).2.1
  · exact (bk_23 m ok D hb hkk.symm hfrn hlk hd hh).2.1
  · exact (bk_1000 m ok D hb hkk.symm hfrn hlk hd hh).2.1
theorem enc_size {w : World} {x : Mg} (h : MM w x.m x.D x.hb) : (encB x.m x.D x.hb).length ≤ 49 + x.D.length + x.hb.length := by
  have h1 := h.sd
  have h2 := h.sh
  unfold encB
  split
  · rename_i h0
    split
    · rename_i r hr
      have hw : valE x.m = 0 := h0
      unfold valE at hw
      rw [hr] at hw
      simp only at hw
      split at hw
      · omega
      · rename_i hfrn
        split at hw
        · rename_i hlk
          obtain ⟨hmem, hkk⟩ := rowFor_mem hr
          have hs := rws_szs r hmem x.m
          have hlen := lays_len r hmem x.m h.ok x.D x.hb hkk (by simpa using hfrn) hlk h1 h2
          omega
        · omega
    · simp
  · simp
theorem wirB_bulk {w : World} (ms : List Mg) (h : ∀ x ∈ ms, MM w x.m x.D x.hb) : (wirB ms).length ≤ 6 * mgW ms ∧ ms.length ≤ mgW ms := by
  induction ms with
  | nil => simp [wirB, mgW]
  | cons y ms ih =>
    obtain ⟨i1, i2⟩ := ih (fun z hz => h z (by simp [hz]))
    have h1 := enc_size (h y (by simp))
    have e1 : wirB (y :: ms) = frm (encB y.m y.D y.hb) ++ wirB ms := rfl
    have e2 : mgW (y :: ms) = (10 + y.D.length + y.hb.length) + mgW ms := rfl
    rw [e1, e2, List.length_append, frm_len, List.length_cons]
    omega
end Go.Proofs.YtpembmfpgolniaaDoor
namespace Go.Proofs.YtpembmfpgolniaaDoor
open Go.RowKit
set_option maxHeartbeats 1000000 in
theorem joinedT (w : World) (v1 v2 : Value) (l1 l2 : List UInt8) (h1 : RB w v1 l1) (h2 : RB w v2 l2) (hl : l1.length + l2.length ≤ 140737488351232) :
    Calls Tryd.prog 5 #[v1, v2] w fun e w' => ∃ v, e = .returned v ∧ OW w.heap.size w' v (l1 ++ l2) ∧ Below w.heap.size w w' := by
  obtain ⟨a1, c1, rfl, _⟩ := id h1
  obtain ⟨a2, c2, rfl, _⟩ := id h2
  have HO : Hid (OW w.heap.size w (.slice none 0 0) [] ∧ RB w (.slice a1 l1.length c1) l1 ∧ RB w (.slice a2 l2.length c2) l2 ∧ ([] : List UInt8).length + l1.length ≤ 140737488351232 ∧ l1.length + l2.length ≤ 140737488351232) := ⟨World.ownsRow_nil _ _ _ _, h1, h2, by simp; omega, hl⟩
  clear h1 h2 hl
  go_enter Tryd.func5, Tryd.ntmps5
  go_wp2_with (first | (at_builtin; refine append_bytes rfl _ _ rfl rfl HO.out.1 rfl HO.out.2.1 (Nat.le_refl _) HO.out.2.2.2.1 ?_; intro v3 w1 o1 b1; simp only [List.nil_append] at o1; obtain ⟨ca, cn, cc, rfl⟩ := o1.form3; have H1 : Hid (OW w.heap.size w1 (.slice ca cn cc) l1 ∧ RB w1 (.slice a2 l2.length c2) l2 ∧ Below w.heap.size w w1 ∧ l1.length + l2.length ≤ 140737488351232) := ⟨o1, HO.out.2.2.1.keep b1, b1, HO.out.2.2.2.2⟩; clear o1 b1) | (at_builtin; refine append_bytes rfl _ _ rfl rfl H1.out.1 rfl H1.out.2.1 H1.out.2.2.1.size H1.out.2.2.2 ?_; intro v4 w2 o2 b2))
  have H2 : Hid (OW w.heap.size w2 v4 (l1 ++ l2) ∧ Below w.heap.size w w2) := ⟨o2, H1.out.2.2.1.trans b2⟩
  clear o2 b2
  go_wp2
  go_ret
  exact ⟨_, rfl, H2.out⟩
/-- less than a whole frame -/
def unfB (l : List UInt8) : Bool := decide (l.length < 4) || (decide (Fm.nm l ≤ 32768) && decide (l.length < 4 + Fm.nm l))
theorem unfB_of {l : List UInt8} (h : unfB l = true) : l.length < 4 ∨ (Fm.nm l ≤ 32768 ∧ l.length < 4 + Fm.nm l) := by
  unfold unfB at h
  simpa using h
end Go.Proofs.YtpembmfpgolniaaDoor
namespace Go.Proofs.YtpembmfpgolniaaDoor
open Go.RowKit
theorem unw_back {w : World} {ms : List Mg} (hm : ∀ x ∈ ms, MM w x.m x.D x.hb) (h : wirE ms = 0) {rest : List UInt8} {bs : List (List UInt8)} {r : List UInt8} {er : Int} (x : Fm.Rd false (wirB ms ++ rest) [] bs false r er) (hrest : rest.length < 4 ∨ (Fm.nm rest ≤ 32768 ∧ rest.length < 4 + Fm.nm rest)) : gds bs = encs ms ∧ unwE bs er = 0 ∧ Fm.sz (gds bs) = (wirB ms).length := by
  obtain ⟨bs', rfl, x2⟩ := rd_wire ms (fun y hy => (hm y hy).enc_le) x
  obtain ⟨rfl, rfl⟩ := rd_few x2 hrest
  have hg := encs_good hm h
  have e1 : gds (encs ms ++ []) = encs ms := by rw [gds_app _ _ hg]; show encs ms ++ [] = _; rw [List.append_nil]
  refine ⟨e1, ?_, by rw [e1, sz_encs]⟩
  rw [unwE_app _ _ _ hg]
  rfl
end Go.Proofs.YtpembmfpgolniaaDoor
