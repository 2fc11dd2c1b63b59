import Derived.Test.YtdlnnnlmlaploabDoorM07
import Derived.Deep.RegionHeld3
namespace Go.Proofs.YtdlnnnlmlaploabDoor
open Go.RowKit Go.Deep
/-- the rest of the text from i on -/
def restA (c i : Nat) (a : Option Addr) : Option Addr := if c = i then a else Option.map (fun x => x.add i) a
theorem SR.rest {B rb : Nat} {w : World} {a : Option Addr} {c : Nat} {b : List UInt8} {i n : Nat} {ov : Value} {k : Nat} {us : List Value} (h : SR B rb w a c b i n ov k us) : RB w (.slice (restA c i a) (b.length - i) (c - i)) (b.drop i) := by
  have h1 := h.le
  have h2 := h.cap
  refine ⟨_, c - i, by rw [List.length_drop], by rw [List.length_drop]; omega, ?_⟩
  by_cases hc : c = i
  · refine .inl (List.drop_of_length_le (by omega))
  rcases h.tx with rfl | ⟨g, o, rfl, hg, hx⟩
  · exact .inl (by simp)
  · refine .inr ⟨g, o + i, ?_, Nat.lt_of_lt_of_le hg (Nat.le_trans h.low (Nat.le_of_lt h.bk.lt)), fun j hj => ?_⟩
    · unfold restA
      rw [if_neg hc]; simp [Addr.add]
    · rw [List.length_drop] at hj
      rw [← byt_drop, Nat.add_assoc]
      exact hx (i + j) (by omega)
theorem SR.besides {B rb : Nat} {w w' : World} {a : Option Addr} {c : Nat} {b : List UInt8} {i n i' n' : Nat} {ov : Value} {k : Nat} {us : List Value} (h : SR B rb w a c b i n ov k us) (hb : Besides rb w w') (hbk : blk w' rb 97 #[.slice a b.length c, .int .i64 i', .int .i64 n', ov]) (hi : i' ≤ b.length) : SR B rb w' a c b i' n' ov k us where
  bk := hbk
  own := by
    refine ⟨h.own.1, ?_⟩
    rcases h.own.2 with e | ⟨g, cap, cur, q1, q2, q3, q4⟩
    · exact .inl e
    · exact .inr ⟨g, cap, cur, q1, q2, (hb.block g (Array.getElem?_eq_some_iff.1 q3).1 (fun e => h.ne (by rw [q1]; show some g = some rb; rw [e]))).trans q3, q4⟩
  low := h.low
  ne := h.ne
  le := hi
  lim := h.lim
  cap := h.cap
  tx := by
    rcases h.tx with e | ⟨g, o, h1, h2, h3⟩
    · exact .inl e
    · exact .inr ⟨g, o, h1, h2, fun j hj => hb.cell (p := ⟨g, o + j, none⟩) (by have := h.low; show g ≠ rb; omega) (h3 j hj)⟩
  ev := by
    obtain ⟨⟨t, p, h1⟩, ⟨t', p', h2⟩⟩ := h.ev
    have := h.low; have := h.evB
    exact ⟨⟨t, p, hb.cell (p := ⟨0, 0, none⟩) (by show (0 : Nat) ≠ rb; omega) h1⟩, ⟨t', p', hb.cell (p := ⟨1, 0, none⟩) (by show (1 : Nat) ≠ rb; omega) h2⟩⟩
  evB := h.evB
theorem results_cell2 {fn : Func} {p u : Tmp} (h : fn.results = #[.cell p 31, .tmp u]) (tmps : Array Value) (w : World) (g : Nat) (cs : Array Value)
    (hp : tmps.getD p undef = .pointer (some ⟨g, 0, none⟩)) (hg : w.heap[g]? = some (.cells cs 31 (0, 0))) (hs : cs.size = 5) : (results fn tmps).run Tryd.prog w = .ok (.tuple #[.agg cs, tmps.getD u undef]) w := by
  have hp' : tmps[p]?.getD undef = .pointer (some ⟨g, 0, none⟩) := by simpa using hp
  have hi : (Tryd.prog.info? 31).map (·.size) = some cs.size := by rw [hs]; exact info25s
  simp [results, h, hp', asAddr, run_loadVar_row w g 31 31 cs (0, 0) _ hg Tryd.underlying31 rfl hi]
theorem Besides.setOld {rb H o : Nat} {w w1 : World} {u : Value} (hH : w.heap.size ≤ H) (h : Besides rb w w1) : Besides rb w (w1.setCell ⟨H, o, none⟩ u) :=
  ⟨h.os, h.tape, h.output, by simpa [World.setCell] using h.size, fun k hk hn => by rw [Below.heap_setCell _ _ _ _ (show k ≠ H by omega)]; exact h.block k hk hn⟩
theorem blk_set5 {H g : Nat} {ty : TypeId} {cs : Array Value} {w : World} {b0 b1 b2 b3 b4 : Value} (hne : g ≠ H) (h : blk w g ty cs) : blk (((((w.setCell ⟨H, 0, none⟩ b0).setCell ⟨H, 1, none⟩ b1).setCell ⟨H, 2, none⟩ b2).setCell ⟨H, 3, none⟩ b3).setCell ⟨H, 4, none⟩ b4) g ty cs :=
  h.keep (by rw [Below.heap_setCell _ _ _ _ hne, Below.heap_setCell _ _ _ _ hne, Below.heap_setCell _ _ _ _ hne, Below.heap_setCell _ _ _ _ hne, Below.heap_setCell _ _ _ _ hne])
abbrev zero5 : Obj := Obj.cells #[.int .i64 0, .int .i64 0, .string { data := #[] }, .slice none 0 0, .slice none 0 0] 31
set_option maxRecDepth 10000 in
set_option maxHeartbeats 1000000 in
theorem leaf55 {B rb : Nat} {w : World} {a : Option Addr} {c : Nat} {b : List UInt8} {i n : Nat} {ov : Value} {k : Nat} {us : List Value} (h : SR B rb w a c b i n ov k us) (h1 : byt b i ≠ 108) (h2 : byt b i ≠ 100) :
    Calls Tryd.prog 82 #[.pointer (some ⟨rb, 0, none⟩)] w fun e w' => ∃ t xa xn xc ya yn yc j er, e = .returned (.tuple #[vv t (.slice xa xn xc) (.slice ya yn yc), .int .i64 er]) ∧ ((er = 0 ∧ leafO b i = .val t j) ∨ (er ≠ 0 ∧ leafO b i = .bad j er)) ∧ i + j ≤ b.length ∧ SR B rb w' a c b (i + j) n ov k us ∧ Besides rb w w' := by
  have hn := h.le
  have hl := h.lim
  have hcap := h.cap
  have i0 : (0 : Int) ≤ (i : Int) := by omega
  have i1 : (i : Int) ≤ (b.length : Int) := by omega
  have i2 : (i : Int) ≤ (c : Int) := by omega
  have hb0 : Below w.heap.size w (w.alloc zero5) := (Below.refl _ _).alloc (Nat.le_refl _) _
  have HW : Hid (SR B rb w a c b i n ov k us ∧ rb < w.heap.size) := ⟨h, h.bk.lt⟩
  have HX : Hid (SR B rb (w.alloc zero5) a c b i n ov k us ∧ obj (w.alloc zero5) w.heap.size (.int .i64 0) (.int .i64 0) (.string { data := #[] }) (.slice none 0 0) (.slice none 0 0) ∧ Below w.heap.size w (w.alloc zero5)) := ⟨h.keep hb0, heap_new _ _, hb0⟩
  obtain ⟨c0, c1, _, _, f1, _⟩ := HX.out.1.cells
  clear h hb0
  go_enter Tryd.func82, Tryd.ntmps82
  go_wp2_with fail
  generalize w.alloc (Obj.cells #[.int .i64 0, .int .i64 0, .string { data := #[] }, .slice none 0 0, .slice none 0 0] 31) = w0 at *
  generalize hH : w.heap.size = H at *
  have HH := Lib.hid hH
  clear hH
  have HC : ∀ w', Below w0.heap.size w0 w' → ∀ q, (q = 0 ∨ obj w' q (.int .i64 0) (.int .i64 0) (.string { data := #[] }) (.slice none 0 0) (.slice none 0 0)) → Calls Tryd.prog 102 #[.slice (restA c i a) (b.length - i) (c - i)] w' fun e w2 => ∃ t xa xn xc ya yn yc j er, e = .returned (.tuple #[.agg #[.int .i64 t.k, .int .i64 t.n, .string t.s, .slice xa xn xc, .slice ya yn yc], .int .i64 ((j : Nat) : Int), .int .i64 er]) ∧
      (w2.cell? ⟨rb, 0, none⟩ = some (.slice a b.length c) ∧ w2.cell? ⟨rb, 1, none⟩ = some (.int .i64 i) ∧ w2.frozen? ⟨rb, 1, none⟩ = false) ∧ (q = 0 ∨ obj w2 q (.int .i64 0) (.int .i64 0) (.string { data := #[] }) (.slice none 0 0) (.slice none 0 0)) ∧ Hid (OUT (b.drop i) t j er ∧ Below w0.heap.size w0 w2 ∧ w'.heap.size ≤ w2.heap.size) := by
    intro w' hb' q hq
    have hs := HX.out.1.keep hb'
    refine (prefix12 _ _ w' hs.rest hs.ev).mono ?_
    rintro e w2 ⟨t, x, y, j, er, rfl, hrv, _, hout, hb2⟩
    obtain ⟨⟨xa, xn, xc, rfl⟩, ⟨ya, yn, yc, rfl⟩⟩ := hrv.slices
    have hs2 := hs.keep hb2
    exact ⟨t, xa, xn, xc, ya, yn, yc, j, er, rfl, ⟨hs2.cells.1, hs2.cells.2.1, hs2.bk.frozen 1⟩, hq.imp id (fun hq => hq.keep (hb2.block _ hq.lt)), hout, hb'.trans (hb2.mono hb'.size), hb2.size⟩
  have hpos : w0.heap.size ≠ 0 := by have := HX.out.1.bk.lt; omega
  have HCA := Lib.hid (HC w0.drew ⟨rfl, rfl, rfl, Nat.le_refl _, fun _ _ => rfl⟩ 0 (.inl rfl))
  have HCB := Lib.hid (HC (w0.alloc zero5).drew (show Below w0.heap.size w0 (w0.alloc zero5).drew from (have h : Below w0.heap.size w0 (w0.alloc zero5) := (Below.refl _ _).alloc (Nat.le_refl _) zero5; ⟨h.os, h.tape, h.output, h.size, h.block⟩)) w0.heap.size (.inr (heap_new w0 zero5)))
  clear HC
  have hsl : (if c = i then a else Option.map (fun x => x.add i) a) = restA c i a := rfl
  generalize restA c i a = A at *
  have n0 := World.new_ne w0 _ c0
  have n1 := World.new_ne w0 _ c1
  go_region_held3 (fun w' => w'.cell? ⟨rb, 0, none⟩ = some (.slice a b.length c) ∧ w'.cell? ⟨rb, 1, none⟩ = some (.int .i64 i)) (first | go_keep | (simp [*]))
      (first | (go_at_call 102; refine HCA.out.mono ?_; rintro e w2 ⟨t, xa, xn, xc, ya, yn, yc, j, er, rfl, ⟨q0, q1, q2⟩, -, HO⟩; have n2 := World.new_ne w2 _ q0; have n3 := World.new_ne w2 _ q1) | (go_at_call 102; refine HCB.out.mono ?_; rintro e w2 ⟨t, xa, xn, xc, ya, yn, yc, j, er, rfl, ⟨q0, q1, q2⟩, hq, HO⟩; have hqb := hq.resolve_left hpos; obtain ⟨z0, z1, z2, z3, z4⟩ := hqb.cells; have y0 := hqb.frozen 0; have y1 := hqb.frozen 1; have y2 := hqb.frozen 2; have y3 := hqb.frozen 3; have y4 := hqb.frozen 4; have HQ := Lib.hid hqb; clear hq hqb))
  ·
    have HL : Hid ((er = 0 ∧ leafO b i = .val t j) ∨ (er ≠ 0 ∧ leafO b i = .bad j er)) := leaf_out hl h1 h2 HO.out.1
    have hij : i + j ≤ b.length := by
      rcases HL.out with ⟨_, e⟩ | ⟨_, e⟩
      · exact (leaf_val hn hl h1 h2 e).1
      · exact leaf_bad hn h1 h2 e
    generalize hWW : w2.alloc (Obj.cells #[Value.int .i64 t.k, Value.int .i64 t.n, Value.string t.s, Value.slice xa xn xc, Value.slice ya yn yc] 31) = W at *
    have HF : Hid (obj W w2.heap.size (.int .i64 t.k) (.int .i64 t.n) (.string t.s) (.slice xa xn xc) (.slice ya yn yc) ∧ Below w0.heap.size w0 W) := by
      rw [← hWW]
      exact ⟨heap_new _ _, HO.out.2.1.alloc HO.out.2.2 _⟩
    clear hWW
    have hb0 := HF.out.2
    have hS : SR B rb W a c b i n ov k us := HX.out.1.keep hb0
    have hO : obj W H (.int .i64 0) (.int .i64 0) (.string { data := #[] }) (.slice none 0 0) (.slice none 0 0) := HX.out.2.1.keep (hb0.block _ HX.out.2.1.lt)
    obtain ⟨_, d1, _, _, g1, _⟩ := hS.cells
    obtain ⟨v0, v1, v2, v3, v4⟩ := HF.out.1.cells
    obtain ⟨o0, o1, o2, o3, o4⟩ := hO.cells
    have p0 := hO.frozen 0
    have p1 := hO.frozen 1
    have p2 := hO.frozen 2
    have p3 := hO.frozen 3
    have p4 := hO.frozen 4
    have ij1 : (i : Int) + (j : Int) ≤ 1048576 := by omega
    have ij0 : (0 : Int) ≤ (i : Int) + (j : Int) := by omega
    have hHv : H ≠ w2.heap.size := by have := HX.out.2.1.lt; have := HF.out.1.lt; have := HO.out.2.1.size; omega
    have hrv : rb ≠ w2.heap.size := by have := HX.out.1.bk.lt; have := HO.out.2.1.size; omega
    have hHr : H ≠ rb := by have := HW.out.2; have := HH.out; omega
    have HS := Lib.hid hS
    have HO2 := Lib.hid hO
    have hWs : w0.heap.size ≤ W.heap.size := hb0.size
    clear hS hO hb0 q0 q1 q2 n0 n1 n2 n3 c0 c1 f1 HCA HCB hsl
    go_wp2
    have hrH : rb ≠ H := fun e => hHr e.symm
    have hB : Besides rb w W := by
      have h3 := HX.out.2.2.trans (HF.out.2.mono (Nat.le_of_lt HX.out.2.1.lt))
      rw [← HH.out] at h3
      exact Besides.of_below h3
    have hH' : w.heap.size ≤ H := Nat.le_of_eq HH.out
    refine bodyPost_ret (v := .tuple #[vv t (.slice xa xn xc) (.slice ya yn yc), .int .i64 er]) (results_cell2 Tryd.results82 _ _ H _ rfl (((((HO2.out.keep (Below.heap_setCell _ _ _ _ hHr)).set0 _).set1 _).set2 _).set3 _ |>.set4 _) rfl) rfl ?_
    have hBF := Besides.setOld (o := 4) (u := .slice ya yn yc) hH' (Besides.setOld (o := 3) (u := .slice xa xn xc) hH' (Besides.setOld (o := 2) (u := .string t.s) hH' (Besides.setOld (o := 1) (u := .int .i64 t.n) hH' (Besides.setOld (o := 0) (u := .int .i64 t.k) hH' (hB.set1 (i := 1) (v := .int .i64 ((i : Int) + (j : Int))))))))
    refine ⟨t, _, _, _, _, _, _, j, er, rfl, HL.out, hij, HW.out.1.besides hBF (blk_set5 hrH ?_) hij, hBF⟩
    have := HS.out.bk.set 1 (.int .i64 ((i : Int) + (j : Int)))
    rw [show ((i + j : Nat) : Int) = (i : Int) + (j : Int) from by omega]
    exact this
  ·
    have HL : Hid ((er = 0 ∧ leafO b i = .val t j) ∨ (er ≠ 0 ∧ leafO b i = .bad j er)) := leaf_out hl h1 h2 HO.out.1
    have hij : i + j ≤ b.length := by
      rcases HL.out with ⟨_, e⟩ | ⟨_, e⟩
      · exact (leaf_val hn hl h1 h2 e).1
      · exact leaf_bad hn h1 h2 e
    generalize hWW : ((((w2.setCell ⟨w0.heap.size, 0, none⟩ (Value.int .i64 t.k)).setCell ⟨w0.heap.size, 1, none⟩ (Value.int .i64 t.n)).setCell ⟨w0.heap.size, 2, none⟩ (Value.string t.s)).setCell ⟨w0.heap.size, 3, none⟩ (Value.slice xa xn xc)).setCell ⟨w0.heap.size, 4, none⟩ (Value.slice ya yn yc) = W at *
    have HF : Hid (obj W w0.heap.size (.int .i64 t.k) (.int .i64 t.n) (.string t.s) (.slice xa xn xc) (.slice ya yn yc) ∧ Below w0.heap.size w0 W) := by
      rw [← hWW]
      exact ⟨((((HQ.out.set0 _).set1 _).set2 _).set3 _).set4 _, below_set5v (Nat.le_refl _) HO.out.2.1⟩
    clear hWW
    have hb0 := HF.out.2
    have hS : SR B rb W a c b i n ov k us := HX.out.1.keep hb0
    have hO : obj W H (.int .i64 0) (.int .i64 0) (.string { data := #[] }) (.slice none 0 0) (.slice none 0 0) := HX.out.2.1.keep (hb0.block _ HX.out.2.1.lt)
    obtain ⟨_, d1, _, _, g1, _⟩ := hS.cells
    obtain ⟨v0, v1, v2, v3, v4⟩ := HF.out.1.cells
    obtain ⟨o0, o1, o2, o3, o4⟩ := hO.cells
    have p0 := hO.frozen 0
    have p1 := hO.frozen 1
    have p2 := hO.frozen 2
    have p3 := hO.frozen 3
    have p4 := hO.frozen 4
    have ij1 : (i : Int) + (j : Int) ≤ 1048576 := by omega
    have ij0 : (0 : Int) ≤ (i : Int) + (j : Int) := by omega
    have hHv : H ≠ w0.heap.size := by have := HX.out.2.1.lt; have := HF.out.1.lt; omega
    have hrv : rb ≠ w0.heap.size := by have := HX.out.1.bk.lt; omega
    have hHr : H ≠ rb := by have := HW.out.2; have := HH.out; omega
    have HS := Lib.hid hS
    have HO2 := Lib.hid hO
    have hWs : w0.heap.size ≤ W.heap.size := hb0.size
    clear hS hO hb0 q0 q1 q2 n0 n1 c0 c1 f1 HCA HCB hsl z0 z1 z2 z3 z4 y0 y1 y2 y3 y4
    go_wp2
    have hrH : rb ≠ H := fun e => hHr e.symm
    have hB : Besides rb w W := by
      have h3 := HX.out.2.2.trans (HF.out.2.mono (Nat.le_of_lt HX.out.2.1.lt))
      rw [← HH.out] at h3
      exact Besides.of_below h3
    have hH' : w.heap.size ≤ H := Nat.le_of_eq HH.out
    refine bodyPost_ret (v := .tuple #[vv t (.slice xa xn xc) (.slice ya yn yc), .int .i64 er]) (results_cell2 Tryd.results82 _ _ H _ rfl (((((HO2.out.keep (Below.heap_setCell _ _ _ _ hHr)).set0 _).set1 _).set2 _).set3 _ |>.set4 _) rfl) rfl ?_
    have hBF := Besides.setOld (o := 4) (u := .slice ya yn yc) hH' (Besides.setOld (o := 3) (u := .slice xa xn xc) hH' (Besides.setOld (o := 2) (u := .string t.s) hH' (Besides.setOld (o := 1) (u := .int .i64 t.n) hH' (Besides.setOld (o := 0) (u := .int .i64 t.k) hH' (hB.set1 (i := 1) (v := .int .i64 ((i : Int) + (j : Int))))))))
    refine ⟨t, _, _, _, _, _, _, j, er, rfl, HL.out, hij, HW.out.1.besides hBF (blk_set5 hrH ?_) hij, hBF⟩
    have := HS.out.bk.set 1 (.int .i64 ((i : Int) + (j : Int)))
    rw [show ((i + j : Nat) : Int) = (i : Int) + (j : Int) from by omega]
    exact this
end Go.Proofs.YtdlnnnlmlaploabDoor
namespace Go.Proofs.YtdlnnnlmlaploabDoor
open Go.RowKit Go.Deep
/-- a value of span: nine cells -/
abbrev sv9 (kd fr to dp up nt : Int) (ky : ByteArray) (pl fi : Int) : Array Value := #[.int .i64 kd, .int .i64 fr, .int .i64 to, .int .i64 dp, .int .i64 up, .int .i64 nt, .string ky, .int .i64 pl, .int .i64 fi]
theorem blk.cells9 {w : World} {g : Nat} {ty : TypeId} {c0 c1 c2 c3 c4 c5 c6 c7 c8 : Value} (h : blk w g ty #[c0, c1, c2, c3, c4, c5, c6, c7, c8]) :
    w.cell? ⟨g, 0, none⟩ = some c0 ∧ w.cell? ⟨g, 1, none⟩ = some c1 ∧ w.cell? ⟨g, 2, none⟩ = some c2 ∧ w.cell? ⟨g, 3, none⟩ = some c3 ∧ w.cell? ⟨g, 4, none⟩ = some c4 ∧ w.cell? ⟨g, 5, none⟩ = some c5 ∧ w.cell? ⟨g, 6, none⟩ = some c6 ∧ w.cell? ⟨g, 7, none⟩ = some c7 ∧ w.cell? ⟨g, 8, none⟩ = some c8 :=
  ⟨h.cell 0, h.cell 1, h.cell 2, h.cell 3, h.cell 4, h.cell 5, h.cell 6, h.cell 7, h.cell 8⟩
theorem blk.frozen9 {w : World} {g : Nat} {ty : TypeId} {cs : Array Value} (h : blk w g ty cs) :
    w.frozen? ⟨g, 0, none⟩ = false ∧ w.frozen? ⟨g, 1, none⟩ = false ∧ w.frozen? ⟨g, 2, none⟩ = false ∧ w.frozen? ⟨g, 3, none⟩ = false ∧ w.frozen? ⟨g, 4, none⟩ = false ∧ w.frozen? ⟨g, 5, none⟩ = false ∧ w.frozen? ⟨g, 6, none⟩ = false ∧ w.frozen? ⟨g, 7, none⟩ = false ∧ w.frozen? ⟨g, 8, none⟩ = false :=
  ⟨h.frozen 0, h.frozen 1, h.frozen 2, h.frozen 3, h.frozen 4, h.frozen 5, h.frozen 6, h.frozen 7, h.frozen 8⟩
/-- a block that is none of the reader's is written -/
theorem SR.setFar {B rb : Nat} {w w1 : World} {a : Option Addr} {c : Nat} {b : List UInt8} {i n i' n' : Nat} {ov : Value} {k : Nat} {us : List Value} (h : SR B rb w a c b i n ov k us) (hb : Besides rb w w1) (hs : SR B rb w1 a c b i' n' ov k us) {g : Nat} (hg : w.heap.size ≤ g) (o : Nat) (u : Value) :
    SR B rb (w1.setCell ⟨g, o, none⟩ u) a c b i' n' ov k us :=
  h.besides (Besides.setOld hg hb) (hs.bk.keep (Below.heap_setCell _ _ _ _ (by have := h.bk.lt; show rb ≠ g; omega))) hs.le
theorem blk.s0 {w : World} {g : Nat} {ty : TypeId} {c0 c1 c2 c3 c4 c5 c6 c7 c8 : Value} (h : blk w g ty #[c0, c1, c2, c3, c4, c5, c6, c7, c8]) (v : Value) : blk (w.setCell ⟨g, 0, none⟩ v) g ty #[v, c1, c2, c3, c4, c5, c6, c7, c8] := h.set 0 v
theorem blk.s1 {w : World} {g : Nat} {ty : TypeId} {c0 c1 c2 c3 c4 c5 c6 c7 c8 : Value} (h : blk w g ty #[c0, c1, c2, c3, c4, c5, c6, c7, c8]) (v : Value) : blk (w.setCell ⟨g, 1, none⟩ v) g ty #[c0, v, c2, c3, c4, c5, c6, c7, c8] := h.set 1 v
theorem blk.s2 {w : World} {g : Nat} {ty : TypeId} {c0 c1 c2 c3 c4 c5 c6 c7 c8 : Value} (h : blk w g ty #[c0, c1, c2, c3, c4, c5, c6, c7, c8]) (v : Value) : blk (w.setCell ⟨g, 2, none⟩ v) g ty #[c0, c1, v, c3, c4, c5, c6, c7, c8] := h.set 2 v
theorem blk.s3 {w : World} {g : Nat} {ty : TypeId} {c0 c1 c2 c3 c4 c5 c6 c7 c8 : Value} (h : blk w g ty #[c0, c1, c2, c3, c4, c5, c6, c7, c8]) (v : Value) : blk (w.setCell ⟨g, 3, none⟩ v) g ty #[c0, c1, c2, v, c4, c5, c6, c7, c8] := h.set 3 v
theorem blk.s4 {w : World} {g : Nat} {ty : TypeId} {c0 c1 c2 c3 c4 c5 c6 c7 c8 : Value} (h : blk w g ty #[c0, c1, c2, c3, c4, c5, c6, c7, c8]) (v : Value) : blk (w.setCell ⟨g, 4, none⟩ v) g ty #[c0, c1, c2, c3, v, c5, c6, c7, c8] := h.set 4 v
theorem blk.s5 {w : World} {g : Nat} {ty : TypeId} {c0 c1 c2 c3 c4 c5 c6 c7 c8 : Value} (h : blk w g ty #[c0, c1, c2, c3, c4, c5, c6, c7, c8]) (v : Value) : blk (w.setCell ⟨g, 5, none⟩ v) g ty #[c0, c1, c2, c3, c4, v, c6, c7, c8] := h.set 5 v
theorem blk.s6 {w : World} {g : Nat} {ty : TypeId} {c0 c1 c2 c3 c4 c5 c6 c7 c8 : Value} (h : blk w g ty #[c0, c1, c2, c3, c4, c5, c6, c7, c8]) (v : Value) : blk (w.setCell ⟨g, 6, none⟩ v) g ty #[c0, c1, c2, c3, c4, c5, v, c7, c8] := h.set 6 v
theorem blk.s7 {w : World} {g : Nat} {ty : TypeId} {c0 c1 c2 c3 c4 c5 c6 c7 c8 : Value} (h : blk w g ty #[c0, c1, c2, c3, c4, c5, c6, c7, c8]) (v : Value) : blk (w.setCell ⟨g, 7, none⟩ v) g ty #[c0, c1, c2, c3, c4, c5, c6, v, c8] := h.set 7 v
theorem blk.s8 {w : World} {g : Nat} {ty : TypeId} {c0 c1 c2 c3 c4 c5 c6 c7 c8 : Value} (h : blk w g ty #[c0, c1, c2, c3, c4, c5, c6, c7, c8]) (v : Value) : blk (w.setCell ⟨g, 8, none⟩ v) g ty #[c0, c1, c2, c3, c4, c5, c6, c7, v] := h.set 8 v
abbrev set9 (w : World) (g : Nat) (v0 v1 v2 v3 v4 v5 v6 v7 v8 : Value) : World := ((((((((w.setCell ⟨g, 0, none⟩ v0).setCell ⟨g, 1, none⟩ v1).setCell ⟨g, 2, none⟩ v2).setCell ⟨g, 3, none⟩ v3).setCell ⟨g, 4, none⟩ v4).setCell ⟨g, 5, none⟩ v5).setCell ⟨g, 6, none⟩ v6).setCell ⟨g, 7, none⟩ v7).setCell ⟨g, 8, none⟩ v8
/-- a box of nine cells is filled -/
theorem SR.box9 {B rb : Nat} {w w1 : World} {a : Option Addr} {c : Nat} {b : List UInt8} {i n i' n' : Nat} {ov : Value} {k : Nat} {us : List Value} (h : SR B rb w a c b i n ov k us) (hb : Besides rb w w1) (hs : SR B rb w1 a c b i' n' ov k us) {g : Nat} (hg : w.heap.size ≤ g) {c0 c1 c2 c3 c4 c5 c6 c7 c8 : Value} (hk : blk w1 g 60 #[c0, c1, c2, c3, c4, c5, c6, c7, c8]) (v0 v1 v2 v3 v4 v5 v6 v7 v8 : Value) :
    SR B rb (set9 w1 g v0 v1 v2 v3 v4 v5 v6 v7 v8) a c b i' n' ov k us ∧ Besides rb w (set9 w1 g v0 v1 v2 v3 v4 v5 v6 v7 v8) ∧ blk (set9 w1 g v0 v1 v2 v3 v4 v5 v6 v7 v8) g 60 #[v0, v1, v2, v3, v4, v5, v6, v7, v8] := by
  have s0 := h.setFar hb hs hg 0 v0
  have m0 := Besides.setOld (o := 0) (u := v0) hg hb
  have s1 := h.setFar m0 s0 hg 1 v1
  have m1 := Besides.setOld (o := 1) (u := v1) hg m0
  have s2 := h.setFar m1 s1 hg 2 v2
  have m2 := Besides.setOld (o := 2) (u := v2) hg m1
  have s3 := h.setFar m2 s2 hg 3 v3
  have m3 := Besides.setOld (o := 3) (u := v3) hg m2
  have s4 := h.setFar m3 s3 hg 4 v4
  have m4 := Besides.setOld (o := 4) (u := v4) hg m3
  have s5 := h.setFar m4 s4 hg 5 v5
  have m5 := Besides.setOld (o := 5) (u := v5) hg m4
  have s6 := h.setFar m5 s5 hg 6 v6
  have m6 := Besides.setOld (o := 6) (u := v6) hg m5
  have s7 := h.setFar m6 s6 hg 7 v7
  have m7 := Besides.setOld (o := 7) (u := v7) hg m6
  have s8 := h.setFar m7 s7 hg 8 v8
  have m8 := Besides.setOld (o := 8) (u := v8) hg m7
  have k0 := hk.s0 v0
  have k1 := k0.s1 v1
  have k2 := k1.s2 v2
  have k3 := k2.s3 v3
  have k4 := k3.s4 v4
  have k5 := k4.s5 v5
  have k6 := k5.s6 v6
  have k7 := k6.s7 v7
  have k8 := k7.s8 v8
  exact ⟨s8, m8, k8⟩
theorem below_drew (w : World) : Below w.heap.size w w.drew := ⟨rfl, rfl, rfl, Nat.le_refl _, fun _ _ => rfl⟩
theorem Besides.drew {rb : Nat} {w w1 : World} (h : Besides rb w w1) : Besides rb w w1.drew := ⟨h.os, h.tape, h.output, h.size, h.block⟩
theorem info47s : (Tryd.prog.info? 60).map (·.size) = some 9 := by kernel_rfl
theorem results_cell47 {fn : Func} {p : Tmp} (h : fn.results = #[.cell p 60]) (tmps : Array Value) (w : World) (g : Nat) (cs : Array Value)
    (hp : tmps.getD p undef = .pointer (some ⟨g, 0, none⟩)) (hg : w.heap[g]? = some (.cells cs 60 (0, 0))) (hs : cs.size = 9) : (results fn tmps).run Tryd.prog w = .ok (.agg cs) w := by
  have hp' : tmps[p]?.getD undef = .pointer (some ⟨g, 0, none⟩) := by simpa using hp
  have hi : (Tryd.prog.info? 60).map (·.size) = some cs.size := by rw [hs]; exact info47s
  simp [results, h, hp', asAddr, run_loadVar_row w g 60 60 cs (0, 0) _ hg Tryd.underlying60 rfl hi]
abbrev zero9 : Obj := Obj.cells #[.int .i64 0, .int .i64 0, .int .i64 0, .int .i64 0, .int .i64 0, .int .i64 0, .string { data := #[] }, .int .i64 0, .int .i64 0] 60
end Go.Proofs.YtdlnnnlmlaploabDoor
