import Derived.Test.YtdlnnnlmlaploaaDoorS7
import Derived.Test.YtdlnnnlmlaploaaDoorS9
namespace Go.Proofs.YtdlnnnlmlaploaaDoor
open Go.RowKit Go.Deep
set_option maxRecDepth 10000 in
set_option maxHeartbeats 1000000 in
/-- too deep -/
theorem value40xL {B rb : Nat} {w : World} {a : Option Addr} {c : Nat} {b : List UInt8} {i n : Nat} {ov : Value} {k : Nat} {us : List Value} (h : SR B rb w a c b i n ov k us) (hn : n ≤ 1048577) {up nt fi : Int} {ky : ByteArray} (hD : DUE k us up nt ky fi) (_hi : i < b.length) (h1 : byt b i = 108) (hk : 32 ≤ k) :
    Calls Tryd.prog 40 #[.pointer (some ⟨rb, 0, none⟩)] w fun e w' => e = .returned (.tuple #[.agg (sv9 3 i 0 k up nt ky n fi), .int .i64 24]) ∧ SR B rb w' a c b i (n + 1) ov k us ∧ Besides rb w w' := by
  have hb0 : Below w.heap.size w (w.alloc zero9) := (Below.refl _ _).alloc (Nat.le_refl _) _
  have HX := Lib.hid (And.intro h (And.intro hb0 (And.intro (h.keep hb0) (show blk (w.alloc zero9) w.heap.size 47 #[.int .i64 0, .int .i64 0, .int .i64 0, .int .i64 0, .int .i64 0, .int .i64 0, .string { data := #[] }, .int .i64 0, .int .i64 0] from heap_new w zero9))))
  have HD := Lib.hid (due54 HX.out.2.2.1 hn hD)
  clear h hb0 hD
  go_enter Tryd.func40, Tryd.ntmps40
  go_wp2_with fail
  refine HD.out.mono ?_
  rintro e w1 ⟨rfl, s1, m1⟩
  have HW : Hid (SR B rb (w1.alloc (Obj.cells #[Value.int .i64 0, Value.int .i64 i, Value.int .i64 0, Value.int .i64 k, Value.int .i64 up, Value.int .i64 nt, Value.string ky, Value.int .i64 n, Value.int .i64 fi] 47)) a c b i (n + 1) ov k us ∧ blk (w1.alloc (Obj.cells #[Value.int .i64 0, Value.int .i64 i, Value.int .i64 0, Value.int .i64 k, Value.int .i64 up, Value.int .i64 nt, Value.string ky, Value.int .i64 n, Value.int .i64 fi] 47)) w.heap.size 47 #[.int .i64 0, .int .i64 0, .int .i64 0, .int .i64 0, .int .i64 0, .int .i64 0, .string { data := #[] }, .int .i64 0, .int .i64 0] ∧ blk (w1.alloc (Obj.cells #[Value.int .i64 0, Value.int .i64 i, Value.int .i64 0, Value.int .i64 k, Value.int .i64 up, Value.int .i64 nt, Value.string ky, Value.int .i64 n, Value.int .i64 fi] 47)) w1.heap.size 47 #[.int .i64 0, .int .i64 i, .int .i64 0, .int .i64 k, .int .i64 up, .int .i64 nt, .string ky, .int .i64 n, .int .i64 fi] ∧ Besides rb w (w1.alloc (Obj.cells #[Value.int .i64 0, Value.int .i64 i, Value.int .i64 0, Value.int .i64 k, Value.int .i64 up, Value.int .i64 nt, Value.string ky, Value.int .i64 n, Value.int .i64 fi] 47)) ∧ w.heap.size < w1.heap.size) := by
    obtain ⟨q1, q2, q3, q4⟩ := HX.out
    have hv : Below w1.heap.size w1 (w1.alloc (Obj.cells #[Value.int .i64 0, Value.int .i64 i, Value.int .i64 0, Value.int .i64 k, Value.int .i64 up, Value.int .i64 nt, Value.string ky, Value.int .i64 n, Value.int .i64 fi] 47)) := (Below.refl _ _).alloc (Nat.le_refl _) _
    have hr := q1.bk.lt
    have q5 : blk w1 w.heap.size 47 _ := q4.keep (m1.block _ q4.lt (by show w.heap.size ≠ rb; omega))
    exact ⟨s1.keep hv, q5.keep (hv.block _ q5.lt), heap_new _ _, ((Besides.of_below q2).trans m1).trans (Besides.of_below hv), q5.lt⟩
  clear s1 m1 HD
  go_wp2_with fail
  generalize hV : w1.heap.size = vb at *
  generalize (w1.alloc (Obj.cells #[Value.int .i64 0, Value.int .i64 i, Value.int .i64 0, Value.int .i64 k, Value.int .i64 up, Value.int .i64 nt, Value.string ky, Value.int .i64 n, Value.int .i64 fi] 47)) = W1 at *
  generalize hH : w.heap.size = H at *
  have HH := Lib.hid hH
  refine (next41 HW.out.1).mono ?_
  rintro e w2 ⟨rfl, hb2⟩
  have H2 : Hid (SR B rb w2 a c b i (n + 1) ov k us ∧ blk w2 H 47 #[.int .i64 0, .int .i64 0, .int .i64 0, .int .i64 0, .int .i64 0, .int .i64 0, .string { data := #[] }, .int .i64 0, .int .i64 0] ∧ blk w2 vb 47 #[.int .i64 0, .int .i64 i, .int .i64 0, .int .i64 k, .int .i64 up, .int .i64 nt, .string ky, .int .i64 n, .int .i64 fi] ∧ Besides rb w w2 ∧ H < vb) := by
    obtain ⟨q1, q2, q3, q4, q5⟩ := HW.out
    exact ⟨q1.keep hb2, q2.keep (hb2.block _ q2.lt), q3.keep (hb2.block _ q3.lt), q4.trans (Besides.of_below hb2), q5⟩
  clear hb2 HW hH hV
  rw [h1]
  have hB := Lib.hid h1
  obtain ⟨b0, b1, b2, b3, b4, b5, b6, b7, b8⟩ := H2.out.2.2.1.cells9
  have x0 := H2.out.2.2.1.frozen 0
  obtain ⟨_, g1, g2, g3, u1, u2, u3⟩ := H2.out.1.cells
  have nvr : vb ≠ rb := by have := H2.out.2.2.2.2; have := HX.out.1.bk.lt; have := HH.out; omega
  have nrv : rb ≠ vb := fun e => nvr e.symm
  have hk32 : (32 : Int) ≤ (k : Int) := by omega
  have hrH : rb ≠ H := by have := HX.out.1.bk.lt; have := HH.out; omega
  have hHv : H ≠ vb := by have := H2.out.2.2.2.2; omega
  obtain ⟨z0, z1, z2, z3, z4, z5, z6, z7, z8⟩ := H2.out.2.1.cells9
  obtain ⟨y0, y1, y2, y3, y4, y5, y6, y7, y8⟩ := H2.out.2.1.frozen9
  go_wp2
  obtain ⟨q1, q2, q3, q4, q5⟩ := H2.out
  have hz : w.heap.size ≤ vb := by have := HH.out; omega
  have s1 := HX.out.1.setFar q4 q1 hz 0 (.int .i64 3)
  have m1 := Besides.setOld (o := 0) (u := .int .i64 3) hz q4
  have p2 : blk (w2.setCell ⟨vb, 0, none⟩ (.int .i64 3)) H 47 _ := q2.keep (Below.heap_setCell _ _ _ _ hHv)
  generalize w2.setCell ⟨vb, 0, none⟩ (.int .i64 3) = Y at *
  obtain ⟨e1, e2, e3⟩ := HX.out.1.box9 m1 s1 (Nat.le_of_eq HH.out) p2 (.int .i64 3) (.int .i64 i) (.int .i64 0) (.int .i64 k) (.int .i64 up) (.int .i64 nt) (.string ky) (.int .i64 n) (.int .i64 fi)
  generalize hX : set9 Y H (.int .i64 3) (.int .i64 i) (.int .i64 0) (.int .i64 k) (.int .i64 up) (.int .i64 nt) (.string ky) (.int .i64 n) (.int .i64 fi) = X at *
  unfold set9 at hX
  rw [hX]
  refine bodyPost_ret (v := .tuple #[.agg (sv9 3 i 0 k up nt ky n fi), .int .i64 24]) (results_cell47t Tryd.results40 _ _ H _ rfl e3 rfl) rfl ?_
  exact ⟨rfl, e1, e2⟩
set_option maxRecDepth 10000 in
set_option maxHeartbeats 1000000 in
/-- too deep -/
theorem value40xD {B rb : Nat} {w : World} {a : Option Addr} {c : Nat} {b : List UInt8} {i n : Nat} {ov : Value} {k : Nat} {us : List Value} (h : SR B rb w a c b i n ov k us) (hn : n ≤ 1048577) {up nt fi : Int} {ky : ByteArray} (hD : DUE k us up nt ky fi) (_hi : i < b.length) (h1 : byt b i = 100) (hk : 32 ≤ k) :
    Calls Tryd.prog 40 #[.pointer (some ⟨rb, 0, none⟩)] w fun e w' => e = .returned (.tuple #[.agg (sv9 4 i 0 k up nt ky n fi), .int .i64 24]) ∧ SR B rb w' a c b i (n + 1) ov k us ∧ Besides rb w w' := by
  have hb0 : Below w.heap.size w (w.alloc zero9) := (Below.refl _ _).alloc (Nat.le_refl _) _
  have HX := Lib.hid (And.intro h (And.intro hb0 (And.intro (h.keep hb0) (show blk (w.alloc zero9) w.heap.size 47 #[.int .i64 0, .int .i64 0, .int .i64 0, .int .i64 0, .int .i64 0, .int .i64 0, .string { data := #[] }, .int .i64 0, .int .i64 0] from heap_new w zero9))))
  have HD := Lib.hid (due54 HX.out.2.2.1 hn hD)
  clear h hb0 hD
  go_enter Tryd.func40, Tryd.ntmps40
  go_wp2_with fail
  refine HD.out.mono ?_
  rintro e w1 ⟨rfl, s1, m1⟩
  have HW : Hid (SR B rb (w1.alloc (Obj.cells #[Value.int .i64 0, Value.int .i64 i, Value.int .i64 0, Value.int .i64 k, Value.int .i64 up, Value.int .i64 nt, Value.string ky, Value.int .i64 n, Value.int .i64 fi] 47)) a c b i (n + 1) ov k us ∧ blk (w1.alloc (Obj.cells #[Value.int .i64 0, Value.int .i64 i, Value.int .i64 0, Value.int .i64 k, Value.int .i64 up, Value.int .i64 nt, Value.string ky, Value.int .i64 n, Value.int .i64 fi] 47)) w.heap.size 47 #[.int .i64 0, .int .i64 0, .int .i64 0, .int .i64 0, .int .i64 0, .int .i64 0, .string { data := #[] }, .int .i64 0, .int .i64 0] ∧ blk (w1.alloc (Obj.cells #[Value.int .i64 0, Value.int .i64 i, Value.int .i64 0, Value.int .i64 k, Value.int .i64 up, Value.int .i64 nt, Value.string ky, Value.int .i64 n, Value.int .i64 fi] 47)) w1.heap.size 47 #[.int .i64 0, .int .i64 i, .int .i64 0, .int .i64 k, .int .i64 up, .int .i64 nt, .string ky, .int .i64 n, .int .i64 fi] ∧ Besides rb w (w1.alloc (Obj.cells #[Value.int .i64 0, Value.int .i64 i, Value.int .i64 0, Value.int .i64 k, Value.int .i64 up, Value.int .i64 nt, Value.string ky, Value.int .i64 n, Value.int .i64 fi] 47)) ∧ w.heap.size < w1.heap.size) := by
    obtain ⟨q1, q2, q3, q4⟩ := HX.out
    have hv : Below w1.heap.size w1 (w1.alloc (Obj.cells #[Value.int .i64 0, Value.int .i64 i, Value.int .i64 0, Value.int .i64 k, Value.int .i64 up, Value.int .i64 nt, Value.string ky, Value.int .i64 n, Value.int .i64 fi] 47)) := (Below.refl _ _).alloc (Nat.le_refl _) _
    have hr := q1.bk.lt
    have q5 : blk w1 w.heap.size 47 _ := q4.keep (m1.block _ q4.lt (by show w.heap.size ≠ rb; omega))
    exact ⟨s1.keep hv, q5.keep (hv.block _ q5.lt), heap_new _ _, ((Besides.of_below q2).trans m1).trans (Besides.of_below hv), q5.lt⟩
  clear s1 m1 HD
  go_wp2_with fail
  generalize hV : w1.heap.size = vb at *
  generalize (w1.alloc (Obj.cells #[Value.int .i64 0, Value.int .i64 i, Value.int .i64 0, Value.int .i64 k, Value.int .i64 up, Value.int .i64 nt, Value.string ky, Value.int .i64 n, Value.int .i64 fi] 47)) = W1 at *
  generalize hH : w.heap.size = H at *
  have HH := Lib.hid hH
  refine (next41 HW.out.1).mono ?_
  rintro e w2 ⟨rfl, hb2⟩
  have H2 : Hid (SR B rb w2 a c b i (n + 1) ov k us ∧ blk w2 H 47 #[.int .i64 0, .int .i64 0, .int .i64 0, .int .i64 0, .int .i64 0, .int .i64 0, .string { data := #[] }, .int .i64 0, .int .i64 0] ∧ blk w2 vb 47 #[.int .i64 0, .int .i64 i, .int .i64 0, .int .i64 k, .int .i64 up, .int .i64 nt, .string ky, .int .i64 n, .int .i64 fi] ∧ Besides rb w w2 ∧ H < vb) := by
    obtain ⟨q1, q2, q3, q4, q5⟩ := HW.out
    exact ⟨q1.keep hb2, q2.keep (hb2.block _ q2.lt), q3.keep (hb2.block _ q3.lt), q4.trans (Besides.of_below hb2), q5⟩
  clear hb2 HW hH hV
  rw [h1]
  have hB := Lib.hid h1
  obtain ⟨b0, b1, b2, b3, b4, b5, b6, b7, b8⟩ := H2.out.2.2.1.cells9
  have x0 := H2.out.2.2.1.frozen 0
  obtain ⟨_, g1, g2, g3, u1, u2, u3⟩ := H2.out.1.cells
  have nvr : vb ≠ rb := by have := H2.out.2.2.2.2; have := HX.out.1.bk.lt; have := HH.out; omega
  have nrv : rb ≠ vb := fun e => nvr e.symm
  have hk32 : (32 : Int) ≤ (k : Int) := by omega
  have hrH : rb ≠ H := by have := HX.out.1.bk.lt; have := HH.out; omega
  have hHv : H ≠ vb := by have := H2.out.2.2.2.2; omega
  obtain ⟨z0, z1, z2, z3, z4, z5, z6, z7, z8⟩ := H2.out.2.1.cells9
  obtain ⟨y0, y1, y2, y3, y4, y5, y6, y7, y8⟩ := H2.out.2.1.frozen9
  go_wp2
  obtain ⟨q1, q2, q3, q4, q5⟩ := H2.out
  have hz : w.heap.size ≤ vb := by have := HH.out; omega
  have s1 := HX.out.1.setFar q4 q1 hz 0 (.int .i64 4)
  have m1 := Besides.setOld (o := 0) (u := .int .i64 4) hz q4
  have p2 : blk (w2.setCell ⟨vb, 0, none⟩ (.int .i64 4)) H 47 _ := q2.keep (Below.heap_setCell _ _ _ _ hHv)
  generalize w2.setCell ⟨vb, 0, none⟩ (.int .i64 4) = Y at *
  obtain ⟨e1, e2, e3⟩ := HX.out.1.box9 m1 s1 (Nat.le_of_eq HH.out) p2 (.int .i64 4) (.int .i64 i) (.int .i64 0) (.int .i64 k) (.int .i64 up) (.int .i64 nt) (.string ky) (.int .i64 n) (.int .i64 fi)
  generalize hX : set9 Y H (.int .i64 4) (.int .i64 i) (.int .i64 0) (.int .i64 k) (.int .i64 up) (.int .i64 nt) (.string ky) (.int .i64 n) (.int .i64 fi) = X at *
  unfold set9 at hX
  rw [hX]
  refine bodyPost_ret (v := .tuple #[.agg (sv9 4 i 0 k up nt ky n fi), .int .i64 24]) (results_cell47t Tryd.results40 _ _ H _ rfl e3 rfl) rfl ?_
  exact ⟨rfl, e1, e2⟩
end Go.Proofs.YtdlnnnlmlaploaaDoor
