import Derived.Test.YtdlnnnlmlaploaaDoorSz
namespace Go.Proofs.YtdlnnnlmlaploaaDoor
open Go.RowKit Go.Deep
/-- a value of span: nine cells -/
abbrev sv9 (kd fr to dp up nt : Int) (ky : ByteArray) (pl fi : Int) : Array Value := #[.int .i64 kd, .int .i64 fr, .int .i64 to, .int .i64 dp, .int .i64 up, .int .i64 nt, .string ky, .int .i64 pl, .int .i64 fi]
theorem blk.cells9 {w : World} {g : Nat} {ty : TypeId} {c0 c1 c2 c3 c4 c5 c6 c7 c8 : Value} (h : blk w g ty #[c0, c1, c2, c3, c4, c5, c6, c7, c8]) :
    w.cell? ⟨g, 0, none⟩ = some c0 ∧ w.cell? ⟨g, 1, none⟩ = some c1 ∧ w.cell? ⟨g, 2, none⟩ = some c2 ∧ w.cell? ⟨g, 3, none⟩ = some c3 ∧ w.cell? ⟨g, 4, none⟩ = some c4 ∧ w.cell? ⟨g, 5, none⟩ = some c5 ∧ w.cell? ⟨g, 6, none⟩ = some c6 ∧ w.cell? ⟨g, 7, none⟩ = some c7 ∧ w.cell? ⟨g, 8, none⟩ = some c8 :=
  ⟨h.cell 0, h.cell 1, h.cell 2, h.cell 3, h.cell 4, h.cell 5, h.cell 6, h.cell 7, h.cell 8⟩
theorem blk.frozen9 {w : World} {g : Nat} {ty : TypeId} {cs : Array Value} (h : blk w g ty cs) :
    w.frozen? ⟨g, 0, none⟩ = false ∧ w.frozen? ⟨g, 1, none⟩ = false ∧ w.frozen? ⟨g, 2, none⟩ = false ∧ w.frozen? ⟨g, 3, none⟩ = false ∧ w.frozen? ⟨g, 4, none⟩ = false ∧ w.frozen? ⟨g, 5, none⟩ = false ∧ w.frozen? ⟨g, 6, none⟩ = false ∧ w.frozen? ⟨g, 7, none⟩ = false ∧ w.frozen? ⟨g, 8, none⟩ = false :=
  ⟨h.frozen 0, h.frozen 1, h.frozen 2, h.frozen 3, h.frozen 4, h.frozen 5, h.frozen 6, h.frozen 7, h.frozen 8⟩
/-- a block that is none of the reader's is written -/
theorem SR.setFar {B rb : Nat} {w w1 : World} {a : Option Addr} {c : Nat} {b : List UInt8} {i n i' n' : Nat} {ov : Value} {k : Nat} {us : List Value} (h : SR B rb w a c b i n ov k us) (hb : Besides rb w w1) (hs : SR B rb w1 a c b i' n' ov k us) {g : Nat} (hg : w.heap.size ≤ g) (o : Nat) (u : Value) :
    SR B rb (w1.setCell ⟨g, o, none⟩ u) a c b i' n' ov k us :=
  h.besides (Besides.setOld hg hb) (hs.bk.keep (Below.heap_setCell _ _ _ _ (by have := h.bk.lt; show rb ≠ g; omega))) hs.le
theorem blk.s0 {w : World} {g : Nat} {ty : TypeId} {c0 c1 c2 c3 c4 c5 c6 c7 c8 : Value} (h : blk w g ty #[c0, c1, c2, c3, c4, c5, c6, c7, c8]) (v : Value) : blk (w.setCell ⟨g, 0, none⟩ v) g ty #[v, c1, c2, c3, c4, c5, c6, c7, c8] := h.set 0 v
theorem blk.s1 {w : World} {g : Nat} {ty : TypeId} {c0 c1 c2 c3 c4 c5 c6 c7 c8 : Value} (h : blk w g ty #[c0, c1, c2, c3, c4, c5, c6, c7, c8]) (v : Value) : blk (w.setCell ⟨g, 1, none⟩ v) g ty #[c0, v, c2, c3, c4, c5, c6, c7, c8] := h.set 1 v
theorem blk.s2 {w : World} {g : Nat} {ty : TypeId} {c0 c1 c2 c3 c4 c5 c6 c7 c8 : Value} (h : blk w g ty #[c0, c1, c2, c3, c4, c5, c6, c7, c8]) (v : Value) : blk (w.setCell ⟨g, 2, none⟩ v) g ty #[c0, c1, v, c3, c4, c5, c6, c7, c8] := h.set 2 v
theorem blk.s3 {w : World} {g : Nat} {ty : TypeId} {c0 c1 c2 c3 c4 c5 c6 c7 c8 : Value} (h : blk w g ty #[c0, c1, c2, c3, c4, c5, c6, c7, c8]) (v : Value) : blk (w.setCell ⟨g, 3, none⟩ v) g ty #[c0, c1, c2, v, c4, c5, c6, c7, c8] := h.set 3 v
theorem blk.s4 {w : World} {g : Nat} {ty : TypeId} {c0 c1 c2 c3 c4 c5 c6 c7 c8 : Value} (h : blk w g ty #[c0, c1, c2, c3, c4, c5, c6, c7, c8]) (v : Value) : blk (w.setCell ⟨g, 4, none⟩ v) g ty #[c0, c1, c2, c3, v, c5, c6, c7, c8] := h.set 4 v
theorem blk.s5 {w : World} {g : Nat} {ty : TypeId} {c0 c1 c2 c3 c4 c5 c6 c7 c8 : Value} (h : blk w g ty #[c0, c1, c2, c3, c4, c5, c6, c7, c8]) (v : Value) : blk (w.setCell ⟨g, 5, none⟩ v) g ty #[c0, c1, c2, c3, c4, v, c6, c7, c8] := h.set 5 v
theorem blk.s6 {w : World} {g : Nat} {ty : TypeId} {c0 c1 c2 c3 c4 c5 c6 c7 c8 : Value} (h : blk w g ty #[c0, c1, c2, c3, c4, c5, c6, c7, c8]) (v : Value) : blk (w.setCell ⟨g, 6, none⟩ v) g ty #[c0, c1, c2, c3, c4, c5, v, c7, c8] := h.set 6 v
theorem blk.s7 {w : World} {g : Nat} {ty : TypeId} {c0 c1 c2 c3 c4 c5 c6 c7 c8 : Value} (h : blk w g ty #[c0, c1, c2, c3, c4, c5, c6, c7, c8]) (v : Value) : blk (w.setCell ⟨g, 7, none⟩ v) g ty #[c0, c1, c2, c3, c4, c5, c6, v, c8] := h.set 7 v
theorem blk.s8 {w : World} {g : Nat} {ty : TypeId} {c0 c1 c2 c3 c4 c5 c6 c7 c8 : Value} (h : blk w g ty #[c0, c1, c2, c3, c4, c5, c6, c7, c8]) (v : Value) : blk (w.setCell ⟨g, 8, none⟩ v) g ty #[c0, c1, c2, c3, c4, c5, c6, c7, v] := h.set 8 v
abbrev set9 (w : World) (g : Nat) (v0 v1 v2 v3 v4 v5 v6 v7 v8 : Value) : World := ((((((((w.setCell ⟨g, 0, none⟩ v0).setCell ⟨g, 1, none⟩ v1).setCell ⟨g, 2, none⟩ v2).setCell ⟨g, 3, none⟩ v3).setCell ⟨g, 4, none⟩ v4).setCell ⟨g, 5, none⟩ v5).setCell ⟨g, 6, none⟩ v6).setCell ⟨g, 7, none⟩ v7).setCell ⟨g, 8, none⟩ v8
/-- a box of nine cells is filled -/
theorem SR.box9 {B rb : Nat} {w w1 : World} {a : Option Addr} {c : Nat} {b : List UInt8} {i n i' n' : Nat} {ov : Value} {k : Nat} {us : List Value} (h : SR B rb w a c b i n ov k us) (hb : Besides rb w w1) (hs : SR B rb w1 a c b i' n' ov k us) {g : Nat} (hg : w.heap.size ≤ g) {c0 c1 c2 c3 c4 c5 c6 c7 c8 : Value} (hk : blk w1 g 47 #[c0, c1, c2, c3, c4, c5, c6, c7, c8]) (v0 v1 v2 v3 v4 v5 v6 v7 v8 : Value) :
    SR B rb (set9 w1 g v0 v1 v2 v3 v4 v5 v6 v7 v8) a c b i' n' ov k us ∧ Besides rb w (set9 w1 g v0 v1 v2 v3 v4 v5 v6 v7 v8) ∧ blk (set9 w1 g v0 v1 v2 v3 v4 v5 v6 v7 v8) g 47 #[v0, v1, v2, v3, v4, v5, v6, v7, v8] := by
  have s0 := h.setFar hb hs hg 0 v0
  have m0 := Besides.setOld (o := 0) (u := v0) hg hb
  have s1 := h.setFar m0 s0 hg 1 v1
  have m1 := Besides.setOld (o := 1) (u := v1) hg m0
  have s2 := h.setFar m1 s1 hg 2 v2
  have m2 := Besides.setOld (o := 2) (u := v2) hg m1
  have s3 := h.setFar m2 s2 hg 3 v3
  have m3 := Besides.setOld (o := 3) (u := v3) hg m2
  have s4 := h.setFar m3 s3 hg 4 v4
  have m4 := Besides.setOld (o := 4) (u := v4) hg m3
  have s5 := h.setFar m4 s4 hg 5 v5
  have m5 := Besides.setOld (o := 5) (u := v5) hg m4
  have s6 := h.setFar m5 s5 hg 6 v6
  have m6 := Besides.setOld (o := 6) (u := v6) hg m5
  have s7 := h.setFar m6 s6 hg 7 v7
  have m7 := Besides.setOld (o := 7) (u := v7) hg m6
  have s8 := h.setFar m7 s7 hg 8 v8
  have m8 := Besides.setOld (o := 8) (u := v8) hg m7
  have k0 := hk.s0 v0
  have k1 := k0.s1 v1
  have k2 := k1.s2 v2
  have k3 := k2.s3 v3
  have k4 := k3.s4 v4
  have k5 := k4.s5 v5
  have k6 := k5.s6 v6
  have k7 := k6.s7 v7
  have k8 := k7.s8 v8
  exact ⟨s8, m8, k8⟩
theorem below_drew (w : World) : Below w.heap.size w w.drew := ⟨rfl, rfl, rfl, Nat.le_refl _, fun _ _ => rfl⟩
theorem Besides.drew {rb : Nat} {w w1 : World} (h : Besides rb w w1) : Besides rb w w1.drew := ⟨h.os, h.tape, h.output, h.size, h.block⟩
theorem info47s : (Tryd.prog.info? 47).map (·.size) = some 9 := by kernel_rfl
theorem results_cell47 {fn : Func} {p : Tmp} (h : fn.results = #[.cell p 47]) (tmps : Array Value) (w : World) (g : Nat) (cs : Array Value)
    (hp : tmps.getD p undef = .pointer (some ⟨g, 0, none⟩)) (hg : w.heap[g]? = some (.cells cs 47 (0, 0))) (hs : cs.size = 9) : (results fn tmps).run Tryd.prog w = .ok (.agg cs) w := by
  have hp' : tmps[p]?.getD undef = .pointer (some ⟨g, 0, none⟩) := by simpa using hp
  have hi : (Tryd.prog.info? 47).map (·.size) = some cs.size := by rw [hs]; exact info47s
  simp [results, h, hp', asAddr, run_loadVar_row w g 47 47 cs (0, 0) _ hg Tryd.underlying47 rfl hi]
abbrev zero9 : Obj := Obj.cells #[.int .i64 0, .int .i64 0, .int .i64 0, .int .i64 0, .int .i64 0, .int .i64 0, .string { data := #[] }, .int .i64 0, .int .i64 0] 47
end Go.Proofs.YtdlnnnlmlaploaaDoor
