import Derived.Test.YtdlnnnlmlaploabDoorM10
import Derived.Test.YtdlnnnlmlaploabDoorM09
namespace Go.Proofs.YtdlnnnlmlaploabDoor
open Go.RowKit Go.Deep
set_option maxRecDepth 10000 in
set_option maxHeartbeats 1000000 in
theorem due54s {B rb : Nat} {w : World} {a : Option Addr} {c : Nat} {b : List UInt8} {i n m K : Nat} {ov : Value} {us : List Value} (h : SR B rb w a c b i n ov K us) (hn : n ≤ 1048577) (hK : K = m + 1) (hKl : K ≤ 1048577) {pl nt be : Int} {ky : ByteArray} (t7 : us[m * 12 + 7]? = some (.int .i64 pl)) (t9 : us[m * 12 + 9]? = some (.int .i64 (nt + 1))) (t10 : us[m * 12 + 10]? = some (.string ky)) (t11 : us[m * 12 + 11]? = some (.int .i64 be)) (hnt0 : 0 ≤ nt) (hnt1 : nt ≤ 1048577) :
    Calls Tryd.prog 81 #[.pointer (some ⟨rb, 0, none⟩)] w fun e w' => e = .returned (.agg (sv9 0 i 0 K pl nt ky n be)) ∧ SR B rb w' a c b i (n + 1) ov K us ∧ Besides rb w w' := by
  obtain ⟨c0, c1, c2, c3, f1, f2, f3⟩ := h.cells
  have hov : ∃ g oc, ov = .slice (some ⟨g, 0, none⟩) K oc ∧ K ≤ oc := by
    rcases h.own.2 with ⟨_, e⟩ | ⟨g, cap, cur, q1, q2, q3, q4, _⟩
    · omega
    · exact ⟨_, _, q1, q4⟩
  obtain ⟨g, oc, rfl, hoc⟩ := hov
  have k0i : (0 : Int) < (K : Int) := by omega
  have k1i : (K : Int) ≤ 1048577 := by omega
  have kmi : (K : Int) - 1 = (m : Int) := by omega
  have m0i : (0 : Int) ≤ (m : Int) := by omega
  have m1i : (m : Int) < (K : Int) := by omega
  have hn1 : (n : Int) ≤ 1048577 := by omega
  have n1 := World.new_ne w _ c1
  have hb0 : Below w.heap.size w (w.alloc zero9) := (Below.refl _ _).alloc (Nat.le_refl _) _
  have HX := Lib.hid (And.intro h (And.intro hb0 (h.keep hb0)))
  obtain ⟨d0, d1, d2, d3, e1, e2, e3⟩ := HX.out.2.2.cells
  have k0 : blk (w.alloc zero9) w.heap.size 60 #[.int .i64 0, .int .i64 0, .int .i64 0, .int .i64 0, .int .i64 0, .int .i64 0, .string { data := #[] }, .int .i64 0, .int .i64 0] := heap_new w zero9
  have hb1 : Below w.heap.size w ((w.alloc zero9).alloc (Obj.cells #[.int .i64 0, .int .i64 0, .int .i64 0, .int .i64 0, .int .i64 0, .int .i64 0, .string { data := #[] }, .int .i64 n, .int .i64 0] 60)) := hb0.alloc (by simp) _
  have HY : Hid (SR B rb ((w.alloc zero9).alloc (Obj.cells #[.int .i64 0, .int .i64 0, .int .i64 0, .int .i64 0, .int .i64 0, .int .i64 0, .string { data := #[] }, .int .i64 n, .int .i64 0] 60)) a c b i n (.slice (some ⟨g, 0, none⟩) K oc) K us ∧ Below w.heap.size w ((w.alloc zero9).alloc (Obj.cells #[.int .i64 0, .int .i64 0, .int .i64 0, .int .i64 0, .int .i64 0, .int .i64 0, .string { data := #[] }, .int .i64 n, .int .i64 0] 60)) ∧
      blk ((w.alloc zero9).alloc (Obj.cells #[.int .i64 0, .int .i64 0, .int .i64 0, .int .i64 0, .int .i64 0, .int .i64 0, .string { data := #[] }, .int .i64 n, .int .i64 0] 60)) w.heap.size 60 #[.int .i64 0, .int .i64 0, .int .i64 0, .int .i64 0, .int .i64 0, .int .i64 0, .string { data := #[] }, .int .i64 0, .int .i64 0] ∧
      blk ((w.alloc zero9).alloc (Obj.cells #[.int .i64 0, .int .i64 0, .int .i64 0, .int .i64 0, .int .i64 0, .int .i64 0, .string { data := #[] }, .int .i64 n, .int .i64 0] 60)) (w.heap.size + 1) 60 #[.int .i64 0, .int .i64 0, .int .i64 0, .int .i64 0, .int .i64 0, .int .i64 0, .string { data := #[] }, .int .i64 n, .int .i64 0]) :=
    ⟨h.keep hb1, hb1, k0.keep (Below.heap_alloc _ _ _ k0.lt), by have h2 := heap_new (w.alloc zero9) (Obj.cells #[.int .i64 0, .int .i64 0, .int .i64 0, .int .i64 0, .int .i64 0, .int .i64 0, .string { data := #[] }, .int .i64 n, .int .i64 0] 60); rw [show (w.alloc zero9).heap.size = w.heap.size + 1 from Array.size_push ..] at h2; exact h2⟩
  obtain ⟨_, g1, g2, g3, u1, u2, u3⟩ := HY.out.1.cells
  clear h hb0 hb1 c0 c1 c2 c3 f1 f2 f3 k0
  go_enter Tryd.func81, Tryd.ntmps81
  go_wp2_with fail
  have HZ := HY
  generalize ((w.alloc (Obj.cells #[.int .i64 0, .int .i64 0, .int .i64 0, .int .i64 0, .int .i64 0, .int .i64 0, .string { data := #[] }, .int .i64 0, .int .i64 0] 60)).alloc (Obj.cells #[.int .i64 0, .int .i64 0, .int .i64 0, .int .i64 0, .int .i64 0, .int .i64 0, .string { data := #[] }, .int .i64 n, .int .i64 0] 60)) = W0 at *
  generalize hH : w.heap.size = H at *
  have hrH : rb ≠ H := fun e => n1 e.symm
  have hrH1 : rb ≠ H + 1 := by have := HX.out.1.bk.lt; omega
  have h1r : H + 1 ≠ rb := fun e => hrH1 e.symm
  have HW : Hid (SR B rb (W0.setCell ⟨rb, 2, none⟩ (.int .i64 ((n : Int) + 1))) a c b i (n + 1) (.slice (some ⟨g, 0, none⟩) K oc) K us ∧ blk (W0.setCell ⟨rb, 2, none⟩ (.int .i64 ((n : Int) + 1))) H 60 #[.int .i64 0, .int .i64 0, .int .i64 0, .int .i64 0, .int .i64 0, .int .i64 0, .string { data := #[] }, .int .i64 0, .int .i64 0] ∧ blk (W0.setCell ⟨rb, 2, none⟩ (.int .i64 ((n : Int) + 1))) (H + 1) 60 #[.int .i64 0, .int .i64 0, .int .i64 0, .int .i64 0, .int .i64 0, .int .i64 0, .string { data := #[] }, .int .i64 n, .int .i64 0] ∧ Besides rb w (W0.setCell ⟨rb, 2, none⟩ (.int .i64 ((n : Int) + 1)))) := by
    obtain ⟨q1, q2, q3, q4⟩ := HY.out
    refine ⟨q1.set q1.le rfl, q3.keep (Below.heap_setCell _ _ _ _ hrH.symm), q4.keep (Below.heap_setCell _ _ _ _ hrH1.symm), (Besides.of_below (by rw [hH]; exact q2)).set1⟩
  generalize (W0.setCell ⟨rb, 2, none⟩ (.int .i64 ((n : Int) + 1))) = W at *
  have HH := Lib.hid hH
  clear HY HZ hH d0 d1 d2 d3 e1 e2 e3 g1 g2 g3 u1 u2 u3
  obtain ⟨_, g1, g2, g3, u1, u2, u3⟩ := HW.out.1.cells
  obtain ⟨b0, b1, b2, b3, b4, b5, b6, b7, b8⟩ := HW.out.2.2.1.cells9
  obtain ⟨x0, x1, x2, x3, x4, x5, x6, x7, x8⟩ := HW.out.2.2.1.frozen9
  go_region_held3 (fun w' => w'.cell? ⟨rb, 1, none⟩ = some (.int .i64 i) ∧ w'.cell? ⟨rb, 3, none⟩ = some (.slice (some ⟨g, 0, none⟩) K oc)) (go_keep) (fail)
  have HV : Hid (SR B rb (((W.setCell ⟨H + 1, 1, none⟩ (.int .i64 i)).setCell ⟨H + 1, 3, none⟩ (.int .i64 ((m : Int) + 1))).setCell ⟨H + 1, 4, none⟩ (.int .i64 (-1))) a c b i (n + 1) (.slice (some ⟨g, 0, none⟩) K oc) K us ∧ blk (((W.setCell ⟨H + 1, 1, none⟩ (.int .i64 i)).setCell ⟨H + 1, 3, none⟩ (.int .i64 ((m : Int) + 1))).setCell ⟨H + 1, 4, none⟩ (.int .i64 (-1))) H 60 #[.int .i64 0, .int .i64 0, .int .i64 0, .int .i64 0, .int .i64 0, .int .i64 0, .string { data := #[] }, .int .i64 0, .int .i64 0] ∧ blk (((W.setCell ⟨H + 1, 1, none⟩ (.int .i64 i)).setCell ⟨H + 1, 3, none⟩ (.int .i64 ((m : Int) + 1))).setCell ⟨H + 1, 4, none⟩ (.int .i64 (-1))) (H + 1) 60 #[.int .i64 0, .int .i64 i, .int .i64 0, .int .i64 ((m : Int) + 1), .int .i64 (-1), .int .i64 0, .string { data := #[] }, .int .i64 n, .int .i64 0] ∧ Besides rb w (((W.setCell ⟨H + 1, 1, none⟩ (.int .i64 i)).setCell ⟨H + 1, 3, none⟩ (.int .i64 ((m : Int) + 1))).setCell ⟨H + 1, 4, none⟩ (.int .i64 (-1)))) := by
    obtain ⟨q1, q2, q3, q4⟩ := HW.out
    have hz : w.heap.size ≤ H + 1 := by have := HH.out; omega
    have hne : H ≠ H + 1 := by omega
    have s1 := HX.out.1.setFar q4 q1 hz 1 (.int .i64 i)
    have m1 := Besides.setOld (o := 1) (u := .int .i64 i) hz q4
    have s2 := HX.out.1.setFar m1 s1 hz 3 (.int .i64 ((m : Int) + 1))
    have m2 := Besides.setOld (o := 3) (u := .int .i64 ((m : Int) + 1)) hz m1
    have s3 := HX.out.1.setFar m2 s2 hz 4 (.int .i64 (-1))
    have m3 := Besides.setOld (o := 4) (u := .int .i64 (-1)) hz m2
    exact ⟨s3, ((q2.keep (Below.heap_setCell _ _ _ _ hne)).keep (Below.heap_setCell _ _ _ _ hne)).keep (Below.heap_setCell _ _ _ _ hne), ((q3.set 1 _).set 3 _).set 4 _, m3⟩
  generalize (((W.setCell ⟨H + 1, 1, none⟩ (.int .i64 i)).setCell ⟨H + 1, 3, none⟩ (.int .i64 ((m : Int) + 1))).setCell ⟨H + 1, 4, none⟩ (.int .i64 (-1))) = V at *
  clear HW b0 b1 b2 b3 b4 b5 b6 b7 b8 x0 x1 x2 x3 x4 x5 x6 x7 x8 g1 g2 g3 u1 u2 u3
  obtain ⟨b0, b1, b2, b3, b4, b5, b6, b7, b8⟩ := HV.out.2.2.1.cells9
  obtain ⟨x0, x1, x2, x3, x4, x5, x6, x7, x8⟩ := HV.out.2.2.1.frozen9
  obtain ⟨_, g1, g2, g3, u1, u2, u3⟩ := HV.out.1.cells
  have hgl := own_lt HV.out.1.own (g := g) rfl
  obtain ⟨_, _, hcl⟩ := own_form HV.out.1.own (g := g) rfl
  have r7 := hcl _ _ t7
  have r9 := hcl _ _ t9
  have r10 := hcl _ _ t10
  have r11 := hcl _ _ t11
  have hg1 : H + 1 ≠ g := by
    have := own_lt HX.out.1.own (g := g) rfl
    have := HH.out
    omega
  have km2 : (m : Int) + 1 - 1 = (m : Int) := by omega
  have km3 : (m : Int) < (m : Int) + 1 := by omega
  clear hcl t7 t9 t10 t11
  go_wp2_with fail
  go_quiet (fail)
  go_wp2_with fail
  go_region_held3 (fun w' => w'.cell? ⟨g, m * 12 + 7, none⟩ = some (.int .i64 pl) ∧ w'.cell? ⟨g, m * 12 + 9, none⟩ = some (.int .i64 (nt + 1)) ∧ w'.cell? ⟨g, m * 12 + 10, none⟩ = some (.string ky) ∧ w'.cell? ⟨g, m * 12 + 11, none⟩ = some (.int .i64 be)) (go_keep) (fail)
  have hwn : IntKind.i64.wrap nt = nt := IntWalk.i64_in _ (by omega)
  rw [hwn]
  have HU : Hid (SR B rb (((((V.drewN (1 + nq + 1)).setCell ⟨H + 1, 4, none⟩ (.int .i64 pl)).setCell ⟨H + 1, 5, none⟩ (.int .i64 nt)).setCell ⟨H + 1, 6, none⟩ (.string ky)).setCell ⟨H + 1, 8, none⟩ (.int .i64 be)) a c b i (n + 1) (.slice (some ⟨g, 0, none⟩) K oc) K us ∧ blk (((((V.drewN (1 + nq + 1)).setCell ⟨H + 1, 4, none⟩ (.int .i64 pl)).setCell ⟨H + 1, 5, none⟩ (.int .i64 nt)).setCell ⟨H + 1, 6, none⟩ (.string ky)).setCell ⟨H + 1, 8, none⟩ (.int .i64 be)) H 60 #[.int .i64 0, .int .i64 0, .int .i64 0, .int .i64 0, .int .i64 0, .int .i64 0, .string { data := #[] }, .int .i64 0, .int .i64 0] ∧ blk (((((V.drewN (1 + nq + 1)).setCell ⟨H + 1, 4, none⟩ (.int .i64 pl)).setCell ⟨H + 1, 5, none⟩ (.int .i64 nt)).setCell ⟨H + 1, 6, none⟩ (.string ky)).setCell ⟨H + 1, 8, none⟩ (.int .i64 be)) (H + 1) 60 #[.int .i64 0, .int .i64 i, .int .i64 0, .int .i64 ((m : Int) + 1), .int .i64 pl, .int .i64 nt, .string ky, .int .i64 n, .int .i64 be] ∧ Besides rb w (((((V.drewN (1 + nq + 1)).setCell ⟨H + 1, 4, none⟩ (.int .i64 pl)).setCell ⟨H + 1, 5, none⟩ (.int .i64 nt)).setCell ⟨H + 1, 6, none⟩ (.string ky)).setCell ⟨H + 1, 8, none⟩ (.int .i64 be))) := by
    obtain ⟨q1, q2, q3, q4⟩ := HV.out
    have hz : w.heap.size ≤ H + 1 := by have := HH.out; omega
    have hne : H ≠ H + 1 := by omega
    have hd : Below V.heap.size V (V.drewN (1 + nq + 1)) := ⟨rfl, rfl, rfl, Nat.le_refl _, fun _ _ => rfl⟩
    have s0 := q1.keep hd
    have m0 : Besides rb w (V.drewN (1 + nq + 1)) := ⟨q4.os, q4.tape, q4.output, q4.size, q4.block⟩
    have p2 : blk (V.drewN (1 + nq + 1)) H 60 _ := q2.keep rfl
    have p3 : blk (V.drewN (1 + nq + 1)) (H + 1) 60 _ := q3.keep rfl
    have s1 := HX.out.1.setFar m0 s0 hz 4 (.int .i64 pl)
    have m1 := Besides.setOld (o := 4) (u := .int .i64 pl) hz m0
    have s2 := HX.out.1.setFar m1 s1 hz 5 (.int .i64 nt)
    have m2 := Besides.setOld (o := 5) (u := .int .i64 nt) hz m1
    have s3 := HX.out.1.setFar m2 s2 hz 6 (.string ky)
    have m3 := Besides.setOld (o := 6) (u := .string ky) hz m2
    have s4 := HX.out.1.setFar m3 s3 hz 8 (.int .i64 be)
    have m4 := Besides.setOld (o := 8) (u := .int .i64 be) hz m3
    have e4 := p3.s4 (.int .i64 pl)
    have e5 := e4.s5 (.int .i64 nt)
    have e6 := e5.s6 (.string ky)
    have e8 := e6.s8 (.int .i64 be)
    exact ⟨s4, (((p2.keep (Below.heap_setCell _ _ _ _ hne)).keep (Below.heap_setCell _ _ _ _ hne)).keep (Below.heap_setCell _ _ _ _ hne)).keep (Below.heap_setCell _ _ _ _ hne), e8, m4⟩
  generalize ((((V.drewN (1 + nq + 1)).setCell ⟨H + 1, 4, none⟩ (.int .i64 pl)).setCell ⟨H + 1, 5, none⟩ (.int .i64 nt)).setCell ⟨H + 1, 6, none⟩ (.string ky)).setCell ⟨H + 1, 8, none⟩ (.int .i64 be) = U at *
  clear HV b0 b1 b2 b3 b4 b5 b6 b7 b8 x0 x1 x2 x3 x4 x5 x6 x7 x8 g1 g2 g3 u1 u2 u3 r7 r9 r10 r11
  obtain ⟨b0, b1, b2, b3, b4, b5, b6, b7, b8⟩ := HU.out.2.2.1.cells9
  obtain ⟨z0, z1, z2, z3, z4, z5, z6, z7, z8⟩ := HU.out.2.1.cells9
  obtain ⟨x0, x1, x2, x3, x4, x5, x6, x7, x8⟩ := HU.out.2.1.frozen9
  go_wp2
  obtain ⟨y1, y2, y3⟩ := HX.out.1.box9 HU.out.2.2.2 HU.out.1 (Nat.le_of_eq HH.out) HU.out.2.1 (.int .i64 0) (.int .i64 i) (.int .i64 0) (.int .i64 ((m : Int) + 1)) (.int .i64 pl) (.int .i64 nt) (.string ky) (.int .i64 n) (.int .i64 be)
  generalize hX : set9 U H (.int .i64 0) (.int .i64 i) (.int .i64 0) (.int .i64 ((m : Int) + 1)) (.int .i64 pl) (.int .i64 nt) (.string ky) (.int .i64 n) (.int .i64 be) = X at *
  unfold set9 at hX
  rw [hX]
  refine bodyPost_ret (v := .agg (sv9 0 i 0 ((m : Int) + 1) pl nt ky n be)) (results_cell47 Tryd.results81 _ _ H _ rfl y3 rfl) rfl ?_
  exact ⟨by rw [hK]; rfl, y1, y2⟩
end Go.Proofs.YtdlnnnlmlaploabDoor
namespace Go.Proofs.YtdlnnnlmlaploabDoor
open Go.RowKit Go.Deep
/-- what is known of the value that begins here, out of the row -/
def DUE (k : Nat) (us : List Value) (up nt : Int) (ky : ByteArray) (fi : Int) : Prop :=
  (k = 0 ∧ up = -1 ∧ nt = 0 ∧ ky = ByteArray.empty ∧ fi = 0) ∨
  ∃ m, k = m + 1 ∧ k ≤ 1048577 ∧ us[m * 12 + 7]? = some (.int .i64 up) ∧ us[m * 12 + 9]? = some (.int .i64 (nt + 1)) ∧ us[m * 12 + 10]? = some (.string ky) ∧ us[m * 12 + 11]? = some (.int .i64 fi) ∧ 0 ≤ nt ∧ nt ≤ 1048577
theorem results_cell47t {fn : Func} {p u : Tmp} (h : fn.results = #[.cell p 60, .tmp u]) (tmps : Array Value) (w : World) (g : Nat) (cs : Array Value)
    (hp : tmps.getD p undef = .pointer (some ⟨g, 0, none⟩)) (hg : w.heap[g]? = some (.cells cs 60 (0, 0))) (hs : cs.size = 9) : (results fn tmps).run Tryd.prog w = .ok (.tuple #[.agg cs, tmps.getD u undef]) w := by
  have hp' : tmps[p]?.getD undef = .pointer (some ⟨g, 0, none⟩) := by simpa using hp
  have hi : (Tryd.prog.info? 60).map (·.size) = some cs.size := by rw [hs]; exact info47s
  simp [results, h, hp', asAddr, run_loadVar_row w g 60 60 cs (0, 0) _ hg Tryd.underlying60 rfl hi]
theorem due54 {B rb : Nat} {w : World} {a : Option Addr} {c : Nat} {b : List UInt8} {i n : Nat} {ov : Value} {k : Nat} {us : List Value} (h : SR B rb w a c b i n ov k us) (hn : n ≤ 1048577) {up nt fi : Int} {ky : ByteArray} (hD : DUE k us up nt ky fi) :
    Calls Tryd.prog 81 #[.pointer (some ⟨rb, 0, none⟩)] w fun e w' => e = .returned (.agg (sv9 0 i 0 k up nt ky n fi)) ∧ SR B rb w' a c b i (n + 1) ov k us ∧ Besides rb w w' := by
  rcases hD with ⟨rfl, rfl, rfl, rfl, rfl⟩ | ⟨m, hk, hkl, t7, t9, t10, t11, h0, h1⟩
  · exact due54z h hn
  · exact due54s h hn hk hkl t7 t9 t10 t11 h0 h1
set_option maxRecDepth 10000 in
set_option maxHeartbeats 1000000 in
/-- a leaf is read -/
theorem value40l {B rb : Nat} {w : World} {a : Option Addr} {c : Nat} {b : List UInt8} {i n : Nat} {ov : Value} {k : Nat} {us : List Value} (h : SR B rb w a c b i n ov k us) (hn : n ≤ 1048577) {up nt fi : Int} {ky : ByteArray} (hD : DUE k us up nt ky fi) (h1 : byt b i ≠ 108) (h2 : byt b i ≠ 100) :
    Calls Tryd.prog 58 #[.pointer (some ⟨rb, 0, none⟩)] w fun e w' => ∃ t, ∃ j : Nat, ∃ er, e = .returned (.tuple #[.agg (sv9 t.k i ((i : Int) + (j : Int)) k up nt ky n fi), .int .i64 er]) ∧ ((er = 0 ∧ leafO b i = .val t j) ∨ (er ≠ 0 ∧ leafO b i = .bad j er)) ∧ i + j ≤ b.length ∧ SR B rb w' a c b (i + j) (n + 1) ov k us ∧ Besides rb w w' := by
  have hb0 : Below w.heap.size w (w.alloc zero9) := (Below.refl _ _).alloc (Nat.le_refl _) _
  have HX := Lib.hid (And.intro h (And.intro hb0 (And.intro (h.keep hb0) (show blk (w.alloc zero9) w.heap.size 60 #[.int .i64 0, .int .i64 0, .int .i64 0, .int .i64 0, .int .i64 0, .int .i64 0, .string { data := #[] }, .int .i64 0, .int .i64 0] from heap_new w zero9))))
  have HD := Lib.hid (due54 HX.out.2.2.1 hn hD)
  have z108 : ((byt b i).toNat : Int) ≠ 108 := u8_ne h1
  have z100 : ((byt b i).toNat : Int) ≠ 100 := u8_ne h2
  clear h hb0 hD
  go_enter Tryd.func58, Tryd.ntmps58
  go_wp2_with fail
  refine HD.out.mono ?_
  rintro e w1 ⟨rfl, s1, m1⟩
  have HW : Hid (SR B rb (w1.alloc (Obj.cells #[Value.int .i64 0, Value.int .i64 i, Value.int .i64 0, Value.int .i64 k, Value.int .i64 up, Value.int .i64 nt, Value.string ky, Value.int .i64 n, Value.int .i64 fi] 60)) a c b i (n + 1) ov k us ∧ blk (w1.alloc (Obj.cells #[Value.int .i64 0, Value.int .i64 i, Value.int .i64 0, Value.int .i64 k, Value.int .i64 up, Value.int .i64 nt, Value.string ky, Value.int .i64 n, Value.int .i64 fi] 60)) w.heap.size 60 #[.int .i64 0, .int .i64 0, .int .i64 0, .int .i64 0, .int .i64 0, .int .i64 0, .string { data := #[] }, .int .i64 0, .int .i64 0] ∧ blk (w1.alloc (Obj.cells #[Value.int .i64 0, Value.int .i64 i, Value.int .i64 0, Value.int .i64 k, Value.int .i64 up, Value.int .i64 nt, Value.string ky, Value.int .i64 n, Value.int .i64 fi] 60)) w1.heap.size 60 #[.int .i64 0, .int .i64 i, .int .i64 0, .int .i64 k, .int .i64 up, .int .i64 nt, .string ky, .int .i64 n, .int .i64 fi] ∧ Besides rb w (w1.alloc (Obj.cells #[Value.int .i64 0, Value.int .i64 i, Value.int .i64 0, Value.int .i64 k, Value.int .i64 up, Value.int .i64 nt, Value.string ky, Value.int .i64 n, Value.int .i64 fi] 60)) ∧ w.heap.size < w1.heap.size) := by
    obtain ⟨q1, q2, q3, q4⟩ := HX.out
    have hv : Below w1.heap.size w1 (w1.alloc (Obj.cells #[Value.int .i64 0, Value.int .i64 i, Value.int .i64 0, Value.int .i64 k, Value.int .i64 up, Value.int .i64 nt, Value.string ky, Value.int .i64 n, Value.int .i64 fi] 60)) := (Below.refl _ _).alloc (Nat.le_refl _) _
    have hr := q1.bk.lt
    have q5 : blk w1 w.heap.size 60 _ := q4.keep (m1.block _ q4.lt (by show w.heap.size ≠ rb; omega))
    exact ⟨s1.keep hv, q5.keep (hv.block _ q5.lt), heap_new _ _, ((Besides.of_below q2).trans m1).trans (Besides.of_below hv), q5.lt⟩
  clear s1 m1 HD
  go_wp2_with fail
  generalize hV : w1.heap.size = vb at *
  generalize (w1.alloc (Obj.cells #[Value.int .i64 0, Value.int .i64 i, Value.int .i64 0, Value.int .i64 k, Value.int .i64 up, Value.int .i64 nt, Value.string ky, Value.int .i64 n, Value.int .i64 fi] 60)) = W1 at *
  generalize hH : w.heap.size = H at *
  have HH := Lib.hid hH
  refine (next41 HW.out.1).mono ?_
  rintro e w2 ⟨rfl, hb2⟩
  have H2 : Hid (SR B rb w2 a c b i (n + 1) ov k us ∧ blk w2 H 60 #[.int .i64 0, .int .i64 0, .int .i64 0, .int .i64 0, .int .i64 0, .int .i64 0, .string { data := #[] }, .int .i64 0, .int .i64 0] ∧ blk w2 vb 60 #[.int .i64 0, .int .i64 i, .int .i64 0, .int .i64 k, .int .i64 up, .int .i64 nt, .string ky, .int .i64 n, .int .i64 fi] ∧ Besides rb w w2 ∧ H < vb) := by
    obtain ⟨q1, q2, q3, q4, q5⟩ := HW.out
    exact ⟨q1.keep hb2, q2.keep (hb2.block _ q2.lt), q3.keep (hb2.block _ q3.lt), q4.trans (Besides.of_below hb2), q5⟩
  clear hb2 HW hH hV
  have HL := Lib.hid (leaf55 H2.out.1 h1 h2)
  clear h1 h2
  generalize ((byt b i).toNat : Int) = zz at *
  go_wp2_with fail
  refine HL.out.mono ?_
  rintro e w3 ⟨t, xa, xn, xc, ya, yn, yc, j, er, rfl, hO, hij, hs3, hb3⟩
  have HA : Hid (SR B rb (w3.alloc (Obj.cells #[Value.int .i64 t.k, Value.int .i64 t.n, Value.string t.s, Value.slice xa xn xc, Value.slice ya yn yc] 31)) a c b (i + j) (n + 1) ov k us ∧ blk (w3.alloc (Obj.cells #[Value.int .i64 t.k, Value.int .i64 t.n, Value.string t.s, Value.slice xa xn xc, Value.slice ya yn yc] 31)) H 60 #[.int .i64 0, .int .i64 0, .int .i64 0, .int .i64 0, .int .i64 0, .int .i64 0, .string { data := #[] }, .int .i64 0, .int .i64 0] ∧ blk (w3.alloc (Obj.cells #[Value.int .i64 t.k, Value.int .i64 t.n, Value.string t.s, Value.slice xa xn xc, Value.slice ya yn yc] 31)) vb 60 #[.int .i64 0, .int .i64 i, .int .i64 0, .int .i64 k, .int .i64 up, .int .i64 nt, .string ky, .int .i64 n, .int .i64 fi] ∧ obj (w3.alloc (Obj.cells #[Value.int .i64 t.k, Value.int .i64 t.n, Value.string t.s, Value.slice xa xn xc, Value.slice ya yn yc] 31)) w3.heap.size (.int .i64 t.k) (.int .i64 t.n) (.string t.s) (.slice xa xn xc) (.slice ya yn yc) ∧ Besides rb w (w3.alloc (Obj.cells #[Value.int .i64 t.k, Value.int .i64 t.n, Value.string t.s, Value.slice xa xn xc, Value.slice ya yn yc] 31)) ∧ H < vb ∧ vb < w3.heap.size ∧ rb < H) := by
    obtain ⟨q1, q2, q3, q4, q5⟩ := H2.out
    have hr : rb < H := by have := HX.out.1.bk.lt; have := HH.out; omega
    have hv : Below w3.heap.size w3 (w3.alloc (Obj.cells #[Value.int .i64 t.k, Value.int .i64 t.n, Value.string t.s, Value.slice xa xn xc, Value.slice ya yn yc] 31)) := (Below.refl _ _).alloc (Nat.le_refl _) _
    have e2 : blk w3 H 60 _ := q2.keep (hb3.block _ q2.lt (by omega))
    have e3 : blk w3 vb 60 _ := q3.keep (hb3.block _ q3.lt (by omega))
    exact ⟨hs3.keep hv, e2.keep (hv.block _ e2.lt), e3.keep (hv.block _ e3.lt), heap_new _ _, (q4.trans hb3).trans (Besides.of_below hv), q5, e3.lt, hr⟩
  have HO := Lib.hid hO
  clear hO hs3 hb3 HL H2
  unfold vv
  go_wp2_with fail
  generalize (w3.alloc (Obj.cells #[Value.int .i64 t.k, Value.int .i64 t.n, Value.string t.s, Value.slice xa xn xc, Value.slice ya yn yc] 31)) = A at *
  generalize w3.heap.size = lb at *
  obtain ⟨_, g1, _, _, u1, _, _⟩ := HA.out.1.cells
  obtain ⟨l0, l1, l2, l3, l4⟩ := HA.out.2.2.2.1.cells
  obtain ⟨b0, b1, b2, b3, b4, b5, b6, b7, b8⟩ := HA.out.2.2.1.cells9
  have x0 := HA.out.2.2.1.frozen 0
  have x2 := HA.out.2.2.1.frozen 2
  have nvr : vb ≠ rb := by have := HA.out.2.2.2.2.2; omega
  have nvl : vb ≠ lb := by have := HA.out.2.2.2.2.2; omega
  have hcast : ((i + j : Nat) : Int) = (i : Int) + (j : Int) := by omega
  rw [hcast] at g1
  go_region_held3 (fun w' => w'.cell? ⟨lb, 0, none⟩ = some (.int .i64 t.k) ∧ w'.cell? ⟨rb, 1, none⟩ = some (.int .i64 ((i : Int) + (j : Int)))) (go_keep) (fail)
  have HU : Hid (SR B rb ((A.setCell ⟨vb, 0, none⟩ (.int .i64 t.k)).setCell ⟨vb, 2, none⟩ (.int .i64 ((i : Int) + (j : Int)))) a c b (i + j) (n + 1) ov k us ∧ blk ((A.setCell ⟨vb, 0, none⟩ (.int .i64 t.k)).setCell ⟨vb, 2, none⟩ (.int .i64 ((i : Int) + (j : Int)))) H 60 #[.int .i64 0, .int .i64 0, .int .i64 0, .int .i64 0, .int .i64 0, .int .i64 0, .string { data := #[] }, .int .i64 0, .int .i64 0] ∧ blk ((A.setCell ⟨vb, 0, none⟩ (.int .i64 t.k)).setCell ⟨vb, 2, none⟩ (.int .i64 ((i : Int) + (j : Int)))) vb 60 #[.int .i64 t.k, .int .i64 i, .int .i64 ((i : Int) + (j : Int)), .int .i64 k, .int .i64 up, .int .i64 nt, .string ky, .int .i64 n, .int .i64 fi] ∧ Besides rb w ((A.setCell ⟨vb, 0, none⟩ (.int .i64 t.k)).setCell ⟨vb, 2, none⟩ (.int .i64 ((i : Int) + (j : Int)))) ∧ H < vb) := by
    obtain ⟨q1, q2, q3, _, q5, q6, _, _⟩ := HA.out
    have hz : w.heap.size ≤ vb := by have := HH.out; omega
    have hne : H ≠ vb := by omega
    have s1 := HX.out.1.setFar q5 q1 hz 0 (.int .i64 t.k)
    have m1 := Besides.setOld (o := 0) (u := .int .i64 t.k) hz q5
    have s2 := HX.out.1.setFar m1 s1 hz 2 (.int .i64 ((i : Int) + (j : Int)))
    have m2 := Besides.setOld (o := 2) (u := .int .i64 ((i : Int) + (j : Int))) hz m1
    exact ⟨s2, (q2.keep (Below.heap_setCell _ _ _ _ hne)).keep (Below.heap_setCell _ _ _ _ hne), (q3.s0 _).s2 _, m2, q6⟩
  generalize (A.setCell ⟨vb, 0, none⟩ (.int .i64 t.k)).setCell ⟨vb, 2, none⟩ (.int .i64 ((i : Int) + (j : Int))) = U at *
  clear HA g1 u1 l0 l1 l2 l3 l4 b0 b1 b2 b3 b4 b5 b6 b7 b8 x0 x2
  obtain ⟨b0, b1, b2, b3, b4, b5, b6, b7, b8⟩ := HU.out.2.2.1.cells9
  obtain ⟨z0, z1, z2, z3, z4, z5, z6, z7, z8⟩ := HU.out.2.1.cells9
  obtain ⟨x0, x1, x2, x3, x4, x5, x6, x7, x8⟩ := HU.out.2.1.frozen9
  go_wp2
  obtain ⟨y1, y2, y3⟩ := HX.out.1.box9 HU.out.2.2.2.1 HU.out.1 (Nat.le_of_eq HH.out) HU.out.2.1 (.int .i64 t.k) (.int .i64 i) (.int .i64 ((i : Int) + (j : Int))) (.int .i64 k) (.int .i64 up) (.int .i64 nt) (.string ky) (.int .i64 n) (.int .i64 fi)
  generalize hX : set9 U H (.int .i64 t.k) (.int .i64 i) (.int .i64 ((i : Int) + (j : Int))) (.int .i64 k) (.int .i64 up) (.int .i64 nt) (.string ky) (.int .i64 n) (.int .i64 fi) = X at *
  unfold set9 at hX
  rw [hX]
  have y4 : blk X.drew H 60 _ := y3.keep rfl
  refine bodyPost_ret (v := .tuple #[.agg (sv9 t.k i ((i : Int) + (j : Int)) k up nt ky n fi), .int .i64 er]) (results_cell47t Tryd.results58 _ _ H _ rfl y4 rfl) rfl ?_
  exact ⟨t, j, er, rfl, HO.out, hij, y1.keep (below_drew _), y2.drew⟩
end Go.Proofs.YtdlnnnlmlaploabDoor
