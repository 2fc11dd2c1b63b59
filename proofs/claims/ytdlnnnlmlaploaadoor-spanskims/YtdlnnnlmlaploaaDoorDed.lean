import Derived.Test.YtdlnnnlmlaploaaDoorDec
import Derived.Test.YtdlnnnlmlaploaaDoorPrf
namespace Go.Proofs.YtdlnnnlmlaploaaDoor
open Go.RowKit Go.Deep
set_option maxRecDepth 10000 in
set_option maxHeartbeats 4000000 in
theorem decode11 (v : Value) (b : List UInt8) (w : World) (hr : RB w v b) (hl0 : b.length ≤ 140737488351232) :
    Calls Tryd.prog 28 #[v] w fun e w' => ∃ t x y k er, e = .returned (.tuple #[vv t x y, .int .i64 (k : Nat), .int .i64 er]) ∧ RV (fun _ => True) w' t x y ∧ DOUT b t k er ∧ Below w.heap.size w w' := by
  have hb0 : Below w.heap.size w (w.alloc (Obj.cells #[.int .i64 0, .int .i64 0, .string { data := #[] }, .slice none 0 0, .slice none 0 0] 60)) := (Below.refl _ _).alloc (Nat.le_refl _) _
  have HX : Hid (obj (w.alloc (Obj.cells #[.int .i64 0, .int .i64 0, .string { data := #[] }, .slice none 0 0, .slice none 0 0] 60)) w.heap.size (.int .i64 0) (.int .i64 0) (.string { data := #[] }) (.slice none 0 0) (.slice none 0 0) ∧ Below w.heap.size w (w.alloc (Obj.cells #[.int .i64 0, .int .i64 0, .string { data := #[] }, .slice none 0 0, .slice none 0 0] 60)) ∧ (w.alloc (Obj.cells #[.int .i64 0, .int .i64 0, .string { data := #[] }, .slice none 0 0, .slice none 0 0] 60)).heap.size = w.heap.size + 1 ∧ RB (w.alloc (Obj.cells #[.int .i64 0, .int .i64 0, .string { data := #[] }, .slice none 0 0, .slice none 0 0] 60)) v b) :=
    ⟨heap_new _ _, hb0, by simp, hr.keep hb0⟩
  clear hb0
  obtain ⟨a, c, rfl, _⟩ := hr
  go_enter Tryd.func28, Tryd.ntmps28
  go_wp2_with fail
  generalize (w.alloc (Obj.cells #[.int .i64 0, .int .i64 0, .string { data := #[] }, .slice none 0 0, .slice none 0 0] 60)) = w0 at *
  generalize hH : w.heap.size = H at *
  have HH := Lib.hid hH
  clear hH
  refine (prefix13 _ b _ HX.out.2.2.2 hl0).mono ?_
  rintro e w2 ⟨t, x, y, k, er, rfl, hrv, hout, hb2⟩
  obtain ⟨⟨xa, xn, xc, rfl⟩, ⟨ya, yn, yc, rfl⟩⟩ := hrv.slices
  have O2 : Hid (obj w2 H (.int .i64 0) (.int .i64 0) (.string { data := #[] }) (.slice none 0 0) (.slice none 0 0) ∧ Below H w w2 ∧ H < w0.heap.size ∧ RV (fun x => w0.heap.size ≤ x) w2 t (.slice xa xn xc) (.slice ya yn yc)) := by
    obtain ⟨q1, q2, q3, _⟩ := HX.out
    exact ⟨q1.keep (hb2.block _ q1.lt), q2.trans (hb2.mono (by omega)), q1.lt, hrv⟩
  have HO := Lib.hid hout
  obtain ⟨c0, c1, c2, c3, c4⟩ := O2.out.1.cells
  have cf0 := O2.out.1.frozen 0
  have cf1 := O2.out.1.frozen 1
  have cf2 := O2.out.1.frozen 2
  have cf3 := O2.out.1.frozen 3
  have cf4 := O2.out.1.frozen 4
  have hlt : H < w2.heap.size := O2.out.1.lt
  clear HX hrv hout hb2
  unfold vv
  by_cases he : er = 0
  · subst he
    have HG := Lib.hid (out_good HO.out)
    by_cases hk : k < b.length
    · have hki : (k : Int) < (b.length : Int) := by omega
      go_wp2
      refine bodyPost_ret (v := .tuple #[vv t0 (.slice none 0 0) (.slice none 0 0), .int .i64 (k : Nat), .int .i64 26]) (results_cell3 Tryd.results28 _ _ H _ rfl (objAlloc (((((O2.out.1.set0 _).set1 _).set2 _).set3 _).set4 _) _) rfl) rfl ?_
      exact ⟨t0, _, _, k, 26, rfl, rv_t0 _ _, .inr ⟨rfl, .inl ⟨rfl, hk, HG.out.2, t, HG.out.1⟩⟩, by rw [HH.out]; exact (below_set5 O2.out.2.1).alloc (by simp [World.setCell]; omega) _⟩
    · have hki : ¬ (k : Int) < (b.length : Int) := by omega
      go_wp2
      refine bodyPost_ret (v := .tuple #[vv t (.slice xa xn xc) (.slice ya yn yc), .int .i64 ((0 : Nat) : Int), .int .i64 0]) (results_cell3 Tryd.results28 _ _ H _ rfl (objAlloc (((((O2.out.1.set0 _).set1 _).set2 _).set3 _).set4 _) _) rfl) rfl ?_
      refine ⟨t, _, _, 0, 0, rfl, ?_, .inl ⟨rfl, rfl, HG.out.2, k, HG.out.1, by omega⟩, by rw [HH.out]; exact (below_set5 O2.out.2.1).alloc (by simp [World.setCell]; omega) _⟩
      refine RV.keep (w := w2) (fun _ _ => trivial) (by simp [World.setCell]) (fun k hk hl => ?_) _ _ _ O2.out.2.2.2
      have hn : k ≠ H := by have h1 := O2.out.2.2.1; have h2 : w0.heap.size ≤ k := hk; omega
      rw [Below.heap_alloc _ _ _ (by simp [World.setCell]; exact hl), Below.heap_setCell _ _ _ _ hn, Below.heap_setCell _ _ _ _ hn, Below.heap_setCell _ _ _ _ hn, Below.heap_setCell _ _ _ _ hn, Below.heap_setCell _ _ _ _ hn]
  · have he' : (er == 0) = false := beq_eq_false_iff_ne.2 he
    have HG := Lib.hid (out_bad HO.out he)
    go_wp2
    refine bodyPost_ret (v := .tuple #[vv t0 (.slice none 0 0) (.slice none 0 0), .int .i64 (k : Nat), .int .i64 er]) (results_cell3 Tryd.results28 _ _ H _ rfl (objAlloc (((((O2.out.1.set0 _).set1 _).set2 _).set3 _).set4 _) _) rfl) rfl ?_
    exact ⟨t0, _, _, k, er, rfl, rv_t0 _ _, HG.out, by rw [HH.out]; exact (below_set5 O2.out.2.1).alloc (by simp [World.setCell]; omega) _⟩
end Go.Proofs.YtdlnnnlmlaploaaDoor
