import Derived.Test.YtdlnnnlmlaploaaDoorPre
import Derived.Test.YtdlnnnlmlaploaaDoorRd21
namespace Go.Proofs.YtdlnnnlmlaploaaDoor
open Go.RowKit Go.Deep
set_option maxRecDepth 10000 in
set_option maxHeartbeats 400000 in
theorem prefix13 (v : Value) (b : List UInt8) (w : World) (hr : RB w v b) (hl0 : b.length ≤ 140737488351232) :
    Calls Tryd.prog 44 #[v] w fun e w' => ∃ t x y k er, e = .returned (.tuple #[vv t x y, .int .i64 (k : Nat), .int .i64 er]) ∧ RV (fun x => w.heap.size ≤ x) w' t x y ∧ OUT b t k er ∧ Below w.heap.size w w' := by
  have hb0 : Below w.heap.size w (w.alloc (Obj.cells #[.int .i64 0, .int .i64 0, .string { data := #[] }, .slice none 0 0, .slice none 0 0] 60)) := (Below.refl _ _).alloc (Nat.le_refl _) _
  have HX : Hid (obj (w.alloc (Obj.cells #[.int .i64 0, .int .i64 0, .string { data := #[] }, .slice none 0 0, .slice none 0 0] 60)) w.heap.size (.int .i64 0) (.int .i64 0) (.string { data := #[] }) (.slice none 0 0) (.slice none 0 0) ∧ Below w.heap.size w (w.alloc (Obj.cells #[.int .i64 0, .int .i64 0, .string { data := #[] }, .slice none 0 0, .slice none 0 0] 60)) ∧ (w.alloc (Obj.cells #[.int .i64 0, .int .i64 0, .string { data := #[] }, .slice none 0 0, .slice none 0 0] 60)).heap.size = w.heap.size + 1 ∧ RB (w.alloc (Obj.cells #[.int .i64 0, .int .i64 0, .string { data := #[] }, .slice none 0 0, .slice none 0 0] 60)) v b) :=
    ⟨heap_new _ _, hb0, by simp, hr.keep hb0⟩
  clear hb0
  obtain ⟨a, c, rfl, _⟩ := hr
  by_cases hbig : 1048576 < b.length
  · have hbi : (1048576 : Int) < (b.length : Int) := by omega
    have OB := Lib.hid HX.out.1
    obtain ⟨c0, c1, c2, c3, c4⟩ := OB.out.cells
    have cf0 := OB.out.frozen 0
    have cf1 := OB.out.frozen 1
    have cf2 := OB.out.frozen 2
    have cf3 := OB.out.frozen 3
    have cf4 := OB.out.frozen 4
    have HB := Lib.hid HX.out.2.1
    clear HX
    go_enter Tryd.func44, Tryd.ntmps44
    go_wp2
    generalize (w.alloc (Obj.cells #[.int .i64 0, .int .i64 0, .string { data := #[] }, .slice none 0 0, .slice none 0 0] 60)) = w0 at *
    refine bodyPost_ret (v := .tuple #[vv t0 (.slice none 0 0) (.slice none 0 0), .int .i64 ((0 : Nat) : Int), .int .i64 20]) (results_cell3 Tryd.results44 _ _ w.heap.size _ rfl OB.out rfl) rfl ?_
    exact ⟨t0, _, _, 0, 20, rfl, rv_t0 _ _, .inr ⟨rfl, .inr ⟨hbig, rfl, rfl⟩⟩, HB.out⟩
  have hsm : b.length ≤ 1048576 := by omega
  clear hbig
  go_enter Tryd.func44, Tryd.ntmps44
  go_wp2_with fail
  generalize (w.alloc (Obj.cells #[.int .i64 0, .int .i64 0, .string { data := #[] }, .slice none 0 0, .slice none 0 0] 60)) = w0 at *
  generalize hH : w.heap.size = H at *
  have HH := Lib.hid hH
  clear hH
  obtain ⟨a', c', hv', hcap, hx⟩ := HX.out.2.2.2
  injection hv' with e1 e2 e3
  subst e1 e3
  refine (read21 a c b w0 ⟨hcap, hsm, hx⟩).mono ?_
  rintro e w2 ⟨hb2, hp⟩
  have OB : Hid (obj w2 H (.int .i64 0) (.int .i64 0) (.string { data := #[] }) (.slice none 0 0) (.slice none 0 0) ∧ Below H w w2) := by
    obtain ⟨q1, q2, q3, _⟩ := HX.out
    exact ⟨q1.keep (hb2.block _ q1.lt), q2.trans (hb2.mono (by omega))⟩
  obtain ⟨c0, c1, c2, c3, c4⟩ := OB.out.1.cells
  have cf0 := OB.out.1.frozen 0
  have cf1 := OB.out.1.frozen 1
  have cf2 := OB.out.1.frozen 2
  have cf3 := OB.out.1.frozen 3
  have cf4 := OB.out.1.frozen 4
  have hsz := HX.out.2.2.1
  clear HX hx hb2
  rcases hp with ⟨t, x, y, j, rfl, hrv, hrun⟩ | ⟨p, er, rfl, hbad⟩
  · obtain ⟨⟨xa, xn, xc, rfl⟩, ⟨ya, yn, yc, rfl⟩⟩ := hrv.slices
    have HE : Hid (RV (fun x => w0.heap.size ≤ x) w2 t (.slice xa xn xc) (.slice ya yn yc) ∧ Run b (.go [] 0) (.val t j)) := ⟨hrv, hrun⟩
    clear hrv hrun
    unfold vv
    go_wp2
    refine bodyPost_ret (v := .tuple #[vv t (.slice xa xn xc) (.slice ya yn yc), .int .i64 (j : Nat), .int .i64 0]) (results_cell3 Tryd.results44 _ _ H _ rfl (((((OB.out.1.set0 _).set1 _).set2 _).set3 _).set4 _) rfl) rfl ?_
    refine ⟨t, _, _, j, 0, rfl, ?_, .inl ⟨rfl, HE.out.2, hsm⟩, by rw [HH.out]; exact below_set5 OB.out.2⟩
    refine RV.keep (w := w2) (fun x hx => by have h1 := HH.out; have h2 : w0.heap.size ≤ x := hx; show w.heap.size ≤ x; omega) (by simp) (fun k hk hl => ?_) _ _ _ HE.out.1
    have hn : k ≠ H := by omega
    rw [Below.heap_setCell _ _ _ _ hn, Below.heap_setCell _ _ _ _ hn, Below.heap_setCell _ _ _ _ hn, Below.heap_setCell _ _ _ _ hn, Below.heap_setCell _ _ _ _ hn]
  · have HE : Hid (Run b (.go [] 0) (.bad p er)) := hbad
    clear hbad
    go_wp2
    refine bodyPost_ret (v := .tuple #[vv t0 (.slice none 0 0) (.slice none 0 0), .int .i64 (p : Nat), .int .i64 er]) (results_cell3 Tryd.results44 _ _ H _ rfl (((((OB.out.1.set0 _).set1 _).set2 _).set3 _).set4 _) rfl) rfl ?_
    exact ⟨t0, _, _, p, er, rfl, rv_t0 _ _, .inr ⟨rfl, .inl ⟨HE.out, hsm⟩⟩, by rw [HH.out]; exact below_set5 OB.out.2⟩
end Go.Proofs.YtdlnnnlmlaploaaDoor
