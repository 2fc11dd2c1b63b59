import Derived.Test.YtdlnnnlmlaploaaDoorSO
namespace Go.Proofs.YtdlnnnlmlaploaaDoor
open Go.RowKit Go.Deep
theorem own_mono {w : World} {B B' k : Nat} {v : Value} {us : List Value} (hB : B' ≤ B) (h : w.ownsRow B 45 7 v k us) : w.ownsRow B' 45 7 v k us := by
  refine ⟨h.1, ?_⟩
  rcases h.2 with h | ⟨g, cap, cur, h1, h2, h3⟩
  · exact .inl h
  · exact .inr ⟨g, cap, cur, h1, Nat.le_trans hB h2, h3⟩
theorem built45u : Tryd.prog.built 45 [(4, .int .i64 (-1))] = some #[.int .i64 0, .int .i64 0, .int .i64 0, .int .i64 0, .int .i64 (-1), .int .i64 0, .string ByteArray.empty] := by kernel_rfl
set_option maxRecDepth 10000 in
set_option maxHeartbeats 2000000 in
theorem skim15 (v : Value) (b : List UInt8) (w : World) (hr : RB w v b) (hl0 : b.length ≤ 140737488351232) (hT : TB w.heap.size w) :
    Calls Tryd.prog 15 #[v] w fun e w' => ∃ sv k er, e = .returned (.tuple #[sv, .int .i64 (k : Nat), .int .i64 er]) ∧ SKA b w.heap.size w' sv k er ∧ Below w.heap.size w w' := by
  have HR := Lib.hid (And.intro hr hT)
  obtain ⟨a, c, rfl, _⟩ := hr
  clear hT
  go_enter Tryd.func15, Tryd.ntmps15
  go_wp2_with fail
  refine (decode11 _ b _ HR.out.1 hl0).mono ?_
  rintro e w2 ⟨t, x, y, k, er, rfl, hrv, hout, hb2⟩
  obtain ⟨⟨xa, xn, xc, rfl⟩, ⟨ya, yn, yc, rfl⟩⟩ := hrv.slices
  unfold vv
  have hba : Below w2.heap.size w2 (w2.alloc (Obj.cells #[.int .i64 t.k, .int .i64 t.n, .string t.s, .slice xa xn xc, .slice ya yn yc] 60)) := (Below.refl _ _).alloc (Nat.le_refl _) _
  have H3 : Hid (obj (w2.alloc (Obj.cells #[.int .i64 t.k, .int .i64 t.n, .string t.s, .slice xa xn xc, .slice ya yn yc] 60)) w2.heap.size (.int .i64 t.k) (.int .i64 t.n) (.string t.s) (.slice xa xn xc) (.slice ya yn yc) ∧
      RV (fun b => b < (w2.alloc (Obj.cells #[.int .i64 t.k, .int .i64 t.n, .string t.s, .slice xa xn xc, .slice ya yn yc] 60)).heap.size) (w2.alloc (Obj.cells #[.int .i64 t.k, .int .i64 t.n, .string t.s, .slice xa xn xc, .slice ya yn yc] 60)) t (.slice xa xn xc) (.slice ya yn yc) ∧
      Below w.heap.size w (w2.alloc (Obj.cells #[.int .i64 t.k, .int .i64 t.n, .string t.s, .slice xa xn xc, .slice ya yn yc] 60)) ∧ DOUT b t k er) :=
    ⟨heap_new _ _, RV.lift hba.size (fun q hq => hba.block q hq) (fun q hq => Nat.lt_of_lt_of_le hq hba.size) _ _ _ hrv, hb2.trans (hba.mono hb2.size), hout⟩
  clear hba hrv hout hb2
  by_cases he : er = 0
  · subst he
    obtain ⟨hbt, ⟨g1, g2, g3⟩, hlen⟩ := dout_txt H3.out.2.2.2
    obtain ⟨c0, c1, c2, c3, c4⟩ := H3.out.1.cells
    have HK : Hid (k = 0) := by
      rcases H3.out.2.2.2 with ⟨_, h, _⟩ | ⟨_, ⟨h, _⟩ | ⟨h, _⟩ | ⟨_, _, h⟩⟩
      · exact h
      · cases h
      · have := run_er h; omega
      · cases h
    have HX := Lib.hid (walk29 t (.slice xa xn xc) (.slice ya yn yc) (w2.alloc (Obj.cells #[.int .i64 t.k, .int .i64 t.n, .string t.s, .slice xa xn xc, .slice ya yn yc] 60)) (w2.alloc (Obj.cells #[.int .i64 t.k, .int .i64 t.n, .string t.s, .slice xa xn xc, .slice ya yn yc] 60)).heap.size 0 (.slice none 0 0) [] (dueS []) H3.out.2.1 g3 (vt_of_wk t _ g1) (tb_up (HR.out.2.on H3.out.2.2.1) H3.out.2.2.1.size)
      (by show 0 + _ ≤ _; rw [← hbt]; omega) (by show 0 + _ ≤ _; rw [← hbt]; omega) (by rw [← hbt]; omega) (World.ownsRow_nil _ _ _ _) (Nat.le_refl _))
    have HD := Lib.hid H3.out.2.2
    clear hbt g1 g2 g3 hlen H3
    go_wp2_with fail
    refine HX.out.mono ?_
    rintro e w4 ⟨lv, rfl, ho, hn⟩
    obtain ⟨la, lc, rfl⟩ := ownForm ho
    have HZ : Hid (w4.ownsRow (w2.alloc (Obj.cells #[.int .i64 t.k, .int .i64 t.n, .string t.s, .slice xa xn xc, .slice ya yn yc] 60)).heap.size 45 7 _ _ _ ∧ Below w.heap.size w w4) := ⟨ho, HD.out.1.trans ⟨hn.os, hn.tape, hn.output, hn.size, fun q hq => hn.block q (Nat.lt_of_lt_of_le hq HD.out.1.size) (fun e => by cases e)⟩⟩
    clear ho hn HX c0 c1 c2 c3 c4
    go_wp2
    go_ret3
    refine ⟨_, 0, 0, rfl, ⟨t, by have := HK.out; subst this; exact HD.out.2, .inr ⟨rfl, ?_⟩⟩, HZ.out.2⟩
    have := HZ.out.1
    rw [Nat.zero_add, List.nil_append] at this
    exact own_mono HD.out.1.size this
  · have he' : (er == 0) = false := beq_eq_false_iff_ne.2 he
    go_wp2
    go_ret3
    exact ⟨_, k, er, rfl, ⟨t, H3.out.2.2.2, .inl ⟨he, rfl⟩⟩, H3.out.2.2.1⟩
end Go.Proofs.YtdlnnnlmlaploaaDoor
