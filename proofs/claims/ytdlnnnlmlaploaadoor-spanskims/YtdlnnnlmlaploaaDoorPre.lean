import Derived.Test.YtdlnnnlmlaploaaDoorRdr
import Derived.Test.YtdlnnnlmlaploaaDoorRdc
import Derived.Test.YtdlnnnlmlaploaaDoorTwin
import Derived.Test.YtdlnnnlmlaploaaDoorSame
namespace Go.Proofs.YtdlnnnlmlaploaaDoor
open Go.RowKit Go.Deep
/-- the zero value's tree -/
def t0 : T := .mk 0 0 { data := #[] } 0 (fun _ => .no) 0 (fun _ => { data := #[] }) (fun _ => .no)
theorem t0_ok : t0.ok := ⟨by show ByteArray.size _ ≤ _; decide, Nat.zero_le _, Nat.zero_le _, fun i hi => absurd hi (Nat.not_lt_zero _), fun i hi => absurd hi (Nat.not_lt_zero _)⟩
/-- what a reader answers of a text: value, place, error -/
def OUT (b : List UInt8) (t : T) (k : Nat) (er : Int) : Prop :=
  (er = 0 ∧ Run b (.go [] 0) (.val t k) ∧ b.length ≤ 1048576) ∨ (t = t0 ∧ ((Run b (.go [] 0) (.bad k er) ∧ b.length ≤ 1048576) ∨ (1048576 < b.length ∧ k = 0 ∧ er = 20)))
theorem OUT.unique {b : List UInt8} {t t' : T} {k k' : Nat} {er er' : Int} (h : OUT b t k er) (h' : OUT b t' k' er') : t = t' ∧ k = k' ∧ er = er' := by
  rcases h with ⟨rfl, h1, h2⟩ | ⟨rfl, ⟨h1, h2⟩ | ⟨h1, rfl, rfl⟩⟩
  · rcases h' with ⟨rfl, g1, g2⟩ | ⟨rfl, ⟨g1, g2⟩ | ⟨g1, rfl, rfl⟩⟩
    · have := Run.unique h1 g1 trivial trivial
      injection this with e1 e2
      exact ⟨e1, e2, rfl⟩
    · have := Run.unique h1 g1 trivial trivial
      cases this
    · omega
  · rcases h' with ⟨rfl, g1, g2⟩ | ⟨rfl, ⟨g1, g2⟩ | ⟨g1, rfl, rfl⟩⟩
    · have := Run.unique h1 g1 trivial trivial
      cases this
    · have := Run.unique h1 g1 trivial trivial
      injection this with e1 e2
      exact ⟨rfl, e1, e2⟩
    · omega
  · rcases h' with ⟨rfl, g1, g2⟩ | ⟨rfl, ⟨g1, g2⟩ | ⟨g1, rfl, rfl⟩⟩
    · omega
    · omega
    · exact ⟨rfl, rfl, rfl⟩
theorem rv_t0 (S : Nat → Prop) (w : World) : RV S w t0 (.slice none 0 0) (.slice none 0 0) :=
  ⟨⟨none, 0, rfl, .inl rfl⟩, ⟨none, 0, rfl, .inl rfl⟩⟩
def EVw (w : World) : Prop := (∃ t p, w.cell? ⟨3, 0, none⟩ = some (.iface t p)) ∧ ∃ t p, w.cell? ⟨4, 0, none⟩ = some (.iface t p)
theorem EVw.keep {w w' : World} (h : EVw w) (hb : Below w.heap.size w w') : EVw w' := by
  obtain ⟨⟨t, p, h1⟩, ⟨t', p', h2⟩⟩ := h
  exact ⟨⟨t, p, (hb.cell (World.block_lt_of_cell? w _ h1)).trans h1⟩, ⟨t', p', (hb.cell (World.block_lt_of_cell? w _ h2)).trans h2⟩⟩
set_option maxRecDepth 10000 in
set_option maxHeartbeats 4000000 in
theorem prefix12 (v : Value) (b : List UInt8) (w : World) (hr : RB w v b) (hev : EVw w) :
    Calls Tryd.prog 64 #[v] w fun e w' => ∃ t x y k er, e = .returned (.tuple #[vv t x y, .int .i64 (k : Nat), .int .i64 er]) ∧ RV (fun _ => True) w' t x y ∧ t.ok ∧ OUT b t k er ∧ Below w.heap.size w w' := by
  have hb0 : Below w.heap.size w (w.alloc (Obj.cells #[.int .i64 0, .int .i64 0, .string { data := #[] }, .slice none 0 0, .slice none 0 0] 60)) := (Below.refl _ _).alloc (Nat.le_refl _) _
  have HX : Hid (obj (w.alloc (Obj.cells #[.int .i64 0, .int .i64 0, .string { data := #[] }, .slice none 0 0, .slice none 0 0] 60)) w.heap.size (.int .i64 0) (.int .i64 0) (.string { data := #[] }) (.slice none 0 0) (.slice none 0 0) ∧ Below w.heap.size w (w.alloc (Obj.cells #[.int .i64 0, .int .i64 0, .string { data := #[] }, .slice none 0 0, .slice none 0 0] 60)) ∧ (w.alloc (Obj.cells #[.int .i64 0, .int .i64 0, .string { data := #[] }, .slice none 0 0, .slice none 0 0] 60)).heap.size = w.heap.size + 1 ∧ RB (w.alloc (Obj.cells #[.int .i64 0, .int .i64 0, .string { data := #[] }, .slice none 0 0, .slice none 0 0] 60)) v b ∧ EVw (w.alloc (Obj.cells #[.int .i64 0, .int .i64 0, .string { data := #[] }, .slice none 0 0, .slice none 0 0] 60))) :=
    ⟨heap_new _ _, hb0, by simp, hr.keep hb0, hev.keep hb0⟩
  clear hb0 hev
  obtain ⟨a, c, rfl, _⟩ := hr
  go_enter Tryd.func64, Tryd.ntmps64
  go_wp2_with fail
  generalize (w.alloc (Obj.cells #[.int .i64 0, .int .i64 0, .string { data := #[] }, .slice none 0 0, .slice none 0 0] 60)) = w0 at *
  generalize hH : w.heap.size = H at *
  have HH := Lib.hid hH
  clear hH
  obtain ⟨a', c', hv', hcap, hx⟩ := HX.out.2.2.2.1
  injection hv' with e1 e2 e3
  subst e1 e3
  refine (read20 a c b w0 hcap HX.out.2.2.2.2 hx).mono ?_
  rintro e w2 ⟨hb2, hp⟩
  have OB : Hid (obj w2 H (.int .i64 0) (.int .i64 0) (.string { data := #[] }) (.slice none 0 0) (.slice none 0 0) ∧ Below H w w2) := by
    obtain ⟨q1, q2, q3, _⟩ := HX.out
    exact ⟨q1.keep (hb2.block _ q1.lt), q2.trans (hb2.mono (by omega))⟩
  obtain ⟨c0, c1, c2, c3, c4⟩ := OB.out.1.cells
  have cf0 := OB.out.1.frozen 0
  have cf1 := OB.out.1.frozen 1
  have cf2 := OB.out.1.frozen 2
  have cf3 := OB.out.1.frozen 3
  have cf4 := OB.out.1.frozen 4
  have hsz := HX.out.2.2.1
  clear HX hx hb2
  rcases hp with ⟨t, x, y, j, rfl, hrv, htok, hrun, hlen⟩ | ⟨p, er, rfl, hbad⟩
  · obtain ⟨⟨xa, xn, xc, rfl⟩, ⟨ya, yn, yc, rfl⟩⟩ := hrv.slices
    have HE : Hid (RV (fun x => w0.heap.size ≤ x) w2 t (.slice xa xn xc) (.slice ya yn yc) ∧ TOK t ∧ Run b (.go [] 0) (.val t j) ∧ b.length ≤ 1048576) := ⟨hrv, htok, hrun, hlen⟩
    clear hrv htok hrun hlen
    unfold vv
    go_wp2
    refine bodyPost_ret (v := .tuple #[vv t (.slice xa xn xc) (.slice ya yn yc), .int .i64 (j : Nat), .int .i64 0]) (results_cell3 Tryd.results64 _ _ H _ rfl (((((OB.out.1.set0 _).set1 _).set2 _).set3 _).set4 _) rfl) rfl ?_
    refine ⟨t, _, _, j, 0, rfl, ?_, HE.out.2.1.2.2, .inl ⟨rfl, HE.out.2.2⟩, by rw [HH.out]; exact below_set5 OB.out.2⟩
    refine RV.keep (w := w2) (fun _ _ => trivial) (by simp) (fun k hk hl => ?_) _ _ _ HE.out.1
    have hn : k ≠ H := by omega
    rw [Below.heap_setCell _ _ _ _ hn, Below.heap_setCell _ _ _ _ hn, Below.heap_setCell _ _ _ _ hn, Below.heap_setCell _ _ _ _ hn, Below.heap_setCell _ _ _ _ hn]
  · have HE : Hid ((Run b (.go [] 0) (.bad p er) ∧ b.length ≤ 1048576) ∨ (1048576 < b.length ∧ p = 0 ∧ er = 20)) := hbad
    clear hbad
    go_wp2
    refine bodyPost_ret (v := .tuple #[vv t0 (.slice none 0 0) (.slice none 0 0), .int .i64 (p : Nat), .int .i64 er]) (results_cell3 Tryd.results64 _ _ H _ rfl (((((OB.out.1.set0 _).set1 _).set2 _).set3 _).set4 _) rfl) rfl ?_
    exact ⟨t0, _, _, p, er, rfl, rv_t0 _ _, t0_ok, .inr ⟨rfl, HE.out⟩, by rw [HH.out]; exact below_set5 OB.out.2⟩
end Go.Proofs.YtdlnnnlmlaploaaDoor
