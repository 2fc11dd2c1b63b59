import Derived.Test.YtkmmiokcihphgaaDoorSm
namespace Go.Proofs.YtkmmiokcihphgaaDoor
open Go.RowKit
theorem MM.big {w : World} {m : Mv} {D hb : List UInt8} (h : MM w m D hb) : sln m.h ≤ 140737488351232 ∧ sln m.d ≤ 140737488351232 := by
  have h1 := h.sh
  have h2 := h.sd
  have h3 := h.dl
  have h4 := h.hl
  omega
theorem wpList_load_msg {ops : Array Oper} {rest : List Oper} {o : Oper} {a : Act} {w : World} {Q : Exit → Act → World → Prop} (hw : Region.wanted o (yielded ops a.tmps) = true) (x : Operand) (ho : o.op = .load 28 x)
    (g : Nat) (hx : a.eval x = .pointer (some ⟨g, 0, none⟩)) (m : Mv) (hg : w.heap[g]? = some (.cells m.cs 28 (0, 0))) (hi : (Tryd.prog.info? 28).map (·.size) = some m.cs.size)
    (h : wpList Tryd.prog ops Q rest (a.put o.dst (.agg m.cs)) w) : wpList Tryd.prog ops Q (o :: rest) a w :=
  wpList_step fun K hK => by
    rw [if_pos hw]
    exact wp_load_row 28 x ho g hx 28 m.cs (0, 0) _ hg Tryd.underlying28 rfl hi (hK _ _ h)
theorem sz_same (m : Mv) (d h : Value) (e1 : sln d = sln m.d) (e2 : sln h = sln m.h) (c : Nat) : sz c { m with d := d, h := h } = sz c m := by
  unfold sz
  split <;> simp [e1, e2]
theorem lk_same (m : Mv) (d h : Value) (c : Nat) : lk c { m with d := d, h := h } = lk c m := by
  unfold lk
  split <;> rfl
theorem frn_same (m : Mv) (d h : Value) (e1 : sln d = sln m.d) (e2 : sln h = sln m.h) (cs : List Nat) : frn (blks cs { m with d := d, h := h }) = frn (blks cs m) := by
  suffices H : ∀ cs (m m' : Mv), m'.i = m.i → m'.b = m.b → m'.l = m.l → m'.ba = m.ba → m'.pr = m.pr → m'.r = m.r → sln m'.d = sln m.d → sln m'.h = sln m.h → frn (blks cs m') = frn (blks cs m) from H cs m _ rfl rfl rfl rfl rfl rfl e1 e2
  intro cs
  induction cs with
  | nil => intro m m' h1 h2 h3 h4 h5 h6 h7 h8; show frn m' = frn m; unfold frn; rw [h1, h2, h3, h4, h5, h6, h7, h8]
  | cons c l ih =>
    intro m m' h1 h2 h3 h4 h5 h6 h7 h8
    refine ih (blk c m) (blk c m') ?_ ?_ ?_ ?_ ?_ ?_ ?_ ?_
    all_goals (unfold blk; split <;> first | assumption | rfl)
theorem valE_same (m : Mv) (d h : Value) (e1 : sln d = sln m.d) (e2 : sln h = sln m.h) : valE { m with d := d, h := h } = valE m := by
  unfold valE
  show (match rowFor m.k with | none => _ | some r => _) = _
  cases rowFor m.k with
  | none => rfl
  | some r =>
    have h1 : lks r.cs { m with d := d, h := h } = lks r.cs m := by simp only [lks, lk_same]
    have h2 : szs r.cs { m with d := d, h := h } = szs r.cs m := by simp only [szs, sz_same m d h e1 e2]
    simp only [frn_same m d h e1 e2, h1, h2]
set_option maxHeartbeats 1000000 in
theorem validT (w : World) (m : Mv) (ok : m.ok) (hk : KT w) (hh : sln m.h ≤ 140737488351232) (hd : sln m.d ≤ 140737488351232) :
    Calls Tryd.prog 13 #[.agg m.cs] w fun e w' => e = .returned (.int .i64 (valE m)) ∧ Below w.heap.size w w' := by
  have hc := heapNew w (.cells m.cs 28)
  have b0 : Below w.heap.size w (w.alloc (.cells m.cs 28)) := (Below.refl _ _).alloc (Nat.le_refl _) _
  have HA : Hid (KT (w.alloc (.cells m.cs 28)) ∧ Below w.heap.size w (w.alloc (.cells m.cs 28)) ∧ w.heap.size ≤ (w.alloc (.cells m.cs 28)).heap.size) := ⟨hk.below b0 hk.pos, b0, by simp⟩
  have him := info_msg ok
  clear b0
  go_enter Tryd.func13, Tryd.ntmps13
  go_wp2_with (first | (refine wpList_load_row rfl 28 _ rfl w.heap.size rfl 28 m.cs (0, 0) _ hc Tryd.underlying28 rfl him ?_))
  generalize w.alloc (.cells m.cs 28) = w0 at *
  refine (checkedT w0 m ok HA.out.1 hh hd).mono ?_
  rintro e w1 ⟨v, rfl, _, b1⟩
  have HB : Hid (Below w.heap.size w w1) := HA.out.2.1.trans (b1.mono HA.out.2.2)
  clear b1
  go_wp2
  go_ret
  exact ⟨rfl, HB.out⟩
set_option maxHeartbeats 1000000 in
set_option maxRecDepth 100000 in
theorem validsLaw (w : World) (m : Mv) (D hb : List UInt8) (hm : MM w m D hb) (hk : KT w) :
    Calls Tryd.prog 5 #[.agg m.cs] w fun e w' => e = .returned (.bool true) ∧ Below w.heap.size w w' := by
  have b0 : Below w.heap.size w (w.alloc (.cells m.cs 28)) := (Below.refl _ _).alloc (Nat.le_refl _) _
  have HA : Hid (KT (w.alloc (.cells m.cs 28)) ∧ MB (w.alloc (.cells m.cs 28)) w.heap.size m ∧ MM (w.alloc (.cells m.cs 28)) m D hb ∧ Below w.heap.size w (w.alloc (.cells m.cs 28)) ∧ w.heap.size < (w.alloc (.cells m.cs 28)).heap.size) := ⟨hk.below b0 hk.pos, heapNew w _, hm.keep b0, b0, by simp⟩
  have hc := HA.out.2.1.cells
  have him := info_msg hm.ok
  clear b0 hk
  go_enter Tryd.func5, Tryd.ntmps5
  go_wp2_with (first | (refine wpList_load_row rfl 28 _ rfl w.heap.size rfl 28 m.cs (0, 0) _ hc Tryd.underlying28 rfl him ?_))
  generalize w.alloc (.cells m.cs 28) = w0 at *
  refine (twinT w0 m D hb HA.out.2.2.1).mono ?_
  rintro e w1 ⟨d', h', rfl, hn, b1⟩
  clear hc
  have hn' : ({ m with d := d', h := h' } : Mv) = { m with d := d', h := h' } := rfl
  generalize hN : ({ m with d := d', h := h' } : Mv) = n at *
  have HN : Hid (n = { m with d := n.d, h := n.h } ∧ m.k = n.k) := by subst hN; exact ⟨rfl, rfl⟩
  have hsame : refE n = valE m := by
    rw [ref_val]
    have h1 := hn.sd; have h2 := hm.sd; have h3 := hn.sh; have h4 := hm.sh
    have e1 : sln n.d = sln m.d := by omega
    have e2 : sln n.h = sln m.h := by omega
    subst hN
    exact valE_same m d' h' e1 e2
  clear hN hn'
  have HB : Hid (KT w1 ∧ MB w1 w.heap.size m ∧ MM w1 m D hb ∧ MM w1 n D hb ∧ Below w.heap.size w w1 ∧ w.heap.size < w1.heap.size) := ⟨HA.out.1.below b1 HA.out.1.pos, HA.out.2.1.below b1, HA.out.2.2.1.keep b1, hn, HA.out.2.2.2.1.trans (b1.mono (Nat.le_of_lt HA.out.2.2.2.2)), Nat.lt_of_lt_of_le HA.out.2.2.2.2 b1.size⟩
  clear b1 HA
  have hz := heapNew w1 (.cells zm.cs 28)
  have hin := info_msg hn.ok
  have hone := hn.ok.one
  have hszn : zm.cs.size = n.cs.size := by rw [zm_ok.size, hn.ok.size]
  have C1 : ∃ X, (w1.alloc (.cells zm.cs 28)).setRow w1.heap.size n.cs = X ∧ MB X w.heap.size m ∧ MB X w1.heap.size n ∧ KT X ∧ MM X m D hb ∧ MM X n D hb ∧ Below w.heap.size w X ∧ w.heap.size < X.heap.size ∧ w1.heap.size < X.heap.size := by
    have bx : Below w1.heap.size w1 ((w1.alloc (.cells zm.cs 28)).setRow w1.heap.size n.cs) := belowSetRow ((Below.refl _ _).alloc (Nat.le_refl _) _) (Nat.le_refl _) _
    have hlt := HB.out.2.2.2.2.2
    exact ⟨_, rfl, HB.out.2.1.below bx, MB.setRow (m := zm) hz, HB.out.1.below bx HB.out.1.pos, HB.out.2.2.1.keep bx, HB.out.2.2.2.1.keep bx, HB.out.2.2.2.2.1.trans (bx.mono (by omega)), by simp [World.setRow]; omega, by simp [World.setRow]⟩
  obtain ⟨X, hX, C1⟩ := C1
  have HX : Hid (MB X w.heap.size m ∧ MB X w1.heap.size n ∧ KT X ∧ MM X m D hb ∧ MM X n D hb ∧ Below w.heap.size w X ∧ w.heap.size < X.heap.size ∧ w1.heap.size < X.heap.size) := C1
  have hc := C1.1.cells
  have HV : Hid (refE n = valE m) := hsame
  have HS : Hid (MM w m D hb) := hm
  clear C1 hsame hm hn
  rw [← hX] at hc
  go_upto_region 2 with (first | (refine wpList_store_row rfl 28 _ _ rfl w1.heap.size n.cs rfl rfl 28 zm.cs hz hin hszn hone ?_))
  rw [z40_eq, hX]
  rw [hX] at hc
  clear hz hX hszn hone HB
  go_wp2_with (first | (refine wpList_load_row rfl 28 _ rfl w.heap.size rfl 28 m.cs (0, 0) _ hc Tryd.underlying28 rfl him ?_))
  refine (validT X m HS.out.ok HX.out.2.2.1 HS.out.big.1 HS.out.big.2).mono ?_
  rintro e w2 ⟨rfl, b2⟩
  have H2 : Hid (MB w2 w.heap.size m ∧ MB w2 w1.heap.size n ∧ MM w2 m D hb ∧ MM w2 n D hb ∧ Below w.heap.size w w2 ∧ w.heap.size < w2.heap.size ∧ w1.heap.size < w2.heap.size) := ⟨HX.out.1.below b2, HX.out.2.1.below b2, HX.out.2.2.2.1.keep b2, HX.out.2.2.2.2.1.keep b2, HX.out.2.2.2.2.2.1.trans (b2.mono (Nat.le_of_lt HX.out.2.2.2.2.2.2.1)), Nat.lt_of_lt_of_le HX.out.2.2.2.2.2.2.1 b2.size, Nat.lt_of_lt_of_le HX.out.2.2.2.2.2.2.2 b2.size⟩
  clear b2 HX hc
  have hc := H2.out.2.1.cells
  go_wp2_with (first | (refine wpList_load_row rfl 28 _ rfl w1.heap.size rfl 28 n.cs (0, 0) _ hc Tryd.underlying28 rfl hin ?_))
  refine (rValidT w2 n H2.out.2.2.2.1.ok).mono ?_
  rintro e w3 ⟨rfl, b3⟩
  rw [HV.out]
  have H3 : Hid (MB w3 w.heap.size m ∧ MB w3 w1.heap.size n ∧ MM w3 m D hb ∧ MM w3 n D hb ∧ Below w.heap.size w w3 ∧ w.heap.size < w3.heap.size) := ⟨H2.out.1.below b3, H2.out.2.1.below b3, H2.out.2.2.1.keep b3, H2.out.2.2.2.1.keep b3, H2.out.2.2.2.2.1.trans (b3.mono (Nat.le_of_lt H2.out.2.2.2.2.2.1)), Nat.lt_of_lt_of_le H2.out.2.2.2.2.2.1 b3.size⟩
  clear b3 H2 hc
  have hc := H3.out.1.cells
  have hc2 := H3.out.2.1.cells
  generalize valE m = vE
  go_wp2_with (first | (refine wpList_load_msg rfl _ rfl w.heap.size rfl m hc him ?_) | (refine wpList_load_msg rfl _ rfl w1.heap.size rfl n hc2 hin ?_) | (go_at_call 12; refine (msameT w3 m n D hb H3.out.2.2.1 H3.out.2.2.2.1 HN.out.1).mono ?_; rintro e w4 ⟨rfl, b4⟩; have H4 : Hid (Below w.heap.size w w4) := H3.out.2.2.2.2.1.trans (b4.mono (Nat.le_of_lt H3.out.2.2.2.2.2)); clear b4))
  go_ret
  exact ⟨rfl, H4.out⟩
end Go.Proofs.YtkmmiokcihphgaaDoor
