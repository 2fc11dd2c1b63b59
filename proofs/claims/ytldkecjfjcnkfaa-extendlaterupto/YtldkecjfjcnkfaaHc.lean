import Derived.Test.YtldkecjfjcnkfaaHb
namespace Go.Proofs.Ytldkecjfjcnkfaa
open Go.RowKit Go.Deep
def ltP (a x : PE) : Bool := Op.bytesLess a.key.toList x.key.toList
def eqP (a x : PE) : Bool := a.key.toList == x.key.toList
def mgP (ns ms : List PE) : List PE := mg ltP eqP ns ms
/-- the two lists of a value are slices -/
def slx (e : PE) : Prop := (∃ a n c, e.x = .slice a n c) ∧ (∃ a n c, e.y = .slice a n c)
theorem gCs_one {es : List PE} (h : ∀ e ∈ es, slx e) : ∀ u ∈ gCs es, u.oneCell' = true := fun u hu => by
  simp only [gCs, List.mem_flatMap] at hu
  obtain ⟨e, he, hu⟩ := hu
  obtain ⟨⟨_, _, _, h1⟩, ⟨_, _, _, h2⟩⟩ := h e he
  simp [gC, cv] at hu
  rcases hu with rfl | rfl | rfl | rfl | rfl | rfl
  · rfl
  · rfl
  · rfl
  · rfl
  · rw [h1]; rfl
  · rw [h2]; rfl
/-- pairs as they lie, in a slice that may be cut -/
def SP (w : World) (v : Value) (os : List PE) : Prop :=
  ∃ a c, v = .slice a os.length c ∧ os.length ≤ c ∧ (a = none → c = 0) ∧ (os = [] ∨ ∃ g o, a = some ⟨g, o, none⟩ ∧ g < w.heap.size ∧ ∀ i e, os[i]? = some e → slx e ∧ ∀ r, r < 6 → w.cell? ⟨g, o + i * 6 + r, none⟩ = (gC e)[r]?)
theorem sp_of {A : Nat} {w : World} {v : Value} {os : List PE} (h : RG A w v os) (hc : capped v) : SP w v os := by
  obtain ⟨a, c, rfl, hle, hx⟩ := h
  refine ⟨a, c, rfl, hle, (hc _ _ _ rfl).2, ?_⟩
  rcases hx with hx | ⟨g, o, h1, h2, h3⟩
  · exact .inl hx
  · exact .inr ⟨g, o, h1, h2, fun i e he => ⟨(h3 i e he).1.slices, (h3 i e he).2⟩⟩
theorem SP.slx {w : World} {v : Value} {os : List PE} (h : SP w v os) : ∀ e ∈ os, slx e := fun e he => by
  obtain ⟨a, c, rfl, _, _, hx⟩ := h
  rcases hx with rfl | ⟨g, o, h1, h2, h3⟩
  · cases he
  · obtain ⟨i, hi, rfl⟩ := List.getElem_of_mem he
    exact (h3 i _ (List.getElem?_eq_getElem hi)).1
/-- the state of the laying over -/
def STp (B C : Nat) (w : World) (ns ms : List PE) (k : Nat) (ov av : Value) (wr : World) : Prop :=
  ∃ os acc, SP w ov os ∧ av = .slice (some ⟨B, 0, none⟩) acc.length C ∧ wr.ownsRow B 59 6 av acc.length (gCs acc) ∧ Below B w wr ∧ acc ++ mgP os (ms.drop k) = mgP ns ms ∧ acc.length + os.length + (ms.length - k) ≤ C
def IXp (B C bx : Nat) (w : World) (ns ms : List PE) (k : Nat) (f : PE) (os acc : List PE) (ov : Value) (wq : World) : Prop :=
  SP w ov os ∧ wq.ownsRow B 59 6 (.slice (some ⟨B, 0, none⟩) acc.length C) acc.length (gCs acc) ∧ Below B w wq ∧ acc ++ mgP os (ms.drop k) = mgP ns ms ∧ acc.length + os.length + (ms.length - k) ≤ C ∧ wq.heap[bx]? = some (.cells (gC f).toArray 59 (0, 0)) ∧ B < bx
def INp (B C bx : Nat) (w : World) (ns ms : List PE) (k : Nat) (f : PE) (ov av : Value) (wq : World) : Prop :=
  ∃ os acc, av = .slice (some ⟨B, 0, none⟩) acc.length C ∧ IXp B C bx w ns ms k f os acc ov wq
/-- what a round reads -/
def SBp (bx g o : Nat) (f e : PE) (x : World) : Prop :=
  (x.cell? ⟨bx, 0, none⟩ = some (.string f.key) ∧ x.cell? ⟨bx, 1, none⟩ = some (.int .i64 f.t.k) ∧ x.cell? ⟨bx, 2, none⟩ = some (.int .i64 f.t.n) ∧ x.cell? ⟨bx, 3, none⟩ = some (.string f.t.s) ∧ x.cell? ⟨bx, 4, none⟩ = some f.x ∧ x.cell? ⟨bx, 5, none⟩ = some f.y) ∧
  x.cell? ⟨g, o, none⟩ = some (.string e.key) ∧ x.cell? ⟨g, o + 1, none⟩ = some (.int .i64 e.t.k) ∧ x.cell? ⟨g, o + 2, none⟩ = some (.int .i64 e.t.n) ∧ x.cell? ⟨g, o + 3, none⟩ = some (.string e.t.s) ∧ x.cell? ⟨g, o + 4, none⟩ = some e.x ∧ x.cell? ⟨g, o + 5, none⟩ = some e.y
theorem SBp.keep {bx g o : Nat} {f e : PE} {x y : World} (h : SBp bx g o f e x) (hb : Below x.heap.size x y) : SBp bx g o f e y := by
  have c : ∀ {p : Addr} {v : Value}, x.cell? p = some v → y.cell? p = some v := fun h => Below.cellS hb (Nat.le_refl _) h
  obtain ⟨⟨f0, f1, f2, f3, f4, f5⟩, e0, e1, e2, e3, e4, e5⟩ := h
  exact ⟨⟨c f0, c f1, c f2, c f3, c f4, c f5⟩, c e0, c e1, c e2, c e3, c e4, c e5⟩
section
variable {B C bx : Nat} {w : World} {ns ms : List PE} {k : Nat} {f : PE} {os acc : List PE} {ov : Value} {x y z : World}
theorem IXp.keep (h : IXp B C bx w ns ms k f os acc ov x) (hb : Below x.heap.size x y) : IXp B C bx w ns ms k f os acc ov y := by
  obtain ⟨h1, h3, h4, h5, h6, h7, h8⟩ := h
  have h9 := (Array.getElem?_eq_some_iff.1 h7).1
  exact ⟨h1, h3.kept (grown_of_below hb) (.inr (by simp [Value.ownBlock])), h4.trans (hb.mono (by omega)), h5, h6, (hb.block _ h9).trans h7, h8⟩
theorem IXp.cells (h : IXp B C bx w ns ms k f os acc ov x) : x.cell? ⟨bx, 0, none⟩ = some (.string f.key) ∧ x.cell? ⟨bx, 1, none⟩ = some (.int .i64 f.t.k) ∧ x.cell? ⟨bx, 2, none⟩ = some (.int .i64 f.t.n) ∧ x.cell? ⟨bx, 3, none⟩ = some (.string f.t.s) ∧ x.cell? ⟨bx, 4, none⟩ = some f.x ∧ x.cell? ⟨bx, 5, none⟩ = some f.y := by
  have h7 := h.2.2.2.2.2.1
  refine ⟨?_, ?_, ?_, ?_, ?_, ?_⟩ <;> simp [World.cell?, h7, gC, cv]
theorem IXp.put {a : PE} {ov' : Value} (h : IXp B C bx w ns ms k f (a :: os) acc ov x) (hlt : ltP a f = true) (hx : ms.drop k = f :: ms.drop (k + 1)) (hb : Below x.heap.size x y)
    (ho : z.ownsRow B 59 6 (.slice (some ⟨B, 0, none⟩) (acc.length + 1) C) (acc.length + 1) (gCs acc ++ gCs [a])) (hg : y.grownBy z (some B)) (hsn : SP w ov' os) : IXp B C bx w ns ms k f os (acc ++ [a]) ov' z := by
  obtain ⟨_, _, h4, h5, h6, h7, h8⟩ := h.keep hb
  have h9 := (Array.getElem?_eq_some_iff.1 h7).1
  refine ⟨hsn, ?_, below_grown h4 hg (by omega), ?_, by simp at h6 ⊢; omega, (hg.block _ h9 (by simp; omega)).trans h7, h8⟩
  · rw [gCs_app]; simpa using ho
  · rw [hx] at h5 ⊢
    rw [← h5, mgP, mgP, mg_lt _ _ hlt, List.append_assoc]; rfl
theorem IXp.next {os2 : List PE} {ov' : Value} (h : IXp B C bx w ns ms k f os acc ov x) (hx : ms.drop k = f :: ms.drop (k + 1)) (hm : mgP os (f :: ms.drop (k + 1)) = f :: mgP os2 (ms.drop (k + 1))) (hl : os2.length ≤ os.length) (hk : k < ms.length) (hb : Below x.heap.size x y)
    (ho : z.ownsRow B 59 6 (.slice (some ⟨B, 0, none⟩) (acc.length + 1) C) (acc.length + 1) (gCs acc ++ gCs [f])) (hg : y.grownBy z (some B)) (hsn : SP w ov' os2) : STp B C w ns ms (k + 1) ov' (.slice (some ⟨B, 0, none⟩) (acc.length + 1) C) z := by
  obtain ⟨_, _, h4, h5, h6, h7, h8⟩ := h.keep hb
  have h9 := (Array.getElem?_eq_some_iff.1 h7).1
  refine ⟨os2, acc ++ [f], hsn, by simp, ?_, below_grown h4 hg (by omega), ?_, by simp; omega⟩
  · rw [gCs_app]; simpa using ho
  · rw [← h5, hx, hm, List.append_assoc]; rfl
end
/-- the rest of a list behind its first pair -/
theorem SP.tl {w : World} {a : PE} {os : List PE} {g o c ol : Nat} (h : SP w (.slice (some ⟨g, o, none⟩) ol c) (a :: os)) : SP w (.slice (if c = 1 then some ⟨g, o, none⟩ else some ⟨g, o + 6, none⟩) (ol - 1) (c - 1)) os := by
  obtain ⟨a', c', e, hc, hn, hx⟩ := h
  cases e
  refine ⟨_, _, rfl, by simp at hc; omega, (fun e => by split at e <;> cases e), ?_⟩
  cases os with
  | nil => exact .inl rfl
  | cons b os =>
    rcases hx with hx | ⟨g', o', e, hg, hx⟩
    · cases hx
    · cases e
      rw [if_neg (by simp at hc; omega)]
      exact .inr ⟨g, o + 6, rfl, hg, fun i y hy => by
        have h9 := hx (i + 1) y (by simpa using hy)
        refine ⟨h9.1, fun r hr => ?_⟩
        rw [show o + 6 + i * 6 + r = o + (i + 1) * 6 + r by omega]
        exact h9.2 r hr⟩
theorem info59s : (Try.prog.info? 59).map (fun i => (i.zero, i.size, i.bytes)) = some (some (.agg #[.string ByteArray.empty, .int .i64 0, .int .i64 0, .string ByteArray.empty, .slice none 0 0, .slice none 0 0]), 6, 96) := by kernel_rfl
set_option maxHeartbeats 8000000 in
set_option maxRecDepth 100000 in
theorem laidOver39 (v1 v2 : Value) (ns ms : List PE) (w : World) (h1 : SP w v1 ns) (h2 : SP w v2 ms) (hl : ns.length + ms.length ≤ 2147483000) :
    Calls Try.prog 39 #[v1, v2, .func (Fn.func 40) #[] #[]] w fun e w' => ∃ v', e = .returned v' ∧ w'.ownsRow w.heap.size 59 6 v' (mgP ns ms).length (gCs (mgP ns ms)) ∧ Below w.heap.size w w' := by
  have HS1 := Lib.hid h1
  have HS2 := Lib.hid h2
  obtain ⟨a1, c1, rfl, hc1, hn1, hx1⟩ := h1
  obtain ⟨a2, c2, rfl, hc2, hn2, hx2⟩ := h2
  have HX2 := Lib.hid hx2
  obtain ⟨i0, hi, hz0, hz1, hz2⟩ := info_parts info59s
  generalize hnn : ns.length = n at *
  generalize hmm : ms.length = m at *
  have HNN : Hid (ns.length = n ∧ ms.length = m) := ⟨hnn, hmm⟩
  clear hnn hmm hx1 hx2 hn1 hn2
  go_enter Try.func39, Try.ntmps39
  go_wp2_with (at_make; refine wpList_make_own _ rfl _ _ 33 rfl w.heap.size 59 i0 _ 6 Try.underlying33 hi hz0 hz1 .i64 .i64 _ (n + m) rfl rfl (by push_cast; rfl) (by rw [hz2]; omega) (by unfold maxLen; omega) (Nat.le_refl _) ?_; intro w1 hown hgrow; have HO : Hid (w1.ownsRow w.heap.size 59 6 (.slice (some ⟨w.heap.size, 0, none⟩) 0 (n + m)) 0 [] ∧ Below w.heap.size w w1) := ⟨hown, (Below.refl _ _).grown hgrow (Nat.le_refl _) (fun k hk => by cases hk)⟩; clear hown hgrow)
  go_loopw [0, 7, 18] (fun ov av t wr => ∃ k : Nat, k ≤ m ∧ t = .int .i64 k ∧ Hid (STp w.heap.size (n + m) w ns ms k ov av wr)) (fun _ _ t _ => m - (intOf t).toNat)
  case atStart =>
    refine ⟨0, Nat.zero_le _, rfl, ns, [], HS1.out, rfl, HO.out.1, HO.out.2, by simp, ?_⟩
    · have := HNN.out; simp; omega
  case round =>
    obtain ⟨k, hk, rfl, HI⟩ := hrel
    by_cases hlt : k < m
    · obtain ⟨x, hx⟩ : ∃ x, ms[k]? = some x := ⟨_, List.getElem?_eq_getElem (by have := HNN.out.2; omega)⟩
      obtain ⟨g2, o2, rfl, hg2, hcc⟩ := HX2.out.resolve_left (fun e => by rw [e] at hx; simp at hx)
      obtain ⟨fk, fv, fx, fy⟩ := x
      obtain ⟨⟨⟨xa2, xn2, xc2, hfx⟩, ⟨ya2, yn2, yc2, hfy⟩⟩, hc6⟩ := hcc k _ hx
      simp only at hfx hfy
      subst hfx hfy
      have cw : ∀ r v, r < 6 → (gC ⟨fk, fv, .slice xa2 xn2 xc2, .slice ya2 yn2 yc2⟩)[r]? = some v → wr.cell? ⟨g2, o2 + k * 6 + r, none⟩ = some v := fun r v hr hv => by
        obtain ⟨_, _, _, _, _, hb, _⟩ := HI.out
        exact Below.cellS hb (Nat.le_refl _) ((hc6 r hr).trans hv)
      have g0 : wr.cell? ⟨g2, o2 + k * 6, none⟩ = some (.string fk) := cw 0 _ (by omega) rfl
      have g1 := cw 1 _ (by omega) rfl
      have g2' := cw 2 _ (by omega) rfl
      have g3 := cw 3 _ (by omega) rfl
      have g4 := cw 4 _ (by omega) rfl
      have g5 := cw 5 _ (by omega) rfl
      have HXK : Hid (ms.drop k = ⟨fk, fv, .slice xa2 xn2 xc2, .slice ya2 yn2 yc2⟩ :: ms.drop (k + 1)) := drop_at hx
      have HKF : Hid (∀ w', Calls Try.prog 40 #[.agg #[.string fk, .int .i64 fv.k, .int .i64 fv.n, .string fv.s, .slice xa2 xn2 xc2, .slice ya2 yn2 yc2]] w' fun en w'' => en = .returned (.string fk) ∧ Below w'.heap.size w' w'') := fun w' => keyOf40 ⟨fk, fv, .slice xa2 xn2 xc2, .slice ya2 yn2 yc2⟩ w'
      clear hcc hg2 hx hc6 cw
      have HIN : Hid (INp w.heap.size (n + m) wr.heap.size w ns ms k ⟨fk, fv, .slice xa2 xn2 xc2, .slice ya2 yn2 yc2⟩ u0 u7 (wr.alloc (.cells #[.string fk, .int .i64 fv.k, .int .i64 fv.n, .string fv.s, .slice xa2 xn2 xc2, .slice ya2 yn2 yc2] 59))) := by
        obtain ⟨os, acc, h1, rfl, h3, h4, h5, h6⟩ := HI.out
        have hlt : w.heap.size < wr.heap.size := (World.ownsRow.lt h3 w.heap.size rfl).2
        have b1 : Below wr.heap.size wr (wr.alloc (.cells #[.string fk, .int .i64 fv.k, .int .i64 fv.n, .string fv.s, .slice xa2 xn2 xc2, .slice ya2 yn2 yc2] 59)) := (Below.refl _ _).alloc (Nat.le_refl _) _
        exact ⟨os, acc, rfl, h1, h3.kept (grown_of_below b1) (.inr (by simp [Value.ownBlock])), h4.trans (b1.mono (by omega)), h5, h6, heap_new _ _, hlt⟩
      go_wp2_with fail
      generalize wr.alloc (.cells #[.string fk, .int .i64 fv.k, .int .i64 fv.n, .string fv.s, .slice xa2 xn2 xc2, .slice ya2 yn2 yc2] 59) = wb at *
      generalize wr.heap.size = bx at *
      clear g0 g1 g2' g3 g4 g5 HI
      go_loopw [0, 7] (fun ov av wq => Hid (INp w.heap.size (n + m) bx w ns ms k ⟨fk, fv, .slice xa2 xn2 xc2, .slice ya2 yn2 yc2⟩ ov av wq)) (fun ov _ _ => lenOf ov)
      case atStart => exact HIN.out
      case round =>
        clear HIN
        obtain ⟨os, acc, hav, hix⟩ := hrel.out
        clear hrel
        have HX0 := Lib.hid hix
        obtain ⟨oa, oc, hov, hoc, hon, hox⟩ := hix.1
        have hlen0 : acc.length + os.length + (ms.length - k) ≤ n + m := hix.2.2.2.2.1
        have hmm := HNN.out.2
        rw [hmm] at hlen0
        clear hix hmm
        subst hov hav
        generalize hal : acc.length = al at *
        have HAL := Lib.hid hal
        clear hal
        rcases os with _ | ⟨⟨ak, av, ax, ay⟩, os⟩
        · clear hox
          simp only [List.length_nil] at *
          go_upto_region 5 with fail
          refine wp_region_held_drew (S := fun _ => True) (by kernel_rfl) (trivial) (fun hHeld => ?_)
          refine wpAnyH_take (i := 0) (v := .slice oa 0 oc) rfl (by kernel_rfl) (by kernel_rfl) (by kernel_rfl) (fun _ _ _ h => h) (Or.inl ⟨by rfl, fun w hw => by go_simp⟩) hHeld ?_
          simp only [Act.put, List.getElem_toArray, List.getElem_cons_zero, List.setIfInBounds_toArray, List.set_cons_zero, List.set_cons_succ]
          refine wpAnyH_take (i := 1) (v := .int .i64 0) rfl (by kernel_rfl) (by kernel_rfl) (by kernel_rfl) (fun _ _ _ h => h) (Or.inl ⟨by rfl, fun w hw => by go_simp⟩) hHeld ?_
          simp only [Act.put, List.getElem_toArray, List.getElem_cons_zero, List.getElem_cons_succ, List.setIfInBounds_toArray, List.set_cons_zero, List.set_cons_succ]
          refine wpAnyH_take (i := 2) (v := .bool false) rfl (by kernel_rfl) (by kernel_rfl) (by kernel_rfl) (fun _ _ _ h => h) (Or.inl ⟨by rfl, fun w hw => by go_simp⟩) hHeld ?_
          simp only [Act.put, List.getElem_toArray, List.getElem_cons_zero, List.getElem_cons_succ, List.setIfInBounds_toArray, List.set_cons_zero, List.set_cons_succ]
          refine wpAnyH_take (i := 3) (v := .bool false) rfl (by kernel_rfl) (by kernel_rfl) (by kernel_rfl) (fun _ _ _ h => h) (Or.inl ⟨by rfl, fun w hw => by go_simp⟩) hHeld ?_
          simp only [Act.put, List.getElem_toArray, List.getElem_cons_zero, List.getElem_cons_succ, List.setIfInBounds_toArray, List.set_cons_zero, List.set_cons_succ]
          refine wpAnyH_take (i := 4) (v := undef) rfl (by kernel_rfl) (by kernel_rfl) (by kernel_rfl) (fun _ _ _ h => h) (Or.inr ⟨by rfl, rfl⟩) hHeld ?_
          simp only [Act.put, List.getElem_toArray, List.getElem_cons_zero, List.getElem_cons_succ, List.setIfInBounds_toArray, List.set_cons_zero, List.set_cons_succ]
          refine wpAnyH_take (i := 5) (v := undef) rfl (by kernel_rfl) (by kernel_rfl) (by kernel_rfl) (fun _ _ _ h => h) (Or.inr ⟨by rfl, rfl⟩) hHeld ?_
          simp only [Act.put, List.getElem_toArray, List.getElem_cons_zero, List.getElem_cons_succ, List.setIfInBounds_toArray, List.set_cons_zero, List.set_cons_succ]
          refine wpAnyH_take (i := 6) (v := undef) rfl (by kernel_rfl) (by kernel_rfl) (by kernel_rfl) (fun _ _ _ h => h) (Or.inr ⟨by rfl, rfl⟩) hHeld ?_
          simp only [Act.put, List.getElem_toArray, List.getElem_cons_zero, List.getElem_cons_succ, List.setIfInBounds_toArray, List.set_cons_zero, List.set_cons_succ]
          refine wpAnyH_take (i := 7) (v := undef) rfl (by kernel_rfl) (by kernel_rfl) (by kernel_rfl) (fun _ _ _ h => h) (Or.inr ⟨by rfl, rfl⟩) hHeld ?_
          simp only [Act.put, List.getElem_toArray, List.getElem_cons_zero, List.getElem_cons_succ, List.setIfInBounds_toArray, List.set_cons_zero, List.set_cons_succ]
          refine wpAnyH_take (i := 8) (v := undef) rfl (by kernel_rfl) (by kernel_rfl) (by kernel_rfl) (fun _ _ _ h => h) (Or.inr ⟨by rfl, rfl⟩) hHeld ?_
          simp only [Act.put, List.getElem_toArray, List.getElem_cons_zero, List.getElem_cons_succ, List.setIfInBounds_toArray, List.set_cons_zero, List.set_cons_succ]
          refine wpAnyH_take (i := 9) (v := undef) rfl (by kernel_rfl) (by kernel_rfl) (by kernel_rfl) (fun _ _ _ h => h) (Or.inr ⟨by rfl, rfl⟩) hHeld ?_
          simp only [Act.put, List.getElem_toArray, List.getElem_cons_zero, List.getElem_cons_succ, List.setIfInBounds_toArray, List.set_cons_zero, List.set_cons_succ]
          refine wpAnyH_take (i := 10) (v := undef) rfl (by kernel_rfl) (by kernel_rfl) (by kernel_rfl) (fun _ _ _ h => h) (Or.inr ⟨by rfl, rfl⟩) hHeld ?_
          simp only [Act.put, List.getElem_toArray, List.getElem_cons_zero, List.getElem_cons_succ, List.setIfInBounds_toArray, List.set_cons_zero, List.set_cons_succ]
          refine wpAnyH_take (i := 11) (v := undef) rfl (by kernel_rfl) (by kernel_rfl) (by kernel_rfl) (fun _ _ _ h => h) (Or.inr ⟨by rfl, rfl⟩) hHeld ?_
          simp only [Act.put, List.getElem_toArray, List.getElem_cons_zero, List.getElem_cons_succ, List.setIfInBounds_toArray, List.set_cons_zero, List.set_cons_succ]
          refine wpAnyH_take (i := 12) (v := undef) rfl (by kernel_rfl) (by kernel_rfl) (by kernel_rfl) (fun _ _ _ h => h) (Or.inr ⟨by rfl, rfl⟩) hHeld ?_
          simp only [Act.put, List.getElem_toArray, List.getElem_cons_zero, List.getElem_cons_succ, List.setIfInBounds_toArray, List.set_cons_zero, List.set_cons_succ]
          refine wpAnyH_take (i := 13) (v := .bool false) rfl (by kernel_rfl) (by kernel_rfl) (by kernel_rfl) (fun _ _ _ h => h) (Or.inl ⟨by rfl, fun w hw => by go_simp⟩) hHeld ?_
          simp only [Act.put, List.getElem_toArray, List.getElem_cons_zero, List.getElem_cons_succ, List.setIfInBounds_toArray, List.set_cons_zero, List.set_cons_succ]
          refine wpAnyH_done (by kernel_rfl) ?_ _
          clear hHeld
          have HN : Hid (Below wr.heap.size wr wr.drew) := belowDrew1 wr
          generalize wr.drew = wn at *
          have HX : Hid (IXp w.heap.size (n + m) bx w ns ms k ⟨fk, fv, .slice xa2 xn2 xc2, .slice ya2 yn2 yc2⟩ [] acc (.slice oa 0 oc) wn) := HX0.out.keep HN.out
          clear HX0 HN
          go_upto_region 8 with fail
          refine wp_region_held_drew (S := fun _ => True) (by kernel_rfl) (trivial) (fun hHeld => ?_)
          refine wpAnyH_take (i := 0) (v := .slice oa 0 oc) rfl (by kernel_rfl) (by kernel_rfl) (by kernel_rfl) (fun _ _ _ h => h) (Or.inl ⟨by rfl, fun w hw => by go_simp⟩) hHeld ?_
          simp only [Act.put, List.getElem_toArray, List.getElem_cons_zero, List.setIfInBounds_toArray, List.set_cons_zero, List.set_cons_succ]
          refine wpAnyH_take (i := 1) (v := .int .i64 0) rfl (by kernel_rfl) (by kernel_rfl) (by kernel_rfl) (fun _ _ _ h => h) (Or.inl ⟨by rfl, fun w hw => by go_simp⟩) hHeld ?_
          simp only [Act.put, List.getElem_toArray, List.getElem_cons_zero, List.getElem_cons_succ, List.setIfInBounds_toArray, List.set_cons_zero, List.set_cons_succ]
          refine wpAnyH_take (i := 2) (v := .bool false) rfl (by kernel_rfl) (by kernel_rfl) (by kernel_rfl) (fun _ _ _ h => h) (Or.inl ⟨by rfl, fun w hw => by go_simp⟩) hHeld ?_
          simp only [Act.put, List.getElem_toArray, List.getElem_cons_zero, List.getElem_cons_succ, List.setIfInBounds_toArray, List.set_cons_zero, List.set_cons_succ]
          refine wpAnyH_take (i := 3) (v := .bool false) rfl (by kernel_rfl) (by kernel_rfl) (by kernel_rfl) (fun _ _ _ h => h) (Or.inl ⟨by rfl, fun w hw => by go_simp⟩) hHeld ?_
          simp only [Act.put, List.getElem_toArray, List.getElem_cons_zero, List.getElem_cons_succ, List.setIfInBounds_toArray, List.set_cons_zero, List.set_cons_succ]
          refine wpAnyH_take (i := 4) (v := undef) rfl (by kernel_rfl) (by kernel_rfl) (by kernel_rfl) (fun _ _ _ h => h) (Or.inr ⟨by rfl, rfl⟩) hHeld ?_
          simp only [Act.put, List.getElem_toArray, List.getElem_cons_zero, List.getElem_cons_succ, List.setIfInBounds_toArray, List.set_cons_zero, List.set_cons_succ]
          refine wpAnyH_take (i := 5) (v := undef) rfl (by kernel_rfl) (by kernel_rfl) (by kernel_rfl) (fun _ _ _ h => h) (Or.inr ⟨by rfl, rfl⟩) hHeld ?_
          simp only [Act.put, List.getElem_toArray, List.getElem_cons_zero, List.getElem_cons_succ, List.setIfInBounds_toArray, List.set_cons_zero, List.set_cons_succ]
          refine wpAnyH_take (i := 6) (v := undef) rfl (by kernel_rfl) (by kernel_rfl) (by kernel_rfl) (fun _ _ _ h => h) (Or.inr ⟨by rfl, rfl⟩) hHeld ?_
          simp only [Act.put, List.getElem_toArray, List.getElem_cons_zero, List.getElem_cons_succ, List.setIfInBounds_toArray, List.set_cons_zero, List.set_cons_succ]
          refine wpAnyH_take (i := 7) (v := undef) rfl (by kernel_rfl) (by kernel_rfl) (by kernel_rfl) (fun _ _ _ h => h) (Or.inr ⟨by rfl, rfl⟩) hHeld ?_
          simp only [Act.put, List.getElem_toArray, List.getElem_cons_zero, List.getElem_cons_succ, List.setIfInBounds_toArray, List.set_cons_zero, List.set_cons_succ]
          refine wpAnyH_take (i := 8) (v := undef) rfl (by kernel_rfl) (by kernel_rfl) (by kernel_rfl) (fun _ _ _ h => h) (Or.inr ⟨by rfl, rfl⟩) hHeld ?_
          simp only [Act.put, List.getElem_toArray, List.getElem_cons_zero, List.getElem_cons_succ, List.setIfInBounds_toArray, List.set_cons_zero, List.set_cons_succ]
          refine wpAnyH_take (i := 9) (v := undef) rfl (by kernel_rfl) (by kernel_rfl) (by kernel_rfl) (fun _ _ _ h => h) (Or.inr ⟨by rfl, rfl⟩) hHeld ?_
          simp only [Act.put, List.getElem_toArray, List.getElem_cons_zero, List.getElem_cons_succ, List.setIfInBounds_toArray, List.set_cons_zero, List.set_cons_succ]
          refine wpAnyH_take (i := 10) (v := undef) rfl (by kernel_rfl) (by kernel_rfl) (by kernel_rfl) (fun _ _ _ h => h) (Or.inr ⟨by rfl, rfl⟩) hHeld ?_
          simp only [Act.put, List.getElem_toArray, List.getElem_cons_zero, List.getElem_cons_succ, List.setIfInBounds_toArray, List.set_cons_zero, List.set_cons_succ]
          refine wpAnyH_take (i := 11) (v := undef) rfl (by kernel_rfl) (by kernel_rfl) (by kernel_rfl) (fun _ _ _ h => h) (Or.inr ⟨by rfl, rfl⟩) hHeld ?_
          simp only [Act.put, List.getElem_toArray, List.getElem_cons_zero, List.getElem_cons_succ, List.setIfInBounds_toArray, List.set_cons_zero, List.set_cons_succ]
          refine wpAnyH_take (i := 12) (v := undef) rfl (by kernel_rfl) (by kernel_rfl) (by kernel_rfl) (fun _ _ _ h => h) (Or.inr ⟨by rfl, rfl⟩) hHeld ?_
          simp only [Act.put, List.getElem_toArray, List.getElem_cons_zero, List.getElem_cons_succ, List.setIfInBounds_toArray, List.set_cons_zero, List.set_cons_succ]
          refine wpAnyH_take (i := 13) (v := .bool false) rfl (by kernel_rfl) (by kernel_rfl) (by kernel_rfl) (fun _ _ _ h => h) (Or.inl ⟨by rfl, fun w hw => by go_simp⟩) hHeld ?_
          simp only [Act.put, List.getElem_toArray, List.getElem_cons_zero, List.getElem_cons_succ, List.setIfInBounds_toArray, List.set_cons_zero, List.set_cons_succ]
          refine wpAnyH_done (by kernel_rfl) ?_ _
          clear hHeld
          have HN : Hid (Below wn.heap.size wn wn.drew) := belowDrew1 wn
          generalize wn.drew = wm at *
          have HY : Hid (IXp w.heap.size (n + m) bx w ns ms k ⟨fk, fv, .slice xa2 xn2 xc2, .slice ya2 yn2 yc2⟩ [] acc _ wm) := HX.out.keep HN.out
          clear HX HN
          obtain ⟨x0, x1, x2, x3, x4, x5⟩ := HY.out.cells
          have HOW : Hid (wm.ownsRow w.heap.size 59 6 (.slice (some ⟨w.heap.size, 0, none⟩) al (n + m)) al (gCs acc)) := by have := HY.out.2.1; rw [HAL.out] at this; exact this
          go_wp2_with (at_builtin; refine wpList_append_fits _ rfl _ _ 33 rfl w.heap.size 59 i0 6 Try.underlying33 hi hz1 w.heap.size al (n + m) (gCs acc) rfl (by exact (HOW.out.alloc _)) ⟨_, 0, none⟩ 1 1 (gCs [⟨fk, fv, .slice xa2 xn2 xc2, .slice ya2 yn2 yc2⟩]) rfl rfl (by exact World.news_of_block (heap_new _ _)) (gCs_one (by intro e he; simp at he; subst he; exact ⟨⟨_, _, _, rfl⟩, ⟨_, _, _, rfl⟩⟩)) (by omega) ?_; intro wa hoa hga)
          have HST : Hid (STp w.heap.size (n + m) w ns ms (k + 1) (.slice oa 0 oc) (.slice (some ⟨w.heap.size, 0, none⟩) (al + 1) (n + m)) wa) := by
            have h9 := HY.out.next (os2 := []) HXK.out (by rw [mgP, mgP, mg_none, mg_none]) (by simp) (by have := HNN.out.2; omega) ((Below.refl _ _).alloc (Nat.le_refl _) _) (by rw [HAL.out]; exact hoa) hga HY.out.1
            rw [HAL.out] at h9; exact h9
          clear hoa hga HOW HY x0 x1 x2 x3 x4 x5
          go_wp2
          exact ⟨⟨k + 1, by omega, by go_num, HST⟩, by simp [intOf]; omega⟩
        · obtain ⟨g, o, rfl, hg, hcc⟩ := hox.resolve_left (fun e => by cases e)
          obtain ⟨⟨⟨xa, xn, xc, hax⟩, ⟨ya, yn, yc, hay⟩⟩, hc6⟩ := hcc 0 _ rfl
          simp only at hax hay
          subst hax hay
          have HKA : Hid (∀ w', Calls Try.prog 40 #[.agg #[.string ak, .int .i64 av.k, .int .i64 av.n, .string av.s, .slice xa xn xc, .slice ya yn yc]] w' fun en w'' => en = .returned (.string ak) ∧ Below w'.heap.size w' w'') := fun w' => keyOf40 ⟨ak, av, .slice xa xn xc, .slice ya yn yc⟩ w'
          have HCC : Hid (∀ wq, IXp w.heap.size (n + m) bx w ns ms k ⟨fk, fv, .slice xa2 xn2 xc2, .slice ya2 yn2 yc2⟩ (⟨ak, av, .slice xa xn xc, .slice ya yn yc⟩ :: os) acc (.slice (some ⟨g, o, none⟩) (os.length + 1) oc) wq → SBp bx g o ⟨fk, fv, .slice xa2 xn2 xc2, .slice ya2 yn2 yc2⟩ ⟨ak, av, .slice xa xn xc, .slice ya yn yc⟩ wq) := fun wq h => by
            have cw : ∀ r v, r < 6 → (gC ⟨ak, av, .slice xa xn xc, .slice ya yn yc⟩)[r]? = some v → wq.cell? ⟨g, o + r, none⟩ = some v := fun r v hr hv => by
              have h9 := hc6 r hr
              simp only [Nat.zero_mul, Nat.add_zero] at h9
              exact Below.cellS h.2.2.1 (Nat.le_refl _) (h9.trans hv)
            exact ⟨h.cells, cw 0 _ (by omega) rfl, cw 1 _ (by omega) rfl, cw 2 _ (by omega) rfl, cw 3 _ (by omega) rfl, cw 4 _ (by omega) rfl, cw 5 _ (by omega) rfl⟩
          clear hcc hc6 hox hg hon
          simp only [List.length_cons] at *
          have HSB : Hid (SBp bx g o ⟨fk, fv, .slice xa2 xn2 xc2, .slice ya2 yn2 yc2⟩ ⟨ak, av, .slice xa xn xc, .slice ya yn yc⟩ wr) := HCC.out wr HX0.out
          generalize hol : os.length + 1 = ol at *
          have HOL := Lib.hid hol
          have hol0 : 0 < ol := by omega
          have hol2 : ¬ ol = 0 := by omega
          clear hol
          cases hll : Op.bytesLess ak.toList fk.toList with
          | true =>
            have HLT : Hid (ltP ⟨ak, av, .slice xa xn xc, .slice ya yn yc⟩ ⟨fk, fv, .slice xa2 xn2 xc2, .slice ya2 yn2 yc2⟩ = true) := hll
            go_upto_region 5 with fail
            refine wp_region_held_drew (S := SBp bx g o ⟨fk, fv, .slice xa2 xn2 xc2, .slice ya2 yn2 yc2⟩ ⟨ak, av, .slice xa xn xc, .slice ya yn yc⟩) (by kernel_rfl) (HSB.out.keep (belowDrew1 wr)) (fun hHeld => ?_)
            refine wpAnyH_take (i := 0) (v := .slice (some ⟨g, o, none⟩) ol oc) rfl (by kernel_rfl) (by kernel_rfl) (by kernel_rfl) (fun _ _ _ h => h) (Or.inl ⟨by rfl, fun w hw => by go_simp⟩) hHeld ?_
            simp only [Act.put, List.getElem_toArray, List.getElem_cons_zero, List.setIfInBounds_toArray, List.set_cons_zero, List.set_cons_succ]
            refine wpAnyH_take (i := 1) (v := .int .i64 (ol : Int)) rfl (by kernel_rfl) (by kernel_rfl) (by kernel_rfl) (fun _ _ _ h => h) (Or.inl ⟨by rfl, fun w hw => by go_simp⟩) hHeld ?_
            simp only [Act.put, List.getElem_toArray, List.getElem_cons_zero, List.getElem_cons_succ, List.setIfInBounds_toArray, List.set_cons_zero, List.set_cons_succ]
            refine wpAnyH_take (i := 2) (v := .bool true) rfl (by kernel_rfl) (by kernel_rfl) (by kernel_rfl) (fun _ _ _ h => h) (Or.inl ⟨by rfl, fun w hw => by go_simp⟩) hHeld ?_
            simp only [Act.put, List.getElem_toArray, List.getElem_cons_zero, List.getElem_cons_succ, List.setIfInBounds_toArray, List.set_cons_zero, List.set_cons_succ]
            refine wpAnyH_take (i := 3) (v := .bool true) rfl (by kernel_rfl) (by kernel_rfl) (by kernel_rfl) (fun _ _ _ h => h) (Or.inl ⟨by rfl, fun w hw => by go_simp⟩) hHeld ?_
            simp only [Act.put, List.getElem_toArray, List.getElem_cons_zero, List.getElem_cons_succ, List.setIfInBounds_toArray, List.set_cons_zero, List.set_cons_succ]
            refine wpAnyH_take (i := 4) (v := .func (Fn.func 40) #[] #[]) rfl (by kernel_rfl) (by kernel_rfl) (by kernel_rfl) (fun _ _ _ h => h) (Or.inl ⟨by rfl, fun w hw => by go_simp⟩) hHeld ?_
            simp only [Act.put, List.getElem_toArray, List.getElem_cons_zero, List.getElem_cons_succ, List.setIfInBounds_toArray, List.set_cons_zero, List.set_cons_succ]
            refine wpAnyH_take (i := 5) (v := .slice (some ⟨g, o, none⟩) ol oc) rfl (by kernel_rfl) (by kernel_rfl) (by kernel_rfl) (fun _ _ _ h => h) (Or.inl ⟨by rfl, fun w hw => by go_simp⟩) hHeld ?_
            simp only [Act.put, List.getElem_toArray, List.getElem_cons_zero, List.getElem_cons_succ, List.setIfInBounds_toArray, List.set_cons_zero, List.set_cons_succ]
            refine wpAnyH_take (i := 6) (v := .pointer (some ⟨g, o, none⟩)) rfl (by kernel_rfl) (by kernel_rfl) (by kernel_rfl) (fun _ _ _ h => h) (Or.inl ⟨by rfl, fun w hw => by go_simp⟩) hHeld ?_
            simp only [Act.put, List.getElem_toArray, List.getElem_cons_zero, List.getElem_cons_succ, List.setIfInBounds_toArray, List.set_cons_zero, List.set_cons_succ]
            refine wpAnyH_take (i := 7) (v := .agg #[.string ak, .int .i64 av.k, .int .i64 av.n, .string av.s, .slice xa xn xc, .slice ya yn yc]) rfl (by kernel_rfl) (by kernel_rfl) (by kernel_rfl) (fun _ _ _ h => h) (Or.inl ⟨by rfl, fun w hw => by obtain ⟨⟨s0, s1, s2, s3, s4, s5⟩, t0, t1, t2, t3, t4, t5⟩ := hw; go_simp⟩) hHeld ?_
            simp only [Act.put, List.getElem_toArray, List.getElem_cons_zero, List.getElem_cons_succ, List.setIfInBounds_toArray, List.set_cons_zero, List.set_cons_succ]
            refine wpAnyH_take (i := 9) (v := .func (Fn.func 40) #[] #[]) rfl (by kernel_rfl) (by kernel_rfl) (by kernel_rfl) (fun _ _ _ h => h) (Or.inl ⟨by rfl, fun w hw => by go_simp⟩) hHeld ?_
            simp only [Act.put, List.getElem_toArray, List.getElem_cons_zero, List.getElem_cons_succ, List.setIfInBounds_toArray, List.set_cons_zero, List.set_cons_succ]
            refine wpAnyH_take (i := 10) (v := .agg #[.string fk, .int .i64 fv.k, .int .i64 fv.n, .string fv.s, .slice xa2 xn2 xc2, .slice ya2 yn2 yc2]) rfl (by kernel_rfl) (by kernel_rfl) (by kernel_rfl) (fun _ _ _ h => h) (Or.inl ⟨by rfl, fun w hw => by obtain ⟨⟨s0, s1, s2, s3, s4, s5⟩, t0, t1, t2, t3, t4, t5⟩ := hw; go_simp⟩) hHeld ?_
            simp only [Act.put, List.getElem_toArray, List.getElem_cons_zero, List.getElem_cons_succ, List.setIfInBounds_toArray, List.set_cons_zero, List.set_cons_succ]
            refine wpAnyH_ready (rs := [8]) (by kernel_rfl) (by simp) ?_
            refine AllReadyH.cons (o := _) rfl (fun K hK => ?_) AllReadyH.nil
            go_simp
            refine (HKA.out wr.drew).mono ?_
            rintro e1 wn1 ⟨rfl, bn1⟩
            have HN1 : Hid (Below wr.heap.size wr wn1) := (belowDrew1 wr).trans bn1
            have hS1 := HSB.out.keep HN1.out
            clear bn1
            go_wp2_with fail
            refine hK _ _ hS1 (fun hHeld => ?_)
            clear hK K hS1
            refine wpAnyH_ready (rs := [11]) (by kernel_rfl) (by simp) ?_
            refine AllReadyH.cons (o := _) rfl (fun K hK => ?_) AllReadyH.nil
            go_simp
            refine (HKF.out wn1).mono ?_
            rintro e2 wn ⟨rfl, bn2⟩
            have HN : Hid (Below wr.heap.size wr wn) := HN1.out.trans (bn2.mono HN1.out.size)
            have hS2 := HSB.out.keep HN.out
            clear bn2 HN1
            go_wp2_with fail
            refine hK _ _ hS2 (fun hHeld => ?_)
            clear hK K hS2
            refine wpAnyH_take (i := 12) (v := .bool true) rfl (by kernel_rfl) (by kernel_rfl) (by kernel_rfl) (fun _ _ _ h => h) (Or.inl ⟨by rfl, fun w hw => by go_simp⟩) hHeld ?_
            simp only [Act.put, List.getElem_toArray, List.getElem_cons_zero, List.getElem_cons_succ, List.setIfInBounds_toArray, List.set_cons_zero, List.set_cons_succ]
            refine wpAnyH_take (i := 13) (v := .bool true) rfl (by kernel_rfl) (by kernel_rfl) (by kernel_rfl) (fun _ _ _ h => h) (Or.inl ⟨by rfl, fun w hw => by go_simp⟩) hHeld ?_
            simp only [Act.put, List.getElem_toArray, List.getElem_cons_zero, List.getElem_cons_succ, List.setIfInBounds_toArray, List.set_cons_zero, List.set_cons_succ]
            refine wpAnyH_done (by kernel_rfl) ?_ _
            clear hHeld
            clear HSB hll
            have HX : Hid (IXp w.heap.size (n + m) bx w ns ms k ⟨fk, fv, .slice xa2 xn2 xc2, .slice ya2 yn2 yc2⟩ (⟨ak, av, .slice xa xn xc, .slice ya yn yc⟩ :: os) acc (.slice (some ⟨g, o, none⟩) ol oc) wn) := HX0.out.keep HN.out
            have HY := HCC.out wn HX.out
            clear HX0 HN
            obtain ⟨-, y0, y1, y2, y3, y4, y5⟩ := HY
            have HOW : Hid (wn.ownsRow w.heap.size 59 6 (.slice (some ⟨w.heap.size, 0, none⟩) al (n + m)) al (gCs acc)) := by have := HX.out.2.1; rw [HAL.out] at this; exact this
            go_wp2_with (at_builtin; refine wpList_append_fits _ rfl _ _ 33 rfl w.heap.size 59 i0 6 Try.underlying33 hi hz1 w.heap.size al (n + m) (gCs acc) rfl (by exact (HOW.out.alloc _)) ⟨_, 0, none⟩ 1 1 (gCs [⟨ak, av, .slice xa xn xc, .slice ya yn yc⟩]) rfl rfl (by exact World.news_of_block (heap_new _ _)) (gCs_one (by intro e he; simp at he; subst he; exact ⟨⟨_, _, _, rfl⟩, ⟨_, _, _, rfl⟩⟩)) (by omega) ?_; intro wa hoa hga)
            have HI2 : Hid (IXp w.heap.size (n + m) bx w ns ms k ⟨fk, fv, .slice xa2 xn2 xc2, .slice ya2 yn2 yc2⟩ os (acc ++ [⟨ak, av, .slice xa xn xc, .slice ya yn yc⟩]) (.slice (if oc = 1 then some ⟨g, o, none⟩ else some ⟨g, o + 6, none⟩) (ol - 1) (oc - 1)) wa) := HX.out.put HLT.out HXK.out ((Below.refl _ _).alloc (Nat.le_refl _) _) (by rw [HAL.out]; exact hoa) hga (SP.tl HX.out.1)
            clear hoa hga HOW HX y0 y1 y2 y3 y4 y5 HLT
            go_wp2
            exact ⟨⟨os, acc ++ [⟨ak, av, .slice xa xn xc, .slice ya yn yc⟩], by simp [HAL.out], HI2.out⟩, by simp [lenOf]; omega⟩
          | false =>
            have HLT : Hid (ltP ⟨ak, av, .slice xa xn xc, .slice ya yn yc⟩ ⟨fk, fv, .slice xa2 xn2 xc2, .slice ya2 yn2 yc2⟩ = false) := hll
            go_upto_region 5 with fail
            refine wp_region_held_drew (S := SBp bx g o ⟨fk, fv, .slice xa2 xn2 xc2, .slice ya2 yn2 yc2⟩ ⟨ak, av, .slice xa xn xc, .slice ya yn yc⟩) (by kernel_rfl) (HSB.out.keep (belowDrew1 wr)) (fun hHeld => ?_)
            refine wpAnyH_take (i := 0) (v := .slice (some ⟨g, o, none⟩) ol oc) rfl (by kernel_rfl) (by kernel_rfl) (by kernel_rfl) (fun _ _ _ h => h) (Or.inl ⟨by rfl, fun w hw => by go_simp⟩) hHeld ?_
            simp only [Act.put, List.getElem_toArray, List.getElem_cons_zero, List.setIfInBounds_toArray, List.set_cons_zero, List.set_cons_succ]
            refine wpAnyH_take (i := 1) (v := .int .i64 (ol : Int)) rfl (by kernel_rfl) (by kernel_rfl) (by kernel_rfl) (fun _ _ _ h => h) (Or.inl ⟨by rfl, fun w hw => by go_simp⟩) hHeld ?_
            simp only [Act.put, List.getElem_toArray, List.getElem_cons_zero, List.getElem_cons_succ, List.setIfInBounds_toArray, List.set_cons_zero, List.set_cons_succ]
            refine wpAnyH_take (i := 2) (v := .bool true) rfl (by kernel_rfl) (by kernel_rfl) (by kernel_rfl) (fun _ _ _ h => h) (Or.inl ⟨by rfl, fun w hw => by go_simp⟩) hHeld ?_
            simp only [Act.put, List.getElem_toArray, List.getElem_cons_zero, List.getElem_cons_succ, List.setIfInBounds_toArray, List.set_cons_zero, List.set_cons_succ]
            refine wpAnyH_take (i := 3) (v := .bool true) rfl (by kernel_rfl) (by kernel_rfl) (by kernel_rfl) (fun _ _ _ h => h) (Or.inl ⟨by rfl, fun w hw => by go_simp⟩) hHeld ?_
            simp only [Act.put, List.getElem_toArray, List.getElem_cons_zero, List.getElem_cons_succ, List.setIfInBounds_toArray, List.set_cons_zero, List.set_cons_succ]
            refine wpAnyH_take (i := 4) (v := .func (Fn.func 40) #[] #[]) rfl (by kernel_rfl) (by kernel_rfl) (by kernel_rfl) (fun _ _ _ h => h) (Or.inl ⟨by rfl, fun w hw => by go_simp⟩) hHeld ?_
            simp only [Act.put, List.getElem_toArray, List.getElem_cons_zero, List.getElem_cons_succ, List.setIfInBounds_toArray, List.set_cons_zero, List.set_cons_succ]
            refine wpAnyH_take (i := 5) (v := .slice (some ⟨g, o, none⟩) ol oc) rfl (by kernel_rfl) (by kernel_rfl) (by kernel_rfl) (fun _ _ _ h => h) (Or.inl ⟨by rfl, fun w hw => by go_simp⟩) hHeld ?_
            simp only [Act.put, List.getElem_toArray, List.getElem_cons_zero, List.getElem_cons_succ, List.setIfInBounds_toArray, List.set_cons_zero, List.set_cons_succ]
            refine wpAnyH_take (i := 6) (v := .pointer (some ⟨g, o, none⟩)) rfl (by kernel_rfl) (by kernel_rfl) (by kernel_rfl) (fun _ _ _ h => h) (Or.inl ⟨by rfl, fun w hw => by go_simp⟩) hHeld ?_
            simp only [Act.put, List.getElem_toArray, List.getElem_cons_zero, List.getElem_cons_succ, List.setIfInBounds_toArray, List.set_cons_zero, List.set_cons_succ]
            refine wpAnyH_take (i := 7) (v := .agg #[.string ak, .int .i64 av.k, .int .i64 av.n, .string av.s, .slice xa xn xc, .slice ya yn yc]) rfl (by kernel_rfl) (by kernel_rfl) (by kernel_rfl) (fun _ _ _ h => h) (Or.inl ⟨by rfl, fun w hw => by obtain ⟨⟨s0, s1, s2, s3, s4, s5⟩, t0, t1, t2, t3, t4, t5⟩ := hw; go_simp⟩) hHeld ?_
            simp only [Act.put, List.getElem_toArray, List.getElem_cons_zero, List.getElem_cons_succ, List.setIfInBounds_toArray, List.set_cons_zero, List.set_cons_succ]
            refine wpAnyH_take (i := 9) (v := .func (Fn.func 40) #[] #[]) rfl (by kernel_rfl) (by kernel_rfl) (by kernel_rfl) (fun _ _ _ h => h) (Or.inl ⟨by rfl, fun w hw => by go_simp⟩) hHeld ?_
            simp only [Act.put, List.getElem_toArray, List.getElem_cons_zero, List.getElem_cons_succ, List.setIfInBounds_toArray, List.set_cons_zero, List.set_cons_succ]
            refine wpAnyH_take (i := 10) (v := .agg #[.string fk, .int .i64 fv.k, .int .i64 fv.n, .string fv.s, .slice xa2 xn2 xc2, .slice ya2 yn2 yc2]) rfl (by kernel_rfl) (by kernel_rfl) (by kernel_rfl) (fun _ _ _ h => h) (Or.inl ⟨by rfl, fun w hw => by obtain ⟨⟨s0, s1, s2, s3, s4, s5⟩, t0, t1, t2, t3, t4, t5⟩ := hw; go_simp⟩) hHeld ?_
            simp only [Act.put, List.getElem_toArray, List.getElem_cons_zero, List.getElem_cons_succ, List.setIfInBounds_toArray, List.set_cons_zero, List.set_cons_succ]
            refine wpAnyH_ready (rs := [8]) (by kernel_rfl) (by simp) ?_
            refine AllReadyH.cons (o := _) rfl (fun K hK => ?_) AllReadyH.nil
            go_simp
            refine (HKA.out wr.drew).mono ?_
            rintro e1 wn1 ⟨rfl, bn1⟩
            have HN1 : Hid (Below wr.heap.size wr wn1) := (belowDrew1 wr).trans bn1
            have hS1 := HSB.out.keep HN1.out
            clear bn1
            go_wp2_with fail
            refine hK _ _ hS1 (fun hHeld => ?_)
            clear hK K hS1
            refine wpAnyH_ready (rs := [11]) (by kernel_rfl) (by simp) ?_
            refine AllReadyH.cons (o := _) rfl (fun K hK => ?_) AllReadyH.nil
            go_simp
            refine (HKF.out wn1).mono ?_
            rintro e2 wn ⟨rfl, bn2⟩
            have HN : Hid (Below wr.heap.size wr wn) := HN1.out.trans (bn2.mono HN1.out.size)
            have hS2 := HSB.out.keep HN.out
            clear bn2 HN1
            go_wp2_with fail
            refine hK _ _ hS2 (fun hHeld => ?_)
            clear hK K hS2
            refine wpAnyH_take (i := 12) (v := .bool false) rfl (by kernel_rfl) (by kernel_rfl) (by kernel_rfl) (fun _ _ _ h => h) (Or.inl ⟨by rfl, fun w hw => by go_simp⟩) hHeld ?_
            simp only [Act.put, List.getElem_toArray, List.getElem_cons_zero, List.getElem_cons_succ, List.setIfInBounds_toArray, List.set_cons_zero, List.set_cons_succ]
            refine wpAnyH_take (i := 13) (v := .bool false) rfl (by kernel_rfl) (by kernel_rfl) (by kernel_rfl) (fun _ _ _ h => h) (Or.inl ⟨by rfl, fun w hw => by go_simp⟩) hHeld ?_
            simp only [Act.put, List.getElem_toArray, List.getElem_cons_zero, List.getElem_cons_succ, List.setIfInBounds_toArray, List.set_cons_zero, List.set_cons_succ]
            refine wpAnyH_done (by kernel_rfl) ?_ _
            clear hHeld
            clear HSB
            have HX : Hid (IXp w.heap.size (n + m) bx w ns ms k ⟨fk, fv, .slice xa2 xn2 xc2, .slice ya2 yn2 yc2⟩ (⟨ak, av, .slice xa xn xc, .slice ya yn yc⟩ :: os) acc (.slice (some ⟨g, o, none⟩) ol oc) wn) := HX0.out.keep HN.out
            clear HX0 HN
            cases hee : (ak.toList == fk.toList) with
            | true =>
              have HEQ : Hid (eqP ⟨ak, av, .slice xa xn xc, .slice ya yn yc⟩ ⟨fk, fv, .slice xa2 xn2 xc2, .slice ya2 yn2 yc2⟩ = true) := hee
              go_upto_region 8 with fail
              have HSB : Hid (SBp bx g o ⟨fk, fv, .slice xa2 xn2 xc2, .slice ya2 yn2 yc2⟩ ⟨ak, av, .slice xa xn xc, .slice ya yn yc⟩ wn) := HCC.out wn HX.out
              refine wp_region_held_drew (S := SBp bx g o ⟨fk, fv, .slice xa2 xn2 xc2, .slice ya2 yn2 yc2⟩ ⟨ak, av, .slice xa xn xc, .slice ya yn yc⟩) (by kernel_rfl) (HSB.out.keep (belowDrew1 wn)) (fun hHeld => ?_)
              refine wpAnyH_take (i := 0) (v := .slice (some ⟨g, o, none⟩) ol oc) rfl (by kernel_rfl) (by kernel_rfl) (by kernel_rfl) (fun _ _ _ h => h) (Or.inl ⟨by rfl, fun w hw => by go_simp⟩) hHeld ?_
              simp only [Act.put, List.getElem_toArray, List.getElem_cons_zero, List.setIfInBounds_toArray, List.set_cons_zero, List.set_cons_succ]
              refine wpAnyH_take (i := 1) (v := .int .i64 (ol : Int)) rfl (by kernel_rfl) (by kernel_rfl) (by kernel_rfl) (fun _ _ _ h => h) (Or.inl ⟨by rfl, fun w hw => by go_simp⟩) hHeld ?_
              simp only [Act.put, List.getElem_toArray, List.getElem_cons_zero, List.getElem_cons_succ, List.setIfInBounds_toArray, List.set_cons_zero, List.set_cons_succ]
              refine wpAnyH_take (i := 2) (v := .bool true) rfl (by kernel_rfl) (by kernel_rfl) (by kernel_rfl) (fun _ _ _ h => h) (Or.inl ⟨by rfl, fun w hw => by go_simp⟩) hHeld ?_
              simp only [Act.put, List.getElem_toArray, List.getElem_cons_zero, List.getElem_cons_succ, List.setIfInBounds_toArray, List.set_cons_zero, List.set_cons_succ]
              refine wpAnyH_take (i := 3) (v := .bool true) rfl (by kernel_rfl) (by kernel_rfl) (by kernel_rfl) (fun _ _ _ h => h) (Or.inl ⟨by rfl, fun w hw => by go_simp⟩) hHeld ?_
              simp only [Act.put, List.getElem_toArray, List.getElem_cons_zero, List.getElem_cons_succ, List.setIfInBounds_toArray, List.set_cons_zero, List.set_cons_succ]
              refine wpAnyH_take (i := 4) (v := .func (Fn.func 40) #[] #[]) rfl (by kernel_rfl) (by kernel_rfl) (by kernel_rfl) (fun _ _ _ h => h) (Or.inl ⟨by rfl, fun w hw => by go_simp⟩) hHeld ?_
              simp only [Act.put, List.getElem_toArray, List.getElem_cons_zero, List.getElem_cons_succ, List.setIfInBounds_toArray, List.set_cons_zero, List.set_cons_succ]
              refine wpAnyH_take (i := 5) (v := .slice (some ⟨g, o, none⟩) ol oc) rfl (by kernel_rfl) (by kernel_rfl) (by kernel_rfl) (fun _ _ _ h => h) (Or.inl ⟨by rfl, fun w hw => by go_simp⟩) hHeld ?_
              simp only [Act.put, List.getElem_toArray, List.getElem_cons_zero, List.getElem_cons_succ, List.setIfInBounds_toArray, List.set_cons_zero, List.set_cons_succ]
              refine wpAnyH_take (i := 6) (v := .pointer (some ⟨g, o, none⟩)) rfl (by kernel_rfl) (by kernel_rfl) (by kernel_rfl) (fun _ _ _ h => h) (Or.inl ⟨by rfl, fun w hw => by go_simp⟩) hHeld ?_
              simp only [Act.put, List.getElem_toArray, List.getElem_cons_zero, List.getElem_cons_succ, List.setIfInBounds_toArray, List.set_cons_zero, List.set_cons_succ]
              refine wpAnyH_take (i := 7) (v := .agg #[.string ak, .int .i64 av.k, .int .i64 av.n, .string av.s, .slice xa xn xc, .slice ya yn yc]) rfl (by kernel_rfl) (by kernel_rfl) (by kernel_rfl) (fun _ _ _ h => h) (Or.inl ⟨by rfl, fun w hw => by obtain ⟨⟨s0, s1, s2, s3, s4, s5⟩, t0, t1, t2, t3, t4, t5⟩ := hw; go_simp⟩) hHeld ?_
              simp only [Act.put, List.getElem_toArray, List.getElem_cons_zero, List.getElem_cons_succ, List.setIfInBounds_toArray, List.set_cons_zero, List.set_cons_succ]
              refine wpAnyH_take (i := 9) (v := .func (Fn.func 40) #[] #[]) rfl (by kernel_rfl) (by kernel_rfl) (by kernel_rfl) (fun _ _ _ h => h) (Or.inl ⟨by rfl, fun w hw => by go_simp⟩) hHeld ?_
              simp only [Act.put, List.getElem_toArray, List.getElem_cons_zero, List.getElem_cons_succ, List.setIfInBounds_toArray, List.set_cons_zero, List.set_cons_succ]
              refine wpAnyH_take (i := 10) (v := .agg #[.string fk, .int .i64 fv.k, .int .i64 fv.n, .string fv.s, .slice xa2 xn2 xc2, .slice ya2 yn2 yc2]) rfl (by kernel_rfl) (by kernel_rfl) (by kernel_rfl) (fun _ _ _ h => h) (Or.inl ⟨by rfl, fun w hw => by obtain ⟨⟨s0, s1, s2, s3, s4, s5⟩, t0, t1, t2, t3, t4, t5⟩ := hw; go_simp⟩) hHeld ?_
              simp only [Act.put, List.getElem_toArray, List.getElem_cons_zero, List.getElem_cons_succ, List.setIfInBounds_toArray, List.set_cons_zero, List.set_cons_succ]
              refine wpAnyH_ready (rs := [8]) (by kernel_rfl) (by simp) ?_
              refine AllReadyH.cons (o := _) rfl (fun K hK => ?_) AllReadyH.nil
              go_simp
              refine (HKA.out wn.drew).mono ?_
              rintro e1 wn1 ⟨rfl, bn1⟩
              have HN1 : Hid (Below wn.heap.size wn wn1) := (belowDrew1 wn).trans bn1
              have hS1 := HSB.out.keep HN1.out
              clear bn1
              go_wp2_with fail
              refine hK _ _ hS1 (fun hHeld => ?_)
              clear hK K hS1
              refine wpAnyH_ready (rs := [11]) (by kernel_rfl) (by simp) ?_
              refine AllReadyH.cons (o := _) rfl (fun K hK => ?_) AllReadyH.nil
              go_simp
              refine (HKF.out wn1).mono ?_
              rintro e2 wm ⟨rfl, bn2⟩
              have HN : Hid (Below wn.heap.size wn wm) := HN1.out.trans (bn2.mono HN1.out.size)
              have hS2 := HSB.out.keep HN.out
              clear bn2 HN1
              go_wp2_with fail
              refine hK _ _ hS2 (fun hHeld => ?_)
              clear hK K hS2
              refine wpAnyH_take (i := 12) (v := .bool true) rfl (by kernel_rfl) (by kernel_rfl) (by kernel_rfl) (fun _ _ _ h => h) (Or.inl ⟨by rfl, fun w hw => by go_simp⟩) hHeld ?_
              simp only [Act.put, List.getElem_toArray, List.getElem_cons_zero, List.getElem_cons_succ, List.setIfInBounds_toArray, List.set_cons_zero, List.set_cons_succ]
              refine wpAnyH_take (i := 13) (v := .bool true) rfl (by kernel_rfl) (by kernel_rfl) (by kernel_rfl) (fun _ _ _ h => h) (Or.inl ⟨by rfl, fun w hw => by go_simp⟩) hHeld ?_
              simp only [Act.put, List.getElem_toArray, List.getElem_cons_zero, List.getElem_cons_succ, List.setIfInBounds_toArray, List.set_cons_zero, List.set_cons_succ]
              refine wpAnyH_done (by kernel_rfl) ?_ _
              clear hHeld
              clear HSB
              have HY : Hid (IXp w.heap.size (n + m) bx w ns ms k ⟨fk, fv, .slice xa2 xn2 xc2, .slice ya2 yn2 yc2⟩ (⟨ak, av, .slice xa xn xc, .slice ya yn yc⟩ :: os) acc _ wm) := HX.out.keep HN.out
              clear HX HN
              obtain ⟨x0, x1, x2, x3, x4, x5⟩ := HY.out.cells
              have HOW : Hid (wm.ownsRow w.heap.size 59 6 (.slice (some ⟨w.heap.size, 0, none⟩) al (n + m)) al (gCs acc)) := by have := HY.out.2.1; rw [HAL.out] at this; exact this
              go_wp2_with (at_builtin; refine wpList_append_fits _ rfl _ _ 33 rfl w.heap.size 59 i0 6 Try.underlying33 hi hz1 w.heap.size al (n + m) (gCs acc) rfl (by exact (HOW.out.alloc _)) ⟨_, 0, none⟩ 1 1 (gCs [⟨fk, fv, .slice xa2 xn2 xc2, .slice ya2 yn2 yc2⟩]) rfl rfl (by exact World.news_of_block (heap_new _ _)) (gCs_one (by intro e he; simp at he; subst he; exact ⟨⟨_, _, _, rfl⟩, ⟨_, _, _, rfl⟩⟩)) (by omega) ?_; intro wa hoa hga)
              have HST : Hid (STp w.heap.size (n + m) w ns ms (k + 1) (.slice (if oc = 1 then some ⟨g, o, none⟩ else some ⟨g, o + 6, none⟩) (ol - 1) (oc - 1)) (.slice (some ⟨w.heap.size, 0, none⟩) (al + 1) (n + m)) wa) := by
                have h9 := HY.out.next (os2 := os) HXK.out (mg_eq _ _ HLT.out HEQ.out) (by simp) (by have := HNN.out.2; omega) ((Below.refl _ _).alloc (Nat.le_refl _) _) (by rw [HAL.out]; exact hoa) hga (SP.tl HY.out.1)
                rw [HAL.out] at h9; exact h9
              clear hoa hga HOW HY x0 x1 x2 x3 x4 x5
              go_wp2
              exact ⟨⟨k + 1, by omega, by go_num, HST⟩, by simp [intOf]; omega⟩
            | false =>
              have HEQ : Hid (eqP ⟨ak, av, .slice xa xn xc, .slice ya yn yc⟩ ⟨fk, fv, .slice xa2 xn2 xc2, .slice ya2 yn2 yc2⟩ = false) := hee
              go_upto_region 8 with fail
              have HSB : Hid (SBp bx g o ⟨fk, fv, .slice xa2 xn2 xc2, .slice ya2 yn2 yc2⟩ ⟨ak, av, .slice xa xn xc, .slice ya yn yc⟩ wn) := HCC.out wn HX.out
              refine wp_region_held_drew (S := SBp bx g o ⟨fk, fv, .slice xa2 xn2 xc2, .slice ya2 yn2 yc2⟩ ⟨ak, av, .slice xa xn xc, .slice ya yn yc⟩) (by kernel_rfl) (HSB.out.keep (belowDrew1 wn)) (fun hHeld => ?_)
              refine wpAnyH_take (i := 0) (v := .slice (some ⟨g, o, none⟩) ol oc) rfl (by kernel_rfl) (by kernel_rfl) (by kernel_rfl) (fun _ _ _ h => h) (Or.inl ⟨by rfl, fun w hw => by go_simp⟩) hHeld ?_
              simp only [Act.put, List.getElem_toArray, List.getElem_cons_zero, List.setIfInBounds_toArray, List.set_cons_zero, List.set_cons_succ]
              refine wpAnyH_take (i := 1) (v := .int .i64 (ol : Int)) rfl (by kernel_rfl) (by kernel_rfl) (by kernel_rfl) (fun _ _ _ h => h) (Or.inl ⟨by rfl, fun w hw => by go_simp⟩) hHeld ?_
              simp only [Act.put, List.getElem_toArray, List.getElem_cons_zero, List.getElem_cons_succ, List.setIfInBounds_toArray, List.set_cons_zero, List.set_cons_succ]
              refine wpAnyH_take (i := 2) (v := .bool true) rfl (by kernel_rfl) (by kernel_rfl) (by kernel_rfl) (fun _ _ _ h => h) (Or.inl ⟨by rfl, fun w hw => by go_simp⟩) hHeld ?_
              simp only [Act.put, List.getElem_toArray, List.getElem_cons_zero, List.getElem_cons_succ, List.setIfInBounds_toArray, List.set_cons_zero, List.set_cons_succ]
              refine wpAnyH_take (i := 3) (v := .bool true) rfl (by kernel_rfl) (by kernel_rfl) (by kernel_rfl) (fun _ _ _ h => h) (Or.inl ⟨by rfl, fun w hw => by go_simp⟩) hHeld ?_
              simp only [Act.put, List.getElem_toArray, List.getElem_cons_zero, List.getElem_cons_succ, List.setIfInBounds_toArray, List.set_cons_zero, List.set_cons_succ]
              refine wpAnyH_take (i := 4) (v := .func (Fn.func 40) #[] #[]) rfl (by kernel_rfl) (by kernel_rfl) (by kernel_rfl) (fun _ _ _ h => h) (Or.inl ⟨by rfl, fun w hw => by go_simp⟩) hHeld ?_
              simp only [Act.put, List.getElem_toArray, List.getElem_cons_zero, List.getElem_cons_succ, List.setIfInBounds_toArray, List.set_cons_zero, List.set_cons_succ]
              refine wpAnyH_take (i := 5) (v := .slice (some ⟨g, o, none⟩) ol oc) rfl (by kernel_rfl) (by kernel_rfl) (by kernel_rfl) (fun _ _ _ h => h) (Or.inl ⟨by rfl, fun w hw => by go_simp⟩) hHeld ?_
              simp only [Act.put, List.getElem_toArray, List.getElem_cons_zero, List.getElem_cons_succ, List.setIfInBounds_toArray, List.set_cons_zero, List.set_cons_succ]
              refine wpAnyH_take (i := 6) (v := .pointer (some ⟨g, o, none⟩)) rfl (by kernel_rfl) (by kernel_rfl) (by kernel_rfl) (fun _ _ _ h => h) (Or.inl ⟨by rfl, fun w hw => by go_simp⟩) hHeld ?_
              simp only [Act.put, List.getElem_toArray, List.getElem_cons_zero, List.getElem_cons_succ, List.setIfInBounds_toArray, List.set_cons_zero, List.set_cons_succ]
              refine wpAnyH_take (i := 7) (v := .agg #[.string ak, .int .i64 av.k, .int .i64 av.n, .string av.s, .slice xa xn xc, .slice ya yn yc]) rfl (by kernel_rfl) (by kernel_rfl) (by kernel_rfl) (fun _ _ _ h => h) (Or.inl ⟨by rfl, fun w hw => by obtain ⟨⟨s0, s1, s2, s3, s4, s5⟩, t0, t1, t2, t3, t4, t5⟩ := hw; go_simp⟩) hHeld ?_
              simp only [Act.put, List.getElem_toArray, List.getElem_cons_zero, List.getElem_cons_succ, List.setIfInBounds_toArray, List.set_cons_zero, List.set_cons_succ]
              refine wpAnyH_take (i := 9) (v := .func (Fn.func 40) #[] #[]) rfl (by kernel_rfl) (by kernel_rfl) (by kernel_rfl) (fun _ _ _ h => h) (Or.inl ⟨by rfl, fun w hw => by go_simp⟩) hHeld ?_
              simp only [Act.put, List.getElem_toArray, List.getElem_cons_zero, List.getElem_cons_succ, List.setIfInBounds_toArray, List.set_cons_zero, List.set_cons_succ]
              refine wpAnyH_take (i := 10) (v := .agg #[.string fk, .int .i64 fv.k, .int .i64 fv.n, .string fv.s, .slice xa2 xn2 xc2, .slice ya2 yn2 yc2]) rfl (by kernel_rfl) (by kernel_rfl) (by kernel_rfl) (fun _ _ _ h => h) (Or.inl ⟨by rfl, fun w hw => by obtain ⟨⟨s0, s1, s2, s3, s4, s5⟩, t0, t1, t2, t3, t4, t5⟩ := hw; go_simp⟩) hHeld ?_
              simp only [Act.put, List.getElem_toArray, List.getElem_cons_zero, List.getElem_cons_succ, List.setIfInBounds_toArray, List.set_cons_zero, List.set_cons_succ]
              refine wpAnyH_ready (rs := [8]) (by kernel_rfl) (by simp) ?_
              refine AllReadyH.cons (o := _) rfl (fun K hK => ?_) AllReadyH.nil
              go_simp
              refine (HKA.out wn.drew).mono ?_
              rintro e1 wn1 ⟨rfl, bn1⟩
              have HN1 : Hid (Below wn.heap.size wn wn1) := (belowDrew1 wn).trans bn1
              have hS1 := HSB.out.keep HN1.out
              clear bn1
              go_wp2_with fail
              refine hK _ _ hS1 (fun hHeld => ?_)
              clear hK K hS1
              refine wpAnyH_ready (rs := [11]) (by kernel_rfl) (by simp) ?_
              refine AllReadyH.cons (o := _) rfl (fun K hK => ?_) AllReadyH.nil
              go_simp
              refine (HKF.out wn1).mono ?_
              rintro e2 wm ⟨rfl, bn2⟩
              have HN : Hid (Below wn.heap.size wn wm) := HN1.out.trans (bn2.mono HN1.out.size)
              have hS2 := HSB.out.keep HN.out
              clear bn2 HN1
              go_wp2_with fail
              refine hK _ _ hS2 (fun hHeld => ?_)
              clear hK K hS2
              refine wpAnyH_take (i := 12) (v := .bool false) rfl (by kernel_rfl) (by kernel_rfl) (by kernel_rfl) (fun _ _ _ h => h) (Or.inl ⟨by rfl, fun w hw => by go_simp⟩) hHeld ?_
              simp only [Act.put, List.getElem_toArray, List.getElem_cons_zero, List.getElem_cons_succ, List.setIfInBounds_toArray, List.set_cons_zero, List.set_cons_succ]
              refine wpAnyH_take (i := 13) (v := .bool false) rfl (by kernel_rfl) (by kernel_rfl) (by kernel_rfl) (fun _ _ _ h => h) (Or.inl ⟨by rfl, fun w hw => by go_simp⟩) hHeld ?_
              simp only [Act.put, List.getElem_toArray, List.getElem_cons_zero, List.getElem_cons_succ, List.setIfInBounds_toArray, List.set_cons_zero, List.set_cons_succ]
              refine wpAnyH_done (by kernel_rfl) ?_ _
              clear hHeld
              clear HSB
              have HY : Hid (IXp w.heap.size (n + m) bx w ns ms k ⟨fk, fv, .slice xa2 xn2 xc2, .slice ya2 yn2 yc2⟩ (⟨ak, av, .slice xa xn xc, .slice ya yn yc⟩ :: os) acc _ wm) := HX.out.keep HN.out
              clear HX HN
              obtain ⟨x0, x1, x2, x3, x4, x5⟩ := HY.out.cells
              have HOW : Hid (wm.ownsRow w.heap.size 59 6 (.slice (some ⟨w.heap.size, 0, none⟩) al (n + m)) al (gCs acc)) := by have := HY.out.2.1; rw [HAL.out] at this; exact this
              go_wp2_with (at_builtin; refine wpList_append_fits _ rfl _ _ 33 rfl w.heap.size 59 i0 6 Try.underlying33 hi hz1 w.heap.size al (n + m) (gCs acc) rfl (by exact (HOW.out.alloc _)) ⟨_, 0, none⟩ 1 1 (gCs [⟨fk, fv, .slice xa2 xn2 xc2, .slice ya2 yn2 yc2⟩]) rfl rfl (by exact World.news_of_block (heap_new _ _)) (gCs_one (by intro e he; simp at he; subst he; exact ⟨⟨_, _, _, rfl⟩, ⟨_, _, _, rfl⟩⟩)) (by omega) ?_; intro wa hoa hga)
              have HST : Hid (STp w.heap.size (n + m) w ns ms (k + 1) (.slice (some ⟨g, o, none⟩) ol oc) (.slice (some ⟨w.heap.size, 0, none⟩) (al + 1) (n + m)) wa) := by
                have h9 := HY.out.next (os2 := ⟨ak, av, .slice xa xn xc, .slice ya yn yc⟩ :: os) HXK.out (mg_gt _ _ HLT.out HEQ.out) (by simp) (by have := HNN.out.2; omega) ((Below.refl _ _).alloc (Nat.le_refl _) _) (by rw [HAL.out]; exact hoa) hga HY.out.1
                rw [HAL.out] at h9; exact h9
              clear hoa hga HOW HY x0 x1 x2 x3 x4 x5
              go_wp2
              exact ⟨⟨k + 1, by omega, by go_num, HST⟩, by simp [intOf]; omega⟩
    · obtain rfl : k = m := by omega
      obtain ⟨os, acc, hsn, rfl, hown, hbel, hmg, hlen⟩ := HI.out
      have hsl := hsn.slx
      obtain ⟨oa, oc, rfl, hoc, hon, hox⟩ := hsn
      have HF : Hid (mgP ns ms = acc ++ os) := by
        rw [List.drop_eq_nil_of_le (by have := HNN.out.2; omega), mgP, mg_nil] at hmg
        exact hmg.symm
      have HB1 : Hid (Below w.heap.size w wr ∧ w.heap.size ≤ wr.heap.size) := ⟨hbel, hbel.size⟩
      have HOW := Lib.hid hown
      have hlen2 : acc.length + os.length ≤ n + k := by omega
      have HC : Hid (∀ ad, oa = some ad → ∀ j u, (gCs os)[j]? = some u → wr.cell? (ad.add j) = some u) := fun ad had j u hu => by
        have hj := (List.getElem?_eq_some_iff.1 hu).1
        rw [gCs_len] at hj
        obtain ⟨x, hx⟩ : ∃ x, os[j / 6]? = some x := ⟨_, List.getElem?_eq_getElem (by omega)⟩
        rcases hox with rfl | ⟨g, o, e, hg, hc⟩
        · simp at hx
        · rw [had] at e
          cases e
          have h1 := (hc _ x hx).2 (j % 6) (by omega)
          have h2 := gCs_get os _ x (j % 6) (by omega) hx
          rw [show j / 6 * 6 + j % 6 = j by omega] at h2
          rw [show o + j / 6 * 6 + j % 6 = o + j by omega] at h1
          rw [add_none]
          exact Below.cellS hbel (Nat.le_refl _) (h1.trans (h2.symm.trans hu))
      have HN0 : Hid (oa = none → os.length = 0 ∧ oc = 0) := fun e => ⟨by have := hon e; omega, hon e⟩
      have HONE : Hid (∀ u ∈ gCs os, u.oneCell' = true) := gCs_one hsl
      clear hox hmg hown hbel hon HI hsl
      generalize hol : os.length = ol at *
      have HOL := Lib.hid hol
      generalize hal : acc.length = al at *
      have HAL := Lib.hid hal
      clear hol hal
      go_wp2_with (at_builtin; refine wpList_append_fits_any _ rfl _ _ 33 rfl w.heap.size 59 i0 6 Try.underlying33 hi hz1 w.heap.size al (n + k) (gCs acc) rfl (by exact HOW.out) oa ol oc (gCs os) rfl (by rw [gCs_len, HOL.out]) HN0.out (by exact HC.out) HONE.out (by omega) ?_; intro wa hoa hga; have HE : Hid (wa.ownsRow w.heap.size 59 6 (.slice (some ⟨w.heap.size, 0, none⟩) (al + ol) (n + k)) (al + ol) (gCs acc ++ gCs os) ∧ Below w.heap.size w wa) := ⟨hoa, below_grown HB1.out.1 hga HB1.out.2⟩; clear hoa hga)
      go_ret
      refine ⟨_, rfl, ?_, HE.out.2⟩
      rw [HF.out, gCs_app, List.length_append, HAL.out, HOL.out]
      exact HE.out.1
end Go.Proofs.Ytldkecjfjcnkfaa
