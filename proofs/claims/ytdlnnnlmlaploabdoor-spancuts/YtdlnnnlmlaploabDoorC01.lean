import Derived.Test.YtdlnnnlmlaploabDoorC00
namespace Go.Proofs.YtdlnnnlmlaploabDoor
open Go.RowKit Go.Deep
theorem wo_below {H : Nat} {w w9 wE : World} {k n : Int} {s : ByteArray} {xx yy lv dl : Value} (hS : w.heap.size = H) (hc : WIv H w w9 k n s xx yy lv dl) (hE : Besides (H + 1) w9 wE) : Below H w wE := by
  have h0 := hc.1
  exact ⟨hE.os.trans h0.os, hE.tape.trans h0.tape, hE.output.trans h0.output, Nat.le_trans h0.size hE.size, fun q hq => (hE.block q (by have := h0.size; omega) (by omega)).trans (h0.block q (by omega))⟩
theorem wo_end {A H : Nat} {w w9 : World} {k n : Int} {s : ByteArray} {xx yy lv dl : Value} {L : List T} (hS : w.heap.size = H) (hA : A ≤ H) (hc : WIv H w w9 k n s xx yy lv dl) (hV : VRow (H + 3) (Sv A H lv) w9 lv L) : ∀ wE, Besides (H + 1) w9 wE → RV (fun b => b < A ∨ H ≤ b) wE (tList L) lv (.slice .none 0 0) ∧ Below H w wE := by
  intro wE hE
  have hlo : ∀ q, lv.ownBlock = some q → H + 3 ≤ q := fun q hq => by
    obtain ⟨us, h1, _⟩ := hV
    exact (h1.lt q hq).1
  have hV2 : VRow (H + 3) (fun b => b < A ∨ H + 3 ≤ b) wE lv L := hV.keep hE.size (fun q hq hl => hE.block q hl (by have := hlo q hq; omega)) (fun b hb hl => ⟨by rcases hb with h | h; exact .inl h; exact .inr h.1, hE.block b hl (by rcases hb with h | h <;> omega)⟩)
  exact ⟨⟨hV2.rl (fun b hb => by rcases hb with h | h; exact .inl h; exact .inr (by omega)) (fun q hq => .inr (by have := hlo q hq; omega)), ⟨none, 0, rfl, .inl rfl⟩⟩, wo_below hS hc hE⟩
theorem wo_endD {A H : Nat} {w w9 : World} {k n : Int} {s : ByteArray} {xx yy lv dl : Value} {L : List (ByteArray × T)} (hS : w.heap.size = H) (hA : A ≤ H) (hc : WIv H w w9 k n s xx yy lv dl) (hV : PRow (H + 3) (Sv A H dl) w9 dl L) : ∀ wE, Besides (H + 1) w9 wE → RV (fun b => b < A ∨ H ≤ b) wE (tDict L) (.slice .none 0 0) dl ∧ Below H w wE := by
  intro wE hE
  have hlo : ∀ q, dl.ownBlock = some q → H + 3 ≤ q := fun q hq => by
    obtain ⟨us, h1, _⟩ := hV
    exact (h1.lt q hq).1
  have hV2 : PRow (H + 3) (fun b => b < A ∨ H + 3 ≤ b) wE dl L := hV.keep hE.size (fun q hq hl => hE.block q hl (by have := hlo q hq; omega)) (fun b hb hl => ⟨by rcases hb with h | h; exact .inl h; exact .inr h.1, hE.block b hl (by rcases hb with h | h <;> omega)⟩)
  exact ⟨⟨⟨none, 0, rfl, .inl rfl⟩, hV2.rd (fun b hb => by rcases hb with h | h; exact .inl h; exact .inr (by omega)) (fun q hq => .inr (by have := hlo q hq; omega))⟩, wo_below hS hc hE⟩
set_option maxRecDepth 10000 in
set_option maxHeartbeats 8000000 in
theorem wo_list {i : Nat} {key : ByteArray} {p : List (Int × ByteArray)} {n : Int} {s : ByteArray} {ln : Nat} {l : Nat → T} {ky : Nat → ByteArray} {dv : Nat → T} (hch : p ≠ [] → WOC p (l i)) : WOC (((i : Int), key) :: p) (.mk 3 n s ln l 0 ky dv) := by
  intro A x y w pa pc hA hP hpc hpl hr hsm
  obtain ⟨⟨a, ca, rfl, hL⟩, ⟨a', ca', rfl, _⟩⟩ := hr
  obtain ⟨pa', pc', eP, hP⟩ := hP
  cases eP
  rcases hP with h | ⟨pg, po, rfl, hpg, hpp⟩
  · cases h
  have p0 := (hpp 0 _ _ rfl).1
  have hpsz : pg < w.heap.size := Nat.lt_of_lt_of_le hpg hA
  have hlen : (((i : Int), key) :: p).length = p.length + 1 := rfl
  rw [hlen] at hpc hpl ⊢
  have ew : woT (((i : Int), key) :: p) (.mk 3 n s ln l 0 ky dv) = tList (outL (i : Int) (fun j => if p.isEmpty = true then none else some (woT p (l j))) l ln) := if_pos rfl
  rw [ew]
  have hlnl := hsm.1
  have HO : Hid ((p = [] → (fun j => if p.isEmpty = true then none else some (woT p (l j))) i = none) ∧ (p ≠ [] → (fun j => if p.isEmpty = true then none else some (woT p (l j))) i = some (woT p (l i)))) := by
    constructor
    · intro h; subst h; rfl
    · intro h
      exact if_neg (fun e => h (List.isEmpty_iff.1 e))
  generalize (fun j => if p.isEmpty = true then none else some (woT p (l j))) = o at *
  have hsm3 := hsm.2.2.1
  have HI : Hid ((p ≠ [] → WOC p (l i)) ∧ (∀ j, j < ln → (l j).small) ∧ (∀ m n k, (((i : Int), key) :: p)[m]? = some (n, k) → w.cell? ⟨pg, po + m * 2, none⟩ = some (.int .i64 n) ∧ w.cell? ⟨pg, po + m * 2 + 1, none⟩ = some (.string k)) ∧
      (ln = 0 ∨ ∃ b o, a = some ⟨b, o, none⟩ ∧ b < A ∧ b < w.heap.size ∧ ∀ i, i < ln → ∃ x' y', RV (fun b => b < A) w (l i) x' y' ∧ five w b (o + i * 5) (l i) x' y')) := ⟨hch, hsm3, hpp, hL⟩
  clear hch hsm3 hsm hL hpp ew hlen
  obtain ⟨i0, hi0, hz0, hz1, hz2⟩ := info_parts info25
  show Calls Tryd.prog 38 #[.agg #[.int .i64 3, .int .i64 n, .string s, .slice a ln ca, .slice a' 0 ca'], .slice (some ⟨pg, po, none⟩) (p.length + 1) pc] w _
  go_enter Tryd.func38, Tryd.ntmps38
  go_wp2
  have HC : Hid (WIv w.heap.size w (((w.alloc (Obj.cells #[.int .i64 3, .int .i64 n, .string s, .slice a ln ca, .slice a' 0 ca'] 31)).alloc (Obj.cells #[.int .i64 0, .int .i64 0, .string { data := #[] }, .slice .none 0 0, .slice .none 0 0] 31)).alloc (Obj.cells #[.int .i64 3, .int .i64 0, .string { data := #[] }, .slice .none 0 0, .slice .none 0 0] 31)) 3 n s (.slice a ln ca) (.slice a' 0 ca') (.slice .none 0 0) (.slice .none 0 0)) := by
    refine ⟨(((Below.refl _ _).alloc (Nat.le_refl _) _).alloc (by simp) _).alloc (by simp; omega) _, ?_, ?_, ?_⟩
    · exact (Below.heap_alloc _ _ _ (by simp; omega)).trans ((Below.heap_alloc _ _ _ (by simp)).trans (heap_new _ _))
    · exact (Below.heap_alloc _ _ _ (by simp)).trans (by have := heap_new (w.alloc (Obj.cells #[.int .i64 3, .int .i64 n, .string s, .slice a ln ca, .slice a' 0 ca'] 31)) (Obj.cells #[.int .i64 0, .int .i64 0, .string { data := #[] }, .slice .none 0 0, .slice .none 0 0] 31); simpa using this)
    · have := heap_new ((w.alloc (Obj.cells #[.int .i64 3, .int .i64 n, .string s, .slice a ln ca, .slice a' 0 ca'] 31)).alloc (Obj.cells #[.int .i64 0, .int .i64 0, .string { data := #[] }, .slice .none 0 0, .slice .none 0 0] 31)) (Obj.cells #[.int .i64 3, .int .i64 0, .string { data := #[] }, .slice .none 0 0, .slice .none 0 0] 31)
      simpa [obj] using this
  generalize (((w.alloc (Obj.cells #[.int .i64 3, .int .i64 n, .string s, .slice a ln ca, .slice a' 0 ca'] 31)).alloc (Obj.cells #[.int .i64 0, .int .i64 0, .string { data := #[] }, .slice .none 0 0, .slice .none 0 0] 31)).alloc (Obj.cells #[.int .i64 3, .int .i64 0, .string { data := #[] }, .slice .none 0 0, .slice .none 0 0] 31)) = w0 at *
  have HP0 : Hid (w.cell? ⟨pg, po, none⟩ = some (.int .i64 i)) := Lib.hid (by simpa using p0)
  clear p0
  generalize hvb : w.heap.size = H at *
  have HS : Hid (w.heap.size = H) := hvb
  clear hvb
  generalize hpn : p.length + 1 = pn at *
  have HPN : Hid (p.length + 1 = pn) := hpn
  have pn0 : (0 : Int) < (pn : Int) := by omega
  have pn1 : 0 < pn := by omega
  clear hpn
  go_loopw [6] (fun iv wr => ∃ (j : Nat) (lv : Value), j ≤ ln ∧ iv = .int .i64 j ∧ Hid (WIv H w wr 3 n s (.slice a ln ca) (.slice a' 0 ca') lv (.slice .none 0 0) ∧ VRow (H + 3) (Sv A H lv) wr lv (outL (i : Int) o l j))) (fun iv _ => ln - (intOf iv).toNat)
  case atStart => exact ⟨0, _, Nat.zero_le _, rfl, HC.out, VRow.nil _ _ _⟩
  case round =>
    clear HC
    obtain ⟨j, lv, hj, rfl, hinv⟩ := hrel
    have hc := hinv.out.1
    obtain ⟨_, _, _, c3, c4⟩ := hc.2.1.cells
    have pcell : wr.cell? ⟨pg, po, none⟩ = some (.int .i64 i) := Below.cellS hc.1 (Nat.le_of_eq HS.out) HP0.out
    by_cases hlt : j < ln
    · have j0 : (0 : Int) ≤ (j : Int) := by omega
      have j1 : (j : Int) < (ln : Int) := by omega
      obtain ⟨_, _, _, hL⟩ := HI.out
      rcases hL with h | ⟨b, ob, rfl, hbA, hbl, hL⟩
      · omega
      obtain ⟨x1, y1, hv, g1, g2, g3, g4, g5⟩ := hL j hlt
      have hle : w.heap.size ≤ H := Nat.le_of_eq HS.out
      replace g1 := Below.cellS hc.1 hle g1
      replace g2 := Below.cellS hc.1 hle g2
      replace g3 := Below.cellS hc.1 hle g3
      replace g4 := Below.cellS hc.1 hle g4
      replace g5 := Below.cellS hc.1 hle g5
      have hv' : RV (fun b => b < A) wr (l j) x1 y1 := RV.move (fun _ h _ => h) hc.1.size (fun b hb _ => hc.1.block b (Nat.lt_of_lt_of_le hb hA)) _ _ _ hv
      obtain ⟨⟨xa, xn, xc, rfl⟩, ⟨ya, yn, yc, rfl⟩⟩ := hv.slices
      obtain ⟨us, hown, hel⟩ := hinv.out.2
      obtain ⟨la, lc, rfl⟩ := ownForm hown
      have hlen := outL_len (nm := (i : Int)) (o := o) (l := l) j
      obtain ⟨d0, d1, d2, d3, d4⟩ := hc.2.2.2.cells
      have df := hc.2.2.2.frozen 3
      have h3H : H + 3 ≤ wr.heap.size := by have := hc.2.2.2.lt; omega
      generalize hLj : outL (i : Int) o l j = Lj at *
      have HQ : Hid (WIv H w wr 3 n s (.slice (some ⟨b, ob, none⟩) ln ca) (.slice a' 0 ca') (.slice la Lj.length lc) (.slice .none 0 0) ∧ (∀ k, k < Lj.length → ∃ x y, RV (Sv A H (.slice la Lj.length lc)) wr (Lj.getD k .no) x y ∧ ∀ r, r < 5 → us[k * 5 + r]? = (cv (Lj.getD k .no) x y)[r]?) ∧ wr.ownsRow (H + 3) 31 5 (.slice la Lj.length lc) Lj.length us ∧ RV (fun b => b < A) wr (l j) (.slice xa xn xc) (.slice ya yn yc) ∧ outL (i : Int) o l j = Lj) := ⟨hc, hel, hown, hv', hLj⟩
      have hne0 : some (H + 1 + 1) ≠ (Value.slice la Lj.length lc).ownBlock := fun e => by have := (hown.lt _ e.symm).1; omega
      have Hne : Hid (some (H + 1 + 1) ≠ (Value.slice la Lj.length lc).ownBlock ∧ some H ≠ (Value.slice la Lj.length lc).ownBlock ∧ some b ≠ (Value.slice la Lj.length lc).ownBlock) := ⟨hne0, fun e => by have := (hown.lt _ e.symm).1; omega, fun e => by have := (hown.lt _ e.symm).1; omega⟩
      have nH : H ≠ H + 1 + 1 := by omega
      have nb : b ≠ H + 1 + 1 := by omega
      clear hc hel hown hv hv' hLj hinv hL hne0 d0 d1 d2 d4 c4 hle
      by_cases hji : j = i
      · subst hji
        by_cases hp : p = []
        · subst hp
          have e1 : pn = 1 := HPN.out.symm
          subst e1
          have HN : Hid (WIv H w wr 3 n s (.slice (some ⟨b, ob, none⟩) ln ca) (.slice a' 0 ca') (.slice la Lj.length lc) (.slice .none 0 0) ∧ VRow (H + 3) (Sv A H (.slice la Lj.length lc)) wr (.slice la Lj.length lc) (outL (j : Int) o l (j + 1))) := by
            obtain ⟨q1, q2, q3, q4, q5⟩ := HQ.out
            have e2 : outL (j : Int) o l (j + 1) = Lj := by
              show outL (j : Int) o l j ++ _ = _
              rw [if_pos rfl, HO.out.1 rfl, q5]; simp
            rw [e2]
            exact ⟨q1, us, q3, q2⟩
          clear HQ Hne d3 df g1 g2 g3 g4 g5
          go_wp2
          go_roundw
          case rel => exact ⟨j + 1, _, by omega, by go_num, HN⟩
          case measure => simp [intOf]; omega
        · obtain rfl : p.length + 1 = pn := HPN.out
          have hp1 : 0 < p.length := List.length_pos_iff.2 hp
          have q1 : (1 : Int) < ((p.length + 1 : Nat) : Int) := by omega
          have q2 : (1 : Int) < (p.length : Int) + 1 := by omega
          have q3 : (p.length : Int) + 1 ≤ (pc : Int) := by omega
          have q4 : ¬ pc - 1 = 0 := by omega
          have q5 : (1 : Int) ≤ (p.length : Int) + 1 := by omega
          have q6 : 1 < pc := by omega
          have q7 : ¬ pc = 1 := by omega
          have HCL : Hid (Calls Tryd.prog 38 #[vv (l j) (.slice xa xn xc) (.slice ya yn yc), .slice (some ⟨pg, po + 2, none⟩) p.length (pc - 1)] wr.drew fun e w' => ∃ x' y', e = .returned (vv (woT p (l j)) x' y') ∧ RV (fun b => b < A ∨ wr.heap.size ≤ b) w' (woT p (l j)) x' y' ∧ Below wr.heap.size wr w') := by
            obtain ⟨u1, u2, u3, u4, u5⟩ := HQ.out
            have hAw : A ≤ wr.drew.heap.size := Nat.le_trans hA (by show H ≤ wr.heap.size; omega)
            have hps : PSA A wr.drew (.slice (some ⟨pg, po + 2, none⟩) p.length (pc - 1)) p := by
              refine ⟨_, _, rfl, .inr ⟨pg, po + 2, rfl, hpg, fun m n k hm => ?_⟩⟩
              obtain ⟨z1, z2⟩ := HI.out.2.2.1 (m + 1) n k (by simpa using hm)
              have e1 : po + (m + 1) * 2 = po + 2 + m * 2 := by omega
              rw [e1] at z1 z2
              have hbk := u1.1.block pg hpsz
              exact ⟨(World.cell?_of_block (w := w) hbk).trans z1, (World.cell?_of_block (w := w) hbk).trans z2⟩
            refine (HI.out.1 hp A _ _ wr.drew _ _ hAw hps (by omega) (by omega) (RV.move (w := wr) (w' := wr.drew) (fun _ h _ => h) (Nat.le_refl _) (fun _ _ _ => rfl) _ _ _ u4) (HI.out.2.1 j hlt)).mono ?_
            rintro e w' ⟨x', y', z1, z2, z3⟩
            exact ⟨x', y', z1, z2, ⟨z3.os, z3.tape, z3.output, z3.size, z3.block⟩⟩
          have HOJ : Hid (o j = some (woT p (l j))) := HO.out.2 hp
          generalize woT p (l j) = tj at *
          go_wp2_with fail
          refine wp_region_held_drew (S := fun w' => w'.cell? ⟨H, 3, none⟩ = some (.slice (some ⟨b, ob, none⟩) ln ca) ∧ w'.cell? ⟨b, ob + j * 5, none⟩ = some (.int .i64 (l j).k) ∧ w'.cell? ⟨b, ob + j * 5 + 1, none⟩ = some (.int .i64 (l j).n) ∧ w'.cell? ⟨b, ob + j * 5 + 2, none⟩ = some (.string (l j).s) ∧ w'.cell? ⟨b, ob + j * 5 + 3, none⟩ = some (.slice xa xn xc) ∧ w'.cell? ⟨b, ob + j * 5 + 4, none⟩ = some (.slice ya yn yc)) (by kernel_rfl) (⟨c3, g1, g2, g3, g4, g5⟩) (fun hHeld => ?_)
          refine wpAnyH_take (i := 0) (v := .pointer (some ⟨H + 1 + 1, 3, none⟩)) rfl (by kernel_rfl) (by kernel_rfl) (by kernel_rfl) (fun _ _ _ h => h) (Or.inl ⟨by rfl, fun w hw => by go_simp⟩) hHeld ?_
          simp only [Act.put, List.getElem_toArray, List.getElem_cons_zero, List.setIfInBounds_toArray, List.set_cons_zero, List.set_cons_succ]
          refine wpAnyH_take (i := 2) (v := .pointer (some ⟨H, 3, none⟩)) rfl (by kernel_rfl) (by kernel_rfl) (by kernel_rfl) (fun _ _ _ h => h) (Or.inl ⟨by rfl, fun w hw => by go_simp⟩) hHeld ?_
          simp only [Act.put, List.getElem_toArray, List.getElem_cons_zero, List.getElem_cons_succ, List.setIfInBounds_toArray, List.set_cons_zero, List.set_cons_succ]
          refine wpAnyH_take (i := 3) (v := .slice (some ⟨b, ob, none⟩) ln ca) rfl (by kernel_rfl) (by kernel_rfl) (by kernel_rfl) (fun _ _ _ h => h) (Or.inl ⟨by rfl, fun w hw => by have := hw.1; go_simp⟩) hHeld ?_
          simp only [Act.put, List.getElem_toArray, List.getElem_cons_zero, List.getElem_cons_succ, List.setIfInBounds_toArray, List.set_cons_zero, List.set_cons_succ]
          refine wpAnyH_take (i := 4) (v := .int .i64 j) rfl (by kernel_rfl) (by kernel_rfl) (by kernel_rfl) (fun _ _ _ h => h) (Or.inl ⟨by rfl, fun w hw => by go_simp⟩) hHeld ?_
          simp only [Act.put, List.getElem_toArray, List.getElem_cons_zero, List.getElem_cons_succ, List.setIfInBounds_toArray, List.set_cons_zero, List.set_cons_succ]
          refine wpAnyH_take (i := 5) (v := .pointer (some ⟨b, ob + j * 5, none⟩)) rfl (by kernel_rfl) (by kernel_rfl) (by kernel_rfl) (fun _ _ _ h => h) (Or.inl ⟨by rfl, fun w hw => by go_simp⟩) hHeld ?_
          simp only [Act.put, List.getElem_toArray, List.getElem_cons_zero, List.getElem_cons_succ, List.setIfInBounds_toArray, List.set_cons_zero, List.set_cons_succ]
          refine wpAnyH_take (i := 6) (v := .agg #[.int .i64 (l j).k, .int .i64 (l j).n, .string (l j).s, .slice xa xn xc, .slice ya yn yc]) rfl (by kernel_rfl) (by kernel_rfl) (by kernel_rfl) (fun _ _ _ h => h) (Or.inl ⟨by rfl, fun w hw => by obtain ⟨_, c0, c1, c2, c3, c4⟩ := hw; go_simp⟩) hHeld ?_
          simp only [Act.put, List.getElem_toArray, List.getElem_cons_zero, List.getElem_cons_succ, List.setIfInBounds_toArray, List.set_cons_zero, List.set_cons_succ]
          refine wpAnyH_take (i := 7) (v := .slice (some ⟨pg, po, none⟩) (p.length + 1) pc) rfl (by kernel_rfl) (by kernel_rfl) (by kernel_rfl) (fun _ _ _ h => h) (Or.inl ⟨by rfl, fun w hw => by go_simp⟩) hHeld ?_
          simp only [Act.put, List.getElem_toArray, List.getElem_cons_zero, List.getElem_cons_succ, List.setIfInBounds_toArray, List.set_cons_zero, List.set_cons_succ]
          refine wpAnyH_take (i := 8) (v := .slice (some ⟨pg, po + 2, none⟩) p.length (pc - 1)) rfl (by kernel_rfl) (by kernel_rfl) (by kernel_rfl) (fun _ _ _ h => h) (Or.inl ⟨by rfl, fun w hw => by go_simp⟩) hHeld ?_
          simp only [Act.put, List.getElem_toArray, List.getElem_cons_zero, List.getElem_cons_succ, List.setIfInBounds_toArray, List.set_cons_zero, List.set_cons_succ]
          refine wpAnyH_ready (rs := [1, 9]) (by kernel_rfl) (by simp) ?_
          refine AllReadyH.cons (o := _) rfl (fun K hK => ?_) (AllReadyH.cons (o := _) rfl (fun K hK => ?_) AllReadyH.nil)
          · go_simp
            refine hK.out _ _ (hHeld) (fun hHeld => ?_)
            clear hK K
            refine wpAnyH_ready (rs := [9]) (by kernel_rfl) (by simp) ?_
            refine AllReadyH.cons (o := _) rfl (fun K hK => ?_) AllReadyH.nil
            go_simp
            refine (HCL.out).mono ?_
            rintro e w2 ⟨x2, y2, rfl, hrv2, hb2⟩
            obtain ⟨⟨xa2, xn2, xc2, rfl⟩, ⟨ya2, yn2, yc2, rfl⟩⟩ := hrv2.slices
            have hbO : Below wr.heap.size wr (w2.alloc (Obj.cells #[.int .i64 tj.k, .int .i64 tj.n, .string tj.s, .slice xa2 xn2 xc2, .slice ya2 yn2 yc2] 31)) := hb2.alloc hb2.size _
            have HW : Hid ((w2.alloc (Obj.cells #[.int .i64 tj.k, .int .i64 tj.n, .string tj.s, .slice xa2 xn2 xc2, .slice ya2 yn2 yc2] 31)).ownsRow (H + 3) 31 5 (.slice la Lj.length lc) Lj.length us) := own_keep HQ.out.2.2.1 (fun x _ hx => hbO.block x hx)
            have hBs : H + 3 ≤ (w2.alloc (Obj.cells #[.int .i64 tj.k, .int .i64 tj.n, .string tj.s, .slice xa2 xn2 xc2, .slice ya2 yn2 yc2] 31)).heap.size := Nat.le_trans h3H hbO.size
            have HR2 : Hid (RV (fun b => b < A ∨ wr.heap.size ≤ b) (w2.alloc (Obj.cells #[.int .i64 tj.k, .int .i64 tj.n, .string tj.s, .slice xa2 xn2 xc2, .slice ya2 yn2 yc2] 31)) tj (.slice xa2 xn2 xc2) (.slice ya2 yn2 yc2)) := RV.move (fun _ h _ => h) (by simp) (fun b _ hl => Below.heap_alloc _ _ _ hl) _ _ _ hrv2
            have e3 := Below.cellS hb2 (Nat.le_refl _) d3
            have e3a : (w2.alloc (Obj.cells #[.int .i64 tj.k, .int .i64 tj.n, .string tj.s, .slice xa2 xn2 xc2, .slice ya2 yn2 yc2] 31)).cell? ⟨H + 1 + 1, 3, none⟩ = some (.slice la Lj.length lc) := cell_alloc_old e3
            have ef : w2.frozen? ⟨H + 1 + 1, 3, none⟩ = false := (World.frozen?_of_block (w := wr) (hb2.block (H + 1 + 1) (by omega))).trans df
            have k3 := Below.cellS hb2 (Nat.le_refl _) c3
            have k1 := Below.cellS hb2 (Nat.le_refl _) g1
            have k2 := Below.cellS hb2 (Nat.le_refl _) g2
            have k4 := Below.cellS hb2 (Nat.le_refl _) g3
            have k5 := Below.cellS hb2 (Nat.le_refl _) g4
            have k6 := Below.cellS hb2 (Nat.le_refl _) g5
            have hsz2 : H + 3 ≤ w2.heap.size := Nat.le_trans h3H hb2.size
            clear hrv2 c3 g1 g2 g3 g4 g5
            unfold vv
            refine hK.out _ _ (⟨k3, k1, k2, k4, k5, k6⟩) (fun hHeld => ?_)
            clear hK K
            refine wpAnyH_ready (rs := [10]) (by kernel_rfl) (by simp) ?_
            refine AllReadyH.cons (o := _) rfl (fun K hK => ?_) AllReadyH.nil
            go_simp
            refine hK.out _ _ (⟨cell_alloc_old k3, cell_alloc_old k1, cell_alloc_old k2, cell_alloc_old k4, cell_alloc_old k5, cell_alloc_old k6⟩) (fun hHeld => ?_)
            clear hK K
            refine wpAnyH_ready (rs := [11]) (by kernel_rfl) (by simp) ?_
            refine AllReadyH.cons (o := _) rfl (fun K hK => ?_) AllReadyH.nil
            refine step_append_lies _ (by rfl) (.tmp 41) (.tmp 50) 28 (by rfl) (H + 3) 31 i0 _ 5 80 Tryd.underlying28 hi0 hz0 hz1 hz2 rfl (by omega) (.slice la Lj.length lc) Lj.length us (by simp [Act.eval]) (by exact HW.out) ⟨w2.heap.size, 0, none⟩ 1 1 (cv tj (.slice xa2 xn2 xc2) (.slice ya2 yn2 yc2)) (by simp [Act.eval]) rfl (by exact World.news_of_block (B := w2.heap.size) (heap_new w2 _)) (by intro u hu; simp [cv] at hu; rcases hu with rfl | rfl | rfl | rfl | rfl <;> rfl) (by omega) (by unfold maxLen; omega) (by omega) hBs (w2.heap.size + 1) (by simp) ?_
            intro g cap w5 hown5 hgrow hat hlt5
            have m3 := grown_cell hgrow (p := ⟨H + 1 + 1, 3, none⟩) (cell_alloc_old e3) Hne.out.1
            have mf := grown_frozen hgrow (p := ⟨H + 1 + 1, 3, none⟩) (cell_alloc_old e3) ((frozen_alloc_old e3).trans ef) Hne.out.1
            have v0 := grown_cell hgrow (p := ⟨H, 3, none⟩) (cell_alloc_old k3) Hne.out.2.1
            have v1 := grown_cell hgrow (p := ⟨b, ob + j * 5, none⟩) (cell_alloc_old k1) Hne.out.2.2
            have v2 := grown_cell hgrow (p := ⟨b, ob + j * 5 + 1, none⟩) (cell_alloc_old k2) Hne.out.2.2
            have v3 := grown_cell hgrow (p := ⟨b, ob + j * 5 + 2, none⟩) (cell_alloc_old k4) Hne.out.2.2
            have v4 := grown_cell hgrow (p := ⟨b, ob + j * 5 + 3, none⟩) (cell_alloc_old k5) Hne.out.2.2
            have v5 := grown_cell hgrow (p := ⟨b, ob + j * 5 + 4, none⟩) (cell_alloc_old k6) Hne.out.2.2
            refine hK.out _ _ ⟨v0, v1, v2, v3, v4, v5⟩ (fun hHeld => ?_)
            clear hK K
            refine wpAnyH_take (i := 12) (v := .pointer (some ⟨H + 1 + 1, 3, none⟩)) rfl (by kernel_rfl) (by kernel_rfl) (by kernel_rfl) (fun _ _ _ h => h) (Or.inl ⟨by rfl, fun w hw => by go_simp⟩) hHeld ?_
            simp only [Act.put, List.getElem_toArray, List.getElem_cons_zero, List.getElem_cons_succ, List.setIfInBounds_toArray, List.set_cons_zero, List.set_cons_succ]
            refine wpAnyH_ready (rs := [13]) (by kernel_rfl) (by simp) ?_
            refine AllReadyH.cons (o := _) rfl (fun K hK => ?_) AllReadyH.nil
            go_simp
            refine hK.out _ _ ⟨(World.cell?_of_block (w := w5) (Below.heap_setCell _ _ _ _ nH)).trans v0, (World.cell?_of_block (w := w5) (Below.heap_setCell _ _ _ _ nb)).trans v1, (World.cell?_of_block (w := w5) (Below.heap_setCell _ _ _ _ nb)).trans v2, (World.cell?_of_block (w := w5) (Below.heap_setCell _ _ _ _ nb)).trans v3, (World.cell?_of_block (w := w5) (Below.heap_setCell _ _ _ _ nb)).trans v4, (World.cell?_of_block (w := w5) (Below.heap_setCell _ _ _ _ nb)).trans v5⟩ (fun hHeld => ?_)
            clear hK K hHeld
            refine wpAnyH_done (by kernel_rfl) ?_ _
            have HN : Hid (WIv H w (w5.setCell ⟨H + 1 + 1, 3, none⟩ (.slice (some ⟨g, 0, none⟩) (Lj.length + 1) cap)) 3 n s (.slice (some ⟨b, ob, none⟩) ln ca) (.slice a' 0 ca') (.slice (some ⟨g, 0, none⟩) (Lj.length + 1) cap) (.slice .none 0 0) ∧ VRow (H + 3) (Sv A H (.slice (some ⟨g, 0, none⟩) (Lj.length + 1) cap)) (w5.setCell ⟨H + 1 + 1, 3, none⟩ (.slice (some ⟨g, 0, none⟩) (Lj.length + 1) cap)) (.slice (some ⟨g, 0, none⟩) (Lj.length + 1) cap) (outL (j : Int) o l (j + 1))) := by
              obtain ⟨q1, q2, q3, q4, q5⟩ := HQ.out
              have e2 : outL (j : Int) o l (j + 1) = Lj ++ [tj] := by
                show outL (j : Int) o l j ++ _ = _
                rw [if_pos rfl, HOJ.out, q5]; rfl
              rw [e2]
              exact ⟨((q1.keep HS.out hbO).grow HS.out hgrow (fun q hq => (q3.lt q hq).1)).set3 _, vrow_step hA q2 q3.1 hbO HR2.out (fun q hq => q3.lt q hq) h3H hgrow (by rcases hat with h | h; exact .inl h; exact .inr (by simpa using h)) hown5 3 _⟩
            clear HQ HW HR2 Hne hown5 hgrow hat hlt5 d3 df e3 e3a ef k1 k2 k3 k4 k5 k6 m3 mf v0 v1 v2 v3 v4 v5 hbO hBs hb2
            go_wp2
            go_roundw
            case rel => exact ⟨j + 1, _, by omega, by go_num, HN⟩
            case measure => simp [intOf]; omega
          · go_simp
            refine (HCL.out).mono ?_
            rintro e w2 ⟨x2, y2, rfl, hrv2, hb2⟩
            obtain ⟨⟨xa2, xn2, xc2, rfl⟩, ⟨ya2, yn2, yc2, rfl⟩⟩ := hrv2.slices
            have hbO : Below wr.heap.size wr (w2.alloc (Obj.cells #[.int .i64 tj.k, .int .i64 tj.n, .string tj.s, .slice xa2 xn2 xc2, .slice ya2 yn2 yc2] 31)) := hb2.alloc hb2.size _
            have HW : Hid ((w2.alloc (Obj.cells #[.int .i64 tj.k, .int .i64 tj.n, .string tj.s, .slice xa2 xn2 xc2, .slice ya2 yn2 yc2] 31)).ownsRow (H + 3) 31 5 (.slice la Lj.length lc) Lj.length us) := own_keep HQ.out.2.2.1 (fun x _ hx => hbO.block x hx)
            have hBs : H + 3 ≤ (w2.alloc (Obj.cells #[.int .i64 tj.k, .int .i64 tj.n, .string tj.s, .slice xa2 xn2 xc2, .slice ya2 yn2 yc2] 31)).heap.size := Nat.le_trans h3H hbO.size
            have HR2 : Hid (RV (fun b => b < A ∨ wr.heap.size ≤ b) (w2.alloc (Obj.cells #[.int .i64 tj.k, .int .i64 tj.n, .string tj.s, .slice xa2 xn2 xc2, .slice ya2 yn2 yc2] 31)) tj (.slice xa2 xn2 xc2) (.slice ya2 yn2 yc2)) := RV.move (fun _ h _ => h) (by simp) (fun b _ hl => Below.heap_alloc _ _ _ hl) _ _ _ hrv2
            have e3 := Below.cellS hb2 (Nat.le_refl _) d3
            have e3a : (w2.alloc (Obj.cells #[.int .i64 tj.k, .int .i64 tj.n, .string tj.s, .slice xa2 xn2 xc2, .slice ya2 yn2 yc2] 31)).cell? ⟨H + 1 + 1, 3, none⟩ = some (.slice la Lj.length lc) := cell_alloc_old e3
            have ef : w2.frozen? ⟨H + 1 + 1, 3, none⟩ = false := (World.frozen?_of_block (w := wr) (hb2.block (H + 1 + 1) (by omega))).trans df
            have k3 := Below.cellS hb2 (Nat.le_refl _) c3
            have k1 := Below.cellS hb2 (Nat.le_refl _) g1
            have k2 := Below.cellS hb2 (Nat.le_refl _) g2
            have k4 := Below.cellS hb2 (Nat.le_refl _) g3
            have k5 := Below.cellS hb2 (Nat.le_refl _) g4
            have k6 := Below.cellS hb2 (Nat.le_refl _) g5
            have hsz2 : H + 3 ≤ w2.heap.size := Nat.le_trans h3H hb2.size
            clear hrv2 c3 g1 g2 g3 g4 g5
            unfold vv
            refine hK.out _ _ (⟨k3, k1, k2, k4, k5, k6⟩) (fun hHeld => ?_)
            clear hK K
            refine wpAnyH_ready (rs := [1, 10]) (by kernel_rfl) (by simp) ?_
            refine AllReadyH.cons (o := _) rfl (fun K hK => ?_) (AllReadyH.cons (o := _) rfl (fun K hK => ?_) AllReadyH.nil)
            · go_simp
              refine hK.out _ _ (hHeld) (fun hHeld => ?_)
              clear hK K
              refine wpAnyH_ready (rs := [10]) (by kernel_rfl) (by simp) ?_
              refine AllReadyH.cons (o := _) rfl (fun K hK => ?_) AllReadyH.nil
              go_simp
              refine hK.out _ _ (⟨cell_alloc_old k3, cell_alloc_old k1, cell_alloc_old k2, cell_alloc_old k4, cell_alloc_old k5, cell_alloc_old k6⟩) (fun hHeld => ?_)
              clear hK K
              refine wpAnyH_ready (rs := [11]) (by kernel_rfl) (by simp) ?_
              refine AllReadyH.cons (o := _) rfl (fun K hK => ?_) AllReadyH.nil
              refine step_append_lies _ (by rfl) (.tmp 41) (.tmp 50) 28 (by rfl) (H + 3) 31 i0 _ 5 80 Tryd.underlying28 hi0 hz0 hz1 hz2 rfl (by omega) (.slice la Lj.length lc) Lj.length us (by simp [Act.eval]) (by exact HW.out) ⟨w2.heap.size, 0, none⟩ 1 1 (cv tj (.slice xa2 xn2 xc2) (.slice ya2 yn2 yc2)) (by simp [Act.eval]) rfl (by exact World.news_of_block (B := w2.heap.size) (heap_new w2 _)) (by intro u hu; simp [cv] at hu; rcases hu with rfl | rfl | rfl | rfl | rfl <;> rfl) (by omega) (by unfold maxLen; omega) (by omega) hBs (w2.heap.size + 1) (by simp) ?_
              intro g cap w5 hown5 hgrow hat hlt5
              have m3 := grown_cell hgrow (p := ⟨H + 1 + 1, 3, none⟩) (cell_alloc_old e3) Hne.out.1
              have mf := grown_frozen hgrow (p := ⟨H + 1 + 1, 3, none⟩) (cell_alloc_old e3) ((frozen_alloc_old e3).trans ef) Hne.out.1
              have v0 := grown_cell hgrow (p := ⟨H, 3, none⟩) (cell_alloc_old k3) Hne.out.2.1
              have v1 := grown_cell hgrow (p := ⟨b, ob + j * 5, none⟩) (cell_alloc_old k1) Hne.out.2.2
              have v2 := grown_cell hgrow (p := ⟨b, ob + j * 5 + 1, none⟩) (cell_alloc_old k2) Hne.out.2.2
              have v3 := grown_cell hgrow (p := ⟨b, ob + j * 5 + 2, none⟩) (cell_alloc_old k4) Hne.out.2.2
              have v4 := grown_cell hgrow (p := ⟨b, ob + j * 5 + 3, none⟩) (cell_alloc_old k5) Hne.out.2.2
              have v5 := grown_cell hgrow (p := ⟨b, ob + j * 5 + 4, none⟩) (cell_alloc_old k6) Hne.out.2.2
              refine hK.out _ _ ⟨v0, v1, v2, v3, v4, v5⟩ (fun hHeld => ?_)
              clear hK K
              refine wpAnyH_take (i := 12) (v := .pointer (some ⟨H + 1 + 1, 3, none⟩)) rfl (by kernel_rfl) (by kernel_rfl) (by kernel_rfl) (fun _ _ _ h => h) (Or.inl ⟨by rfl, fun w hw => by go_simp⟩) hHeld ?_
              simp only [Act.put, List.getElem_toArray, List.getElem_cons_zero, List.getElem_cons_succ, List.setIfInBounds_toArray, List.set_cons_zero, List.set_cons_succ]
              refine wpAnyH_ready (rs := [13]) (by kernel_rfl) (by simp) ?_
              refine AllReadyH.cons (o := _) rfl (fun K hK => ?_) AllReadyH.nil
              go_simp
              refine hK.out _ _ ⟨(World.cell?_of_block (w := w5) (Below.heap_setCell _ _ _ _ nH)).trans v0, (World.cell?_of_block (w := w5) (Below.heap_setCell _ _ _ _ nb)).trans v1, (World.cell?_of_block (w := w5) (Below.heap_setCell _ _ _ _ nb)).trans v2, (World.cell?_of_block (w := w5) (Below.heap_setCell _ _ _ _ nb)).trans v3, (World.cell?_of_block (w := w5) (Below.heap_setCell _ _ _ _ nb)).trans v4, (World.cell?_of_block (w := w5) (Below.heap_setCell _ _ _ _ nb)).trans v5⟩ (fun hHeld => ?_)
              clear hK K hHeld
              refine wpAnyH_done (by kernel_rfl) ?_ _
              have HN : Hid (WIv H w (w5.setCell ⟨H + 1 + 1, 3, none⟩ (.slice (some ⟨g, 0, none⟩) (Lj.length + 1) cap)) 3 n s (.slice (some ⟨b, ob, none⟩) ln ca) (.slice a' 0 ca') (.slice (some ⟨g, 0, none⟩) (Lj.length + 1) cap) (.slice .none 0 0) ∧ VRow (H + 3) (Sv A H (.slice (some ⟨g, 0, none⟩) (Lj.length + 1) cap)) (w5.setCell ⟨H + 1 + 1, 3, none⟩ (.slice (some ⟨g, 0, none⟩) (Lj.length + 1) cap)) (.slice (some ⟨g, 0, none⟩) (Lj.length + 1) cap) (outL (j : Int) o l (j + 1))) := by
                obtain ⟨q1, q2, q3, q4, q5⟩ := HQ.out
                have e2 : outL (j : Int) o l (j + 1) = Lj ++ [tj] := by
                  show outL (j : Int) o l j ++ _ = _
                  rw [if_pos rfl, HOJ.out, q5]; rfl
                rw [e2]
                exact ⟨((q1.keep HS.out hbO).grow HS.out hgrow (fun q hq => (q3.lt q hq).1)).set3 _, vrow_step hA q2 q3.1 hbO HR2.out (fun q hq => q3.lt q hq) h3H hgrow (by rcases hat with h | h; exact .inl h; exact .inr (by simpa using h)) hown5 3 _⟩
              clear HQ HW HR2 Hne hown5 hgrow hat hlt5 d3 df e3 e3a ef k1 k2 k3 k4 k5 k6 m3 mf v0 v1 v2 v3 v4 v5 hbO hBs hb2
              go_wp2
              go_roundw
              case rel => exact ⟨j + 1, _, by omega, by go_num, HN⟩
              case measure => simp [intOf]; omega
            · go_simp
              refine hK.out _ _ (⟨cell_alloc_old k3, cell_alloc_old k1, cell_alloc_old k2, cell_alloc_old k4, cell_alloc_old k5, cell_alloc_old k6⟩) (fun hHeld => ?_)
              clear hK K
              refine wpAnyH_ready (rs := [1]) (by kernel_rfl) (by simp) ?_
              refine AllReadyH.cons (o := _) rfl (fun K hK => ?_) AllReadyH.nil
              go_simp
              refine hK.out _ _ (hHeld) (fun hHeld => ?_)
              clear hK K
              refine wpAnyH_ready (rs := [11]) (by kernel_rfl) (by simp) ?_
              refine AllReadyH.cons (o := _) rfl (fun K hK => ?_) AllReadyH.nil
              refine step_append_lies _ (by rfl) (.tmp 41) (.tmp 50) 28 (by rfl) (H + 3) 31 i0 _ 5 80 Tryd.underlying28 hi0 hz0 hz1 hz2 rfl (by omega) (.slice la Lj.length lc) Lj.length us (by simp [Act.eval]) (by exact HW.out) ⟨w2.heap.size, 0, none⟩ 1 1 (cv tj (.slice xa2 xn2 xc2) (.slice ya2 yn2 yc2)) (by simp [Act.eval]) rfl (by exact World.news_of_block (B := w2.heap.size) (heap_new w2 _)) (by intro u hu; simp [cv] at hu; rcases hu with rfl | rfl | rfl | rfl | rfl <;> rfl) (by omega) (by unfold maxLen; omega) (by omega) hBs (w2.heap.size + 1) (by simp) ?_
              intro g cap w5 hown5 hgrow hat hlt5
              have m3 := grown_cell hgrow (p := ⟨H + 1 + 1, 3, none⟩) (cell_alloc_old e3) Hne.out.1
              have mf := grown_frozen hgrow (p := ⟨H + 1 + 1, 3, none⟩) (cell_alloc_old e3) ((frozen_alloc_old e3).trans ef) Hne.out.1
              have v0 := grown_cell hgrow (p := ⟨H, 3, none⟩) (cell_alloc_old k3) Hne.out.2.1
              have v1 := grown_cell hgrow (p := ⟨b, ob + j * 5, none⟩) (cell_alloc_old k1) Hne.out.2.2
              have v2 := grown_cell hgrow (p := ⟨b, ob + j * 5 + 1, none⟩) (cell_alloc_old k2) Hne.out.2.2
              have v3 := grown_cell hgrow (p := ⟨b, ob + j * 5 + 2, none⟩) (cell_alloc_old k4) Hne.out.2.2
              have v4 := grown_cell hgrow (p := ⟨b, ob + j * 5 + 3, none⟩) (cell_alloc_old k5) Hne.out.2.2
              have v5 := grown_cell hgrow (p := ⟨b, ob + j * 5 + 4, none⟩) (cell_alloc_old k6) Hne.out.2.2
              refine hK.out _ _ ⟨v0, v1, v2, v3, v4, v5⟩ (fun hHeld => ?_)
              clear hK K
              refine wpAnyH_take (i := 12) (v := .pointer (some ⟨H + 1 + 1, 3, none⟩)) rfl (by kernel_rfl) (by kernel_rfl) (by kernel_rfl) (fun _ _ _ h => h) (Or.inl ⟨by rfl, fun w hw => by go_simp⟩) hHeld ?_
              simp only [Act.put, List.getElem_toArray, List.getElem_cons_zero, List.getElem_cons_succ, List.setIfInBounds_toArray, List.set_cons_zero, List.set_cons_succ]
              refine wpAnyH_ready (rs := [13]) (by kernel_rfl) (by simp) ?_
              refine AllReadyH.cons (o := _) rfl (fun K hK => ?_) AllReadyH.nil
              go_simp
              refine hK.out _ _ ⟨(World.cell?_of_block (w := w5) (Below.heap_setCell _ _ _ _ nH)).trans v0, (World.cell?_of_block (w := w5) (Below.heap_setCell _ _ _ _ nb)).trans v1, (World.cell?_of_block (w := w5) (Below.heap_setCell _ _ _ _ nb)).trans v2, (World.cell?_of_block (w := w5) (Below.heap_setCell _ _ _ _ nb)).trans v3, (World.cell?_of_block (w := w5) (Below.heap_setCell _ _ _ _ nb)).trans v4, (World.cell?_of_block (w := w5) (Below.heap_setCell _ _ _ _ nb)).trans v5⟩ (fun hHeld => ?_)
              clear hK K hHeld
              refine wpAnyH_done (by kernel_rfl) ?_ _
              have HN : Hid (WIv H w (w5.setCell ⟨H + 1 + 1, 3, none⟩ (.slice (some ⟨g, 0, none⟩) (Lj.length + 1) cap)) 3 n s (.slice (some ⟨b, ob, none⟩) ln ca) (.slice a' 0 ca') (.slice (some ⟨g, 0, none⟩) (Lj.length + 1) cap) (.slice .none 0 0) ∧ VRow (H + 3) (Sv A H (.slice (some ⟨g, 0, none⟩) (Lj.length + 1) cap)) (w5.setCell ⟨H + 1 + 1, 3, none⟩ (.slice (some ⟨g, 0, none⟩) (Lj.length + 1) cap)) (.slice (some ⟨g, 0, none⟩) (Lj.length + 1) cap) (outL (j : Int) o l (j + 1))) := by
                obtain ⟨q1, q2, q3, q4, q5⟩ := HQ.out
                have e2 : outL (j : Int) o l (j + 1) = Lj ++ [tj] := by
                  show outL (j : Int) o l j ++ _ = _
                  rw [if_pos rfl, HOJ.out, q5]; rfl
                rw [e2]
                exact ⟨((q1.keep HS.out hbO).grow HS.out hgrow (fun q hq => (q3.lt q hq).1)).set3 _, vrow_step hA q2 q3.1 hbO HR2.out (fun q hq => q3.lt q hq) h3H hgrow (by rcases hat with h | h; exact .inl h; exact .inr (by simpa using h)) hown5 3 _⟩
              clear HQ HW HR2 Hne hown5 hgrow hat hlt5 d3 df e3 e3a ef k1 k2 k3 k4 k5 k6 m3 mf v0 v1 v2 v3 v4 v5 hbO hBs hb2
              go_wp2
              go_roundw
              case rel => exact ⟨j + 1, _, by omega, by go_num, HN⟩
              case measure => simp [intOf]; omega
      · have hji' : ((j : Int) != (i : Int)) = true := by simp; omega
        have hji2 : ¬ ((j : Int) = (i : Int)) := by omega
        go_wp2_with fail
        refine wp_region_held_drew (S := fun w' => w'.cell? ⟨H, 3, none⟩ = some (.slice (some ⟨b, ob, none⟩) ln ca) ∧ w'.cell? ⟨b, ob + j * 5, none⟩ = some (.int .i64 (l j).k) ∧ w'.cell? ⟨b, ob + j * 5 + 1, none⟩ = some (.int .i64 (l j).n) ∧ w'.cell? ⟨b, ob + j * 5 + 2, none⟩ = some (.string (l j).s) ∧ w'.cell? ⟨b, ob + j * 5 + 3, none⟩ = some (.slice xa xn xc) ∧ w'.cell? ⟨b, ob + j * 5 + 4, none⟩ = some (.slice ya yn yc)) (by kernel_rfl) (⟨c3, g1, g2, g3, g4, g5⟩) (fun hHeld => ?_)
        refine wpAnyH_take (i := 0) (v := .pointer (some ⟨H + 1 + 1, 3, none⟩)) rfl (by kernel_rfl) (by kernel_rfl) (by kernel_rfl) (fun _ _ _ h => h) (Or.inl ⟨by rfl, fun w hw => by go_simp⟩) hHeld ?_
        simp only [Act.put, List.getElem_toArray, List.getElem_cons_zero, List.setIfInBounds_toArray, List.set_cons_zero, List.set_cons_succ]
        refine wpAnyH_take (i := 2) (v := .pointer (some ⟨H, 3, none⟩)) rfl (by kernel_rfl) (by kernel_rfl) (by kernel_rfl) (fun _ _ _ h => h) (Or.inl ⟨by rfl, fun w hw => by go_simp⟩) hHeld ?_
        simp only [Act.put, List.getElem_toArray, List.getElem_cons_zero, List.getElem_cons_succ, List.setIfInBounds_toArray, List.set_cons_zero, List.set_cons_succ]
        refine wpAnyH_take (i := 3) (v := .slice (some ⟨b, ob, none⟩) ln ca) rfl (by kernel_rfl) (by kernel_rfl) (by kernel_rfl) (fun _ _ _ h => h) (Or.inl ⟨by rfl, fun w hw => by have := hw.1; go_simp⟩) hHeld ?_
        simp only [Act.put, List.getElem_toArray, List.getElem_cons_zero, List.getElem_cons_succ, List.setIfInBounds_toArray, List.set_cons_zero, List.set_cons_succ]
        refine wpAnyH_take (i := 4) (v := .int .i64 j) rfl (by kernel_rfl) (by kernel_rfl) (by kernel_rfl) (fun _ _ _ h => h) (Or.inl ⟨by rfl, fun w hw => by go_simp⟩) hHeld ?_
        simp only [Act.put, List.getElem_toArray, List.getElem_cons_zero, List.getElem_cons_succ, List.setIfInBounds_toArray, List.set_cons_zero, List.set_cons_succ]
        refine wpAnyH_take (i := 5) (v := .pointer (some ⟨b, ob + j * 5, none⟩)) rfl (by kernel_rfl) (by kernel_rfl) (by kernel_rfl) (fun _ _ _ h => h) (Or.inl ⟨by rfl, fun w hw => by go_simp⟩) hHeld ?_
        simp only [Act.put, List.getElem_toArray, List.getElem_cons_zero, List.getElem_cons_succ, List.setIfInBounds_toArray, List.set_cons_zero, List.set_cons_succ]
        refine wpAnyH_take (i := 6) (v := .agg #[.int .i64 (l j).k, .int .i64 (l j).n, .string (l j).s, .slice xa xn xc, .slice ya yn yc]) rfl (by kernel_rfl) (by kernel_rfl) (by kernel_rfl) (fun _ _ _ h => h) (Or.inl ⟨by rfl, fun w hw => by obtain ⟨_, c0, c1, c2, c3, c4⟩ := hw; go_simp⟩) hHeld ?_
        simp only [Act.put, List.getElem_toArray, List.getElem_cons_zero, List.getElem_cons_succ, List.setIfInBounds_toArray, List.set_cons_zero, List.set_cons_succ]
        have HW : Hid ((wr.alloc (Obj.cells #[.int .i64 (l j).k, .int .i64 (l j).n, .string (l j).s, .slice xa xn xc, .slice ya yn yc] 31)).drew.ownsRow (H + 3) 31 5 (.slice la Lj.length lc) Lj.length us) := own_keep HQ.out.2.2.1 (fun x _ hx => Below.heap_alloc _ _ _ hx)
        have hbO : Below wr.heap.size wr (wr.alloc (Obj.cells #[.int .i64 (l j).k, .int .i64 (l j).n, .string (l j).s, .slice xa xn xc, .slice ya yn yc] 31)) := (Below.refl _ _).alloc (Nat.le_refl _) _
        have hBs : H + 3 ≤ (wr.alloc (Obj.cells #[.int .i64 (l j).k, .int .i64 (l j).n, .string (l j).s, .slice xa xn xc, .slice ya yn yc] 31)).drew.heap.size := Nat.le_trans h3H hbO.size
        have d3a : (wr.alloc (Obj.cells #[.int .i64 (l j).k, .int .i64 (l j).n, .string (l j).s, .slice xa xn xc, .slice ya yn yc] 31)).cell? ⟨H + 1 + 1, 3, none⟩ = some (.slice la Lj.length lc) := cell_alloc_old d3
        refine wpAnyH_ready (rs := [1, 7]) (by kernel_rfl) (by simp) ?_
        refine AllReadyH.cons (o := _) rfl (fun K hK => ?_) (AllReadyH.cons (o := _) rfl (fun K hK => ?_) AllReadyH.nil)
        · go_simp
          refine hK.out _ _ hHeld (fun hHeld => ?_)
          clear hK K
          refine wpAnyH_ready (rs := [7]) (by kernel_rfl) (by simp) ?_
          refine AllReadyH.cons (o := _) rfl (fun K hK => ?_) AllReadyH.nil
          go_simp
          refine hK.out _ _ (⟨cell_alloc_old c3, cell_alloc_old g1, cell_alloc_old g2, cell_alloc_old g3, cell_alloc_old g4, cell_alloc_old g5⟩) (fun hHeld => ?_)
          clear hK K
          refine wpAnyH_ready (rs := [8]) (by kernel_rfl) (by simp) ?_
          refine AllReadyH.cons (o := _) rfl (fun K hK => ?_) AllReadyH.nil
          refine step_append_lies _ (by rfl) (.tmp 27) (.tmp 33) 28 (by rfl) (H + 3) 31 i0 _ 5 80 Tryd.underlying28 hi0 hz0 hz1 hz2 rfl (by omega) (.slice la Lj.length lc) Lj.length us (by simp [Act.eval]) (by exact HW.out) ⟨wr.heap.size, 0, none⟩ 1 1 (cv (l j) (.slice xa xn xc) (.slice ya yn yc)) (by simp [Act.eval]) rfl (by exact World.news_of_block (B := wr.heap.size) (heap_new wr _)) (by intro u hu; simp [cv] at hu; rcases hu with rfl | rfl | rfl | rfl | rfl <;> rfl) (by omega) (by unfold maxLen; omega) (by omega) hBs (wr.heap.size + 1) (by simp) ?_
          intro g cap w5 hown5 hgrow hat hlt5
          have m3 := grown_cell hgrow (p := ⟨H + 1 + 1, 3, none⟩) (cell_alloc_old d3) Hne.out.1
          have mf := grown_frozen hgrow (p := ⟨H + 1 + 1, 3, none⟩) (cell_alloc_old d3) ((frozen_alloc_old d3).trans df) Hne.out.1
          have v0 := grown_cell hgrow (p := ⟨H, 3, none⟩) (cell_alloc_old c3) Hne.out.2.1
          have v1 := grown_cell hgrow (p := ⟨b, ob + j * 5, none⟩) (cell_alloc_old g1) Hne.out.2.2
          have v2 := grown_cell hgrow (p := ⟨b, ob + j * 5 + 1, none⟩) (cell_alloc_old g2) Hne.out.2.2
          have v3 := grown_cell hgrow (p := ⟨b, ob + j * 5 + 2, none⟩) (cell_alloc_old g3) Hne.out.2.2
          have v4 := grown_cell hgrow (p := ⟨b, ob + j * 5 + 3, none⟩) (cell_alloc_old g4) Hne.out.2.2
          have v5 := grown_cell hgrow (p := ⟨b, ob + j * 5 + 4, none⟩) (cell_alloc_old g5) Hne.out.2.2
          refine hK.out _ _ ⟨v0, v1, v2, v3, v4, v5⟩ (fun hHeld => ?_)
          clear hK K
          refine wpAnyH_take (i := 9) (v := .pointer (some ⟨H + 1 + 1, 3, none⟩)) rfl (by kernel_rfl) (by kernel_rfl) (by kernel_rfl) (fun _ _ _ h => h) (Or.inl ⟨by rfl, fun w hw => by go_simp⟩) hHeld ?_
          simp only [Act.put, List.getElem_toArray, List.getElem_cons_zero, List.getElem_cons_succ, List.setIfInBounds_toArray, List.set_cons_zero, List.set_cons_succ]
          refine wpAnyH_ready (rs := [10]) (by kernel_rfl) (by simp) ?_
          refine AllReadyH.cons (o := _) rfl (fun K hK => ?_) AllReadyH.nil
          go_simp
          refine hK.out _ _ ⟨(World.cell?_of_block (w := w5) (Below.heap_setCell _ _ _ _ nH)).trans v0, (World.cell?_of_block (w := w5) (Below.heap_setCell _ _ _ _ nb)).trans v1, (World.cell?_of_block (w := w5) (Below.heap_setCell _ _ _ _ nb)).trans v2, (World.cell?_of_block (w := w5) (Below.heap_setCell _ _ _ _ nb)).trans v3, (World.cell?_of_block (w := w5) (Below.heap_setCell _ _ _ _ nb)).trans v4, (World.cell?_of_block (w := w5) (Below.heap_setCell _ _ _ _ nb)).trans v5⟩ (fun hHeld => ?_)
          clear hK K hHeld
          refine wpAnyH_done (by kernel_rfl) ?_ _
          have HN : Hid (WIv H w (w5.setCell ⟨H + 1 + 1, 3, none⟩ (.slice (some ⟨g, 0, none⟩) (Lj.length + 1) cap)) 3 n s (.slice (some ⟨b, ob, none⟩) ln ca) (.slice a' 0 ca') (.slice (some ⟨g, 0, none⟩) (Lj.length + 1) cap) (.slice .none 0 0) ∧ VRow (H + 3) (Sv A H (.slice (some ⟨g, 0, none⟩) (Lj.length + 1) cap)) (w5.setCell ⟨H + 1 + 1, 3, none⟩ (.slice (some ⟨g, 0, none⟩) (Lj.length + 1) cap)) (.slice (some ⟨g, 0, none⟩) (Lj.length + 1) cap) (outL (i : Int) o l (j + 1))) := by
            obtain ⟨q1, q2, q3, q4, q5⟩ := HQ.out
            have hgr : (wr.alloc (Obj.cells #[.int .i64 (l j).k, .int .i64 (l j).n, .string (l j).s, .slice xa xn xc, .slice ya yn yc] 31)).grownBy w5 (Value.slice la Lj.length lc).ownBlock := ⟨hgrow.os, hgrow.tape, hgrow.output, hgrow.size, hgrow.block⟩
            have e2 : outL (i : Int) o l (j + 1) = Lj ++ [l j] := by
              show outL (i : Int) o l j ++ _ = _
              rw [if_neg hji2, q5]
            rw [e2]
            exact ⟨((q1.keep HS.out hbO).grow HS.out hgr (fun q hq => (q3.lt q hq).1)).set3 _, vrow_step hA q2 q3.1 hbO (RV.move (fun b hb _ => .inl hb) hbO.size (fun b _ hl => hbO.block b hl) _ _ _ q4) (fun q hq => q3.lt q hq) h3H hgr (by rcases hat with h | h; exact .inl h; exact .inr (by simpa using h)) hown5 3 _⟩
          clear HQ HW Hne hown5 hgrow hat hlt5 d3 d3a df c3 g1 g2 g3 g4 g5 m3 mf v0 v1 v2 v3 v4 v5 hbO hBs
          go_wp2
          go_roundw
          case rel => exact ⟨j + 1, _, by omega, by go_num, HN⟩
          case measure => simp [intOf]; omega
        · go_simp
          refine hK.out _ _ (⟨cell_alloc_old c3, cell_alloc_old g1, cell_alloc_old g2, cell_alloc_old g3, cell_alloc_old g4, cell_alloc_old g5⟩) (fun hHeld => ?_)
          clear hK K
          refine wpAnyH_ready (rs := [1]) (by kernel_rfl) (by simp) ?_
          refine AllReadyH.cons (o := _) rfl (fun K hK => ?_) AllReadyH.nil
          go_simp
          refine hK.out _ _ hHeld (fun hHeld => ?_)
          clear hK K
          refine wpAnyH_ready (rs := [8]) (by kernel_rfl) (by simp) ?_
          refine AllReadyH.cons (o := _) rfl (fun K hK => ?_) AllReadyH.nil
          refine step_append_lies _ (by rfl) (.tmp 27) (.tmp 33) 28 (by rfl) (H + 3) 31 i0 _ 5 80 Tryd.underlying28 hi0 hz0 hz1 hz2 rfl (by omega) (.slice la Lj.length lc) Lj.length us (by simp [Act.eval]) (by exact HW.out) ⟨wr.heap.size, 0, none⟩ 1 1 (cv (l j) (.slice xa xn xc) (.slice ya yn yc)) (by simp [Act.eval]) rfl (by exact World.news_of_block (B := wr.heap.size) (heap_new wr _)) (by intro u hu; simp [cv] at hu; rcases hu with rfl | rfl | rfl | rfl | rfl <;> rfl) (by omega) (by unfold maxLen; omega) (by omega) hBs (wr.heap.size + 1) (by simp) ?_
          intro g cap w5 hown5 hgrow hat hlt5
          have m3 := grown_cell hgrow (p := ⟨H + 1 + 1, 3, none⟩) (cell_alloc_old d3) Hne.out.1
          have mf := grown_frozen hgrow (p := ⟨H + 1 + 1, 3, none⟩) (cell_alloc_old d3) ((frozen_alloc_old d3).trans df) Hne.out.1
          have v0 := grown_cell hgrow (p := ⟨H, 3, none⟩) (cell_alloc_old c3) Hne.out.2.1
          have v1 := grown_cell hgrow (p := ⟨b, ob + j * 5, none⟩) (cell_alloc_old g1) Hne.out.2.2
          have v2 := grown_cell hgrow (p := ⟨b, ob + j * 5 + 1, none⟩) (cell_alloc_old g2) Hne.out.2.2
          have v3 := grown_cell hgrow (p := ⟨b, ob + j * 5 + 2, none⟩) (cell_alloc_old g3) Hne.out.2.2
          have v4 := grown_cell hgrow (p := ⟨b, ob + j * 5 + 3, none⟩) (cell_alloc_old g4) Hne.out.2.2
          have v5 := grown_cell hgrow (p := ⟨b, ob + j * 5 + 4, none⟩) (cell_alloc_old g5) Hne.out.2.2
          refine hK.out _ _ ⟨v0, v1, v2, v3, v4, v5⟩ (fun hHeld => ?_)
          clear hK K
          refine wpAnyH_take (i := 9) (v := .pointer (some ⟨H + 1 + 1, 3, none⟩)) rfl (by kernel_rfl) (by kernel_rfl) (by kernel_rfl) (fun _ _ _ h => h) (Or.inl ⟨by rfl, fun w hw => by go_simp⟩) hHeld ?_
          simp only [Act.put, List.getElem_toArray, List.getElem_cons_zero, List.getElem_cons_succ, List.setIfInBounds_toArray, List.set_cons_zero, List.set_cons_succ]
          refine wpAnyH_ready (rs := [10]) (by kernel_rfl) (by simp) ?_
          refine AllReadyH.cons (o := _) rfl (fun K hK => ?_) AllReadyH.nil
          go_simp
          refine hK.out _ _ ⟨(World.cell?_of_block (w := w5) (Below.heap_setCell _ _ _ _ nH)).trans v0, (World.cell?_of_block (w := w5) (Below.heap_setCell _ _ _ _ nb)).trans v1, (World.cell?_of_block (w := w5) (Below.heap_setCell _ _ _ _ nb)).trans v2, (World.cell?_of_block (w := w5) (Below.heap_setCell _ _ _ _ nb)).trans v3, (World.cell?_of_block (w := w5) (Below.heap_setCell _ _ _ _ nb)).trans v4, (World.cell?_of_block (w := w5) (Below.heap_setCell _ _ _ _ nb)).trans v5⟩ (fun hHeld => ?_)
          clear hK K hHeld
          refine wpAnyH_done (by kernel_rfl) ?_ _
          have HN : Hid (WIv H w (w5.setCell ⟨H + 1 + 1, 3, none⟩ (.slice (some ⟨g, 0, none⟩) (Lj.length + 1) cap)) 3 n s (.slice (some ⟨b, ob, none⟩) ln ca) (.slice a' 0 ca') (.slice (some ⟨g, 0, none⟩) (Lj.length + 1) cap) (.slice .none 0 0) ∧ VRow (H + 3) (Sv A H (.slice (some ⟨g, 0, none⟩) (Lj.length + 1) cap)) (w5.setCell ⟨H + 1 + 1, 3, none⟩ (.slice (some ⟨g, 0, none⟩) (Lj.length + 1) cap)) (.slice (some ⟨g, 0, none⟩) (Lj.length + 1) cap) (outL (i : Int) o l (j + 1))) := by
            obtain ⟨q1, q2, q3, q4, q5⟩ := HQ.out
            have hgr : (wr.alloc (Obj.cells #[.int .i64 (l j).k, .int .i64 (l j).n, .string (l j).s, .slice xa xn xc, .slice ya yn yc] 31)).grownBy w5 (Value.slice la Lj.length lc).ownBlock := ⟨hgrow.os, hgrow.tape, hgrow.output, hgrow.size, hgrow.block⟩
            have e2 : outL (i : Int) o l (j + 1) = Lj ++ [l j] := by
              show outL (i : Int) o l j ++ _ = _
              rw [if_neg hji2, q5]
            rw [e2]
            exact ⟨((q1.keep HS.out hbO).grow HS.out hgr (fun q hq => (q3.lt q hq).1)).set3 _, vrow_step hA q2 q3.1 hbO (RV.move (fun b hb _ => .inl hb) hbO.size (fun b _ hl => hbO.block b hl) _ _ _ q4) (fun q hq => q3.lt q hq) h3H hgr (by rcases hat with h | h; exact .inl h; exact .inr (by simpa using h)) hown5 3 _⟩
          clear HQ HW Hne hown5 hgrow hat hlt5 d3 d3a df c3 g1 g2 g3 g4 g5 m3 mf v0 v1 v2 v3 v4 v5 hbO hBs
          go_wp2
          go_roundw
          case rel => exact ⟨j + 1, _, by omega, by go_num, HN⟩
          case measure => simp [intOf]; omega
    · obtain rfl : j = ln := by omega
      have HV := Lib.hid hinv.out.2
      have HC : Hid (WIv H w wr 3 n s (.slice a j ca) (.slice a' 0 ca') lv (.slice .none 0 0)) := hc
      obtain ⟨us, hown, _⟩ := hinv.out.2
      obtain ⟨la, lc, rfl⟩ := ownForm hown
      clear hinv hown hi0 hz0 hz1 hz2
      go_wp2
      clear c3 c4 pcell
      rename World => w1
      go_loopw [7] (fun iv w9 => iv = .int .i64 0 ∧ w9 = w1) (fun _ _ => 0)
      case atStart => exact ⟨rfl, rfl⟩
      case round =>
        obtain ⟨rfl, rfl⟩ := hrel
        obtain ⟨_, _, _, _, c4⟩ := hc.2.1.cells
        obtain ⟨q0, q1, q2, q3, q4⟩ := hc.2.2.2.cells
        obtain ⟨r0, r1, r2, r3, r4⟩ := hc.2.2.1.cells
        have z0 := hc.2.2.1.frozen 0
        have z1 := hc.2.2.1.frozen 1
        have z2 := hc.2.2.1.frozen 2
        have z3 := hc.2.2.1.frozen 3
        have z4 := hc.2.2.1.frozen 4
        have HE : Hid (∀ wE, Besides (H + 1) wr wE → RV (fun b => b < A ∨ w.heap.size ≤ b) wE (tList (outL (i : Int) o l j)) (.slice la (outL (i : Int) o l j).length lc) (.slice .none 0 0) ∧ Below w.heap.size w wE) := fun wE hE => by
          have h := wo_end HS.out hA HC.out HV.out wE hE
          rw [← HS.out] at h
          exact h
        have HR : Hid (obj wr (H + 1) (.int .i64 0) (.int .i64 0) (.string { data := #[] }) (.slice .none 0 0) (.slice .none 0 0)) := hc.2.2.1
        clear hc HV
        go_wp2
        exact bodyPost_ret (v := .agg #[.int .i64 3, .int .i64 0, .string { data := #[] }, .slice la (outL (i : Int) o l j).length lc, .slice .none 0 0]) (results_cell_row Tryd.results38 _ _ (H + 1) 31 _ (0, 0) _ rfl (((((HR.out.set0 _).set1 _).set2 _).set3 _).set4 _) Tryd.underlying31 rfl info25s) rfl ⟨_, _, rfl, HE.out _ (besides5 _ _ _ _ _ _ _)⟩
    end Go.Proofs.YtdlnnnlmlaploabDoor
