import Derived.Test.YtdlnnnlmlaploabDoorC01
namespace Go.Proofs.YtdlnnnlmlaploabDoor
open Go.RowKit Go.Deep
theorem built74 (k : ByteArray) (n1 n2 : Int) (s : ByteArray) (a1 : Option Addr) (b1 c1 : Nat) (a2 : Option Addr) (b2 c2 : Nat) : Tryd.prog.built 74 [(0, .string k), (1, .agg #[.int .i64 n1, .int .i64 n2, .string s, .slice a1 b1 c1, .slice a2 b2 c2])] = some #[.string k, .int .i64 n1, .int .i64 n2, .string s, .slice a1 b1 c1, .slice a2 b2 c2] := by kernel_rfl
theorem str_ne {a b : ByteArray} (h : a ≠ b) : (a.toList == b.toList) = false := by
  rw [beq_eq_false_iff_ne]
  intro e
  rw [ByteArray.toList_eq, ByteArray.toList_eq] at e
  exact h (ByteArray.ext (Array.toList_inj.1 e))
set_option maxRecDepth 10000 in
set_option maxHeartbeats 8000000 in
theorem wo_dict {i : Nat} {nm : Int} {key : ByteArray} {p : List (Int × ByteArray)} {n : Int} {s : ByteArray} {l : Nat → T} {dn : Nat} {ky : Nat → ByteArray} {dv : Nat → T} (hu : ∀ j, j < dn → ky j = key → j = i) (hch : p ≠ [] → WOC p (dv i)) : WOC ((nm, key) :: p) (.mk 4 n s 0 l dn ky dv) := by
  intro A x y w pa pc hA hP hpc hpl hr hsm
  obtain ⟨⟨a, ca, rfl, _⟩, ⟨a', ca', rfl, hL⟩⟩ := hr
  obtain ⟨pa', pc', eP, hP⟩ := hP
  cases eP
  rcases hP with h | ⟨pg, po, rfl, hpg, hpp⟩
  · cases h
  have p0 := (hpp 0 _ _ rfl).2
  have hpsz : pg < w.heap.size := Nat.lt_of_lt_of_le hpg hA
  have hlen : ((nm, key) :: p).length = p.length + 1 := rfl
  rw [hlen] at hpc hpl ⊢
  have ew : woT ((nm, key) :: p) (.mk 4 n s 0 l dn ky dv) = tDict (outD key (fun j => if p.isEmpty = true then none else some (woT p (dv j))) ky dv dn) := if_neg (by decide)
  rw [ew]
  have hlnl := hsm.2.1
  have HO : Hid ((p = [] → (fun j => if p.isEmpty = true then none else some (woT p (dv j))) i = none) ∧ (p ≠ [] → (fun j => if p.isEmpty = true then none else some (woT p (dv j))) i = some (woT p (dv i)))) := by
    constructor
    · intro h; subst h; rfl
    · intro h
      exact if_neg (fun e => h (List.isEmpty_iff.1 e))
  generalize (fun j => if p.isEmpty = true then none else some (woT p (dv j))) = o at *
  have hsm3 := hsm.2.2.2
  have HI : Hid ((p ≠ [] → WOC p (dv i)) ∧ (∀ j, j < dn → (dv j).small) ∧ (∀ m n k, ((nm, key) :: p)[m]? = some (n, k) → w.cell? ⟨pg, po + m * 2, none⟩ = some (.int .i64 n) ∧ w.cell? ⟨pg, po + m * 2 + 1, none⟩ = some (.string k)) ∧
      (dn = 0 ∨ ∃ b o, a' = some ⟨b, o, none⟩ ∧ b < A ∧ b < w.heap.size ∧ ∀ i, i < dn → ∃ x' y', RV (fun b => b < A) w (dv i) x' y' ∧ w.cell? ⟨b, o + i * 6, none⟩ = some (.string (ky i)) ∧ five w b (o + i * 6 + 1) (dv i) x' y') ∧ (∀ j, j < dn → ky j = key → j = i)) := ⟨hch, hsm3, hpp, hL, hu⟩
  clear hch hsm3 hsm hL hpp ew hlen hu
  obtain ⟨i0, hi0, hz0, hz1, hz2⟩ := info_parts info42
  show Calls Tryd.prog 38 #[.agg #[.int .i64 4, .int .i64 n, .string s, .slice a 0 ca, .slice a' dn ca'], .slice (some ⟨pg, po, none⟩) (p.length + 1) pc] w _
  go_enter Tryd.func38, Tryd.ntmps38
  go_wp2
  have HC : Hid (WIv w.heap.size w (((w.alloc (Obj.cells #[.int .i64 4, .int .i64 n, .string s, .slice a 0 ca, .slice a' dn ca'] 31)).alloc (Obj.cells #[.int .i64 0, .int .i64 0, .string { data := #[] }, .slice .none 0 0, .slice .none 0 0] 31)).alloc (Obj.cells #[.int .i64 4, .int .i64 0, .string { data := #[] }, .slice .none 0 0, .slice .none 0 0] 31)) 4 n s (.slice a 0 ca) (.slice a' dn ca') (.slice .none 0 0) (.slice .none 0 0)) := by
    refine ⟨(((Below.refl _ _).alloc (Nat.le_refl _) _).alloc (by simp) _).alloc (by simp; omega) _, ?_, ?_, ?_⟩
    · exact (Below.heap_alloc _ _ _ (by simp; omega)).trans ((Below.heap_alloc _ _ _ (by simp)).trans (heap_new _ _))
    · exact (Below.heap_alloc _ _ _ (by simp)).trans (by have := heap_new (w.alloc (Obj.cells #[.int .i64 4, .int .i64 n, .string s, .slice a 0 ca, .slice a' dn ca'] 31)) (Obj.cells #[.int .i64 0, .int .i64 0, .string { data := #[] }, .slice .none 0 0, .slice .none 0 0] 31); simpa using this)
    · have := heap_new ((w.alloc (Obj.cells #[.int .i64 4, .int .i64 n, .string s, .slice a 0 ca, .slice a' dn ca'] 31)).alloc (Obj.cells #[.int .i64 0, .int .i64 0, .string { data := #[] }, .slice .none 0 0, .slice .none 0 0] 31)) (Obj.cells #[.int .i64 4, .int .i64 0, .string { data := #[] }, .slice .none 0 0, .slice .none 0 0] 31)
      simpa [obj] using this
  generalize (((w.alloc (Obj.cells #[.int .i64 4, .int .i64 n, .string s, .slice a 0 ca, .slice a' dn ca'] 31)).alloc (Obj.cells #[.int .i64 0, .int .i64 0, .string { data := #[] }, .slice .none 0 0, .slice .none 0 0] 31)).alloc (Obj.cells #[.int .i64 4, .int .i64 0, .string { data := #[] }, .slice .none 0 0, .slice .none 0 0] 31)) = w0 at *
  have HP0 : Hid (w.cell? ⟨pg, po + 1, none⟩ = some (.string key)) := Lib.hid (by simpa using p0)
  clear p0
  generalize hvb : w.heap.size = H at *
  have HS : Hid (w.heap.size = H) := hvb
  clear hvb
  generalize hpn : p.length + 1 = pn at *
  have HPN : Hid (p.length + 1 = pn) := hpn
  have pn0 : (0 : Int) < (pn : Int) := by omega
  have pn1 : 0 < pn := by omega
  clear hpn
  go_loopw [6] (fun iv wr => iv = .int .i64 0 ∧ wr = w0) (fun _ _ => 0)
  case atStart => exact ⟨rfl, rfl⟩
  case round =>
    obtain ⟨rfl, rfl⟩ := hrel
    obtain ⟨_, _, _, c3, c4⟩ := HC.out.2.1.cells
    go_wp2
    clear c3 c4
    rename World => w1
    go_loopw [7] (fun iv wr => ∃ (j : Nat) (lv : Value), j ≤ dn ∧ iv = .int .i64 j ∧ Hid (WIv H w wr 4 n s (.slice a 0 ca) (.slice a' dn ca') (.slice .none 0 0) lv ∧ PRow (H + 3) (Sv A H lv) wr lv (outD key o ky dv j))) (fun iv _ => dn - (intOf iv).toNat)
    case atStart => exact ⟨0, _, Nat.zero_le _, rfl, HC.out, PRow.nil _ _ _⟩
    case round =>
      clear HC
      obtain ⟨j, lv, hj, rfl, hinv⟩ := hrel
      have hc := hinv.out.1
      obtain ⟨_, _, _, _, c4⟩ := hc.2.1.cells
      have pcell : wr.cell? ⟨pg, po + 1, none⟩ = some (.string key) := Below.cellS hc.1 (Nat.le_of_eq HS.out) HP0.out
      by_cases hlt : j < dn
      · have j0 : (0 : Int) ≤ (j : Int) := by omega
        have j1 : (j : Int) < (dn : Int) := by omega
        obtain ⟨_, _, _, hL, _⟩ := HI.out
        rcases hL with h | ⟨b, ob, rfl, hbA, hbl, hL⟩
        · omega
        obtain ⟨x1, y1, hv, g0, g1, g2, g3, g4, g5⟩ := hL j hlt
        have hle : w.heap.size ≤ H := Nat.le_of_eq HS.out
        replace g0 := Below.cellS hc.1 hle g0
        replace g1 := Below.cellS hc.1 hle g1
        replace g2 := Below.cellS hc.1 hle g2
        replace g3 := Below.cellS hc.1 hle g3
        replace g4 := Below.cellS hc.1 hle g4
        replace g5 := Below.cellS hc.1 hle g5
        have hv' : RV (fun b => b < A) wr (dv j) x1 y1 := RV.move (fun _ h _ => h) hc.1.size (fun b hb _ => hc.1.block b (Nat.lt_of_lt_of_le hb hA)) _ _ _ hv
        obtain ⟨⟨xa, xn, xc, rfl⟩, ⟨ya, yn, yc, rfl⟩⟩ := hv.slices
        obtain ⟨us, hown, hel⟩ := hinv.out.2
        obtain ⟨la, lc, rfl⟩ := ownForm hown
        have hlen := outD_len (key := key) (o := o) (ky := ky) (dv := dv) j
        have h3H : H + 3 ≤ wr.heap.size := by have := hc.2.2.2.lt; omega
        generalize hLj : outD key o ky dv j = Lj at *
        have HQ : Hid (WIv H w wr 4 n s (.slice a 0 ca) (.slice (some ⟨b, ob, none⟩) dn ca') (.slice .none 0 0) (.slice la Lj.length lc) ∧ (∀ k, k < Lj.length → ∃ x y, RV (Sv A H (.slice la Lj.length lc)) wr (Lj.getD k (ByteArray.empty, .no)).2 x y ∧ ∀ r, r < 6 → us[k * 6 + r]? = (.string (Lj.getD k (ByteArray.empty, .no)).1 :: cv (Lj.getD k (ByteArray.empty, .no)).2 x y)[r]?) ∧ wr.ownsRow (H + 3) 74 6 (.slice la Lj.length lc) Lj.length us ∧ RV (fun b => b < A) wr (dv j) (.slice xa xn xc) (.slice ya yn yc) ∧ outD key o ky dv j = Lj) := ⟨hc, hel, hown, hv', hLj⟩
        clear hc hel hown hv hv' hLj hinv hL hle
        go_wp2_with fail
        have hb1 : Below wr.heap.size wr (wr.alloc (Obj.cells #[.string (ky j), .int .i64 (dv j).k, .int .i64 (dv j).n, .string (dv j).s, .slice xa xn xc, .slice ya yn yc] 74)) := (Below.refl _ _).alloc (Nat.le_refl _) _
        have hbk : blk (wr.alloc (Obj.cells #[.string (ky j), .int .i64 (dv j).k, .int .i64 (dv j).n, .string (dv j).s, .slice xa xn xc, .slice ya yn yc] 74)) wr.heap.size 74 #[.string (ky j), .int .i64 (dv j).k, .int .i64 (dv j).n, .string (dv j).s, .slice xa xn xc, .slice ya yn yc] := heap_new _ _
        have pc1 : (wr.alloc (Obj.cells #[.string (ky j), .int .i64 (dv j).k, .int .i64 (dv j).n, .string (dv j).s, .slice xa xn xc, .slice ya yn yc] 74)).cell? ⟨pg, po + 1, none⟩ = some (.string key) := cell_alloc_old pcell
        have HB1 := Lib.hid (And.intro hb1 hbk)
        clear c4 g0 g1 g2 g3 g4 g5 pcell
        have hsz1 := hb1.size
        generalize hpb : wr.heap.size = pb at *
        have HPB : Hid (wr.heap.size = pb) := hpb
        clear hpb hb1
        generalize wr.alloc (Obj.cells #[.string (ky j), .int .i64 (dv j).k, .int .i64 (dv j).n, .string (dv j).s, .slice xa xn xc, .slice ya yn yc] 74) = W1 at *
        have k0 : W1.cell? ⟨pb, 0, none⟩ = some (.string (ky j)) := hbk.cell 0
        clear hbk
        by_cases hkj : ky j = key
        · obtain rfl : j = i := HI.out.2.2.2.2 j hlt hkj
          have hke : ((ky j).toList == key.toList) = true := by rw [hkj]; simp
          have hke2 : (ky j).toList = key.toList := by rw [hkj]
          have HKJ := Lib.hid hkj
          clear hkj
          refine wp_region_held_drew (S := fun w' => w'.cell? ⟨pb, 0, none⟩ = some (.string (ky j)) ∧ w'.cell? ⟨pg, po + 1, none⟩ = some (.string key)) (by kernel_rfl) (⟨k0, pc1⟩) (fun hHeld => ?_)
          refine wpAnyH_take (i := 0) (v := .pointer (some ⟨pb, 0, none⟩)) rfl (by kernel_rfl) (by kernel_rfl) (by kernel_rfl) (fun _ _ _ h => h) (Or.inl ⟨by rfl, fun w hw => by go_simp⟩) hHeld ?_
          simp only [Act.put, List.getElem_toArray, List.getElem_cons_zero, List.setIfInBounds_toArray, List.set_cons_zero, List.set_cons_succ]
          refine wpAnyH_take (i := 1) (v := .string (ky j)) rfl (by kernel_rfl) (by kernel_rfl) (by kernel_rfl) (fun _ _ _ h => h) (Or.inl ⟨by rfl, fun w hw => by have := hw.1; go_simp⟩) hHeld ?_
          simp only [Act.put, List.getElem_toArray, List.getElem_cons_zero, List.getElem_cons_succ, List.setIfInBounds_toArray, List.set_cons_zero, List.set_cons_succ]
          refine wpAnyH_take (i := 2) (v := .slice (some ⟨pg, po, none⟩) pn pc) rfl (by kernel_rfl) (by kernel_rfl) (by kernel_rfl) (fun _ _ _ h => h) (Or.inl ⟨by rfl, fun w hw => by go_simp⟩) hHeld ?_
          simp only [Act.put, List.getElem_toArray, List.getElem_cons_zero, List.getElem_cons_succ, List.setIfInBounds_toArray, List.set_cons_zero, List.set_cons_succ]
          refine wpAnyH_take (i := 3) (v := .pointer (some ⟨pg, po, none⟩)) rfl (by kernel_rfl) (by kernel_rfl) (by kernel_rfl) (fun _ _ _ h => h) (Or.inl ⟨by rfl, fun w hw => by go_simp⟩) hHeld ?_
          simp only [Act.put, List.getElem_toArray, List.getElem_cons_zero, List.getElem_cons_succ, List.setIfInBounds_toArray, List.set_cons_zero, List.set_cons_succ]
          refine wpAnyH_take (i := 4) (v := .pointer (some ⟨pg, po + 1, none⟩)) rfl (by kernel_rfl) (by kernel_rfl) (by kernel_rfl) (fun _ _ _ h => h) (Or.inl ⟨by rfl, fun w hw => by go_simp⟩) hHeld ?_
          simp only [Act.put, List.getElem_toArray, List.getElem_cons_zero, List.getElem_cons_succ, List.setIfInBounds_toArray, List.set_cons_zero, List.set_cons_succ]
          refine wpAnyH_take (i := 5) (v := .string key) rfl (by kernel_rfl) (by kernel_rfl) (by kernel_rfl) (fun _ _ _ h => h) (Or.inl ⟨by rfl, fun w hw => by have := hw.2; go_simp⟩) hHeld ?_
          simp only [Act.put, List.getElem_toArray, List.getElem_cons_zero, List.getElem_cons_succ, List.setIfInBounds_toArray, List.set_cons_zero, List.set_cons_succ]
          refine wpAnyH_take (i := 6) (v := .bool false) rfl (by kernel_rfl) (by kernel_rfl) (by kernel_rfl) (fun _ _ _ h => h) (Or.inl ⟨by rfl, fun w hw => by go_simp⟩) hHeld ?_
          simp only [Act.put, List.getElem_toArray, List.getElem_cons_zero, List.getElem_cons_succ, List.setIfInBounds_toArray, List.set_cons_zero, List.set_cons_succ]
          refine wpAnyH_take (i := 7) (v := .bool false) rfl (by kernel_rfl) (by kernel_rfl) (by kernel_rfl) (fun _ _ _ h => h) (Or.inl ⟨by rfl, fun w hw => by go_simp⟩) hHeld ?_
          simp only [Act.put, List.getElem_toArray, List.getElem_cons_zero, List.getElem_cons_succ, List.setIfInBounds_toArray, List.set_cons_zero, List.set_cons_succ]
          refine wpAnyH_done (by kernel_rfl) ?_ _
          have hb2 : Below pb wr W1.drew := ⟨HB1.out.1.os, HB1.out.1.tape, HB1.out.1.output, HB1.out.1.size, HB1.out.1.block⟩
          have hbk2 : blk W1.drew pb 74 #[.string (ky j), .int .i64 (dv j).k, .int .i64 (dv j).n, .string (dv j).s, .slice xa xn xc, .slice ya yn yc] := HB1.out.2
          have hsz2 : pb ≤ W1.drew.heap.size := hsz1
          clear hHeld HB1 k0 pc1 hsz1
          generalize W1.drew = W2 at *
          obtain ⟨e4, ef⟩ : W2.cell? ⟨H + 1 + 1, 4, none⟩ = some (.slice la Lj.length lc) ∧ W2.frozen? ⟨H + 1 + 1, 4, none⟩ = false := by
            have hq := HQ.out.1.2.2.2.keep (hb2.block _ (by have := HQ.out.1.2.2.2.lt; have := HPB.out; omega))
            exact ⟨hq.cells.2.2.2.2, hq.frozen 4⟩
          have k0 : W2.cell? ⟨pb, 0, none⟩ = some (.string (ky j)) := hbk2.cell 0
          have k1 : W2.cell? ⟨pb, 1, none⟩ = some (.int .i64 (dv j).k) := hbk2.cell 1
          have k2 : W2.cell? ⟨pb, 2, none⟩ = some (.int .i64 (dv j).n) := hbk2.cell 2
          have k3 : W2.cell? ⟨pb, 3, none⟩ = some (.string (dv j).s) := hbk2.cell 3
          have k4 : W2.cell? ⟨pb, 4, none⟩ = some (.slice xa xn xc) := hbk2.cell 4
          have k5 : W2.cell? ⟨pb, 5, none⟩ = some (.slice ya yn yc) := hbk2.cell 5
          have HB2 := Lib.hid (And.intro hb2 hbk2)
          have hne0 : some (H + 1 + 1) ≠ (Value.slice la Lj.length lc).ownBlock := fun e => by have := (HQ.out.2.2.1.lt _ e.symm).1; omega
          have Hne : Hid (some (H + 1 + 1) ≠ (Value.slice la Lj.length lc).ownBlock) := hne0
          clear hb2 hbk2 hne0
          by_cases hp : p = []
          · subst hp
            have e1 : pn = 1 := HPN.out.symm
            subst e1
            have HN : Hid (WIv H w W2 4 n s (.slice a 0 ca) (.slice (some ⟨b, ob, none⟩) dn ca') (.slice .none 0 0) (.slice la Lj.length lc) ∧ PRow (H + 3) (Sv A H (.slice la Lj.length lc)) W2 (.slice la Lj.length lc) (outD key o ky dv (j + 1))) := by
              obtain ⟨q1, q2, q3, q4, q5⟩ := HQ.out
              have e2 : outD key o ky dv (j + 1) = Lj := by
                show outD key o ky dv j ++ _ = _
                rw [if_pos HKJ.out, HO.out.1 rfl, q5]; simp
              have hb : Below wr.heap.size wr W2 := HPB.out ▸ HB2.out.1
              rw [e2]
              exact ⟨q1.keep HS.out hb, PRow.keep (⟨us, q3, q2⟩ : PRow _ _ wr _ _) hb.size (fun q hq hl => hb.block q hl) (fun b hb' hl => ⟨hb', hb.block b hl⟩)⟩
            clear HQ Hne e4 ef k0 k1 k2 k3 k4 k5 HB2
            go_wp2
            go_roundw
            case rel => exact ⟨j + 1, _, by omega, by go_num, HN⟩
            case measure => simp [intOf]; omega
          · obtain rfl : p.length + 1 = pn := HPN.out
            have hp1 : 0 < p.length := List.length_pos_iff.2 hp
            have q1 : (1 : Int) < ((p.length + 1 : Nat) : Int) := by omega
            have q2 : (1 : Int) < (p.length : Int) + 1 := by omega
            have q3 : (p.length : Int) + 1 ≤ (pc : Int) := by omega
            have q4 : ¬ pc - 1 = 0 := by omega
            have q5 : (1 : Int) ≤ (p.length : Int) + 1 := by omega
            have q6 : 1 < pc := by omega
            have q7 : ¬ pc = 1 := by omega
            have HCL : Hid (Calls Tryd.prog 38 #[vv (dv j) (.slice xa xn xc) (.slice ya yn yc), .slice (some ⟨pg, po + 2, none⟩) p.length (pc - 1)] W2.drew fun e w' => ∃ x' y', e = .returned (vv (woT p (dv j)) x' y') ∧ RV (fun b => b < A ∨ W2.heap.size ≤ b) w' (woT p (dv j)) x' y' ∧ Below W2.heap.size W2 w') := by
              obtain ⟨u1, u2, u3, u4, u5⟩ := HQ.out
              have hb : Below wr.heap.size wr W2 := HPB.out ▸ HB2.out.1
              have hAw : A ≤ W2.drew.heap.size := Nat.le_trans hA (by show H ≤ W2.heap.size; omega)
              have hps : PSA A W2.drew (.slice (some ⟨pg, po + 2, none⟩) p.length (pc - 1)) p := by
                refine ⟨_, _, rfl, .inr ⟨pg, po + 2, rfl, hpg, fun m n k hm => ?_⟩⟩
                obtain ⟨z1, z2⟩ := HI.out.2.2.1 (m + 1) n k (by simpa using hm)
                have e1 : po + (m + 1) * 2 = po + 2 + m * 2 := by omega
                rw [e1] at z1 z2
                have hbk := (hb.block pg (by have := HPB.out; omega)).trans (u1.1.block pg hpsz)
                exact ⟨(World.cell?_of_block (w := w) hbk).trans z1, (World.cell?_of_block (w := w) hbk).trans z2⟩
              refine (HI.out.1 hp A _ _ W2.drew _ _ hAw hps (by omega) (by omega) (RV.move (w := wr) (w' := W2.drew) (fun _ h _ => h) hb.size (fun b _ hl => hb.block b hl) _ _ _ u4) (HI.out.2.1 j hlt)).mono ?_
              rintro e w' ⟨x', y', z1, z2, z3⟩
              exact ⟨x', y', z1, z2, ⟨z3.os, z3.tape, z3.output, z3.size, z3.block⟩⟩
            have HOJ : Hid (o j = some (woT p (dv j))) := HO.out.2 hp
            generalize woT p (dv j) = tj at *
            go_wp2_with fail
            refine wp_region_held_drew (S := fun w' => w'.cell? ⟨pb, 0, none⟩ = some (.string (ky j)) ∧ w'.cell? ⟨pb, 1, none⟩ = some (.int .i64 (dv j).k) ∧ w'.cell? ⟨pb, 2, none⟩ = some (.int .i64 (dv j).n) ∧ w'.cell? ⟨pb, 3, none⟩ = some (.string (dv j).s) ∧ w'.cell? ⟨pb, 4, none⟩ = some (.slice xa xn xc) ∧ w'.cell? ⟨pb, 5, none⟩ = some (.slice ya yn yc)) (by kernel_rfl) (⟨k0, k1, k2, k3, k4, k5⟩) (fun hHeld => ?_)
            refine wpAnyH_take (i := 0) (v := .pointer (some ⟨H + 1 + 1, 4, none⟩)) rfl (by kernel_rfl) (by kernel_rfl) (by kernel_rfl) (fun _ _ _ h => h) (Or.inl ⟨by rfl, fun w hw => by go_simp⟩) hHeld ?_
            simp only [Act.put, List.getElem_toArray, List.getElem_cons_zero, List.setIfInBounds_toArray, List.set_cons_zero, List.set_cons_succ]
            refine wpAnyH_take (i := 2) (v := .pointer (some ⟨pb, 0, none⟩)) rfl (by kernel_rfl) (by kernel_rfl) (by kernel_rfl) (fun _ _ _ h => h) (Or.inl ⟨by rfl, fun w hw => by go_simp⟩) hHeld ?_
            simp only [Act.put, List.getElem_toArray, List.getElem_cons_zero, List.getElem_cons_succ, List.setIfInBounds_toArray, List.set_cons_zero, List.set_cons_succ]
            refine wpAnyH_take (i := 3) (v := .string (ky j)) rfl (by kernel_rfl) (by kernel_rfl) (by kernel_rfl) (fun _ _ _ h => h) (Or.inl ⟨by rfl, fun w hw => by have := hw.1; go_simp⟩) hHeld ?_
            simp only [Act.put, List.getElem_toArray, List.getElem_cons_zero, List.getElem_cons_succ, List.setIfInBounds_toArray, List.set_cons_zero, List.set_cons_succ]
            refine wpAnyH_take (i := 4) (v := .pointer (some ⟨pb, 1, none⟩)) rfl (by kernel_rfl) (by kernel_rfl) (by kernel_rfl) (fun _ _ _ h => h) (Or.inl ⟨by rfl, fun w hw => by go_simp⟩) hHeld ?_
            simp only [Act.put, List.getElem_toArray, List.getElem_cons_zero, List.getElem_cons_succ, List.setIfInBounds_toArray, List.set_cons_zero, List.set_cons_succ]
            refine wpAnyH_take (i := 5) (v := .agg #[.int .i64 (dv j).k, .int .i64 (dv j).n, .string (dv j).s, .slice xa xn xc, .slice ya yn yc]) rfl (by kernel_rfl) (by kernel_rfl) (by kernel_rfl) (fun _ _ _ h => h) (Or.inl ⟨by rfl, fun w hw => by obtain ⟨_, c0, c1, c2, c3, c4⟩ := hw; go_simp⟩) hHeld ?_
            simp only [Act.put, List.getElem_toArray, List.getElem_cons_zero, List.getElem_cons_succ, List.setIfInBounds_toArray, List.set_cons_zero, List.set_cons_succ]
            refine wpAnyH_take (i := 6) (v := .slice (some ⟨pg, po, none⟩) (p.length + 1) pc) rfl (by kernel_rfl) (by kernel_rfl) (by kernel_rfl) (fun _ _ _ h => h) (Or.inl ⟨by rfl, fun w hw => by go_simp⟩) hHeld ?_
            simp only [Act.put, List.getElem_toArray, List.getElem_cons_zero, List.getElem_cons_succ, List.setIfInBounds_toArray, List.set_cons_zero, List.set_cons_succ]
            refine wpAnyH_take (i := 7) (v := .slice (some ⟨pg, po + 2, none⟩) p.length (pc - 1)) rfl (by kernel_rfl) (by kernel_rfl) (by kernel_rfl) (fun _ _ _ h => h) (Or.inl ⟨by rfl, fun w hw => by go_simp⟩) hHeld ?_
            simp only [Act.put, List.getElem_toArray, List.getElem_cons_zero, List.getElem_cons_succ, List.setIfInBounds_toArray, List.set_cons_zero, List.set_cons_succ]
            refine wpAnyH_ready (rs := [1, 8]) (by kernel_rfl) (by simp) ?_
            refine AllReadyH.cons (o := _) rfl (fun K hK => ?_) (AllReadyH.cons (o := _) rfl (fun K hK => ?_) AllReadyH.nil)
            · go_simp
              refine hK.out _ _ (hHeld) (fun hHeld => ?_)
              clear hK K
              refine wpAnyH_ready (rs := [8]) (by kernel_rfl) (by simp) ?_
              refine AllReadyH.cons (o := _) rfl (fun K hK => ?_) AllReadyH.nil
              go_simp
              refine (HCL.out).mono ?_
              rintro e w2 ⟨x2, y2, rfl, hrv2, hb2⟩
              obtain ⟨⟨xa2, xn2, xc2, rfl⟩, ⟨ya2, yn2, yc2, rfl⟩⟩ := hrv2.slices
              have hbw : Below wr.heap.size wr w2 := (HPB.out ▸ HB2.out.1 : Below wr.heap.size wr W2).trans (hb2.mono (by have := HPB.out; omega))
              have hbO : Below wr.heap.size wr (w2.alloc (Obj.cells #[.string (ky j), .int .i64 tj.k, .int .i64 tj.n, .string tj.s, .slice xa2 xn2 xc2, .slice ya2 yn2 yc2] 74)) := hbw.alloc hbw.size _
              have HW : Hid ((w2.alloc (Obj.cells #[.string (ky j), .int .i64 tj.k, .int .i64 tj.n, .string tj.s, .slice xa2 xn2 xc2, .slice ya2 yn2 yc2] 74)).ownsRow (H + 3) 74 6 (.slice la Lj.length lc) Lj.length us) := own_keep HQ.out.2.2.1 (fun x _ hx => hbO.block x hx)
              have hBs : H + 3 ≤ (w2.alloc (Obj.cells #[.string (ky j), .int .i64 tj.k, .int .i64 tj.n, .string tj.s, .slice xa2 xn2 xc2, .slice ya2 yn2 yc2] 74)).heap.size := Nat.le_trans (by have := HPB.out; omega) hbO.size
              have HR2 : Hid (RV (fun b => b < A ∨ wr.heap.size ≤ b) (w2.alloc (Obj.cells #[.string (ky j), .int .i64 tj.k, .int .i64 tj.n, .string tj.s, .slice xa2 xn2 xc2, .slice ya2 yn2 yc2] 74)) tj (.slice xa2 xn2 xc2) (.slice ya2 yn2 yc2)) := RV.move (fun b h _ => by rcases h with h | h; exact .inl h; exact .inr (by have := HPB.out; omega)) (by simp) (fun b _ hl => Below.heap_alloc _ _ _ hl) _ _ _ hrv2
              have f4 := Below.cellS hb2 (Nat.le_refl _) e4
              have f4a : (w2.alloc (Obj.cells #[.string (ky j), .int .i64 tj.k, .int .i64 tj.n, .string tj.s, .slice xa2 xn2 xc2, .slice ya2 yn2 yc2] 74)).cell? ⟨H + 1 + 1, 4, none⟩ = some (.slice la Lj.length lc) := cell_alloc_old f4
              have ff : w2.frozen? ⟨H + 1 + 1, 4, none⟩ = false := (World.frozen?_of_block (w := W2) (hb2.block (H + 1 + 1) (by omega))).trans ef
              have c0 := Below.cellS hb2 (Nat.le_refl _) k0
              have c1 := Below.cellS hb2 (Nat.le_refl _) k1
              have c2 := Below.cellS hb2 (Nat.le_refl _) k2
              have c3 := Below.cellS hb2 (Nat.le_refl _) k3
              have c4 := Below.cellS hb2 (Nat.le_refl _) k4
              have c5 := Below.cellS hb2 (Nat.le_refl _) k5
              have hsz3 : H + 3 ≤ w2.heap.size := Nat.le_trans (by omega) hb2.size
              clear hrv2 k0 k1 k2 k3 k4 k5
              unfold vv
              refine hK.out _ _ (⟨c0, c1, c2, c3, c4, c5⟩) (fun hHeld => ?_)
              clear hK K
              refine wpAnyH_take (i := 9) (v := .agg #[.string (ky j), .int .i64 tj.k, .int .i64 tj.n, .string tj.s, .slice xa2 xn2 xc2, .slice ya2 yn2 yc2]) rfl (by kernel_rfl) (by kernel_rfl) (by kernel_rfl) (fun _ _ _ h => h) (yieldsIf_buildS8 (by rfl) 74 _ rfl _ (by rw [Array.toList_map]; exact built74 _ _ _ _ _ _ _ _ _ _)) hHeld ?_
              simp only [Act.put, List.getElem_toArray, List.getElem_cons_zero, List.getElem_cons_succ, List.setIfInBounds_toArray, List.set_cons_zero, List.set_cons_succ]
              refine wpAnyH_ready (rs := [10]) (by kernel_rfl) (by simp) ?_
              refine AllReadyH.cons (o := _) rfl (fun K hK => ?_) AllReadyH.nil
              go_simp
              refine hK.out _ _ (⟨cell_alloc_old c0, cell_alloc_old c1, cell_alloc_old c2, cell_alloc_old c3, cell_alloc_old c4, cell_alloc_old c5⟩) (fun hHeld => ?_)
              clear hK K
              refine wpAnyH_ready (rs := [11]) (by kernel_rfl) (by simp) ?_
              refine AllReadyH.cons (o := _) rfl (fun K hK => ?_) AllReadyH.nil
              refine step_append_lies _ (by rfl) (.tmp 84) (.tmp 93) 29 (by rfl) (H + 3) 74 i0 _ 6 96 Tryd.underlying29 hi0 hz0 hz1 hz2 rfl (by omega) (.slice la Lj.length lc) Lj.length us (by simp [Act.eval]) (by exact HW.out) ⟨w2.heap.size, 0, none⟩ 1 1 (.string (ky j) :: cv tj (.slice xa2 xn2 xc2) (.slice ya2 yn2 yc2)) (by simp [Act.eval]) rfl (by exact World.news_of_block (B := w2.heap.size) (heap_new w2 _)) (by intro u hu; simp [cv] at hu; rcases hu with rfl | rfl | rfl | rfl | rfl | rfl <;> rfl) (by omega) (by unfold maxLen; omega) (by omega) hBs (w2.heap.size + 1) (by simp) ?_
              intro g cap w5 hown5 hgrow hat hlt5
              have m4 := grown_cell hgrow (p := ⟨H + 1 + 1, 4, none⟩) (cell_alloc_old f4) Hne.out
              have mf := grown_frozen hgrow (p := ⟨H + 1 + 1, 4, none⟩) (cell_alloc_old f4) ((frozen_alloc_old f4).trans ff) Hne.out
              have npb : some pb ≠ (Value.slice la Lj.length lc).ownBlock := fun e => by have := (HQ.out.2.2.1.lt _ e.symm).2; have := HPB.out; omega
              have v0 := grown_cell hgrow (p := ⟨pb, 0, none⟩) (cell_alloc_old c0) npb
              have v1 := grown_cell hgrow (p := ⟨pb, 1, none⟩) (cell_alloc_old c1) npb
              have v2 := grown_cell hgrow (p := ⟨pb, 2, none⟩) (cell_alloc_old c2) npb
              have v3 := grown_cell hgrow (p := ⟨pb, 3, none⟩) (cell_alloc_old c3) npb
              have v4 := grown_cell hgrow (p := ⟨pb, 4, none⟩) (cell_alloc_old c4) npb
              have v5 := grown_cell hgrow (p := ⟨pb, 5, none⟩) (cell_alloc_old c5) npb
              clear npb
              refine hK.out _ _ ⟨v0, v1, v2, v3, v4, v5⟩ (fun hHeld => ?_)
              clear hK K
              have nb : pb ≠ H + 1 + 1 := by omega
              refine wpAnyH_take (i := 12) (v := .pointer (some ⟨H + 1 + 1, 4, none⟩)) rfl (by kernel_rfl) (by kernel_rfl) (by kernel_rfl) (fun _ _ _ h => h) (Or.inl ⟨by rfl, fun w hw => by go_simp⟩) hHeld ?_
              simp only [Act.put, List.getElem_toArray, List.getElem_cons_zero, List.getElem_cons_succ, List.setIfInBounds_toArray, List.set_cons_zero, List.set_cons_succ]
              refine wpAnyH_ready (rs := [13]) (by kernel_rfl) (by simp) ?_
              refine AllReadyH.cons (o := _) rfl (fun K hK => ?_) AllReadyH.nil
              go_simp
              refine hK.out _ _ ⟨(World.cell?_of_block (w := w5) (Below.heap_setCell _ _ _ _ nb)).trans v0, (World.cell?_of_block (w := w5) (Below.heap_setCell _ _ _ _ nb)).trans v1, (World.cell?_of_block (w := w5) (Below.heap_setCell _ _ _ _ nb)).trans v2, (World.cell?_of_block (w := w5) (Below.heap_setCell _ _ _ _ nb)).trans v3, (World.cell?_of_block (w := w5) (Below.heap_setCell _ _ _ _ nb)).trans v4, (World.cell?_of_block (w := w5) (Below.heap_setCell _ _ _ _ nb)).trans v5⟩ (fun hHeld => ?_)
              clear hK K hHeld
              refine wpAnyH_done (by kernel_rfl) ?_ _
              have HN : Hid (WIv H w (w5.setCell ⟨H + 1 + 1, 4, none⟩ (.slice (some ⟨g, 0, none⟩) (Lj.length + 1) cap)) 4 n s (.slice a 0 ca) (.slice (some ⟨b, ob, none⟩) dn ca') (.slice .none 0 0) (.slice (some ⟨g, 0, none⟩) (Lj.length + 1) cap) ∧ PRow (H + 3) (Sv A H (.slice (some ⟨g, 0, none⟩) (Lj.length + 1) cap)) (w5.setCell ⟨H + 1 + 1, 4, none⟩ (.slice (some ⟨g, 0, none⟩) (Lj.length + 1) cap)) (.slice (some ⟨g, 0, none⟩) (Lj.length + 1) cap) (outD key o ky dv (j + 1))) := by
                obtain ⟨q1, q2, q3, q4, q5⟩ := HQ.out
                have e2 : outD key o ky dv (j + 1) = Lj ++ [(ky j, tj)] := by
                  show outD key o ky dv j ++ _ = _
                  rw [if_pos HKJ.out, HOJ.out, q5]; rfl
                rw [e2]
                exact ⟨((q1.keep HS.out hbO).grow HS.out hgrow (fun q hq => (q3.lt q hq).1)).set4 _, prow_step hA q2 q3.1 hbO HR2.out (fun q hq => q3.lt q hq) (by have := HPB.out; omega) hgrow (by rcases hat with h | h; exact .inl h; exact .inr (by simpa using h)) hown5 4 _⟩
              clear HQ HW HR2 Hne hown5 hgrow hat hlt5 e4 ef f4 f4a ff c0 c1 c2 c3 c4 c5 m4 mf v0 v1 v2 v3 v4 v5 hbO hbw hBs hb2 HB2
              go_wp2
              go_roundw
              case rel => exact ⟨j + 1, _, by omega, by go_num, HN⟩
              case measure => simp [intOf]; omega
            · go_simp
              refine (HCL.out).mono ?_
              rintro e w2 ⟨x2, y2, rfl, hrv2, hb2⟩
              obtain ⟨⟨xa2, xn2, xc2, rfl⟩, ⟨ya2, yn2, yc2, rfl⟩⟩ := hrv2.slices
              have hbw : Below wr.heap.size wr w2 := (HPB.out ▸ HB2.out.1 : Below wr.heap.size wr W2).trans (hb2.mono (by have := HPB.out; omega))
              have hbO : Below wr.heap.size wr (w2.alloc (Obj.cells #[.string (ky j), .int .i64 tj.k, .int .i64 tj.n, .string tj.s, .slice xa2 xn2 xc2, .slice ya2 yn2 yc2] 74)) := hbw.alloc hbw.size _
              have HW : Hid ((w2.alloc (Obj.cells #[.string (ky j), .int .i64 tj.k, .int .i64 tj.n, .string tj.s, .slice xa2 xn2 xc2, .slice ya2 yn2 yc2] 74)).ownsRow (H + 3) 74 6 (.slice la Lj.length lc) Lj.length us) := own_keep HQ.out.2.2.1 (fun x _ hx => hbO.block x hx)
              have hBs : H + 3 ≤ (w2.alloc (Obj.cells #[.string (ky j), .int .i64 tj.k, .int .i64 tj.n, .string tj.s, .slice xa2 xn2 xc2, .slice ya2 yn2 yc2] 74)).heap.size := Nat.le_trans (by have := HPB.out; omega) hbO.size
              have HR2 : Hid (RV (fun b => b < A ∨ wr.heap.size ≤ b) (w2.alloc (Obj.cells #[.string (ky j), .int .i64 tj.k, .int .i64 tj.n, .string tj.s, .slice xa2 xn2 xc2, .slice ya2 yn2 yc2] 74)) tj (.slice xa2 xn2 xc2) (.slice ya2 yn2 yc2)) := RV.move (fun b h _ => by rcases h with h | h; exact .inl h; exact .inr (by have := HPB.out; omega)) (by simp) (fun b _ hl => Below.heap_alloc _ _ _ hl) _ _ _ hrv2
              have f4 := Below.cellS hb2 (Nat.le_refl _) e4
              have f4a : (w2.alloc (Obj.cells #[.string (ky j), .int .i64 tj.k, .int .i64 tj.n, .string tj.s, .slice xa2 xn2 xc2, .slice ya2 yn2 yc2] 74)).cell? ⟨H + 1 + 1, 4, none⟩ = some (.slice la Lj.length lc) := cell_alloc_old f4
              have ff : w2.frozen? ⟨H + 1 + 1, 4, none⟩ = false := (World.frozen?_of_block (w := W2) (hb2.block (H + 1 + 1) (by omega))).trans ef
              have c0 := Below.cellS hb2 (Nat.le_refl _) k0
              have c1 := Below.cellS hb2 (Nat.le_refl _) k1
              have c2 := Below.cellS hb2 (Nat.le_refl _) k2
              have c3 := Below.cellS hb2 (Nat.le_refl _) k3
              have c4 := Below.cellS hb2 (Nat.le_refl _) k4
              have c5 := Below.cellS hb2 (Nat.le_refl _) k5
              have hsz3 : H + 3 ≤ w2.heap.size := Nat.le_trans (by omega) hb2.size
              clear hrv2 k0 k1 k2 k3 k4 k5
              unfold vv
              refine hK.out _ _ (⟨c0, c1, c2, c3, c4, c5⟩) (fun hHeld => ?_)
              clear hK K
              refine wpAnyH_take (i := 9) (v := .agg #[.string (ky j), .int .i64 tj.k, .int .i64 tj.n, .string tj.s, .slice xa2 xn2 xc2, .slice ya2 yn2 yc2]) rfl (by kernel_rfl) (by kernel_rfl) (by kernel_rfl) (fun _ _ _ h => h) (yieldsIf_buildS8 (by rfl) 74 _ rfl _ (by rw [Array.toList_map]; exact built74 _ _ _ _ _ _ _ _ _ _)) hHeld ?_
              simp only [Act.put, List.getElem_toArray, List.getElem_cons_zero, List.getElem_cons_succ, List.setIfInBounds_toArray, List.set_cons_zero, List.set_cons_succ]
              refine wpAnyH_ready (rs := [1, 10]) (by kernel_rfl) (by simp) ?_
              refine AllReadyH.cons (o := _) rfl (fun K hK => ?_) (AllReadyH.cons (o := _) rfl (fun K hK => ?_) AllReadyH.nil)
              · go_simp
                refine hK.out _ _ (hHeld) (fun hHeld => ?_)
                clear hK K
                refine wpAnyH_ready (rs := [10]) (by kernel_rfl) (by simp) ?_
                refine AllReadyH.cons (o := _) rfl (fun K hK => ?_) AllReadyH.nil
                go_simp
                refine hK.out _ _ (⟨cell_alloc_old c0, cell_alloc_old c1, cell_alloc_old c2, cell_alloc_old c3, cell_alloc_old c4, cell_alloc_old c5⟩) (fun hHeld => ?_)
                clear hK K
                refine wpAnyH_ready (rs := [11]) (by kernel_rfl) (by simp) ?_
                refine AllReadyH.cons (o := _) rfl (fun K hK => ?_) AllReadyH.nil
                refine step_append_lies _ (by rfl) (.tmp 84) (.tmp 93) 29 (by rfl) (H + 3) 74 i0 _ 6 96 Tryd.underlying29 hi0 hz0 hz1 hz2 rfl (by omega) (.slice la Lj.length lc) Lj.length us (by simp [Act.eval]) (by exact HW.out) ⟨w2.heap.size, 0, none⟩ 1 1 (.string (ky j) :: cv tj (.slice xa2 xn2 xc2) (.slice ya2 yn2 yc2)) (by simp [Act.eval]) rfl (by exact World.news_of_block (B := w2.heap.size) (heap_new w2 _)) (by intro u hu; simp [cv] at hu; rcases hu with rfl | rfl | rfl | rfl | rfl | rfl <;> rfl) (by omega) (by unfold maxLen; omega) (by omega) hBs (w2.heap.size + 1) (by simp) ?_
                intro g cap w5 hown5 hgrow hat hlt5
                have m4 := grown_cell hgrow (p := ⟨H + 1 + 1, 4, none⟩) (cell_alloc_old f4) Hne.out
                have mf := grown_frozen hgrow (p := ⟨H + 1 + 1, 4, none⟩) (cell_alloc_old f4) ((frozen_alloc_old f4).trans ff) Hne.out
                have npb : some pb ≠ (Value.slice la Lj.length lc).ownBlock := fun e => by have := (HQ.out.2.2.1.lt _ e.symm).2; have := HPB.out; omega
                have v0 := grown_cell hgrow (p := ⟨pb, 0, none⟩) (cell_alloc_old c0) npb
                have v1 := grown_cell hgrow (p := ⟨pb, 1, none⟩) (cell_alloc_old c1) npb
                have v2 := grown_cell hgrow (p := ⟨pb, 2, none⟩) (cell_alloc_old c2) npb
                have v3 := grown_cell hgrow (p := ⟨pb, 3, none⟩) (cell_alloc_old c3) npb
                have v4 := grown_cell hgrow (p := ⟨pb, 4, none⟩) (cell_alloc_old c4) npb
                have v5 := grown_cell hgrow (p := ⟨pb, 5, none⟩) (cell_alloc_old c5) npb
                clear npb
                refine hK.out _ _ ⟨v0, v1, v2, v3, v4, v5⟩ (fun hHeld => ?_)
                clear hK K
                have nb : pb ≠ H + 1 + 1 := by omega
                refine wpAnyH_take (i := 12) (v := .pointer (some ⟨H + 1 + 1, 4, none⟩)) rfl (by kernel_rfl) (by kernel_rfl) (by kernel_rfl) (fun _ _ _ h => h) (Or.inl ⟨by rfl, fun w hw => by go_simp⟩) hHeld ?_
                simp only [Act.put, List.getElem_toArray, List.getElem_cons_zero, List.getElem_cons_succ, List.setIfInBounds_toArray, List.set_cons_zero, List.set_cons_succ]
                refine wpAnyH_ready (rs := [13]) (by kernel_rfl) (by simp) ?_
                refine AllReadyH.cons (o := _) rfl (fun K hK => ?_) AllReadyH.nil
                go_simp
                refine hK.out _ _ ⟨(World.cell?_of_block (w := w5) (Below.heap_setCell _ _ _ _ nb)).trans v0, (World.cell?_of_block (w := w5) (Below.heap_setCell _ _ _ _ nb)).trans v1, (World.cell?_of_block (w := w5) (Below.heap_setCell _ _ _ _ nb)).trans v2, (World.cell?_of_block (w := w5) (Below.heap_setCell _ _ _ _ nb)).trans v3, (World.cell?_of_block (w := w5) (Below.heap_setCell _ _ _ _ nb)).trans v4, (World.cell?_of_block (w := w5) (Below.heap_setCell _ _ _ _ nb)).trans v5⟩ (fun hHeld => ?_)
                clear hK K hHeld
                refine wpAnyH_done (by kernel_rfl) ?_ _
                have HN : Hid (WIv H w (w5.setCell ⟨H + 1 + 1, 4, none⟩ (.slice (some ⟨g, 0, none⟩) (Lj.length + 1) cap)) 4 n s (.slice a 0 ca) (.slice (some ⟨b, ob, none⟩) dn ca') (.slice .none 0 0) (.slice (some ⟨g, 0, none⟩) (Lj.length + 1) cap) ∧ PRow (H + 3) (Sv A H (.slice (some ⟨g, 0, none⟩) (Lj.length + 1) cap)) (w5.setCell ⟨H + 1 + 1, 4, none⟩ (.slice (some ⟨g, 0, none⟩) (Lj.length + 1) cap)) (.slice (some ⟨g, 0, none⟩) (Lj.length + 1) cap) (outD key o ky dv (j + 1))) := by
                  obtain ⟨q1, q2, q3, q4, q5⟩ := HQ.out
                  have e2 : outD key o ky dv (j + 1) = Lj ++ [(ky j, tj)] := by
                    show outD key o ky dv j ++ _ = _
                    rw [if_pos HKJ.out, HOJ.out, q5]; rfl
                  rw [e2]
                  exact ⟨((q1.keep HS.out hbO).grow HS.out hgrow (fun q hq => (q3.lt q hq).1)).set4 _, prow_step hA q2 q3.1 hbO HR2.out (fun q hq => q3.lt q hq) (by have := HPB.out; omega) hgrow (by rcases hat with h | h; exact .inl h; exact .inr (by simpa using h)) hown5 4 _⟩
                clear HQ HW HR2 Hne hown5 hgrow hat hlt5 e4 ef f4 f4a ff c0 c1 c2 c3 c4 c5 m4 mf v0 v1 v2 v3 v4 v5 hbO hbw hBs hb2 HB2
                go_wp2
                go_roundw
                case rel => exact ⟨j + 1, _, by omega, by go_num, HN⟩
                case measure => simp [intOf]; omega
              · go_simp
                refine hK.out _ _ (⟨cell_alloc_old c0, cell_alloc_old c1, cell_alloc_old c2, cell_alloc_old c3, cell_alloc_old c4, cell_alloc_old c5⟩) (fun hHeld => ?_)
                clear hK K
                refine wpAnyH_ready (rs := [1]) (by kernel_rfl) (by simp) ?_
                refine AllReadyH.cons (o := _) rfl (fun K hK => ?_) AllReadyH.nil
                go_simp
                refine hK.out _ _ (hHeld) (fun hHeld => ?_)
                clear hK K
                refine wpAnyH_ready (rs := [11]) (by kernel_rfl) (by simp) ?_
                refine AllReadyH.cons (o := _) rfl (fun K hK => ?_) AllReadyH.nil
                refine step_append_lies _ (by rfl) (.tmp 84) (.tmp 93) 29 (by rfl) (H + 3) 74 i0 _ 6 96 Tryd.underlying29 hi0 hz0 hz1 hz2 rfl (by omega) (.slice la Lj.length lc) Lj.length us (by simp [Act.eval]) (by exact HW.out) ⟨w2.heap.size, 0, none⟩ 1 1 (.string (ky j) :: cv tj (.slice xa2 xn2 xc2) (.slice ya2 yn2 yc2)) (by simp [Act.eval]) rfl (by exact World.news_of_block (B := w2.heap.size) (heap_new w2 _)) (by intro u hu; simp [cv] at hu; rcases hu with rfl | rfl | rfl | rfl | rfl | rfl <;> rfl) (by omega) (by unfold maxLen; omega) (by omega) hBs (w2.heap.size + 1) (by simp) ?_
                intro g cap w5 hown5 hgrow hat hlt5
                have m4 := grown_cell hgrow (p := ⟨H + 1 + 1, 4, none⟩) (cell_alloc_old f4) Hne.out
                have mf := grown_frozen hgrow (p := ⟨H + 1 + 1, 4, none⟩) (cell_alloc_old f4) ((frozen_alloc_old f4).trans ff) Hne.out
                have npb : some pb ≠ (Value.slice la Lj.length lc).ownBlock := fun e => by have := (HQ.out.2.2.1.lt _ e.symm).2; have := HPB.out; omega
                have v0 := grown_cell hgrow (p := ⟨pb, 0, none⟩) (cell_alloc_old c0) npb
                have v1 := grown_cell hgrow (p := ⟨pb, 1, none⟩) (cell_alloc_old c1) npb
                have v2 := grown_cell hgrow (p := ⟨pb, 2, none⟩) (cell_alloc_old c2) npb
                have v3 := grown_cell hgrow (p := ⟨pb, 3, none⟩) (cell_alloc_old c3) npb
                have v4 := grown_cell hgrow (p := ⟨pb, 4, none⟩) (cell_alloc_old c4) npb
                have v5 := grown_cell hgrow (p := ⟨pb, 5, none⟩) (cell_alloc_old c5) npb
                clear npb
                refine hK.out _ _ ⟨v0, v1, v2, v3, v4, v5⟩ (fun hHeld => ?_)
                clear hK K
                have nb : pb ≠ H + 1 + 1 := by omega
                refine wpAnyH_take (i := 12) (v := .pointer (some ⟨H + 1 + 1, 4, none⟩)) rfl (by kernel_rfl) (by kernel_rfl) (by kernel_rfl) (fun _ _ _ h => h) (Or.inl ⟨by rfl, fun w hw => by go_simp⟩) hHeld ?_
                simp only [Act.put, List.getElem_toArray, List.getElem_cons_zero, List.getElem_cons_succ, List.setIfInBounds_toArray, List.set_cons_zero, List.set_cons_succ]
                refine wpAnyH_ready (rs := [13]) (by kernel_rfl) (by simp) ?_
                refine AllReadyH.cons (o := _) rfl (fun K hK => ?_) AllReadyH.nil
                go_simp
                refine hK.out _ _ ⟨(World.cell?_of_block (w := w5) (Below.heap_setCell _ _ _ _ nb)).trans v0, (World.cell?_of_block (w := w5) (Below.heap_setCell _ _ _ _ nb)).trans v1, (World.cell?_of_block (w := w5) (Below.heap_setCell _ _ _ _ nb)).trans v2, (World.cell?_of_block (w := w5) (Below.heap_setCell _ _ _ _ nb)).trans v3, (World.cell?_of_block (w := w5) (Below.heap_setCell _ _ _ _ nb)).trans v4, (World.cell?_of_block (w := w5) (Below.heap_setCell _ _ _ _ nb)).trans v5⟩ (fun hHeld => ?_)
                clear hK K hHeld
                refine wpAnyH_done (by kernel_rfl) ?_ _
                have HN : Hid (WIv H w (w5.setCell ⟨H + 1 + 1, 4, none⟩ (.slice (some ⟨g, 0, none⟩) (Lj.length + 1) cap)) 4 n s (.slice a 0 ca) (.slice (some ⟨b, ob, none⟩) dn ca') (.slice .none 0 0) (.slice (some ⟨g, 0, none⟩) (Lj.length + 1) cap) ∧ PRow (H + 3) (Sv A H (.slice (some ⟨g, 0, none⟩) (Lj.length + 1) cap)) (w5.setCell ⟨H + 1 + 1, 4, none⟩ (.slice (some ⟨g, 0, none⟩) (Lj.length + 1) cap)) (.slice (some ⟨g, 0, none⟩) (Lj.length + 1) cap) (outD key o ky dv (j + 1))) := by
                  obtain ⟨q1, q2, q3, q4, q5⟩ := HQ.out
                  have e2 : outD key o ky dv (j + 1) = Lj ++ [(ky j, tj)] := by
                    show outD key o ky dv j ++ _ = _
                    rw [if_pos HKJ.out, HOJ.out, q5]; rfl
                  rw [e2]
                  exact ⟨((q1.keep HS.out hbO).grow HS.out hgrow (fun q hq => (q3.lt q hq).1)).set4 _, prow_step hA q2 q3.1 hbO HR2.out (fun q hq => q3.lt q hq) (by have := HPB.out; omega) hgrow (by rcases hat with h | h; exact .inl h; exact .inr (by simpa using h)) hown5 4 _⟩
                clear HQ HW HR2 Hne hown5 hgrow hat hlt5 e4 ef f4 f4a ff c0 c1 c2 c3 c4 c5 m4 mf v0 v1 v2 v3 v4 v5 hbO hbw hBs hb2 HB2
                go_wp2
                go_roundw
                case rel => exact ⟨j + 1, _, by omega, by go_num, HN⟩
                case measure => simp [intOf]; omega
        · have hke : ((ky j).toList == key.toList) = false := str_ne hkj
          have hke2 : ¬ (ky j).toList = key.toList := by simpa using hke
          have HKJ := Lib.hid hkj
          clear hkj
          refine wp_region_held_drew (S := fun w' => w'.cell? ⟨pb, 0, none⟩ = some (.string (ky j)) ∧ w'.cell? ⟨pg, po + 1, none⟩ = some (.string key)) (by kernel_rfl) (⟨k0, pc1⟩) (fun hHeld => ?_)
          refine wpAnyH_take (i := 0) (v := .pointer (some ⟨pb, 0, none⟩)) rfl (by kernel_rfl) (by kernel_rfl) (by kernel_rfl) (fun _ _ _ h => h) (Or.inl ⟨by rfl, fun w hw => by go_simp⟩) hHeld ?_
          simp only [Act.put, List.getElem_toArray, List.getElem_cons_zero, List.setIfInBounds_toArray, List.set_cons_zero, List.set_cons_succ]
          refine wpAnyH_take (i := 1) (v := .string (ky j)) rfl (by kernel_rfl) (by kernel_rfl) (by kernel_rfl) (fun _ _ _ h => h) (Or.inl ⟨by rfl, fun w hw => by have := hw.1; go_simp⟩) hHeld ?_
          simp only [Act.put, List.getElem_toArray, List.getElem_cons_zero, List.getElem_cons_succ, List.setIfInBounds_toArray, List.set_cons_zero, List.set_cons_succ]
          refine wpAnyH_take (i := 2) (v := .slice (some ⟨pg, po, none⟩) pn pc) rfl (by kernel_rfl) (by kernel_rfl) (by kernel_rfl) (fun _ _ _ h => h) (Or.inl ⟨by rfl, fun w hw => by go_simp⟩) hHeld ?_
          simp only [Act.put, List.getElem_toArray, List.getElem_cons_zero, List.getElem_cons_succ, List.setIfInBounds_toArray, List.set_cons_zero, List.set_cons_succ]
          refine wpAnyH_take (i := 3) (v := .pointer (some ⟨pg, po, none⟩)) rfl (by kernel_rfl) (by kernel_rfl) (by kernel_rfl) (fun _ _ _ h => h) (Or.inl ⟨by rfl, fun w hw => by go_simp⟩) hHeld ?_
          simp only [Act.put, List.getElem_toArray, List.getElem_cons_zero, List.getElem_cons_succ, List.setIfInBounds_toArray, List.set_cons_zero, List.set_cons_succ]
          refine wpAnyH_take (i := 4) (v := .pointer (some ⟨pg, po + 1, none⟩)) rfl (by kernel_rfl) (by kernel_rfl) (by kernel_rfl) (fun _ _ _ h => h) (Or.inl ⟨by rfl, fun w hw => by go_simp⟩) hHeld ?_
          simp only [Act.put, List.getElem_toArray, List.getElem_cons_zero, List.getElem_cons_succ, List.setIfInBounds_toArray, List.set_cons_zero, List.set_cons_succ]
          refine wpAnyH_take (i := 5) (v := .string key) rfl (by kernel_rfl) (by kernel_rfl) (by kernel_rfl) (fun _ _ _ h => h) (Or.inl ⟨by rfl, fun w hw => by have := hw.2; go_simp⟩) hHeld ?_
          simp only [Act.put, List.getElem_toArray, List.getElem_cons_zero, List.getElem_cons_succ, List.setIfInBounds_toArray, List.set_cons_zero, List.set_cons_succ]
          refine wpAnyH_take (i := 6) (v := .bool true) rfl (by kernel_rfl) (by kernel_rfl) (by kernel_rfl) (fun _ _ _ h => h) (Or.inl ⟨by rfl, fun w hw => by go_simp⟩) hHeld ?_
          simp only [Act.put, List.getElem_toArray, List.getElem_cons_zero, List.getElem_cons_succ, List.setIfInBounds_toArray, List.set_cons_zero, List.set_cons_succ]
          refine wpAnyH_take (i := 7) (v := .bool true) rfl (by kernel_rfl) (by kernel_rfl) (by kernel_rfl) (fun _ _ _ h => h) (Or.inl ⟨by rfl, fun w hw => by go_simp⟩) hHeld ?_
          simp only [Act.put, List.getElem_toArray, List.getElem_cons_zero, List.getElem_cons_succ, List.setIfInBounds_toArray, List.set_cons_zero, List.set_cons_succ]
          refine wpAnyH_done (by kernel_rfl) ?_ _
          have hb2 : Below pb wr W1.drew := ⟨HB1.out.1.os, HB1.out.1.tape, HB1.out.1.output, HB1.out.1.size, HB1.out.1.block⟩
          have hbk2 : blk W1.drew pb 74 #[.string (ky j), .int .i64 (dv j).k, .int .i64 (dv j).n, .string (dv j).s, .slice xa xn xc, .slice ya yn yc] := HB1.out.2
          have hsz2 : pb ≤ W1.drew.heap.size := hsz1
          clear hHeld HB1 k0 pc1 hsz1
          generalize W1.drew = W2 at *
          obtain ⟨e4, ef⟩ : W2.cell? ⟨H + 1 + 1, 4, none⟩ = some (.slice la Lj.length lc) ∧ W2.frozen? ⟨H + 1 + 1, 4, none⟩ = false := by
            have hq := HQ.out.1.2.2.2.keep (hb2.block _ (by have := HQ.out.1.2.2.2.lt; have := HPB.out; omega))
            exact ⟨hq.cells.2.2.2.2, hq.frozen 4⟩
          have k0 : W2.cell? ⟨pb, 0, none⟩ = some (.string (ky j)) := hbk2.cell 0
          have k1 : W2.cell? ⟨pb, 1, none⟩ = some (.int .i64 (dv j).k) := hbk2.cell 1
          have k2 : W2.cell? ⟨pb, 2, none⟩ = some (.int .i64 (dv j).n) := hbk2.cell 2
          have k3 : W2.cell? ⟨pb, 3, none⟩ = some (.string (dv j).s) := hbk2.cell 3
          have k4 : W2.cell? ⟨pb, 4, none⟩ = some (.slice xa xn xc) := hbk2.cell 4
          have k5 : W2.cell? ⟨pb, 5, none⟩ = some (.slice ya yn yc) := hbk2.cell 5
          have HB2 := Lib.hid (And.intro hb2 hbk2)
          have hne0 : some (H + 1 + 1) ≠ (Value.slice la Lj.length lc).ownBlock := fun e => by have := (HQ.out.2.2.1.lt _ e.symm).1; omega
          have Hne : Hid (some (H + 1 + 1) ≠ (Value.slice la Lj.length lc).ownBlock) := hne0
          clear hb2 hbk2 hne0
          have hBs : H + 3 ≤ W2.heap.size := by omega
          have hownA : (W2.alloc (Obj.cells #[.string (ky j), .int .i64 (dv j).k, .int .i64 (dv j).n, .string (dv j).s, .slice xa xn xc, .slice ya yn yc] 74)).ownsRow (H + 3) 74 6 (.slice la Lj.length lc) Lj.length us := own_keep HQ.out.2.2.1 (fun x _ hx => (Below.heap_alloc _ _ _ (by have := HPB.out; omega)).trans (HB2.out.1.block x (by have := HPB.out; omega)))
          have e4' : ∀ ob, (W2.alloc ob).cell? ⟨H + 1 + 1, 4, none⟩ = some (.slice la Lj.length lc) := fun ob => cell_alloc_old e4
          go_wp2_with (at_builtin; refine wpList_append_lies _ rfl _ _ 29 rfl (H + 3) 74 i0 _ 6 96 Tryd.underlying29 hi0 hz0 hz1 hz2 rfl (by omega) (.slice la Lj.length lc) Lj.length us rfl hownA ⟨W2.heap.size, 0, none⟩ 1 1 (.string (ky j) :: cv (dv j) (.slice xa xn xc) (.slice ya yn yc)) rfl rfl ?_ ?_ (by omega) (by unfold maxLen; omega) (by omega) (by simp; omega) (W2.heap.size + 1) (by simp) ?_)
          · exact World.news_of_block (B := W2.heap.size) (heap_new W2 _)
          · intro u hu; simp [cv] at hu; rcases hu with rfl | rfl | rfl | rfl | rfl | rfl <;> rfl
          intro g cap w5 hown5 hgrow hat hlt5
          have HN : Hid (WIv H w (w5.setCell ⟨H + 1 + 1, 4, none⟩ (.slice (some ⟨g, 0, none⟩) (Lj.length + 1) cap)) 4 n s (.slice a 0 ca) (.slice (some ⟨b, ob, none⟩) dn ca') (.slice .none 0 0) (.slice (some ⟨g, 0, none⟩) (Lj.length + 1) cap) ∧ PRow (H + 3) (Sv A H (.slice (some ⟨g, 0, none⟩) (Lj.length + 1) cap)) (w5.setCell ⟨H + 1 + 1, 4, none⟩ (.slice (some ⟨g, 0, none⟩) (Lj.length + 1) cap)) (.slice (some ⟨g, 0, none⟩) (Lj.length + 1) cap) (outD key o ky dv (j + 1))) := by
            obtain ⟨q1, q2, q3, q4, q5⟩ := HQ.out
            have hb : Below wr.heap.size wr W2 := HPB.out ▸ HB2.out.1
            have hbO : Below wr.heap.size wr (W2.alloc (Obj.cells #[.string (ky j), .int .i64 (dv j).k, .int .i64 (dv j).n, .string (dv j).s, .slice xa xn xc, .slice ya yn yc] 74)) := hb.alloc hb.size _
            have e2 : outD key o ky dv (j + 1) = Lj ++ [(ky j, dv j)] := by
              show outD key o ky dv j ++ _ = _
              rw [if_neg HKJ.out, q5]
            rw [e2]
            exact ⟨((q1.keep HS.out hbO).grow HS.out hgrow (fun q hq => (q3.lt q hq).1)).set4 _, prow_step hA q2 q3.1 hbO (RV.move (fun b hb _ => .inl hb) hbO.size (fun b _ hl => hbO.block b hl) _ _ _ q4) (fun q hq => q3.lt q hq) (by have := HPB.out; omega) hgrow (by rcases hat with h | h; exact .inl h; exact .inr (by simpa using h)) hown5 4 _⟩
          have m4 := grown_cell hgrow (p := ⟨H + 1 + 1, 4, none⟩) (cell_alloc_old e4) Hne.out
          have mf := grown_frozen hgrow (p := ⟨H + 1 + 1, 4, none⟩) (cell_alloc_old e4) ((frozen_alloc_old e4).trans ef) Hne.out
          clear HQ Hne hown5 hgrow hat hlt5 e4 e4' ef k0 k1 k2 k3 k4 k5 HB2 hownA
          go_wp2
          go_roundw
          case rel => exact ⟨j + 1, _, by omega, by go_num, HN⟩
          case measure => simp [intOf]; omega
      · obtain rfl : j = dn := by omega
        have HV := Lib.hid hinv.out.2
        have HC : Hid (WIv H w wr 4 n s (.slice a 0 ca) (.slice a' j ca') (.slice .none 0 0) lv) := hc
        obtain ⟨us, hown, _⟩ := hinv.out.2
        obtain ⟨la, lc, rfl⟩ := ownForm hown
        obtain ⟨q0, q1, q2, q3, q4⟩ := hc.2.2.2.cells
        obtain ⟨r0, r1, r2, r3, r4⟩ := hc.2.2.1.cells
        have z0 := hc.2.2.1.frozen 0
        have z1 := hc.2.2.1.frozen 1
        have z2 := hc.2.2.1.frozen 2
        have z3 := hc.2.2.1.frozen 3
        have z4 := hc.2.2.1.frozen 4
        have HE : Hid (∀ wE, Besides (H + 1) wr wE → RV (fun b => b < A ∨ w.heap.size ≤ b) wE (tDict (outD key o ky dv j)) (.slice .none 0 0) (.slice la (outD key o ky dv j).length lc) ∧ Below w.heap.size w wE) := fun wE hE => by
          have h := wo_endD HS.out hA HC.out HV.out wE hE
          rw [← HS.out] at h
          exact h
        have HR : Hid (obj wr (H + 1) (.int .i64 0) (.int .i64 0) (.string { data := #[] }) (.slice .none 0 0) (.slice .none 0 0)) := hc.2.2.1
        clear hc HV hinv hown hi0 hz0 hz1 hz2
        go_wp2
        exact bodyPost_ret (v := .agg #[.int .i64 4, .int .i64 0, .string { data := #[] }, .slice .none 0 0, .slice la (outD key o ky dv j).length lc]) (results_cell_row Tryd.results38 _ _ (H + 1) 31 _ (0, 0) _ rfl (((((HR.out.set0 _).set1 _).set2 _).set3 _).set4 _) Tryd.underlying31 rfl info25s) rfl ⟨_, _, rfl, HE.out _ (besides5 _ _ _ _ _ _ _)⟩
      end Go.Proofs.YtdlnnnlmlaploabDoor
