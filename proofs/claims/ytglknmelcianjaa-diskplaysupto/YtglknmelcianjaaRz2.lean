import Derived.Test.YtglknmelcianjaaRy2
namespace Go.Proofs.Ytglknmelcianjaa
open Go.RowKit
theorem nwO_nW (n : Int) : nW (nwO n) = 0 := by unfold nwO; split <;> rfl
theorem ldO_nW (l : List UInt8) : nW (ldO l) = 0 := by unfold ldO; split <;> rfl
theorem cell_u {w : World} {g u : Nat} {f : Nat → Value} {T : TypeId} {z : Nat × Nat} (hu : u < 3) (h : w.heap[g]? = some (.cells #[f 0, f 1, f 2] T z)) : w.cell? ⟨g, u, none⟩ = some (f u) := by
  obtain rfl | rfl | rfl : u = 0 ∨ u = 1 ∨ u = 2 := by omega
  all_goals simp [World.cell?, h]
theorem rbo_lt {w : World} {v : Value} {l : List Bool} (h : RBo w v l) : l ≠ [] → ∀ g, v.ownBlock = some g → g < w.heap.size := fun hne g hg => by
  obtain ⟨a, c, rfl, _, h⟩ := h
  rcases h with h | ⟨b, off, rfl, h1, _⟩
  · exact absurd h hne
  · simp [Value.ownBlock] at hg
    omega
theorem crE_ws (keep : List Bool) (torn cut : Int) (D : Dk) : (crE keep torn cut D).ws = [] := rfl
theorem doO_nW (kind at_ : Int) (d : List UInt8) (keep : List Bool) (torn cut : Int) (o : Option Dk) : nW (doO kind at_ d keep torn cut o) ≤ nW o + 1 := by
  unfold doO
  split
  · cases o with
    | none => exact Nat.zero_le _
    | some D =>
      simp only [wrO]
      split
      · split
        · simp [nW]
        · exact Nat.le_succ _
      · exact Nat.le_succ _
  split
  · cases o with
    | none => exact Nat.zero_le _
    | some D =>
      show (syD D).ws.length ≤ _
      unfold syD
      split
      · exact Nat.le_succ _
      · exact Nat.zero_le _
  split
  · cases o with
    | none => unfold fuO; split <;> exact Nat.zero_le _
    | some D =>
      unfold fuO
      split
      · exact Nat.le_succ _
      · show (fuD _ D).ws.length ≤ _
        unfold fuD
        split <;> exact Nat.le_succ _
  split
  · cases o with
    | none => exact Nat.zero_le _
    | some D =>
      simp only [crO]
      split
      · split
        · show (crE keep torn cut D).ws.length ≤ _
          rw [crE_ws]
          exact Nat.zero_le _
        · exact Nat.le_succ _
      · exact Nat.le_succ _
  exact Nat.le_succ _
/-- what the last two arms read -/
def SF (x : World) (bx : Nat) (kind : Int) (u t : Nat) (at_ : Int) (dv kv : Value) (torn cut : Int) (ga gb : Nat) (pa pb : Value) : Prop :=
  x.cell? ⟨bx, 0, none⟩ = some (.int .i64 kind) ∧ x.cell? ⟨bx, 1, none⟩ = some (.int .i64 u) ∧ x.cell? ⟨bx, 2, none⟩ = some (.int .i64 t) ∧ x.cell? ⟨bx, 3, none⟩ = some (.int .i64 at_) ∧ x.cell? ⟨bx, 4, none⟩ = some dv ∧ x.cell? ⟨bx, 5, none⟩ = some kv ∧ x.cell? ⟨bx, 6, none⟩ = some (.int .i64 torn) ∧ x.cell? ⟨bx, 7, none⟩ = some (.int .i64 cut) ∧ x.cell? ⟨ga, u, none⟩ = some pa ∧ x.cell? ⟨gb, u, none⟩ = some pb
theorem cell_set_other {w : World} {R i k j : Nat} {v : Value} (h : k ≠ R) : (w.setCell ⟨R, i, none⟩ v).cell? ⟨k, j, none⟩ = w.cell? ⟨k, j, none⟩ := World.cell?_of_block (w := w) (a := ⟨k, j, none⟩) (setCell_other h)
set_option maxHeartbeats 8000000 in
set_option maxRecDepth 100000 in
theorem playsLaw (w : World) (sv : Value) (xs : List OpI) (hs : RSc w sv xs) (hn : xs.length < 1073741824) : Calls Try.prog 3 #[sv] w fun e w' => e = .returned (.bool true) ∧ Below w.heap.size w w' := by
  obtain ⟨sa, sc, rfl, hs1, hs2⟩ := hs
  have HS1 := Lib.hid hs1
  have HS2 := Lib.hid hs2
  generalize hxl : xs.length = n at *
  have HXL := Lib.hid hxl
  clear hxl hs1 hs2
  have HL0 := Lib.hid (lw_new w)
  go_enter Try.func3, Try.ntmps3
  go_wp2_with fail
  go_loopw [5] (fun t wr => ∃ i : Nat, i ≤ n ∧ t = .int .i64 i ∧ Hid (∃ lab va vb oo, LW w lab w.heap.size (w.heap.size + 1) va vb oo i wr)) (fun t _ => n - (intOf t).toNat)
  case atStart => exact ⟨0, Nat.zero_le _, rfl, ⟨_, _, _, _, HL0.out⟩⟩
  case round =>
    obtain ⟨i, hi, rfl, HI⟩ := hrel
    by_cases hlt : i < n
    · obtain ⟨lab, va, vb, oo, hL⟩ := HI.out
      have HL := Lib.hid hL
      obtain ⟨x, hx⟩ : ∃ x, xs[i]? = some x := ⟨_, List.getElem?_eq_getElem (by rw [HXL.out]; exact hlt)⟩
      have hOp := HS2.out x (List.mem_of_getElem? hx)
      obtain ⟨g, o, hsa, hg, hrg⟩ := HS1.out.resolve_left (fun e => by rw [e] at hx; simp at hx)
      subst hsa
      obtain ⟨k0, k1, k2, k3, k4, k5, k6, k7⟩ := range8 (hrg i x hx)
      have bl : ∀ {a : Addr} {v : Value}, a.block < w.heap.size → w.cell? a = some v → wr.cell? a = some v := fun {a v} h1 h2 => (World.cell?_of_block (w := w) (hL.fr.block a.block h1)).trans h2
      have j0 := bl (a := ⟨g, _, none⟩) hg k0
      have j1 := bl (a := ⟨g, _, none⟩) hg k1
      have j2 := bl (a := ⟨g, _, none⟩) hg k2
      have j3 := bl (a := ⟨g, _, none⟩) hg k3
      have j4 := bl (a := ⟨g, _, none⟩) hg k4
      have j5 := bl (a := ⟨g, _, none⟩) hg k5
      have j6 := bl (a := ⟨g, _, none⟩) hg k6
      have j7 := bl (a := ⟨g, _, none⟩) hg k7
      clear k0 k1 k2 k3 k4 k5 k6 k7 bl hrg hL HI hx
      obtain ⟨kind, who, to_, at_, da, dc, d, ka, kc, keep, torn, cut⟩ := x
      simp only at j0 j1 j2 j3 j4 j5 j6 j7
      have HOp := Lib.hid hOp
      clear hOp
      generalize hdn : d.length = dn at *
      have HDN := Lib.hid hdn
      generalize hkn : keep.length = kn at *
      have HKN := Lib.hid hkn
      clear hdn hkn
      go_upto_region 7 with fail
      have hbw := heapNew wr (.cells #[.int .i64 kind, .int .i64 who, .int .i64 to_, .int .i64 at_, .slice da dn dc, .slice ka kn kc, .int .i64 torn, .int .i64 cut] 30)
      have b1 : Below wr.heap.size wr (wr.alloc (.cells #[.int .i64 kind, .int .i64 who, .int .i64 to_, .int .i64 at_, .slice da dn dc, .slice ka kn kc, .int .i64 torn, .int .i64 cut] 30)) := (Below.refl _ _).alloc (Nat.le_refl _) _
      have hz1 : (wr.alloc (.cells #[.int .i64 kind, .int .i64 who, .int .i64 to_, .int .i64 at_, .slice da dn dc, .slice ka kn kc, .int .i64 torn, .int .i64 cut] 30)).heap.size = wr.heap.size + 1 := by simp
      have HW : Hid (LW w lab w.heap.size (w.heap.size + 1) va vb oo i (wr.alloc (.cells #[.int .i64 kind, .int .i64 who, .int .i64 to_, .int .i64 at_, .slice da dn dc, .slice ka kn kc, .int .i64 torn, .int .i64 cut] 30)) ∧ lab wr.heap.size = 0) := ⟨HL.out.below b1, by
        apply Classical.byContradiction
        intro e
        have := (HL.out.bd _ e).2
        omega⟩
      generalize wr.alloc (.cells #[.int .i64 kind, .int .i64 who, .int .i64 to_, .int .i64 at_, .slice da dn dc, .slice ka kn kc, .int .i64 torn, .int .i64 cut] 30) = W at *
      generalize wr.heap.size = bx at *
      have HX : Hid (W.heap[bx]? = some (.cells #[.int .i64 kind, .int .i64 who, .int .i64 to_, .int .i64 at_, .slice da dn dc, .slice ka kn kc, .int .i64 torn, .int .i64 cut] 30 (0, 0)) ∧ bx < W.heap.size) := ⟨hbw, by omega⟩
      have c0 : W.cell? ⟨bx, 0, none⟩ = some (.int .i64 kind) := by simp [World.cell?, hbw]
      have c1 : W.cell? ⟨bx, 1, none⟩ = some (.int .i64 who) := by simp [World.cell?, hbw]
      have c2 : W.cell? ⟨bx, 2, none⟩ = some (.int .i64 to_) := by simp [World.cell?, hbw]
      have c3 : W.cell? ⟨bx, 3, none⟩ = some (.int .i64 at_) := by simp [World.cell?, hbw]
      have c4 : W.cell? ⟨bx, 4, none⟩ = some (.slice da dn dc) := by simp [World.cell?, hbw]
      clear hbw b1 hz1 j0 j1 j2 j3 j4 j5 j6 j7 HL
      have HU : Hid (∃ lab va vb oo, LW w lab w.heap.size (w.heap.size + 1) va vb oo (i + 1) W) := ⟨_, _, _, _, HW.out.1.up⟩
      by_cases r1 : who < 0
      · have q1 : decide (who < 0) = true := decide_eq_true r1
        go_wp2
        exact ⟨⟨i + 1, by omega, by go_num, HU⟩, by simp [intOf]; omega⟩
      have q1 : decide (who < 0) = false := decide_eq_false r1
      by_cases r2 : 2 < who
      · have q2 : decide (2 < who) = true := decide_eq_true r2
        go_wp2
        exact ⟨⟨i + 1, by omega, by go_num, HU⟩, by simp [intOf]; omega⟩
      have q2 : decide (2 < who) = false := decide_eq_false r2
      by_cases r3 : to_ < 0
      · have q3 : decide (to_ < 0) = true := decide_eq_true r3
        go_wp2
        exact ⟨⟨i + 1, by omega, by go_num, HU⟩, by simp [intOf]; omega⟩
      have q3 : decide (to_ < 0) = false := decide_eq_false r3
      by_cases r4 : 2 < to_
      · have q4 : decide (2 < to_) = true := decide_eq_true r4
        go_wp2
        exact ⟨⟨i + 1, by omega, by go_num, HU⟩, by simp [intOf]; omega⟩
      have q4 : decide (2 < to_) = false := decide_eq_false r4
      clear HU
      go_upto_region 9 with fail
      obtain ⟨u, rfl⟩ : ∃ u : Nat, who = (u : Int) := ⟨who.toNat, by omega⟩
      obtain ⟨t, rfl⟩ : ∃ t : Nat, to_ = (t : Int) := ⟨to_.toNat, by omega⟩
      have hu : u < 3 := by omega
      have ht : t < 3 := by omega
      clear r1 r2 r3 r4 q1 q2 q3 q4
      have HK : Hid (∀ w', Below W.heap.size W w' → w'.cell? ⟨bx, 0, none⟩ = some (.int .i64 kind) ∧ w'.cell? ⟨bx, 1, none⟩ = some (.int .i64 u) ∧ w'.cell? ⟨bx, 2, none⟩ = some (.int .i64 t) ∧ w'.cell? ⟨bx, 3, none⟩ = some (.int .i64 at_) ∧ w'.cell? ⟨bx, 4, none⟩ = some (.slice da dn dc) ∧ w'.cell? ⟨w.heap.size, u, none⟩ = some (va u) ∧ w'.cell? ⟨w.heap.size + 1, u, none⟩ = some (vb u) ∧ w'.cell? ⟨w.heap.size, t, none⟩ = some (va t) ∧ w'.cell? ⟨w.heap.size + 1, t, none⟩ = some (vb t) ∧ ∀ j, w'.frozen? ⟨w.heap.size, j, none⟩ = false ∧ w'.frozen? ⟨w.heap.size + 1, j, none⟩ = false) := fun w' hw => by
        have e1 : w'.heap[bx]? = _ := (hw.block bx HX.out.2).trans HX.out.1
        have e2 := (HW.out.1.below hw).ba
        have e3 := (HW.out.1.below hw).bb
        exact ⟨by simp [World.cell?, e1], by simp [World.cell?, e1], by simp [World.cell?, e1], by simp [World.cell?, e1], by simp [World.cell?, e1], cell_u hu e2, cell_u hu e3, cell_u ht e2, cell_u ht e3, fun j => ⟨by simp [World.frozen?, e2], by simp [World.frozen?, e3]⟩⟩
      have HNE : Hid (bx ≠ w.heap.size ∧ bx ≠ w.heap.size + 1) := ⟨fun e => by have h1 := HW.out.1.ba; rw [← e, HX.out.1] at h1; simp at h1, fun e => by have h1 := HW.out.1.bb; rw [← e, HX.out.1] at h1; simp at h1⟩
      have HF : Hid (∀ w', Fr (fun k => lab k = 0) W w' → SF w' bx kind u t at_ (.slice da dn dc) (.slice ka kn kc) torn cut w.heap.size (w.heap.size + 1) (va u) (vb u)) := fun w' hw => by
        have e1 : w'.heap[bx]? = _ := (hw.block bx HX.out.2 HW.out.2).trans HX.out.1
        have e2 : w'.heap[w.heap.size]? = _ := (hw.block _ (Array.getElem?_eq_some_iff.1 HW.out.1.ba).1 HW.out.1.la).trans HW.out.1.ba
        have e3 : w'.heap[w.heap.size + 1]? = _ := (hw.block _ (Array.getElem?_eq_some_iff.1 HW.out.1.bb).1 HW.out.1.lb).trans HW.out.1.bb
        exact ⟨by simp [World.cell?, e1], by simp [World.cell?, e1], by simp [World.cell?, e1], by simp [World.cell?, e1], by simp [World.cell?, e1], by simp [World.cell?, e1], by simp [World.cell?, e1], by simp [World.cell?, e1], cell_u hu e2, cell_u hu e3⟩
      obtain ⟨-, -, -, -, -, ca, cb, ea, eb, -⟩ := HK.out W (Below.refl _ _)
      by_cases k1 : kind = 1
      · subst k1
        clear ea eb c2 c4
        go_wp2_with fail
        refine (newA at_ W).mono ?_
        rintro e w1 ⟨x, rfl, hx, hA, b1⟩
        obtain ⟨-, d1, -, d3, -, da1, db1, -, -, -⟩ := HK.out w1 b1
        have H1 : Hid (x.isNone = (nwO at_).isNone ∧ PA (fun k => W.heap.size ≤ k) w1 (.pointer x) (nwO at_) ∧ Below W.heap.size W w1) := ⟨hx, hA, b1⟩
        clear hx hA b1 c1 c3 ca cb c0
        go_wp2_with fail
        refine (newB at_ w1).mono ?_
        rintro e w2 ⟨y, rfl, hy, hB, b2⟩
        obtain ⟨-, f1, -, -, -, ha, hb, -, -, hfz⟩ := HK.out w2 (H1.out.2.2.trans (b2.mono H1.out.2.2.size))
        obtain ⟨lab', hL'⟩ := HW.out.1.put hu H1.out.2.2 H1.out.2.1 b2 hB (by rw [nwO_nW]; omega)
        have HU : Hid (∃ lab va vb oo, LW w lab w.heap.size (w.heap.size + 1) va vb oo (i + 1) ((w2.setCell ⟨w.heap.size, u, none⟩ (.pointer x)).setCell ⟨w.heap.size + 1, u, none⟩ (.pointer y))) := ⟨_, _, _, _, hL'⟩
        have HN : Hid (x.isNone = y.isNone) := H1.out.1.trans hy.symm
        have f1' : (w2.setCell ⟨w.heap.size, u, none⟩ (.pointer x)).cell? ⟨bx, 1, none⟩ = some (.int .i64 u) := (cell_set_other HNE.out.1).trans f1
        have hb' : (w2.setCell ⟨w.heap.size, u, none⟩ (.pointer x)).cell? ⟨w.heap.size + 1, u, none⟩ = some (vb u) := (cell_set_other (by omega)).trans hb
        obtain ⟨fa, fb⟩ := hfz u
        have fb' : (w2.setCell ⟨w.heap.size, u, none⟩ (.pointer x)).frozen? ⟨w.heap.size + 1, u, none⟩ = false := by simpa using fb
        clear hL' hy hB b2 d1 d3 da1 db1 hfz
        go_upto_region 15 with fail
        clear fa f1 hb fb ha
        generalize w2.setCell ⟨w.heap.size, u, none⟩ (.pointer x) = w3 at *
        go_upto_region 16 with fail
        generalize w3.setCell ⟨w.heap.size + 1, u, none⟩ (.pointer y) = w4 at *
        have hxy := HN.out
        rcases x with _ | x
        · obtain rfl : y = none := Option.isNone_iff_eq_none.1 hxy.symm
          go_wp2
          exact ⟨⟨i + 1, by omega, by go_num, HU⟩, by simp [intOf]; omega⟩
        · obtain ⟨y, rfl⟩ : ∃ y', y = some y' := by cases y with | none => simp at hxy | some y => exact ⟨y, rfl⟩
          go_wp2
          exact ⟨⟨i + 1, by omega, by go_num, HU⟩, by simp [intOf]; omega⟩
      have p1 : (kind == 1) = false := beq_eq_false_iff_ne.2 k1
      by_cases k2 : kind = 2
      · subst k2
        clear ea eb c2 c3 k1
        have HRB : Hid (RB W (.slice da dn dc) d ∧ d.length ≤ 140737488351232 ∧ ∀ g, (Value.slice da dn dc).ownBlock = some g → d ≠ [] → g < w.heap.size) := by
          have h9 : RB w (.slice da d.length dc) d := HOp.out.rb
          rw [HDN.out] at h9
          exact ⟨h9.keep HW.out.1.fr, HOp.out.dl, fun g hg hne => rb_lt h9 hne g hg⟩
        have HT := Lib.hid (twin (.slice da dn dc) d W HRB.out.1 HRB.out.2.1)
        go_wp2_with fail
        refine HT.out.mono ?_
        rintro e w1 ⟨v1, rfl, o1, b1⟩
        obtain ⟨a1, c1', rfl⟩ := o1.form
        have hdn := HDN.out
        rw [hdn] at o1 ⊢
        have HOW : Hid (∀ g, (Value.slice a1 dn c1').ownBlock = some g → W.heap.size ≤ g) := fun g hg => (World.ownsRow.lt o1 g hg).1
        obtain ⟨-, d1, -, -, d4, da1, db1, -, -, -⟩ := HK.out w1 b1
        have H1 : Hid (RB w1 (.slice da dn dc) d ∧ RB w1 (.slice a1 dn c1') d ∧ Below W.heap.size W w1) := ⟨HRB.out.1.keep b1, o1.rb, b1⟩
        clear o1 b1 c1 c4 ca cb c0 hdn HT
        go_wp2_with fail
        refine (loadA (.slice da dn dc) d w1 H1.out.1 (by have := HRB.out.2.1; omega)).mono ?_
        rintro e w2 ⟨x, rfl, hx, hA, b2⟩
        have H2 : Hid (x.isNone = (ldO d).isNone ∧ PA (fun k => w1.heap.size ≤ k) w2 (.pointer x) (ldO d) ∧ Below w1.heap.size w1 w2 ∧ RB w2 (.slice da dn dc) d ∧ RB w2 (.slice a1 dn c1') d) := ⟨hx, hA, b2, H1.out.1.keep b2, H1.out.2.1.keep b2⟩
        clear hx hA b2 d1 d4 da1 db1
        go_wp2_with fail
        refine (loadB (.slice a1 dn c1') d w2 H2.out.2.2.2.2 (by have := HRB.out.2.1; omega)).mono ?_
        rintro e w3 ⟨y, rfl, hy, hB, b3⟩
        have hbb := H1.out.2.2.trans ((H2.out.2.2.1.trans (b3.mono H2.out.2.2.1.size)).mono H1.out.2.2.size)
        obtain ⟨-, f1, -, -, f4, ha, hb, -, -, hfz⟩ := HK.out w3 hbb
        obtain ⟨lab', hL'⟩ := (HW.out.1.below H1.out.2.2).put hu H2.out.2.2.1 H2.out.2.1 b3 hB (by rw [ldO_nW]; omega)
        have fs : Fr (fun k => k ≠ w.heap.size ∧ k ≠ w.heap.size + 1) w3 ((w3.setCell ⟨w.heap.size, u, none⟩ (.pointer x)).setCell ⟨w.heap.size + 1, u, none⟩ (.pointer y)) := ((Fr.refl _ w3).setCell _ u _ (fun _ e => e.1 rfl)).setCell _ u _ (fun _ e => e.2 rfl)
        have HU : Hid ((∃ lab va vb oo, LW w lab w.heap.size (w.heap.size + 1) va vb oo (i + 1) ((w3.setCell ⟨w.heap.size, u, none⟩ (.pointer x)).setCell ⟨w.heap.size + 1, u, none⟩ (.pointer y))) ∧ RB ((w3.setCell ⟨w.heap.size, u, none⟩ (.pointer x)).setCell ⟨w.heap.size + 1, u, none⟩ (.pointer y)) (.slice da dn dc) d ∧ RB ((w3.setCell ⟨w.heap.size, u, none⟩ (.pointer x)).setCell ⟨w.heap.size + 1, u, none⟩ (.pointer y)) (.slice a1 dn c1') d) := by
          refine ⟨⟨_, _, _, _, hL'⟩, (H2.out.2.2.2.1.keep b3).fr' fs (fun g hg hne => ?_), (H2.out.2.2.2.2.keep b3).fr' fs (fun g hg hne => ?_)⟩
          · have := HRB.out.2.2 g hg hne
            exact ⟨by omega, by omega⟩
          · have h1 := HOW.out g hg
            have h2 := (Array.getElem?_eq_some_iff.1 HW.out.1.ba).1
            have h3 := (Array.getElem?_eq_some_iff.1 HW.out.1.bb).1
            exact ⟨by omega, by omega⟩
        have HN : Hid (x.isNone = y.isNone) := H2.out.1.trans hy.symm
        have f1' : (w3.setCell ⟨w.heap.size, u, none⟩ (.pointer x)).cell? ⟨bx, 1, none⟩ = some (.int .i64 u) := (cell_set_other HNE.out.1).trans f1
        have hb' : (w3.setCell ⟨w.heap.size, u, none⟩ (.pointer x)).cell? ⟨w.heap.size + 1, u, none⟩ = some (vb u) := (cell_set_other (by omega)).trans hb
        have f4' : ((w3.setCell ⟨w.heap.size, u, none⟩ (.pointer x)).setCell ⟨w.heap.size + 1, u, none⟩ (.pointer y)).cell? ⟨bx, 4, none⟩ = some (.slice da dn dc) := (cell_set_other HNE.out.2).trans ((cell_set_other HNE.out.1).trans f4)
        obtain ⟨fa, fb⟩ := hfz u
        have fb' : (w3.setCell ⟨w.heap.size, u, none⟩ (.pointer x)).frozen? ⟨w.heap.size + 1, u, none⟩ = false := by simpa using fb
        clear hL' hy hB b3 hfz hbb fs
        go_upto_region 22 with fail
        clear fa f1 f4 hb fb ha
        generalize w3.setCell ⟨w.heap.size, u, none⟩ (.pointer x) = w4 at *
        go_upto_region 23 with fail
        clear f1' hb' fb'
        generalize w4.setCell ⟨w.heap.size + 1, u, none⟩ (.pointer y) = w5 at *
        have hxy := HN.out
        rcases x with _ | x
        · obtain rfl : y = none := Option.isNone_iff_eq_none.1 hxy.symm
          go_wp2_with fail
          refine (same _ _ d w5 HRB.out.2.1 HU.out.2.1 HU.out.2.2).mono ?_
          rintro e w6 ⟨rfl, nn, rfl⟩
          have HU2 : Hid (∃ lab va vb oo, LW w lab w.heap.size (w.heap.size + 1) va vb oo (i + 1) (w5.drewN nn)) := by
            obtain ⟨l1, l2, l3, l4, h5⟩ := HU.out.1
            exact ⟨l1, l2, l3, l4, h5.below (belowDrew w5 nn)⟩
          clear f4'
          go_wp2
          exact ⟨⟨i + 1, by omega, by go_num, HU2⟩, by simp [intOf]; omega⟩
        · obtain ⟨y, rfl⟩ : ∃ y', y = some y' := by cases y with | none => simp at hxy | some y => exact ⟨y, rfl⟩
          go_wp2_with fail
          refine (same _ _ d w5 HRB.out.2.1 HU.out.2.1 HU.out.2.2).mono ?_
          rintro e w6 ⟨rfl, nn, rfl⟩
          have HU2 : Hid (∃ lab va vb oo, LW w lab w.heap.size (w.heap.size + 1) va vb oo (i + 1) (w5.drewN nn)) := by
            obtain ⟨l1, l2, l3, l4, h5⟩ := HU.out.1
            exact ⟨l1, l2, l3, l4, h5.below (belowDrew w5 nn)⟩
          clear f4'
          go_wp2
          exact ⟨⟨i + 1, by omega, by go_num, HU2⟩, by simp [intOf]; omega⟩
      have p2 : (kind == 2) = false := beq_eq_false_iff_ne.2 k2
      by_cases k10 : kind = 10
      · subst k10
        clear c3 c4 k1 k2 p1 p2
        go_wp2_with fail
        refine (copyA (HW.out.1.pd u hu).a (by have := HW.out.1.nw u hu; omega)).mono ?_
        rintro e w1 ⟨x, rfl, hx, hA, b1⟩
        obtain ⟨-, d1, d2, -, -, da1, db1, da2, db2, -⟩ := HK.out w1 b1
        have H1 : Hid (x.isNone = (oo u).isNone ∧ PA (fun k => W.heap.size ≤ k) w1 (.pointer x) (oo u) ∧ Below W.heap.size W w1) := ⟨hx, hA, b1⟩
        clear hx hA b1 c1 c2 ca cb c0 ea eb
        go_wp2_with fail
        refine (copyB ((HW.out.1.pd u hu).below H1.out.2.2).b (by have := HW.out.1.nw u hu; omega)).mono ?_
        rintro e w2 ⟨y, rfl, hy, hB, b2⟩
        obtain ⟨-, -, f1, -, -, -, -, ha, hb, hfz⟩ := HK.out w2 (H1.out.2.2.trans (b2.mono H1.out.2.2.size))
        obtain ⟨lab', hL'⟩ := HW.out.1.put ht H1.out.2.2 H1.out.2.1 b2 hB (by have := HW.out.1.nw u hu; omega)
        have HU : Hid (∃ lab va vb oo, LW w lab w.heap.size (w.heap.size + 1) va vb oo (i + 1) ((w2.setCell ⟨w.heap.size, t, none⟩ (.pointer x)).setCell ⟨w.heap.size + 1, t, none⟩ (.pointer y))) := ⟨_, _, _, _, hL'⟩
        have HN : Hid (x.isNone = y.isNone) := H1.out.1.trans hy.symm
        have f1' : (w2.setCell ⟨w.heap.size, t, none⟩ (.pointer x)).cell? ⟨bx, 2, none⟩ = some (.int .i64 t) := (cell_set_other HNE.out.1).trans f1
        have hb' : (w2.setCell ⟨w.heap.size, t, none⟩ (.pointer x)).cell? ⟨w.heap.size + 1, t, none⟩ = some (vb t) := (cell_set_other (by omega)).trans hb
        obtain ⟨fa, fb⟩ := hfz t
        have fb' : (w2.setCell ⟨w.heap.size, t, none⟩ (.pointer x)).frozen? ⟨w.heap.size + 1, t, none⟩ = false := by simpa using fb
        clear hL' hy hB b2 d1 d2 da1 db1 da2 db2 hfz
        go_upto_region 28 with fail
        clear fa f1 hb fb ha
        generalize w2.setCell ⟨w.heap.size, t, none⟩ (.pointer x) = w3 at *
        go_upto_region 29 with fail
        generalize w3.setCell ⟨w.heap.size + 1, t, none⟩ (.pointer y) = w4 at *
        have hxy := HN.out
        rcases x with _ | x
        · obtain rfl : y = none := Option.isNone_iff_eq_none.1 hxy.symm
          go_wp2
          exact ⟨⟨i + 1, by omega, by go_num, HU⟩, by simp [intOf]; omega⟩
        · obtain ⟨y, rfl⟩ : ∃ y', y = some y' := by cases y with | none => simp at hxy | some y => exact ⟨y, rfl⟩
          go_wp2
          exact ⟨⟨i + 1, by omega, by go_num, HU⟩, by simp [intOf]; omega⟩
      have p10 : (kind == 10) = false := beq_eq_false_iff_ne.2 k10
      clear c2 c3 c4 ea eb
      by_cases k4 : kind = 4 ∨ kind = 6 ∨ kind = 8 ∨ kind = 9
      · clear c1 ca cb k1 k2 k10 p1 p2 p10
        have HQ := Lib.hid (askedT ((HW.out.1.below (belowDrew W 1)).pd u hu) (by have := HW.out.1.nw u hu; omega) kind u t at_ torn cut da ka dn dc kn kc k4)
        rcases k4 with rfl | rfl | rfl | rfl
        · go_upto_region 34 with fail
          refine wp_region_held_drew (S := fun x => SF x bx 4 u t at_ (.slice da dn dc) (.slice ka kn kc) torn cut w.heap.size (w.heap.size + 1) (va u) (vb u)) (by kernel_rfl) (HF.out _ (Fr.of_below (belowDrew W 1))) (fun hHeld => ?_)
          refine wpAnyH_take (i := 0) (v := .agg #[.int .i64 4, .int .i64 (u : Int), .int .i64 (t : Int), .int .i64 at_, .slice da dn dc, .slice ka kn kc, .int .i64 torn, .int .i64 cut]) rfl (by kernel_rfl) (by kernel_rfl) (by kernel_rfl) (fun _ _ _ h => h) (Or.inl ⟨by rfl, fun w hw => by obtain ⟨s0, s1, s2, s3, s4, s5, s6, s7, s8, s9⟩ := hw; go_simp⟩) hHeld ?_
          simp only [Act.put, List.getElem_toArray, List.getElem_cons_zero, List.setIfInBounds_toArray, List.set_cons_zero, List.set_cons_succ]
          refine wpAnyH_take (i := 1) (v := .pointer (some ⟨bx, 1, none⟩)) rfl (by kernel_rfl) (by kernel_rfl) (by kernel_rfl) (fun _ _ _ h => h) (Or.inl ⟨by rfl, fun w hw => by go_simp⟩) hHeld ?_
          simp only [Act.put, List.getElem_toArray, List.getElem_cons_zero, List.getElem_cons_succ, List.setIfInBounds_toArray, List.set_cons_zero, List.set_cons_succ]
          refine wpAnyH_take (i := 2) (v := .int .i64 (u : Int)) rfl (by kernel_rfl) (by kernel_rfl) (by kernel_rfl) (fun _ _ _ h => h) (Or.inl ⟨by rfl, fun w hw => by obtain ⟨s0, s1, s2, s3, s4, s5, s6, s7, s8, s9⟩ := hw; go_simp⟩) hHeld ?_
          simp only [Act.put, List.getElem_toArray, List.getElem_cons_zero, List.getElem_cons_succ, List.setIfInBounds_toArray, List.set_cons_zero, List.set_cons_succ]
          refine wpAnyH_take (i := 3) (v := .pointer (some ⟨w.heap.size, u, none⟩)) rfl (by kernel_rfl) (by kernel_rfl) (by kernel_rfl) (fun _ _ _ h => h) (Or.inl ⟨by rfl, fun w hw => by go_simp; intro h9; exfalso; omega⟩) hHeld ?_
          simp only [Act.put, List.getElem_toArray, List.getElem_cons_zero, List.getElem_cons_succ, List.setIfInBounds_toArray, List.set_cons_zero, List.set_cons_succ]
          refine wpAnyH_take (i := 4) (v := va u) rfl (by kernel_rfl) (by kernel_rfl) (by kernel_rfl) (fun _ _ _ h => h) (Or.inl ⟨by rfl, fun w hw => by obtain ⟨s0, s1, s2, s3, s4, s5, s6, s7, s8, s9⟩ := hw; go_simp⟩) hHeld ?_
          simp only [Act.put, List.getElem_toArray, List.getElem_cons_zero, List.getElem_cons_succ, List.setIfInBounds_toArray, List.set_cons_zero, List.set_cons_succ]
          refine wpAnyH_take (i := 5) (v := .pointer (some ⟨bx, 1, none⟩)) rfl (by kernel_rfl) (by kernel_rfl) (by kernel_rfl) (fun _ _ _ h => h) (Or.inl ⟨by rfl, fun w hw => by go_simp⟩) hHeld ?_
          simp only [Act.put, List.getElem_toArray, List.getElem_cons_zero, List.getElem_cons_succ, List.setIfInBounds_toArray, List.set_cons_zero, List.set_cons_succ]
          refine wpAnyH_take (i := 6) (v := .int .i64 (u : Int)) rfl (by kernel_rfl) (by kernel_rfl) (by kernel_rfl) (fun _ _ _ h => h) (Or.inl ⟨by rfl, fun w hw => by obtain ⟨s0, s1, s2, s3, s4, s5, s6, s7, s8, s9⟩ := hw; go_simp⟩) hHeld ?_
          simp only [Act.put, List.getElem_toArray, List.getElem_cons_zero, List.getElem_cons_succ, List.setIfInBounds_toArray, List.set_cons_zero, List.set_cons_succ]
          refine wpAnyH_take (i := 7) (v := .pointer (some ⟨w.heap.size + 1, u, none⟩)) rfl (by kernel_rfl) (by kernel_rfl) (by kernel_rfl) (fun _ _ _ h => h) (Or.inl ⟨by rfl, fun w hw => by go_simp; intro h9; exfalso; omega⟩) hHeld ?_
          simp only [Act.put, List.getElem_toArray, List.getElem_cons_zero, List.getElem_cons_succ, List.setIfInBounds_toArray, List.set_cons_zero, List.set_cons_succ]
          refine wpAnyH_take (i := 8) (v := vb u) rfl (by kernel_rfl) (by kernel_rfl) (by kernel_rfl) (fun _ _ _ h => h) (Or.inl ⟨by rfl, fun w hw => by obtain ⟨s0, s1, s2, s3, s4, s5, s6, s7, s8, s9⟩ := hw; go_simp⟩) hHeld ?_
          simp only [Act.put, List.getElem_toArray, List.getElem_cons_zero, List.getElem_cons_succ, List.setIfInBounds_toArray, List.set_cons_zero, List.set_cons_succ]
          refine wpAnyH_ready (rs := [9]) (by kernel_rfl) (by simp) ?_
          refine AllReadyH.cons (o := _) rfl (fun K hK => ?_) AllReadyH.nil
          go_simp
          refine HQ.out.mono ?_
          rintro e w1 ⟨rfl, b1⟩
          have b2 : Below W.heap.size W w1 := (belowDrew W 1).trans b1
          have hS := HF.out w1 (Fr.of_below b2)
          have HU : Hid (∃ lab va vb oo, LW w lab w.heap.size (w.heap.size + 1) va vb oo (i + 1) w1) := ⟨_, _, _, _, (HW.out.1.below b2).up⟩
          clear b1 b2 HQ
          go_wp2_with fail
          refine hK.out _ _ hS (fun hHeld => ?_)
          clear hK K
          refine wpAnyH_ready (rs := [10]) (by kernel_rfl) (by simp) ?_
          refine AllReadyH.cons (o := _) rfl (fun K hK => ?_) AllReadyH.nil
          go_simp
          refine hK.out _ _ hS (fun hHeld => ?_)
          clear hK K
          refine wpAnyH_done (by kernel_rfl) ?_ _
          clear hHeld
          clear hS
          go_wp2
          exact ⟨⟨i + 1, by omega, by go_num, HU⟩, by simp [intOf]; omega⟩
        · go_upto_region 34 with fail
          refine wp_region_held_drew (S := fun x => SF x bx 6 u t at_ (.slice da dn dc) (.slice ka kn kc) torn cut w.heap.size (w.heap.size + 1) (va u) (vb u)) (by kernel_rfl) (HF.out _ (Fr.of_below (belowDrew W 1))) (fun hHeld => ?_)
          refine wpAnyH_take (i := 0) (v := .agg #[.int .i64 6, .int .i64 (u : Int), .int .i64 (t : Int), .int .i64 at_, .slice da dn dc, .slice ka kn kc, .int .i64 torn, .int .i64 cut]) rfl (by kernel_rfl) (by kernel_rfl) (by kernel_rfl) (fun _ _ _ h => h) (Or.inl ⟨by rfl, fun w hw => by obtain ⟨s0, s1, s2, s3, s4, s5, s6, s7, s8, s9⟩ := hw; go_simp⟩) hHeld ?_
          simp only [Act.put, List.getElem_toArray, List.getElem_cons_zero, List.setIfInBounds_toArray, List.set_cons_zero, List.set_cons_succ]
          refine wpAnyH_take (i := 1) (v := .pointer (some ⟨bx, 1, none⟩)) rfl (by kernel_rfl) (by kernel_rfl) (by kernel_rfl) (fun _ _ _ h => h) (Or.inl ⟨by rfl, fun w hw => by go_simp⟩) hHeld ?_
          simp only [Act.put, List.getElem_toArray, List.getElem_cons_zero, List.getElem_cons_succ, List.setIfInBounds_toArray, List.set_cons_zero, List.set_cons_succ]
          refine wpAnyH_take (i := 2) (v := .int .i64 (u : Int)) rfl (by kernel_rfl) (by kernel_rfl) (by kernel_rfl) (fun _ _ _ h => h) (Or.inl ⟨by rfl, fun w hw => by obtain ⟨s0, s1, s2, s3, s4, s5, s6, s7, s8, s9⟩ := hw; go_simp⟩) hHeld ?_
          simp only [Act.put, List.getElem_toArray, List.getElem_cons_zero, List.getElem_cons_succ, List.setIfInBounds_toArray, List.set_cons_zero, List.set_cons_succ]
          refine wpAnyH_take (i := 3) (v := .pointer (some ⟨w.heap.size, u, none⟩)) rfl (by kernel_rfl) (by kernel_rfl) (by kernel_rfl) (fun _ _ _ h => h) (Or.inl ⟨by rfl, fun w hw => by go_simp; intro h9; exfalso; omega⟩) hHeld ?_
          simp only [Act.put, List.getElem_toArray, List.getElem_cons_zero, List.getElem_cons_succ, List.setIfInBounds_toArray, List.set_cons_zero, List.set_cons_succ]
          refine wpAnyH_take (i := 4) (v := va u) rfl (by kernel_rfl) (by kernel_rfl) (by kernel_rfl) (fun _ _ _ h => h) (Or.inl ⟨by rfl, fun w hw => by obtain ⟨s0, s1, s2, s3, s4, s5, s6, s7, s8, s9⟩ := hw; go_simp⟩) hHeld ?_
          simp only [Act.put, List.getElem_toArray, List.getElem_cons_zero, List.getElem_cons_succ, List.setIfInBounds_toArray, List.set_cons_zero, List.set_cons_succ]
          refine wpAnyH_take (i := 5) (v := .pointer (some ⟨bx, 1, none⟩)) rfl (by kernel_rfl) (by kernel_rfl) (by kernel_rfl) (fun _ _ _ h => h) (Or.inl ⟨by rfl, fun w hw => by go_simp⟩) hHeld ?_
          simp only [Act.put, List.getElem_toArray, List.getElem_cons_zero, List.getElem_cons_succ, List.setIfInBounds_toArray, List.set_cons_zero, List.set_cons_succ]
          refine wpAnyH_take (i := 6) (v := .int .i64 (u : Int)) rfl (by kernel_rfl) (by kernel_rfl) (by kernel_rfl) (fun _ _ _ h => h) (Or.inl ⟨by rfl, fun w hw => by obtain ⟨s0, s1, s2, s3, s4, s5, s6, s7, s8, s9⟩ := hw; go_simp⟩) hHeld ?_
          simp only [Act.put, List.getElem_toArray, List.getElem_cons_zero, List.getElem_cons_succ, List.setIfInBounds_toArray, List.set_cons_zero, List.set_cons_succ]
          refine wpAnyH_take (i := 7) (v := .pointer (some ⟨w.heap.size + 1, u, none⟩)) rfl (by kernel_rfl) (by kernel_rfl) (by kernel_rfl) (fun _ _ _ h => h) (Or.inl ⟨by rfl, fun w hw => by go_simp; intro h9; exfalso; omega⟩) hHeld ?_
          simp only [Act.put, List.getElem_toArray, List.getElem_cons_zero, List.getElem_cons_succ, List.setIfInBounds_toArray, List.set_cons_zero, List.set_cons_succ]
          refine wpAnyH_take (i := 8) (v := vb u) rfl (by kernel_rfl) (by kernel_rfl) (by kernel_rfl) (fun _ _ _ h => h) (Or.inl ⟨by rfl, fun w hw => by obtain ⟨s0, s1, s2, s3, s4, s5, s6, s7, s8, s9⟩ := hw; go_simp⟩) hHeld ?_
          simp only [Act.put, List.getElem_toArray, List.getElem_cons_zero, List.getElem_cons_succ, List.setIfInBounds_toArray, List.set_cons_zero, List.set_cons_succ]
          refine wpAnyH_ready (rs := [9]) (by kernel_rfl) (by simp) ?_
          refine AllReadyH.cons (o := _) rfl (fun K hK => ?_) AllReadyH.nil
          go_simp
          refine HQ.out.mono ?_
          rintro e w1 ⟨rfl, b1⟩
          have b2 : Below W.heap.size W w1 := (belowDrew W 1).trans b1
          have hS := HF.out w1 (Fr.of_below b2)
          have HU : Hid (∃ lab va vb oo, LW w lab w.heap.size (w.heap.size + 1) va vb oo (i + 1) w1) := ⟨_, _, _, _, (HW.out.1.below b2).up⟩
          clear b1 b2 HQ
          go_wp2_with fail
          refine hK.out _ _ hS (fun hHeld => ?_)
          clear hK K
          refine wpAnyH_ready (rs := [10]) (by kernel_rfl) (by simp) ?_
          refine AllReadyH.cons (o := _) rfl (fun K hK => ?_) AllReadyH.nil
          go_simp
          refine hK.out _ _ hS (fun hHeld => ?_)
          clear hK K
          refine wpAnyH_done (by kernel_rfl) ?_ _
          clear hHeld
          clear hS
          go_wp2
          exact ⟨⟨i + 1, by omega, by go_num, HU⟩, by simp [intOf]; omega⟩
        · go_upto_region 34 with fail
          refine wp_region_held_drew (S := fun x => SF x bx 8 u t at_ (.slice da dn dc) (.slice ka kn kc) torn cut w.heap.size (w.heap.size + 1) (va u) (vb u)) (by kernel_rfl) (HF.out _ (Fr.of_below (belowDrew W 1))) (fun hHeld => ?_)
          refine wpAnyH_take (i := 0) (v := .agg #[.int .i64 8, .int .i64 (u : Int), .int .i64 (t : Int), .int .i64 at_, .slice da dn dc, .slice ka kn kc, .int .i64 torn, .int .i64 cut]) rfl (by kernel_rfl) (by kernel_rfl) (by kernel_rfl) (fun _ _ _ h => h) (Or.inl ⟨by rfl, fun w hw => by obtain ⟨s0, s1, s2, s3, s4, s5, s6, s7, s8, s9⟩ := hw; go_simp⟩) hHeld ?_
          simp only [Act.put, List.getElem_toArray, List.getElem_cons_zero, List.setIfInBounds_toArray, List.set_cons_zero, List.set_cons_succ]
          refine wpAnyH_take (i := 1) (v := .pointer (some ⟨bx, 1, none⟩)) rfl (by kernel_rfl) (by kernel_rfl) (by kernel_rfl) (fun _ _ _ h => h) (Or.inl ⟨by rfl, fun w hw => by go_simp⟩) hHeld ?_
          simp only [Act.put, List.getElem_toArray, List.getElem_cons_zero, List.getElem_cons_succ, List.setIfInBounds_toArray, List.set_cons_zero, List.set_cons_succ]
          refine wpAnyH_take (i := 2) (v := .int .i64 (u : Int)) rfl (by kernel_rfl) (by kernel_rfl) (by kernel_rfl) (fun _ _ _ h => h) (Or.inl ⟨by rfl, fun w hw => by obtain ⟨s0, s1, s2, s3, s4, s5, s6, s7, s8, s9⟩ := hw; go_simp⟩) hHeld ?_
          simp only [Act.put, List.getElem_toArray, List.getElem_cons_zero, List.getElem_cons_succ, List.setIfInBounds_toArray, List.set_cons_zero, List.set_cons_succ]
          refine wpAnyH_take (i := 3) (v := .pointer (some ⟨w.heap.size, u, none⟩)) rfl (by kernel_rfl) (by kernel_rfl) (by kernel_rfl) (fun _ _ _ h => h) (Or.inl ⟨by rfl, fun w hw => by go_simp; intro h9; exfalso; omega⟩) hHeld ?_
          simp only [Act.put, List.getElem_toArray, List.getElem_cons_zero, List.getElem_cons_succ, List.setIfInBounds_toArray, List.set_cons_zero, List.set_cons_succ]
          refine wpAnyH_take (i := 4) (v := va u) rfl (by kernel_rfl) (by kernel_rfl) (by kernel_rfl) (fun _ _ _ h => h) (Or.inl ⟨by rfl, fun w hw => by obtain ⟨s0, s1, s2, s3, s4, s5, s6, s7, s8, s9⟩ := hw; go_simp⟩) hHeld ?_
          simp only [Act.put, List.getElem_toArray, List.getElem_cons_zero, List.getElem_cons_succ, List.setIfInBounds_toArray, List.set_cons_zero, List.set_cons_succ]
          refine wpAnyH_take (i := 5) (v := .pointer (some ⟨bx, 1, none⟩)) rfl (by kernel_rfl) (by kernel_rfl) (by kernel_rfl) (fun _ _ _ h => h) (Or.inl ⟨by rfl, fun w hw => by go_simp⟩) hHeld ?_
          simp only [Act.put, List.getElem_toArray, List.getElem_cons_zero, List.getElem_cons_succ, List.setIfInBounds_toArray, List.set_cons_zero, List.set_cons_succ]
          refine wpAnyH_take (i := 6) (v := .int .i64 (u : Int)) rfl (by kernel_rfl) (by kernel_rfl) (by kernel_rfl) (fun _ _ _ h => h) (Or.inl ⟨by rfl, fun w hw => by obtain ⟨s0, s1, s2, s3, s4, s5, s6, s7, s8, s9⟩ := hw; go_simp⟩) hHeld ?_
          simp only [Act.put, List.getElem_toArray, List.getElem_cons_zero, List.getElem_cons_succ, List.setIfInBounds_toArray, List.set_cons_zero, List.set_cons_succ]
          refine wpAnyH_take (i := 7) (v := .pointer (some ⟨w.heap.size + 1, u, none⟩)) rfl (by kernel_rfl) (by kernel_rfl) (by kernel_rfl) (fun _ _ _ h => h) (Or.inl ⟨by rfl, fun w hw => by go_simp; intro h9; exfalso; omega⟩) hHeld ?_
          simp only [Act.put, List.getElem_toArray, List.getElem_cons_zero, List.getElem_cons_succ, List.setIfInBounds_toArray, List.set_cons_zero, List.set_cons_succ]
          refine wpAnyH_take (i := 8) (v := vb u) rfl (by kernel_rfl) (by kernel_rfl) (by kernel_rfl) (fun _ _ _ h => h) (Or.inl ⟨by rfl, fun w hw => by obtain ⟨s0, s1, s2, s3, s4, s5, s6, s7, s8, s9⟩ := hw; go_simp⟩) hHeld ?_
          simp only [Act.put, List.getElem_toArray, List.getElem_cons_zero, List.getElem_cons_succ, List.setIfInBounds_toArray, List.set_cons_zero, List.set_cons_succ]
          refine wpAnyH_ready (rs := [9]) (by kernel_rfl) (by simp) ?_
          refine AllReadyH.cons (o := _) rfl (fun K hK => ?_) AllReadyH.nil
          go_simp
          refine HQ.out.mono ?_
          rintro e w1 ⟨rfl, b1⟩
          have b2 : Below W.heap.size W w1 := (belowDrew W 1).trans b1
          have hS := HF.out w1 (Fr.of_below b2)
          have HU : Hid (∃ lab va vb oo, LW w lab w.heap.size (w.heap.size + 1) va vb oo (i + 1) w1) := ⟨_, _, _, _, (HW.out.1.below b2).up⟩
          clear b1 b2 HQ
          go_wp2_with fail
          refine hK.out _ _ hS (fun hHeld => ?_)
          clear hK K
          refine wpAnyH_ready (rs := [10]) (by kernel_rfl) (by simp) ?_
          refine AllReadyH.cons (o := _) rfl (fun K hK => ?_) AllReadyH.nil
          go_simp
          refine hK.out _ _ hS (fun hHeld => ?_)
          clear hK K
          refine wpAnyH_done (by kernel_rfl) ?_ _
          clear hHeld
          clear hS
          go_wp2
          exact ⟨⟨i + 1, by omega, by go_num, HU⟩, by simp [intOf]; omega⟩
        · go_upto_region 34 with fail
          refine wp_region_held_drew (S := fun x => SF x bx 9 u t at_ (.slice da dn dc) (.slice ka kn kc) torn cut w.heap.size (w.heap.size + 1) (va u) (vb u)) (by kernel_rfl) (HF.out _ (Fr.of_below (belowDrew W 1))) (fun hHeld => ?_)
          refine wpAnyH_take (i := 0) (v := .agg #[.int .i64 9, .int .i64 (u : Int), .int .i64 (t : Int), .int .i64 at_, .slice da dn dc, .slice ka kn kc, .int .i64 torn, .int .i64 cut]) rfl (by kernel_rfl) (by kernel_rfl) (by kernel_rfl) (fun _ _ _ h => h) (Or.inl ⟨by rfl, fun w hw => by obtain ⟨s0, s1, s2, s3, s4, s5, s6, s7, s8, s9⟩ := hw; go_simp⟩) hHeld ?_
          simp only [Act.put, List.getElem_toArray, List.getElem_cons_zero, List.setIfInBounds_toArray, List.set_cons_zero, List.set_cons_succ]
          refine wpAnyH_take (i := 1) (v := .pointer (some ⟨bx, 1, none⟩)) rfl (by kernel_rfl) (by kernel_rfl) (by kernel_rfl) (fun _ _ _ h => h) (Or.inl ⟨by rfl, fun w hw => by go_simp⟩) hHeld ?_
          simp only [Act.put, List.getElem_toArray, List.getElem_cons_zero, List.getElem_cons_succ, List.setIfInBounds_toArray, List.set_cons_zero, List.set_cons_succ]
          refine wpAnyH_take (i := 2) (v := .int .i64 (u : Int)) rfl (by kernel_rfl) (by kernel_rfl) (by kernel_rfl) (fun _ _ _ h => h) (Or.inl ⟨by rfl, fun w hw => by obtain ⟨s0, s1, s2, s3, s4, s5, s6, s7, s8, s9⟩ := hw; go_simp⟩) hHeld ?_
          simp only [Act.put, List.getElem_toArray, List.getElem_cons_zero, List.getElem_cons_succ, List.setIfInBounds_toArray, List.set_cons_zero, List.set_cons_succ]
          refine wpAnyH_take (i := 3) (v := .pointer (some ⟨w.heap.size, u, none⟩)) rfl (by kernel_rfl) (by kernel_rfl) (by kernel_rfl) (fun _ _ _ h => h) (Or.inl ⟨by rfl, fun w hw => by go_simp; intro h9; exfalso; omega⟩) hHeld ?_
          simp only [Act.put, List.getElem_toArray, List.getElem_cons_zero, List.getElem_cons_succ, List.setIfInBounds_toArray, List.set_cons_zero, List.set_cons_succ]
          refine wpAnyH_take (i := 4) (v := va u) rfl (by kernel_rfl) (by kernel_rfl) (by kernel_rfl) (fun _ _ _ h => h) (Or.inl ⟨by rfl, fun w hw => by obtain ⟨s0, s1, s2, s3, s4, s5, s6, s7, s8, s9⟩ := hw; go_simp⟩) hHeld ?_
          simp only [Act.put, List.getElem_toArray, List.getElem_cons_zero, List.getElem_cons_succ, List.setIfInBounds_toArray, List.set_cons_zero, List.set_cons_succ]
          refine wpAnyH_take (i := 5) (v := .pointer (some ⟨bx, 1, none⟩)) rfl (by kernel_rfl) (by kernel_rfl) (by kernel_rfl) (fun _ _ _ h => h) (Or.inl ⟨by rfl, fun w hw => by go_simp⟩) hHeld ?_
          simp only [Act.put, List.getElem_toArray, List.getElem_cons_zero, List.getElem_cons_succ, List.setIfInBounds_toArray, List.set_cons_zero, List.set_cons_succ]
          refine wpAnyH_take (i := 6) (v := .int .i64 (u : Int)) rfl (by kernel_rfl) (by kernel_rfl) (by kernel_rfl) (fun _ _ _ h => h) (Or.inl ⟨by rfl, fun w hw => by obtain ⟨s0, s1, s2, s3, s4, s5, s6, s7, s8, s9⟩ := hw; go_simp⟩) hHeld ?_
          simp only [Act.put, List.getElem_toArray, List.getElem_cons_zero, List.getElem_cons_succ, List.setIfInBounds_toArray, List.set_cons_zero, List.set_cons_succ]
          refine wpAnyH_take (i := 7) (v := .pointer (some ⟨w.heap.size + 1, u, none⟩)) rfl (by kernel_rfl) (by kernel_rfl) (by kernel_rfl) (fun _ _ _ h => h) (Or.inl ⟨by rfl, fun w hw => by go_simp; intro h9; exfalso; omega⟩) hHeld ?_
          simp only [Act.put, List.getElem_toArray, List.getElem_cons_zero, List.getElem_cons_succ, List.setIfInBounds_toArray, List.set_cons_zero, List.set_cons_succ]
          refine wpAnyH_take (i := 8) (v := vb u) rfl (by kernel_rfl) (by kernel_rfl) (by kernel_rfl) (fun _ _ _ h => h) (Or.inl ⟨by rfl, fun w hw => by obtain ⟨s0, s1, s2, s3, s4, s5, s6, s7, s8, s9⟩ := hw; go_simp⟩) hHeld ?_
          simp only [Act.put, List.getElem_toArray, List.getElem_cons_zero, List.getElem_cons_succ, List.setIfInBounds_toArray, List.set_cons_zero, List.set_cons_succ]
          refine wpAnyH_ready (rs := [9]) (by kernel_rfl) (by simp) ?_
          refine AllReadyH.cons (o := _) rfl (fun K hK => ?_) AllReadyH.nil
          go_simp
          refine HQ.out.mono ?_
          rintro e w1 ⟨rfl, b1⟩
          have b2 : Below W.heap.size W w1 := (belowDrew W 1).trans b1
          have hS := HF.out w1 (Fr.of_below b2)
          have HU : Hid (∃ lab va vb oo, LW w lab w.heap.size (w.heap.size + 1) va vb oo (i + 1) w1) := ⟨_, _, _, _, (HW.out.1.below b2).up⟩
          clear b1 b2 HQ
          go_wp2_with fail
          refine hK.out _ _ hS (fun hHeld => ?_)
          clear hK K
          refine wpAnyH_ready (rs := [10]) (by kernel_rfl) (by simp) ?_
          refine AllReadyH.cons (o := _) rfl (fun K hK => ?_) AllReadyH.nil
          go_simp
          refine hK.out _ _ hS (fun hHeld => ?_)
          clear hK K
          refine wpAnyH_done (by kernel_rfl) ?_ _
          clear hHeld
          clear hS
          go_wp2
          exact ⟨⟨i + 1, by omega, by go_num, HU⟩, by simp [intOf]; omega⟩
      have p4 : (kind == 4) = false := beq_eq_false_iff_ne.2 (fun e => k4 (by simp [e]))
      have p6 : (kind == 6) = false := beq_eq_false_iff_ne.2 (fun e => k4 (by simp [e]))
      have p8 : (kind == 8) = false := beq_eq_false_iff_ne.2 (fun e => k4 (by simp [e]))
      have p9 : (kind == 9) = false := beq_eq_false_iff_ne.2 (fun e => k4 (by simp [e]))
      have HQ := Lib.hid (show Calls Try.prog 13 #[.agg #[.int .i64 kind, .int .i64 u, .int .i64 t, .int .i64 at_, .slice da dn dc, .slice ka kn kc, .int .i64 torn, .int .i64 cut], va u, vb u] W.drew (fun e w' => e = .returned (.bool true) ∧ PE (fun k => lab k = 2 * u + 1) (fun k => lab k = 2 * u + 2) W.drew (va u) (vb u) (doO kind at_ d keep torn cut (oo u)) w') by
        have hLd := HW.out.1.below (belowDrew W 1)
        have h8 : RB w (.slice da d.length dc) d := HOp.out.rb
        have h9 : RBo w (.slice ka keep.length kc) keep := HOp.out.bo
        have h0 := doneT (hLd.pd u hu) (fun k e1 e2 => by omega) (fun k e => (hLd.bd k (by omega)).2) (fun k e => (hLd.bd k (by omega)).2) (by have := hLd.nw u hu; omega) kind u t at_ torn cut da ka dc kc d keep HOp.out.at_ (h8.keep hLd.fr) HOp.out.dl (fun g hg hne => by
          have h1 := rb_lt h8 hne g hg
          exact ⟨fun e => by have := (hLd.bd g (by omega)).1; omega, fun e => by have := (hLd.bd g (by omega)).1; omega⟩) (h9.keep hLd.fr) HOp.out.kl (fun g hg hne => by
          have h1 := rbo_lt h9 hne g hg
          exact ⟨fun e => by have := (hLd.bd g (by omega)).1; omega, fun e => by have := (hLd.bd g (by omega)).1; omega⟩)
        rw [HDN.out, HKN.out] at h0
        exact h0)
      clear c1 ca cb k1 k2 k10 k4
      go_upto_region 10 with fail
      refine wp_region_held_drew (S := fun x => SF x bx kind u t at_ (.slice da dn dc) (.slice ka kn kc) torn cut w.heap.size (w.heap.size + 1) (va u) (vb u)) (by kernel_rfl) (HF.out _ (Fr.of_below (belowDrew W 1))) (fun hHeld => ?_)
      refine wpAnyH_take (i := 0) (v := .agg #[.int .i64 kind, .int .i64 (u : Int), .int .i64 (t : Int), .int .i64 at_, .slice da dn dc, .slice ka kn kc, .int .i64 torn, .int .i64 cut]) rfl (by kernel_rfl) (by kernel_rfl) (by kernel_rfl) (fun _ _ _ h => h) (Or.inl ⟨by rfl, fun w hw => by obtain ⟨s0, s1, s2, s3, s4, s5, s6, s7, s8, s9⟩ := hw; go_simp⟩) hHeld ?_
      simp only [Act.put, List.getElem_toArray, List.getElem_cons_zero, List.setIfInBounds_toArray, List.set_cons_zero, List.set_cons_succ]
      refine wpAnyH_take (i := 1) (v := .pointer (some ⟨bx, 1, none⟩)) rfl (by kernel_rfl) (by kernel_rfl) (by kernel_rfl) (fun _ _ _ h => h) (Or.inl ⟨by rfl, fun w hw => by go_simp⟩) hHeld ?_
      simp only [Act.put, List.getElem_toArray, List.getElem_cons_zero, List.getElem_cons_succ, List.setIfInBounds_toArray, List.set_cons_zero, List.set_cons_succ]
      refine wpAnyH_take (i := 2) (v := .int .i64 (u : Int)) rfl (by kernel_rfl) (by kernel_rfl) (by kernel_rfl) (fun _ _ _ h => h) (Or.inl ⟨by rfl, fun w hw => by obtain ⟨s0, s1, s2, s3, s4, s5, s6, s7, s8, s9⟩ := hw; go_simp⟩) hHeld ?_
      simp only [Act.put, List.getElem_toArray, List.getElem_cons_zero, List.getElem_cons_succ, List.setIfInBounds_toArray, List.set_cons_zero, List.set_cons_succ]
      refine wpAnyH_take (i := 3) (v := .pointer (some ⟨w.heap.size, u, none⟩)) rfl (by kernel_rfl) (by kernel_rfl) (by kernel_rfl) (fun _ _ _ h => h) (Or.inl ⟨by rfl, fun w hw => by go_simp; intro h9; exfalso; omega⟩) hHeld ?_
      simp only [Act.put, List.getElem_toArray, List.getElem_cons_zero, List.getElem_cons_succ, List.setIfInBounds_toArray, List.set_cons_zero, List.set_cons_succ]
      refine wpAnyH_take (i := 4) (v := va u) rfl (by kernel_rfl) (by kernel_rfl) (by kernel_rfl) (fun _ _ _ h => h) (Or.inl ⟨by rfl, fun w hw => by obtain ⟨s0, s1, s2, s3, s4, s5, s6, s7, s8, s9⟩ := hw; go_simp⟩) hHeld ?_
      simp only [Act.put, List.getElem_toArray, List.getElem_cons_zero, List.getElem_cons_succ, List.setIfInBounds_toArray, List.set_cons_zero, List.set_cons_succ]
      refine wpAnyH_take (i := 5) (v := .pointer (some ⟨bx, 1, none⟩)) rfl (by kernel_rfl) (by kernel_rfl) (by kernel_rfl) (fun _ _ _ h => h) (Or.inl ⟨by rfl, fun w hw => by go_simp⟩) hHeld ?_
      simp only [Act.put, List.getElem_toArray, List.getElem_cons_zero, List.getElem_cons_succ, List.setIfInBounds_toArray, List.set_cons_zero, List.set_cons_succ]
      refine wpAnyH_take (i := 6) (v := .int .i64 (u : Int)) rfl (by kernel_rfl) (by kernel_rfl) (by kernel_rfl) (fun _ _ _ h => h) (Or.inl ⟨by rfl, fun w hw => by obtain ⟨s0, s1, s2, s3, s4, s5, s6, s7, s8, s9⟩ := hw; go_simp⟩) hHeld ?_
      simp only [Act.put, List.getElem_toArray, List.getElem_cons_zero, List.getElem_cons_succ, List.setIfInBounds_toArray, List.set_cons_zero, List.set_cons_succ]
      refine wpAnyH_take (i := 7) (v := .pointer (some ⟨w.heap.size + 1, u, none⟩)) rfl (by kernel_rfl) (by kernel_rfl) (by kernel_rfl) (fun _ _ _ h => h) (Or.inl ⟨by rfl, fun w hw => by go_simp; intro h9; exfalso; omega⟩) hHeld ?_
      simp only [Act.put, List.getElem_toArray, List.getElem_cons_zero, List.getElem_cons_succ, List.setIfInBounds_toArray, List.set_cons_zero, List.set_cons_succ]
      refine wpAnyH_take (i := 8) (v := vb u) rfl (by kernel_rfl) (by kernel_rfl) (by kernel_rfl) (fun _ _ _ h => h) (Or.inl ⟨by rfl, fun w hw => by obtain ⟨s0, s1, s2, s3, s4, s5, s6, s7, s8, s9⟩ := hw; go_simp⟩) hHeld ?_
      simp only [Act.put, List.getElem_toArray, List.getElem_cons_zero, List.getElem_cons_succ, List.setIfInBounds_toArray, List.set_cons_zero, List.set_cons_succ]
      refine wpAnyH_ready (rs := [9]) (by kernel_rfl) (by simp) ?_
      refine AllReadyH.cons (o := _) rfl (fun K hK => ?_) AllReadyH.nil
      go_simp
      refine HQ.out.mono ?_
      rintro e w1 ⟨rfl, hp⟩
      have hS := HF.out w1 (by
        obtain ⟨m, h1, h2, h3, h4⟩ := hp
        exact (Fr.of_below (belowDrew W 1)).trans h4 (fun k _ e => ⟨fun e2 => by omega, fun e2 => by omega⟩))
      have HU : Hid (∃ lab va vb oo, LW w lab w.heap.size (w.heap.size + 1) va vb oo (i + 1) w1) := by
        have h9 := doO_nW kind at_ d keep torn cut (oo u)
        have h8 := HW.out.1.nw u hu
        obtain ⟨lab', h7⟩ := (HW.out.1.below (belowDrew W 1)).acted hu hp (by omega)
        exact ⟨_, _, _, _, h7⟩
      clear hp HQ
      go_wp2_with fail
      refine hK.out _ _ hS (fun hHeld => ?_)
      clear hK K
      refine wpAnyH_ready (rs := [10]) (by kernel_rfl) (by simp) ?_
      refine AllReadyH.cons (o := _) rfl (fun K hK => ?_) AllReadyH.nil
      go_simp
      refine hK.out _ _ hS (fun hHeld => ?_)
      clear hK K
      refine wpAnyH_done (by kernel_rfl) ?_ _
      clear hHeld
      clear hS
      go_wp2
      exact ⟨⟨i + 1, by omega, by go_num, HU⟩, by simp [intOf]; omega⟩
    · have hin : n = i := by omega
      obtain ⟨lab, va, vb, oo, hL⟩ := HI.out
      have HE := Lib.hid hL.fr
      clear HI hL
      go_wp2
      go_ret
      exact ⟨rfl, HE.out⟩
end Go.Proofs.Ytglknmelcianjaa
