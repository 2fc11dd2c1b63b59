import Derived.Test.YtldkecjfjcnkfaaGc
namespace Go.Proofs.Ytldkecjfjcnkfaa
open Go.RowKit Go.Deep
theorem GR.rdS {S : Nat → Prop} {B A : Nat} {w : World} {v : Value} {es : List PE} (h : GR B A w v es) (hS : ∀ b, B ≤ b → S b) (hv : ∀ e ∈ es, RV S w e.t e.x e.y) : RD S w es.length (kyG es) (dvG es) v := by
  obtain ⟨h, _⟩ := h
  rcases h.2 with ⟨rfl, h0⟩ | ⟨g, cap, cur, rfl, hB, hg, _, _, hsz, hx⟩
  · rw [h0]; exact ⟨none, 0, rfl, .inl rfl⟩
  · refine ⟨_, _, rfl, .inr ⟨g, 0, rfl, hS g hB, (Array.getElem?_eq_some_iff.1 hg).1, fun i hi => ?_⟩⟩
    obtain ⟨e, he⟩ : ∃ e, es[i]? = some e := ⟨_, List.getElem?_eq_getElem hi⟩
    have hgd := getD_of he
    have c : ∀ r, r < 6 → w.cell? ⟨g, i * 6 + r, none⟩ = (gC e)[r]? := fun r hr => by
      have h2 := gCs_get es i e r hr he
      rw [← hx, List.getElem?_take_of_lt (by omega), Array.getElem?_toList] at h2
      simp only [World.cell?, hg]
      simpa using h2
    have e1 : kyG es i = e.key := by unfold kyG; rw [hgd]
    have e2 : dvG es i = e.t := by unfold dvG; rw [hgd]
    refine ⟨e.x, e.y, ?_, ?_⟩
    · rw [e2]; exact hv e (List.mem_of_getElem? he)
    · rw [e1, e2]
      simp only [Nat.zero_add]
      exact ⟨c 0 (by omega), c 1 (by omega), c 2 (by omega), c 3 (by omega), c 4 (by omega), c 5 (by omega)⟩
/-- the pairs of names -/
def nE (ns : List (ByteArray × Int)) : List PE := ns.map fun x => leaf x.1 (tn x.2)
theorem nE_len (ns : List (ByteArray × Int)) : (nE ns).length = ns.length := by simp [nE]
theorem nE_snoc (ns : List (ByteArray × Int)) (i : Nat) (x : ByteArray × Int) (h : ns[i]? = some x) : nE (ns.take (i + 1)) = nE (ns.take i) ++ [leaf x.1 (tn x.2)] := by
  rw [List.take_add_one, h]
  simp [nE]
theorem take_set6 (cs : Array Value) (o : Nat) (c0 c1 c2 c3 c4 c5 : Value) (h : o + 6 ≤ cs.size) :
    ((((((cs.setIfInBounds o c0).setIfInBounds (o + 1) c1).setIfInBounds (o + 2) c2).setIfInBounds (o + 3) c3).setIfInBounds (o + 4) c4).setIfInBounds (o + 5) c5).toList.take (o + 6) = cs.toList.take o ++ [c0, c1, c2, c3, c4, c5] := by
  apply List.ext_getElem?
  intro j
  by_cases hj : j < o + 6
  · rw [List.getElem?_take_of_lt hj, Array.getElem?_toList]
    by_cases hj2 : j < o
    · rw [List.getElem?_append_left (by simp; omega), List.getElem?_take_of_lt hj2, Array.getElem?_toList]
      simp only [Array.getElem?_setIfInBounds]
      repeat rw [if_neg (by omega)]
    · rw [List.getElem?_append_right (by simp; omega)]
      have hl : (cs.toList.take o).length = o := by simp; omega
      rw [hl]
      obtain rfl | rfl | rfl | rfl | rfl | rfl : j = o ∨ j = o + 1 ∨ j = o + 2 ∨ j = o + 3 ∨ j = o + 4 ∨ j = o + 5 := by omega
      all_goals
        simp only [Array.getElem?_setIfInBounds, Array.size_setIfInBounds]
        simp
        omega
  · rw [List.getElem?_eq_none (by simp; omega), List.getElem?_eq_none (by simp; omega)]
theorem numberIf58t (key : ByteArray) (n : Int) (w : World) : Calls Try.prog 58 #[.bool true, .string key, .int .i64 n] w fun e w' => e = .returned (.agg #[.string key, .int .i64 1, .int .i64 n, .string ⟨#[]⟩, .slice none 0 0, .slice none 0 0]) ∧ Below w.heap.size w w' := numberIf58 true key n w
def NF (P n : Nat) (ns : List (ByteArray × Int)) (w0 : World) (i : Nat) (wr : World) : Prop := ∃ cs : Array Value, wr.heap[P]? = some (.cells cs 59 (0, 0)) ∧ cs.size = n * 6 ∧ cs.toList.take (i * 6) = gCs (nE (ns.take i)) ∧ Below P w0 wr
theorem make_pairs (n : Nat) (hn : n ≤ 2147483647) (u : World) : (Instr.makeSlice 33 (.int .i64 (n : Int)) (.int .i64 (n : Int))).run Try.prog u =
      .ok (.slice (some ⟨u.heap.size, 0, none⟩) n n) (u.alloc (.cells (madeCells #[.string ⟨#[]⟩, .int .i64 0, .int .i64 0, .string ⟨#[]⟩, .slice none 0 0, .slice none 0 0] (n * 6)) 59)) := by
  obtain ⟨i0, hi, hz0, hz1, hz2⟩ := info_parts info42
  have h := run_make (P := Try.prog) u 33 59 i0 _ Try.underlying33 hi hz0 .i64 .i64 (n : Int) (n : Int) (by omega) (by omega) (by rw [hz2]; omega) (by omega)
  simp only [hz1, Value.cells] at h
  exact h
set_option maxHeartbeats 4000000 in
set_option maxRecDepth 100000 in
theorem namesDict57 (nv : Value) (ns : List (ByteArray × Int)) (w : World) (h : RNs w nv ns) (hn : ns.length ≤ 2147483646) :
    Calls Try.prog 57 #[nv] w fun en w' => ∃ v', en = .returned (.agg #[.int .i64 4, .int .i64 0, .string ⟨#[]⟩, .slice none 0 0, v']) ∧ RD (fun b => w.heap.size ≤ b) w' ns.length (kyG (nE ns)) (dvG (nE ns)) v' ∧ Below w.heap.size w w' := by
  have H := Lib.hid h
  obtain ⟨a, c, rfl, hx⟩ := h
  have HX := Lib.hid hx
  clear hx
  have b0 : Below w.heap.size w (w.alloc (.cells #[.int .i64 0, .int .i64 0, .string ⟨#[]⟩, .slice none 0 0, .slice none 0 0] 56)) := (Below.refl _ _).alloc (Nat.le_refl _) _
  have H0 : Hid (Below w.heap.size w (w.alloc (.cells #[.int .i64 0, .int .i64 0, .string ⟨#[]⟩, .slice none 0 0, .slice none 0 0] 56)) ∧ (w.alloc (.cells #[.int .i64 0, .int .i64 0, .string ⟨#[]⟩, .slice none 0 0, .slice none 0 0] 56)).heap[w.heap.size]? = some (.cells #[.int .i64 0, .int .i64 0, .string ⟨#[]⟩, .slice none 0 0, .slice none 0 0] 56 (0, 0)) ∧ (w.alloc (.cells #[.int .i64 0, .int .i64 0, .string ⟨#[]⟩, .slice none 0 0, .slice none 0 0] 56)).heap.size = w.heap.size + 1) := ⟨b0, heap_new _ _, by simp⟩
  clear b0
  have hmk := make_pairs ns.length (by omega)
  generalize hnn : ns.length = n at *
  have HNN := Lib.hid hnn
  clear hnn
  go_enter Try.func57, Try.ntmps57
  go_upto_region 1 with fail
  generalize w.alloc (.cells #[.int .i64 0, .int .i64 0, .string ⟨#[]⟩, .slice none 0 0, .slice none 0 0] 56) = w0 at *
  have HF0 : Hid (NF w0.heap.size n ns w0 0 (w0.alloc (.cells (madeCells #[.string ⟨#[]⟩, .int .i64 0, .int .i64 0, .string ⟨#[]⟩, .slice none 0 0, .slice none 0 0] (n * 6)) 59))) := ⟨_, heap_new _ _, by simp [size_madeCells], by simp [nE, gCs], (Below.refl _ _).alloc (Nat.le_refl _) _⟩
  go_wp2
  clear hmk
  generalize w0.alloc (.cells (madeCells #[.string ⟨#[]⟩, .int .i64 0, .int .i64 0, .string ⟨#[]⟩, .slice none 0 0, .slice none 0 0] (n * 6)) 59) = wm at *
  go_loopw [11] (fun t wr => ∃ i : Nat, i ≤ n ∧ t = .int .i64 i ∧ Hid (NF w0.heap.size n ns w0 i wr)) (fun t _ => n - (intOf t).toNat)
  case atStart => exact ⟨0, Nat.zero_le _, rfl, HF0.out⟩
  case round =>
    obtain ⟨i, hi, rfl, HI⟩ := hrel
    obtain ⟨cs, f1, f2, f3, f4⟩ := HI.out
    have hz0 := H0.out.2.2
    have HBW : Hid (Below w.heap.size w wr) := H0.out.1.trans (f4.mono (by omega))
    by_cases hlt : i < n
    · obtain ⟨x, hx⟩ : ∃ x, ns[i]? = some x := ⟨_, List.getElem?_eq_getElem (by rw [HNN.out]; exact hlt)⟩
      obtain ⟨g, o, rfl, hg, hc⟩ := HX.out.resolve_left (fun e => by rw [e] at hx; simp at hx)
      have g0 := Below.cellS HBW.out (Nat.le_refl _) (hc i x hx).1
      have g1 := Below.cellS HBW.out (Nat.le_refl _) (hc i x hx).2
      obtain ⟨xs, xi⟩ := x
      have HXI := Lib.hid hx
      have HFI : Hid (wr.heap[w0.heap.size]? = some (.cells cs 59 (0, 0)) ∧ cs.size = n * 6 ∧ cs.toList.take (i * 6) = gCs (nE (ns.take i)) ∧ Below w0.heap.size w0 wr) := ⟨f1, f2, f3, f4⟩
      clear hc hx f3 f4 HI
      have bz : Below wr.heap.size wr (wr.alloc (.cells #[.string xs, .int .i64 xi] 46)) := (Below.refl _ _).alloc (Nat.le_refl _) _
      have hbx := heap_new wr (.cells #[.string xs, .int .i64 xi] 46)
      have HZ : Hid (Below wr.heap.size wr (wr.alloc (.cells #[.string xs, .int .i64 xi] 46))) := bz
      clear bz f1 f2 hz0
      go_upto_region 5 with fail
      generalize wr.alloc (.cells #[.string xs, .int .i64 xi] 46) = wb at *
      generalize hbxs : wr.heap.size = bx at *
      have HBXS := Lib.hid hbxs
      clear hbxs
      have k0 : wb.cell? ⟨bx, 0, none⟩ = some (.string xs) := by simp [World.cell?, hbx]
      have k1 : wb.cell? ⟨bx, 1, none⟩ = some (.int .i64 xi) := by simp [World.cell?, hbx]
      clear hbx g0 g1
      go_wp2_with fail
      refine (numberIf58t xs xi wb).mono ?_
      rintro en w2 ⟨rfl, b2⟩
      have hb2 : Below wr.heap.size wr w2 := by rw [HBXS.out]; exact HZ.out.trans (b2.mono (by have := HZ.out.size; have := HBXS.out; omega))
      have hP2 : w2.heap[w0.heap.size]? = some (.cells cs 59 (0, 0)) := (hb2.block _ (Array.getElem?_eq_some_iff.1 HFI.out.1).1).trans HFI.out.1
      have hsz : i * 6 + 6 ≤ cs.size := by rw [HFI.out.2.1]; omega
      have HU : Hid (NF w0.heap.size n ns w0 (i + 1) ((((((w2.setCell ⟨w0.heap.size, i * 6, none⟩ (.string xs)).setCell ⟨w0.heap.size, i * 6 + 1, none⟩ (.int .i64 1)).setCell ⟨w0.heap.size, i * 6 + 2, none⟩ (.int .i64 xi)).setCell ⟨w0.heap.size, i * 6 + 3, none⟩ (.string ⟨#[]⟩)).setCell ⟨w0.heap.size, i * 6 + 4, none⟩ (.slice none 0 0)).setCell ⟨w0.heap.size, i * 6 + 5, none⟩ (.slice none 0 0))) := by
        refine ⟨_, ow.set (ow.set (ow.set (ow.set (ow.set (ow.set hP2 _ _) _ _) _ _) _ _) _ _) _ _, by simp [HFI.out.2.1], ?_, ?_⟩
        · rw [show (i + 1) * 6 = i * 6 + 6 by omega, take_set6 cs (i * 6) _ _ _ _ _ _ hsz, HFI.out.2.2.1, nE_snoc ns i _ HXI.out, gCs_app]
          simp [gCs, gC, leaf, cv, tn, T.k, T.n, T.s]
        · have h9 : Below w0.heap.size w0 w2 := HFI.out.2.2.2.trans (hb2.mono HFI.out.2.2.2.size)
          exact (((((h9.setCell (Nat.le_refl _) _).setCell (Nat.le_refl _) _).setCell (Nat.le_refl _) _).setCell (Nat.le_refl _) _).setCell (Nat.le_refl _) _).setCell (Nat.le_refl _) _
      have cP : ∀ j, j < 6 → ∃ u, w2.cell? ⟨w0.heap.size, i * 6 + j, none⟩ = some u := fun j hj => ⟨cs[i * 6 + j]'(by omega), by simp only [World.cell?, hP2]; exact Array.getElem?_eq_getElem (by omega)⟩
      have fP : ∀ j, w2.frozen? ⟨w0.heap.size, j, none⟩ = false := fun j => by simp [World.frozen?, hP2]
      obtain ⟨u0, m0⟩ := cP 0 (by omega)
      obtain ⟨u1, m1⟩ := cP 1 (by omega)
      obtain ⟨u2, m2⟩ := cP 2 (by omega)
      obtain ⟨u3, m3⟩ := cP 3 (by omega)
      obtain ⟨u4, m4⟩ := cP 4 (by omega)
      obtain ⟨u5, m5⟩ := cP 5 (by omega)
      have n0 := fP (i * 6)
      have n1 := fP (i * 6 + 1)
      have n2 := fP (i * 6 + 2)
      have n3 := fP (i * 6 + 3)
      have n4 := fP (i * 6 + 4)
      have n5 := fP (i * 6 + 5)
      rw [Nat.add_zero] at m0
      clear k0 k1 b2 hb2 hP2 hsz cP fP
      go_wp2
      exact ⟨⟨i + 1, by omega, by go_num, HU⟩, by simp [intOf]; omega⟩
    · obtain rfl : i = n := by omega
      have hR : wr.heap[w.heap.size]? = _ := (f4.block _ (by omega)).trans H0.out.2.1
      have f5 : cs.toList = gCs (nE ns) := by
        have e : ns.take i = ns := List.take_of_length_le (by rw [HNN.out]; exact Nat.le_refl _)
        rw [e, List.take_of_length_le (by simp; omega)] at f3
        exact f3
      have HG : Hid (RG wr.heap.size wr (.slice (some ⟨w0.heap.size, 0, none⟩) i i) (nE ns)) := by
        refine ⟨_, _, by rw [nE_len, HNN.out], by rw [nE_len, HNN.out]; exact Nat.le_refl _, ?_⟩
        by_cases he : nE ns = []
        · exact .inl he
        · refine .inr ⟨w0.heap.size, 0, rfl, (Array.getElem?_eq_some_iff.1 f1).1, fun j e hj => ⟨?_, fun r hr => ?_⟩⟩
          · obtain ⟨y, hy, rfl⟩ : ∃ y, ns[j]? = some y ∧ leaf y.1 (tn y.2) = e := by
              unfold nE at hj
              rw [List.getElem?_map] at hj
              obtain ⟨y, h1, h2⟩ := Option.map_eq_some_iff.1 hj
              exact ⟨y, h1, h2⟩
            exact rv_leaf _ _ _ _ _
          · have h2 := gCs_get (nE ns) j e r hr hj
            rw [← f5, Array.getElem?_toList] at h2
            simp only [World.cell?, f1, Nat.zero_add]
            simpa using h2
      have HBE := Lib.hid (And.intro HBW.out hR)
      have HDC := Lib.hid (dictionary48 (nE ns) [] (.slice (some ⟨w0.heap.size, 0, none⟩) i i) none 0 wr HG.out (.inl rfl) (fun e he => by cases he) (by rw [nE_len, HNN.out]; simp; omega))
      clear f1 f2 f3 f4 f5 hR HI HG hz0
      go_wp2_with fail
      refine HDC.out.mono ?_
      rintro en w3 ⟨v', es', rfl, hld, hgr, b3⟩
      have hes : es' = nE ns := by
        generalize hq : ([] : List PE) = q at hld
        cases hld with
        | nil => rfl
        | skip _ _ => simp at hq
        | put _ _ _ _ => simp at hq
      subst hes
      have hR3 : w3.heap[w.heap.size]? = some (.cells #[.int .i64 0, .int .i64 0, .string ⟨#[]⟩, .slice none 0 0, .slice none 0 0] 56 (0, 0)) := (b3.block _ (Array.getElem?_eq_some_iff.1 HBE.out.2).1).trans HBE.out.2
      obtain ⟨va, vc, rfl⟩ := hgr.form
      have HE : Hid (∀ wE, Besides w.heap.size w3 wE → RD (fun b => w.heap.size ≤ b) wE ns.length (kyG (nE ns)) (dvG (nE ns)) (.slice va (nE ns).length vc) ∧ Below w.heap.size w wE) := fun wE hE => by
        have hsz := HBE.out.1.size
        have hlt := (Array.getElem?_eq_some_iff.1 HBE.out.2).1
        refine ⟨?_, ?_⟩
        · rw [show ns.length = (nE ns).length from (nE_len ns).symm]
          have hg2 : GR (wr.heap.size + 1) wr.heap.size wE (.slice va (nE ns).length vc) (nE ns) := by
            obtain ⟨⟨q1, q2⟩, q3⟩ := hgr
            refine ⟨⟨q1, ?_⟩, fun e he => ?_⟩
            · rcases q2 with q2 | ⟨gg, cap, cur, e1, e2, e3, e4⟩
              · exact .inl q2
              · exact .inr ⟨gg, cap, cur, e1, e2, (hE.block gg (Array.getElem?_eq_some_iff.1 e3).1 (by omega)).trans e3, e4⟩
            · obtain ⟨y, _, rfl⟩ := List.mem_map.1 he
              exact rv_leaf _ _ _ _ _
          exact hg2.rdS (fun b hb => Nat.le_trans hsz (Nat.le_trans (Nat.le_succ _) hb)) (fun e he => by
            obtain ⟨y, _, rfl⟩ := List.mem_map.1 he
            exact rv_leaf _ _ _ _ _)
        · have h9 := HBE.out.1.trans (b3.mono hsz)
          exact ⟨hE.os.trans h9.os, hE.tape.trans h9.tape, hE.output.trans h9.output, Nat.le_trans h9.size hE.size, fun q hq => (hE.block q (by have := h9.size; omega) (by omega)).trans (h9.block q hq)⟩
      have HRR := Lib.hid hR3
      have r0 : w3.cell? ⟨w.heap.size, 0, none⟩ = some (.int .i64 0) := by simp [World.cell?, hR3]
      have r1 : w3.cell? ⟨w.heap.size, 1, none⟩ = some (.int .i64 0) := by simp [World.cell?, hR3]
      have r2 : w3.cell? ⟨w.heap.size, 2, none⟩ = some (.string ⟨#[]⟩) := by simp [World.cell?, hR3]
      have r3 : w3.cell? ⟨w.heap.size, 3, none⟩ = some (.slice none 0 0) := by simp [World.cell?, hR3]
      have r4 : w3.cell? ⟨w.heap.size, 4, none⟩ = some (.slice none 0 0) := by simp [World.cell?, hR3]
      have f0 : ∀ j, w3.frozen? ⟨w.heap.size, j, none⟩ = false := fun j => by simp [World.frozen?, hR3]
      have z0 := f0 0
      have z1 := f0 1
      have z2 := f0 2
      have z3 := f0 3
      have z4 := f0 4
      clear hR3 f0 hgr hld b3 HDC
      generalize (nE ns).length = pl at *
      go_wp2
      refine bodyPost_ret (v := .agg #[.int .i64 4, .int .i64 0, .string ⟨#[]⟩, .slice none 0 0, .slice va pl vc]) (results_cell_row Try.results57 _ _ w.heap.size 56 _ (0, 0) _ rfl (ow.set (ow.set (ow.set (ow.set (ow.set HRR.out 0 _) 1 _) 2 _) 3 _) 4 _) Try.underlying56 rfl info35s56) rfl ⟨_, rfl, ?_⟩
      rw [← HNN.out]
      exact HE.out _ (besides5 _ _ _ _ _ _ _)
end Go.Proofs.Ytldkecjfjcnkfaa
