import Derived.Test.YtnpcbcfjnhjmmaaGreatDoorV29
namespace Go.Proofs.YtnpcbcfjnhjmmaaGreatDoor
open Go.Shelf Go.RowKit Go.Deep Go.Sort
/-- a pair of the link has a key of its own kind, or the key ahead of it -/
def mdB (dn : Nat) (ky : Nat → ByteArray) : Bool := (List.range dn).any fun i => !(kdR (ky i) == 5) || (decide (0 < i) && (ky i).toList == (ky (i - 1)).toList)
def dbB (k : Lk) : Bool := mdB k.dn k.ky || (htB k.ts || htB k.ps)
set_option maxHeartbeats 4000000 in
set_option maxRecDepth 100000 in
theorem isDouble (k : Lk) (tr pe on mo : Value) (w : World) (hk : k.ok) (h1 : k.ts.length ≤ 2147483647) (h2 : k.ps.length ≤ 2147483647) (hr : RL4 (fun _ => True) w k tr pe on mo) :
    Calls Tryz.prog 27 #[.agg (lkC k.l k.nm tr pe on mo)] w fun e w' => e = .returned (.bool (dbB k)) ∧ Below w.heap.size w w' := by
  obtain ⟨ma, mc, rfl⟩ : ∃ a c, mo = .slice a k.dn c := by obtain ⟨p, q, e, _⟩ := hr.2.2.2; exact ⟨p, q, e⟩
  have hl := hk.l
  have B0 : Hid (Below w.heap.size w (w.alloc (Obj.cells (lkC k.l k.nm tr pe on (.slice ma k.dn mc)) 28))) := (Below.refl _ _).alloc (Nat.le_refl _) _
  have LA : Hid (LB (w.alloc (Obj.cells (lkC k.l k.nm tr pe on (.slice ma k.dn mc)) 28)) w.heap.size k.l k.nm tr pe on (.slice ma k.dn mc)) := heap_new _ _
  have HF : Hid (dbB k = (mdB k.dn k.ky || (htB k.ts || htB k.ps))) := rfl
  have HR0 : Hid (RS (fun _ => True) w tr k.ts ∧ RS (fun _ => True) w pe k.ps ∧ RD (fun _ => True) w k.dn k.ky k.dv (.slice ma k.dn mc)) := ⟨hr.1, hr.2.1, hr.2.2.2⟩
  have HI0 : Hid (k.ts.length ≤ 2147483647 ∧ k.ps.length ≤ 2147483647) := ⟨h1, h2⟩
  have hdl : k.dn ≤ 140737488351232 := hk.dn.1
  clear hr hk h1 h2
  go_enter Tryz.func27, Tryz.ntmps27
  go_upto_region 1 with fail
  generalize (w.alloc (Obj.cells (lkC k.l k.nm tr pe on (.slice ma k.dn mc)) 28)) = w0 at *
  generalize hvb : w.heap.size = H at *
  have HS : Hid (w.heap.size = H) := hvb
  clear hvb
  have a36 := (LA.out.cells hl).2.2.2.2
  go_wp2
  clear a36
  go_loopw [8] (fun t wr => ∃ i : Nat, i ≤ k.dn ∧ t = .int .i64 i ∧ Hid (Below H w wr ∧ LB wr H k.l k.nm tr pe on (.slice ma k.dn mc) ∧ ∀ (j : Nat), j < i → (!(kdR (k.ky j) == 5) || (decide (0 < j) && (k.ky j).toList == (k.ky (j - 1)).toList)) = false)) (fun t _ => k.dn - (intOf t).toNat)
  case atStart => exact ⟨0, Nat.zero_le _, rfl, B0.out, LA.out, fun j hj => absurd hj (Nat.not_lt_zero _)⟩
  case round =>
    clear B0 LA
    obtain ⟨i, hi, rfl, HI⟩ := hrel
    by_cases hlt : i < k.dn
    · obtain ⟨p0, q0, e9, hc⟩ := HR0.out.2.2
      simp only [Value.slice.injEq, true_and] at e9
      obtain ⟨rfl, rfl⟩ := e9
      rcases hc with h | ⟨g, o, rfl, _, hg, hc⟩
      · omega
      have hle : w.heap.size ≤ H := Nat.le_of_eq HS.out
      obtain ⟨x1, y1, hrv, e0, e1, e2, e3, e4, e5⟩ := hc i hlt
      obtain ⟨a1, c1, a2, c2, rfl, rfl⟩ := hrv.sl
      have g0 := Below.cellS HI.out.1 hle e0
      have g1 := Below.cellS HI.out.1 hle e1
      have g2 := Below.cellS HI.out.1 hle e2
      have g3 := Below.cellS HI.out.1 hle e3
      have g4 := Below.cellS HI.out.1 hle e4
      have g5 := Below.cellS HI.out.1 hle e5
      have HPV : Hid (∀ j, i = j + 1 → wr.cell? ⟨g, o + j * 6, none⟩ = some (.string (k.ky j))) := fun j hj => by
        obtain ⟨x2, y2, hrv2, f0, _⟩ := hc j (by omega)
        exact Below.cellS HI.out.1 hle f0
      clear hc hle e0 e1 e2 e3 e4 e5 hrv
      have HST : Hid (∀ ob, Below H w (wr.alloc ob) ∧ LB (wr.alloc ob) H k.l k.nm tr pe on (.slice (some ⟨g, o, none⟩) k.dn mc)) := fun ob => ⟨HI.out.1.alloc (by have := HI.out.1.size; have := HS.out; omega) _, HI.out.2.1.keep (Below.heap_alloc _ _ _ HI.out.2.1.lt)⟩
      have HT : Hid ((!(kdR (k.ky i) == 5) || (decide (0 < i) && (k.ky i).toList == (k.ky (i - 1)).toList)) = true → true = dbB k) := fun hid => by
        have h9 : mdB k.dn k.ky = true := List.any_eq_true.2 ⟨i, List.mem_range.2 hlt, hid⟩
        rw [HF.out, h9]; rfl
      have HJ : Hid ((!(kdR (k.ky i) == 5) || (decide (0 < i) && (k.ky i).toList == (k.ky (i - 1)).toList)) = false → ∀ (j : Nat), j < i + 1 → (!(kdR (k.ky j) == 5) || (decide (0 < j) && (k.ky j).toList == (k.ky (j - 1)).toList)) = false) := fun hid j hj => by
        rcases Nat.lt_succ_iff_lt_or_eq.1 hj with h | rfl
        · exact HI.out.2.2 j h
        · exact hid
      have hlb := HI.out.2.1
      clear HI
      have HKO : Hid (∀ u : World, Calls Tryz.prog 39 #[.string (k.ky i)] u fun e w' => e = .returned (.int .i64 ((kdR (k.ky i) + 1 : Nat) : Int)) ∧ w' = u) := fun u => kindOf (k.ky i) u
      have HQ : Hid ((wr.alloc (Obj.cells #[.string (k.ky i), .int .i64 (k.dv i).k, .int .i64 (k.dv i).n, .string (k.dv i).s, .slice a1 (k.dv i).ln c1, .slice a2 (k.dv i).dn c2] 41)).cell? ⟨wr.heap.size, 0, none⟩ = some (.string (k.ky i)) ∧ (∀ j, i = j + 1 → (wr.alloc (Obj.cells #[.string (k.ky i), .int .i64 (k.dv i).k, .int .i64 (k.dv i).n, .string (k.dv i).s, .slice a1 (k.dv i).ln c1, .slice a2 (k.dv i).dn c2] 41)).cell? ⟨g, o + j * 6, none⟩ = some (.string (k.ky j)))) := ⟨by go_simp, fun j hj => cell_alloc_old (HPV.out j hj)⟩
      have HST1 := Lib.hid (HST.out (Obj.cells #[.string (k.ky i), .int .i64 (k.dv i).k, .int .i64 (k.dv i).n, .string (k.dv i).s, .slice a1 (k.dv i).ln c1, .slice a2 (k.dv i).dn c2] 41))
      clear HST HPV hlb
      go_upto_region 4 with fail
      generalize (wr.alloc (Obj.cells #[.string (k.ky i), .int .i64 (k.dv i).k, .int .i64 (k.dv i).n, .string (k.dv i).s, .slice a1 (k.dv i).ln c1, .slice a2 (k.dv i).dn c2] 41)) = wq at *
      generalize wr.heap.size = N at *
      clear g0 g1 g2 g3 g4 g5
      have c0 := HQ.out.1
      have c36 := (HST1.out.2.cells hl).2.2.2.2
      obtain ⟨z, hz⟩ : ∃ z : Int, z = ((kdR (k.ky i) + 1 : Nat) : Int) := ⟨_, rfl⟩
      have HZ : Hid (z = ((kdR (k.ky i) + 1 : Nat) : Int)) := hz
      rw [← hz] at HKO
      clear hz
      by_cases hk5 : z = 6
      · have HK5 : Hid (kdR (k.ky i) = 5) := (show kdR (k.ky i) = 5 by have h9 := HZ.out; omega)
        subst hk5
        by_cases hi0 : i = 0
        · subst hi0
          have HK : Hid (∀ (j : Nat), j < 0 + 1 → (!(kdR (k.ky j) == 5) || (decide (0 < j) && (k.ky j).toList == (k.ky (j - 1)).toList)) = false) := HJ.out (by rw [HK5.out]; rfl)
          clear HJ HT
          go_quiet ((go_at_call 39; exact Calls.quiet_of_same (HKO.out _)))
          have HST2 : Hid (Below H w (wq.drewN nq) ∧ LB (wq.drewN nq) H k.l k.nm tr pe on (.slice (some ⟨g, o, none⟩) k.dn mc)) := ⟨HST1.out.1.trans ((below_drewN wq nq).mono (by have := HST1.out.1.size; have := HS.out; omega)), HST1.out.2⟩
          clear HST1
          go_wp2
          exact ⟨⟨0 + 1, by omega, by go_num, HST2.out.1, HST2.out.2, HK.out⟩, by simp [intOf]; omega⟩
        · obtain ⟨j, hij⟩ : ∃ j, i = j + 1 := ⟨i - 1, by omega⟩
          have cpv := HQ.out.2 j hij
          have hij2 : i - 1 = j := by omega
          rw [hij2] at HJ HT
          have hpos : 0 < i := by omega
          have hk1 : ((i : Int) - 1) = (j : Int) := by omega
          have hjd : j < k.dn := by omega
          have hwj : IntKind.i64.wrap (j : Int) = (j : Int) := by simp [IntKind.wrap, IntKind.bits, IntKind.signed]; omega
          have HP : Hid (0 < i) := hpos
          clear hij hij2 hi0
          generalize hky : k.ky j = t at *
          clear hky
          go_quiet ((go_at_call 39; exact Calls.quiet_of_same (HKO.out _)))
          have HST2 : Hid (Below H w (wq.drewN nq) ∧ LB (wq.drewN nq) H k.l k.nm tr pe on (.slice (some ⟨g, o, none⟩) k.dn mc)) := ⟨HST1.out.1.trans ((below_drewN wq nq).mono (by have := HST1.out.1.size; have := HS.out; omega)), HST1.out.2⟩
          clear HST1
          have HP2 : Hid (kdR (k.ky i) = 5 ∧ 0 < i) := ⟨HK5.out, HP.out⟩
          generalize hqq : ((k.ky i).toList == t.toList) = q at *
          have HQQ : Hid (((k.ky i).toList == t.toList) = q) := hqq
          clear hqq
          cases q with
          | true =>
            have HE : Hid (true = dbB k) := HT.out (by rw [HP2.out.1, decide_eq_true HP2.out.2]; rfl)
            clear HT HJ
            go_wp2
            go_ret
            exact ⟨ret_b HE.out, HS.out ▸ HST2.out.1⟩
          | false =>
            have HK : Hid (∀ (j : Nat), j < i + 1 → (!(kdR (k.ky j) == 5) || (decide (0 < j) && (k.ky j).toList == (k.ky (j - 1)).toList)) = false) := HJ.out (by rw [HP2.out.1]; simp)
            clear HT HJ
            go_wp2
            exact ⟨⟨i + 1, by omega, by go_num, HST2.out.1, HST2.out.2, HK.out⟩, by simp [intOf]; omega⟩
      · have HE : Hid (true = dbB k) := HT.out (by
          have h8 : kdR (k.ky i) ≠ 5 := fun h => hk5 (by rw [HZ.out, h]; rfl)
          simp [h8])
        have hk6 : (z != 6) = true := by simp [hk5]
        clear HT HJ
        go_quiet ((go_at_call 39; exact Calls.quiet_of_same (HKO.out _)))
        have HST2 : Hid (Below H w (wq.drewN nq)) := HST1.out.1.trans ((below_drewN wq nq).mono (by have := HST1.out.1.size; have := HS.out; omega))
        clear HST1
        go_wp2
        go_ret
        exact ⟨ret_b HE.out, HS.out ▸ HST2.out⟩
    · obtain rfl : i = k.dn := by omega
      have HG : Hid (dbB k = (htB k.ts || htB k.ps)) := by
        have h9 : mdB k.dn k.ky = false := by
          rw [mdB, List.any_eq_false]
          intro j hj
          simp only [HI.out.2.2 j (List.mem_range.1 hj), Bool.false_eq_true, not_false_eq_true]
        have h8 := HF.out
        rw [h9] at h8
        exact h8
      obtain ⟨_, a33, a34, _, _⟩ := HI.out.2.1.cells hl
      have B1 : Hid (Below w.heap.size w wr) := by rw [HS.out]; exact HI.out.1
      have HR1 : Hid (RS (fun _ => True) wr tr k.ts ∧ RS (fun _ => True) wr pe k.ps) := ⟨HR0.out.1.move (fun _ h _ => h) B1.out.size (fun b _ hl => B1.out.block b hl), HR0.out.2.1.move (fun _ h _ => h) B1.out.size (fun b _ hl => B1.out.block b hl)⟩
      clear HI HF HR0
      go_wp2_with fail
      refine (hasTwins tr k.ts _ HI0.out.1 HR1.out.1).mono ?_
      rintro e w1 ⟨rfl, b1⟩
      have HB1 : Hid (Below w.heap.size w w1 ∧ RS (fun _ => True) w1 pe k.ps) := ⟨B1.out.trans (b1.mono B1.out.size), HR1.out.2.move (fun _ h _ => h) b1.size (fun b _ hl => b1.block b hl)⟩
      have a34' := Below.cellS b1 (Nat.le_refl _) a34
      clear b1 a33 a34 HR1 B1
      generalize htB k.ts = q1 at *
      cases q1 with
      | true =>
        go_wp2
        go_ret
        exact ⟨ret_b (by rw [HG.out]; rfl), HS.out ▸ HB1.out.1⟩
      | false =>
        go_wp2_with fail
        refine (hasTwins pe k.ps _ HI0.out.2 HB1.out.2).mono ?_
        rintro e w2 ⟨rfl, b2⟩
        have HB2 : Hid (Below w.heap.size w w2) := HB1.out.1.trans (b2.mono HB1.out.1.size)
        clear b2 a34' HB1
        generalize htB k.ps = q2 at *
        go_wp2
        go_ret
        exact ⟨ret_b (by rw [HG.out]; cases q2 <;> rfl), HS.out ▸ HB2.out⟩
end Go.Proofs.YtnpcbcfjnhjmmaaGreatDoor
