import Derived.Test.YtglknmelcianjaaRm2
namespace Go.Proofs.Ytglknmelcianjaa
open Go.RowKit
section
variable {S : Nat → Prop} {w w' : World} {q lb cap : Nat} {wv : Value} {ps : List (Wt × Value)} {lf : Int} {D : Dk}
theorem wp_append_u {o : Oper} {a : Act} {K : Act → World → Prop} {Q : Exit → Act → World → Prop} {w : World} {sv : Value} {b : Nat} (s x : Operand) (ho : o.op = .call { callee := .builtin .append, args := #[s, x], argTypes := #[45, 45] }) {v' : Value} {w' : World} (hs : a.eval s = sv) (hx : a.eval x = .slice (some ⟨b, 0, none⟩) 1 1)
    (hrun : ∀ ty, (Builtin.append_ #[45, 45] ty #[sv, .slice (some ⟨b, 0, none⟩) 1 1]).run Try.prog w = .ok v' w') (h : K (a.put o.dst v') w') : o.wp Try.prog a w K Q := by
  unfold Oper.wp execOp
  simp only [ho, resolve, invoke, builtin, Sem.run_bind, Sem.run_pure, Result.andThen_ok, List.map_toArray, List.map_cons, List.map_nil, hs, hx, hrun]
  exact h
set_option maxHeartbeats 2000000 in
set_option maxRecDepth 100000 in
theorem rwriteT (h : RI S w q lb cap wv ps lf D) (s : Nat) (hs : 64 * s + 64 ≤ D.last.length) (v : Value) (d : List UInt8) (hr : RB w v d) (hvs : ∀ g, v.ownBlock = some g → ¬ S g) (hd : d.length = 64) (hn : ps.length < 1073741824) :
    Calls Try.prog 30 #[.pointer (some ⟨q, 0, none⟩), .int .i64 s, v] w fun e w' => e = .returned (.int .i64 0) ∧ RK (fun k => S k ∨ w.heap.size ≤ k) w' q ⟨D.last, D.ws ++ [⟨s, d, blownF D.fu⟩], burnt D.fu⟩ ∧ Fr (fun k => ¬ S k) w w' := by
  have HI0 : Hid (RI S w q lb cap wv ps lf D) := h
  have HP := Lib.hid (rpassT h)
  have c0 := h.c0
  have hx := h.gd.max
  have HS := Lib.hid hs
  have HN := Lib.hid hn
  have HD := Lib.hid hd
  obtain ⟨wa, wc', hwv⟩ := h.wform
  have HWV := Lib.hid hwv
  have HRB : Hid (∀ w1, Fr (fun k => ¬ S k) w w1 → RB w1 v d) := fun w1 hf => RB.fr hr hf hvs
  obtain ⟨da, dc, rfl, _, _⟩ := id hr
  rw [hd] at HRB ⊢
  clear h hwv hd hvs hr
  obtain ⟨bl, hbl⟩ : ∃ b, b = blownF D.fu := ⟨_, rfl⟩
  rw [← hbl] at HP ⊢
  have HBL := Lib.hid hbl
  clear hbl
  generalize hll : D.last.length = ll at *
  have HLL := Lib.hid hll
  have hd1 : Int.tdiv (ll : Int) 64 = ((ll / 64 : Nat) : Int) := by rw [Int.tdiv_eq_ediv_of_nonneg (by omega)]; omega
  have hw : IntKind.i64.wrap ((ll : Int) / 64) = ((ll / 64 : Nat) : Int) := by
    rw [show (ll : Int) / 64 = ((ll / 64 : Nat) : Int) by omega]
    exact IntWalk.i64_in _ (by omega)
  have h2 : ¬ ((ll / 64 : Nat) : Int) ≤ s := by omega
  have h3 : ¬ (ll : Int) / 64 ≤ s := by omega
  have h4 : ¬ (s : Int) < 0 := by omega
  clear hll hn hs
  generalize hpn : ps.length = n at *
  have HPN := Lib.hid hpn
  clear hpn
  go_enter Try.func30, Try.ntmps30
  go_wp2_with fail
  refine HP.out.mono ?_
  rintro e w1 ⟨rfl, lf1, h1, f1⟩
  have f1' : Fr (fun k => ¬ S k) w w1 := (Fr.refl _ w).trans f1 (fun k _ hk e => hk (by rw [e]; exact HI0.out.sq))
  have H1 : Hid (RI S w1 q lb cap wv ps lf1 ⟨D.last, D.ws, burnt D.fu⟩ ∧ Fr (fun k => ¬ S k) w w1 ∧ RB w1 (.slice da 64 dc) d) := ⟨h1, f1', HRB.out w1 f1'⟩
  have HCal := Lib.hid (bytesOf (.slice da 64 dc) d w1.drew (H1.out.2.2.keep (belowDrew w1 1)) (by rw [HD.out]; omega))
  have hq1 : w1.cell? ⟨q, 1, none⟩ = some (.slice wa n wc') := by have := h1.c1; rw [HWV.out] at this; exact this
  have hqlt := h1.lt
  have hq1d : w1.drew.cell? ⟨q, 1, none⟩ = some (.slice wa n wc') := hq1
  clear h1 f1 f1' HP c0 hd1 hw h2 h3 h4 HRB
  go_upto_region 8 with fail
  refine wp_region_held_drew (S := fun _ => True) (by kernel_rfl) (trivial) (fun hHeld => ?_)
  refine wpAnyH_take (i := 0) (v := .pointer (some ⟨q, 0, none⟩)) rfl (by kernel_rfl) (by kernel_rfl) (by kernel_rfl) (fun _ _ _ h => h) (Or.inl ⟨by rfl, fun w hw => by go_simp⟩) hHeld ?_
  simp only [Act.put, List.getElem_toArray, List.getElem_cons_zero, List.setIfInBounds_toArray, List.set_cons_zero, List.set_cons_succ]
  refine wpAnyH_take (i := 1) (v := .pointer (some ⟨q, 0, none⟩)) rfl (by kernel_rfl) (by kernel_rfl) (by kernel_rfl) (fun _ _ _ h => h) (Or.inl ⟨by rfl, fun w hw => by go_simp⟩) hHeld ?_
  simp only [Act.put, List.getElem_toArray, List.getElem_cons_zero, List.getElem_cons_succ, List.setIfInBounds_toArray, List.set_cons_zero, List.set_cons_succ]
  refine wpAnyH_take (i := 2) (v := .pointer (some ⟨q, 0, none⟩)) rfl (by kernel_rfl) (by kernel_rfl) (by kernel_rfl) (fun _ _ _ h => h) (Or.inl ⟨by rfl, fun w hw => by go_simp⟩) hHeld ?_
  simp only [Act.put, List.getElem_toArray, List.getElem_cons_zero, List.getElem_cons_succ, List.setIfInBounds_toArray, List.set_cons_zero, List.set_cons_succ]
  refine wpAnyH_take (i := 3) (v := .pointer (some ⟨q, 1, none⟩)) rfl (by kernel_rfl) (by kernel_rfl) (by kernel_rfl) (fun _ _ _ h => h) (Or.inl ⟨by rfl, fun w hw => by go_simp⟩) hHeld ?_
  simp only [Act.put, List.getElem_toArray, List.getElem_cons_zero, List.getElem_cons_succ, List.setIfInBounds_toArray, List.set_cons_zero, List.set_cons_succ]
  refine wpAnyH_take (i := 5) (v := .int .i64 (s : Int)) rfl (by kernel_rfl) (by kernel_rfl) (by kernel_rfl) (fun _ _ _ h => h) (Or.inl ⟨by rfl, fun w hw => by go_simp⟩) hHeld ?_
  simp only [Act.put, List.getElem_toArray, List.getElem_cons_zero, List.getElem_cons_succ, List.setIfInBounds_toArray, List.set_cons_zero, List.set_cons_succ]
  refine wpAnyH_take (i := 6) (v := .slice da 64 dc) rfl (by kernel_rfl) (by kernel_rfl) (by kernel_rfl) (fun _ _ _ h => h) (Or.inl ⟨by rfl, fun w hw => by go_simp⟩) hHeld ?_
  simp only [Act.put, List.getElem_toArray, List.getElem_cons_zero, List.getElem_cons_succ, List.setIfInBounds_toArray, List.set_cons_zero, List.set_cons_succ]
  refine wpAnyH_take (i := 8) (v := .bool (!bl)) rfl (by kernel_rfl) (by kernel_rfl) (by kernel_rfl) (fun _ _ _ h => h) (Or.inl ⟨by rfl, fun w hw => by go_simp⟩) hHeld ?_
  simp only [Act.put, List.getElem_toArray, List.getElem_cons_zero, List.getElem_cons_succ, List.setIfInBounds_toArray, List.set_cons_zero, List.set_cons_succ]
  refine wpAnyH_take (i := 9) (v := .bool bl) rfl (by kernel_rfl) (by kernel_rfl) (by kernel_rfl) (fun _ _ _ h => h) (Or.inl ⟨by rfl, fun w hw => by go_simp⟩) hHeld ?_
  simp only [Act.put, List.getElem_toArray, List.getElem_cons_zero, List.getElem_cons_succ, List.setIfInBounds_toArray, List.set_cons_zero, List.set_cons_succ]
  refine wpAnyH_ready (rs := [4, 7]) (by kernel_rfl) (by simp) ?_
  refine AllReadyH.cons (o := _) rfl (fun K hK => ?_) (AllReadyH.cons (o := _) rfl (fun K hK => ?_) AllReadyH.nil)
  · go_simp
    refine hK.out _ _ trivial (fun hHeld => ?_)
    clear hK K
    refine wpAnyH_ready (rs := [7]) (by kernel_rfl) (by simp) ?_
    refine AllReadyH.cons (o := _) rfl (fun K hK => ?_) AllReadyH.nil
    go_simp
    refine HCal.out.mono ?_
    rintro e w2 ⟨v2, rfl, o2, b2'⟩
    have b2 : Below w1.heap.size w1 w2 := (belowDrew w1 1).trans b2'
    obtain ⟨a2, c2, rfl⟩ := ownsRow_form o2
    have hdn := HD.out
    rw [hdn] at o2 ⊢
    have hq2 : w2.cell? ⟨q, 1, none⟩ = some (.slice wa n wc') := (b2.cell (p := ⟨q, 1, none⟩) hqlt).trans hq1
    have H2 : Hid (RI S w2 q lb cap wv ps lf1 ⟨D.last, D.ws, burnt D.fu⟩ ∧ Below w1.heap.size w1 w2 ∧ OW w1.heap.size w2 (.slice a2 64 c2) d) := ⟨H1.out.1.fr (Fr.of_below b2), b2, by have := o2; exact this⟩
    clear o2 b2 b2' HCal hdn
    go_wp2_with fail
    refine hK.out _ _ trivial (fun hHeld => ?_)
    clear hK K
    refine wpAnyH_take (i := 10) (v := .agg #[.int .i64 (s : Int), .slice a2 64 c2, .bool bl]) rfl (by kernel_rfl) (by kernel_rfl) (by kernel_rfl) (fun _ _ _ h => h) (Or.inl ⟨by rfl, fun w hw => by go_simp⟩) hHeld ?_
    simp only [Act.put, List.getElem_toArray, List.getElem_cons_zero, List.getElem_cons_succ, List.setIfInBounds_toArray, List.set_cons_zero, List.set_cons_succ]
    refine wpAnyH_ready (rs := [11]) (by kernel_rfl) (by simp) ?_
    refine AllReadyH.cons (o := _) rfl (fun K hK => ?_) AllReadyH.nil
    go_simp
    have hq3 : (w2.alloc (.cells #[.int .i64 (s : Int), .slice a2 64 c2, .bool bl] 64)).cell? ⟨q, 1, none⟩ = some (.slice wa n wc') := (World.cell?_alloc_some _ _ _ (by rw [hq2]; rfl)).trans hq2
    have b3 : Below w2.heap.size w2 (w2.alloc (.cells #[.int .i64 (s : Int), .slice a2 64 c2, .bool bl] 64)) := (Below.refl _ _).alloc (Nat.le_refl _) _
    have hb3 := heapNew w2 (.cells #[.int .i64 (s : Int), .slice a2 64 c2, .bool bl] 64)
    have H3 : Hid (RI S (w2.alloc (.cells #[.int .i64 (s : Int), .slice a2 64 c2, .bool bl] 64)) q lb cap wv ps lf1 ⟨D.last, D.ws, burnt D.fu⟩ ∧ Below w1.heap.size w1 (w2.alloc (.cells #[.int .i64 (s : Int), .slice a2 64 c2, .bool bl] 64)) ∧ OW w1.heap.size (w2.alloc (.cells #[.int .i64 (s : Int), .slice a2 64 c2, .bool bl] 64)) (.slice a2 64 c2) d) := ⟨H2.out.1.fr (Fr.of_below b3), H2.out.2.1.trans (b3.mono H2.out.2.1.size), H2.out.2.2.grow b3⟩
    refine hK.out _ _ trivial (fun hHeld => ?_)
    clear hK K
    obtain ⟨v4, w4, hrun, hrow, hgr, hat⟩ := append_u2 (x := (⟨s, d, bl⟩, .slice a2 64 c2)) H3.out.1.row hb3 rfl (by have h9 := HPN.out; have h8 := HN.out; omega)
    generalize World.alloc w2 (.cells #[.int .i64 (s : Int), .slice a2 64 c2, .bool bl] 64) = w3 at *
    rw [HWV.out] at hrun
    have hmore := (H3.out.1.sub (T := fun k => S k ∨ w.heap.size ≤ k) (fun k _ h => .inl h)).more (x := (⟨s, d, bl⟩, .slice a2 64 c2)) (by rw [HLL.out]; exact HS.out) HD.out hrow hgr hat (OW.mono H3.out.2.2 (Nat.zero_le _)) (fun g hg => by
      have h7 := (World.ownsRow.lt H3.out.2.2 g hg).1
      have h6 := H1.out.2.1.size
      have h5 := (ownsRow_lt H1.out.1.las lb rfl).1
      exact ⟨by omega, .inr (by omega)⟩)
    rw [HWV.out] at hmore
    generalize hnn : (ps ++ [((⟨s, d, bl⟩ : Wt), Value.slice a2 64 c2)]).length = nn at hrow
    clear hnn
    obtain ⟨a4, c4, rfl⟩ := ownsRow_form hrow
    have hq4 := hmore.2.2.1
    have hf4 := hmore.2.2.2
    have H4 : Hid (_ ∧ _) := ⟨hmore.1, hmore.2.1⟩
    clear hrow hgr hat hmore b3 hb3 hq2 hq3
    refine wpAnyH_ready (rs := [12]) (by kernel_rfl) (by simp) ?_
    refine AllReadyH.cons (o := _) rfl (fun K hK => ?_) AllReadyH.nil
    rw [if_pos (show Region.wanted _ _ = true by kernel_rfl)]
    refine wp_append_u _ _ rfl rfl rfl hrun ?_
    simp only [Act.put, List.getElem_toArray, List.getElem_cons_zero, List.getElem_cons_succ, List.setIfInBounds_toArray, List.set_cons_zero, List.set_cons_succ]
    refine hK.out _ _ trivial (fun hHeld => ?_)
    clear hK K
    refine wpAnyH_take (i := 13) (v := .pointer (some ⟨q, 0, none⟩)) rfl (by kernel_rfl) (by kernel_rfl) (by kernel_rfl) (fun _ _ _ h => h) (Or.inl ⟨by rfl, fun w hw => by go_simp⟩) hHeld ?_
    simp only [Act.put, List.getElem_toArray, List.getElem_cons_zero, List.getElem_cons_succ, List.setIfInBounds_toArray, List.set_cons_zero, List.set_cons_succ]
    refine wpAnyH_take (i := 14) (v := .pointer (some ⟨q, 1, none⟩)) rfl (by kernel_rfl) (by kernel_rfl) (by kernel_rfl) (fun _ _ _ h => h) (Or.inl ⟨by rfl, fun w hw => by go_simp⟩) hHeld ?_
    simp only [Act.put, List.getElem_toArray, List.getElem_cons_zero, List.getElem_cons_succ, List.setIfInBounds_toArray, List.set_cons_zero, List.set_cons_succ]
    refine wpAnyH_ready (rs := [15]) (by kernel_rfl) (by simp) ?_
    refine AllReadyH.cons (o := _) rfl (fun K hK => ?_) AllReadyH.nil
    go_simp
    refine hK.out _ _ trivial (fun hHeld => ?_)
    clear hK K
    refine wpAnyH_done (by kernel_rfl) ?_ _
    clear hHeld
    clear hq4 hf4
    go_wp2
    go_ret
    have z1 := H1.out.2.1.size
    have z3 := H3.out.2.1.size
    refine ⟨rfl, ⟨_, _, _, _, _, H4.out.1.sub (fun k _ h => ?_)⟩, (H1.out.2.1.trans (Fr.of_below H3.out.2.1) (fun _ _ _ => trivial)).trans (T := fun k => ¬ (S k ∨ w.heap.size ≤ k)) H4.out.2 (fun k hk hn h => ?_)⟩
    · rcases h with h | h
      · exact h
      · exact .inr (by omega)
    · rcases h with h | h
      · exact hn h
      · omega
  · go_simp
    refine HCal.out.mono ?_
    rintro e w2 ⟨v2, rfl, o2, b2'⟩
    have b2 : Below w1.heap.size w1 w2 := (belowDrew w1 1).trans b2'
    obtain ⟨a2, c2, rfl⟩ := ownsRow_form o2
    have hdn := HD.out
    rw [hdn] at o2 ⊢
    have hq2 : w2.cell? ⟨q, 1, none⟩ = some (.slice wa n wc') := (b2.cell (p := ⟨q, 1, none⟩) hqlt).trans hq1
    have H2 : Hid (RI S w2 q lb cap wv ps lf1 ⟨D.last, D.ws, burnt D.fu⟩ ∧ Below w1.heap.size w1 w2 ∧ OW w1.heap.size w2 (.slice a2 64 c2) d) := ⟨H1.out.1.fr (Fr.of_below b2), b2, by have := o2; exact this⟩
    clear o2 b2 b2' HCal hdn
    go_wp2_with fail
    refine hK.out _ _ trivial (fun hHeld => ?_)
    clear hK K
    refine wpAnyH_take (i := 10) (v := .agg #[.int .i64 (s : Int), .slice a2 64 c2, .bool bl]) rfl (by kernel_rfl) (by kernel_rfl) (by kernel_rfl) (fun _ _ _ h => h) (Or.inl ⟨by rfl, fun w hw => by go_simp⟩) hHeld ?_
    simp only [Act.put, List.getElem_toArray, List.getElem_cons_zero, List.getElem_cons_succ, List.setIfInBounds_toArray, List.set_cons_zero, List.set_cons_succ]
    refine wpAnyH_ready (rs := [4, 11]) (by kernel_rfl) (by simp) ?_
    refine AllReadyH.cons (o := _) rfl (fun K hK => ?_) (AllReadyH.cons (o := _) rfl (fun K hK => ?_) AllReadyH.nil)
    · go_simp
      refine hK.out _ _ trivial (fun hHeld => ?_)
      clear hK K
      refine wpAnyH_ready (rs := [11]) (by kernel_rfl) (by simp) ?_
      refine AllReadyH.cons (o := _) rfl (fun K hK => ?_) AllReadyH.nil
      go_simp
      have hq3 : (w2.alloc (.cells #[.int .i64 (s : Int), .slice a2 64 c2, .bool bl] 64)).cell? ⟨q, 1, none⟩ = some (.slice wa n wc') := (World.cell?_alloc_some _ _ _ (by rw [hq2]; rfl)).trans hq2
      have b3 : Below w2.heap.size w2 (w2.alloc (.cells #[.int .i64 (s : Int), .slice a2 64 c2, .bool bl] 64)) := (Below.refl _ _).alloc (Nat.le_refl _) _
      have hb3 := heapNew w2 (.cells #[.int .i64 (s : Int), .slice a2 64 c2, .bool bl] 64)
      have H3 : Hid (RI S (w2.alloc (.cells #[.int .i64 (s : Int), .slice a2 64 c2, .bool bl] 64)) q lb cap wv ps lf1 ⟨D.last, D.ws, burnt D.fu⟩ ∧ Below w1.heap.size w1 (w2.alloc (.cells #[.int .i64 (s : Int), .slice a2 64 c2, .bool bl] 64)) ∧ OW w1.heap.size (w2.alloc (.cells #[.int .i64 (s : Int), .slice a2 64 c2, .bool bl] 64)) (.slice a2 64 c2) d) := ⟨H2.out.1.fr (Fr.of_below b3), H2.out.2.1.trans (b3.mono H2.out.2.1.size), H2.out.2.2.grow b3⟩
      refine hK.out _ _ trivial (fun hHeld => ?_)
      clear hK K
      obtain ⟨v4, w4, hrun, hrow, hgr, hat⟩ := append_u2 (x := (⟨s, d, bl⟩, .slice a2 64 c2)) H3.out.1.row hb3 rfl (by have h9 := HPN.out; have h8 := HN.out; omega)
      generalize World.alloc w2 (.cells #[.int .i64 (s : Int), .slice a2 64 c2, .bool bl] 64) = w3 at *
      rw [HWV.out] at hrun
      have hmore := (H3.out.1.sub (T := fun k => S k ∨ w.heap.size ≤ k) (fun k _ h => .inl h)).more (x := (⟨s, d, bl⟩, .slice a2 64 c2)) (by rw [HLL.out]; exact HS.out) HD.out hrow hgr hat (OW.mono H3.out.2.2 (Nat.zero_le _)) (fun g hg => by
        have h7 := (World.ownsRow.lt H3.out.2.2 g hg).1
        have h6 := H1.out.2.1.size
        have h5 := (ownsRow_lt H1.out.1.las lb rfl).1
        exact ⟨by omega, .inr (by omega)⟩)
      rw [HWV.out] at hmore
      generalize hnn : (ps ++ [((⟨s, d, bl⟩ : Wt), Value.slice a2 64 c2)]).length = nn at hrow
      clear hnn
      obtain ⟨a4, c4, rfl⟩ := ownsRow_form hrow
      have hq4 := hmore.2.2.1
      have hf4 := hmore.2.2.2
      have H4 : Hid (_ ∧ _) := ⟨hmore.1, hmore.2.1⟩
      clear hrow hgr hat hmore b3 hb3 hq2 hq3
      refine wpAnyH_ready (rs := [12]) (by kernel_rfl) (by simp) ?_
      refine AllReadyH.cons (o := _) rfl (fun K hK => ?_) AllReadyH.nil
      rw [if_pos (show Region.wanted _ _ = true by kernel_rfl)]
      refine wp_append_u _ _ rfl rfl rfl hrun ?_
      simp only [Act.put, List.getElem_toArray, List.getElem_cons_zero, List.getElem_cons_succ, List.setIfInBounds_toArray, List.set_cons_zero, List.set_cons_succ]
      refine hK.out _ _ trivial (fun hHeld => ?_)
      clear hK K
      refine wpAnyH_take (i := 13) (v := .pointer (some ⟨q, 0, none⟩)) rfl (by kernel_rfl) (by kernel_rfl) (by kernel_rfl) (fun _ _ _ h => h) (Or.inl ⟨by rfl, fun w hw => by go_simp⟩) hHeld ?_
      simp only [Act.put, List.getElem_toArray, List.getElem_cons_zero, List.getElem_cons_succ, List.setIfInBounds_toArray, List.set_cons_zero, List.set_cons_succ]
      refine wpAnyH_take (i := 14) (v := .pointer (some ⟨q, 1, none⟩)) rfl (by kernel_rfl) (by kernel_rfl) (by kernel_rfl) (fun _ _ _ h => h) (Or.inl ⟨by rfl, fun w hw => by go_simp⟩) hHeld ?_
      simp only [Act.put, List.getElem_toArray, List.getElem_cons_zero, List.getElem_cons_succ, List.setIfInBounds_toArray, List.set_cons_zero, List.set_cons_succ]
      refine wpAnyH_ready (rs := [15]) (by kernel_rfl) (by simp) ?_
      refine AllReadyH.cons (o := _) rfl (fun K hK => ?_) AllReadyH.nil
      go_simp
      refine hK.out _ _ trivial (fun hHeld => ?_)
      clear hK K
      refine wpAnyH_done (by kernel_rfl) ?_ _
      clear hHeld
      clear hq4 hf4
      go_wp2
      go_ret
      have z1 := H1.out.2.1.size
      have z3 := H3.out.2.1.size
      refine ⟨rfl, ⟨_, _, _, _, _, H4.out.1.sub (fun k _ h => ?_)⟩, (H1.out.2.1.trans (Fr.of_below H3.out.2.1) (fun _ _ _ => trivial)).trans (T := fun k => ¬ (S k ∨ w.heap.size ≤ k)) H4.out.2 (fun k hk hn h => ?_)⟩
      · rcases h with h | h
        · exact h
        · exact .inr (by omega)
      · rcases h with h | h
        · exact hn h
        · omega
    · go_simp
      have hq3 : (w2.alloc (.cells #[.int .i64 (s : Int), .slice a2 64 c2, .bool bl] 64)).cell? ⟨q, 1, none⟩ = some (.slice wa n wc') := (World.cell?_alloc_some _ _ _ (by rw [hq2]; rfl)).trans hq2
      have b3 : Below w2.heap.size w2 (w2.alloc (.cells #[.int .i64 (s : Int), .slice a2 64 c2, .bool bl] 64)) := (Below.refl _ _).alloc (Nat.le_refl _) _
      have hb3 := heapNew w2 (.cells #[.int .i64 (s : Int), .slice a2 64 c2, .bool bl] 64)
      have H3 : Hid (RI S (w2.alloc (.cells #[.int .i64 (s : Int), .slice a2 64 c2, .bool bl] 64)) q lb cap wv ps lf1 ⟨D.last, D.ws, burnt D.fu⟩ ∧ Below w1.heap.size w1 (w2.alloc (.cells #[.int .i64 (s : Int), .slice a2 64 c2, .bool bl] 64)) ∧ OW w1.heap.size (w2.alloc (.cells #[.int .i64 (s : Int), .slice a2 64 c2, .bool bl] 64)) (.slice a2 64 c2) d) := ⟨H2.out.1.fr (Fr.of_below b3), H2.out.2.1.trans (b3.mono H2.out.2.1.size), H2.out.2.2.grow b3⟩
      refine hK.out _ _ trivial (fun hHeld => ?_)
      clear hK K
      refine wpAnyH_ready (rs := [4]) (by kernel_rfl) (by simp) ?_
      refine AllReadyH.cons (o := _) rfl (fun K hK => ?_) AllReadyH.nil
      go_simp
      refine hK.out _ _ trivial (fun hHeld => ?_)
      clear hK K
      obtain ⟨v4, w4, hrun, hrow, hgr, hat⟩ := append_u2 (x := (⟨s, d, bl⟩, .slice a2 64 c2)) H3.out.1.row hb3 rfl (by have h9 := HPN.out; have h8 := HN.out; omega)
      generalize World.alloc w2 (.cells #[.int .i64 (s : Int), .slice a2 64 c2, .bool bl] 64) = w3 at *
      rw [HWV.out] at hrun
      have hmore := (H3.out.1.sub (T := fun k => S k ∨ w.heap.size ≤ k) (fun k _ h => .inl h)).more (x := (⟨s, d, bl⟩, .slice a2 64 c2)) (by rw [HLL.out]; exact HS.out) HD.out hrow hgr hat (OW.mono H3.out.2.2 (Nat.zero_le _)) (fun g hg => by
        have h7 := (World.ownsRow.lt H3.out.2.2 g hg).1
        have h6 := H1.out.2.1.size
        have h5 := (ownsRow_lt H1.out.1.las lb rfl).1
        exact ⟨by omega, .inr (by omega)⟩)
      rw [HWV.out] at hmore
      generalize hnn : (ps ++ [((⟨s, d, bl⟩ : Wt), Value.slice a2 64 c2)]).length = nn at hrow
      clear hnn
      obtain ⟨a4, c4, rfl⟩ := ownsRow_form hrow
      have hq4 := hmore.2.2.1
      have hf4 := hmore.2.2.2
      have H4 : Hid (_ ∧ _) := ⟨hmore.1, hmore.2.1⟩
      clear hrow hgr hat hmore b3 hb3 hq2 hq3
      refine wpAnyH_ready (rs := [12]) (by kernel_rfl) (by simp) ?_
      refine AllReadyH.cons (o := _) rfl (fun K hK => ?_) AllReadyH.nil
      rw [if_pos (show Region.wanted _ _ = true by kernel_rfl)]
      refine wp_append_u _ _ rfl rfl rfl hrun ?_
      simp only [Act.put, List.getElem_toArray, List.getElem_cons_zero, List.getElem_cons_succ, List.setIfInBounds_toArray, List.set_cons_zero, List.set_cons_succ]
      refine hK.out _ _ trivial (fun hHeld => ?_)
      clear hK K
      refine wpAnyH_take (i := 13) (v := .pointer (some ⟨q, 0, none⟩)) rfl (by kernel_rfl) (by kernel_rfl) (by kernel_rfl) (fun _ _ _ h => h) (Or.inl ⟨by rfl, fun w hw => by go_simp⟩) hHeld ?_
      simp only [Act.put, List.getElem_toArray, List.getElem_cons_zero, List.getElem_cons_succ, List.setIfInBounds_toArray, List.set_cons_zero, List.set_cons_succ]
      refine wpAnyH_take (i := 14) (v := .pointer (some ⟨q, 1, none⟩)) rfl (by kernel_rfl) (by kernel_rfl) (by kernel_rfl) (fun _ _ _ h => h) (Or.inl ⟨by rfl, fun w hw => by go_simp⟩) hHeld ?_
      simp only [Act.put, List.getElem_toArray, List.getElem_cons_zero, List.getElem_cons_succ, List.setIfInBounds_toArray, List.set_cons_zero, List.set_cons_succ]
      refine wpAnyH_ready (rs := [15]) (by kernel_rfl) (by simp) ?_
      refine AllReadyH.cons (o := _) rfl (fun K hK => ?_) AllReadyH.nil
      go_simp
      refine hK.out _ _ trivial (fun hHeld => ?_)
      clear hK K
      refine wpAnyH_done (by kernel_rfl) ?_ _
      clear hHeld
      clear hq4 hf4
      go_wp2
      go_ret
      have z1 := H1.out.2.1.size
      have z3 := H3.out.2.1.size
      refine ⟨rfl, ⟨_, _, _, _, _, H4.out.1.sub (fun k _ h => ?_)⟩, (H1.out.2.1.trans (Fr.of_below H3.out.2.1) (fun _ _ _ => trivial)).trans (T := fun k => ¬ (S k ∨ w.heap.size ≤ k)) H4.out.2 (fun k hk hn h => ?_)⟩
      · rcases h with h | h
        · exact h
        · exact .inr (by omega)
      · rcases h with h | h
        · exact hn h
        · omega
end
end Go.Proofs.Ytglknmelcianjaa
