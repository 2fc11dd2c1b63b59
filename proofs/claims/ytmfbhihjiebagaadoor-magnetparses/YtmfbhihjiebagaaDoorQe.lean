import Derived.Test.YtmfbhihjiebagaaDoorQd
namespace Go.Proofs.YtmfbhihjiebagaaDoor
open Go.Shelf Go.RowKit Go.Deep
theorem moC_len : ∀ l : List (ByteArray × ByteArray), (moC l).length = l.length * 6
  | [] => rfl
  | x :: l => by
    have := moC_len l
    unfold moC at this ⊢
    rw [List.flatMap_cons, List.length_append, this]
    simp
    omega
theorem infoPr (key value : ByteArray) : (Tryd.prog.info? 68).map (·.size) = some (#[.string key, .int .i64 2, .int .i64 0, .string value, .slice none 0 0, .slice none 0 0] : Array Value).size := by
  have h := info68
  cases hq : Tryd.prog.info? 68 with
  | none => rw [hq] at h; cases h
  | some i =>
    rw [hq] at h
    simp at h
    simp [h]
theorem onePr (key value : ByteArray) : (#[.string key, .int .i64 2, .int .i64 0, .string value, .slice none 0 0, .slice none 0 0] : Array Value).all (·.oneCell') = true := Array.all_eq_true_iff_forall_mem.2 (fun v hv => by simp at hv; rcases hv with rfl | rfl | rfl | rfl | rfl | rfl <;> rfl)
set_option maxHeartbeats 4000000 in
set_option maxRecDepth 100000 in
theorem layMore (K : Nat → Prop) (B b : Nat) (p : Ps) (tr pe on mo : Value) (ah : Nat) (key value : ByteArray) (w0 w : World) (h : RDg K B b w0 w p tr pe on mo ah) (hn : p.mo.length < 16777215) :
    Calls Tryd.prog 21 #[.pointer (some ⟨b, 0, none⟩), .int .i64 6, .string key, .string value] w fun e w' => LE K B b w0 ({ p with mo := p.mo ++ [(key, value)] }, 0) ah e w' := by
  obtain ⟨ta, tc, rfl⟩ := ownForm h.2.2.1.o1
  obtain ⟨pa, pc, rfl⟩ := ownForm h.2.2.1.o2
  obtain ⟨oa, oc, rfl⟩ := ownForm h.2.2.1.o3
  obtain ⟨ma, mc, rfl⟩ := ownForm h.2.2.1.o4
  have bd : Below w.heap.size w w.drew := ⟨rfl, rfl, rfl, Nat.le_refl _, fun _ _ => rfl⟩
  have JD := Lib.hid (h.below bd)
  have ba : Below w.drew.heap.size w.drew (w.drew.alloc (Obj.cells #[.string { data := #[] }, .int .i64 0, .int .i64 0, .string { data := #[] }, .slice none 0 0, .slice none 0 0] 68)) := (Below.refl _ _).alloc (Nat.le_refl _) _
  have JA := Lib.hid (JD.out.below ba)
  have s36d := JD.out.2.1.cell JD.out.2.2.2.2.2.1 4
  have s36a := JA.out.2.1.cell JA.out.2.2.2.2.2.1 4
  have f36a := JA.out.2.1.frozen 36
  simp only [Nat.reduceAdd, List.getElem?_cons_succ, List.getElem?_cons_zero] at s36d s36a
  have s36e : (w.alloc (Obj.cells #[.string { data := #[] }, .int .i64 0, .int .i64 0, .string { data := #[] }, .slice none 0 0, .slice none 0 0] 68)).drew.cell? ⟨b, 36, none⟩ = some (.slice ma p.mo.length mc) := s36a
  have HZ : Hid ((w.drew.alloc (Obj.cells #[.string { data := #[] }, .int .i64 0, .int .i64 0, .string { data := #[] }, .slice none 0 0, .slice none 0 0] 68)).heap[w.drew.heap.size]? = some (.cells #[.string { data := #[] }, .int .i64 0, .int .i64 0, .string { data := #[] }, .slice none 0 0, .slice none 0 0] 68 (0, 0))) := heap_new _ _
  have bw : Below w.heap.size w w.drew := bd
  have hsz : B ≤ (w.drew.alloc (Obj.cells #[.string { data := #[] }, .int .i64 0, .int .i64 0, .string { data := #[] }, .slice none 0 0, .slice none 0 0] 68)).heap.size := by have h1 := JA.out.2.2.2.2.1; have h2 := JA.out.2.1.lt; omega
  obtain ⟨g, cap, w4, hrun, hrow, hgr, hat⟩ := append_zero (b := w.drew.heap.size) JA.out.2.2.1.o4 HZ.out hsz (by omega)
  have HO := own_last (C := p6 key value) hrow rfl
  rw [moC_len] at HO
  have hgb : g ≠ b := fun e => by
    rcases hat with h1 | h1
    · exact JA.out.2.2.2.1.2.2.2 (e ▸ h1)
    · have h2 := JA.out.2.1.lt; omega
  have hb4 : w4.heap[b]? = (w.drew.alloc (Obj.cells #[.string { data := #[] }, .int .i64 0, .int .i64 0, .string { data := #[] }, .slice none 0 0, .slice none 0 0] 68)).heap[b]? := grown_block hgr JA.out.2.1.lt JA.out.2.2.2.1.2.2.2
  have s36b : w4.cell? ⟨b, 36, none⟩ = some (.slice ma p.mo.length mc) := (World.cell?_of_block (w := w.drew.alloc (Obj.cells #[.string { data := #[] }, .int .i64 0, .int .i64 0, .string { data := #[] }, .slice none 0 0, .slice none 0 0] 68)) (a := ⟨b, 36, none⟩) hb4).trans s36a
  have f36b : w4.frozen? ⟨b, 36, none⟩ = false := (World.frozen?_of_block (w := w.drew.alloc (Obj.cells #[.string { data := #[] }, .int .i64 0, .int .i64 0, .string { data := #[] }, .slice none 0 0, .slice none 0 0] 68)) (a := ⟨b, 36, none⟩) hb4).trans f36a
  have hb5 : (w4.setCells g (p.mo.length * 6) (p6 key value)).heap[b]? = w4.heap[b]? := by
    have h9 := JA.out.2.1.lt
    have h8 := hgr.size
    exact World.heap_setCells_other _ _ _ _ (by omega) (fun e => hgb e.symm)
  have s36c : (w4.setCells g (p.mo.length * 6) (p6 key value)).cell? ⟨b, 36, none⟩ = some (.slice ma p.mo.length mc) := (World.cell?_of_block (w := w4) (a := ⟨b, 36, none⟩) hb5).trans s36b
  have f36c : (w4.setCells g (p.mo.length * 6) (p6 key value)).frozen? ⟨b, 36, none⟩ = false := (World.frozen?_of_block (w := w4) (a := ⟨b, 36, none⟩) hb5).trans f36b
  have hth2 : (w4.setCell ⟨b, 36, none⟩ (.slice (some ⟨g, 0, none⟩) (p.mo.length + 1) cap)).there g (p.mo.length * 6) 6 := fun j hj => by
    have h1 := HO.2 j hj
    have h2 : (w4.setCell ⟨b, 36, none⟩ (.slice (some ⟨g, 0, none⟩) (p.mo.length + 1) cap)).heap[g]? = w4.heap[g]? := Below.heap_setCell _ _ _ _ (by show g ≠ b; exact hgb)
    exact ⟨by rw [World.cell?_of_block (w := w4) (a := ⟨g, p.mo.length * 6 + j, none⟩) h2]; exact h1.1, by rw [World.frozen?_of_block (w := w4) (a := ⟨g, p.mo.length * 6 + j, none⟩) h2]; exact h1.2⟩
  have HOM : OM B (w4.setCells g (p.mo.length * 6) (p6 key value)) (.slice (some ⟨g, 0, none⟩) (p.mo.length + 1) cap) (p.mo ++ [(key, value)]) := by
    have e : moC p.mo ++ p6 key value = moC (p.mo ++ [(key, value)]) := by simp [moC, p6]
    show World.ownsRow _ _ _ _ _ (p.mo ++ [(key, value)]).length _
    rw [List.length_append, ← e]
    exact HO.1
  have hgr2 := grown_put hgr hat (p.mo.length * 6) (p6 key value)
  have HF : Hid (RDg K B b w0 ((w4.setCells g (p.mo.length * 6) (p6 key value)).setCell ⟨b, 36, none⟩ (.slice (some ⟨g, 0, none⟩) (p.mo.length + 1) cap)) { p with mo := p.mo ++ [(key, value)] } (.slice ta p.ts.length tc) (.slice pa p.ps.length pc) (.slice oa p.rs.length oc) (.slice (some ⟨g, 0, none⟩) (p.mo.length + 1) cap) ah) :=
    JD.out.put (fun g h => h.2.2.2) (fun q e => (World.ownsRow.lt JD.out.2.2.1.o4 q e).1) hgr2 (JA.out.2.2.1.putMo HOM hgr2 hat) (fun g hn hl => ⟨hn.1, hn.2.1, hn.2.2.1, nob_new hat hn.2.2.2 hl⟩) JD.out.2.2.2.2.2.1 ((rdC_set JD.out.2.2.2.2.2.1 _ ⟨#[]⟩ _ _ _ _ _ _ 0).2.2.2.2.1)
  have HF2 := HF.out
  rw [← setCells_comm ⟨b, 36, none⟩ _ g (by show b ≠ g; exact fun e => hgb e.symm)] at HF2
  have HG := Lib.hid HF2
  have hth1 := HO.2
  have hip := infoPr key value
  have hop := onePr key value
  clear HF2 HOM hgr2 HO hrow JD JA hb4 hb5 bd ba bw h
  go_enter Tryd.func21, Tryd.ntmps21
  go_upto_region 8 with fail
  refine wp_region_held_drew (S := fun _ => True) (by kernel_rfl) (trivial) (fun hHeld => ?_)
  refine wpAnyH_take (i := 0) (v := .pointer (some ⟨b, 0, none⟩)) rfl (by kernel_rfl) (by kernel_rfl) (by kernel_rfl) (fun _ _ _ h => h) (Or.inl ⟨by rfl, fun w hw => by go_simp⟩) hHeld ?_
  simp only [Act.put, List.getElem_toArray, List.getElem_cons_zero, List.setIfInBounds_toArray, List.set_cons_zero, List.set_cons_succ]
  refine wpAnyH_take (i := 1) (v := .pointer (some ⟨b, 0, none⟩)) rfl (by kernel_rfl) (by kernel_rfl) (by kernel_rfl) (fun _ _ _ h => h) (Or.inl ⟨by rfl, fun w hw => by go_simp⟩) hHeld ?_
  simp only [Act.put, List.getElem_toArray, List.getElem_cons_zero, List.getElem_cons_succ, List.setIfInBounds_toArray, List.set_cons_zero, List.set_cons_succ]
  refine wpAnyH_take (i := 2) (v := .pointer (some ⟨b, 36, none⟩)) rfl (by kernel_rfl) (by kernel_rfl) (by kernel_rfl) (fun _ _ _ h => h) (Or.inl ⟨by rfl, fun w hw => by go_simp⟩) hHeld ?_
  simp only [Act.put, List.getElem_toArray, List.getElem_cons_zero, List.getElem_cons_succ, List.setIfInBounds_toArray, List.set_cons_zero, List.set_cons_succ]
  refine wpAnyH_take (i := 4) (v := .string key) rfl (by kernel_rfl) (by kernel_rfl) (by kernel_rfl) (fun _ _ _ h => h) (Or.inl ⟨by rfl, fun w hw => by go_simp⟩) hHeld ?_
  simp only [Act.put, List.getElem_toArray, List.getElem_cons_zero, List.getElem_cons_succ, List.setIfInBounds_toArray, List.set_cons_zero, List.set_cons_succ]
  refine wpAnyH_take (i := 5) (v := .string value) rfl (by kernel_rfl) (by kernel_rfl) (by kernel_rfl) (fun _ _ _ h => h) (Or.inl ⟨by rfl, fun w hw => by go_simp⟩) hHeld ?_
  simp only [Act.put, List.getElem_toArray, List.getElem_cons_zero, List.getElem_cons_succ, List.setIfInBounds_toArray, List.set_cons_zero, List.set_cons_succ]
  refine wpAnyH_take (i := 6) (v := .agg #[.int .i64 2, .int .i64 0, .string value, .slice none 0 0, .slice none 0 0]) rfl (by kernel_rfl) (by kernel_rfl) (by kernel_rfl) (fun _ _ _ h => h) (yieldsIf_build (by rfl) 66 _ rfl #[.int .i64 2, .int .i64 0, .string value, .slice none 0 0, .slice none 0 0] (by kernel_rfl)) hHeld ?_
  simp only [Act.put, List.getElem_toArray, List.getElem_cons_zero, List.getElem_cons_succ, List.setIfInBounds_toArray, List.set_cons_zero, List.set_cons_succ]
  refine wpAnyH_take (i := 7) (v := .agg #[.string key, .int .i64 2, .int .i64 0, .string value, .slice none 0 0, .slice none 0 0]) rfl (by kernel_rfl) (by kernel_rfl) (by kernel_rfl) (fun _ _ _ h => h) (yieldsIf_build (by rfl) 68 _ rfl #[.string key, .int .i64 2, .int .i64 0, .string value, .slice none 0 0, .slice none 0 0] (by kernel_rfl)) hHeld ?_
  simp only [Act.put, List.getElem_toArray, List.getElem_cons_zero, List.getElem_cons_succ, List.setIfInBounds_toArray, List.set_cons_zero, List.set_cons_succ]
  refine wpAnyH_ready (rs := [3, 9]) (by kernel_rfl) (by simp) ?_
  refine AllReadyH.cons (o := _) rfl (fun K hK => ?_) (AllReadyH.cons (o := _) rfl (fun K hK => ?_) AllReadyH.nil)
  · go_simp
    refine hK.out _ _ trivial (fun hHeld => ?_)
    clear hK K
    refine wpAnyH_take (i := 8) (v := .int .i64 (p.mo.length : Int)) rfl (by kernel_rfl) (by kernel_rfl) (by kernel_rfl) (fun _ _ _ h => h) (Or.inl ⟨by rfl, fun w hw => by go_simp⟩) hHeld ?_
    simp only [Act.put, List.getElem_toArray, List.getElem_cons_zero, List.getElem_cons_succ, List.setIfInBounds_toArray, List.set_cons_zero, List.set_cons_succ]
    refine wpAnyH_ready (rs := [9]) (by kernel_rfl) (by simp) ?_
    refine AllReadyH.cons (o := _) rfl (fun K hK => ?_) AllReadyH.nil
    go_simp
    refine hK.out _ _ trivial (fun hHeld => ?_)
    clear hK K
    refine wpAnyH_ready (rs := [10]) (by kernel_rfl) (by simp) ?_
    refine AllReadyH.cons (o := _) rfl (fun K hK => ?_) AllReadyH.nil
    rw [if_pos (show Region.wanted _ _ = true by kernel_rfl)]
    refine wp_append_z _ _ rfl rfl rfl hrun ?_
    simp only [Act.put, List.getElem_toArray, List.getElem_cons_zero, List.getElem_cons_succ, List.setIfInBounds_toArray, List.set_cons_zero, List.set_cons_succ]
    refine hK.out _ _ trivial (fun hHeld => ?_)
    clear hK K
    refine wpAnyH_take (i := 11) (v := .pointer (some ⟨g, p.mo.length * 6, none⟩)) rfl (by kernel_rfl) (by kernel_rfl) (by kernel_rfl) (fun _ _ _ h => h) (Or.inl ⟨by rfl, fun w hw => by (go_simp; intro h9; exact absurd h9 (by omega))⟩) hHeld ?_
    simp only [Act.put, List.getElem_toArray, List.getElem_cons_zero, List.getElem_cons_succ, List.setIfInBounds_toArray, List.set_cons_zero, List.set_cons_succ]
    refine wpAnyH_take (i := 13) (v := .pointer (some ⟨b, 0, none⟩)) rfl (by kernel_rfl) (by kernel_rfl) (by kernel_rfl) (fun _ _ _ h => h) (Or.inl ⟨by rfl, fun w hw => by go_simp⟩) hHeld ?_
    simp only [Act.put, List.getElem_toArray, List.getElem_cons_zero, List.getElem_cons_succ, List.setIfInBounds_toArray, List.set_cons_zero, List.set_cons_succ]
    refine wpAnyH_take (i := 14) (v := .pointer (some ⟨b, 36, none⟩)) rfl (by kernel_rfl) (by kernel_rfl) (by kernel_rfl) (fun _ _ _ h => h) (Or.inl ⟨by rfl, fun w hw => by go_simp⟩) hHeld ?_
    simp only [Act.put, List.getElem_toArray, List.getElem_cons_zero, List.getElem_cons_succ, List.setIfInBounds_toArray, List.set_cons_zero, List.set_cons_succ]
    refine wpAnyH_ready (rs := [12, 15]) (by kernel_rfl) (by simp) ?_
    refine AllReadyH.cons (o := _) rfl (fun K hK => ?_) (AllReadyH.cons (o := _) rfl (fun K hK => ?_) AllReadyH.nil)
    · rw [if_pos (show Region.wanted _ _ = true by kernel_rfl)]
      refine wp_store_mid 68 _ _ rfl g (p.mo.length * 6) #[.string key, .int .i64 2, .int .i64 0, .string value, .slice none 0 0, .slice none 0 0] rfl rfl hth1 hip hop ?_
      simp only [Act.put, List.getElem_toArray, List.getElem_cons_zero, List.getElem_cons_succ]
      refine hK.out _ _ trivial (fun hHeld => ?_)
      clear hK K
      generalize hW5 : World.setCells w4 g (p.mo.length * 6) _ = W5
      have s5 : W5.cell? ⟨b, 36, none⟩ = some (.slice ma p.mo.length mc) := by rw [← hW5]; exact s36c
      have f5 : W5.frozen? ⟨b, 36, none⟩ = false := by rw [← hW5]; exact f36c
      have HF5 : Hid (RDg K B b w0 (W5.setCell ⟨b, 36, none⟩ (.slice (some ⟨g, 0, none⟩) (p.mo.length + 1) cap)) { p with mo := p.mo ++ [(key, value)] } (.slice ta p.ts.length tc) (.slice pa p.ps.length pc) (.slice oa p.rs.length oc) (.slice (some ⟨g, 0, none⟩) (p.mo.length + 1) cap) ah) := by rw [← hW5]; exact HF.out
      clear hW5 s36e s36a s36b s36c s36d f36a f36b f36c
      refine wpAnyH_ready (rs := [15]) (by kernel_rfl) (by simp) ?_
      refine AllReadyH.cons (o := _) rfl (fun K hK => ?_) AllReadyH.nil
      go_simp
      refine hK.out _ _ trivial (fun hHeld => ?_)
      clear hK K
      refine wpAnyH_done (by kernel_rfl) ?_ _
      clear hHeld
      go_wp2
      go_ret
      exact le_of rfl HF5.out
    · go_simp
      refine hK.out _ _ trivial (fun hHeld => ?_)
      clear hK K
      refine wpAnyH_ready (rs := [12]) (by kernel_rfl) (by simp) ?_
      refine AllReadyH.cons (o := _) rfl (fun K hK => ?_) AllReadyH.nil
      rw [if_pos (show Region.wanted _ _ = true by kernel_rfl)]
      refine wp_store_mid 68 _ _ rfl g (p.mo.length * 6) #[.string key, .int .i64 2, .int .i64 0, .string value, .slice none 0 0, .slice none 0 0] rfl rfl hth2 hip hop ?_
      simp only [Act.put, List.getElem_toArray, List.getElem_cons_zero, List.getElem_cons_succ]
      refine hK.out _ _ trivial (fun hHeld => ?_)
      clear hK K
      generalize hW5 : World.setCells _ g (p.mo.length * 6) _ = W5
      have HF5 : Hid (RDg K B b w0 W5 { p with mo := p.mo ++ [(key, value)] } (.slice ta p.ts.length tc) (.slice pa p.ps.length pc) (.slice oa p.rs.length oc) (.slice (some ⟨g, 0, none⟩) (p.mo.length + 1) cap) ah) := by rw [← hW5]; exact HG.out
      clear hW5 s36e s36a s36b s36c s36d f36a f36b f36c
      refine wpAnyH_done (by kernel_rfl) ?_ _
      clear hHeld
      go_wp2
      go_ret
      exact le_of rfl HF5.out
  · go_simp
    refine hK.out _ _ trivial (fun hHeld => ?_)
    clear hK K
    refine wpAnyH_ready (rs := [3]) (by kernel_rfl) (by simp) ?_
    refine AllReadyH.cons (o := _) rfl (fun K hK => ?_) AllReadyH.nil
    go_simp
    refine hK.out _ _ trivial (fun hHeld => ?_)
    clear hK K
    refine wpAnyH_take (i := 8) (v := .int .i64 (p.mo.length : Int)) rfl (by kernel_rfl) (by kernel_rfl) (by kernel_rfl) (fun _ _ _ h => h) (Or.inl ⟨by rfl, fun w hw => by go_simp⟩) hHeld ?_
    simp only [Act.put, List.getElem_toArray, List.getElem_cons_zero, List.getElem_cons_succ, List.setIfInBounds_toArray, List.set_cons_zero, List.set_cons_succ]
    refine wpAnyH_ready (rs := [10]) (by kernel_rfl) (by simp) ?_
    refine AllReadyH.cons (o := _) rfl (fun K hK => ?_) AllReadyH.nil
    rw [if_pos (show Region.wanted _ _ = true by kernel_rfl)]
    refine wp_append_z _ _ rfl rfl rfl hrun ?_
    simp only [Act.put, List.getElem_toArray, List.getElem_cons_zero, List.getElem_cons_succ, List.setIfInBounds_toArray, List.set_cons_zero, List.set_cons_succ]
    refine hK.out _ _ trivial (fun hHeld => ?_)
    clear hK K
    refine wpAnyH_take (i := 11) (v := .pointer (some ⟨g, p.mo.length * 6, none⟩)) rfl (by kernel_rfl) (by kernel_rfl) (by kernel_rfl) (fun _ _ _ h => h) (Or.inl ⟨by rfl, fun w hw => by (go_simp; intro h9; exact absurd h9 (by omega))⟩) hHeld ?_
    simp only [Act.put, List.getElem_toArray, List.getElem_cons_zero, List.getElem_cons_succ, List.setIfInBounds_toArray, List.set_cons_zero, List.set_cons_succ]
    refine wpAnyH_take (i := 13) (v := .pointer (some ⟨b, 0, none⟩)) rfl (by kernel_rfl) (by kernel_rfl) (by kernel_rfl) (fun _ _ _ h => h) (Or.inl ⟨by rfl, fun w hw => by go_simp⟩) hHeld ?_
    simp only [Act.put, List.getElem_toArray, List.getElem_cons_zero, List.getElem_cons_succ, List.setIfInBounds_toArray, List.set_cons_zero, List.set_cons_succ]
    refine wpAnyH_take (i := 14) (v := .pointer (some ⟨b, 36, none⟩)) rfl (by kernel_rfl) (by kernel_rfl) (by kernel_rfl) (fun _ _ _ h => h) (Or.inl ⟨by rfl, fun w hw => by go_simp⟩) hHeld ?_
    simp only [Act.put, List.getElem_toArray, List.getElem_cons_zero, List.getElem_cons_succ, List.setIfInBounds_toArray, List.set_cons_zero, List.set_cons_succ]
    refine wpAnyH_ready (rs := [12, 15]) (by kernel_rfl) (by simp) ?_
    refine AllReadyH.cons (o := _) rfl (fun K hK => ?_) (AllReadyH.cons (o := _) rfl (fun K hK => ?_) AllReadyH.nil)
    · rw [if_pos (show Region.wanted _ _ = true by kernel_rfl)]
      refine wp_store_mid 68 _ _ rfl g (p.mo.length * 6) #[.string key, .int .i64 2, .int .i64 0, .string value, .slice none 0 0, .slice none 0 0] rfl rfl hth1 hip hop ?_
      simp only [Act.put, List.getElem_toArray, List.getElem_cons_zero, List.getElem_cons_succ]
      refine hK.out _ _ trivial (fun hHeld => ?_)
      clear hK K
      generalize hW5 : World.setCells w4 g (p.mo.length * 6) _ = W5
      have s5 : W5.cell? ⟨b, 36, none⟩ = some (.slice ma p.mo.length mc) := by rw [← hW5]; exact s36c
      have f5 : W5.frozen? ⟨b, 36, none⟩ = false := by rw [← hW5]; exact f36c
      have HF5 : Hid (RDg K B b w0 (W5.setCell ⟨b, 36, none⟩ (.slice (some ⟨g, 0, none⟩) (p.mo.length + 1) cap)) { p with mo := p.mo ++ [(key, value)] } (.slice ta p.ts.length tc) (.slice pa p.ps.length pc) (.slice oa p.rs.length oc) (.slice (some ⟨g, 0, none⟩) (p.mo.length + 1) cap) ah) := by rw [← hW5]; exact HF.out
      clear hW5 s36e s36a s36b s36c s36d f36a f36b f36c
      refine wpAnyH_ready (rs := [15]) (by kernel_rfl) (by simp) ?_
      refine AllReadyH.cons (o := _) rfl (fun K hK => ?_) AllReadyH.nil
      go_simp
      refine hK.out _ _ trivial (fun hHeld => ?_)
      clear hK K
      refine wpAnyH_done (by kernel_rfl) ?_ _
      clear hHeld
      go_wp2
      go_ret
      exact le_of rfl HF5.out
    · go_simp
      refine hK.out _ _ trivial (fun hHeld => ?_)
      clear hK K
      refine wpAnyH_ready (rs := [12]) (by kernel_rfl) (by simp) ?_
      refine AllReadyH.cons (o := _) rfl (fun K hK => ?_) AllReadyH.nil
      rw [if_pos (show Region.wanted _ _ = true by kernel_rfl)]
      refine wp_store_mid 68 _ _ rfl g (p.mo.length * 6) #[.string key, .int .i64 2, .int .i64 0, .string value, .slice none 0 0, .slice none 0 0] rfl rfl hth2 hip hop ?_
      simp only [Act.put, List.getElem_toArray, List.getElem_cons_zero, List.getElem_cons_succ]
      refine hK.out _ _ trivial (fun hHeld => ?_)
      clear hK K
      generalize hW5 : World.setCells _ g (p.mo.length * 6) _ = W5
      have HF5 : Hid (RDg K B b w0 W5 { p with mo := p.mo ++ [(key, value)] } (.slice ta p.ts.length tc) (.slice pa p.ps.length pc) (.slice oa p.rs.length oc) (.slice (some ⟨g, 0, none⟩) (p.mo.length + 1) cap) ah) := by rw [← hW5]; exact HG.out
      clear hW5 s36e s36a s36b s36c s36d f36a f36b f36c
      refine wpAnyH_done (by kernel_rfl) ?_ _
      clear hHeld
      go_wp2
      go_ret
      exact le_of rfl HF5.out
end Go.Proofs.YtmfbhihjiebagaaDoor
