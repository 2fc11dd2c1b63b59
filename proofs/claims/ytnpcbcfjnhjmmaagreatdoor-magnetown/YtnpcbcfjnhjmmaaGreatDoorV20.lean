import Derived.Test.YtnpcbcfjnhjmmaaGreatDoorV19
namespace Go.Proofs.YtnpcbcfjnhjmmaaGreatDoor
open Go.Shelf Go.RowKit Go.Deep
theorem moC_len : ∀ l : List (ByteArray × ByteArray), (moC l).length = l.length * 6
  | [] => rfl
  | x :: l => by
    have := moC_len l
    unfold moC at this ⊢
    rw [List.flatMap_cons, List.length_append, this]
    simp
    omega
theorem infoPr (key value : ByteArray) : (Tryz.prog.info? 41).map (·.size) = some (#[.string key, .int .i64 2, .int .i64 0, .string value, .slice none 0 0, .slice none 0 0] : Array Value).size := by
  have h := info68
  cases hq : Tryz.prog.info? 41 with
  | none => rw [hq] at h; cases h
  | some i =>
    rw [hq] at h
    simp at h
    simp [h]
theorem onePr (key value : ByteArray) : (#[.string key, .int .i64 2, .int .i64 0, .string value, .slice none 0 0, .slice none 0 0] : Array Value).all (·.oneCell') = true := Array.all_eq_true_iff_forall_mem.2 (fun v hv => by simp at hv; rcases hv with rfl | rfl | rfl | rfl | rfl | rfl <;> rfl)
set_option maxHeartbeats 4000000 in
set_option maxRecDepth 100000 in
theorem layMore (K : Nat → Prop) (B b : Nat) (p : Ps) (tr pe on mo : Value) (ah : Nat) (key value : ByteArray) (w0 w : World) (h : RDg K B b w0 w p tr pe on mo ah) (hn : p.mo.length < 16777215) :
    Calls Tryz.prog 41 #[.pointer (some ⟨b, 0, none⟩), .int .i64 6, .string key, .string value] w fun e w' => LE K B b w0 ({ p with mo := p.mo ++ [(key, value)] }, 0) ah e w' := by
  obtain ⟨ta, tc, rfl⟩ := ownForm h.2.2.1.o1
  obtain ⟨pa, pc, rfl⟩ := ownForm h.2.2.1.o2
  obtain ⟨oa, oc, rfl⟩ := ownForm h.2.2.1.o3
  obtain ⟨ma, mc, rfl⟩ := ownForm h.2.2.1.o4
  have bd : Below w.heap.size w w.drew := ⟨rfl, rfl, rfl, Nat.le_refl _, fun _ _ => rfl⟩
  have JD := Lib.hid (h.below bd)
  have ba : Below w.drew.heap.size w.drew (w.drew.alloc (Obj.cells #[.string { data := #[] }, .int .i64 0, .int .i64 0, .string { data := #[] }, .slice none 0 0, .slice none 0 0] 41)) := (Below.refl _ _).alloc (Nat.le_refl _) _
  have JA := Lib.hid (JD.out.below ba)
  have s36d := JD.out.2.1.cell JD.out.2.2.2.2.2.1 4
  have s36a := JA.out.2.1.cell JA.out.2.2.2.2.2.1 4
  have f36a := JA.out.2.1.frozen 36
  simp only [Nat.reduceAdd, List.getElem?_cons_succ, List.getElem?_cons_zero] at s36d s36a
  have s36e : (w.alloc (Obj.cells #[.string { data := #[] }, .int .i64 0, .int .i64 0, .string { data := #[] }, .slice none 0 0, .slice none 0 0] 41)).drew.cell? ⟨b, 36, none⟩ = some (.slice ma p.mo.length mc) := s36a
  have HZ : Hid ((w.drew.alloc (Obj.cells #[.string { data := #[] }, .int .i64 0, .int .i64 0, .string { data := #[] }, .slice none 0 0, .slice none 0 0] 41)).heap[w.drew.heap.size]? = some (.cells #[.string { data := #[] }, .int .i64 0, .int .i64 0, .string { data := #[] }, .slice none 0 0, .slice none 0 0] 41 (0, 0))) := heap_new _ _
  have bw : Below w.heap.size w w.drew := bd
  have hsz : B ≤ (w.drew.alloc (Obj.cells #[.string { data := #[] }, .int .i64 0, .int .i64 0, .string { data := #[] }, .slice none 0 0, .slice none 0 0] 41)).heap.size := by have h1 := JA.out.2.2.2.2.1; have h2 := JA.out.2.1.lt; omega
  obtain ⟨g, cap, w4, hrun, hrow, hgr, hat⟩ := append_zero (b := w.drew.heap.size) JA.out.2.2.1.o4 HZ.out hsz (by omega)
  have HO := own_last (C := p6 key value) hrow rfl
  rw [moC_len] at HO
  have hgb : g ≠ b := fun e => by
    rcases hat with h1 | h1
    · exact JA.out.2.2.2.1.2.2.2 (e ▸ h1)
    · have h2 := JA.out.2.1.lt; omega
  have hb4 : w4.heap[b]? = (w.drew.alloc (Obj.cells #[.string { data := #[] }, .int .i64 0, .int .i64 0, .string { data := #[] }, .slice none 0 0, .slice none 0 0] 41)).heap[b]? := grown_block hgr JA.out.2.1.lt JA.out.2.2.2.1.2.2.2
  have s36b : w4.cell? ⟨b, 36, none⟩ = some (.slice ma p.mo.length mc) := (World.cell?_of_block (w := w.drew.alloc (Obj.cells #[.string { data := #[] }, .int .i64 0, .int .i64 0, .string { data := #[] }, .slice none 0 0, .slice none 0 0] 41)) (a := ⟨b, 36, none⟩) hb4).trans s36a
  have f36b : w4.frozen? ⟨b, 36, none⟩ = false := (World.frozen?_of_block (w := w.drew.alloc (Obj.cells #[.string { data := #[] }, .int .i64 0, .int .i64 0, .string { data := #[] }, .slice none 0 0, .slice none 0 0] 41)) (a := ⟨b, 36, none⟩) hb4).trans f36a
  have hb5 : (w4.setCells g (p.mo.length * 6) (p6 key value)).heap[b]? = w4.heap[b]? := by
    have h9 := JA.out.2.1.lt
    have h8 := hgr.size
    exact World.heap_setCells_other _ _ _ _ (by omega) (fun e => hgb e.symm)
  have s36c : (w4.setCells g (p.mo.length * 6) (p6 key value)).cell? ⟨b, 36, none⟩ = some (.slice ma p.mo.length mc) := (World.cell?_of_block (w := w4) (a := ⟨b, 36, none⟩) hb5).trans s36b
  have f36c : (w4.setCells g (p.mo.length * 6) (p6 key value)).frozen? ⟨b, 36, none⟩ = false := (World.frozen?_of_block (w := w4) (a := ⟨b, 36, none⟩) hb5).trans f36b
  have hth2 : (w4.setCell ⟨b, 36, none⟩ (.slice (some ⟨g, 0, none⟩) (p.mo.length + 1) cap)).there g (p.mo.length * 6) 6 := fun j hj => by
    have h1 := HO.2 j hj
    have h2 : (w4.setCell ⟨b, 36, none⟩ (.slice (some ⟨g, 0, none⟩) (p.mo.length + 1) cap)).heap[g]? = w4.heap[g]? := Below.heap_setCell _ _ _ _ (by show g ≠ b; exact hgb)
    exact ⟨by rw [World.cell?_of_block (w := w4) (a := ⟨g, p.mo.length * 6 + j, none⟩) h2]; exact h1.1, by rw [World.frozen?_of_block (w := w4) (a := ⟨g, p.mo.length * 6 + j, none⟩) h2]; exact h1.2⟩
  have HOM : OM B (w4.setCells g (p.mo.length * 6) (p6 key value)) (.slice (some ⟨g, 0, none⟩) (p.mo.length + 1) cap) (p.mo ++ [(key, value)]) := by
    have e : moC p.mo ++ p6 key value = moC (p.mo ++ [(key, value)]) := by simp [moC, p6]
    show World.ownsRow _ _ _ _ _ (p.mo ++ [(key, value)]).length _
    rw [List.length_append, ← e]
    exact HO.1
  have hgr2 := grown_put hgr hat (p.mo.length * 6) (p6 key value)
  have HF : Hid (RDg K B b w0 ((w4.setCells g (p.mo.length * 6) (p6 key value)).setCell ⟨b, 36, none⟩ (.slice (some ⟨g, 0, none⟩) (p.mo.length + 1) cap)) { p with mo := p.mo ++ [(key, value)] } (.slice ta p.ts.length tc) (.slice pa p.ps.length pc) (.slice oa p.rs.length oc) (.slice (some ⟨g, 0, none⟩) (p.mo.length + 1) cap) ah) :=
    JD.out.put (fun g h => h.2.2.2) (fun q e => (World.ownsRow.lt JD.out.2.2.1.o4 q e).1) hgr2 (JA.out.2.2.1.putMo HOM hgr2 hat) (fun g hn hl => ⟨hn.1, hn.2.1, hn.2.2.1, nob_new hat hn.2.2.2 hl⟩) JD.out.2.2.2.2.2.1 ((rdC_set JD.out.2.2.2.2.2.1 _ ⟨#[]⟩ _ _ _ _ _ _ 0).2.2.2.2.1)
  have HF2 := HF.out
  rw [← setCells_comm ⟨b, 36, none⟩ _ g (by show b ≠ g; exact fun e => hgb e.symm)] at HF2
  have HG := Lib.hid HF2
  have hth1 := HO.2
  have hip := infoPr key value
  have hop := onePr key value
  clear HF2 HOM hgr2 HO hrow JD JA hb4 hb5 bd ba bw h
  go_enter Tryz.func41, Tryz.ntmps41
  go_upto_region 8 with fail
  refine wp_region_held_drew (S := fun _ => True) (by kernel_rfl) (trivial) (fun hHeld => ?_)
  refine wpAnyH_take (i := 0) (v := .pointer (some ⟨b, 0, none⟩)) rfl (by kernel_rfl) (by kernel_rfl) (by kernel_rfl) (fun _ _ _ h => h) (Or.inl ⟨by rfl, fun w hw => by go_simp⟩) hHeld ?_
  simp only [Act.put, List.getElem_toArray, List.getElem_cons_zero, List.setIfInBounds_toArray, List.set_cons_zero, List.set_cons_succ]
  refine wpAnyH_take (i := 1) (v := .pointer (some ⟨b, 0, none⟩)) rfl (by kernel_rfl) (by kernel_rfl) (by kernel_rfl) (fun _ _ _ h => h) (Or.inl ⟨by rfl, fun w hw => by go_simp⟩) hHeld ?_
  simp only [Act.put, List.getElem_toArray, List.getElem_cons_zero, List.getElem_cons_succ, List.setIfInBounds_toArray, List.set_cons_zero, List.set_cons_succ]
  refine wpAnyH_take (i := 2) (v := .pointer (some ⟨b, 36, none⟩)) rfl (by kernel_rfl) (by kernel_rfl) (by kernel_rfl) (fun _ _ _ h => h) (Or.inl ⟨by rfl, fun w hw => by go_simp⟩) hHeld ?_
  simp only [Act.put, List.getElem_toArray, List.getElem_cons_zero, List.getElem_cons_succ, List.setIfInBounds_toArray, List.set_cons_zero, List.set_cons_succ]
  refine wpAnyH_take (i := 4) (v := .string key) rfl (by kernel_rfl) (by kernel_rfl) (by kernel_rfl) (fun _ _ _ h => h) (Or.inl ⟨by rfl, fun w hw => by go_simp⟩) hHeld ?_
  simp only [Act.put, List.getElem_toArray, List.getElem_cons_zero, List.getElem_cons_succ, List.setIfInBounds_toArray, List.set_cons_zero, List.set_cons_succ]
  refine wpAnyH_take (i := 5) (v := .string value) rfl (by kernel_rfl) (by kernel_rfl) (by kernel_rfl) (fun _ _ _ h => h) (Or.inl ⟨by rfl, fun w hw => by go_simp⟩) hHeld ?_
  simp only [Act.put, List.getElem_toArray, List.getElem_cons_zero, List.getElem_cons_succ, List.setIfInBounds_toArray, List.set_cons_zero, List.set_cons_succ]
  refine wpAnyH_take (i := 6) (v := .agg #[.int .i64 2, .int .i64 0, .string value, .slice none 0 0, .slice none 0 0]) rfl (by kernel_rfl) (by kernel_rfl) (by kernel_rfl) (fun _ _ _ h => h) (yieldsIf_build (by rfl) 39 _ rfl #[.int .i64 2, .int .i64 0, .string value, .slice none 0 0, .slice none 0 0] (by kernel_rfl)) hHeld ?_
  simp only [Act.put, List.getElem_toArray, List.getElem_cons_zero, List.getElem_cons_succ, List.setIfInBounds_toArray, List.set_cons_zero, List.set_cons_succ]
  refine wpAnyH_take (i := 7) (v := .agg #[.string key, .int .i64 2, .int .i64 0, .string value, .slice none 0 0, .slice none 0 0]) rfl (by kernel_rfl) (by kernel_rfl) (by kernel_rfl) (fun _ _ _ h => h) (yieldsIf_build (by rfl) 41 _ rfl #[.string key, .int .i64 2, .int .i64 0, .string value, .slice none 0 0, .slice none 0 0] (by kernel_rfl)) hHeld ?_
  simp only [Act.put, List.getElem_toArray, List.getElem_cons_zero, List.getElem_cons_succ, List.setIfInBounds_toArray, List.set_cons_zero, List.set_cons_succ]
  refine wpAnyH_ready (rs := [3, 9]) (by kernel_rfl) (by simp) ?_
  refine AllReadyH.cons (o := _) rfl (fun K hK => ?_) (AllReadyH.cons (o := _) rfl (fun K hK => ?_) AllReadyH.nil)
  · go_simp
    refine hK.out _ _ trivial (fun hHeld => ?_)
    clear hK K
    refine wpAnyH_take (i := 8) (v := .int .i64 (p.mo.length : Int)) rfl (by kernel_rfl) (by kernel_rfl) (by kernel_rfl) (fun _ _ _ h => h) (Or.inl ⟨by rfl, fun w hw => by go_simp⟩) hHeld ?_
    simp only [Act.put, List.getElem_toArray, List.getElem_cons_zero, List.getElem_cons_succ, List.setIfInBounds_toArray, List.set_cons_zero, List.set_cons_succ]
    refine wpAnyH_ready (rs := [9]) (by kernel_rfl) (by simp) ?_
    refine AllReadyH.cons (o := _) rfl (fun K hK => ?_) AllReadyH.nil
    go_simp
    refine hK.out _ _ trivial (fun hHeld => ?_)
    clear hK K
    refine wpAnyH_ready (rs := [10]) (by kernel_rfl) (by simp) ?_
    refine AllReadyH.cons (o := _) rfl (fun K hK => ?_) AllReadyH.nil
    rw [if_pos (show Region.wanted _ _ = true by kernel_rfl)]
    refine wp_append_z _ _ rfl rfl rfl hrun ?_
    simp only [Act.put, List.getElem_toArray, List.getElem_cons_zero, List.getElem_cons_succ, List.setIfInBounds_toArray, List.set_cons_zero, List.set_cons_succ]
    refine hK.out _ _ trivial (fun hHeld => ?_)
    clear hK K
    refine wpAnyH_take (i := 11) (v := .pointer (some ⟨g, p.mo.length * 6, none⟩)) rfl (by kernel_rfl) (by kernel_rfl) (by kernel_rfl) (fun _ _ _ h => h) (Or.inl ⟨by rfl, fun w hw => by (go_simp; intro h9; exact absurd h9 (by omega))⟩) hHeld ?_
    simp only [Act.put, List.getElem_toArray, List.getElem_cons_zero, List.getElem_cons_succ, List.setIfInBounds_toArray, List.set_cons_zero, List.set_cons_succ]
    refine wpAnyH_take (i := 13) (v := .pointer (some ⟨b, 0, none⟩)) rfl (by kernel_rfl) (by kernel_rfl) (by kernel_rfl) (fun _ _ _ h => h) (Or.inl ⟨by rfl, fun w hw => by go_simp⟩) hHeld ?_
    simp only [Act.put, List.getElem_toArray, List.getElem_cons_zero, List.getElem_cons_succ, List.setIfInBounds_toArray, List.set_cons_zero, List.set_cons_succ]
    refine wpAnyH_take (i := 14) (v := .pointer (some ⟨b, 36, none⟩)) rfl (by kernel_rfl) (by kernel_rfl) (by kernel_rfl) (fun _ _ _ h => h) (Or.inl ⟨by rfl, fun w hw => by go_simp⟩) hHeld ?_
    simp only [Act.put, List.getElem_toArray, List.getElem_cons_zero, List.getElem_cons_succ, List.setIfInBounds_toArray, List.set_cons_zero, List.set_cons_succ]
    refine wpAnyH_ready (rs := [12, 15]) (by kernel_rfl) (by simp) ?_
    refine AllReadyH.cons (o := _) rfl (fun K hK => ?_) (AllReadyH.cons (o := _) rfl (fun K hK => ?_) AllReadyH.nil)
    · rw [if_pos (show Region.wanted _ _ = true by kernel_rfl)]
      refine wp_store_mid 41 _ _ rfl g (p.mo.length * 6) #[.string key, .int .i64 2, .int .i64 0, .string value, .slice none 0 0, .slice none 0 0] rfl rfl hth1 hip hop ?_
      simp only [Act.put, List.getElem_toArray, List.getElem_cons_zero, List.getElem_cons_succ]
      refine hK.out _ _ trivial (fun hHeld => ?_)
      clear hK K
      generalize hW5 : World.setCells w4 g (p.mo.length * 6) _ = W5
      have s5 : W5.cell? ⟨b, 36, none⟩ = some (.slice ma p.mo.length mc) := by rw [← hW5]; exact s36c
      have f5 : W5.frozen? ⟨b, 36, none⟩ = false := by rw [← hW5]; exact f36c
      have HF5 : Hid (RDg K B b w0 (W5.setCell ⟨b, 36, none⟩ (.slice (some ⟨g, 0, none⟩) (p.mo.length + 1) cap)) { p with mo := p.mo ++ [(key, value)] } (.slice ta p.ts.length tc) (.slice pa p.ps.length pc) (.slice oa p.rs.length oc) (.slice (some ⟨g, 0, none⟩) (p.mo.length + 1) cap) ah) := by rw [← hW5]; exact HF.out
      clear hW5 s36e s36a s36b s36c s36d f36a f36b f36c
      refine wpAnyH_ready (rs := [15]) (by kernel_rfl) (by simp) ?_
      refine AllReadyH.cons (o := _) rfl (fun K hK => ?_) AllReadyH.nil
      go_simp
      refine hK.out _ _ trivial (fun hHeld => ?_)
      clear hK K
      refine wpAnyH_done (by kernel_rfl) ?_ _
      clear hHeld
      go_wp2
      go_ret
      exact le_of rfl HF5.out
    · go_simp
      refine hK.out _ _ trivial (fun hHeld => ?_)
      clear hK K
      refine wpAnyH_ready (rs := [12]) (by kernel_rfl) (by simp) ?_
      refine AllReadyH.cons (o := _) rfl (fun K hK => ?_) AllReadyH.nil
      rw [if_pos (show Region.wanted _ _ = true by kernel_rfl)]
      refine wp_store_mid 41 _ _ rfl g (p.mo.length * 6) #[.string key, .int .i64 2, .int .i64 0, .string value, .slice none 0 0, .slice none 0 0] rfl rfl hth2 hip hop ?_
      simp only [Act.put, List.getElem_toArray, List.getElem_cons_zero, List.getElem_cons_succ]
      refine hK.out _ _ trivial (fun hHeld => ?_)
      clear hK K
      generalize hW5 : World.setCells _ g (p.mo.length * 6) _ = W5
      have HF5 : Hid (RDg K B b w0 W5 { p with mo := p.mo ++ [(key, value)] } (.slice ta p.ts.length tc) (.slice pa p.ps.length pc) (.slice oa p.rs.length oc) (.slice (some ⟨g, 0, none⟩) (p.mo.length + 1) cap) ah) := by rw [← hW5]; exact HG.out
      clear hW5 s36e s36a s36b s36c s36d f36a f36b f36c
      refine wpAnyH_done (by kernel_rfl) ?_ _
      clear hHeld
      go_wp2
      go_ret
      exact le_of rfl HF5.out
  · go_simp
    refine hK.out _ _ trivial (fun hHeld => ?_)
    clear hK K
    refine wpAnyH_ready (rs := [3]) (by kernel_rfl) (by simp) ?_
    refine AllReadyH.cons (o := _) rfl (fun K hK => ?_) AllReadyH.nil
    go_simp
    refine hK.out _ _ trivial (fun hHeld => ?_)
    clear hK K
    refine wpAnyH_take (i := 8) (v := .int .i64 (p.mo.length : Int)) rfl (by kernel_rfl) (by kernel_rfl) (by kernel_rfl) (fun _ _ _ h => h) (Or.inl ⟨by rfl, fun w hw => by go_simp⟩) hHeld ?_
    simp only [Act.put, List.getElem_toArray, List.getElem_cons_zero, List.getElem_cons_succ, List.setIfInBounds_toArray, List.set_cons_zero, List.set_cons_succ]
    refine wpAnyH_ready (rs := [10]) (by kernel_rfl) (by simp) ?_
    refine AllReadyH.cons (o := _) rfl (fun K hK => ?_) AllReadyH.nil
    rw [if_pos (show Region.wanted _ _ = true by kernel_rfl)]
    refine wp_append_z _ _ rfl rfl rfl hrun ?_
    simp only [Act.put, List.getElem_toArray, List.getElem_cons_zero, List.getElem_cons_succ, List.setIfInBounds_toArray, List.set_cons_zero, List.set_cons_succ]
    refine hK.out _ _ trivial (fun hHeld => ?_)
    clear hK K
    refine wpAnyH_take (i := 11) (v := .pointer (some ⟨g, p.mo.length * 6, none⟩)) rfl (by kernel_rfl) (by kernel_rfl) (by kernel_rfl) (fun _ _ _ h => h) (Or.inl ⟨by rfl, fun w hw => by (go_simp; intro h9; exact absurd h9 (by omega))⟩) hHeld ?_
    simp only [Act.put, List.getElem_toArray, List.getElem_cons_zero, List.getElem_cons_succ, List.setIfInBounds_toArray, List.set_cons_zero, List.set_cons_succ]
    refine wpAnyH_take (i := 13) (v := .pointer (some ⟨b, 0, none⟩)) rfl (by kernel_rfl) (by kernel_rfl) (by kernel_rfl) (fun _ _ _ h => h) (Or.inl ⟨by rfl, fun w hw => by go_simp⟩) hHeld ?_
    simp only [Act.put, List.getElem_toArray, List.getElem_cons_zero, List.getElem_cons_succ, List.setIfInBounds_toArray, List.set_cons_zero, List.set_cons_succ]
    refine wpAnyH_take (i := 14) (v := .pointer (some ⟨b, 36, none⟩)) rfl (by kernel_rfl) (by kernel_rfl) (by kernel_rfl) (fun _ _ _ h => h) (Or.inl ⟨by rfl, fun w hw => by go_simp⟩) hHeld ?_
    simp only [Act.put, List.getElem_toArray, List.getElem_cons_zero, List.getElem_cons_succ, List.setIfInBounds_toArray, List.set_cons_zero, List.set_cons_succ]
    refine wpAnyH_ready (rs := [12, 15]) (by kernel_rfl) (by simp) ?_
    refine AllReadyH.cons (o := _) rfl (fun K hK => ?_) (AllReadyH.cons (o := _) rfl (fun K hK => ?_) AllReadyH.nil)
    · rw [if_pos (show Region.wanted _ _ = true by kernel_rfl)]
      refine wp_store_mid 41 _ _ rfl g (p.mo.length * 6) #[.string key, .int .i64 2, .int .i64 0, .string value, .slice none 0 0, .slice none 0 0] rfl rfl hth1 hip hop ?_
      simp only [Act.put, List.getElem_toArray, List.getElem_cons_zero, List.getElem_cons_succ]
      refine hK.out _ _ trivial (fun hHeld => ?_)
      clear hK K
      generalize hW5 : World.setCells w4 g (p.mo.length * 6) _ = W5
      have s5 : W5.cell? ⟨b, 36, none⟩ = some (.slice ma p.mo.length mc) := by rw [← hW5]; exact s36c
      have f5 : W5.frozen? ⟨b, 36, none⟩ = false := by rw [← hW5]; exact f36c
      have HF5 : Hid (RDg K B b w0 (W5.setCell ⟨b, 36, none⟩ (.slice (some ⟨g, 0, none⟩) (p.mo.length + 1) cap)) { p with mo := p.mo ++ [(key, value)] } (.slice ta p.ts.length tc) (.slice pa p.ps.length pc) (.slice oa p.rs.length oc) (.slice (some ⟨g, 0, none⟩) (p.mo.length + 1) cap) ah) := by rw [← hW5]; exact HF.out
      clear hW5 s36e s36a s36b s36c s36d f36a f36b f36c
      refine wpAnyH_ready (rs := [15]) (by kernel_rfl) (by simp) ?_
      refine AllReadyH.cons (o := _) rfl (fun K hK => ?_) AllReadyH.nil
      go_simp
      refine hK.out _ _ trivial (fun hHeld => ?_)
      clear hK K
      refine wpAnyH_done (by kernel_rfl) ?_ _
      clear hHeld
      go_wp2
      go_ret
      exact le_of rfl HF5.out
    · go_simp
      refine hK.out _ _ trivial (fun hHeld => ?_)
      clear hK K
      refine wpAnyH_ready (rs := [12]) (by kernel_rfl) (by simp) ?_
      refine AllReadyH.cons (o := _) rfl (fun K hK => ?_) AllReadyH.nil
      rw [if_pos (show Region.wanted _ _ = true by kernel_rfl)]
      refine wp_store_mid 41 _ _ rfl g (p.mo.length * 6) #[.string key, .int .i64 2, .int .i64 0, .string value, .slice none 0 0, .slice none 0 0] rfl rfl hth2 hip hop ?_
      simp only [Act.put, List.getElem_toArray, List.getElem_cons_zero, List.getElem_cons_succ]
      refine hK.out _ _ trivial (fun hHeld => ?_)
      clear hK K
      generalize hW5 : World.setCells _ g (p.mo.length * 6) _ = W5
      have HF5 : Hid (RDg K B b w0 W5 { p with mo := p.mo ++ [(key, value)] } (.slice ta p.ts.length tc) (.slice pa p.ps.length pc) (.slice oa p.rs.length oc) (.slice (some ⟨g, 0, none⟩) (p.mo.length + 1) cap) ah) := by rw [← hW5]; exact HG.out
      clear hW5 s36e s36a s36b s36c s36d f36a f36b f36c
      refine wpAnyH_done (by kernel_rfl) ?_ _
      clear hHeld
      go_wp2
      go_ret
      exact le_of rfl HF5.out
end Go.Proofs.YtnpcbcfjnhjmmaaGreatDoor
namespace Go.Proofs.YtnpcbcfjnhjmmaaGreatDoor
open Go.Shelf Go.RowKit Go.Deep
/-- a parameter is laid into the link -/
def lyR (p : Ps) (k : Nat) (key value : ByteArray) : Ps × Int := if k = 1 then liR p value else if k = 3 then loR p value else jnV p (k - 1) key value
set_option maxHeartbeats 1000000 in
theorem lay21 (K : Nat → Prop) (B b : Nat) (p : Ps) (tr pe on mo : Value) (ah k : Nat) (key value : ByteArray) (w0 w : World) (h : RDg K B b w0 w p tr pe on mo ah) (hn : p.ts.length < 16777215 ∧ p.ps.length < 16777215 ∧ p.mo.length < 16777215) (hk1 : 1 ≤ k) (hk : k ≤ 6) (hv : value.size ≤ 4096) (hT : TG w) (hB : B ≤ w0.heap.size) :
    Calls Tryz.prog 41 #[.pointer (some ⟨b, 0, none⟩), .int .i64 (k : Int), .string key, .string value] w fun e w' => LE K B b w0 (lyR p k key value) ah e w' := by
  have hkk : k = 1 ∨ k = 3 ∨ k = 6 ∨ (k = 2 ∨ k = 4 ∨ k = 5) := by omega
  rcases hkk with rfl | rfl | rfl | hk3
  · have HC := Lib.hid (layInfo37 K B b p tr pe on mo ah value w0 w h hv)
    have e0 : lyR p 1 key value = liR p value := if_pos rfl
    rw [e0]
    clear h hT hB hn
    generalize liR p value = R at *
    go_enter Tryz.func41, Tryz.ntmps41
    go_wp2_with fail
    refine HC.out.mono ?_
    rintro e w1 ⟨rfl, t2, p2, o2, m2, J⟩
    have HJ := Lib.hid J
    clear J HC
    go_wp2
    go_ret
    exact ⟨rfl, t2, p2, o2, m2, HJ.out⟩
  · have HC := Lib.hid (layOnly38 K B b p tr pe on mo ah value w0 w h hv hT hB)
    have e0 : lyR p 3 key value = loR p value := (if_neg (by decide)).trans (if_pos rfl)
    rw [e0]
    clear h hT hB hn
    generalize loR p value = R at *
    go_enter Tryz.func41, Tryz.ntmps41
    go_wp2_with fail
    refine HC.out.mono ?_
    rintro e w1 ⟨rfl, t2, p2, o2, m2, J⟩
    have HJ := Lib.hid J
    clear J HC
    go_wp2
    go_ret
    exact ⟨rfl, t2, p2, o2, m2, HJ.out⟩
  · have e0 : lyR p 6 key value = ({ p with mo := p.mo ++ [(key, value)] }, 0) := by
      unfold lyR
      rw [if_neg (by decide), if_neg (by decide)]
      unfold jnV
      rw [if_neg (fun h => by have := h.1; omega), if_neg (by decide), if_neg (by decide), if_neg (by decide), if_neg (by decide)]
    rw [e0]
    exact layMore K B b p tr pe on mo ah key value w0 w h hn.2.2
  · have e0 : lyR p k key value = jnV p (k - 1) key value := (if_neg (by omega)).trans (if_neg (by omega))
    rw [e0]
    exact laySome K B b p tr pe on mo ah k key value w0 w h ⟨hn.1, hn.2.1⟩ hk3
/-- a part, its key and value read -/
def tk3 (p : Ps) (ah : Nat) (key value : ByteArray) : Ps × Nat × Int × Int :=
  if stR p ah (kdR key + 1) key value ≠ 0 then (p, ah, 0, stR p ah (kdR key + 1) key value)
  else ((lyR p (kdR key + 1) key value).1, kdR key + 1, 0, (lyR p (kdR key + 1) key value).2)
/-- a part of a link, as the program takes it -/
def tkR (p : Ps) (ah : Nat) (s : ByteArray) : Ps × Nat × Int × Int :=
  if Lib.indexByte s.data.toList 61 < 1 then (p, ah, 0, 226)
  else if 0 ≤ (uneL (s.data.toList.take (Lib.indexByte s.data.toList 61).toNat)).2 then (p, ah, (uneL (s.data.toList.take (Lib.indexByte s.data.toList 61).toNat)).2, 222)
  else if 0 ≤ (uneL (s.data.toList.drop ((Lib.indexByte s.data.toList 61).toNat + 1))).2 then (p, ah, (((Lib.indexByte s.data.toList 61).toNat + 1 : Nat) : Int) + (uneL (s.data.toList.drop ((Lib.indexByte s.data.toList 61).toNat + 1))).2, 222)
  else tk3 p ah ⟨(uneL (s.data.toList.take (Lib.indexByte s.data.toList 61).toNat)).1.toArray⟩ ⟨(uneL (s.data.toList.drop ((Lib.indexByte s.data.toList 61).toNat + 1))).1.toArray⟩
/-- what take leaves -/
def TE (K : Nat → Prop) (B b : Nat) (w : World) (q : Ps × Nat × Int × Int) (e : Ending) (w' : World) : Prop := e = .returned (.tuple #[.int .i64 q.2.2.1, .int .i64 q.2.2.2]) ∧ ∃ t2 p2 o2 m2, RDg K B b w w' q.1 t2 p2 o2 m2 q.2.1
theorem te_of {K : Nat → Prop} {B b : Nat} {w w' : World} {q : Ps × Nat × Int × Int} {p' : Ps} {ah : Nat} {pl er : Int} {t2 p2 o2 m2 : Value} (hq : q = (p', ah, pl, er)) (h : RDg K B b w w' p' t2 p2 o2 m2 ah) : TE K B b w q (.returned (.tuple #[.int .i64 pl, .int .i64 er])) w' := by
  subst hq; exact ⟨rfl, t2, p2, o2, m2, h⟩
theorem stR_bd (p : Ps) (ah k : Nat) (key value : ByteArray) : 0 ≤ stR p ah k key value ∧ stR p ah k key value ≤ 227 := by
  unfold stR
  repeat' split
  all_goals omega
set_option maxHeartbeats 2000000 in
theorem take3 (K : Nat → Prop) (B b : Nat) (p : Ps) (tr pe on mo : Value) (ah : Nat) (s : ByteArray) (w0 w : World) (h : RDg K B b w0 w p tr pe on mo ah) (hs : s.size ≤ 4096) (hn : p.ts.length ≤ 4096 ∧ p.ps.length ≤ 4096 ∧ p.mo.length ≤ 4096) (hah : ah ≤ 6) (hT : ∀ u, Below B w0 u → TG u ∧ BT u) (hB : B ≤ w0.heap.size) :
    Calls Tryz.prog 23 #[.pointer (some ⟨b, 0, none⟩), .string s] w fun e w' => TE K B b w0 (tkR p ah s) e w' := by
  have J0 : Hid (RDg K B b w0 w p tr pe on mo ah) := h
  have HX : Hid ((∀ u, Below B w0 u → TG u ∧ BT u) ∧ B ≤ w0.heap.size ∧ p.ts.length ≤ 4096 ∧ p.ps.length ≤ 4096 ∧ p.mo.length ≤ 4096) := ⟨hT, hB, hn⟩
  clear h hT hB hn
  have HC := Lib.hid (cut_61 s w (by omega))
  have hz : s.data.toList.length = s.size := by simp
  have HQ : Hid (tkR p ah s = if Lib.indexByte s.data.toList 61 < 1 then (p, ah, 0, 226)
    else if 0 ≤ (uneL (s.data.toList.take (Lib.indexByte s.data.toList 61).toNat)).2 then (p, ah, (uneL (s.data.toList.take (Lib.indexByte s.data.toList 61).toNat)).2, 222)
    else if 0 ≤ (uneL (s.data.toList.drop ((Lib.indexByte s.data.toList 61).toNat + 1))).2 then (p, ah, (((Lib.indexByte s.data.toList 61).toNat + 1 : Nat) : Int) + (uneL (s.data.toList.drop ((Lib.indexByte s.data.toList 61).toNat + 1))).2, 222)
    else tk3 p ah ⟨(uneL (s.data.toList.take (Lib.indexByte s.data.toList 61).toNat)).1.toArray⟩ ⟨(uneL (s.data.toList.drop ((Lib.indexByte s.data.toList 61).toNat + 1))).1.toArray⟩) := rfl
  generalize tkR p ah s = q at *
  go_enter Tryz.func23, Tryz.ntmps23
  go_wp2_with fail
  refine HC.out.mono ?_
  rintro e w1 ⟨rfl, b1⟩
  have HE0 : Hid (ctR s 61 = if Lib.indexByte s.data.toList 61 < 0 then (s, ⟨#[]⟩, false) else (s.extract 0 (Lib.indexByte s.data.toList 61).toNat, s.extract ((Lib.indexByte s.data.toList 61).toNat + 1) s.size, true)) := rfl
  have J1 := Lib.hid (J0.out.below b1)
  have HX1 := Lib.hid (HX.out.1 w1 J1.out.1)
  clear HC b1 J0
  by_cases hE : Lib.indexByte s.data.toList 61 < 0
  · have e1 : ctR s 61 = (s, ⟨#[]⟩, false) := by rw [HE0.out, if_pos hE]
    rw [e1]
    have HR : Hid (q = (p, ah, 0, 226)) := by rw [HQ.out, if_pos (by omega)]; rfl
    clear HQ HE0 hE e1
    go_wp2
    go_ret2
    exact te_of HR.out J1.out
  obtain ⟨o, ho⟩ : ∃ o : Nat, Lib.indexByte s.data.toList 61 = (o : Int) := ⟨(Lib.indexByte s.data.toList 61).toNat, by omega⟩
  have hob : o < s.size := by
    have h9 := (Lib.indexByte_some ho).1
    have := (List.getElem?_eq_some_iff.1 h9).1
    omega
  have e1 : ctR s 61 = (s.extract 0 o, s.extract (o + 1) s.size, true) := by rw [HE0.out, if_neg hE, ho, Int.toNat_natCast]
  rw [e1]
  have HQ2 : Hid (q = if (o : Int) < 1 then (p, ah, 0, 226)
    else if 0 ≤ (uneL (s.data.toList.take o)).2 then (p, ah, (uneL (s.data.toList.take o)).2, 222)
    else if 0 ≤ (uneL (s.data.toList.drop (o + 1))).2 then (p, ah, ((o + 1 : Nat) : Int) + (uneL (s.data.toList.drop (o + 1))).2, 222)
    else tk3 p ah ⟨(uneL (s.data.toList.take o)).1.toArray⟩ ⟨(uneL (s.data.toList.drop (o + 1))).1.toArray⟩) := by
    have h9 := HQ.out
    rw [ho, Int.toNat_natCast] at h9
    exact h9
  clear HQ HE0 hE ho e1
  have hls : (s.extract 0 o).size = o := by rw [ByteArray.size_extract]; omega
  have hrs : (s.extract (o + 1) s.size).size = s.size - (o + 1) := by rw [ByteArray.size_extract]; omega
  have HLT := Lib.hid (extT s o)
  have HRT := Lib.hid (extD s (o + 1))
  by_cases h0 : o = 0
  · subst h0
    have hem : ((s.extract 0 0).toList == []) = true := by
      have h9 := HLT.out
      rw [tl_eq, h9]; rfl
    have HR : Hid (q = (p, ah, 0, 226)) := by rw [HQ2.out]; rfl
    generalize s.extract 0 0 = left at *
    generalize s.extract (0 + 1) s.size = right at *
    clear HQ2 HLT HRT hls hrs
    go_wp2
    go_ret2
    exact te_of HR.out J1.out
  have hem : ((s.extract 0 o).toList == []) = false := by
    rw [tl_eq]
    cases hq : (s.extract 0 o).data.toList with
    | nil =>
      have : (s.extract 0 o).data.toList.length = o := by rw [← hls]; simp
      rw [hq] at this; simp at this; omega
    | cons x r => rfl
  have HL1 := Lib.hid (uneL_len (s.data.toList.take o))
  have HL2 := Lib.hid (uneL_len (s.data.toList.drop (o + 1)))
  have hlt : (s.data.toList.take o).length = o := by rw [List.length_take]; omega
  have hld : (s.data.toList.drop (o + 1)).length = s.size - (o + 1) := by rw [List.length_drop]; omega
  rw [hlt] at HL1
  rw [hld] at HL2
  have HP1 : Hid (∀ u, BT u → Calls Tryz.prog 38 #[.string (s.extract 0 o)] u fun e w' => e = .returned (.tuple #[.string ⟨(uneL (s.data.toList.take o)).1.toArray⟩, .int .i64 (uneL (s.data.toList.take o)).2]) ∧ Below u.heap.size u w') := fun u hu => by
    have h9 := plain (s.extract 0 o) u hu (by rw [hls]; omega)
    rw [HLT.out] at h9
    exact h9
  have HP2 : Hid (∀ u, BT u → Calls Tryz.prog 38 #[.string (s.extract (o + 1) s.size)] u fun e w' => e = .returned (.tuple #[.string ⟨(uneL (s.data.toList.drop (o + 1))).1.toArray⟩, .int .i64 (uneL (s.data.toList.drop (o + 1))).2]) ∧ Below u.heap.size u w') := fun u hu => by
    have h9 := plain (s.extract (o + 1) s.size) u hu (by rw [hrs]; omega)
    rw [HRT.out] at h9
    exact h9
  have HQ3 : Hid (q = if 0 ≤ (uneL (s.data.toList.take o)).2 then (p, ah, (uneL (s.data.toList.take o)).2, 222)
    else if 0 ≤ (uneL (s.data.toList.drop (o + 1))).2 then (p, ah, ((o + 1 : Nat) : Int) + (uneL (s.data.toList.drop (o + 1))).2, 222)
    else tk3 p ah ⟨(uneL (s.data.toList.take o)).1.toArray⟩ ⟨(uneL (s.data.toList.drop (o + 1))).1.toArray⟩) := by rw [HQ2.out, if_neg (show ¬ (o : Int) < 1 by omega)]; rfl
  generalize s.extract 0 o = left at *
  generalize s.extract (o + 1) s.size = right at *
  generalize uneL (s.data.toList.take o) = k1 at *
  generalize uneL (s.data.toList.drop (o + 1)) = v1 at *
  obtain ⟨k1, k2⟩ := k1
  obtain ⟨v1, v2⟩ := v1
  have hbk := HL1.out
  have hbv := HL2.out
  simp only at hbk hbv
  clear HQ2 HLT HRT hlt hld HL1 HL2 hz
  go_wp2_with fail
  refine (HP1.out w1 HX1.out.2).mono ?_
  rintro e w2 ⟨rfl, b2⟩
  have J2 := Lib.hid (J1.out.below b2)
  have HX2 := Lib.hid (HX.out.1 w2 J2.out.1)
  clear J1 HX1 b2 HP1
  by_cases hk2 : 0 ≤ k2
  · have HR : Hid (q = (p, ah, k2, 222)) := by rw [HQ3.out, if_pos hk2]; rfl
    clear HQ3 HP2
    go_wp2
    go_ret2
    exact te_of HR.out J2.out
  go_wp2_with fail
  refine (HP2.out w2 HX2.out.2).mono ?_
  rintro e w3 ⟨rfl, b3⟩
  have J3 := Lib.hid (J2.out.below b3)
  clear J2 HX2 b3 HP2
  by_cases hv2 : 0 ≤ v2
  · have HR : Hid (q = (p, ah, ((o + 1 : Nat) : Int) + v2, 222)) := by rw [HQ3.out, if_neg (show ¬ 0 ≤ k2 by omega), if_pos hv2]; rfl
    have hsm : ((o + 1 : Nat) : Int) = (o : Int) + 1 := by omega
    rw [hsm] at HR
    clear HQ3 hsm
    have hlz : (left.size : Int) = (o : Int) := by omega
    go_wp2
    go_ret2
    exact te_of HR.out J3.out
  have HQ4 : Hid (q = tk3 p ah ⟨k1.toArray⟩ ⟨v1.toArray⟩) := by rw [HQ3.out, if_neg (show ¬ 0 ≤ k2 by omega), if_neg (show ¬ 0 ≤ v2 by omega)]; rfl
  have hvs : (⟨v1.toArray⟩ : ByteArray).size ≤ 4096 := by show v1.toArray.size ≤ 4096; rw [List.size_toArray]; omega
  clear HQ3
  generalize (⟨k1.toArray⟩ : ByteArray) = ky at *
  generalize (⟨v1.toArray⟩ : ByteArray) = va at *
  have hk5 := kdR_le ky
  have hsb := stR_bd p ah (kdR ky + 1) ky va
  have HST := Lib.hid (stands20 B b p tr pe mo ah (kdR ky + 1) ky va w3 (J3.out.rq HX.out.2.2.1 HX.out.2.2.2.1 HX.out.2.2.2.2) J3.out.2.1.lt (by omega) (by omega) hah)
  have HQ5 : Hid (q = if stR p ah (kdR ky + 1) ky va ≠ 0 then (p, ah, 0, stR p ah (kdR ky + 1) ky va) else ((lyR p (kdR ky + 1) ky va).1, kdR ky + 1, 0, (lyR p (kdR ky + 1) ky va).2)) := HQ4.out
  have HK0 := Lib.hid (kindOf ky w3)
  have HLY : Hid (∀ w4, Below w3.heap.size w3 w4 → Calls Tryz.prog 41 #[.pointer (some ⟨b, 0, none⟩), .int .i64 ((kdR ky + 1 : Nat) : Int), .string ky, .string va] (w4.setCell ⟨b, 37, none⟩ (.int .i64 ((kdR ky + 1 : Nat) : Int))) fun e w' => LE K B b w0 (lyR p (kdR ky + 1) ky va) (kdR ky + 1) e w') := fun w4 hb => by
    have J4 := (J3.out.below hb).putAh (kdR ky + 1)
    refine lay21 K B b p tr pe on mo (kdR ky + 1) (kdR ky + 1) ky va w0 _ J4 ⟨by have := HX.out; omega, by have := HX.out; omega, by have := HX.out; omega⟩ (by omega) (by omega) hvs (HX.out.1 _ J4.1).1 HX.out.2.1
  clear HQ4
  generalize stR p ah (kdR ky + 1) ky va = st at *
  generalize lyR p (kdR ky + 1) ky va = R at *
  obtain ⟨k, hkk⟩ : ∃ k, kdR ky + 1 = k := ⟨_, rfl⟩
  rw [hkk] at HST HQ5 HK0 HLY
  clear hkk hbk hbv hem hob
  go_wp2_with fail
  refine HK0.out.mono ?_
  rintro e w4 ⟨rfl, rfl⟩
  clear HK0
  go_wp2_with fail
  refine HST.out.mono ?_
  rintro e w5 ⟨rfl, b5⟩
  have J5 := Lib.hid (J3.out.below b5)
  have HL5 := Lib.hid (HLY.out w5 b5)
  clear HST HLY b5 J3
  by_cases hst : st = 0
  · have HR : Hid (q = (R.1, k, 0, R.2)) := by rw [HQ5.out, if_neg (fun h => h hst)]; rfl
    subst hst
    have s37 := J5.out.2.1.cell J5.out.2.2.2.2.2.1 5
    have f37 := J5.out.2.1.frozen 37
    simp only [Nat.reduceAdd, List.getElem?_cons_succ, List.getElem?_cons_zero] at s37
    clear HQ5 J5
    obtain ⟨R1, R2⟩ := R
    go_wp2_with fail
    refine HL5.out.mono ?_
    rintro e w6 ⟨rfl, t2, p2, o2, m2, J6⟩
    have HJ6 := Lib.hid J6
    clear J6 HL5
    go_wp2
    go_ret2
    exact te_of HR.out HJ6.out
  · have HR : Hid (q = (p, ah, 0, st)) := by rw [HQ5.out, if_pos hst]; rfl
    clear HQ5 HL5
    go_wp2
    go_ret2
    exact te_of HR.out J5.out
end Go.Proofs.YtnpcbcfjnhjmmaaGreatDoor
