import Derived.Test.YtnpcbcfjnhjmmaaGreatDoorV43
import Derived.Test.YtnpcbcfjnhjmmaaGreatDoorV07
namespace Go.Proofs.YtnpcbcfjnhjmmaaGreatDoor
open Go.RowKit Go.Deep
namespace Ow
theorem tk_factsO {H da : Nat} {w w0 wa : World} {k : Lk} {tr pe on mo m2 : Value} (hB : Below H w w0) (hS : w.heap.size = H) (ho : LB w0 H k.l k.nm tr pe on mo) (hz : LB w0 (H + 1) (List.replicate 32 (0 : UInt8)) ⟨#[]⟩ (.slice none 0 0) (.slice none 0 0) (.slice none 0 0) (.slice none 0 0))
    (hb : Below w0.heap.size w0 wa) (hd : LB wa da (List.replicate 32 (0 : UInt8)) ⟨#[]⟩ (.slice none 0 0) (.slice none 0 0) (.slice none 0 0) (.slice none 0 0)) (hda : w0.heap.size ≤ da) (hr : RDo (fun b => w0.heap.size ≤ b ∧ b ≠ da) wa k.dn k.ky k.dv m2) :
    CK H da w (wa.setRow da (lkC k.l k.nm (.slice none 0 0) (.slice none 0 0) (.slice none 0 0) m2)) k tr pe on mo (.slice none 0 0) (.slice none 0 0) (.slice none 0 0) m2 ∧ RDo (SN H da) (wa.setRow da (lkC k.l k.nm (.slice none 0 0) (.slice none 0 0) (.slice none 0 0) m2)) k.dn k.ky k.dv m2 := by
  have h1 := hz.lt
  have hs := hb.size
  have h0 := hB.size
  refine ⟨⟨?_, ?_, ?_, ?_, by omega⟩, ?_⟩
  · refine ⟨hb.os.trans hB.os, hb.tape.trans hB.tape, hb.output.trans hB.output, by rw [size_setRow]; omega, fun q hq => ?_⟩
    rw [setRow_other _ _ _ _ (by omega), hb.block q (by omega), hB.block q hq]
  · exact (ho.keep (hb.block _ (by omega))).keep (setRow_other _ _ _ _ (by omega))
  · exact (hz.keep (hb.block _ (by omega))).keep (setRow_other _ _ _ _ (by omega))
  · exact setRow_heap wa da _ _ _ _ hd
  · exact RDo.move (fun b h _ => ⟨by omega, h.2⟩) (by rw [size_setRow]; exact Nat.le_refl _) (fun b h hl => setRow_other _ _ _ _ h.2) hr
set_option maxHeartbeats 4000000 in
set_option maxRecDepth 100000 in
theorem linkTwinO (k : Lk) (tr pe on mo : Value) (w : World) (hk : k.ok) (hsm : k.small) (hr : RL4 (fun _ => True) w k tr pe on mo) :
    Calls Tryz.prog 7 #[.agg (lkC k.l k.nm tr pe on mo)] w fun e w' => ∃ t2 p2 o2 m2, e = .returned (.agg (lkC k.l k.nm t2 p2 o2 m2)) ∧ RLo (fun b => w.heap.size ≤ b) w' k t2 p2 o2 m2 ∧ Below w.heap.size w w' := by
  obtain ⟨ta, tc, rfl⟩ : ∃ a c, tr = .slice a k.ts.length c := by obtain ⟨p, q, e, _⟩ := hr.1; exact ⟨p, q, e⟩
  obtain ⟨pa, pc, rfl⟩ : ∃ a c, pe = .slice a k.ps.length c := by obtain ⟨p, q, e, _⟩ := hr.2.1; exact ⟨p, q, e⟩
  obtain ⟨oa, oc, rfl⟩ : ∃ a c, on = .slice a k.rs.length c := by obtain ⟨p, q, e, _⟩ := hr.2.2.1; exact ⟨p, q, e⟩
  obtain ⟨ma, mc, rfl⟩ : ∃ a c, mo = .slice a k.dn c := by obtain ⟨p, q, e, _⟩ := hr.2.2.2; exact ⟨p, q, e⟩
  obtain ⟨tr, htr⟩ : ∃ v, v = Value.slice ta k.ts.length tc := ⟨_, rfl⟩
  obtain ⟨pe, hpe⟩ : ∃ v, v = Value.slice pa k.ps.length pc := ⟨_, rfl⟩
  obtain ⟨on, hon⟩ : ∃ v, v = Value.slice oa k.rs.length oc := ⟨_, rfl⟩
  rw [← htr, ← hpe, ← hon] at hr ⊢
  obtain ⟨mo, hmo⟩ : ∃ v, v = Value.slice ma k.dn mc := ⟨_, rfl⟩
  rw [← hmo] at hr ⊢
  clear htr hpe hon hmo ta tc pa pc oa oc ma mc
  have hl := hk.l
  have HPT : Hid (∀ w', Below w.heap.size w w' → Calls Tryz.prog 24 #[mo] w' fun e w'' => ∃ y', e = .returned y' ∧ RDo (fun b => w'.heap.size ≤ b) w'' k.dn k.ky k.dv y' ∧ Below w'.heap.size w' w'') := fun w' hb => pairsTwinO k.dn k.ky k.dv (fun i _ => valueTwin (k.dv i)) _ w' hsm.dn.1 (fun i hi => ⟨(hk.dn.2 i hi).2, hsm.dn.2 i hi⟩) (RD.move (fun _ _ _ => trivial) hb.size (fun b _ hl => hb.block b hl) hr.2.2.2)
  have HR : Hid (∀ w', Below w.heap.size w w' → RL4 (fun _ => True) w' k tr pe on mo) := fun w' hb => hr.move (fun _ h _ => h) hb.size (fun b _ hl => hb.block b hl)
  have HSM : Hid k.small := hsm
  have B0 : Hid (Below w.heap.size w ((w.alloc (Obj.cells (lkC k.l k.nm tr pe on mo) 28)).alloc (Obj.cells #[.int .u8 0, .int .u8 0, .int .u8 0, .int .u8 0, .int .u8 0, .int .u8 0, .int .u8 0, .int .u8 0, .int .u8 0, .int .u8 0, .int .u8 0, .int .u8 0, .int .u8 0, .int .u8 0, .int .u8 0, .int .u8 0, .int .u8 0, .int .u8 0, .int .u8 0, .int .u8 0, .int .u8 0, .int .u8 0, .int .u8 0, .int .u8 0, .int .u8 0, .int .u8 0, .int .u8 0, .int .u8 0, .int .u8 0, .int .u8 0, .int .u8 0, .int .u8 0, .string { data := #[] }, .slice .none 0 0, .slice .none 0 0, .slice .none 0 0, .slice .none 0 0] 28))) := ((Below.refl _ _).alloc (Nat.le_refl _) _).alloc (by simp) _
  have O0 : Hid (LB ((w.alloc (Obj.cells (lkC k.l k.nm tr pe on mo) 28)).alloc (Obj.cells #[.int .u8 0, .int .u8 0, .int .u8 0, .int .u8 0, .int .u8 0, .int .u8 0, .int .u8 0, .int .u8 0, .int .u8 0, .int .u8 0, .int .u8 0, .int .u8 0, .int .u8 0, .int .u8 0, .int .u8 0, .int .u8 0, .int .u8 0, .int .u8 0, .int .u8 0, .int .u8 0, .int .u8 0, .int .u8 0, .int .u8 0, .int .u8 0, .int .u8 0, .int .u8 0, .int .u8 0, .int .u8 0, .int .u8 0, .int .u8 0, .int .u8 0, .int .u8 0, .string { data := #[] }, .slice .none 0 0, .slice .none 0 0, .slice .none 0 0, .slice .none 0 0] 28)) w.heap.size k.l k.nm tr pe on mo) := (Below.heap_alloc _ _ _ (by simp)).trans (heap_new _ _)
  have Z0 : Hid (LB ((w.alloc (Obj.cells (lkC k.l k.nm tr pe on mo) 28)).alloc (Obj.cells #[.int .u8 0, .int .u8 0, .int .u8 0, .int .u8 0, .int .u8 0, .int .u8 0, .int .u8 0, .int .u8 0, .int .u8 0, .int .u8 0, .int .u8 0, .int .u8 0, .int .u8 0, .int .u8 0, .int .u8 0, .int .u8 0, .int .u8 0, .int .u8 0, .int .u8 0, .int .u8 0, .int .u8 0, .int .u8 0, .int .u8 0, .int .u8 0, .int .u8 0, .int .u8 0, .int .u8 0, .int .u8 0, .int .u8 0, .int .u8 0, .int .u8 0, .int .u8 0, .string { data := #[] }, .slice .none 0 0, .slice .none 0 0, .slice .none 0 0, .slice .none 0 0] 28)) (w.heap.size + 1) (List.replicate 32 (0 : UInt8)) ⟨#[]⟩ (.slice none 0 0) (.slice none 0 0) (.slice none 0 0) (.slice none 0 0)) := by
    have h9 := heap_new (w.alloc (Obj.cells (lkC k.l k.nm tr pe on mo) 28)) (Obj.cells #[.int .u8 0, .int .u8 0, .int .u8 0, .int .u8 0, .int .u8 0, .int .u8 0, .int .u8 0, .int .u8 0, .int .u8 0, .int .u8 0, .int .u8 0, .int .u8 0, .int .u8 0, .int .u8 0, .int .u8 0, .int .u8 0, .int .u8 0, .int .u8 0, .int .u8 0, .int .u8 0, .int .u8 0, .int .u8 0, .int .u8 0, .int .u8 0, .int .u8 0, .int .u8 0, .int .u8 0, .int .u8 0, .int .u8 0, .int .u8 0, .int .u8 0, .int .u8 0, .string { data := #[] }, .slice .none 0 0, .slice .none 0 0, .slice .none 0 0, .slice .none 0 0] 28)
    have e9 : (w.alloc (Obj.cells (lkC k.l k.nm tr pe on mo) 28)).heap.size = w.heap.size + 1 := by simp
    rw [e9] at h9
    have h8 : LB ((w.alloc (Obj.cells (lkC k.l k.nm tr pe on mo) 28)).alloc (Obj.cells #[.int .u8 0, .int .u8 0, .int .u8 0, .int .u8 0, .int .u8 0, .int .u8 0, .int .u8 0, .int .u8 0, .int .u8 0, .int .u8 0, .int .u8 0, .int .u8 0, .int .u8 0, .int .u8 0, .int .u8 0, .int .u8 0, .int .u8 0, .int .u8 0, .int .u8 0, .int .u8 0, .int .u8 0, .int .u8 0, .int .u8 0, .int .u8 0, .int .u8 0, .int .u8 0, .int .u8 0, .int .u8 0, .int .u8 0, .int .u8 0, .int .u8 0, .int .u8 0, .string { data := #[] }, .slice .none 0 0, .slice .none 0 0, .slice .none 0 0, .slice .none 0 0] 28)) (w.heap.size + 1) (List.replicate 32 (0 : UInt8)) ⟨#[]⟩ (.slice none 0 0) (.slice none 0 0) (.slice none 0 0) (.slice none 0 0) := h9
    exact h8
  clear hr hk hsm
  go_enter Tryz.func7, Tryz.ntmps7
  go_upto_region 1 with fail
  generalize ((w.alloc (Obj.cells (lkC k.l k.nm tr pe on mo) 28)).alloc (Obj.cells #[.int .u8 0, .int .u8 0, .int .u8 0, .int .u8 0, .int .u8 0, .int .u8 0, .int .u8 0, .int .u8 0, .int .u8 0, .int .u8 0, .int .u8 0, .int .u8 0, .int .u8 0, .int .u8 0, .int .u8 0, .int .u8 0, .int .u8 0, .int .u8 0, .int .u8 0, .int .u8 0, .int .u8 0, .int .u8 0, .int .u8 0, .int .u8 0, .int .u8 0, .int .u8 0, .int .u8 0, .int .u8 0, .int .u8 0, .int .u8 0, .int .u8 0, .int .u8 0, .string { data := #[] }, .slice .none 0 0, .slice .none 0 0, .slice .none 0 0, .slice .none 0 0] 28)) = w0 at *
  generalize hvb : w.heap.size = H at *
  have HS : Hid (w.heap.size = H) := hvb
  clear hvb
  have HK : Hid (∀ x, Below w0.heap.size w0 x → x.rangeAt H 0 (Lib.byteCells k.l) ∧ x.cell? ⟨H, 32, none⟩ = some (.string k.nm) ∧ x.cell? ⟨H, 36, none⟩ = some mo) := fun x hx => by
    have h9 := O0.out.keep (hx.block H O0.out.lt)
    obtain ⟨h0, _, _, _, h4⟩ := h9.cells hl
    exact ⟨h9.range, h0, h4⟩
  refine wp_region_held_drew (S := fun x => x.rangeAt H 0 (Lib.byteCells k.l) ∧ x.cell? ⟨H, 32, none⟩ = some (.string k.nm) ∧ x.cell? ⟨H, 36, none⟩ = some mo) (by kernel_rfl) (HK.out _ (belowDrew1 w0)) (fun hHeld => ?_)
  refine wpAnyH_take (i := 0) (v := .pointer (some ⟨H, 0, none⟩)) rfl (by kernel_rfl) (by kernel_rfl) (by kernel_rfl) (fun _ _ _ h => h) (Or.inl ⟨by rfl, fun w hw => by go_simp⟩) hHeld ?_
  simp only [Act.put, List.getElem_toArray, List.getElem_cons_zero, List.setIfInBounds_toArray, List.set_cons_zero, List.set_cons_succ]
  refine wpAnyH_take (i := 1) (v := .agg (Lib.byteCells k.l).toArray) rfl (by kernel_rfl) (by kernel_rfl) (by kernel_rfl) (fun _ _ _ h => h) (yieldsIf_load_mid (by rfl) 23 (.tmp 4) rfl H 0 rfl (Lib.byteCells k.l) _ (fun w hw => hw.1) Tryz.underlying23 rfl (infoHs hl)) hHeld ?_
  simp only [Act.put, List.getElem_toArray, List.getElem_cons_zero, List.getElem_cons_succ, List.setIfInBounds_toArray, List.set_cons_zero, List.set_cons_succ]
  refine wpAnyH_take (i := 2) (v := .pointer (some ⟨H, 32, none⟩)) rfl (by kernel_rfl) (by kernel_rfl) (by kernel_rfl) (fun _ _ _ h => h) (Or.inl ⟨by rfl, fun w hw => by go_simp⟩) hHeld ?_
  simp only [Act.put, List.getElem_toArray, List.getElem_cons_zero, List.getElem_cons_succ, List.setIfInBounds_toArray, List.set_cons_zero, List.set_cons_succ]
  refine wpAnyH_take (i := 3) (v := .string k.nm) rfl (by kernel_rfl) (by kernel_rfl) (by kernel_rfl) (fun _ _ _ h => h) (Or.inl ⟨by rfl, fun w hw => by obtain ⟨s0, s32, s36⟩ := hw; go_simp⟩) hHeld ?_
  simp only [Act.put, List.getElem_toArray, List.getElem_cons_zero, List.getElem_cons_succ, List.setIfInBounds_toArray, List.set_cons_zero, List.set_cons_succ]
  refine wpAnyH_take (i := 4) (v := .pointer (some ⟨H, 36, none⟩)) rfl (by kernel_rfl) (by kernel_rfl) (by kernel_rfl) (fun _ _ _ h => h) (Or.inl ⟨by rfl, fun w hw => by go_simp⟩) hHeld ?_
  simp only [Act.put, List.getElem_toArray, List.getElem_cons_zero, List.getElem_cons_succ, List.setIfInBounds_toArray, List.set_cons_zero, List.set_cons_succ]
  refine wpAnyH_take (i := 5) (v := mo) rfl (by kernel_rfl) (by kernel_rfl) (by kernel_rfl) (fun _ _ _ h => h) (Or.inl ⟨by rfl, fun w hw => by obtain ⟨s0, s32, s36⟩ := hw; go_simp⟩) hHeld ?_
  simp only [Act.put, List.getElem_toArray, List.getElem_cons_zero, List.getElem_cons_succ, List.setIfInBounds_toArray, List.set_cons_zero, List.set_cons_succ]
  refine wpAnyH_ready (rs := [6, 8]) (by kernel_rfl) (by simp) ?_
  refine AllReadyH.cons (o := _) rfl (fun K hK => ?_) (AllReadyH.cons (o := _) rfl (fun K hK => ?_) AllReadyH.nil)
  · go_simp
    refine (HPT.out w0.drew (B0.out.trans ((belowDrew1 w0).mono (by have := O0.out.lt; omega)))).mono ?_
    rintro e u ⟨y', rfl, hrd, b⟩
    obtain ⟨ya, yc, rfl⟩ := hrd.form
    have BU : Hid (Below w0.heap.size w0 u) := (belowDrew1 w0).trans b
    have RDY0 : Hid (RDo (fun b => w0.heap.size ≤ b) u k.dn k.ky k.dv (.slice ya k.dn yc)) := hrd
    clear hrd b
    have hS := HK.out u BU.out
    go_wp2_with fail
    refine hK.out _ _ hS (fun hHeld => ?_)
    clear hK K hS
    refine wpAnyH_take (i := 7) (v := .agg (lkC k.l k.nm (.slice none 0 0) (.slice none 0 0) (.slice none 0 0) (.slice ya k.dn yc))) rfl (by kernel_rfl) (by kernel_rfl) (by kernel_rfl) (fun _ _ _ h => h) (yields_link (by rfl) _ _ _ rfl hl k.nm ya k.dn yc rfl rfl rfl) hHeld ?_
    simp only [Act.put, List.getElem_toArray, List.getElem_cons_zero, List.getElem_cons_succ, List.setIfInBounds_toArray, List.set_cons_zero, List.set_cons_succ]
    refine wpAnyH_ready (rs := [8]) (by kernel_rfl) (by simp) ?_
    refine AllReadyH.cons (o := _) rfl (fun K hK => ?_) AllReadyH.nil
    go_simp
    have BA : Hid (Below w0.heap.size w0 (u.alloc (Obj.cells #[.int .u8 0, .int .u8 0, .int .u8 0, .int .u8 0, .int .u8 0, .int .u8 0, .int .u8 0, .int .u8 0, .int .u8 0, .int .u8 0, .int .u8 0, .int .u8 0, .int .u8 0, .int .u8 0, .int .u8 0, .int .u8 0, .int .u8 0, .int .u8 0, .int .u8 0, .int .u8 0, .int .u8 0, .int .u8 0, .int .u8 0, .int .u8 0, .int .u8 0, .int .u8 0, .int .u8 0, .int .u8 0, .int .u8 0, .int .u8 0, .int .u8 0, .int .u8 0, .string { data := #[] }, .slice .none 0 0, .slice .none 0 0, .slice .none 0 0, .slice .none 0 0] 28))) := BU.out.alloc BU.out.size _
    have AD : Hid (LB (u.alloc (Obj.cells #[.int .u8 0, .int .u8 0, .int .u8 0, .int .u8 0, .int .u8 0, .int .u8 0, .int .u8 0, .int .u8 0, .int .u8 0, .int .u8 0, .int .u8 0, .int .u8 0, .int .u8 0, .int .u8 0, .int .u8 0, .int .u8 0, .int .u8 0, .int .u8 0, .int .u8 0, .int .u8 0, .int .u8 0, .int .u8 0, .int .u8 0, .int .u8 0, .int .u8 0, .int .u8 0, .int .u8 0, .int .u8 0, .int .u8 0, .int .u8 0, .int .u8 0, .int .u8 0, .string { data := #[] }, .slice .none 0 0, .slice .none 0 0, .slice .none 0 0, .slice .none 0 0] 28)) u.heap.size (List.replicate 32 (0 : UInt8)) ⟨#[]⟩ (.slice none 0 0) (.slice none 0 0) (.slice none 0 0) (.slice none 0 0)) := heap_new _ _
    have HDA : Hid (w0.heap.size ≤ u.heap.size) := BU.out.size
    have RDY : Hid (RDo (fun b => w0.heap.size ≤ b ∧ b ≠ u.heap.size) (u.alloc (Obj.cells #[.int .u8 0, .int .u8 0, .int .u8 0, .int .u8 0, .int .u8 0, .int .u8 0, .int .u8 0, .int .u8 0, .int .u8 0, .int .u8 0, .int .u8 0, .int .u8 0, .int .u8 0, .int .u8 0, .int .u8 0, .int .u8 0, .int .u8 0, .int .u8 0, .int .u8 0, .int .u8 0, .int .u8 0, .int .u8 0, .int .u8 0, .int .u8 0, .int .u8 0, .int .u8 0, .int .u8 0, .int .u8 0, .int .u8 0, .int .u8 0, .int .u8 0, .int .u8 0, .string { data := #[] }, .slice .none 0 0, .slice .none 0 0, .slice .none 0 0, .slice .none 0 0] 28)) k.dn k.ky k.dv (.slice ya k.dn yc)) := RDo.move (fun b h hl => ⟨h, by omega⟩) (by simp) (fun b _ hl => Below.heap_alloc _ _ _ hl) RDY0.out
    have hS := HK.out _ BA.out
    refine hK.out _ _ hS (fun hHeld => ?_)
    clear hK K hS RDY0 BU
    generalize u.alloc (Obj.cells #[.int .u8 0, .int .u8 0, .int .u8 0, .int .u8 0, .int .u8 0, .int .u8 0, .int .u8 0, .int .u8 0, .int .u8 0, .int .u8 0, .int .u8 0, .int .u8 0, .int .u8 0, .int .u8 0, .int .u8 0, .int .u8 0, .int .u8 0, .int .u8 0, .int .u8 0, .int .u8 0, .int .u8 0, .int .u8 0, .int .u8 0, .int .u8 0, .int .u8 0, .int .u8 0, .int .u8 0, .int .u8 0, .int .u8 0, .int .u8 0, .int .u8 0, .int .u8 0, .string { data := #[] }, .slice .none 0 0, .slice .none 0 0, .slice .none 0 0, .slice .none 0 0] 28) = wa at *
    generalize u.heap.size = da at *
    have TF := tk_factsO B0.out HS.out O0.out Z0.out BA.out AD.out HDA.out RDY.out
    have hS : (wa.setRow da (lkC k.l k.nm (.slice none 0 0) (.slice none 0 0) (.slice none 0 0) (.slice ya k.dn yc))).rangeAt H 0 (Lib.byteCells k.l) ∧ (wa.setRow da (lkC k.l k.nm (.slice none 0 0) (.slice none 0 0) (.slice none 0 0) (.slice ya k.dn yc))).cell? ⟨H, 32, none⟩ = some (.string k.nm) ∧ (wa.setRow da (lkC k.l k.nm (.slice none 0 0) (.slice none 0 0) (.slice none 0 0) (.slice ya k.dn yc))).cell? ⟨H, 36, none⟩ = some mo := by
      obtain ⟨h0, _, _, _, h4⟩ := TF.1.2.1.cells hl
      exact ⟨TF.1.2.1.range, h0, h4⟩
    have HTF : Hid (CK H da w (wa.setRow da (lkC k.l k.nm (.slice none 0 0) (.slice none 0 0) (.slice none 0 0) (.slice ya k.dn yc))) k tr pe on mo (.slice none 0 0) (.slice none 0 0) (.slice none 0 0) (.slice ya k.dn yc) ∧ RDo (SN H da) (wa.setRow da (lkC k.l k.nm (.slice none 0 0) (.slice none 0 0) (.slice none 0 0) (.slice ya k.dn yc))) k.dn k.ky k.dv (.slice ya k.dn yc)) := TF
    clear TF
    refine wpAnyH_ready (rs := [9]) (by kernel_rfl) (by simp) ?_
    refine AllReadyH.cons (o := _) rfl (fun K hK => ?_) AllReadyH.nil
    rw [if_pos (by rfl)]
    refine wp_store_row 28 _ _ rfl da (lkC k.l k.nm (.slice none 0 0) (.slice none 0 0) (.slice none 0 0) (.slice ya k.dn yc)) rfl rfl 28 _ AD.out (infoLk hl) (by rw [lkC_size hl, lkC_size (by simp)]) lkC_one ?_
    simp only [Act.put, List.getElem_toArray, List.getElem_cons_zero, List.getElem_cons_succ]
    refine hK.out _ _ hS (fun hHeld => ?_)
    clear hK K hS
    refine wpAnyH_done (by kernel_rfl) ?_ _
    clear hHeld
    clear AD BA HDA RDY HK
    generalize (wa.setRow da (lkC k.l k.nm (.slice none 0 0) (.slice none 0 0) (.slice none 0 0) (.slice ya k.dn yc))) = w1 at *
    have HBW : Hid (Below H w w1) := HTF.out.1.1
    obtain ⟨_, q33, _, _, _⟩ := HTF.out.1.2.1.cells hl
    obtain ⟨_, d33, _, _, _⟩ := HTF.out.1.2.2.2.1.cells hl
    have f33 := HTF.out.1.2.2.2.1.frozen 33
    have HDL : Hid (da < w1.heap.size) := HTF.out.1.2.2.2.1.lt
    go_upto_region 3 with (at_builtin; refine append_textsO rfl _ _ rfl rfl rfl (HR.out w1 HBW.out).1 HSM.out.ts ?_; intro a2 c2 w2 hN2 hb2 _; have d33' := (hb2.cell (p := ⟨da, 33, none⟩) HDL.out).trans d33; have f33' := (hb2.frozen (p := ⟨da, 33, none⟩) HDL.out).trans f33)
    obtain ⟨N1, hN1⟩ : ∃ N, N = w1.heap.size := ⟨_, rfl⟩
    have HC2 : Hid (CK H da w (w2.setCell ⟨da, 33, none⟩ (.slice a2 k.ts.length c2)) k tr pe on mo (.slice a2 k.ts.length c2) (.slice none 0 0) (.slice none 0 0) (.slice ya k.dn yc) ∧ RSo (fun b => SN H da b ∧ N1 ≤ b) (w2.setCell ⟨da, 33, none⟩ (.slice a2 k.ts.length c2)) (.slice a2 k.ts.length c2) k.ts ∧ RDo (fun b => SN H da b ∧ b < N1) (w2.setCell ⟨da, 33, none⟩ (.slice a2 k.ts.length c2)) k.dn k.ky k.dv (.slice ya k.dn yc) ∧ N1 ≤ (w2.setCell ⟨da, 33, none⟩ (.slice a2 k.ts.length c2)).heap.size) :=
      ⟨ck_step HTF.out.1 HS.out hb2 (lkC_set hl _ _ _ _ _ _).1, OwS.move (fun b h h' => ⟨sn_newS HTF.out.1 b h h', by omega⟩) (sn_new HTF.out.1).2.1 (sn_new HTF.out.1).2.2 hN2, RDo.move (fun b h h' => ⟨h, by omega⟩) (sn_step (H := H) hb2).1 (sn_step hb2).2 HTF.out.2, by have := hb2.size; simp [World.setCell]; omega⟩
    clear q33 d33 f33 d33' f33' hN2 hb2 HDL HBW HTF hN1
    generalize w2.setCell ⟨da, 33, none⟩ (.slice a2 k.ts.length c2) = w1b at *
    have HBW : Hid (Below H w w1b) := HC2.out.1.1
    have q34 := (HC2.out.1.2.1.cells hl).2.2.1
    have d34 := (HC2.out.1.2.2.2.1.cells hl).2.2.1
    have f34 := HC2.out.1.2.2.2.1.frozen 34
    have HDL : Hid (da < w1b.heap.size) := HC2.out.1.2.2.2.1.lt
    go_upto_region 4 with (at_builtin; refine append_textsO rfl _ _ rfl rfl rfl (HR.out w1b HBW.out).2.1 HSM.out.ps ?_; intro a3 c3 w3 hN3 hb3 _; have d34' := (hb3.cell (p := ⟨da, 34, none⟩) HDL.out).trans d34; have f34' := (hb3.frozen (p := ⟨da, 34, none⟩) HDL.out).trans f34)
    obtain ⟨N2, hN2⟩ : ∃ N, N = w1b.heap.size := ⟨_, rfl⟩
    have HC3 : Hid (CK H da w (w3.setCell ⟨da, 34, none⟩ (.slice a3 k.ps.length c3)) k tr pe on mo (.slice a2 k.ts.length c2) (.slice a3 k.ps.length c3) (.slice none 0 0) (.slice ya k.dn yc) ∧ RSo (fun b => SN H da b ∧ N1 ≤ b ∧ b < N2) (w3.setCell ⟨da, 34, none⟩ (.slice a3 k.ps.length c3)) (.slice a2 k.ts.length c2) k.ts ∧ RSo (fun b => SN H da b ∧ N2 ≤ b) (w3.setCell ⟨da, 34, none⟩ (.slice a3 k.ps.length c3)) (.slice a3 k.ps.length c3) k.ps ∧ RDo (fun b => SN H da b ∧ b < N1) (w3.setCell ⟨da, 34, none⟩ (.slice a3 k.ps.length c3)) k.dn k.ky k.dv (.slice ya k.dn yc) ∧ N1 ≤ N2 ∧ N2 ≤ (w3.setCell ⟨da, 34, none⟩ (.slice a3 k.ps.length c3)).heap.size) :=
      ⟨ck_step HC2.out.1 HS.out hb3 (lkC_set hl _ _ _ _ _ _).2.1, OwS.move (fun b h h' => ⟨h.1, h.2, by omega⟩) (sn_step (H := H) hb3).1 (fun b h h' => (sn_step hb3).2 b h.1 h') HC2.out.2.1, OwS.move (fun b h h' => ⟨sn_newS HC2.out.1 b h h', by omega⟩) (sn_new HC2.out.1).2.1 (sn_new HC2.out.1).2.2 hN3, RDo.move (fun _ h _ => h) (sn_step (H := H) hb3).1 (fun b h h' => (sn_step hb3).2 b h.1 h') HC2.out.2.2.1, by have := HC2.out.2.2.2; omega, by have := hb3.size; simp [World.setCell]; omega⟩
    clear q34 d34 f34 d34' f34' hN3 hb3 HDL HBW HC2 hN2
    generalize w3.setCell ⟨da, 34, none⟩ (.slice a3 k.ps.length c3) = w1c at *
    have HBW : Hid (Below H w w1c) := HC3.out.1.1
    have q35 := (HC3.out.1.2.1.cells hl).2.2.2.1
    have d35 := (HC3.out.1.2.2.2.1.cells hl).2.2.2.1
    have f35 := HC3.out.1.2.2.2.1.frozen 35
    have HDL : Hid (da < w1c.heap.size) := HC3.out.1.2.2.2.1.lt
    go_upto_region 5 with (at_builtin; refine append_runsO rfl _ _ rfl rfl rfl (HR.out w1c HBW.out).2.2.1 HSM.out.rs ?_; intro a4 c4 w4 hN4 hb4; have d35' := (hb4.cell (p := ⟨da, 35, none⟩) HDL.out).trans d35; have f35' := (hb4.frozen (p := ⟨da, 35, none⟩) HDL.out).trans f35)
    obtain ⟨N3, hN3⟩ : ∃ N, N = w1c.heap.size := ⟨_, rfl⟩
    have HC4 : Hid (CK H da w (w4.setCell ⟨da, 35, none⟩ (.slice a4 k.rs.length c4)) k tr pe on mo (.slice a2 k.ts.length c2) (.slice a3 k.ps.length c3) (.slice a4 k.rs.length c4) (.slice ya k.dn yc) ∧ RLo (SN H da) (w4.setCell ⟨da, 35, none⟩ (.slice a4 k.rs.length c4)) k (.slice a2 k.ts.length c2) (.slice a3 k.ps.length c3) (.slice a4 k.rs.length c4) (.slice ya k.dn yc)) := by
      have q1 : RSo (fun b => SN H da b ∧ N1 ≤ b ∧ b < N2) (w4.setCell ⟨da, 35, none⟩ (.slice a4 k.rs.length c4)) (.slice a2 k.ts.length c2) k.ts := OwS.move (fun _ h _ => h) (sn_step (H := H) hb4).1 (fun b h h' => (sn_step hb4).2 b h.1 h') HC3.out.2.1
      have q2 : RSo (fun b => SN H da b ∧ N2 ≤ b ∧ b < N3) (w4.setCell ⟨da, 35, none⟩ (.slice a4 k.rs.length c4)) (.slice a3 k.ps.length c3) k.ps := OwS.move (fun b h h' => ⟨h.1, h.2, by omega⟩) (sn_step (H := H) hb4).1 (fun b h h' => (sn_step hb4).2 b h.1 h') HC3.out.2.2.1
      have q3 : RRo (fun b => SN H da b ∧ N3 ≤ b) (w4.setCell ⟨da, 35, none⟩ (.slice a4 k.rs.length c4)) (.slice a4 k.rs.length c4) k.rs := OwS.move (fun b h h' => ⟨sn_newS HC3.out.1 b h h', by omega⟩) (sn_new HC3.out.1).2.1 (sn_new HC3.out.1).2.2 hN4
      have q4 : RDo (fun b => SN H da b ∧ b < N1) (w4.setCell ⟨da, 35, none⟩ (.slice a4 k.rs.length c4)) k.dn k.ky k.dv (.slice ya k.dn yc) := RDo.move (fun _ h _ => h) (sn_step (H := H) hb4).1 (fun b h h' => (sn_step hb4).2 b h.1 h') HC3.out.2.2.2.1
      have n1 := HC3.out.2.2.2.2.1
      have n2 := HC3.out.2.2.2.2.2
      refine ⟨ck_step HC3.out.1 HS.out hb4 (lkC_set hl _ _ _ _ _ _).2.2, OwS.move (fun b h _ => h.1) (Nat.le_refl _) (fun _ _ _ => rfl) q1, OwS.move (fun b h _ => h.1) (Nat.le_refl _) (fun _ _ _ => rfl) q2, OwS.move (fun b h _ => h.1) (Nat.le_refl _) (fun _ _ _ => rfl) q3, q4.move (fun b h _ => ⟨h.1, fun e => by have := (q1.2 b e).2.1; omega, fun e => by have := (q2.2 b e).2.1; omega, fun e => by have := (q3.2 b e).2; omega⟩) (Nat.le_refl _) (fun _ _ _ => rfl), fun g g1 g2 => ?_, fun g g1 g2 => ?_, fun g g1 g2 => ?_⟩
      · have := (q1.2 g g1).2.2; have := (q2.2 g g2).2.1; omega
      · have := (q1.2 g g1).2.2; have := (q3.2 g g2).2; omega
      · have := (q2.2 g g1).2.2; have := (q3.2 g g2).2; omega
    clear q35 d35 f35 d35' f35' hN4 hb4 HDL HBW HC3 hN3
    generalize w4.setCell ⟨da, 35, none⟩ (.slice a4 k.rs.length c4) = w1d at *
    have hRow := HC4.out.1.2.2.2.1
    have hZer := HC4.out.1.2.2.1
    go_wp2_with (first | (refine wpList_store_row rfl 28 _ _ rfl (H + 1) (lkC k.l k.nm (.slice a2 k.ts.length c2) (.slice a3 k.ps.length c3) (.slice a4 k.rs.length c4) (.slice ya k.dn yc)) rfl rfl 28 _ hZer (infoLk hl) (by rw [lkC_size hl, lkC_size (by simp)]) lkC_one ?_) | (refine wpList_load_row rfl 28 _ rfl da rfl 28 (lkC k.l k.nm (.slice a2 k.ts.length c2) (.slice a3 k.ps.length c3) (.slice a4 k.rs.length c4) (.slice ya k.dn yc)) (0, 0) _ hRow Tryz.underlying28 rfl (infoLk hl) ?_))
    refine bodyPost_ret (v := .agg (lkC k.l k.nm (.slice a2 k.ts.length c2) (.slice a3 k.ps.length c3) (.slice a4 k.rs.length c4) (.slice ya k.dn yc))) (results_cell_row Tryz.results7 _ _ (H + 1) 28 _ (0, 0) _ rfl (setRow_heap w1d (H + 1) _ _ _ _ hZer) Tryz.underlying28 rfl (infoLk hl)) rfl ⟨_, _, _, _, rfl, ?_, ?_⟩
    · exact HC4.out.2.move (fun b h _ => by have := HS.out; unfold SN at h; omega) (by rw [size_setRow]; exact Nat.le_refl _) (fun b h _ => setRow_other _ _ _ _ (by unfold SN at h; omega))
    · have h9 := HC4.out.1.1
      rw [HS.out]
      refine ⟨h9.os, h9.tape, h9.output, by rw [size_setRow]; exact h9.size, fun q hq => ?_⟩
      rw [setRow_other _ _ _ _ (by omega), h9.block q hq]
  · go_simp
    have BZ : Below w0.heap.size w0 (w0.alloc (Obj.cells #[.int .u8 0, .int .u8 0, .int .u8 0, .int .u8 0, .int .u8 0, .int .u8 0, .int .u8 0, .int .u8 0, .int .u8 0, .int .u8 0, .int .u8 0, .int .u8 0, .int .u8 0, .int .u8 0, .int .u8 0, .int .u8 0, .int .u8 0, .int .u8 0, .int .u8 0, .int .u8 0, .int .u8 0, .int .u8 0, .int .u8 0, .int .u8 0, .int .u8 0, .int .u8 0, .int .u8 0, .int .u8 0, .int .u8 0, .int .u8 0, .int .u8 0, .int .u8 0, .string { data := #[] }, .slice .none 0 0, .slice .none 0 0, .slice .none 0 0, .slice .none 0 0] 28)).drew := ((Below.refl _ _).alloc (Nat.le_refl _) _).trans ((belowDrew1 _).mono (by simp))
    have BZ2 : Hid (Below w0.heap.size w0 (w0.alloc (Obj.cells #[.int .u8 0, .int .u8 0, .int .u8 0, .int .u8 0, .int .u8 0, .int .u8 0, .int .u8 0, .int .u8 0, .int .u8 0, .int .u8 0, .int .u8 0, .int .u8 0, .int .u8 0, .int .u8 0, .int .u8 0, .int .u8 0, .int .u8 0, .int .u8 0, .int .u8 0, .int .u8 0, .int .u8 0, .int .u8 0, .int .u8 0, .int .u8 0, .int .u8 0, .int .u8 0, .int .u8 0, .int .u8 0, .int .u8 0, .int .u8 0, .int .u8 0, .int .u8 0, .string { data := #[] }, .slice .none 0 0, .slice .none 0 0, .slice .none 0 0, .slice .none 0 0] 28)).drew) := BZ
    have AD0 : Hid (LB (w0.alloc (Obj.cells #[.int .u8 0, .int .u8 0, .int .u8 0, .int .u8 0, .int .u8 0, .int .u8 0, .int .u8 0, .int .u8 0, .int .u8 0, .int .u8 0, .int .u8 0, .int .u8 0, .int .u8 0, .int .u8 0, .int .u8 0, .int .u8 0, .int .u8 0, .int .u8 0, .int .u8 0, .int .u8 0, .int .u8 0, .int .u8 0, .int .u8 0, .int .u8 0, .int .u8 0, .int .u8 0, .int .u8 0, .int .u8 0, .int .u8 0, .int .u8 0, .int .u8 0, .int .u8 0, .string { data := #[] }, .slice .none 0 0, .slice .none 0 0, .slice .none 0 0, .slice .none 0 0] 28)).drew w0.heap.size (List.replicate 32 (0 : UInt8)) ⟨#[]⟩ (.slice none 0 0) (.slice none 0 0) (.slice none 0 0) (.slice none 0 0)) := heap_new w0 _
    have hsz : (w0.alloc (Obj.cells #[.int .u8 0, .int .u8 0, .int .u8 0, .int .u8 0, .int .u8 0, .int .u8 0, .int .u8 0, .int .u8 0, .int .u8 0, .int .u8 0, .int .u8 0, .int .u8 0, .int .u8 0, .int .u8 0, .int .u8 0, .int .u8 0, .int .u8 0, .int .u8 0, .int .u8 0, .int .u8 0, .int .u8 0, .int .u8 0, .int .u8 0, .int .u8 0, .int .u8 0, .int .u8 0, .int .u8 0, .int .u8 0, .int .u8 0, .int .u8 0, .int .u8 0, .int .u8 0, .string { data := #[] }, .slice .none 0 0, .slice .none 0 0, .slice .none 0 0, .slice .none 0 0] 28)).drew.heap.size = w0.heap.size + 1 := by simp
    have hS := HK.out _ BZ
    refine hK.out _ _ hS (fun hHeld => ?_)
    clear hK K hS BZ
    generalize (w0.alloc (Obj.cells #[.int .u8 0, .int .u8 0, .int .u8 0, .int .u8 0, .int .u8 0, .int .u8 0, .int .u8 0, .int .u8 0, .int .u8 0, .int .u8 0, .int .u8 0, .int .u8 0, .int .u8 0, .int .u8 0, .int .u8 0, .int .u8 0, .int .u8 0, .int .u8 0, .int .u8 0, .int .u8 0, .int .u8 0, .int .u8 0, .int .u8 0, .int .u8 0, .int .u8 0, .int .u8 0, .int .u8 0, .int .u8 0, .int .u8 0, .int .u8 0, .int .u8 0, .int .u8 0, .string { data := #[] }, .slice .none 0 0, .slice .none 0 0, .slice .none 0 0, .slice .none 0 0] 28)).drew = wz at *
    refine wpAnyH_ready (rs := [6]) (by kernel_rfl) (by simp) ?_
    refine AllReadyH.cons (o := _) rfl (fun K hK => ?_) AllReadyH.nil
    go_simp
    refine (HPT.out wz (B0.out.trans (BZ2.out.mono (by have := O0.out.lt; omega)))).mono ?_
    rintro e u ⟨y', rfl, hrd, b⟩
    obtain ⟨ya, yc, rfl⟩ := hrd.form
    have BA : Hid (Below w0.heap.size w0 u) := BZ2.out.trans (b.mono BZ2.out.size)
    have AD : Hid (LB u w0.heap.size (List.replicate 32 (0 : UInt8)) ⟨#[]⟩ (.slice none 0 0) (.slice none 0 0) (.slice none 0 0) (.slice none 0 0)) := AD0.out.keep (b.block _ AD0.out.lt)
    have RDY : Hid (RDo (fun b => w0.heap.size ≤ b ∧ b ≠ w0.heap.size) u k.dn k.ky k.dv (.slice ya k.dn yc)) := RDo.move (fun b h _ => ⟨by omega, by omega⟩) (Nat.le_refl _) (fun _ _ _ => rfl) hrd
    clear hrd b AD0 BZ2 hsz
    have hS := HK.out u BA.out
    go_wp2_with fail
    refine hK.out _ _ hS (fun hHeld => ?_)
    clear hK K hS
    refine wpAnyH_take (i := 7) (v := .agg (lkC k.l k.nm (.slice none 0 0) (.slice none 0 0) (.slice none 0 0) (.slice ya k.dn yc))) rfl (by kernel_rfl) (by kernel_rfl) (by kernel_rfl) (fun _ _ _ h => h) (yields_link (by rfl) _ _ _ rfl hl k.nm ya k.dn yc rfl rfl rfl) hHeld ?_
    simp only [Act.put, List.getElem_toArray, List.getElem_cons_zero, List.getElem_cons_succ, List.setIfInBounds_toArray, List.set_cons_zero, List.set_cons_succ]
    obtain ⟨da, hda0⟩ : ∃ d, d = w0.heap.size := ⟨_, rfl⟩
    have AD1 : Hid (LB u da (List.replicate 32 (0 : UInt8)) ⟨#[]⟩ (.slice none 0 0) (.slice none 0 0) (.slice none 0 0) (.slice none 0 0)) := by rw [hda0]; exact AD
    have RDY1 : Hid (RDo (fun b => w0.heap.size ≤ b ∧ b ≠ da) u k.dn k.ky k.dv (.slice ya k.dn yc)) := by rw [hda0]; exact RDY
    have HDA : Hid (w0.heap.size ≤ da) := Nat.le_of_eq hda0.symm
    rw [← hda0]
    clear AD RDY hda0
    have AD := AD1
    have RDY := RDY1
    clear AD1 RDY1
    have TF := tk_factsO B0.out HS.out O0.out Z0.out BA.out AD.out HDA.out RDY.out
    have hS : (u.setRow da (lkC k.l k.nm (.slice none 0 0) (.slice none 0 0) (.slice none 0 0) (.slice ya k.dn yc))).rangeAt H 0 (Lib.byteCells k.l) ∧ (u.setRow da (lkC k.l k.nm (.slice none 0 0) (.slice none 0 0) (.slice none 0 0) (.slice ya k.dn yc))).cell? ⟨H, 32, none⟩ = some (.string k.nm) ∧ (u.setRow da (lkC k.l k.nm (.slice none 0 0) (.slice none 0 0) (.slice none 0 0) (.slice ya k.dn yc))).cell? ⟨H, 36, none⟩ = some mo := by
      obtain ⟨h0, _, _, _, h4⟩ := TF.1.2.1.cells hl
      exact ⟨TF.1.2.1.range, h0, h4⟩
    have HTF : Hid (CK H da w (u.setRow da (lkC k.l k.nm (.slice none 0 0) (.slice none 0 0) (.slice none 0 0) (.slice ya k.dn yc))) k tr pe on mo (.slice none 0 0) (.slice none 0 0) (.slice none 0 0) (.slice ya k.dn yc) ∧ RDo (SN H da) (u.setRow da (lkC k.l k.nm (.slice none 0 0) (.slice none 0 0) (.slice none 0 0) (.slice ya k.dn yc))) k.dn k.ky k.dv (.slice ya k.dn yc)) := TF
    clear TF
    refine wpAnyH_ready (rs := [9]) (by kernel_rfl) (by simp) ?_
    refine AllReadyH.cons (o := _) rfl (fun K hK => ?_) AllReadyH.nil
    rw [if_pos (by rfl)]
    refine wp_store_row 28 _ _ rfl da (lkC k.l k.nm (.slice none 0 0) (.slice none 0 0) (.slice none 0 0) (.slice ya k.dn yc)) rfl rfl 28 _ AD.out (infoLk hl) (by rw [lkC_size hl, lkC_size (by simp)]) lkC_one ?_
    simp only [Act.put, List.getElem_toArray, List.getElem_cons_zero, List.getElem_cons_succ]
    refine hK.out _ _ hS (fun hHeld => ?_)
    clear hK K hS
    refine wpAnyH_done (by kernel_rfl) ?_ _
    clear hHeld
    clear AD BA HDA RDY HK
    generalize (u.setRow da (lkC k.l k.nm (.slice none 0 0) (.slice none 0 0) (.slice none 0 0) (.slice ya k.dn yc))) = w1 at *
    have HBW : Hid (Below H w w1) := HTF.out.1.1
    obtain ⟨_, q33, _, _, _⟩ := HTF.out.1.2.1.cells hl
    obtain ⟨_, d33, _, _, _⟩ := HTF.out.1.2.2.2.1.cells hl
    have f33 := HTF.out.1.2.2.2.1.frozen 33
    have HDL : Hid (da < w1.heap.size) := HTF.out.1.2.2.2.1.lt
    go_upto_region 3 with (at_builtin; refine append_textsO rfl _ _ rfl rfl rfl (HR.out w1 HBW.out).1 HSM.out.ts ?_; intro a2 c2 w2 hN2 hb2 _; have d33' := (hb2.cell (p := ⟨da, 33, none⟩) HDL.out).trans d33; have f33' := (hb2.frozen (p := ⟨da, 33, none⟩) HDL.out).trans f33)
    obtain ⟨N1, hN1⟩ : ∃ N, N = w1.heap.size := ⟨_, rfl⟩
    have HC2 : Hid (CK H da w (w2.setCell ⟨da, 33, none⟩ (.slice a2 k.ts.length c2)) k tr pe on mo (.slice a2 k.ts.length c2) (.slice none 0 0) (.slice none 0 0) (.slice ya k.dn yc) ∧ RSo (fun b => SN H da b ∧ N1 ≤ b) (w2.setCell ⟨da, 33, none⟩ (.slice a2 k.ts.length c2)) (.slice a2 k.ts.length c2) k.ts ∧ RDo (fun b => SN H da b ∧ b < N1) (w2.setCell ⟨da, 33, none⟩ (.slice a2 k.ts.length c2)) k.dn k.ky k.dv (.slice ya k.dn yc) ∧ N1 ≤ (w2.setCell ⟨da, 33, none⟩ (.slice a2 k.ts.length c2)).heap.size) :=
      ⟨ck_step HTF.out.1 HS.out hb2 (lkC_set hl _ _ _ _ _ _).1, OwS.move (fun b h h' => ⟨sn_newS HTF.out.1 b h h', by omega⟩) (sn_new HTF.out.1).2.1 (sn_new HTF.out.1).2.2 hN2, RDo.move (fun b h h' => ⟨h, by omega⟩) (sn_step (H := H) hb2).1 (sn_step hb2).2 HTF.out.2, by have := hb2.size; simp [World.setCell]; omega⟩
    clear q33 d33 f33 d33' f33' hN2 hb2 HDL HBW HTF hN1
    generalize w2.setCell ⟨da, 33, none⟩ (.slice a2 k.ts.length c2) = w1b at *
    have HBW : Hid (Below H w w1b) := HC2.out.1.1
    have q34 := (HC2.out.1.2.1.cells hl).2.2.1
    have d34 := (HC2.out.1.2.2.2.1.cells hl).2.2.1
    have f34 := HC2.out.1.2.2.2.1.frozen 34
    have HDL : Hid (da < w1b.heap.size) := HC2.out.1.2.2.2.1.lt
    go_upto_region 4 with (at_builtin; refine append_textsO rfl _ _ rfl rfl rfl (HR.out w1b HBW.out).2.1 HSM.out.ps ?_; intro a3 c3 w3 hN3 hb3 _; have d34' := (hb3.cell (p := ⟨da, 34, none⟩) HDL.out).trans d34; have f34' := (hb3.frozen (p := ⟨da, 34, none⟩) HDL.out).trans f34)
    obtain ⟨N2, hN2⟩ : ∃ N, N = w1b.heap.size := ⟨_, rfl⟩
    have HC3 : Hid (CK H da w (w3.setCell ⟨da, 34, none⟩ (.slice a3 k.ps.length c3)) k tr pe on mo (.slice a2 k.ts.length c2) (.slice a3 k.ps.length c3) (.slice none 0 0) (.slice ya k.dn yc) ∧ RSo (fun b => SN H da b ∧ N1 ≤ b ∧ b < N2) (w3.setCell ⟨da, 34, none⟩ (.slice a3 k.ps.length c3)) (.slice a2 k.ts.length c2) k.ts ∧ RSo (fun b => SN H da b ∧ N2 ≤ b) (w3.setCell ⟨da, 34, none⟩ (.slice a3 k.ps.length c3)) (.slice a3 k.ps.length c3) k.ps ∧ RDo (fun b => SN H da b ∧ b < N1) (w3.setCell ⟨da, 34, none⟩ (.slice a3 k.ps.length c3)) k.dn k.ky k.dv (.slice ya k.dn yc) ∧ N1 ≤ N2 ∧ N2 ≤ (w3.setCell ⟨da, 34, none⟩ (.slice a3 k.ps.length c3)).heap.size) :=
      ⟨ck_step HC2.out.1 HS.out hb3 (lkC_set hl _ _ _ _ _ _).2.1, OwS.move (fun b h h' => ⟨h.1, h.2, by omega⟩) (sn_step (H := H) hb3).1 (fun b h h' => (sn_step hb3).2 b h.1 h') HC2.out.2.1, OwS.move (fun b h h' => ⟨sn_newS HC2.out.1 b h h', by omega⟩) (sn_new HC2.out.1).2.1 (sn_new HC2.out.1).2.2 hN3, RDo.move (fun _ h _ => h) (sn_step (H := H) hb3).1 (fun b h h' => (sn_step hb3).2 b h.1 h') HC2.out.2.2.1, by have := HC2.out.2.2.2; omega, by have := hb3.size; simp [World.setCell]; omega⟩
    clear q34 d34 f34 d34' f34' hN3 hb3 HDL HBW HC2 hN2
    generalize w3.setCell ⟨da, 34, none⟩ (.slice a3 k.ps.length c3) = w1c at *
    have HBW : Hid (Below H w w1c) := HC3.out.1.1
    have q35 := (HC3.out.1.2.1.cells hl).2.2.2.1
    have d35 := (HC3.out.1.2.2.2.1.cells hl).2.2.2.1
    have f35 := HC3.out.1.2.2.2.1.frozen 35
    have HDL : Hid (da < w1c.heap.size) := HC3.out.1.2.2.2.1.lt
    go_upto_region 5 with (at_builtin; refine append_runsO rfl _ _ rfl rfl rfl (HR.out w1c HBW.out).2.2.1 HSM.out.rs ?_; intro a4 c4 w4 hN4 hb4; have d35' := (hb4.cell (p := ⟨da, 35, none⟩) HDL.out).trans d35; have f35' := (hb4.frozen (p := ⟨da, 35, none⟩) HDL.out).trans f35)
    obtain ⟨N3, hN3⟩ : ∃ N, N = w1c.heap.size := ⟨_, rfl⟩
    have HC4 : Hid (CK H da w (w4.setCell ⟨da, 35, none⟩ (.slice a4 k.rs.length c4)) k tr pe on mo (.slice a2 k.ts.length c2) (.slice a3 k.ps.length c3) (.slice a4 k.rs.length c4) (.slice ya k.dn yc) ∧ RLo (SN H da) (w4.setCell ⟨da, 35, none⟩ (.slice a4 k.rs.length c4)) k (.slice a2 k.ts.length c2) (.slice a3 k.ps.length c3) (.slice a4 k.rs.length c4) (.slice ya k.dn yc)) := by
      have q1 : RSo (fun b => SN H da b ∧ N1 ≤ b ∧ b < N2) (w4.setCell ⟨da, 35, none⟩ (.slice a4 k.rs.length c4)) (.slice a2 k.ts.length c2) k.ts := OwS.move (fun _ h _ => h) (sn_step (H := H) hb4).1 (fun b h h' => (sn_step hb4).2 b h.1 h') HC3.out.2.1
      have q2 : RSo (fun b => SN H da b ∧ N2 ≤ b ∧ b < N3) (w4.setCell ⟨da, 35, none⟩ (.slice a4 k.rs.length c4)) (.slice a3 k.ps.length c3) k.ps := OwS.move (fun b h h' => ⟨h.1, h.2, by omega⟩) (sn_step (H := H) hb4).1 (fun b h h' => (sn_step hb4).2 b h.1 h') HC3.out.2.2.1
      have q3 : RRo (fun b => SN H da b ∧ N3 ≤ b) (w4.setCell ⟨da, 35, none⟩ (.slice a4 k.rs.length c4)) (.slice a4 k.rs.length c4) k.rs := OwS.move (fun b h h' => ⟨sn_newS HC3.out.1 b h h', by omega⟩) (sn_new HC3.out.1).2.1 (sn_new HC3.out.1).2.2 hN4
      have q4 : RDo (fun b => SN H da b ∧ b < N1) (w4.setCell ⟨da, 35, none⟩ (.slice a4 k.rs.length c4)) k.dn k.ky k.dv (.slice ya k.dn yc) := RDo.move (fun _ h _ => h) (sn_step (H := H) hb4).1 (fun b h h' => (sn_step hb4).2 b h.1 h') HC3.out.2.2.2.1
      have n1 := HC3.out.2.2.2.2.1
      have n2 := HC3.out.2.2.2.2.2
      refine ⟨ck_step HC3.out.1 HS.out hb4 (lkC_set hl _ _ _ _ _ _).2.2, OwS.move (fun b h _ => h.1) (Nat.le_refl _) (fun _ _ _ => rfl) q1, OwS.move (fun b h _ => h.1) (Nat.le_refl _) (fun _ _ _ => rfl) q2, OwS.move (fun b h _ => h.1) (Nat.le_refl _) (fun _ _ _ => rfl) q3, q4.move (fun b h _ => ⟨h.1, fun e => by have := (q1.2 b e).2.1; omega, fun e => by have := (q2.2 b e).2.1; omega, fun e => by have := (q3.2 b e).2; omega⟩) (Nat.le_refl _) (fun _ _ _ => rfl), fun g g1 g2 => ?_, fun g g1 g2 => ?_, fun g g1 g2 => ?_⟩
      · have := (q1.2 g g1).2.2; have := (q2.2 g g2).2.1; omega
      · have := (q1.2 g g1).2.2; have := (q3.2 g g2).2; omega
      · have := (q2.2 g g1).2.2; have := (q3.2 g g2).2; omega
    clear q35 d35 f35 d35' f35' hN4 hb4 HDL HBW HC3 hN3
    generalize w4.setCell ⟨da, 35, none⟩ (.slice a4 k.rs.length c4) = w1d at *
    have hRow := HC4.out.1.2.2.2.1
    have hZer := HC4.out.1.2.2.1
    go_wp2_with (first | (refine wpList_store_row rfl 28 _ _ rfl (H + 1) (lkC k.l k.nm (.slice a2 k.ts.length c2) (.slice a3 k.ps.length c3) (.slice a4 k.rs.length c4) (.slice ya k.dn yc)) rfl rfl 28 _ hZer (infoLk hl) (by rw [lkC_size hl, lkC_size (by simp)]) lkC_one ?_) | (refine wpList_load_row rfl 28 _ rfl da rfl 28 (lkC k.l k.nm (.slice a2 k.ts.length c2) (.slice a3 k.ps.length c3) (.slice a4 k.rs.length c4) (.slice ya k.dn yc)) (0, 0) _ hRow Tryz.underlying28 rfl (infoLk hl) ?_))
    refine bodyPost_ret (v := .agg (lkC k.l k.nm (.slice a2 k.ts.length c2) (.slice a3 k.ps.length c3) (.slice a4 k.rs.length c4) (.slice ya k.dn yc))) (results_cell_row Tryz.results7 _ _ (H + 1) 28 _ (0, 0) _ rfl (setRow_heap w1d (H + 1) _ _ _ _ hZer) Tryz.underlying28 rfl (infoLk hl)) rfl ⟨_, _, _, _, rfl, ?_, ?_⟩
    · exact HC4.out.2.move (fun b h _ => by have := HS.out; unfold SN at h; omega) (by rw [size_setRow]; exact Nat.le_refl _) (fun b h _ => setRow_other _ _ _ _ (by unfold SN at h; omega))
    · have h9 := HC4.out.1.1
      rw [HS.out]
      refine ⟨h9.os, h9.tape, h9.output, by rw [size_setRow]; exact h9.size, fun q hq => ?_⟩
      rw [setRow_other _ _ _ _ (by omega), h9.block q hq]
end Ow
end Go.Proofs.YtnpcbcfjnhjmmaaGreatDoor
