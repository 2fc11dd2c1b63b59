import Derived.Test.YtbnnfpjgjieaeaaDoorN2
namespace Go.Proofs.YtbnnfpjgjieaeaaDoor
open Go.RowKit
set_option maxHeartbeats 1000000 in
set_option maxRecDepth 100000 in
theorem twinO (w : World) (m : Mv) (D hb : List UInt8) (hm : MM w m D hb) :
    Calls Tryd.prog 32 #[.agg m.cs] w fun e w' => ∃ d' h', e = .returned (.agg { m with d := d', h := h' }.cs) ∧ OMg w.heap.size w' ⟨{ m with d := d', h := h' }, D, hb⟩ ∧ Below w.heap.size w w' := by
  have C0 : ∃ X, (((w.alloc (.cells m.cs 47)).alloc (.cells zm.cs 47)).alloc (.cells zm.cs 47)).setRow (w.heap.size + 2) m.cs = X ∧ MB X w.heap.size m ∧ MB X (w.heap.size + 1) zm ∧ MB X (w.heap.size + 2) m ∧ Below w.heap.size w X ∧ X.heap.size = w.heap.size + 3 := by
    have g2 : MB (((w.alloc (.cells m.cs 47)).alloc (.cells zm.cs 47)).alloc (.cells zm.cs 47)) (w.heap.size + 2) zm := heapLast _ _ (by simp)
    refine ⟨_, rfl, ?_, ?_, g2.setRow, belowSetRow ((((Below.refl _ _).alloc (Nat.le_refl _) _).alloc (by simp) _).alloc (by simp; omega) _) (by omega) _, by simp [World.setRow]⟩
    · show (World.setRow _ _ _).heap[_]? = _
      rw [setRow_other _ _ _ _ (by omega), heapOld _ _ _ (by simp; omega), heapOld _ _ _ (by simp), heapNew]
    · show (World.setRow _ _ _).heap[_]? = _
      rw [setRow_other _ _ _ _ (by omega), heapOld _ _ _ (by simp)]; exact heapLast _ _ (by simp)
  have g2 : MB (((w.alloc (.cells m.cs 47)).alloc (.cells zm.cs 47)).alloc (.cells zm.cs 47)) (w.heap.size + 2) zm := heapLast _ _ (by simp)
  have hc2 : ((w.alloc (.cells m.cs 47)).alloc (.cells zm.cs 47)).heap[w.heap.size]? = some (.cells m.cs 47 (0, 0)) := by rw [heapOld _ _ _ (by simp), heapNew]
  have HM : Hid (MM w m D hb) := hm
  have ok := hm.ok
  have him := info_msg ok
  have hone := ok.one
  have hsz : zm.cs.size = m.cs.size := by rw [zm_ok.size, ok.size]
  have l2 := g2.cells
  clear g2 hm
  go_enter Tryd.func32, Tryd.ntmps32
  go_upto_region 2 with (first | (refine wpList_load_row rfl 47 _ rfl w.heap.size rfl 47 m.cs (0, 0) _ hc2 Tryd.underlying47 rfl him ?_) | (refine wpList_store_row rfl 47 _ _ rfl (w.heap.size + 2) m.cs rfl rfl 47 zm.cs l2 him hsz hone ?_))
  rw [z40_eq]
  obtain ⟨X, hX, C0⟩ := C0
  rw [hX]
  clear hX hc2 l2 hsz hone
  have HX : Hid (MB X w.heap.size m ∧ MB X (w.heap.size + 1) zm ∧ MB X (w.heap.size + 2) m ∧ Below w.heap.size w X ∧ X.heap.size = w.heap.size + 3) := C0
  have a4 := C0.2.2.1.c4
  have f4 := C0.2.2.1.free 4
  clear C0
  go_upto_region 3 with fail
  have HX1 : Hid (MB (X.setCell ⟨w.heap.size + 2, 4, none⟩ (.slice none 0 0)) w.heap.size m ∧ MB (X.setCell ⟨w.heap.size + 2, 4, none⟩ (.slice none 0 0)) (w.heap.size + 1) zm ∧ MB (X.setCell ⟨w.heap.size + 2, 4, none⟩ (.slice none 0 0)) (w.heap.size + 2) { m with d := .slice none 0 0 } ∧ Below w.heap.size w (X.setCell ⟨w.heap.size + 2, 4, none⟩ (.slice none 0 0)) ∧ (X.setCell ⟨w.heap.size + 2, 4, none⟩ (.slice none 0 0)).heap.size = w.heap.size + 3) :=
    ⟨HX.out.1.besides (Besides.setCell _ _ _ _) (by omega), HX.out.2.1.besides (Besides.setCell _ _ _ _) (by omega), HX.out.2.2.1.set 4 _ rfl, HX.out.2.2.2.1.setCell (by show _ ≤ _ + 2; omega) _, by simp; exact HX.out.2.2.2.2⟩
  clear a4 f4 HX
  generalize X.setCell ⟨w.heap.size + 2, 4, none⟩ (.slice none 0 0) = X1 at *
  have ok1 : Mv.ok { m with d := .slice none 0 0 } := ⟨ok.r, ⟨_, _, _, rfl⟩, ok.h⟩
  have a39 := HX1.out.2.2.1.c39 ok1
  have f39 := HX1.out.2.2.1.free 39
  go_upto_region 4 with fail
  have HX2 : Hid (MB (X1.setCell ⟨w.heap.size + 2, 39, none⟩ (.slice none 0 0)) w.heap.size m ∧ MB (X1.setCell ⟨w.heap.size + 2, 39, none⟩ (.slice none 0 0)) (w.heap.size + 1) zm ∧ MB (X1.setCell ⟨w.heap.size + 2, 39, none⟩ (.slice none 0 0)) (w.heap.size + 2) { m with d := .slice none 0 0, h := .slice none 0 0 } ∧ Below w.heap.size w (X1.setCell ⟨w.heap.size + 2, 39, none⟩ (.slice none 0 0)) ∧ (X1.setCell ⟨w.heap.size + 2, 39, none⟩ (.slice none 0 0)).heap.size = w.heap.size + 3) :=
    ⟨HX1.out.1.besides (Besides.setCell _ _ _ _) (by omega), HX1.out.2.1.besides (Besides.setCell _ _ _ _) (by omega), HX1.out.2.2.1.set 39 _ (Mv.set39 ok1 _), HX1.out.2.2.2.1.setCell (by show _ ≤ _ + 2; omega) _, by simp; exact HX1.out.2.2.2.2⟩
  clear a39 f39 HX1 ok1
  generalize X1.setCell ⟨w.heap.size + 2, 39, none⟩ (.slice none 0 0) = X2 at *
  have a4 : X2.cell? ⟨w.heap.size + 2, 4, none⟩ = some (.slice none 0 0) := HX2.out.2.2.1.c4
  have f4 := HX2.out.2.2.1.free 4
  have m4 := HX2.out.1.c4
  have hlt2 : w.heap.size + 2 < X2.heap.size := by rw [HX2.out.2.2.2.2]; omega
  have HD : Hid (RB X2 m.d D ∧ RH X2 m.h hb ∧ ([] : List UInt8).length + D.length ≤ 140737488351232 ∧ hb.length ≤ 140737488351232) := by
    have hb' := HX2.out.2.2.2.1
    exact ⟨HM.out.d.keep hb', HM.out.h.keep hb', by have := HM.out.dl; simpa using this, HM.out.hl⟩
  have HO : Hid (OW X2.heap.size X2 (.slice none 0 0) []) := World.ownsRow_nil _ _ _ _
  go_upto_region 5 with (first | (at_builtin; refine append_bytes rfl _ _ rfl rfl HO.out rfl HD.out.1 (Nat.le_refl _) HD.out.2.2.1 ?_; intro d' X3 o3 b3; simp only [List.nil_append] at o3; obtain ⟨da, dc, rfl⟩ := o3.form; have t4 := (b3.cell (p := ⟨w.heap.size + 2, 4, none⟩) hlt2).trans a4; have t5 := (b3.frozen (p := ⟨w.heap.size + 2, 4, none⟩) hlt2).trans f4))
  have H4 : Hid (MB (X3.setCell ⟨w.heap.size + 2, 4, none⟩ (.slice da D.length dc)) w.heap.size m ∧ MB (X3.setCell ⟨w.heap.size + 2, 4, none⟩ (.slice da D.length dc)) (w.heap.size + 1) zm ∧ MB (X3.setCell ⟨w.heap.size + 2, 4, none⟩ (.slice da D.length dc)) (w.heap.size + 2) { m with d := .slice da D.length dc, h := .slice none 0 0 } ∧ Below w.heap.size w (X3.setCell ⟨w.heap.size + 2, 4, none⟩ (.slice da D.length dc)) ∧ w.heap.size + 2 < (X3.setCell ⟨w.heap.size + 2, 4, none⟩ (.slice da D.length dc)).heap.size ∧ OW (w.heap.size + 3) (X3.setCell ⟨w.heap.size + 2, 4, none⟩ (.slice da D.length dc)) (.slice da D.length dc) D ∧ RH (X3.setCell ⟨w.heap.size + 2, 4, none⟩ (.slice da D.length dc)) m.h hb) := by
    have hs2 := HX2.out.2.2.2.2
    have bb : Below X2.heap.size X2 X3 := b3
    have b4 : Below w.heap.size w X3 := HX2.out.2.2.2.1.trans (bb.mono (by omega))
    have hs3 := bb.size
    have g0 := HX2.out.1.below bb
    have g1 := HX2.out.2.1.below bb
    have g2 := HX2.out.2.2.1.below bb
    exact ⟨g0.besides (Besides.setCell _ _ _ _) (by omega), g1.besides (Besides.setCell _ _ _ _) (by omega), g2.set 4 _ rfl, b4.setCell (by show _ ≤ _ + 2; omega) _, by simp; omega, ownsRow_setCell_below (ownsRow_mono o3 (by omega)) (by show w.heap.size + 2 < _; omega) _, HM.out.h.keep (b4.setCell (by show _ ≤ _ + 2; omega) _)⟩
  clear t4 t5 o3 b3 HO HD hlt2 m4 f4 a4 HX2
  generalize X3.setCell ⟨w.heap.size + 2, 4, none⟩ (.slice da D.length dc) = X4 at *
  have ok4 : Mv.ok { m with d := .slice da D.length dc, h := .slice none 0 0 } := ⟨ok.r, ⟨_, _, _, rfl⟩, ⟨_, _, _, rfl⟩⟩
  have a39 : X4.cell? ⟨w.heap.size + 2, 39, none⟩ = some (.slice none 0 0) := H4.out.2.2.1.c39 ok4
  have f39 := H4.out.2.2.1.free 39
  have m39 := H4.out.1.c39 ok
  have hlt2 : w.heap.size + 2 < X4.heap.size := H4.out.2.2.2.2.1
  have HH : Hid (RH X4 m.h hb ∧ hb.length ≤ 140737488351232) := ⟨H4.out.2.2.2.2.2.2, HM.out.hl⟩
  go_upto_region 6 with (first | (at_builtin; refine append_hashes rfl _ _ rfl rfl rfl HH.out.1 HH.out.2 ?_; intro h' X5 o5 b5; obtain ⟨ha, hn, hc, rfl, _⟩ := o5.rh; have t4 := (b5.cell (p := ⟨w.heap.size + 2, 39, none⟩) hlt2).trans a39; have t5 := (b5.frozen (p := ⟨w.heap.size + 2, 39, none⟩) hlt2).trans f39))
  have H5 : Hid (MB (X5.setCell ⟨w.heap.size + 2, 39, none⟩ (.slice ha hn hc)) (w.heap.size + 1) zm ∧ MB (X5.setCell ⟨w.heap.size + 2, 39, none⟩ (.slice ha hn hc)) (w.heap.size + 2) { m with d := .slice da D.length dc, h := .slice ha hn hc } ∧ Below w.heap.size w (X5.setCell ⟨w.heap.size + 2, 39, none⟩ (.slice ha hn hc)) ∧ OW (w.heap.size + 3) (X5.setCell ⟨w.heap.size + 2, 39, none⟩ (.slice ha hn hc)) (.slice da D.length dc) D ∧ OH (w.heap.size + 3) (X5.setCell ⟨w.heap.size + 2, 39, none⟩ (.slice ha hn hc)) (.slice ha hn hc) hb) := by
    have b6 : Below w.heap.size w X5 := H4.out.2.2.2.1.trans (b5.mono (by omega))
    have g1 := H4.out.2.1.below b5
    have g2 := H4.out.2.2.1.below b5
    obtain ⟨n, hn', hown⟩ := o5
    exact ⟨g1.besides (Besides.setCell _ _ _ _) (by omega), g2.set 39 _ (Mv.set39 ok4 _), b6.setCell (by show _ ≤ _ + 2; omega) _, ownsRow_setCell_below (OW.grow H4.out.2.2.2.2.2.1 b5) (by show w.heap.size + 2 < _; omega) _, ⟨n, hn', ownsRow_setCell_below (ownsRow_mono hown (by omega)) (by show w.heap.size + 2 < _; omega) _⟩⟩
  clear t4 t5 o5 b5 HH hlt2 m39 f39 a39 H4 ok4
  generalize X5.setCell ⟨w.heap.size + 2, 39, none⟩ (.slice ha hn hc) = X6 at *
  have ok5 : Mv.ok { m with d := .slice da D.length dc, h := .slice ha hn hc } := ⟨ok.r, ⟨_, _, _, rfl⟩, ⟨_, _, _, rfl⟩⟩
  have l2 := H5.out.2.1.cells
  have l1 := H5.out.1.cells
  have him5 := info_msg ok5
  have hone5 := ok5.one
  have hsz5 : zm.cs.size = Array.size (Mv.cs { m with d := .slice da D.length dc, h := .slice ha hn hc }) := by rw [zm_ok.size, ok5.size]
  have HE : Hid (MB (X6.setRow (w.heap.size + 1) (Mv.cs { m with d := .slice da D.length dc, h := .slice ha hn hc })) (w.heap.size + 1) { m with d := .slice da D.length dc, h := .slice ha hn hc } ∧ OMg w.heap.size (X6.setRow (w.heap.size + 1) (Mv.cs { m with d := .slice da D.length dc, h := .slice ha hn hc })) ⟨{ m with d := .slice da D.length dc, h := .slice ha hn hc }, D, hb⟩ ∧ Below w.heap.size w (X6.setRow (w.heap.size + 1) (Mv.cs { m with d := .slice da D.length dc, h := .slice ha hn hc }))) := by
    refine ⟨H5.out.1.setRow, ⟨ok5, ?_, ?_, HM.out.dl, HM.out.hl⟩, belowSetRow H5.out.2.2.1 (by omega) _⟩
    · exact ownsRow_mono (ownsRow_keepB H5.out.2.2.2.1 (fun k hk _ => setRow_other _ _ _ _ (by omega))) (by omega)
    · obtain ⟨n, e1, e2⟩ := H5.out.2.2.2.2
      exact ⟨n, e1, ownsRow_mono (ownsRow_keepB e2 (fun k hk _ => setRow_other _ _ _ _ (by omega))) (by omega)⟩
  have HK : Hid (Mv.ok { m with d := .slice da D.length dc, h := .slice ha hn hc }) := ok5
  clear ok5 H5
  generalize hmm : ({ m with d := .slice da D.length dc, h := .slice ha hn hc } : Mv) = M at *
  have HMM : Hid (({ m with d := .slice da D.length dc, h := .slice ha hn hc } : Mv) = M) := hmm
  clear hmm
  go_wp2_with (first | (refine wpList_load_row rfl 47 _ rfl (w.heap.size + 2) rfl 47 M.cs (0, 0) _ l2 Tryd.underlying47 rfl him5 ?_) | (refine wpList_store_row rfl 47 _ _ rfl (w.heap.size + 1) M.cs rfl rfl 47 zm.cs l1 him5 hsz5 hone5 ?_))
  exact bodyPost_ret (results_msg Tryd.results32 _ _ (w.heap.size + 1) M rfl HE.out.1 HK.out) rfl ⟨_, _, by rw [HMM.out], by rw [HMM.out]; exact HE.out.2.1, HE.out.2.2⟩
set_option maxHeartbeats 1000000 in
theorem wrapR_yes (v : Value) (l : List UInt8) (hl : l.length ≤ 32768) (w : World) (hr : RB w v l) :
    Calls Tryd.prog 34 #[v] w fun e w' => ∃ v', e = .returned (.tuple #[v', .int .i64 0]) ∧ OW w.heap.size w' v' (frm l) ∧ Below w.heap.size w w' := by
  have HR : Hid (RB w v l) := hr
  obtain ⟨a, c, rfl, hr⟩ := hr
  have HL : Hid (l.length ≤ 32768) := hl
  clear hr
  have HC := be4_cells l.length
  have HO : OW w.heap.size (w.alloc (.cells (bc (be4 l.length)) 5)) (.slice (some ⟨w.heap.size, 0, none⟩) 4 4) (be4 l.length) := OW.of_block (l := be4 l.length) (Nat.le_refl _) (heapNew _ _) rfl rfl (Nat.le_refl _) (by rw [be4_len]; decide)
  have HB : Hid (Below w.heap.size w (w.alloc (.cells (bc (be4 l.length)) 5)) ∧ RB (w.alloc (.cells (bc (be4 l.length)) 5)) (.slice a l.length c) l) := ⟨(Below.refl _ _).alloc (Nat.le_refl _) _, HR.out.keep ((Below.refl _ _).alloc (Nat.le_refl _) _)⟩
  rw [← HC] at HO HB
  have HO' : Hid _ := HO
  have HF : Hid (frm l = be4 l.length ++ l) := rfl
  clear HO HC HR
  have HN : Hid ((be4 l.length).length + l.length ≤ 140737488351232) := by rw [be4_len]; unfold Hid; omega
  go_enter Tryd.func34, Tryd.ntmps34
  go_wp2_with (at_builtin; refine append_bytes rfl _ _ rfl rfl HO'.out rfl HB.out.2 (by simp) HN.out ?_; intro v' w1 hown' hb1)
  have HE : Hid (OW w.heap.size w1 v' (frm l) ∧ Below w.heap.size w w1) := ⟨hown', HB.out.1.trans hb1⟩
  clear hown' hb1
  go_wp2
  go_ret2
  exact ⟨_, rfl, HE.out⟩
end Go.Proofs.YtbnnfpjgjieaeaaDoor
