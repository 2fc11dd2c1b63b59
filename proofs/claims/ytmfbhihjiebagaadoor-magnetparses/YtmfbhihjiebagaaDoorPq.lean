import Derived.Test.YtmfbhihjiebagaaDoorPp
namespace Go.Proofs.YtmfbhihjiebagaaDoor
open Go.Shelf Go.RowKit Go.Deep
theorem RDg.rq {K : Nat → Prop} {B b : Nat} {w wr : World} {p : Ps} {t2 p2 o2 m2 : Value} {ah : Nat} (h : RDg K B b w wr p t2 p2 o2 m2 ah) (n1 : p.ts.length ≤ 4096) (n2 : p.ps.length ≤ 4096) (n4 : p.mo.length ≤ 4096) : RQ B b wr p t2 p2 m2 ah := by
  obtain ⟨h1, h2, h3, h4, h5, h6, h7⟩ := h
  exact ⟨h2.cell h6 1, h2.cell h6 2, h2.cell h6 4, h2.cell h6 5, h3.o1, h3.o2, h3.o4, n1, n2, n4⟩
theorem RDg.putRs {K : Nat → Prop} {B b : Nat} {w wr : World} {p : Ps} {t2 p2 o2 m2 v : Value} {ah : Nat} {rs : List (Int × Int)} (h : RDg K B b w wr p t2 p2 o2 m2 ah) (h8 : LO B wr { p with rs := rs } t2 p2 v m2) (hv : ∀ g, (g = b ∨ K g) → v.ownBlock ≠ some g) : RDg K B b w (wr.setCell ⟨b, 35, none⟩ v) { p with rs := rs } t2 p2 v m2 ah := by
  obtain ⟨h1, h2, h3, h4, h5, h6, h7⟩ := h
  have NH : NoB b t2 p2 v m2 := ⟨h4.1, h4.2.1, hv b (.inl rfl), h4.2.2.2⟩
  refine ⟨h1.setCell (by show B ≤ b; exact h5) _, ?_, h8.keep fun g hn => Below.heap_setCell _ _ _ _ (fun e => hn (e ▸ NH)), NH, h5, h6, fun g hg => ?_⟩
  · have h9 := setAt h2 35 v
    rw [(rdC_set h6 _ ⟨#[]⟩ _ _ _ _ v _ 0).2.2.2.1] at h9
    exact h9
  · obtain ⟨k1, k2, k3, k4⟩ := h7 g hg
    exact ⟨k1, k2, (Below.heap_setCell _ _ _ _ (by show g ≠ b; exact k1)).trans k3, ⟨k4.1, k4.2.1, hv g (.inr hg), k4.2.2.2⟩⟩
theorem rdC_info {l h : List UInt8} (hl : l.length = 32) (hh : h.length = 32) (nm : ByteArray) (tr pe on mo : Value) (ah : Nat) : putAt (rdC l nm tr pe on mo ah) 0 (bc h).toList = rdC h nm tr pe on mo ah := by
  have h9 := putAt_app (Lib.byteCells h) (Lib.byteCells l) [] [.string nm, tr, pe, on, mo, .int .i64 (ah : Int)] (by simp [Lib.byteCells, hl, hh])
  simpa [rdC, bc] using h9
theorem RDg.putH {K : Nat → Prop} {B b : Nat} {w wr : World} {p : Ps} {t2 p2 o2 m2 : Value} {ah : Nat} {h : List UInt8} (J : RDg K B b w wr p t2 p2 o2 m2 ah) (hh : h.length = 32) : RDg K B b w (wr.setCells b 0 (bc h).toList) { p with h := h } t2 p2 o2 m2 ah := by
  obtain ⟨h1, h2, h3, h4, h5, h6, h7⟩ := J
  have l1 := h2.lt
  have ls := h1.size
  have ho : ∀ g, g < wr.heap.size → g ≠ b → (wr.setCells b 0 (bc h).toList).heap[g]? = wr.heap[g]? := fun g hg hne => World.heap_setCells_other _ _ _ _ hg hne
  refine ⟨below_setCells h5 _ _ _ h1, ?_, ?_, h4, h5, hh, fun g hg => ?_⟩
  · have h9 := setCells_at (bc h).toList 0 wr _ h2
    rw [rdC_info h6 hh] at h9
    exact h9
  · have h9 := h3.keep (w' := wr.setCells b 0 (bc h).toList) fun g hn => by
      by_cases hl : g < wr.heap.size
      · exact ho g hl (fun e => hn (e ▸ h4))
      · exact absurd (h3.nob (g := g) (by omega)) hn
    exact ⟨h9.o1, h9.o2, h9.o3, h9.o4, h9.d1, h9.d2, h9.d3, h9.d4, h9.d5, h9.d6⟩
  · obtain ⟨k1, k2, k3, k4⟩ := h7 g hg
    exact ⟨k1, k2, (ho g (by omega) k1).trans k3, k4⟩
end Go.Proofs.YtmfbhihjiebagaaDoor
