import Derived.Test.YtpembmfpgolniaaDoorTl
import Derived.Deep.RegionHeld3
namespace Go.Proofs.YtpembmfpgolniaaDoor
open Go.RowKit
theorem take_hash (hb : List UInt8) (k : Nat) : hb.take ((k + 1) * 32) = hb.take (k * 32) ++ (hb.drop (k * 32)).take 32 := by
  rw [show (k + 1) * 32 = k * 32 + 32 by omega, List.take_add]
theorem zeros_hash (n : Nat) : madeCells (Value.agg (bc (zr 32))).cells (n * 32) = bc (zr (n * 32)) := by
  apply Array.ext'
  apply List.ext_getElem?
  intro i
  have h32 : (Value.agg (bc (zr 32))).cells = bc (zr 32) := rfl
  rw [h32]
  by_cases h : i < n * 32
  · rw [bc_list, bcl_get _ i (by rw [zr_len]; exact h)]
    have e1 : byt (zr (n * 32)) i = 0 := by unfold byt zr; simp [List.getD, h]
    have e2 : (bc (zr 32))[i % 32]? = some (.int .u8 0) := zr_get 32 (i % 32) (by omega)
    have hs : (bc (zr 32)).size = 32 := rfl
    rw [e1]
    generalize bc (zr 32) = Z at *
    simp [madeCells, h, hs]
    rw [Array.getElem!_eq_getD, Array.getD_eq_getD_getElem?, e2]
    rfl
  · rw [List.getElem?_eq_none (by simp [size_madeCells]; omega), List.getElem?_eq_none (by rw [bc_list, bcl_len, zr_len]; omega)]
theorem make_hashes (n : Nat) (hn : n * 32 ≤ 140737488351232) (u : World) : (Instr.makeSlice 25 (.int .i64 (n : Int)) (.int .i64 (n : Int))).run Tryd.prog u = .ok (.slice (some ⟨u.heap.size, 0, none⟩) n n) (u.alloc (.cells (bc (zr (n * 32))) 24)) := by
  obtain ⟨i0, hi, hz0, hz1, hz2⟩ := info_parts info_hashP
  have h := run_make (P := Tryd.prog) u 25 24 i0 (.agg (bc (zr 32))) Tryd.underlying25 hi hz0 .i64 .i64 (n : Int) (n : Int) (by omega) (by omega) (by rw [hz2]; omega) (by omega)
  rw [← zeros_hash]
  simpa [hz1] using h
/-- what takeHashes leaves -/
def THR (w w' : World) (e : Ending) (g n : Nat) (m : Mv) (l : List UInt8) : Prop := e = .returned (.slice none 0 0) ∧ MB w' g { m with h := .slice (some ⟨w.heap.size, 0, none⟩) n n } ∧ w'.heap[w.heap.size]? = some (.cells (bc l) 24 (0, 0)) ∧ Besides g w w'
set_option maxHeartbeats 2000000 in
set_option maxRecDepth 100000 in
theorem takeHashesT (w : World) (g n : Nat) (m : Mv) (ok : m.ok) (hm : MB w g m) (v : Value) (l : List UInt8) (hl : l.length = n * 32) (hl2 : l.length ≤ 1000000) (hr : RB w v l) (hbg : 0 < n → ∀ b o c, v = .slice (some ⟨b, o, none⟩) (n * 32) c → b ≠ g) :
    Calls Tryd.prog 76 #[ptr g, v] w fun e w' => THR w w' e g n m l := by
  have hmk := make_hashes n (by omega)
  have hglt := hm.lt
  have a39 := (heapOld w (.cells (bc (zr (n * 32))) 24) g hglt)
  have b0 : Below w.heap.size w (w.alloc (.cells (bc (zr (n * 32))) 24)) := (Below.refl _ _).alloc (Nat.le_refl _) _
  have m1 : MB (w.alloc (.cells (bc (zr (n * 32))) 24)) g m := hm.below b0
  have c39 := m1.c39 ok
  have f39 := m1.free 39
  have HX : Hid (MB ((w.setCell ⟨g, 39, none⟩ (.slice (some ⟨w.heap.size, 0, none⟩) n n)).alloc (.cells (bc (zr (n * 32))) 24)) g { m with h := .slice (some ⟨w.heap.size, 0, none⟩) n n } ∧ ((w.setCell ⟨g, 39, none⟩ (.slice (some ⟨w.heap.size, 0, none⟩) n n)).alloc (.cells (bc (zr (n * 32))) 24)).heap[w.heap.size]? = some (.cells (bc (zr (n * 32))) 24 (0, 0)) ∧ Besides g w ((w.setCell ⟨g, 39, none⟩ (.slice (some ⟨w.heap.size, 0, none⟩) n n)).alloc (.cells (bc (zr (n * 32))) 24))) := by
    have bb : Below (w.setCell ⟨g, 39, none⟩ (.slice (some ⟨w.heap.size, 0, none⟩) n n)).heap.size (w.setCell ⟨g, 39, none⟩ (.slice (some ⟨w.heap.size, 0, none⟩) n n)) ((w.setCell ⟨g, 39, none⟩ (.slice (some ⟨w.heap.size, 0, none⟩) n n)).alloc (.cells (bc (zr (n * 32))) 24)) := (Below.refl _ _).alloc (Nat.le_refl _) _
    exact ⟨(hm.set 39 _ (Mv.set39 ok _)).below bb, heapLast _ _ (by simp), (Besides.setCell _ _ _ _).trans (Besides.of_below bb)⟩
  have HR : Hid (RB w v l ∧ l.length = n * 32) := ⟨hr, hl⟩
  obtain ⟨a, c, rfl, hc⟩ : ∃ a c, v = .slice a l.length c ∧ l.length ≤ c := by
    obtain ⟨a, c, e, h, _⟩ := id hr
    exact ⟨a, c, e, h⟩
  have hq : ((n : Int) * 32) / 32 = (n : Int) := by omega
  rw [hl] at hc hl2 hbg ⊢
  have HG : Hid (0 < n → ∀ b o c', Value.slice a (n * 32) c = .slice (some ⟨b, o, none⟩) (n * 32) c' → b ≠ g) := hbg
  clear hbg
  clear hm m1 b0 a39 hr
  go_enter Tryd.func76, Tryd.ntmps76
  go_upto_region 2 with fail
  generalize ((w.setCell ⟨g, 39, none⟩ (.slice (some ⟨w.heap.size, 0, none⟩) n n)).alloc (.cells (bc (zr (n * 32))) 24)) = X at *
  clear hmk c39 f39
  have ok2 : Mv.ok { m with h := .slice (some ⟨w.heap.size, 0, none⟩) n n } := ⟨ok.r, ok.d, ⟨_, _, _, rfl⟩⟩
  have c39 : X.cell? ⟨g, 39, none⟩ = some (.slice (some ⟨w.heap.size, 0, none⟩) n n) := HX.out.1.c39 ok2
  go_wp2
  go_loopw [18] (fun t wr => ∃ k : Nat, k ≤ n ∧ t = .int .i64 k ∧ Hid (MB wr g { m with h := .slice (some ⟨w.heap.size, 0, none⟩) n n } ∧ wr.heap[w.heap.size]? = some (.cells (bc (l.take (k * 32) ++ zr ((n - k) * 32))) 24 (0, 0)) ∧ Besides g w wr)) (fun t _ => n - (intOf t).toNat)
  case atStart => exact ⟨0, by omega, rfl, HX.out.1, by simpa using HX.out.2.1, HX.out.2.2⟩
  case round =>
    obtain ⟨k, hk, rfl, hI⟩ := hrel
    by_cases hlt : k < n
    · have hpos : 0 < l.length := by have := HR.out.2; omega
      obtain ⟨b, o, c', e, _, hcell⟩ := HR.out.1.cells hpos
      simp only [HR.out.2, Value.slice.injEq, true_and] at e
      obtain ⟨rfl, rfl⟩ := e
      have hblt : b < w.heap.size := World.block_lt_of_cell? w _ (hcell 0 hpos)
      have hI39 : wr.drew.cell? ⟨g, 39, none⟩ = some (.slice (some ⟨w.heap.size, 0, none⟩) n n) := hI.out.1.c39 ok2
      have l32 : ((l.drop (k * 32)).take 32).length = 32 := by rw [List.length_take, List.length_drop]; omega
      have hlk : (l.take (k * 32)).length = k * 32 := by rw [List.length_take]; omega
      have hcp : (Builtin.copy_ #[22, 22] 3 #[.slice (some ⟨w.heap.size, k * 32, none⟩) 32 32, .slice (some ⟨b, o + k * 32, none⟩) (n * 32 - k * 32) (c - k * 32)]).run Tryd.prog wr.drew = .ok (goInt 32) (wr.drew.setRow w.heap.size (bc (l.take ((k + 1) * 32) ++ zr ((n - (k + 1)) * 32)))) := by
        have h1 := copy_row wr.drew 3 w.heap.size (k * 32) 32 32 b (o + k * 32) (n * 32 - k * 32) (c - k * 32) (l.take (k * 32) ++ zr ((n - k) * 32)) ((l.drop (k * 32)).take 32) 24 hI.out.2.1 (by rw [l32]; exact (Nat.min_eq_right (by omega)).symm)
          (fun i hi => by
            rw [l32] at hi
            rw [byt_take _ _ _ hi, byt_drop, Nat.add_assoc]
            exact (World.cell?_of_block (w := w) (hI.out.2.2.block b hblt (HG.out (by omega) _ _ _ rfl))).trans (hcell (k * 32 + i) (by omega)))
          (by rw [l32, List.length_append, hlk, zr_len]; omega)
        rw [h1, l32]
        have e : (l.take (k * 32) ++ zr ((n - k) * 32)).take (k * 32) ++ (l.drop (k * 32)).take 32 ++ (l.take (k * 32) ++ zr ((n - k) * 32)).drop (k * 32 + 32) = l.take ((k + 1) * 32) ++ zr ((n - (k + 1)) * 32) := by
          rw [splice_at hlk l32, take_hash]
          congr 1
          unfold zr
          rw [List.drop_replicate]
          congr 1
          omega
        rw [e]
        rfl
      have hS2 : (wr.drew.setRow w.heap.size (bc (l.take ((k + 1) * 32) ++ zr ((n - (k + 1)) * 32)))).cell? ⟨g, 39, none⟩ = some (.slice (some ⟨w.heap.size, 0, none⟩) n n) := (World.cell?_of_block (w := wr.drew) (by show (World.setRow _ _ _).heap[g]? = _; exact setRow_other _ _ _ _ (Nat.ne_of_lt hglt))).trans hI39
      have HE : Hid (MB (wr.drew.setRow w.heap.size (bc (l.take ((k + 1) * 32) ++ zr ((n - (k + 1)) * 32)))) g { m with h := .slice (some ⟨w.heap.size, 0, none⟩) n n } ∧ (wr.drew.setRow w.heap.size (bc (l.take ((k + 1) * 32) ++ zr ((n - (k + 1)) * 32)))).heap[w.heap.size]? = some (.cells (bc (l.take ((k + 1) * 32) ++ zr ((n - (k + 1)) * 32))) 24 (0, 0)) ∧ Besides g w (wr.drew.setRow w.heap.size (bc (l.take ((k + 1) * 32) ++ zr ((n - (k + 1)) * 32))))) := by
        have bb : Besides w.heap.size wr.drew (wr.drew.setRow w.heap.size (bc (l.take ((k + 1) * 32) ++ zr ((n - (k + 1)) * 32)))) := Besides.setRow _ _ _
        have m2 : MB wr.drew g { m with h := .slice (some ⟨w.heap.size, 0, none⟩) n n } := hI.out.1
        refine ⟨m2.besides bb (by omega), heapSetRow _ _ _ _ _ hI.out.2.1, ⟨hI.out.2.2.os, hI.out.2.2.tape, hI.out.2.2.output, Nat.le_trans hI.out.2.2.size bb.size, fun j hj hne => ?_⟩⟩
        exact (setRow_other _ _ _ _ (by omega)).trans (hI.out.2.2.block j hj hne)
      go_wp2
      refine wp_region_held_drew (S := fun u => u.cell? ⟨g, 39, none⟩ = some (.slice (some ⟨w.heap.size, 0, none⟩) n n)) (by kernel_rfl) (hI39) (fun hHeld => ?_)
      refine wpAnyH_take (i := 0) (v := ptr g) rfl (by kernel_rfl) (by kernel_rfl) (by kernel_rfl) (fun _ _ _ h => h) (Or.inl ⟨by rfl, fun w hw => by go_simp⟩) hHeld ?_
      simp only [Act.put, List.getElem_toArray, List.getElem_cons_zero, List.setIfInBounds_toArray, List.set_cons_zero, List.set_cons_succ]
      refine wpAnyH_take (i := 1) (v := ptr g) rfl (by kernel_rfl) (by kernel_rfl) (by kernel_rfl) (fun _ _ _ h => h) (Or.inl ⟨by rfl, fun w hw => by go_simp⟩) hHeld ?_
      simp only [Act.put, List.getElem_toArray, List.getElem_cons_zero, List.getElem_cons_succ, List.setIfInBounds_toArray, List.set_cons_zero, List.set_cons_succ]
      refine wpAnyH_take (i := 2) (v := .pointer (some ⟨g, 39, none⟩)) rfl (by kernel_rfl) (by kernel_rfl) (by kernel_rfl) (fun _ _ _ h => h) (Or.inl ⟨by rfl, fun w hw => by go_simp⟩) hHeld ?_
      simp only [Act.put, List.getElem_toArray, List.getElem_cons_zero, List.getElem_cons_succ, List.setIfInBounds_toArray, List.set_cons_zero, List.set_cons_succ]
      refine wpAnyH_take (i := 3) (v := .slice (some ⟨w.heap.size, 0, none⟩) n n) rfl (by kernel_rfl) (by kernel_rfl) (by kernel_rfl) (fun _ _ _ h => h) (Or.inl ⟨by rfl, fun w hw => by have hw2 : w.cell? ⟨g, 39, none⟩ = _ := hw; go_simp⟩) hHeld ?_
      simp only [Act.put, List.getElem_toArray, List.getElem_cons_zero, List.getElem_cons_succ, List.setIfInBounds_toArray, List.set_cons_zero, List.set_cons_succ]
      refine wpAnyH_take (i := 4) (v := .int .i64 k) rfl (by kernel_rfl) (by kernel_rfl) (by kernel_rfl) (fun _ _ _ h => h) (Or.inl ⟨by rfl, fun w hw => by go_simp⟩) hHeld ?_
      simp only [Act.put, List.getElem_toArray, List.getElem_cons_zero, List.getElem_cons_succ, List.setIfInBounds_toArray, List.set_cons_zero, List.set_cons_succ]
      refine wpAnyH_take (i := 5) (v := .pointer (some ⟨w.heap.size, k * 32, none⟩)) rfl (by kernel_rfl) (by kernel_rfl) (by kernel_rfl) (fun _ _ _ h => h) (Or.inl ⟨by rfl, fun w hw => by go_simp⟩) hHeld ?_
      simp only [Act.put, List.getElem_toArray, List.getElem_cons_zero, List.getElem_cons_succ, List.setIfInBounds_toArray, List.set_cons_zero, List.set_cons_succ]
      refine wpAnyH_take (i := 6) (v := .slice (some ⟨w.heap.size, k * 32, none⟩) 32 32) rfl (by kernel_rfl) (by kernel_rfl) (by kernel_rfl) (fun _ _ _ h => h) (Or.inl ⟨by rfl, fun w hw => by go_simp⟩) hHeld ?_
      simp only [Act.put, List.getElem_toArray, List.getElem_cons_zero, List.getElem_cons_succ, List.setIfInBounds_toArray, List.set_cons_zero, List.set_cons_succ]
      refine wpAnyH_take (i := 7) (v := .slice (some ⟨b, o, none⟩) (n * 32) c) rfl (by kernel_rfl) (by kernel_rfl) (by kernel_rfl) (fun _ _ _ h => h) (Or.inl ⟨by rfl, fun w hw => by go_simp⟩) hHeld ?_
      simp only [Act.put, List.getElem_toArray, List.getElem_cons_zero, List.getElem_cons_succ, List.setIfInBounds_toArray, List.set_cons_zero, List.set_cons_succ]
      refine wpAnyH_take (i := 8) (v := .int .i64 k) rfl (by kernel_rfl) (by kernel_rfl) (by kernel_rfl) (fun _ _ _ h => h) (Or.inl ⟨by rfl, fun w hw => by go_simp⟩) hHeld ?_
      simp only [Act.put, List.getElem_toArray, List.getElem_cons_zero, List.getElem_cons_succ, List.setIfInBounds_toArray, List.set_cons_zero, List.set_cons_succ]
      refine wpAnyH_take (i := 9) (v := .int .i64 (k * 32)) rfl (by kernel_rfl) (by kernel_rfl) (by kernel_rfl) (fun _ _ _ h => h) (Or.inl ⟨by rfl, fun w hw => by go_simp; rw [IntKind.wrap_i64]; omega⟩) hHeld ?_
      simp only [Act.put, List.getElem_toArray, List.getElem_cons_zero, List.getElem_cons_succ, List.setIfInBounds_toArray, List.set_cons_zero, List.set_cons_succ]
      refine wpAnyH_take (i := 10) (v := .slice (some ⟨b, o + k * 32, none⟩) (n * 32 - k * 32) (c - k * 32)) rfl (by kernel_rfl) (by kernel_rfl) (by kernel_rfl) (fun _ _ _ h => h) (Or.inl ⟨by rfl, fun w hw => by go_simp; rw [show ((k : Int) * 32).toNat = k * 32 by omega, if_pos (by omega), if_neg (by omega)]⟩) hHeld ?_
      simp only [Act.put, List.getElem_toArray, List.getElem_cons_zero, List.getElem_cons_succ, List.setIfInBounds_toArray, List.set_cons_zero, List.set_cons_succ]
      refine wpAnyH_ready (rs := [11]) (by kernel_rfl) (by simp) ?_
      refine AllReadyH.cons (o := _) rfl (fun K hK => ?_) AllReadyH.nil
      go_simp
      refine hK.out _ _ hS2 (fun hHeld => ?_)
      clear hK K
      refine wpAnyH_done (by kernel_rfl) ?_ _
      go_wp2
      exact ⟨⟨k + 1, by omega, by go_num, HE.out⟩, by simp [intOf]; omega⟩
    · obtain rfl : k = n := by omega
      have HE : Hid (THR w wr (.returned (.slice none 0 0)) g k m l) := by
        refine ⟨rfl, hI.out.1, ?_, hI.out.2.2⟩
        have h1 := hI.out.2.1
        rw [Nat.sub_self, Nat.zero_mul, List.take_of_length_le (by have := HR.out.2; omega)] at h1
        simpa [zr] using h1
      go_wp2
      go_ret
      exact HE.out
end Go.Proofs.YtpembmfpgolniaaDoor
