import Derived.Test.YtpembmfpgolniaaDoorFo
import Derived.Test.YtpembmfpgolniaaDoorSz
import Derived.Deep.RegionHeld3
namespace Go.Proofs.YtpembmfpgolniaaDoor
open Go.RowKit
/-- the fields of a row -/
def Kr.cs (r : Kr) : List Nat := r.fs.takeWhile (· != 0)
/-- what is wrong with a message -/
def valE (m : Mv) : Int :=
  match rowFor m.k with
  | none => 110
  | some r => if frn (blks r.cs m) then 113 else if lks r.cs m then (if r.fit (szs r.cs m : Nat) then 0 else 111) else 112
theorem rowFor_mem {k : Int} {r : Kr} (h : rowFor k = some r) : r ∈ rws ∧ r.k = k := by
  unfold rowFor at h
  have h1 := List.mem_of_find?_eq_some h
  have h2 := List.find?_some h
  exact ⟨h1, by simpa using h2⟩
theorem rws_all : ∀ r ∈ rws, r.fs.length = 7 ∧ (∀ c ∈ r.fs, c ≤ 11) ∧ 1 ≤ r.st ∧ 0 ≤ r.le ∧ r.le ≤ 1000000 ∧ r.cs.length ≤ 7 := by decide
theorem MB.cells {w : World} {g : Nat} {m : Mv} (h : MB w g m) : w.heap[g]? = some (.cells m.cs 27 (0, 0)) := h
/-- what checked answers -/
def CKR (w w' : World) (m : Mv) (e : Ending) : Prop :=
  ∃ v, e = .returned (.tuple #[v, .int .i64 (valE m)]) ∧ (valE m = 0 → ∃ r, rowFor m.k = some r ∧ FS w' v r.cs ∧ lks r.cs m = true ∧ r.fit (szs r.cs m : Nat) = true ∧ frn (blks r.cs m) = false) ∧ Below w.heap.size w w'
set_option maxHeartbeats 1000000 in
set_option maxRecDepth 100000 in
theorem checkedT (w : World) (m : Mv) (ok : m.ok) (hk : KT w) (hh : sln m.h ≤ 140737488351232) (hd : sln m.d ≤ 140737488351232) :
    Calls Tryd.prog 23 #[.agg m.cs] w fun e w' => CKR w w' m e := by
  have hm : MB (w.alloc (.cells m.cs 27)) w.heap.size m := heapNew w _
  have b0 : Below w.heap.size w (w.alloc (.cells m.cs 27)) := (Below.refl _ _).alloc (Nat.le_refl _) _
  have lt0 : w.heap.size < (w.alloc (.cells m.cs 27)).heap.size := by simp
  have c0 := hm.c0
  have HA : Hid (KT (w.alloc (.cells m.cs 27)) ∧ MB (w.alloc (.cells m.cs 27)) w.heap.size m ∧ Below w.heap.size w (w.alloc (.cells m.cs 27)) ∧ w.heap.size < (w.alloc (.cells m.cs 27)).heap.size) := ⟨hk.below b0 hk.pos, hm, b0, lt0⟩
  have HO : Hid (m.ok ∧ sln m.h ≤ 140737488351232 ∧ sln m.d ≤ 140737488351232) := ⟨ok, hh, hd⟩
  clear hm b0 lt0 ok hk hh hd
  go_enter Tryd.func23, Tryd.ntmps23
  go_wp2_with fail
  generalize w.alloc (.cells m.cs 27) = w0 at *
  refine (rowOfT w0 m.k HA.out.1).mono ?_
  rintro e w1 ⟨rfl, b1⟩
  have HB : Hid (MB w1 w.heap.size m ∧ Below w.heap.size w w1 ∧ w.heap.size < w1.heap.size) := ⟨HA.out.2.1.below b1, HA.out.2.2.1.trans (b1.mono (Nat.le_of_lt HA.out.2.2.2)), Nat.lt_of_lt_of_le HA.out.2.2.2 b1.size⟩
  clear HA b1 c0
  have HG := heapNew w1 (.cells z11 51)
  cases hrf : rowFor m.k with
  | none =>
    have HE : Hid (valE m = 110) := by unfold Hid valE; rw [hrf]
    have hiz : (Tryd.prog.info? 51).map (·.size) = some zrow.ls.toArray.size := info_row
    have h1z : zrow.ls.toArray.all (·.oneCell') = true := row_one _
    clear hrf
    simp only [Option.getD_none, Option.isSome_none]
    go_wp2_with (first | (refine wpList_store_row rfl 51 _ _ rfl w1.heap.size zrow.ls.toArray rfl rfl 51 z11 HG hiz rfl h1z ?_))
    go_ret2
    exact ⟨_, by rw [HE.out]; rfl, fun h => by rw [HE.out] at h; simp at h, belowSetRow (HB.out.2.1.alloc (Nat.le_of_lt HB.out.2.2) _) (Nat.le_of_lt HB.out.2.2) _⟩
  | some r =>
    obtain ⟨hmem, hrk⟩ := rowFor_mem hrf
    obtain ⟨hf7, hf11, hst, hle, hle2, hcs⟩ := rws_all r hmem
    have hi := info_rowK r hf7
    have h1 := row_one r
    have hz : z11.size = r.ls.toArray.size := by simp [Kr.ls, rowL, fcs, hf7]
    have hG2 := heapSetRow _ _ _ r.ls.toArray _ HG
    simp only [Option.getD_some, Option.isSome_some]
    have HR : Hid (rowFor m.k = some r ∧ r.fs.length = 7 ∧ (∀ c ∈ r.fs, c ≤ 11) ∧ 1 ≤ r.st ∧ 0 ≤ r.le ∧ r.le ≤ 1000000 ∧ r.cs.length ≤ 7) := ⟨hrf, hf7, hf11, hst, hle, hle2, hcs⟩
    clear hrf hmem hrk hf7 hf11 hst hle hle2 hcs
    go_wp2_with (first | (refine wpList_store_row rfl 51 _ _ rfl w1.heap.size r.ls.toArray rfl rfl 51 z11 HG hi hz h1 ?_) | (refine wpList_load_row rfl 51 _ rfl w1.heap.size rfl 51 r.ls.toArray (0, 0) _ hG2 Tryd.underlying51 rfl hi ?_))
    have HX : Hid (MB ((w1.alloc (.cells z11 51)).setRow w1.heap.size r.ls.toArray) w.heap.size m ∧ Below w.heap.size w ((w1.alloc (.cells z11 51)).setRow w1.heap.size r.ls.toArray) ∧ w1.heap.size < ((w1.alloc (.cells z11 51)).setRow w1.heap.size r.ls.toArray).heap.size) := by
      refine ⟨?_, belowSetRow (HB.out.2.1.alloc (Nat.le_of_lt HB.out.2.2) _) (Nat.le_of_lt HB.out.2.2) _, (Array.getElem?_eq_some_iff.1 hG2).1⟩
      exact (HB.out.1.below ((Below.refl _ _).alloc (Nat.le_refl _) _)).besides (Besides.setRow _ _ _) (Nat.ne_of_lt HB.out.2.2)
    have HL : Hid (w.heap.size < w1.heap.size) := HB.out.2.2
    clear HG hz HB
    generalize (w1.alloc (.cells z11 51)).setRow w1.heap.size r.ls.toArray = X at *
    generalize hG : w1.heap.size = G at *
    clear hG w1 w0
    refine (madeT X r.k r.le r.mo r.st r.fs HR.out.2.1 HR.out.2.2.1).mono ?_
    rintro e w2 ⟨v, W, rfl, ho, bw, b2⟩
    replace ho : OFS W.heap.size W w2 v r.cs := ho
    have bX : Below X.heap.size X w2 := bw.trans (b2.mono bw.size)
    have HY : Hid (FS w2 v r.cs ∧ MB w2 w.heap.size m ∧ Below w.heap.size w w2 ∧ w.heap.size < w2.heap.size ∧ G < w2.heap.size) := by
      have hlt : w.heap.size < X.heap.size := Nat.lt_trans HL.out HX.out.2.2
      exact ⟨ho.fs b2, HX.out.1.below bX, HX.out.2.1.trans (bX.mono (Nat.le_of_lt hlt)), Nat.lt_of_lt_of_le hlt bX.size, Nat.lt_of_lt_of_le HX.out.2.2 bX.size⟩
    have hG3 := (bX.block G HX.out.2.2).trans hG2
    obtain ⟨va, vc, rfl⟩ := ho.form
    clear ho bw b2 bX hG2 HX HL
    have hmc := HY.out.2.1.cells
    have him := info_msg HO.out.1
    go_wp2_with (first | (refine wpList_load_row rfl 27 _ rfl w.heap.size rfl 27 m.cs (0, 0) _ hmc Tryd.underlying27 rfl him ?_))
    clear hmc him
    refine (foreignT w2 _ r.cs m HO.out.1 HY.out.1 (by have := HR.out.2.2.2.2.2.2; omega)).mono ?_
    rintro e w3 ⟨rfl, b3⟩
    have hG4 := (b3.block G HY.out.2.2.2.2).trans hG3
    have HZ : Hid (FS w3 (.slice va r.cs.length vc) r.cs ∧ MB w3 w.heap.size m ∧ Below w.heap.size w w3 ∧ w.heap.size < w3.heap.size ∧ G < w3.heap.size) := ⟨HY.out.1.below b3, HY.out.2.1.below b3, HY.out.2.2.1.trans (b3.mono (Nat.le_of_lt HY.out.2.2.2.1)), Nat.lt_of_lt_of_le HY.out.2.2.2.1 b3.size, Nat.lt_of_lt_of_le HY.out.2.2.2.2 b3.size⟩
    clear HY b3 hG3
    by_cases q1 : frn (blks r.cs m) = true
    · have HE : Hid (valE m = 113) := by unfold Hid valE; rw [HR.out.1]; simp [q1]
      rw [q1]
      go_wp2
      go_ret2
      exact ⟨_, by rw [HE.out]; rfl, fun h => by rw [HE.out] at h; simp at h, HZ.out.2.2.1⟩
    · have q1' : frn (blks r.cs m) = false := by simpa using q1
      rw [q1']
      clear q1
      have HQ : Hid (frn (blks r.cs m) = false) := q1'
      clear q1'
      go_wp2_with fail
      refine (allowedT w3 _ r.cs w.heap.size m HZ.out.2.1 HO.out.1 HZ.out.1 (by have := HR.out.2.2.2.2.2.2; omega)).mono ?_
      rintro e w4 ⟨rfl, b4⟩
      have hG5 := (b4.block G HZ.out.2.2.2.2).trans hG4
      have HV : Hid (FS w4 (.slice va r.cs.length vc) r.cs ∧ MB w4 w.heap.size m ∧ Below w.heap.size w w4 ∧ w.heap.size < w4.heap.size ∧ G < w4.heap.size) := ⟨HZ.out.1.below b4, HZ.out.2.1.below b4, HZ.out.2.2.1.trans (b4.mono (Nat.le_of_lt HZ.out.2.2.2.1)), Nat.lt_of_lt_of_le HZ.out.2.2.2.1 b4.size, Nat.lt_of_lt_of_le HZ.out.2.2.2.2 b4.size⟩
      clear HZ b4 hG4
      by_cases q2 : lks r.cs m = true
      · rw [q2]
        have HQ2 : Hid (lks r.cs m = true) := q2
        clear q2
        have hiL : (Tryd.prog.info? 51).map (·.size) = some r.ls.length := hi
        have hsz9 : ((szs r.cs m : Nat) : Int) ≤ 1152921504606846976 := by
          have h1 := szs_le r.cs m HO.out.2.1 HO.out.2.2
          have h2 := HR.out.2.2.2.2.2.2
          have h3 := Nat.mul_le_mul_right 4503599627239424 h2
          omega
        go_wp2
        refine wp_region_held_drew (S := fun u => u.rangeAt G 0 r.ls) (by kernel_rfl) (rangeOf hG5) (fun hHeld => ?_)
        refine wpAnyH_take (i := 0) (v := _) rfl (by kernel_rfl) (by kernel_rfl) (by kernel_rfl) (fun _ _ _ h => h) (yieldsIf_load_mid (by rfl) _ _ rfl _ _ rfl _ _ (fun _ h => h) Tryd.underlying51 rfl hiL) hHeld ?_
        simp only [Act.put, List.getElem_toArray, List.getElem_cons_zero, List.setIfInBounds_toArray, List.set_cons_zero, List.set_cons_succ]
        refine wpAnyH_take (i := 1) (v := .slice va r.cs.length vc) rfl (by kernel_rfl) (by kernel_rfl) (by kernel_rfl) (fun _ _ _ h => h) (Or.inl ⟨by rfl, fun w hw => by go_simp⟩) hHeld ?_
        simp only [Act.put, List.getElem_toArray, List.getElem_cons_zero, List.getElem_cons_succ, List.setIfInBounds_toArray, List.set_cons_zero, List.set_cons_succ]
        refine wpAnyH_ready (rs := [2]) (by kernel_rfl) (by simp) ?_
        refine AllReadyH.cons (o := _) rfl (fun K hK => ?_) AllReadyH.nil
        go_simp
        refine (sizeT w4.drew _ r.cs w.heap.size m HV.out.2.1 HO.out.1 HV.out.1 (by have := HR.out.2.2.2.2.2.2; omega) HO.out.2.1 HO.out.2.2).mono ?_
        rintro e w' ⟨rfl, b5⟩
        have b5' : Below w4.heap.size w4 w' := ⟨b5.os, b5.tape, b5.output, b5.size, b5.block⟩
        have HU : Hid (FS w' (.slice va r.cs.length vc) r.cs ∧ MB w' w.heap.size m ∧ Below w.heap.size w w' ∧ w.heap.size < w'.heap.size ∧ w'.heap[G]? = some (.cells r.ls.toArray 51 (0, 0)) ∧ G < w'.heap.size) := ⟨HV.out.1.below b5', HV.out.2.1.below b5', HV.out.2.2.1.trans (b5'.mono (Nat.le_of_lt HV.out.2.2.2.1)), Nat.lt_of_lt_of_le HV.out.2.2.2.1 b5'.size, (b5'.block G HV.out.2.2.2.2).trans hG5, Nat.lt_of_lt_of_le HV.out.2.2.2.2 b5.size⟩
        clear b5 b5'
        go_wp2_with fail
        refine hK.out _ _ (rangeOf HU.out.2.2.2.2.1) (fun hHeld => ?_)
        clear hK K
        refine wpAnyH_ready (rs := [3]) (by kernel_rfl) (by simp) ?_
        refine AllReadyH.cons (o := _) rfl (fun K hK => ?_) AllReadyH.nil
        go_simp
        refine (fitsT w' r (szs r.cs m : Nat) (by omega) hsz9 HR.out.2.2.2.1 HR.out.2.2.2.2.1 HR.out.2.2.2.2.2.1).mono ?_
        rintro e w6 ⟨rfl, b6⟩
        have HT : Hid (FS w6 (.slice va r.cs.length vc) r.cs ∧ Below w.heap.size w w6 ∧ True ∧ w6.heap[G]? = some (.cells r.ls.toArray 51 (0, 0))) := ⟨HU.out.1.below b6, HU.out.2.2.1.trans (b6.mono (Nat.le_of_lt HU.out.2.2.2.1)), trivial, (b6.block G HU.out.2.2.2.2.2).trans HU.out.2.2.2.2.1⟩
        clear b6 HU
        go_wp2_with fail
        refine hK.out _ _ (rangeOf HT.out.2.2.2) (fun hHeld => ?_)
        clear hK K
        refine wpAnyH_ready (rs := [4]) (by kernel_rfl) (by simp) ?_
        refine AllReadyH.cons (o := _) rfl (fun K hK => ?_) AllReadyH.nil
        go_simp
        refine hK.out _ _ hHeld (fun hHeld => ?_)
        clear hK K
        refine wpAnyH_ready (rs := [5]) (by kernel_rfl) (by simp) ?_
        refine AllReadyH.cons (o := _) rfl (fun K hK => ?_) AllReadyH.nil
        go_simp
        refine hK.out _ _ hHeld (fun hHeld => ?_)
        clear hK K
        refine wpAnyH_done (by kernel_rfl) ?_ _
        by_cases q3 : r.fit (szs r.cs m : Nat) = true
        · have HE : Hid (valE m = 0) := by unfold Hid valE; rw [HR.out.1]; simp [HQ.out, HQ2.out, q3]
          have HQ3 : Hid (r.fit (szs r.cs m : Nat) = true) := q3
          rw [q3]
          clear q3
          go_wp2
          go_ret2
          exact ⟨_, by rw [HE.out]; rfl, fun _ => ⟨r, HR.out.1, HT.out.1, HQ2.out, HQ3.out, HQ.out⟩, HT.out.2.1⟩
        · have q3' : r.fit (szs r.cs m : Nat) = false := by simpa using q3
          have HE : Hid (valE m = 111) := by unfold Hid valE; rw [HR.out.1]; simp [HQ.out, HQ2.out, q3']
          rw [q3']
          clear q3 q3'
          go_wp2
          go_ret2
          exact ⟨_, by rw [HE.out]; rfl, fun h => by rw [HE.out] at h; simp at h, HT.out.2.1⟩
      · have q2' : lks r.cs m = false := by simpa using q2
        have HE : Hid (valE m = 112) := by unfold Hid valE; rw [HR.out.1]; simp [HQ.out, q2']
        rw [q2']
        go_wp2
        go_ret2
        exact ⟨_, by rw [HE.out]; rfl, fun h => by rw [HE.out] at h; simp at h, HV.out.2.2.1⟩
end Go.Proofs.YtpembmfpgolniaaDoor
