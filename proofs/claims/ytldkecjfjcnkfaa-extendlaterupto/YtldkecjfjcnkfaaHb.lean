import Derived.Test.YtldkecjfjcnkfaaHa
import Derived.Test.YtldkecjfjcnkfaaGj
import Derived.OwnWalk
namespace Go.Proofs.Ytldkecjfjcnkfaa
open Go.RowKit Go.Deep
def ltN (a x : ByteArray × Int) : Bool := Op.bytesLess a.1.toList x.1.toList
def eqN (a x : ByteArray × Int) : Bool := a.1.toList == x.1.toList
def mgN (ns ms : List (ByteArray × Int)) : List (ByteArray × Int) := mg ltN eqN ns ms
/-- names as they lie, in a slice that may be cut -/
def SN (w : World) (v : Value) (os : List (ByteArray × Int)) : Prop :=
  ∃ a c, v = .slice a os.length c ∧ os.length ≤ c ∧ (a = none → c = 0) ∧ (os = [] ∨ ∃ g o, a = some ⟨g, o, none⟩ ∧ g < w.heap.size ∧ ∀ i x, os[i]? = some x → w.cell? ⟨g, o + i * 2, none⟩ = some (.string x.1) ∧ w.cell? ⟨g, o + i * 2 + 1, none⟩ = some (.int .i64 x.2))
theorem sn_of {w : World} {v : Value} {os : List (ByteArray × Int)} (h : RNs w v os) (hc : capped v) : SN w v os := by
  obtain ⟨a, c, rfl, hx⟩ := h
  exact ⟨a, c, rfl, (hc _ _ _ rfl).1, (hc _ _ _ rfl).2, hx⟩
/-- the state of the laying over -/
def ST (B C : Nat) (w : World) (ns ms : List (ByteArray × Int)) (k : Nat) (ov av : Value) (wr : World) : Prop :=
  ∃ os acc, SN w ov os ∧ av = .slice (some ⟨B, 0, none⟩) acc.length C ∧ wr.ownsRow B 46 2 av acc.length (nsC acc) ∧ Below B w wr ∧ acc ++ mgN os (ms.drop k) = mgN ns ms ∧ acc.length + os.length + (ms.length - k) ≤ C
def lenOf : Value → Nat
  | .slice _ n _ => n
  | _ => 0
theorem below_grown {B : Nat} {w w1 w2 : World} (h : Below B w w1) (hg : w1.grownBy w2 (some B)) (hB : B ≤ w1.heap.size) : Below B w w2 := h.grown hg hB (fun k hk => by cases hk; exact Nat.le_refl _)
theorem drop_at {α : Type} {l : List α} {k : Nat} {x : α} (h : l[k]? = some x) : l.drop k = x :: l.drop (k + 1) := by
  obtain ⟨hk, rfl⟩ := List.getElem?_eq_some_iff.1 h
  exact (List.getElem_cons_drop (h := hk)).symm
/-- the same within a round, with the box of the later element -/
def IX (B C bx : Nat) (w : World) (ns ms : List (ByteArray × Int)) (k : Nat) (xs : ByteArray) (xi : Int) (os acc : List (ByteArray × Int)) (ov : Value) (wq : World) : Prop :=
  SN w ov os ∧ wq.ownsRow B 46 2 (.slice (some ⟨B, 0, none⟩) acc.length C) acc.length (nsC acc) ∧ Below B w wq ∧ acc ++ mgN os (ms.drop k) = mgN ns ms ∧ acc.length + os.length + (ms.length - k) ≤ C ∧ wq.heap[bx]? = some (.cells #[.string xs, .int .i64 xi] 46 (0, 0)) ∧ B < bx
def IN (B C bx : Nat) (w : World) (ns ms : List (ByteArray × Int)) (k : Nat) (xs : ByteArray) (xi : Int) (ov av : Value) (wq : World) : Prop :=
  ∃ os acc, av = .slice (some ⟨B, 0, none⟩) acc.length C ∧ IX B C bx w ns ms k xs xi os acc ov wq
/-- what a round reads -/
def SB (bx g o : Nat) (xs ah : ByteArray) (xi ai : Int) (x : World) : Prop :=
  x.cell? ⟨bx, 0, none⟩ = some (.string xs) ∧ x.cell? ⟨bx, 1, none⟩ = some (.int .i64 xi) ∧ x.cell? ⟨g, o, none⟩ = some (.string ah) ∧ x.cell? ⟨g, o + 1, none⟩ = some (.int .i64 ai)
theorem SB.keep {bx g o : Nat} {xs ah : ByteArray} {xi ai : Int} {x y : World} (h : SB bx g o xs ah xi ai x) (hb : Below x.heap.size x y) : SB bx g o xs ah xi ai y :=
  ⟨Below.cellS hb (Nat.le_refl _) h.1, Below.cellS hb (Nat.le_refl _) h.2.1, Below.cellS hb (Nat.le_refl _) h.2.2.1, Below.cellS hb (Nat.le_refl _) h.2.2.2⟩
section
variable {B C bx : Nat} {w : World} {ns ms : List (ByteArray × Int)} {k : Nat} {xs : ByteArray} {xi : Int} {os acc : List (ByteArray × Int)} {ov : Value} {x y z : World}
theorem IX.keep (h : IX B C bx w ns ms k xs xi os acc ov x) (hb : Below x.heap.size x y) : IX B C bx w ns ms k xs xi os acc ov y := by
  obtain ⟨h1, h3, h4, h5, h6, h7, h8⟩ := h
  have h9 := (Array.getElem?_eq_some_iff.1 h7).1
  exact ⟨h1, h3.kept (grown_of_below hb) (.inr (by simp [Value.ownBlock])), h4.trans (hb.mono (by omega)), h5, h6, (hb.block _ h9).trans h7, h8⟩
theorem IX.cells (h : IX B C bx w ns ms k xs xi os acc ov x) : x.cell? ⟨bx, 0, none⟩ = some (.string xs) ∧ x.cell? ⟨bx, 1, none⟩ = some (.int .i64 xi) := by
  have h7 := h.2.2.2.2.2.1
  exact ⟨by simp [World.cell?, h7], by simp [World.cell?, h7]⟩
theorem IX.put {a : ByteArray × Int} {ov' : Value} (h : IX B C bx w ns ms k xs xi (a :: os) acc ov x) (hlt : ltN a (xs, xi) = true) (hx : ms.drop k = (xs, xi) :: ms.drop (k + 1)) (hb : Below x.heap.size x y)
    (ho : z.ownsRow B 46 2 (.slice (some ⟨B, 0, none⟩) (acc.length + 1) C) (acc.length + 1) (nsC acc ++ nsC [a])) (hg : y.grownBy z (some B)) (hsn : SN w ov' os) : IX B C bx w ns ms k xs xi os (acc ++ [a]) ov' z := by
  obtain ⟨_, _, h4, h5, h6, h7, h8⟩ := h.keep hb
  have h9 := (Array.getElem?_eq_some_iff.1 h7).1
  refine ⟨hsn, ?_, below_grown h4 hg (by omega), ?_, by simp at h6 ⊢; omega, (hg.block _ h9 (by simp; omega)).trans h7, h8⟩
  · rw [nsC_app]; simpa using ho
  · rw [hx] at h5 ⊢
    rw [← h5, mgN, mgN, mg_lt _ _ hlt, List.append_assoc]; rfl
theorem IX.next {os2 : List (ByteArray × Int)} {ov' : Value} (h : IX B C bx w ns ms k xs xi os acc ov x) (hx : ms.drop k = (xs, xi) :: ms.drop (k + 1)) (hm : mgN os ((xs, xi) :: ms.drop (k + 1)) = (xs, xi) :: mgN os2 (ms.drop (k + 1))) (hl : os2.length ≤ os.length) (hk : k < ms.length) (hb : Below x.heap.size x y)
    (ho : z.ownsRow B 46 2 (.slice (some ⟨B, 0, none⟩) (acc.length + 1) C) (acc.length + 1) (nsC acc ++ nsC [(xs, xi)])) (hg : y.grownBy z (some B)) (hsn : SN w ov' os2) : ST B C w ns ms (k + 1) ov' (.slice (some ⟨B, 0, none⟩) (acc.length + 1) C) z := by
  obtain ⟨_, _, h4, h5, h6, h7, h8⟩ := h.keep hb
  have h9 := (Array.getElem?_eq_some_iff.1 h7).1
  refine ⟨os2, acc ++ [(xs, xi)], hsn, by simp, ?_, below_grown h4 hg (by omega), ?_, by simp; omega⟩
  · rw [nsC_app]; simpa using ho
  · rw [← h5, hx, hm, List.append_assoc]; rfl
end
/-- the rest of a list behind its first name -/
theorem SN.tl {w : World} {a : ByteArray × Int} {os : List (ByteArray × Int)} {g o c ol : Nat} (h : SN w (.slice (some ⟨g, o, none⟩) ol c) (a :: os)) : SN w (.slice (if c = 1 then some ⟨g, o, none⟩ else some ⟨g, o + 2, none⟩) (ol - 1) (c - 1)) os := by
  obtain ⟨a', c', e, hc, hn, hx⟩ := h
  cases e
  refine ⟨_, _, rfl, by simp at hc; omega, (fun e => by split at e <;> cases e), ?_⟩
  cases os with
  | nil => exact .inl rfl
  | cons b os =>
    rcases hx with hx | ⟨g', o', e, hg, hx⟩
    · cases hx
    · cases e
      rw [if_neg (by simp at hc; omega)]
      exact .inr ⟨g, o + 2, rfl, hg, fun i y hy => by
        have h9 := hx (i + 1) y (by simpa using hy)
        rw [show o + 2 + i * 2 = o + (i + 1) * 2 by omega]
        exact h9⟩
set_option maxHeartbeats 8000000 in
set_option maxRecDepth 100000 in
theorem laidOver34 (v1 v2 : Value) (ns ms : List (ByteArray × Int)) (w : World) (h1 : SN w v1 ns) (h2 : SN w v2 ms) (hl : ns.length + ms.length ≤ 2147483000) :
    Calls Try.prog 34 #[v1, v2, .func (Fn.func 35) #[] #[]] w fun e w' => ∃ v', e = .returned v' ∧ w'.ownsRow w.heap.size 46 2 v' (mgN ns ms).length (nsC (mgN ns ms)) ∧ Below w.heap.size w w' := by
  have HS1 := Lib.hid h1
  obtain ⟨a1, c1, rfl, hc1, hn1, hx1⟩ := h1
  obtain ⟨a2, c2, rfl, hc2, hn2, hx2⟩ := h2
  have HX2 := Lib.hid hx2
  obtain ⟨i0, hi, hz0, hz1, hz2⟩ := info_parts info46
  generalize hnn : ns.length = n at *
  generalize hmm : ms.length = m at *
  have HNN : Hid (ns.length = n ∧ ms.length = m) := ⟨hnn, hmm⟩
  clear hnn hmm hx1 hx2 hn1 hn2
  go_enter Try.func34, Try.ntmps34
  go_wp2_with (at_make; refine wpList_make_own _ rfl _ _ 32 rfl w.heap.size 46 i0 _ 2 Try.underlying32 hi hz0 hz1 .i64 .i64 _ (n + m) rfl rfl (by push_cast; rfl) (by rw [hz2]; omega) (by unfold maxLen; omega) (Nat.le_refl _) ?_; intro w1 hown hgrow; have HO : Hid (w1.ownsRow w.heap.size 46 2 (.slice (some ⟨w.heap.size, 0, none⟩) 0 (n + m)) 0 [] ∧ Below w.heap.size w w1) := ⟨hown, (Below.refl _ _).grown hgrow (Nat.le_refl _) (fun k hk => by cases hk)⟩; clear hown hgrow)
  go_loopw [0, 7, 18] (fun ov av t wr => ∃ k : Nat, k ≤ m ∧ t = .int .i64 k ∧ Hid (ST w.heap.size (n + m) w ns ms k ov av wr)) (fun _ _ t _ => m - (intOf t).toNat)
  case atStart =>
    refine ⟨0, Nat.zero_le _, rfl, ns, [], HS1.out, rfl, HO.out.1, HO.out.2, by simp, ?_⟩
    · have := HNN.out; simp; omega
  case round =>
    obtain ⟨k, hk, rfl, HI⟩ := hrel
    by_cases hlt : k < m
    · obtain ⟨x, hx⟩ : ∃ x, ms[k]? = some x := ⟨_, List.getElem?_eq_getElem (by have := HNN.out.2; omega)⟩
      obtain ⟨g2, o2, rfl, hg2, hcc⟩ := HX2.out.resolve_left (fun e => by rw [e] at hx; simp at hx)
      obtain ⟨xs, xi⟩ := x
      have g0 : wr.cell? ⟨g2, o2 + k * 2, none⟩ = some (.string xs) := by obtain ⟨_, _, _, _, _, hb, _⟩ := HI.out; exact Below.cellS hb (Nat.le_refl _) (hcc k _ hx).1
      have g1 : wr.cell? ⟨g2, o2 + k * 2 + 1, none⟩ = some (.int .i64 xi) := by obtain ⟨_, _, _, _, _, hb, _⟩ := HI.out; exact Below.cellS hb (Nat.le_refl _) (hcc k _ hx).2
      have HXK : Hid (ms.drop k = (xs, xi) :: ms.drop (k + 1)) := drop_at hx
      clear hcc hg2 hx
      have HIN : Hid (IN w.heap.size (n + m) wr.heap.size w ns ms k xs xi u0 u7 (wr.alloc (.cells #[.string xs, .int .i64 xi] 46))) := by
        obtain ⟨os, acc, h1, rfl, h3, h4, h5, h6⟩ := HI.out
        have hlt : w.heap.size < wr.heap.size := (World.ownsRow.lt h3 w.heap.size rfl).2
        have b1 : Below wr.heap.size wr (wr.alloc (.cells #[.string xs, .int .i64 xi] 46)) := (Below.refl _ _).alloc (Nat.le_refl _) _
        exact ⟨os, acc, rfl, h1, h3.kept (grown_of_below b1) (.inr (by simp [Value.ownBlock])), h4.trans (b1.mono (by omega)), h5, h6, heap_new _ _, hlt⟩
      go_wp2_with fail
      generalize wr.alloc (.cells #[.string xs, .int .i64 xi] 46) = wb at *
      generalize wr.heap.size = bx at *
      clear g0 g1 HI
      go_loopw [0, 7] (fun ov av wq => Hid (IN w.heap.size (n + m) bx w ns ms k xs xi ov av wq)) (fun ov _ _ => lenOf ov)
      case atStart => exact HIN.out
      case round =>
        clear HIN
        obtain ⟨os, acc, hav, hix⟩ := hrel.out
        clear hrel
        have HX0 := Lib.hid hix
        obtain ⟨oa, oc, hov, hoc, hon, hox⟩ := hix.1
        have hlen0 : acc.length + os.length + (ms.length - k) ≤ n + m := hix.2.2.2.2.1
        have hmm := HNN.out.2
        rw [hmm] at hlen0
        clear hix hmm
        subst hov hav
        generalize hal : acc.length = al at *
        have HAL := Lib.hid hal
        clear hal
        rcases os with _ | ⟨⟨ah, ai⟩, os⟩
        · clear hox
          simp only [List.length_nil] at *
          go_upto_region 5 with fail
          refine wp_region_held_drew (S := fun _ => True) (by kernel_rfl) (trivial) (fun hHeld => ?_)
          refine wpAnyH_take (i := 0) (v := .slice oa 0 oc) rfl (by kernel_rfl) (by kernel_rfl) (by kernel_rfl) (fun _ _ _ h => h) (Or.inl ⟨by rfl, fun w hw => by go_simp⟩) hHeld ?_
          simp only [Act.put, List.getElem_toArray, List.getElem_cons_zero, List.setIfInBounds_toArray, List.set_cons_zero, List.set_cons_succ]
          refine wpAnyH_take (i := 1) (v := .int .i64 0) rfl (by kernel_rfl) (by kernel_rfl) (by kernel_rfl) (fun _ _ _ h => h) (Or.inl ⟨by rfl, fun w hw => by go_simp⟩) hHeld ?_
          simp only [Act.put, List.getElem_toArray, List.getElem_cons_zero, List.getElem_cons_succ, List.setIfInBounds_toArray, List.set_cons_zero, List.set_cons_succ]
          refine wpAnyH_take (i := 2) (v := .bool false) rfl (by kernel_rfl) (by kernel_rfl) (by kernel_rfl) (fun _ _ _ h => h) (Or.inl ⟨by rfl, fun w hw => by go_simp⟩) hHeld ?_
          simp only [Act.put, List.getElem_toArray, List.getElem_cons_zero, List.getElem_cons_succ, List.setIfInBounds_toArray, List.set_cons_zero, List.set_cons_succ]
          refine wpAnyH_take (i := 3) (v := .bool false) rfl (by kernel_rfl) (by kernel_rfl) (by kernel_rfl) (fun _ _ _ h => h) (Or.inl ⟨by rfl, fun w hw => by go_simp⟩) hHeld ?_
          simp only [Act.put, List.getElem_toArray, List.getElem_cons_zero, List.getElem_cons_succ, List.setIfInBounds_toArray, List.set_cons_zero, List.set_cons_succ]
          refine wpAnyH_take (i := 4) (v := undef) rfl (by kernel_rfl) (by kernel_rfl) (by kernel_rfl) (fun _ _ _ h => h) (Or.inr ⟨by rfl, rfl⟩) hHeld ?_
          simp only [Act.put, List.getElem_toArray, List.getElem_cons_zero, List.getElem_cons_succ, List.setIfInBounds_toArray, List.set_cons_zero, List.set_cons_succ]
          refine wpAnyH_take (i := 5) (v := undef) rfl (by kernel_rfl) (by kernel_rfl) (by kernel_rfl) (fun _ _ _ h => h) (Or.inr ⟨by rfl, rfl⟩) hHeld ?_
          simp only [Act.put, List.getElem_toArray, List.getElem_cons_zero, List.getElem_cons_succ, List.setIfInBounds_toArray, List.set_cons_zero, List.set_cons_succ]
          refine wpAnyH_take (i := 6) (v := undef) rfl (by kernel_rfl) (by kernel_rfl) (by kernel_rfl) (fun _ _ _ h => h) (Or.inr ⟨by rfl, rfl⟩) hHeld ?_
          simp only [Act.put, List.getElem_toArray, List.getElem_cons_zero, List.getElem_cons_succ, List.setIfInBounds_toArray, List.set_cons_zero, List.set_cons_succ]
          refine wpAnyH_take (i := 7) (v := undef) rfl (by kernel_rfl) (by kernel_rfl) (by kernel_rfl) (fun _ _ _ h => h) (Or.inr ⟨by rfl, rfl⟩) hHeld ?_
          simp only [Act.put, List.getElem_toArray, List.getElem_cons_zero, List.getElem_cons_succ, List.setIfInBounds_toArray, List.set_cons_zero, List.set_cons_succ]
          refine wpAnyH_take (i := 8) (v := undef) rfl (by kernel_rfl) (by kernel_rfl) (by kernel_rfl) (fun _ _ _ h => h) (Or.inr ⟨by rfl, rfl⟩) hHeld ?_
          simp only [Act.put, List.getElem_toArray, List.getElem_cons_zero, List.getElem_cons_succ, List.setIfInBounds_toArray, List.set_cons_zero, List.set_cons_succ]
          refine wpAnyH_take (i := 9) (v := undef) rfl (by kernel_rfl) (by kernel_rfl) (by kernel_rfl) (fun _ _ _ h => h) (Or.inr ⟨by rfl, rfl⟩) hHeld ?_
          simp only [Act.put, List.getElem_toArray, List.getElem_cons_zero, List.getElem_cons_succ, List.setIfInBounds_toArray, List.set_cons_zero, List.set_cons_succ]
          refine wpAnyH_take (i := 10) (v := undef) rfl (by kernel_rfl) (by kernel_rfl) (by kernel_rfl) (fun _ _ _ h => h) (Or.inr ⟨by rfl, rfl⟩) hHeld ?_
          simp only [Act.put, List.getElem_toArray, List.getElem_cons_zero, List.getElem_cons_succ, List.setIfInBounds_toArray, List.set_cons_zero, List.set_cons_succ]
          refine wpAnyH_take (i := 11) (v := undef) rfl (by kernel_rfl) (by kernel_rfl) (by kernel_rfl) (fun _ _ _ h => h) (Or.inr ⟨by rfl, rfl⟩) hHeld ?_
          simp only [Act.put, List.getElem_toArray, List.getElem_cons_zero, List.getElem_cons_succ, List.setIfInBounds_toArray, List.set_cons_zero, List.set_cons_succ]
          refine wpAnyH_take (i := 12) (v := undef) rfl (by kernel_rfl) (by kernel_rfl) (by kernel_rfl) (fun _ _ _ h => h) (Or.inr ⟨by rfl, rfl⟩) hHeld ?_
          simp only [Act.put, List.getElem_toArray, List.getElem_cons_zero, List.getElem_cons_succ, List.setIfInBounds_toArray, List.set_cons_zero, List.set_cons_succ]
          refine wpAnyH_take (i := 13) (v := .bool false) rfl (by kernel_rfl) (by kernel_rfl) (by kernel_rfl) (fun _ _ _ h => h) (Or.inl ⟨by rfl, fun w hw => by go_simp⟩) hHeld ?_
          simp only [Act.put, List.getElem_toArray, List.getElem_cons_zero, List.getElem_cons_succ, List.setIfInBounds_toArray, List.set_cons_zero, List.set_cons_succ]
          refine wpAnyH_done (by kernel_rfl) ?_ _
          clear hHeld
          have HN : Hid (Below wr.heap.size wr wr.drew) := belowDrew1 wr
          generalize wr.drew = wn at *
          have HX : Hid (IX w.heap.size (n + m) bx w ns ms k xs xi [] acc (.slice oa 0 oc) wn) := HX0.out.keep HN.out
          clear HX0 HN
          go_upto_region 8 with fail
          refine wp_region_held_drew (S := fun _ => True) (by kernel_rfl) (trivial) (fun hHeld => ?_)
          refine wpAnyH_take (i := 0) (v := .slice oa 0 oc) rfl (by kernel_rfl) (by kernel_rfl) (by kernel_rfl) (fun _ _ _ h => h) (Or.inl ⟨by rfl, fun w hw => by go_simp⟩) hHeld ?_
          simp only [Act.put, List.getElem_toArray, List.getElem_cons_zero, List.setIfInBounds_toArray, List.set_cons_zero, List.set_cons_succ]
          refine wpAnyH_take (i := 1) (v := .int .i64 0) rfl (by kernel_rfl) (by kernel_rfl) (by kernel_rfl) (fun _ _ _ h => h) (Or.inl ⟨by rfl, fun w hw => by go_simp⟩) hHeld ?_
          simp only [Act.put, List.getElem_toArray, List.getElem_cons_zero, List.getElem_cons_succ, List.setIfInBounds_toArray, List.set_cons_zero, List.set_cons_succ]
          refine wpAnyH_take (i := 2) (v := .bool false) rfl (by kernel_rfl) (by kernel_rfl) (by kernel_rfl) (fun _ _ _ h => h) (Or.inl ⟨by rfl, fun w hw => by go_simp⟩) hHeld ?_
          simp only [Act.put, List.getElem_toArray, List.getElem_cons_zero, List.getElem_cons_succ, List.setIfInBounds_toArray, List.set_cons_zero, List.set_cons_succ]
          refine wpAnyH_take (i := 3) (v := .bool false) rfl (by kernel_rfl) (by kernel_rfl) (by kernel_rfl) (fun _ _ _ h => h) (Or.inl ⟨by rfl, fun w hw => by go_simp⟩) hHeld ?_
          simp only [Act.put, List.getElem_toArray, List.getElem_cons_zero, List.getElem_cons_succ, List.setIfInBounds_toArray, List.set_cons_zero, List.set_cons_succ]
          refine wpAnyH_take (i := 4) (v := undef) rfl (by kernel_rfl) (by kernel_rfl) (by kernel_rfl) (fun _ _ _ h => h) (Or.inr ⟨by rfl, rfl⟩) hHeld ?_
          simp only [Act.put, List.getElem_toArray, List.getElem_cons_zero, List.getElem_cons_succ, List.setIfInBounds_toArray, List.set_cons_zero, List.set_cons_succ]
          refine wpAnyH_take (i := 5) (v := undef) rfl (by kernel_rfl) (by kernel_rfl) (by kernel_rfl) (fun _ _ _ h => h) (Or.inr ⟨by rfl, rfl⟩) hHeld ?_
          simp only [Act.put, List.getElem_toArray, List.getElem_cons_zero, List.getElem_cons_succ, List.setIfInBounds_toArray, List.set_cons_zero, List.set_cons_succ]
          refine wpAnyH_take (i := 6) (v := undef) rfl (by kernel_rfl) (by kernel_rfl) (by kernel_rfl) (fun _ _ _ h => h) (Or.inr ⟨by rfl, rfl⟩) hHeld ?_
          simp only [Act.put, List.getElem_toArray, List.getElem_cons_zero, List.getElem_cons_succ, List.setIfInBounds_toArray, List.set_cons_zero, List.set_cons_succ]
          refine wpAnyH_take (i := 7) (v := undef) rfl (by kernel_rfl) (by kernel_rfl) (by kernel_rfl) (fun _ _ _ h => h) (Or.inr ⟨by rfl, rfl⟩) hHeld ?_
          simp only [Act.put, List.getElem_toArray, List.getElem_cons_zero, List.getElem_cons_succ, List.setIfInBounds_toArray, List.set_cons_zero, List.set_cons_succ]
          refine wpAnyH_take (i := 8) (v := undef) rfl (by kernel_rfl) (by kernel_rfl) (by kernel_rfl) (fun _ _ _ h => h) (Or.inr ⟨by rfl, rfl⟩) hHeld ?_
          simp only [Act.put, List.getElem_toArray, List.getElem_cons_zero, List.getElem_cons_succ, List.setIfInBounds_toArray, List.set_cons_zero, List.set_cons_succ]
          refine wpAnyH_take (i := 9) (v := undef) rfl (by kernel_rfl) (by kernel_rfl) (by kernel_rfl) (fun _ _ _ h => h) (Or.inr ⟨by rfl, rfl⟩) hHeld ?_
          simp only [Act.put, List.getElem_toArray, List.getElem_cons_zero, List.getElem_cons_succ, List.setIfInBounds_toArray, List.set_cons_zero, List.set_cons_succ]
          refine wpAnyH_take (i := 10) (v := undef) rfl (by kernel_rfl) (by kernel_rfl) (by kernel_rfl) (fun _ _ _ h => h) (Or.inr ⟨by rfl, rfl⟩) hHeld ?_
          simp only [Act.put, List.getElem_toArray, List.getElem_cons_zero, List.getElem_cons_succ, List.setIfInBounds_toArray, List.set_cons_zero, List.set_cons_succ]
          refine wpAnyH_take (i := 11) (v := undef) rfl (by kernel_rfl) (by kernel_rfl) (by kernel_rfl) (fun _ _ _ h => h) (Or.inr ⟨by rfl, rfl⟩) hHeld ?_
          simp only [Act.put, List.getElem_toArray, List.getElem_cons_zero, List.getElem_cons_succ, List.setIfInBounds_toArray, List.set_cons_zero, List.set_cons_succ]
          refine wpAnyH_take (i := 12) (v := undef) rfl (by kernel_rfl) (by kernel_rfl) (by kernel_rfl) (fun _ _ _ h => h) (Or.inr ⟨by rfl, rfl⟩) hHeld ?_
          simp only [Act.put, List.getElem_toArray, List.getElem_cons_zero, List.getElem_cons_succ, List.setIfInBounds_toArray, List.set_cons_zero, List.set_cons_succ]
          refine wpAnyH_take (i := 13) (v := .bool false) rfl (by kernel_rfl) (by kernel_rfl) (by kernel_rfl) (fun _ _ _ h => h) (Or.inl ⟨by rfl, fun w hw => by go_simp⟩) hHeld ?_
          simp only [Act.put, List.getElem_toArray, List.getElem_cons_zero, List.getElem_cons_succ, List.setIfInBounds_toArray, List.set_cons_zero, List.set_cons_succ]
          refine wpAnyH_done (by kernel_rfl) ?_ _
          clear hHeld
          have HN : Hid (Below wn.heap.size wn wn.drew) := belowDrew1 wn
          generalize wn.drew = wm at *
          have HY : Hid (IX w.heap.size (n + m) bx w ns ms k xs xi [] acc _ wm) := HX.out.keep HN.out
          clear HX HN
          obtain ⟨x0, x1⟩ := HY.out.cells
          have HOW : Hid (wm.ownsRow w.heap.size 46 2 (.slice (some ⟨w.heap.size, 0, none⟩) al (n + m)) al (nsC acc)) := by have := HY.out.2.1; rw [HAL.out] at this; exact this
          go_wp2_with (at_builtin; refine wpList_append_fits _ rfl _ _ 32 rfl w.heap.size 46 i0 2 Try.underlying32 hi hz1 w.heap.size al (n + m) (nsC acc) rfl (by exact (HOW.out.alloc _)) ⟨_, 0, none⟩ 1 1 (nsC [(xs, xi)]) rfl rfl (by exact World.news_of_block (heap_new _ _)) (nsC_one _) (by omega) ?_; intro wa hoa hga)
          have HST : Hid (ST w.heap.size (n + m) w ns ms (k + 1) (.slice oa 0 oc) (.slice (some ⟨w.heap.size, 0, none⟩) (al + 1) (n + m)) wa) := by
            have h9 := HY.out.next (os2 := []) HXK.out (by rw [mgN, mgN, mg_none, mg_none]) (by simp) (by have := HNN.out.2; omega) ((Below.refl _ _).alloc (Nat.le_refl _) _) (by rw [HAL.out]; exact hoa) hga HY.out.1
            rw [HAL.out] at h9; exact h9
          clear hoa hga HOW HY x0 x1
          go_wp2
          exact ⟨⟨k + 1, by omega, by go_num, HST⟩, by simp [intOf]; omega⟩
        · obtain ⟨g, o, rfl, hg, hcc⟩ := hox.resolve_left (fun e => by cases e)
          have HCC : Hid (∀ wq, IX w.heap.size (n + m) bx w ns ms k xs xi ((ah, ai) :: os) acc (.slice (some ⟨g, o, none⟩) (os.length + 1) oc) wq → wq.cell? ⟨g, o, none⟩ = some (.string ah) ∧ wq.cell? ⟨g, o + 1, none⟩ = some (.int .i64 ai)) := fun wq h => by
            have h9 := hcc 0 _ rfl
            simp only [Nat.zero_mul, Nat.add_zero] at h9
            exact ⟨Below.cellS h.2.2.1 (Nat.le_refl _) h9.1, Below.cellS h.2.2.1 (Nat.le_refl _) h9.2⟩
          clear hcc hox hg hon
          simp only [List.length_cons] at *
          have HSB : Hid (SB bx g o xs ah xi ai wr) := ⟨HX0.out.cells.1, HX0.out.cells.2, (HCC.out wr HX0.out).1, (HCC.out wr HX0.out).2⟩
          generalize hol : os.length + 1 = ol at *
          have HOL := Lib.hid hol
          have hol0 : 0 < ol := by omega
          have hol2 : ¬ ol = 0 := by omega
          clear hol
          cases hll : Op.bytesLess ah.toList xs.toList with
          | true =>
            have HLT : Hid (ltN (ah, ai) (xs, xi) = true) := hll
            go_upto_region 5 with fail
            refine wp_region_held_drew (S := SB bx g o xs ah xi ai) (by kernel_rfl) (HSB.out.keep (belowDrew1 wr)) (fun hHeld => ?_)
            refine wpAnyH_take (i := 0) (v := .slice (some ⟨g, o, none⟩) ol oc) rfl (by kernel_rfl) (by kernel_rfl) (by kernel_rfl) (fun _ _ _ h => h) (Or.inl ⟨by rfl, fun w hw => by go_simp⟩) hHeld ?_
            simp only [Act.put, List.getElem_toArray, List.getElem_cons_zero, List.setIfInBounds_toArray, List.set_cons_zero, List.set_cons_succ]
            refine wpAnyH_take (i := 1) (v := .int .i64 (ol : Int)) rfl (by kernel_rfl) (by kernel_rfl) (by kernel_rfl) (fun _ _ _ h => h) (Or.inl ⟨by rfl, fun w hw => by go_simp⟩) hHeld ?_
            simp only [Act.put, List.getElem_toArray, List.getElem_cons_zero, List.getElem_cons_succ, List.setIfInBounds_toArray, List.set_cons_zero, List.set_cons_succ]
            refine wpAnyH_take (i := 2) (v := .bool true) rfl (by kernel_rfl) (by kernel_rfl) (by kernel_rfl) (fun _ _ _ h => h) (Or.inl ⟨by rfl, fun w hw => by go_simp⟩) hHeld ?_
            simp only [Act.put, List.getElem_toArray, List.getElem_cons_zero, List.getElem_cons_succ, List.setIfInBounds_toArray, List.set_cons_zero, List.set_cons_succ]
            refine wpAnyH_take (i := 3) (v := .bool true) rfl (by kernel_rfl) (by kernel_rfl) (by kernel_rfl) (fun _ _ _ h => h) (Or.inl ⟨by rfl, fun w hw => by go_simp⟩) hHeld ?_
            simp only [Act.put, List.getElem_toArray, List.getElem_cons_zero, List.getElem_cons_succ, List.setIfInBounds_toArray, List.set_cons_zero, List.set_cons_succ]
            refine wpAnyH_take (i := 4) (v := .func (Fn.func 35) #[] #[]) rfl (by kernel_rfl) (by kernel_rfl) (by kernel_rfl) (fun _ _ _ h => h) (Or.inl ⟨by rfl, fun w hw => by go_simp⟩) hHeld ?_
            simp only [Act.put, List.getElem_toArray, List.getElem_cons_zero, List.getElem_cons_succ, List.setIfInBounds_toArray, List.set_cons_zero, List.set_cons_succ]
            refine wpAnyH_take (i := 5) (v := .slice (some ⟨g, o, none⟩) ol oc) rfl (by kernel_rfl) (by kernel_rfl) (by kernel_rfl) (fun _ _ _ h => h) (Or.inl ⟨by rfl, fun w hw => by go_simp⟩) hHeld ?_
            simp only [Act.put, List.getElem_toArray, List.getElem_cons_zero, List.getElem_cons_succ, List.setIfInBounds_toArray, List.set_cons_zero, List.set_cons_succ]
            refine wpAnyH_take (i := 6) (v := .pointer (some ⟨g, o, none⟩)) rfl (by kernel_rfl) (by kernel_rfl) (by kernel_rfl) (fun _ _ _ h => h) (Or.inl ⟨by rfl, fun w hw => by go_simp⟩) hHeld ?_
            simp only [Act.put, List.getElem_toArray, List.getElem_cons_zero, List.getElem_cons_succ, List.setIfInBounds_toArray, List.set_cons_zero, List.set_cons_succ]
            refine wpAnyH_take (i := 7) (v := .agg #[.string ah, .int .i64 ai]) rfl (by kernel_rfl) (by kernel_rfl) (by kernel_rfl) (fun _ _ _ h => h) (Or.inl ⟨by rfl, fun w hw => by obtain ⟨s0, s1, s2, s3⟩ := hw; go_simp⟩) hHeld ?_
            simp only [Act.put, List.getElem_toArray, List.getElem_cons_zero, List.getElem_cons_succ, List.setIfInBounds_toArray, List.set_cons_zero, List.set_cons_succ]
            refine wpAnyH_take (i := 9) (v := .func (Fn.func 35) #[] #[]) rfl (by kernel_rfl) (by kernel_rfl) (by kernel_rfl) (fun _ _ _ h => h) (Or.inl ⟨by rfl, fun w hw => by go_simp⟩) hHeld ?_
            simp only [Act.put, List.getElem_toArray, List.getElem_cons_zero, List.getElem_cons_succ, List.setIfInBounds_toArray, List.set_cons_zero, List.set_cons_succ]
            refine wpAnyH_take (i := 10) (v := .agg #[.string xs, .int .i64 xi]) rfl (by kernel_rfl) (by kernel_rfl) (by kernel_rfl) (fun _ _ _ h => h) (Or.inl ⟨by rfl, fun w hw => by obtain ⟨s0, s1, s2, s3⟩ := hw; go_simp⟩) hHeld ?_
            simp only [Act.put, List.getElem_toArray, List.getElem_cons_zero, List.getElem_cons_succ, List.setIfInBounds_toArray, List.set_cons_zero, List.set_cons_succ]
            refine wpAnyH_ready (rs := [8]) (by kernel_rfl) (by simp) ?_
            refine AllReadyH.cons (o := _) rfl (fun K hK => ?_) AllReadyH.nil
            go_simp
            refine (nameOf35 ah ai wr.drew).mono ?_
            rintro e1 wn1 ⟨rfl, bn1⟩
            have HN1 : Hid (Below wr.heap.size wr wn1) := (belowDrew1 wr).trans bn1
            have hS1 := HSB.out.keep HN1.out
            clear bn1
            go_wp2_with fail
            refine hK _ _ hS1 (fun hHeld => ?_)
            clear hK K hS1
            refine wpAnyH_ready (rs := [11]) (by kernel_rfl) (by simp) ?_
            refine AllReadyH.cons (o := _) rfl (fun K hK => ?_) AllReadyH.nil
            go_simp
            refine (nameOf35 xs xi wn1).mono ?_
            rintro e2 wn ⟨rfl, bn2⟩
            have HN : Hid (Below wr.heap.size wr wn) := HN1.out.trans (bn2.mono HN1.out.size)
            have hS2 := HSB.out.keep HN.out
            clear bn2 HN1
            go_wp2_with fail
            refine hK _ _ hS2 (fun hHeld => ?_)
            clear hK K hS2
            refine wpAnyH_take (i := 12) (v := .bool true) rfl (by kernel_rfl) (by kernel_rfl) (by kernel_rfl) (fun _ _ _ h => h) (Or.inl ⟨by rfl, fun w hw => by go_simp⟩) hHeld ?_
            simp only [Act.put, List.getElem_toArray, List.getElem_cons_zero, List.getElem_cons_succ, List.setIfInBounds_toArray, List.set_cons_zero, List.set_cons_succ]
            refine wpAnyH_take (i := 13) (v := .bool true) rfl (by kernel_rfl) (by kernel_rfl) (by kernel_rfl) (fun _ _ _ h => h) (Or.inl ⟨by rfl, fun w hw => by go_simp⟩) hHeld ?_
            simp only [Act.put, List.getElem_toArray, List.getElem_cons_zero, List.getElem_cons_succ, List.setIfInBounds_toArray, List.set_cons_zero, List.set_cons_succ]
            refine wpAnyH_done (by kernel_rfl) ?_ _
            clear hHeld
            clear HSB hll
            have HX : Hid (IX w.heap.size (n + m) bx w ns ms k xs xi ((ah, ai) :: os) acc (.slice (some ⟨g, o, none⟩) ol oc) wn) := HX0.out.keep HN.out
            clear HX0 HN
            obtain ⟨y0, y1⟩ := HCC.out wn HX.out
            have HOW : Hid (wn.ownsRow w.heap.size 46 2 (.slice (some ⟨w.heap.size, 0, none⟩) al (n + m)) al (nsC acc)) := by have := HX.out.2.1; rw [HAL.out] at this; exact this
            go_wp2_with (at_builtin; refine wpList_append_fits _ rfl _ _ 32 rfl w.heap.size 46 i0 2 Try.underlying32 hi hz1 w.heap.size al (n + m) (nsC acc) rfl (by exact (HOW.out.alloc _)) ⟨_, 0, none⟩ 1 1 (nsC [(ah, ai)]) rfl rfl (by exact World.news_of_block (heap_new _ _)) (nsC_one _) (by omega) ?_; intro wa hoa hga)
            have HI2 : Hid (IX w.heap.size (n + m) bx w ns ms k xs xi os (acc ++ [(ah, ai)]) (.slice (if oc = 1 then some ⟨g, o, none⟩ else some ⟨g, o + 2, none⟩) (ol - 1) (oc - 1)) wa) := HX.out.put HLT.out HXK.out ((Below.refl _ _).alloc (Nat.le_refl _) _) (by rw [HAL.out]; exact hoa) hga (SN.tl HX.out.1)
            clear hoa hga HOW HX y0 y1 HLT
            go_wp2
            exact ⟨⟨os, acc ++ [(ah, ai)], by simp [HAL.out], HI2.out⟩, by simp [lenOf]; omega⟩
          | false =>
            have HLT : Hid (ltN (ah, ai) (xs, xi) = false) := hll
            go_upto_region 5 with fail
            refine wp_region_held_drew (S := SB bx g o xs ah xi ai) (by kernel_rfl) (HSB.out.keep (belowDrew1 wr)) (fun hHeld => ?_)
            refine wpAnyH_take (i := 0) (v := .slice (some ⟨g, o, none⟩) ol oc) rfl (by kernel_rfl) (by kernel_rfl) (by kernel_rfl) (fun _ _ _ h => h) (Or.inl ⟨by rfl, fun w hw => by go_simp⟩) hHeld ?_
            simp only [Act.put, List.getElem_toArray, List.getElem_cons_zero, List.setIfInBounds_toArray, List.set_cons_zero, List.set_cons_succ]
            refine wpAnyH_take (i := 1) (v := .int .i64 (ol : Int)) rfl (by kernel_rfl) (by kernel_rfl) (by kernel_rfl) (fun _ _ _ h => h) (Or.inl ⟨by rfl, fun w hw => by go_simp⟩) hHeld ?_
            simp only [Act.put, List.getElem_toArray, List.getElem_cons_zero, List.getElem_cons_succ, List.setIfInBounds_toArray, List.set_cons_zero, List.set_cons_succ]
            refine wpAnyH_take (i := 2) (v := .bool true) rfl (by kernel_rfl) (by kernel_rfl) (by kernel_rfl) (fun _ _ _ h => h) (Or.inl ⟨by rfl, fun w hw => by go_simp⟩) hHeld ?_
            simp only [Act.put, List.getElem_toArray, List.getElem_cons_zero, List.getElem_cons_succ, List.setIfInBounds_toArray, List.set_cons_zero, List.set_cons_succ]
            refine wpAnyH_take (i := 3) (v := .bool true) rfl (by kernel_rfl) (by kernel_rfl) (by kernel_rfl) (fun _ _ _ h => h) (Or.inl ⟨by rfl, fun w hw => by go_simp⟩) hHeld ?_
            simp only [Act.put, List.getElem_toArray, List.getElem_cons_zero, List.getElem_cons_succ, List.setIfInBounds_toArray, List.set_cons_zero, List.set_cons_succ]
            refine wpAnyH_take (i := 4) (v := .func (Fn.func 35) #[] #[]) rfl (by kernel_rfl) (by kernel_rfl) (by kernel_rfl) (fun _ _ _ h => h) (Or.inl ⟨by rfl, fun w hw => by go_simp⟩) hHeld ?_
            simp only [Act.put, List.getElem_toArray, List.getElem_cons_zero, List.getElem_cons_succ, List.setIfInBounds_toArray, List.set_cons_zero, List.set_cons_succ]
            refine wpAnyH_take (i := 5) (v := .slice (some ⟨g, o, none⟩) ol oc) rfl (by kernel_rfl) (by kernel_rfl) (by kernel_rfl) (fun _ _ _ h => h) (Or.inl ⟨by rfl, fun w hw => by go_simp⟩) hHeld ?_
            simp only [Act.put, List.getElem_toArray, List.getElem_cons_zero, List.getElem_cons_succ, List.setIfInBounds_toArray, List.set_cons_zero, List.set_cons_succ]
            refine wpAnyH_take (i := 6) (v := .pointer (some ⟨g, o, none⟩)) rfl (by kernel_rfl) (by kernel_rfl) (by kernel_rfl) (fun _ _ _ h => h) (Or.inl ⟨by rfl, fun w hw => by go_simp⟩) hHeld ?_
            simp only [Act.put, List.getElem_toArray, List.getElem_cons_zero, List.getElem_cons_succ, List.setIfInBounds_toArray, List.set_cons_zero, List.set_cons_succ]
            refine wpAnyH_take (i := 7) (v := .agg #[.string ah, .int .i64 ai]) rfl (by kernel_rfl) (by kernel_rfl) (by kernel_rfl) (fun _ _ _ h => h) (Or.inl ⟨by rfl, fun w hw => by obtain ⟨s0, s1, s2, s3⟩ := hw; go_simp⟩) hHeld ?_
            simp only [Act.put, List.getElem_toArray, List.getElem_cons_zero, List.getElem_cons_succ, List.setIfInBounds_toArray, List.set_cons_zero, List.set_cons_succ]
            refine wpAnyH_take (i := 9) (v := .func (Fn.func 35) #[] #[]) rfl (by kernel_rfl) (by kernel_rfl) (by kernel_rfl) (fun _ _ _ h => h) (Or.inl ⟨by rfl, fun w hw => by go_simp⟩) hHeld ?_
            simp only [Act.put, List.getElem_toArray, List.getElem_cons_zero, List.getElem_cons_succ, List.setIfInBounds_toArray, List.set_cons_zero, List.set_cons_succ]
            refine wpAnyH_take (i := 10) (v := .agg #[.string xs, .int .i64 xi]) rfl (by kernel_rfl) (by kernel_rfl) (by kernel_rfl) (fun _ _ _ h => h) (Or.inl ⟨by rfl, fun w hw => by obtain ⟨s0, s1, s2, s3⟩ := hw; go_simp⟩) hHeld ?_
            simp only [Act.put, List.getElem_toArray, List.getElem_cons_zero, List.getElem_cons_succ, List.setIfInBounds_toArray, List.set_cons_zero, List.set_cons_succ]
            refine wpAnyH_ready (rs := [8]) (by kernel_rfl) (by simp) ?_
            refine AllReadyH.cons (o := _) rfl (fun K hK => ?_) AllReadyH.nil
            go_simp
            refine (nameOf35 ah ai wr.drew).mono ?_
            rintro e1 wn1 ⟨rfl, bn1⟩
            have HN1 : Hid (Below wr.heap.size wr wn1) := (belowDrew1 wr).trans bn1
            have hS1 := HSB.out.keep HN1.out
            clear bn1
            go_wp2_with fail
            refine hK _ _ hS1 (fun hHeld => ?_)
            clear hK K hS1
            refine wpAnyH_ready (rs := [11]) (by kernel_rfl) (by simp) ?_
            refine AllReadyH.cons (o := _) rfl (fun K hK => ?_) AllReadyH.nil
            go_simp
            refine (nameOf35 xs xi wn1).mono ?_
            rintro e2 wn ⟨rfl, bn2⟩
            have HN : Hid (Below wr.heap.size wr wn) := HN1.out.trans (bn2.mono HN1.out.size)
            have hS2 := HSB.out.keep HN.out
            clear bn2 HN1
            go_wp2_with fail
            refine hK _ _ hS2 (fun hHeld => ?_)
            clear hK K hS2
            refine wpAnyH_take (i := 12) (v := .bool false) rfl (by kernel_rfl) (by kernel_rfl) (by kernel_rfl) (fun _ _ _ h => h) (Or.inl ⟨by rfl, fun w hw => by go_simp⟩) hHeld ?_
            simp only [Act.put, List.getElem_toArray, List.getElem_cons_zero, List.getElem_cons_succ, List.setIfInBounds_toArray, List.set_cons_zero, List.set_cons_succ]
            refine wpAnyH_take (i := 13) (v := .bool false) rfl (by kernel_rfl) (by kernel_rfl) (by kernel_rfl) (fun _ _ _ h => h) (Or.inl ⟨by rfl, fun w hw => by go_simp⟩) hHeld ?_
            simp only [Act.put, List.getElem_toArray, List.getElem_cons_zero, List.getElem_cons_succ, List.setIfInBounds_toArray, List.set_cons_zero, List.set_cons_succ]
            refine wpAnyH_done (by kernel_rfl) ?_ _
            clear hHeld
            clear HSB
            have HX : Hid (IX w.heap.size (n + m) bx w ns ms k xs xi ((ah, ai) :: os) acc (.slice (some ⟨g, o, none⟩) ol oc) wn) := HX0.out.keep HN.out
            clear HX0 HN
            cases hee : (ah.toList == xs.toList) with
            | true =>
              have HEQ : Hid (eqN (ah, ai) (xs, xi) = true) := hee
              go_upto_region 8 with fail
              have HSB : Hid (SB bx g o xs ah xi ai wn) := ⟨HX.out.cells.1, HX.out.cells.2, HCC.out wn HX.out |>.1, HCC.out wn HX.out |>.2⟩
              refine wp_region_held_drew (S := SB bx g o xs ah xi ai) (by kernel_rfl) (HSB.out.keep (belowDrew1 wn)) (fun hHeld => ?_)
              refine wpAnyH_take (i := 0) (v := .slice (some ⟨g, o, none⟩) ol oc) rfl (by kernel_rfl) (by kernel_rfl) (by kernel_rfl) (fun _ _ _ h => h) (Or.inl ⟨by rfl, fun w hw => by go_simp⟩) hHeld ?_
              simp only [Act.put, List.getElem_toArray, List.getElem_cons_zero, List.setIfInBounds_toArray, List.set_cons_zero, List.set_cons_succ]
              refine wpAnyH_take (i := 1) (v := .int .i64 (ol : Int)) rfl (by kernel_rfl) (by kernel_rfl) (by kernel_rfl) (fun _ _ _ h => h) (Or.inl ⟨by rfl, fun w hw => by go_simp⟩) hHeld ?_
              simp only [Act.put, List.getElem_toArray, List.getElem_cons_zero, List.getElem_cons_succ, List.setIfInBounds_toArray, List.set_cons_zero, List.set_cons_succ]
              refine wpAnyH_take (i := 2) (v := .bool true) rfl (by kernel_rfl) (by kernel_rfl) (by kernel_rfl) (fun _ _ _ h => h) (Or.inl ⟨by rfl, fun w hw => by go_simp⟩) hHeld ?_
              simp only [Act.put, List.getElem_toArray, List.getElem_cons_zero, List.getElem_cons_succ, List.setIfInBounds_toArray, List.set_cons_zero, List.set_cons_succ]
              refine wpAnyH_take (i := 3) (v := .bool true) rfl (by kernel_rfl) (by kernel_rfl) (by kernel_rfl) (fun _ _ _ h => h) (Or.inl ⟨by rfl, fun w hw => by go_simp⟩) hHeld ?_
              simp only [Act.put, List.getElem_toArray, List.getElem_cons_zero, List.getElem_cons_succ, List.setIfInBounds_toArray, List.set_cons_zero, List.set_cons_succ]
              refine wpAnyH_take (i := 4) (v := .func (Fn.func 35) #[] #[]) rfl (by kernel_rfl) (by kernel_rfl) (by kernel_rfl) (fun _ _ _ h => h) (Or.inl ⟨by rfl, fun w hw => by go_simp⟩) hHeld ?_
              simp only [Act.put, List.getElem_toArray, List.getElem_cons_zero, List.getElem_cons_succ, List.setIfInBounds_toArray, List.set_cons_zero, List.set_cons_succ]
              refine wpAnyH_take (i := 5) (v := .slice (some ⟨g, o, none⟩) ol oc) rfl (by kernel_rfl) (by kernel_rfl) (by kernel_rfl) (fun _ _ _ h => h) (Or.inl ⟨by rfl, fun w hw => by go_simp⟩) hHeld ?_
              simp only [Act.put, List.getElem_toArray, List.getElem_cons_zero, List.getElem_cons_succ, List.setIfInBounds_toArray, List.set_cons_zero, List.set_cons_succ]
              refine wpAnyH_take (i := 6) (v := .pointer (some ⟨g, o, none⟩)) rfl (by kernel_rfl) (by kernel_rfl) (by kernel_rfl) (fun _ _ _ h => h) (Or.inl ⟨by rfl, fun w hw => by go_simp⟩) hHeld ?_
              simp only [Act.put, List.getElem_toArray, List.getElem_cons_zero, List.getElem_cons_succ, List.setIfInBounds_toArray, List.set_cons_zero, List.set_cons_succ]
              refine wpAnyH_take (i := 7) (v := .agg #[.string ah, .int .i64 ai]) rfl (by kernel_rfl) (by kernel_rfl) (by kernel_rfl) (fun _ _ _ h => h) (Or.inl ⟨by rfl, fun w hw => by obtain ⟨s0, s1, s2, s3⟩ := hw; go_simp⟩) hHeld ?_
              simp only [Act.put, List.getElem_toArray, List.getElem_cons_zero, List.getElem_cons_succ, List.setIfInBounds_toArray, List.set_cons_zero, List.set_cons_succ]
              refine wpAnyH_take (i := 9) (v := .func (Fn.func 35) #[] #[]) rfl (by kernel_rfl) (by kernel_rfl) (by kernel_rfl) (fun _ _ _ h => h) (Or.inl ⟨by rfl, fun w hw => by go_simp⟩) hHeld ?_
              simp only [Act.put, List.getElem_toArray, List.getElem_cons_zero, List.getElem_cons_succ, List.setIfInBounds_toArray, List.set_cons_zero, List.set_cons_succ]
              refine wpAnyH_take (i := 10) (v := .agg #[.string xs, .int .i64 xi]) rfl (by kernel_rfl) (by kernel_rfl) (by kernel_rfl) (fun _ _ _ h => h) (Or.inl ⟨by rfl, fun w hw => by obtain ⟨s0, s1, s2, s3⟩ := hw; go_simp⟩) hHeld ?_
              simp only [Act.put, List.getElem_toArray, List.getElem_cons_zero, List.getElem_cons_succ, List.setIfInBounds_toArray, List.set_cons_zero, List.set_cons_succ]
              refine wpAnyH_ready (rs := [8]) (by kernel_rfl) (by simp) ?_
              refine AllReadyH.cons (o := _) rfl (fun K hK => ?_) AllReadyH.nil
              go_simp
              refine (nameOf35 ah ai wn.drew).mono ?_
              rintro e1 wn1 ⟨rfl, bn1⟩
              have HN1 : Hid (Below wn.heap.size wn wn1) := (belowDrew1 wn).trans bn1
              have hS1 := HSB.out.keep HN1.out
              clear bn1
              go_wp2_with fail
              refine hK _ _ hS1 (fun hHeld => ?_)
              clear hK K hS1
              refine wpAnyH_ready (rs := [11]) (by kernel_rfl) (by simp) ?_
              refine AllReadyH.cons (o := _) rfl (fun K hK => ?_) AllReadyH.nil
              go_simp
              refine (nameOf35 xs xi wn1).mono ?_
              rintro e2 wm ⟨rfl, bn2⟩
              have HN : Hid (Below wn.heap.size wn wm) := HN1.out.trans (bn2.mono HN1.out.size)
              have hS2 := HSB.out.keep HN.out
              clear bn2 HN1
              go_wp2_with fail
              refine hK _ _ hS2 (fun hHeld => ?_)
              clear hK K hS2
              refine wpAnyH_take (i := 12) (v := .bool true) rfl (by kernel_rfl) (by kernel_rfl) (by kernel_rfl) (fun _ _ _ h => h) (Or.inl ⟨by rfl, fun w hw => by go_simp⟩) hHeld ?_
              simp only [Act.put, List.getElem_toArray, List.getElem_cons_zero, List.getElem_cons_succ, List.setIfInBounds_toArray, List.set_cons_zero, List.set_cons_succ]
              refine wpAnyH_take (i := 13) (v := .bool true) rfl (by kernel_rfl) (by kernel_rfl) (by kernel_rfl) (fun _ _ _ h => h) (Or.inl ⟨by rfl, fun w hw => by go_simp⟩) hHeld ?_
              simp only [Act.put, List.getElem_toArray, List.getElem_cons_zero, List.getElem_cons_succ, List.setIfInBounds_toArray, List.set_cons_zero, List.set_cons_succ]
              refine wpAnyH_done (by kernel_rfl) ?_ _
              clear hHeld
              clear HSB
              have HY : Hid (IX w.heap.size (n + m) bx w ns ms k xs xi ((ah, ai) :: os) acc _ wm) := HX.out.keep HN.out
              clear HX HN
              obtain ⟨x0, x1⟩ := HY.out.cells
              have HOW : Hid (wm.ownsRow w.heap.size 46 2 (.slice (some ⟨w.heap.size, 0, none⟩) al (n + m)) al (nsC acc)) := by have := HY.out.2.1; rw [HAL.out] at this; exact this
              go_wp2_with (at_builtin; refine wpList_append_fits _ rfl _ _ 32 rfl w.heap.size 46 i0 2 Try.underlying32 hi hz1 w.heap.size al (n + m) (nsC acc) rfl (by exact (HOW.out.alloc _)) ⟨_, 0, none⟩ 1 1 (nsC [(xs, xi)]) rfl rfl (by exact World.news_of_block (heap_new _ _)) (nsC_one _) (by omega) ?_; intro wa hoa hga)
              have HST : Hid (ST w.heap.size (n + m) w ns ms (k + 1) (.slice (if oc = 1 then some ⟨g, o, none⟩ else some ⟨g, o + 2, none⟩) (ol - 1) (oc - 1)) (.slice (some ⟨w.heap.size, 0, none⟩) (al + 1) (n + m)) wa) := by
                have h9 := HY.out.next (os2 := os) HXK.out (mg_eq _ _ HLT.out HEQ.out) (by simp) (by have := HNN.out.2; omega) ((Below.refl _ _).alloc (Nat.le_refl _) _) (by rw [HAL.out]; exact hoa) hga (SN.tl HY.out.1)
                rw [HAL.out] at h9; exact h9
              clear hoa hga HOW HY x0 x1
              go_wp2
              exact ⟨⟨k + 1, by omega, by go_num, HST⟩, by simp [intOf]; omega⟩
            | false =>
              have HEQ : Hid (eqN (ah, ai) (xs, xi) = false) := hee
              go_upto_region 8 with fail
              have HSB : Hid (SB bx g o xs ah xi ai wn) := ⟨HX.out.cells.1, HX.out.cells.2, HCC.out wn HX.out |>.1, HCC.out wn HX.out |>.2⟩
              refine wp_region_held_drew (S := SB bx g o xs ah xi ai) (by kernel_rfl) (HSB.out.keep (belowDrew1 wn)) (fun hHeld => ?_)
              refine wpAnyH_take (i := 0) (v := .slice (some ⟨g, o, none⟩) ol oc) rfl (by kernel_rfl) (by kernel_rfl) (by kernel_rfl) (fun _ _ _ h => h) (Or.inl ⟨by rfl, fun w hw => by go_simp⟩) hHeld ?_
              simp only [Act.put, List.getElem_toArray, List.getElem_cons_zero, List.setIfInBounds_toArray, List.set_cons_zero, List.set_cons_succ]
              refine wpAnyH_take (i := 1) (v := .int .i64 (ol : Int)) rfl (by kernel_rfl) (by kernel_rfl) (by kernel_rfl) (fun _ _ _ h => h) (Or.inl ⟨by rfl, fun w hw => by go_simp⟩) hHeld ?_
              simp only [Act.put, List.getElem_toArray, List.getElem_cons_zero, List.getElem_cons_succ, List.setIfInBounds_toArray, List.set_cons_zero, List.set_cons_succ]
              refine wpAnyH_take (i := 2) (v := .bool true) rfl (by kernel_rfl) (by kernel_rfl) (by kernel_rfl) (fun _ _ _ h => h) (Or.inl ⟨by rfl, fun w hw => by go_simp⟩) hHeld ?_
              simp only [Act.put, List.getElem_toArray, List.getElem_cons_zero, List.getElem_cons_succ, List.setIfInBounds_toArray, List.set_cons_zero, List.set_cons_succ]
              refine wpAnyH_take (i := 3) (v := .bool true) rfl (by kernel_rfl) (by kernel_rfl) (by kernel_rfl) (fun _ _ _ h => h) (Or.inl ⟨by rfl, fun w hw => by go_simp⟩) hHeld ?_
              simp only [Act.put, List.getElem_toArray, List.getElem_cons_zero, List.getElem_cons_succ, List.setIfInBounds_toArray, List.set_cons_zero, List.set_cons_succ]
              refine wpAnyH_take (i := 4) (v := .func (Fn.func 35) #[] #[]) rfl (by kernel_rfl) (by kernel_rfl) (by kernel_rfl) (fun _ _ _ h => h) (Or.inl ⟨by rfl, fun w hw => by go_simp⟩) hHeld ?_
              simp only [Act.put, List.getElem_toArray, List.getElem_cons_zero, List.getElem_cons_succ, List.setIfInBounds_toArray, List.set_cons_zero, List.set_cons_succ]
              refine wpAnyH_take (i := 5) (v := .slice (some ⟨g, o, none⟩) ol oc) rfl (by kernel_rfl) (by kernel_rfl) (by kernel_rfl) (fun _ _ _ h => h) (Or.inl ⟨by rfl, fun w hw => by go_simp⟩) hHeld ?_
              simp only [Act.put, List.getElem_toArray, List.getElem_cons_zero, List.getElem_cons_succ, List.setIfInBounds_toArray, List.set_cons_zero, List.set_cons_succ]
              refine wpAnyH_take (i := 6) (v := .pointer (some ⟨g, o, none⟩)) rfl (by kernel_rfl) (by kernel_rfl) (by kernel_rfl) (fun _ _ _ h => h) (Or.inl ⟨by rfl, fun w hw => by go_simp⟩) hHeld ?_
              simp only [Act.put, List.getElem_toArray, List.getElem_cons_zero, List.getElem_cons_succ, List.setIfInBounds_toArray, List.set_cons_zero, List.set_cons_succ]
              refine wpAnyH_take (i := 7) (v := .agg #[.string ah, .int .i64 ai]) rfl (by kernel_rfl) (by kernel_rfl) (by kernel_rfl) (fun _ _ _ h => h) (Or.inl ⟨by rfl, fun w hw => by obtain ⟨s0, s1, s2, s3⟩ := hw; go_simp⟩) hHeld ?_
              simp only [Act.put, List.getElem_toArray, List.getElem_cons_zero, List.getElem_cons_succ, List.setIfInBounds_toArray, List.set_cons_zero, List.set_cons_succ]
              refine wpAnyH_take (i := 9) (v := .func (Fn.func 35) #[] #[]) rfl (by kernel_rfl) (by kernel_rfl) (by kernel_rfl) (fun _ _ _ h => h) (Or.inl ⟨by rfl, fun w hw => by go_simp⟩) hHeld ?_
              simp only [Act.put, List.getElem_toArray, List.getElem_cons_zero, List.getElem_cons_succ, List.setIfInBounds_toArray, List.set_cons_zero, List.set_cons_succ]
              refine wpAnyH_take (i := 10) (v := .agg #[.string xs, .int .i64 xi]) rfl (by kernel_rfl) (by kernel_rfl) (by kernel_rfl) (fun _ _ _ h => h) (Or.inl ⟨by rfl, fun w hw => by obtain ⟨s0, s1, s2, s3⟩ := hw; go_simp⟩) hHeld ?_
              simp only [Act.put, List.getElem_toArray, List.getElem_cons_zero, List.getElem_cons_succ, List.setIfInBounds_toArray, List.set_cons_zero, List.set_cons_succ]
              refine wpAnyH_ready (rs := [8]) (by kernel_rfl) (by simp) ?_
              refine AllReadyH.cons (o := _) rfl (fun K hK => ?_) AllReadyH.nil
              go_simp
              refine (nameOf35 ah ai wn.drew).mono ?_
              rintro e1 wn1 ⟨rfl, bn1⟩
              have HN1 : Hid (Below wn.heap.size wn wn1) := (belowDrew1 wn).trans bn1
              have hS1 := HSB.out.keep HN1.out
              clear bn1
              go_wp2_with fail
              refine hK _ _ hS1 (fun hHeld => ?_)
              clear hK K hS1
              refine wpAnyH_ready (rs := [11]) (by kernel_rfl) (by simp) ?_
              refine AllReadyH.cons (o := _) rfl (fun K hK => ?_) AllReadyH.nil
              go_simp
              refine (nameOf35 xs xi wn1).mono ?_
              rintro e2 wm ⟨rfl, bn2⟩
              have HN : Hid (Below wn.heap.size wn wm) := HN1.out.trans (bn2.mono HN1.out.size)
              have hS2 := HSB.out.keep HN.out
              clear bn2 HN1
              go_wp2_with fail
              refine hK _ _ hS2 (fun hHeld => ?_)
              clear hK K hS2
              refine wpAnyH_take (i := 12) (v := .bool false) rfl (by kernel_rfl) (by kernel_rfl) (by kernel_rfl) (fun _ _ _ h => h) (Or.inl ⟨by rfl, fun w hw => by go_simp⟩) hHeld ?_
              simp only [Act.put, List.getElem_toArray, List.getElem_cons_zero, List.getElem_cons_succ, List.setIfInBounds_toArray, List.set_cons_zero, List.set_cons_succ]
              refine wpAnyH_take (i := 13) (v := .bool false) rfl (by kernel_rfl) (by kernel_rfl) (by kernel_rfl) (fun _ _ _ h => h) (Or.inl ⟨by rfl, fun w hw => by go_simp⟩) hHeld ?_
              simp only [Act.put, List.getElem_toArray, List.getElem_cons_zero, List.getElem_cons_succ, List.setIfInBounds_toArray, List.set_cons_zero, List.set_cons_succ]
              refine wpAnyH_done (by kernel_rfl) ?_ _
              clear hHeld
              clear HSB
              have HY : Hid (IX w.heap.size (n + m) bx w ns ms k xs xi ((ah, ai) :: os) acc _ wm) := HX.out.keep HN.out
              clear HX HN
              obtain ⟨x0, x1⟩ := HY.out.cells
              have HOW : Hid (wm.ownsRow w.heap.size 46 2 (.slice (some ⟨w.heap.size, 0, none⟩) al (n + m)) al (nsC acc)) := by have := HY.out.2.1; rw [HAL.out] at this; exact this
              go_wp2_with (at_builtin; refine wpList_append_fits _ rfl _ _ 32 rfl w.heap.size 46 i0 2 Try.underlying32 hi hz1 w.heap.size al (n + m) (nsC acc) rfl (by exact (HOW.out.alloc _)) ⟨_, 0, none⟩ 1 1 (nsC [(xs, xi)]) rfl rfl (by exact World.news_of_block (heap_new _ _)) (nsC_one _) (by omega) ?_; intro wa hoa hga)
              have HST : Hid (ST w.heap.size (n + m) w ns ms (k + 1) (.slice (some ⟨g, o, none⟩) ol oc) (.slice (some ⟨w.heap.size, 0, none⟩) (al + 1) (n + m)) wa) := by
                have h9 := HY.out.next (os2 := (ah, ai) :: os) HXK.out (mg_gt _ _ HLT.out HEQ.out) (by simp) (by have := HNN.out.2; omega) ((Below.refl _ _).alloc (Nat.le_refl _) _) (by rw [HAL.out]; exact hoa) hga HY.out.1
                rw [HAL.out] at h9; exact h9
              clear hoa hga HOW HY x0 x1
              go_wp2
              exact ⟨⟨k + 1, by omega, by go_num, HST⟩, by simp [intOf]; omega⟩
    · obtain rfl : k = m := by omega
      obtain ⟨os, acc, hsn, rfl, hown, hbel, hmg, hlen⟩ := HI.out
      obtain ⟨oa, oc, rfl, hoc, hon, hox⟩ := hsn
      have HF : Hid (mgN ns ms = acc ++ os) := by
        rw [List.drop_eq_nil_of_le (by have := HNN.out.2; omega), mgN, mg_nil] at hmg
        exact hmg.symm
      have HB1 : Hid (Below w.heap.size w wr ∧ w.heap.size ≤ wr.heap.size) := ⟨hbel, hbel.size⟩
      have HOW := Lib.hid hown
      have hlen2 : acc.length + os.length ≤ n + k := by omega
      have HC : Hid (∀ ad, oa = some ad → ∀ j u, (nsC os)[j]? = some u → wr.cell? (ad.add j) = some u) := fun ad had j u hu => by
        have hj := (List.getElem?_eq_some_iff.1 hu).1
        rw [nsC_len] at hj
        obtain ⟨x, hx⟩ : ∃ x, os[j / 2]? = some x := ⟨_, List.getElem?_eq_getElem (by omega)⟩
        rcases hox with rfl | ⟨g, o, e, hg, hc⟩
        · simp at hx
        · rw [had] at e
          cases e
          have h1 := hc _ x hx
          have h2 := nsC_get os _ x hx
          rw [add_none]
          rcases Nat.mod_two_eq_zero_or_one j with e | e
          · have e' : j / 2 * 2 = j := by omega
            rw [e'] at h1 h2
            rw [Below.cellS hbel (Nat.le_refl _) h1.1, ← h2.1]; exact hu
          · have e' : j / 2 * 2 + 1 = j := by omega
            rw [Nat.add_assoc, e'] at h1
            rw [e'] at h2
            rw [Below.cellS hbel (Nat.le_refl _) h1.2, ← h2.2]; exact hu
      have HN0 : Hid (oa = none → os.length = 0 ∧ oc = 0) := fun e => ⟨by have := hon e; omega, hon e⟩
      clear hox hmg hown hbel hon HI
      generalize hol : os.length = ol at *
      have HOL := Lib.hid hol
      generalize hal : acc.length = al at *
      have HAL := Lib.hid hal
      clear hol hal
      go_wp2_with (at_builtin; refine wpList_append_fits_any _ rfl _ _ 32 rfl w.heap.size 46 i0 2 Try.underlying32 hi hz1 w.heap.size al (n + k) (nsC acc) rfl (by exact HOW.out) oa ol oc (nsC os) rfl (by rw [nsC_len, HOL.out]) HN0.out (by exact HC.out) (nsC_one _) (by omega) ?_; intro wa hoa hga; have HE : Hid (wa.ownsRow w.heap.size 46 2 (.slice (some ⟨w.heap.size, 0, none⟩) (al + ol) (n + k)) (al + ol) (nsC acc ++ nsC os) ∧ Below w.heap.size w wa) := ⟨hoa, below_grown HB1.out.1 hga HB1.out.2⟩; clear hoa hga)
      go_ret
      refine ⟨_, rfl, ?_, HE.out.2⟩
      rw [HF.out, nsC_app, List.length_append, HAL.out, HOL.out]
      exact HE.out.1
end Go.Proofs.Ytldkecjfjcnkfaa
