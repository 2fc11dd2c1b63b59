import Derived.Test.YtldkecjfjcnkfaaLb
import Derived.Deep.CutRange
import Derived.Deep.DeepCutAuto
namespace Go.Proofs.Ytldkecjfjcnkfaa
open Go.RowKit Go.Deep
/-- what a round of the pairs reads -/
def SE (H g : Nat) (mv : Value) (p : Nat) (ek : ByteArray) (et : T) (xa : Option Addr) (xn xc : Nat) (ya : Option Addr) (yn yc : Nat) (x : World) : Prop :=
  x.cell? ⟨H, 4, none⟩ = some mv ∧ x.cell? ⟨g, p, none⟩ = some (.string ek) ∧ x.cell? ⟨g, p + 1, none⟩ = some (.int .i64 et.k) ∧ x.cell? ⟨g, p + 2, none⟩ = some (.int .i64 et.n) ∧ x.cell? ⟨g, p + 3, none⟩ = some (.string et.s) ∧ x.cell? ⟨g, p + 4, none⟩ = some (.slice xa xn xc) ∧ x.cell? ⟨g, p + 5, none⟩ = some (.slice ya yn yc)
section
variable {H g p xn xc yn yc : Nat} {mv : Value} {ek : ByteArray} {et : T} {xa ya : Option Addr} {x y : World}
theorem SE.of (h : SE H g mv p ek et xa xn xc ya yn yc x) (hH : y.heap[H]? = x.heap[H]?) (hg : y.heap[g]? = x.heap[g]?) : SE H g mv p ek et xa xn xc ya yn yc y := by
  have k : ∀ (r : Nat) (v : Value), x.cell? ⟨g, r, none⟩ = some v → y.cell? ⟨g, r, none⟩ = some v := fun r v h => (World.cell?_of_block (w := x) (a := ⟨g, r, none⟩) hg).trans h
  obtain ⟨h0, h1, h2, h3, h4, h5, h6⟩ := h
  exact ⟨(World.cell?_of_block (w := x) (a := ⟨H, 4, none⟩) hH).trans h0, k _ _ h1, k _ _ h2, k _ _ h3, k _ _ h4, k _ _ h5, k _ _ h6⟩
theorem SE.lt (h : SE H g mv p ek et xa xn xc ya yn yc x) : H < x.heap.size ∧ g < x.heap.size := ⟨World.block_lt_of_cell? x _ h.1, World.block_lt_of_cell? x _ h.2.1⟩
theorem SE.keep (h : SE H g mv p ek et xa xn xc ya yn yc x) (hb : Below x.heap.size x y) : SE H g mv p ek et xa xn xc ya yn yc y := h.of (hb.block _ h.lt.1) (hb.block _ h.lt.2)
theorem SE.keep4 (h : SE H g mv p ek et xa xn xc ya yn yc x) (hb : Below (H + 3) x y) (hg : g < H) : SE H g mv p ek et xa xn xc ya yn yc y := h.of (hb.block _ (by omega)) (hb.block _ (by omega))
theorem SE.setX {u : Value} (h : SE H g mv p ek et xa xn xc ya yn yc x) (hg : g < H) : SE H g mv p ek et xa xn xc ya yn yc (x.setCell ⟨H + 1 + 1, 4, none⟩ u) := h.of (Below.heap_setCell _ _ _ _ (by show H ≠ H + 1 + 1; omega)) (Below.heap_setCell _ _ _ _ (by show g ≠ H + 1 + 1; omega))
theorem SE.setI {I : Nat} {u : Value} (h : SE H g mv p ek et xa xn xc ya yn yc x) (hI : H < I ∧ g < I) : SE H g mv p ek et xa xn xc ya yn yc (x.setCell ⟨I, 3, none⟩ u) := h.of (Below.heap_setCell _ _ _ _ (by show H ≠ I; omega)) (Below.heap_setCell _ _ _ _ (by show g ≠ I; omega))
end
/-- a value in a list of its own -/
def inT (t : T) : T := .mk 3 0 ⟨#[]⟩ 1 (fun _ => t) 0 (fun _ => ⟨#[]⟩) (fun _ => .no)
theorem inT_ok {t : T} (h : t.ok) : (inT t).ok := ⟨by decide, by decide, Nat.zero_le _, fun _ _ => h, fun i hi => absurd hi (Nat.not_lt_zero _)⟩
theorem inT_wk (t : T) : wk (inT t) 0 = 0 ↔ wk t 1 = 0 := by
  have hown : ownB 3 0 ⟨#[]⟩ 1 0 = true := (ownB_iff _ _ _ _ _).2 ⟨by decide, by decide, .inr rfl, .inr (by rw [ByteArray.toList_eq]), .inl rfl, .inr rfl⟩
  have e : wk (inT t) 0 = if fstE (fun _ => wk t (0 + 1)) 1 ≠ 0 then fstE (fun _ => wk t (0 + 1)) 1 else fstE (fun i => if keyBad (fun _ => ⟨#[]⟩) i = true then 25 else wk T.no (0 + 1)) 0 := by
    show (if ownB 3 0 ⟨#[]⟩ 1 0 = false then 27 else if (3 : Int) < 3 then 0 else if 32 ≤ (0 : Int) then 24 else if fstE (fun _ => wk t (0 + 1)) 1 ≠ 0 then fstE (fun _ => wk t (0 + 1)) 1 else fstE (fun i => if keyBad (fun _ => ⟨#[]⟩) i = true then 25 else wk T.no (0 + 1)) 0) = _
    rw [if_neg (by rw [hown]; decide), if_neg (by decide), if_neg (by omega)]
  rw [e]
  have e1 : fstE (fun _ => wk t (0 + 1)) 1 = wk t 1 := rfl
  rw [e1]
  by_cases h : wk t 1 = 0
  · rw [if_neg (by simp [h])]
    exact ⟨fun _ => h, fun _ => rfl⟩
  · rw [if_pos h]
theorem info56v : (Try.prog.info? 56).map (fun i => (i.zero, i.size, i.bytes)) = some (some (.agg #[.int .i64 0, .int .i64 0, .string ByteArray.empty, .slice none 0 0, .slice none 0 0]), 5, 80) := by kernel_rfl
theorem rel17 {w4 : World} {B I g9 cap : Nat} {et : T} {xv yv u : Value} (h : w4.ownsRow B 56 5 (.slice (some ⟨g9, 0, none⟩) 1 cap) 1 [.int .i64 et.k, .int .i64 et.n, .string et.s, xv, yv]) (hI : I < B) : five (w4.setCell ⟨I, 3, none⟩ u) g9 0 et xv yv := by
  have hg := (World.ownsRow.lt h g9 rfl).1
  have hb : (w4.setCell ⟨I, 3, none⟩ u).heap[g9]? = w4.heap[g9]? := Below.heap_setCell _ _ _ _ (by show g9 ≠ I; omega)
  have k : ∀ r, r < 5 → (w4.setCell ⟨I, 3, none⟩ u).cell? ⟨g9, r, none⟩ = [Value.int .i64 et.k, .int .i64 et.n, .string et.s, xv, yv][r]? := fun r hr => (World.cell?_of_block (w := w4) (a := ⟨g9, r, none⟩) hb).trans (World.ownsRow.cellAt h r (by omega))
  exact ⟨k 0 (by omega), k 1 (by omega), k 2 (by omega), k 3 (by omega), k 4 (by omega)⟩
theorem made_end {H n m nc mc : Nat} {w x y : World} {na ma : Option Addr} {sz qu s q : Int} {ag : ByteArray} {nl yl mv : Value} {l : List (ByteArray × Int)} {es : List PE} (hS : w.heap.size = H) (hm : RG H w mv es) (h : MQ H w x na ma n m nc mc sz qu ag nl s q yl l (mdE es)) (hE : Besides (H + 1) x y) :
    RNs y nl l ∧ RG y.heap.size y yl (mdE es) ∧ capped nl ∧ capped yl ∧ Below w.heap.size w y := by
  obtain ⟨h1, h2, h3, h4⟩ := h
  have hg : x.grownBy y (some (H + 1)) := ⟨hE.os, hE.tape, hE.output, hE.size, fun k hk hn => hE.block k hk (fun e => hn (by rw [e]))⟩
  have k2 := h2.kept hg (owns_ne h2 (by omega))
  have k3 := h3.kept hg (owns_ne h3 (by omega))
  have hb : Below H w y := ⟨hE.os.trans h4.os, hE.tape.trans h4.tape, hE.output.trans h4.output, Nat.le_trans h4.size hE.size, fun r hr => (hE.block r (by have := h4.size; omega) (by omega)).trans (h4.block r hr)⟩
  refine ⟨names_of k2, rg_of_gr (A := H) ⟨k3, fun e he => ?_⟩ (by have := hb.size; omega), fun a n c e => by subst e; obtain ⟨_, _, e9⟩ := ownForm h2; cases e9; exact own_cap h2 _ _ rfl, fun a n c e => by subst e; obtain ⟨_, _, e9⟩ := ownForm h3; cases e9; exact own_cap h3 _ _ rfl, by rw [hS]; exact hb⟩
  have he2 : e ∈ es := (mdE_mem es [] e he).resolve_left (fun h => by cases h)
  exact RV.keep (fun _ h => h) hb.size (fun b hb' hl => hb.block b hb') _ _ _ (hm.rv e he2)
def quI (q : Int) : Int := if q < 0 then 0 else q
set_option maxHeartbeats 16000000 in
set_option maxRecDepth 100000 in
theorem made21 (na ma : Option Addr) (nc mc : Nat) (ns : List (ByteArray × Int)) (sz qu : Int) (ag : ByteArray) (es : List PE) (w : World) (hn : RNs w (.slice na ns.length nc) ns) (hm : RG w.heap.size w (.slice ma es.length mc) es) (hl : ns.length ≤ 1048576) (hl2 : es.length ≤ 1048576) (hok : ∀ e ∈ es, e.t.ok) :
    Calls Try.prog 21 #[.agg #[.slice na ns.length nc, .int .i64 sz, .int .i64 qu, .string ag, .slice ma es.length mc]] w fun e w' => ∃ nv yv, e = .returned (.agg #[nv, .int .i64 (wiI sz 1048577), .int .i64 (quI qu), .string ag, yv]) ∧ RNs w' nv (mdN ns) ∧ RG w'.heap.size w' yv (mdE es) ∧ capped nv ∧ capped yv ∧ Below w.heap.size w w' := by
  obtain ⟨i0, hi, hz0, hz1, hz2⟩ := info_parts info59s
  obtain ⟨i5, hi5, hy0, hy1, hy2⟩ := info_parts info56v
  have HN := Lib.hid hn
  have HM := Lib.hid hm
  have HOK := Lib.hid hok
  obtain ⟨na', nc', e0, hx⟩ := id hn
  cases e0
  have HX := Lib.hid hx
  obtain ⟨ma', mc', e0, hmc, hxm⟩ := id hm
  cases e0
  have HXM := Lib.hid hxm
  clear hx hxm hmc hn hm hok
  have HW0 : Hid (Below w.heap.size w (((w.alloc (.cells #[.slice na ns.length nc, .int .i64 sz, .int .i64 qu, .string ag, .slice ma es.length mc] 35)).alloc (.cells #[.slice none 0 0, .int .i64 0, .int .i64 0, .string ⟨#[]⟩, .slice none 0 0] 35)).alloc (.cells #[.slice none 0 0, .int .i64 0, .int .i64 0, .string ag, .slice none 0 0] 35))) := (((Below.refl _ _).alloc (Nat.le_refl _) _).alloc (by simp) _).alloc (by simp; omega) _
  have HMI0 : Hid (MI w.heap.size (((w.alloc (.cells #[.slice na ns.length nc, .int .i64 sz, .int .i64 qu, .string ag, .slice ma es.length mc] 35)).alloc (.cells #[.slice none 0 0, .int .i64 0, .int .i64 0, .string ⟨#[]⟩, .slice none 0 0] 35)).alloc (.cells #[.slice none 0 0, .int .i64 0, .int .i64 0, .string ag, .slice none 0 0] 35)) na ma ns.length es.length nc mc sz qu ag (.slice none 0 0) 0 0 (.slice none 0 0)) := by
    refine ⟨?_, ?_, ?_, by simp⟩
    · exact (Below.heap_alloc _ _ _ (by simp; omega)).trans ((Below.heap_alloc _ _ _ (by simp)).trans (heap_new _ _))
    · exact (Below.heap_alloc _ _ _ (by simp)).trans (by have := heap_new (w.alloc (.cells #[.slice na ns.length nc, .int .i64 sz, .int .i64 qu, .string ag, .slice ma es.length mc] 35)) (.cells #[.slice none 0 0, .int .i64 0, .int .i64 0, .string ⟨#[]⟩, .slice none 0 0] 35); simpa using this)
    · have := heap_new ((w.alloc (.cells #[.slice na ns.length nc, .int .i64 sz, .int .i64 qu, .string ag, .slice ma es.length mc] 35)).alloc (.cells #[.slice none 0 0, .int .i64 0, .int .i64 0, .string ⟨#[]⟩, .slice none 0 0] 35)) (.cells #[.slice none 0 0, .int .i64 0, .int .i64 0, .string ag, .slice none 0 0] 35)
      simpa using this
  generalize hnn : ns.length = n at *
  generalize hmm : es.length = m at *
  have HNN := Lib.hid hnn
  have HMM := Lib.hid hmm
  clear hnn hmm
  go_enter Try.func21, Try.ntmps21
  go_upto_region 2 with fail
  generalize (((w.alloc (.cells #[.slice na n nc, .int .i64 sz, .int .i64 qu, .string ag, .slice ma m mc] 35)).alloc (.cells #[.slice none 0 0, .int .i64 0, .int .i64 0, .string ⟨#[]⟩, .slice none 0 0] 35)).alloc (.cells #[.slice none 0 0, .int .i64 0, .int .i64 0, .string ag, .slice none 0 0] 35)) = w0 at *
  generalize hvb : w.heap.size = H at *
  have HS := Lib.hid hvb
  clear hvb
  have HQ0 : Hid (MQ H w w0 na ma n m nc mc sz qu ag (.slice none 0 0) 0 0 (.slice none 0 0) [] []) := ⟨HMI0.out, World.ownsRow_nil _ _ _ _, World.ownsRow_nil _ _ _ _, HW0.out⟩
  clear HMI0 HW0
  go_wp2_with fail
  go_loopw [4] (fun ti wr => ∃ i nl, i ≤ n ∧ ti = .int .i64 ((i : Nat) : Int) ∧ Hid (MQ H w wr na ma n m nc mc sz qu ag nl 0 0 (.slice none 0 0) (mdN (ns.take i)) [])) (fun ti _ => n - (intOf ti).toNat)
  case atStart => exact ⟨0, _, Nat.zero_le _, rfl, HQ0.out⟩
  case round =>
    obtain ⟨i, nl, hin, rfl, HQ⟩ := hrel
    clear HQ0
    obtain ⟨b0, b1, b2, b3, b4⟩ := HQ.out.1.box
    by_cases hlt : i < n
    · obtain ⟨x, hx⟩ : ∃ x, ns[i]? = some x := ⟨_, List.getElem?_eq_getElem (by have := HNN.out; omega)⟩
      obtain ⟨g, o, rfl, hg, hcc⟩ := HX.out.resolve_left (fun e => by rw [e] at hx; simp at hx)
      obtain ⟨xs, xi⟩ := x
      have g0 : wr.cell? ⟨g, o + i * 2, none⟩ = some (.string xs) := Below.cellS HQ.out.2.2.2 (by rw [HS.out]; exact Nat.le_refl _) (hcc i _ hx).1
      have g1 : wr.cell? ⟨g, o + i * 2 + 1, none⟩ = some (.int .i64 xi) := Below.cellS HQ.out.2.2.2 (by rw [HS.out]; exact Nat.le_refl _) (hcc i _ hx).2
      have HXI := Lib.hid hx
      have hgb : g < H ∧ H < H + 3 := ⟨by have := HS.out; omega, by omega⟩
      have HT : Hid (TF H g (.slice (some ⟨g, o, none⟩) n nc) (o + i * 2) xs xi wr) := ⟨b0, g0, g1⟩
      clear hcc hx hg b1 b2 b3 b4
      generalize hle : mdN (ns.take i) = l at *
      have HLE := Lib.hid hle
      have HLL : Hid (l.length ≤ 1048576) := by
        rw [← HLE.out]
        have := mdN_len (ns.take i) []
        have h2 : (ns.take i).length ≤ i := by rw [List.length_take]; omega
        have h3 : (mdN (ns.take i)).length ≤ ([] : List (ByteArray × Int)).length + (ns.take i).length := this
        simp only [List.length_nil] at h3
        show _ ≤ _
        omega
      clear hle
      go_upto_region 5 with fail
      clear b0 g0 g1
      refine wp_region_held_drew (S := TF H g (.slice (some ⟨g, o, none⟩) n nc) (o + i * 2) xs xi) (by kernel_rfl) (HT.out.keep (belowDrew1 wr)) (fun hHeld => ?_)
      refine wpAnyH_take (i := 0) (v := .pointer (some ⟨H + 1 + 1, 0, none⟩)) rfl (by kernel_rfl) (by kernel_rfl) (by kernel_rfl) (fun _ _ _ h => h) (Or.inl ⟨by rfl, fun w hw => by go_simp⟩) hHeld ?_
      simp only [Act.put, List.getElem_toArray, List.getElem_cons_zero, List.setIfInBounds_toArray, List.set_cons_zero, List.set_cons_succ]
      refine wpAnyH_take (i := 2) (v := .pointer (some ⟨H, 0, none⟩)) rfl (by kernel_rfl) (by kernel_rfl) (by kernel_rfl) (fun _ _ _ h => h) (Or.inl ⟨by rfl, fun w hw => by go_simp⟩) hHeld ?_
      simp only [Act.put, List.getElem_toArray, List.getElem_cons_zero, List.getElem_cons_succ, List.setIfInBounds_toArray, List.set_cons_zero, List.set_cons_succ]
      refine wpAnyH_take (i := 3) (v := .slice (some ⟨g, o, none⟩) n nc) rfl (by kernel_rfl) (by kernel_rfl) (by kernel_rfl) (fun _ _ _ h => h) (Or.inl ⟨by rfl, fun w hw => by obtain ⟨s0, s1, s2⟩ := hw; go_simp⟩) hHeld ?_
      simp only [Act.put, List.getElem_toArray, List.getElem_cons_zero, List.getElem_cons_succ, List.setIfInBounds_toArray, List.set_cons_zero, List.set_cons_succ]
      refine wpAnyH_take (i := 4) (v := .int .i64 (i : Int)) rfl (by kernel_rfl) (by kernel_rfl) (by kernel_rfl) (fun _ _ _ h => h) (Or.inl ⟨by rfl, fun w hw => by go_simp⟩) hHeld ?_
      simp only [Act.put, List.getElem_toArray, List.getElem_cons_zero, List.getElem_cons_succ, List.setIfInBounds_toArray, List.set_cons_zero, List.set_cons_succ]
      refine wpAnyH_take (i := 5) (v := .pointer (some ⟨g, o + i * 2, none⟩)) rfl (by kernel_rfl) (by kernel_rfl) (by kernel_rfl) (fun _ _ _ h => h) (Or.inl ⟨by rfl, fun w hw => by go_simp⟩) hHeld ?_
      simp only [Act.put, List.getElem_toArray, List.getElem_cons_zero, List.getElem_cons_succ, List.setIfInBounds_toArray, List.set_cons_zero, List.set_cons_succ]
      refine wpAnyH_take (i := 6) (v := .pointer (some ⟨g, o + i * 2, none⟩)) rfl (by kernel_rfl) (by kernel_rfl) (by kernel_rfl) (fun _ _ _ h => h) (Or.inl ⟨by rfl, fun w hw => by go_simp⟩) hHeld ?_
      simp only [Act.put, List.getElem_toArray, List.getElem_cons_zero, List.getElem_cons_succ, List.setIfInBounds_toArray, List.set_cons_zero, List.set_cons_succ]
      refine wpAnyH_take (i := 7) (v := .string xs) rfl (by kernel_rfl) (by kernel_rfl) (by kernel_rfl) (fun _ _ _ h => h) (Or.inl ⟨by rfl, fun w hw => by obtain ⟨s0, s1, s2⟩ := hw; go_simp⟩) hHeld ?_
      simp only [Act.put, List.getElem_toArray, List.getElem_cons_zero, List.getElem_cons_succ, List.setIfInBounds_toArray, List.set_cons_zero, List.set_cons_succ]
      refine wpAnyH_take (i := 8) (v := .pointer (some ⟨H, 0, none⟩)) rfl (by kernel_rfl) (by kernel_rfl) (by kernel_rfl) (fun _ _ _ h => h) (Or.inl ⟨by rfl, fun w hw => by go_simp⟩) hHeld ?_
      simp only [Act.put, List.getElem_toArray, List.getElem_cons_zero, List.getElem_cons_succ, List.setIfInBounds_toArray, List.set_cons_zero, List.set_cons_succ]
      refine wpAnyH_take (i := 9) (v := .slice (some ⟨g, o, none⟩) n nc) rfl (by kernel_rfl) (by kernel_rfl) (by kernel_rfl) (fun _ _ _ h => h) (Or.inl ⟨by rfl, fun w hw => by obtain ⟨s0, s1, s2⟩ := hw; go_simp⟩) hHeld ?_
      simp only [Act.put, List.getElem_toArray, List.getElem_cons_zero, List.getElem_cons_succ, List.setIfInBounds_toArray, List.set_cons_zero, List.set_cons_succ]
      refine wpAnyH_take (i := 10) (v := .int .i64 (i : Int)) rfl (by kernel_rfl) (by kernel_rfl) (by kernel_rfl) (fun _ _ _ h => h) (Or.inl ⟨by rfl, fun w hw => by go_simp⟩) hHeld ?_
      simp only [Act.put, List.getElem_toArray, List.getElem_cons_zero, List.getElem_cons_succ, List.setIfInBounds_toArray, List.set_cons_zero, List.set_cons_succ]
      refine wpAnyH_take (i := 11) (v := .pointer (some ⟨g, o + i * 2, none⟩)) rfl (by kernel_rfl) (by kernel_rfl) (by kernel_rfl) (fun _ _ _ h => h) (Or.inl ⟨by rfl, fun w hw => by go_simp⟩) hHeld ?_
      simp only [Act.put, List.getElem_toArray, List.getElem_cons_zero, List.getElem_cons_succ, List.setIfInBounds_toArray, List.set_cons_zero, List.set_cons_succ]
      refine wpAnyH_take (i := 12) (v := .pointer (some ⟨g, o + i * 2 + 1, none⟩)) rfl (by kernel_rfl) (by kernel_rfl) (by kernel_rfl) (fun _ _ _ h => h) (Or.inl ⟨by rfl, fun w hw => by go_simp⟩) hHeld ?_
      simp only [Act.put, List.getElem_toArray, List.getElem_cons_zero, List.getElem_cons_succ, List.setIfInBounds_toArray, List.set_cons_zero, List.set_cons_succ]
      refine wpAnyH_take (i := 13) (v := .int .i64 xi) rfl (by kernel_rfl) (by kernel_rfl) (by kernel_rfl) (fun _ _ _ h => h) (Or.inl ⟨by rfl, fun w hw => by obtain ⟨s0, s1, s2⟩ := hw; go_simp⟩) hHeld ?_
      simp only [Act.put, List.getElem_toArray, List.getElem_cons_zero, List.getElem_cons_succ, List.setIfInBounds_toArray, List.set_cons_zero, List.set_cons_succ]
      have HQ2 := Lib.hid (HQ.out.keep (belowDrew1 wr))
      have HT2 := Lib.hid (HT.out.keep (belowDrew1 wr))
      clear HQ HT
      have HQ := HQ2
      have HT := HT2
      clear HQ2 HT2
      generalize wr.drew = v1 at *
      refine wpAnyH_ready (rs := [1, 14]) (by kernel_rfl) (by simp) ?_
      refine AllReadyH.cons (o := _) rfl (fun K hK => ?_) (AllReadyH.cons (o := _) rfl (fun K hK => ?_) AllReadyH.nil)
      · obtain ⟨m0, m1, m2, m3, m4, mf⟩ := HQ.out.1.xs
        go_simp
        refine hK _ _ HT.out (fun hHeld => ?_)
        clear hK K m0 m1 m2 m3 m4 mf
        refine wpAnyH_ready (rs := [14]) (by kernel_rfl) (by simp) ?_
        refine AllReadyH.cons (o := _) rfl (fun K hK => ?_) AllReadyH.nil
        go_simp
        refine (within31 xi 256 (by decide) (by decide) v1).mono ?_
        rintro e v2 ⟨rfl, e9⟩
        obtain rfl : v1 = v2 := e9.symm
        go_wp2_with fail
        refine hK _ _ HT.out (fun hHeld => ?_)
        clear hK K
        refine wpAnyH_take (i := 15) (v := .agg #[.string xs, .int .i64 (wiI xi 256)]) rfl (by kernel_rfl) (by kernel_rfl) (by kernel_rfl) (fun _ _ _ h => h) (Or.inl ⟨by rfl, fun w hw => by go_simp⟩) hHeld ?_
        simp only [Act.put, List.getElem_toArray, List.getElem_cons_zero, List.getElem_cons_succ, List.setIfInBounds_toArray, List.set_cons_zero, List.set_cons_succ]
        refine wpAnyH_ready (rs := [16]) (by kernel_rfl) (by simp) ?_
        refine AllReadyH.cons (o := _) rfl (fun K hK => ?_) AllReadyH.nil
        go_simp
        have HPUT := Lib.hid (put30 nl l xs (wiI xi 256) v1 (names_of HQ.out.2.1) (by have := HLL.out; omega))
        refine HPUT.out.mono ?_
        rintro e v3 ⟨nl3, rfl, hown, b⟩
        obtain ⟨pa, pc, rfl⟩ := ownForm hown
        have HQ3 := Lib.hid (HQ.out.put hown b)
        have HT3 := Lib.hid (HT.out.keep b)
        have HQK := Lib.hid (HQ.out.keep b)
        have hlen3 : (ptN l xs (wiI xi 256)).length ≤ l.length + 1 := ptN_len _ _ _
        clear HQ HT HPUT hown b
        go_wp2_with fail
        refine hK _ _ HT3.out (fun hHeld => ?_)
        clear hK K
        refine wpAnyH_take (i := 17) (v := .pointer (some ⟨H + 1 + 1, 0, none⟩)) rfl (by kernel_rfl) (by kernel_rfl) (by kernel_rfl) (fun _ _ _ h => h) (Or.inl ⟨by rfl, fun w hw => by go_simp⟩) hHeld ?_
        simp only [Act.put, List.getElem_toArray, List.getElem_cons_zero, List.getElem_cons_succ, List.setIfInBounds_toArray, List.set_cons_zero, List.set_cons_succ]
        refine wpAnyH_ready (rs := [18]) (by kernel_rfl) (by simp) ?_
        refine AllReadyH.cons (o := _) rfl (fun K hK => ?_) AllReadyH.nil
        obtain ⟨m0, m1, m2, m3, m4, mf⟩ := HQK.out.1.xs
        have mf0 := mf 0
        go_simp
        refine hK _ _ (HT3.out.set hgb.1) (fun hHeld => ?_)
        clear hK K m0 m1 m2 m3 m4 mf mf0
        refine wpAnyH_done (by kernel_rfl) ?_ _
        clear hHeld
        have HNX : Hid (MQ H w (v3.setCell ⟨H + 1 + 1, 0, none⟩ (.slice pa (ptN l xs (wiI xi 256)).length pc)) (some ⟨g, o, none⟩) ma n m nc mc sz qu ag (.slice pa (ptN l xs (wiI xi 256)).length pc) 0 0 (.slice none 0 0) (mdN (ns.take (i + 1))) []) := by
          rw [mdN_snoc HXI.out, HLE.out]
          exact HQ3.out
        clear HQK HQ3 HT3
        go_wp2
        exact ⟨⟨i + 1, _, by omega, by go_num, HNX.out⟩, by simp [intOf]; omega⟩
      · go_simp
        refine (within31 xi 256 (by decide) (by decide) v1).mono ?_
        rintro e v2 ⟨rfl, e9⟩
        obtain rfl : v1 = v2 := e9.symm
        go_wp2_with fail
        refine hK _ _ HT.out (fun hHeld => ?_)
        clear hK K
        refine wpAnyH_take (i := 15) (v := .agg #[.string xs, .int .i64 (wiI xi 256)]) rfl (by kernel_rfl) (by kernel_rfl) (by kernel_rfl) (fun _ _ _ h => h) (Or.inl ⟨by rfl, fun w hw => by go_simp⟩) hHeld ?_
        simp only [Act.put, List.getElem_toArray, List.getElem_cons_zero, List.getElem_cons_succ, List.setIfInBounds_toArray, List.set_cons_zero, List.set_cons_succ]
        refine wpAnyH_ready (rs := [1]) (by kernel_rfl) (by simp) ?_
        refine AllReadyH.cons (o := _) rfl (fun K hK => ?_) AllReadyH.nil
        obtain ⟨m0, m1, m2, m3, m4, mf⟩ := HQ.out.1.xs
        go_simp
        refine hK _ _ HT.out (fun hHeld => ?_)
        clear hK K m0 m1 m2 m3 m4 mf
        refine wpAnyH_ready (rs := [16]) (by kernel_rfl) (by simp) ?_
        refine AllReadyH.cons (o := _) rfl (fun K hK => ?_) AllReadyH.nil
        go_simp
        have HPUT := Lib.hid (put30 nl l xs (wiI xi 256) v1 (names_of HQ.out.2.1) (by have := HLL.out; omega))
        refine HPUT.out.mono ?_
        rintro e v3 ⟨nl3, rfl, hown, b⟩
        obtain ⟨pa, pc, rfl⟩ := ownForm hown
        have HQ3 := Lib.hid (HQ.out.put hown b)
        have HT3 := Lib.hid (HT.out.keep b)
        have HQK := Lib.hid (HQ.out.keep b)
        have hlen3 : (ptN l xs (wiI xi 256)).length ≤ l.length + 1 := ptN_len _ _ _
        clear HQ HT HPUT hown b
        go_wp2_with fail
        refine hK _ _ HT3.out (fun hHeld => ?_)
        clear hK K
        refine wpAnyH_take (i := 17) (v := .pointer (some ⟨H + 1 + 1, 0, none⟩)) rfl (by kernel_rfl) (by kernel_rfl) (by kernel_rfl) (fun _ _ _ h => h) (Or.inl ⟨by rfl, fun w hw => by go_simp⟩) hHeld ?_
        simp only [Act.put, List.getElem_toArray, List.getElem_cons_zero, List.getElem_cons_succ, List.setIfInBounds_toArray, List.set_cons_zero, List.set_cons_succ]
        refine wpAnyH_ready (rs := [18]) (by kernel_rfl) (by simp) ?_
        refine AllReadyH.cons (o := _) rfl (fun K hK => ?_) AllReadyH.nil
        obtain ⟨m0, m1, m2, m3, m4, mf⟩ := HQK.out.1.xs
        have mf0 := mf 0
        go_simp
        refine hK _ _ (HT3.out.set hgb.1) (fun hHeld => ?_)
        clear hK K m0 m1 m2 m3 m4 mf mf0
        refine wpAnyH_done (by kernel_rfl) ?_ _
        clear hHeld
        have HNX : Hid (MQ H w (v3.setCell ⟨H + 1 + 1, 0, none⟩ (.slice pa (ptN l xs (wiI xi 256)).length pc)) (some ⟨g, o, none⟩) ma n m nc mc sz qu ag (.slice pa (ptN l xs (wiI xi 256)).length pc) 0 0 (.slice none 0 0) (mdN (ns.take (i + 1))) []) := by
          rw [mdN_snoc HXI.out, HLE.out]
          exact HQ3.out
        clear HQK HQ3 HT3
        go_wp2
        exact ⟨⟨i + 1, _, by omega, by go_num, HNX.out⟩, by simp [intOf]; omega⟩
    · obtain rfl : n = i := by omega
      have hQe : mdN (ns.take n) = mdN ns := by rw [List.take_of_length_le (by have := HNN.out; omega)]
      rw [hQe] at HQ
      clear hQe b0 b3 b4
      obtain ⟨b0, b1, b2, b3, b4⟩ := HQ.out.1.box
      obtain ⟨m0, m1, m2, m3, m4, mf⟩ := HQ.out.1.xs
      have mf1 := mf 1
      have mf2 := mf 2
      clear mf hlt hin HX HNN hl
      go_wp2_with fail
      refine (within31 sz 1048577 (by decide) (by decide) _).mono ?_
      rintro e v2 ⟨rfl, e9⟩
      obtain rfl : wr = v2 := e9.symm
      go_upto_region 8 with fail
      have HQ7 := Lib.hid ((HQ.out.setA (wiI sz 1048577)).setB qu)
      clear HQ b0 b1 b2 b3 b4 m0 m1 m2 m3 m4 mf1 mf2
      generalize (wr.setCell ⟨H + 1 + 1, 1, none⟩ (.int .i64 (wiI sz 1048577))).setCell ⟨H + 1 + 1, 2, none⟩ (.int .i64 qu) = w7 at *
      obtain ⟨m0, m1, m2, m3, m4, mf⟩ := HQ7.out.1.xs
      have mf2 := mf 2
      clear mf
      go_upto_if 47 with fail
      go_cut [] from 48 to 48 (fun wx => Hid (MQ H w wx na ma n m nc mc sz qu ag nl (wiI sz 1048577) (quI qu) (.slice none 0 0) (mdN ns) []))
      case first =>
        by_cases hq : qu < 0
        · have HE : Hid (quI qu = 0) := if_pos hq
          go_wp2_with fail
          go_meet
          case rel => rw [HE.out]; exact HQ7.out.setB 0
        · have HE : Hid (quI qu = qu) := if_neg hq
          go_wp2_with fail
          go_meet
          case rel => rw [HE.out]; exact HQ7.out
      case rest =>
        have HQ8 := hcut
        clear hcut HQ7 m0 m1 m2 m3 m4 mf2
        go_wp2_with fail
        go_loopw [5] (fun ti wr => ∃ i yl, i ≤ m ∧ ti = .int .i64 ((i : Nat) : Int) ∧ Hid (MQ H w wr na ma n m nc mc sz qu ag nl (wiI sz 1048577) (quI qu) yl (mdN ns) (mdE (es.take i)))) (fun ti _ => m - (intOf ti).toNat)
        case atStart => exact ⟨0, _, Nat.zero_le _, rfl, HQ8.out⟩
        case round =>
          clear HQ8
          obtain ⟨i, yl, hin, rfl, HQ⟩ := hrel
          obtain ⟨b0, b1, b2, b3, b4⟩ := HQ.out.1.box
          by_cases hlt : i < m
          · obtain ⟨e, he⟩ : ∃ e, es[i]? = some e := ⟨_, List.getElem?_eq_getElem (by have := HMM.out; omega)⟩
            obtain ⟨g, o, rfl, hg, hcc⟩ := HXM.out.resolve_left (fun e => by rw [e] at he; simp at he)
            obtain ⟨ek, et, ex, ey⟩ := e
            obtain ⟨hrv, hc6⟩ := hcc i _ he
            obtain ⟨⟨xa, xn, xc, hex⟩, ⟨ya, yn, yc, hey⟩⟩ := hrv.slices
            simp only at hex hey
            subst hex hey
            have cw : ∀ r v, r < 6 → (gC (⟨ek, et, .slice xa xn xc, .slice ya yn yc⟩ : PE))[r]? = some v → wr.cell? ⟨g, o + i * 6 + r, none⟩ = some v := fun r v hr hv => Below.cellS HQ.out.2.2.2 (by rw [HS.out]; exact Nat.le_refl _) ((hc6 r hr).trans hv)
            have HE : Hid (SE H g (.slice (some ⟨g, o, none⟩) m mc) (o + i * 6) ek et xa xn xc ya yn yc wr) := ⟨b4, cw 0 _ (by omega) rfl, cw 1 _ (by omega) rfl, cw 2 _ (by omega) rfl, cw 3 _ (by omega) rfl, cw 4 _ (by omega) rfl, cw 5 _ (by omega) rfl⟩
            have HRV : Hid (RV (fun b => b < H) w et (.slice xa xn xc) (.slice ya yn yc)) := hrv
            have HTO : Hid (et.ok) := HOK.out _ (List.mem_of_getElem? he)
            have HXI := Lib.hid he
            have hgb : g < H := by have := HS.out; omega
            have HO2 : Hid (owB ek = (ek.toList == [109] || (ek.toList == [109, 101, 116, 97, 100, 97, 116, 97, 95, 115, 105, 122, 101] || (ek.toList == [114, 101, 113, 113] || ek.toList == [118])))) := rfl
            clear hcc hrv hc6 cw he hg b0 b1 b2 b3
            obtain ⟨s0, s1, s2, s3, s4, s5, s6⟩ := HE.out
            go_upto_region 14 with fail
            clear s2 s3 s4 s5 s6
            go_cut [7] from 62 to 75 (fun s7 wx => s7 = .bool (owB ek) ∧ wx = wr)
            case first =>
              by_cases h1 : ek.toList = [109]
              · have HOB : Hid (owB ek = true) := by show _ = true; rw [HO2.out]; simp [h1]
                go_wp2_with fail
                go_meet
                case rel => exact ⟨by rw [HOB.out], rfl⟩
              by_cases h2 : ek.toList = [109, 101, 116, 97, 100, 97, 116, 97, 95, 115, 105, 122, 101]
              · have HOB : Hid (owB ek = true) := by show _ = true; rw [HO2.out]; simp [h2]
                go_wp2_with fail
                go_meet
                case rel => exact ⟨by rw [HOB.out], rfl⟩
              by_cases h3 : ek.toList = [114, 101, 113, 113]
              · have HOB : Hid (owB ek = true) := by show _ = true; rw [HO2.out]; simp [h3]
                go_wp2_with fail
                go_meet
                case rel => exact ⟨by rw [HOB.out], rfl⟩
              by_cases h4 : ek.toList = [118]
              · have HOB : Hid (owB ek = true) := by show _ = true; rw [HO2.out]; simp [h4]
                go_wp2_with fail
                go_meet
                case rel => exact ⟨by rw [HOB.out], rfl⟩
              have HOB : Hid (owB ek = false) := by show _ = false; rw [HO2.out]; simp [h1, h2, h3, h4]
              go_wp2_with fail
              go_meet
              case rel => exact ⟨by rw [HOB.out]; simp [h1, h2, h3, h4], rfl⟩
            case rest =>
              obtain ⟨rfl, hwc⟩ := hcut
              obtain rfl : wr = wc := hwc.symm
              clear hwc
              generalize hacc : mdE (es.take i) = acc at *
              have HACC := Lib.hid hacc
              have hlen : acc.length ≤ 1048576 := by
                have h1 := mdE_len (es.take i) []
                have h2 : (es.take i).length ≤ i := by rw [List.length_take]; omega
                have h3 : (mdE (es.take i)).length ≤ ([] : List PE).length + (es.take i).length := h1
                rw [hacc] at h3
                simp only [List.length_nil] at h3
                omega
              clear hacc
              obtain ⟨la, lc, hyl⟩ := ownForm HQ.out.2.2.1
              subst hyl
              obtain ⟨m0, m1, m2, m3, m4, mf⟩ := HQ.out.1.xs
              clear m0 m1 m2 m3 mf
              go_upto_region 15 with fail
              go_cut [8] from 76 to 92 (fun s8 wx => s8 = .bool (rsB acc ek) ∧ wx = wr)
              case first =>
                cases hgl : acc.getLast? with
                | none =>
                  have hR : Hid (rsB acc ek = true) := by show _ = true; unfold rsB; rw [hgl]
                  have hL0 : acc.length = 0 := by rw [List.getLast?_eq_none_iff.1 hgl]; rfl
                  rw [hL0] at m4
                  clear hL0 hgl hlen
                  go_wp2_with fail
                  go_meet
                  case rel => exact ⟨by rw [hR.out], rfl⟩
                | some e9 =>
                  have hR : Hid (rsB acc ek = Op.bytesLess e9.key.toList ek.toList) := by show _ = _; unfold rsB; rw [hgl]
                  have hne0 : acc ≠ [] := fun h => by rw [h] at hgl; cases hgl
                  have hpos := List.length_pos_iff.2 hne0
                  obtain ⟨k, hk⟩ : ∃ k, acc.length = k + 1 := ⟨acc.length - 1, by omega⟩
                  clear hne0 hpos
                  have hlast : acc[k]? = some e9 := by rw [← hgl, List.getLast?_eq_getElem?, hk]; rfl
                  have HOW := Lib.hid HQ.out.2.2.1
                  rcases HOW.out.2 with ⟨_, h0⟩ | ⟨q9, cap9, cur9, e1, _⟩
                  · omega
                  cases e1
                  have cq : wr.cell? ⟨q9, k * 6, none⟩ = some (.string e9.key) := by
                    have h9 := World.ownsRow.cellAt HOW.out (k * 6 + 0) (by omega)
                    rw [gCs_get acc k e9 0 (by omega) hlast] at h9
                    exact h9
                  have htri := bytes_tri ek.toList e9.key.toList
                  rw [hk] at m4
                  have hwr : IntKind.i64.wrap (((k + 1 : Nat) : Int) - 1) = (k : Int) := by rw [IntKind.wrap_i64]; omega
                  have hwr2 : IntKind.i64.wrap ((k : Int) + 1 - 1) = (k : Int) := by rw [IntKind.wrap_i64]; omega
                  have hwr3 : IntKind.i64.wrap (k : Int) = (k : Int) := by rw [IntKind.wrap_i64]; omega
                  have hne : (((k + 1 : Nat) : Int) == 0) = false := by simp; omega
                  have hk0 : (0 : Int) ≤ (k : Int) := by omega
                  have hk1 : (k : Int) < ((k + 1 : Nat) : Int) := by omega
                  have HK := Lib.hid hk
                  clear hgl hlast hk HOW
                  cases hll : Op.bytesLess e9.key.toList ek.toList with
                  | true =>
                    have q1 : Op.bytesLess ek.toList e9.key.toList = false := by rw [hll] at htri; cases hq : Op.bytesLess ek.toList e9.key.toList with | false => rfl | true => rw [hq] at htri; cases htri
                    have q2 : (ek.toList == e9.key.toList) = false := by rw [hll, q1] at htri; cases hq : (ek.toList == e9.key.toList) with | false => rfl | true => rw [hq] at htri; cases htri
                    have HL := Lib.hid hll
                    clear htri hll
                    go_wp2_with fail
                    go_meet
                    case rel => exact ⟨by rw [hR.out, HL.out]; first | done | exact congrArg Value.bool (by simp; omega), rfl⟩
                  | false =>
                    cases q1 : Op.bytesLess ek.toList e9.key.toList with
                    | true =>
                      have HL := Lib.hid hll
                      clear htri hll
                      go_wp2_with fail
                      go_meet
                      case rel => exact ⟨by rw [hR.out, HL.out]; first | done | exact congrArg Value.bool (by simp; omega), rfl⟩
                    | false =>
                      have q2 : (ek.toList == e9.key.toList) = true := by rw [hll, q1] at htri; cases hq : (ek.toList == e9.key.toList) with | true => rfl | false => rw [hq] at htri; cases htri
                      have HL := Lib.hid hll
                      clear htri hll
                      go_wp2_with fail
                      go_meet
                      case rel => exact ⟨by rw [hR.out, HL.out]; first | done | exact congrArg Value.bool (by simp; omega), rfl⟩
              case rest =>
                obtain ⟨rfl, hwc⟩ := hcut
                obtain rfl : wr = wc := hwc.symm
                clear hwc m4
                have b16 : Below wr.heap.size wr (wr.alloc (.cells #[.int .i64 3, .int .i64 0, .string ⟨#[]⟩, .slice none 0 0, .slice none 0 0] 56)) := (Below.refl _ _).alloc (Nat.le_refl _) _
                have HIB : Hid ((wr.alloc (.cells #[.int .i64 3, .int .i64 0, .string ⟨#[]⟩, .slice none 0 0, .slice none 0 0] 56)).heap[wr.heap.size]? = some (.cells #[.int .i64 3, .int .i64 0, .string ⟨#[]⟩, .slice none 0 0, .slice none 0 0] 56 (0, 0)) ∧ Below wr.heap.size wr (wr.alloc (.cells #[.int .i64 3, .int .i64 0, .string ⟨#[]⟩, .slice none 0 0, .slice none 0 0] 56)) ∧ (H < wr.heap.size ∧ g < wr.heap.size)) := ⟨heap_new _ _, b16, HE.out.lt⟩
                have HQW := Lib.hid HQ.out
                have HEW := Lib.hid HE.out
                have HQ2 := Lib.hid (HQ.out.keep b16)
                have HE2 := Lib.hid (HE.out.keep b16)
                clear HQ HE b16
                have HQ := HQ2
                have HE := HE2
                clear HQ2 HE2 s0 s1 b4
                go_upto_region 17 with fail
                generalize wr.alloc (.cells #[.int .i64 3, .int .i64 0, .string ⟨#[]⟩, .slice none 0 0, .slice none 0 0] 56) = wr2 at *
                generalize hI : wr.heap.size = I at *
                have HIE := Lib.hid hI
                clear hI
                go_cut [] from 94 to 104 (fun wx => ∃ (g9 cap : Nat), wx.heap[I]? = some (.cells #[.int .i64 3, .int .i64 0, .string ⟨#[]⟩, .slice (some ⟨g9, 0, none⟩) 1 cap, .slice none 0 0] 56 (0, 0)) ∧ five wx g9 0 et (.slice xa xn xc) (.slice ya yn yc) ∧ Below I wr wx)
                case first =>
                  refine wp_region_held_drew (S := SE H g (.slice (some ⟨g, o, none⟩) m mc) (o + i * 6) ek et xa xn xc ya yn yc) (by kernel_rfl) (HE.out.keep (belowDrew1 wr2)) (fun hHeld => ?_)
                  refine wpAnyH_take (i := 0) (v := .pointer (some ⟨I, 3, none⟩)) rfl (by kernel_rfl) (by kernel_rfl) (by kernel_rfl) (fun _ _ _ h => h) (Or.inl ⟨by rfl, fun w hw => by go_simp⟩) hHeld ?_
                  simp only [Act.put, List.getElem_toArray, List.getElem_cons_zero, List.setIfInBounds_toArray, List.set_cons_zero, List.set_cons_succ]
                  refine wpAnyH_take (i := 2) (v := .pointer (some ⟨H, 4, none⟩)) rfl (by kernel_rfl) (by kernel_rfl) (by kernel_rfl) (fun _ _ _ h => h) (Or.inl ⟨by rfl, fun w hw => by go_simp⟩) hHeld ?_
                  simp only [Act.put, List.getElem_toArray, List.getElem_cons_zero, List.getElem_cons_succ, List.setIfInBounds_toArray, List.set_cons_zero, List.set_cons_succ]
                  refine wpAnyH_take (i := 3) (v := .slice (some ⟨g, o, none⟩) m mc) rfl (by kernel_rfl) (by kernel_rfl) (by kernel_rfl) (fun _ _ _ h => h) (Or.inl ⟨by rfl, fun w hw => by obtain ⟨s0, s1, s2, s3, s4, s5, s6⟩ := hw; go_simp⟩) hHeld ?_
                  simp only [Act.put, List.getElem_toArray, List.getElem_cons_zero, List.getElem_cons_succ, List.setIfInBounds_toArray, List.set_cons_zero, List.set_cons_succ]
                  refine wpAnyH_take (i := 4) (v := .int .i64 (i : Int)) rfl (by kernel_rfl) (by kernel_rfl) (by kernel_rfl) (fun _ _ _ h => h) (Or.inl ⟨by rfl, fun w hw => by go_simp⟩) hHeld ?_
                  simp only [Act.put, List.getElem_toArray, List.getElem_cons_zero, List.getElem_cons_succ, List.setIfInBounds_toArray, List.set_cons_zero, List.set_cons_succ]
                  refine wpAnyH_take (i := 5) (v := .pointer (some ⟨g, o + i * 6, none⟩)) rfl (by kernel_rfl) (by kernel_rfl) (by kernel_rfl) (fun _ _ _ h => h) (Or.inl ⟨by rfl, fun w hw => by go_simp⟩) hHeld ?_
                  simp only [Act.put, List.getElem_toArray, List.getElem_cons_zero, List.getElem_cons_succ, List.setIfInBounds_toArray, List.set_cons_zero, List.set_cons_succ]
                  refine wpAnyH_take (i := 6) (v := .pointer (some ⟨g, o + i * 6 + 1, none⟩)) rfl (by kernel_rfl) (by kernel_rfl) (by kernel_rfl) (fun _ _ _ h => h) (Or.inl ⟨by rfl, fun w hw => by go_simp⟩) hHeld ?_
                  simp only [Act.put, List.getElem_toArray, List.getElem_cons_zero, List.getElem_cons_succ, List.setIfInBounds_toArray, List.set_cons_zero, List.set_cons_succ]
                  refine wpAnyH_take (i := 7) (v := .agg #[.int .i64 et.k, .int .i64 et.n, .string et.s, .slice xa xn xc, .slice ya yn yc]) rfl (by kernel_rfl) (by kernel_rfl) (by kernel_rfl) (fun _ _ _ h => h) (Or.inl ⟨by rfl, fun w hw => by obtain ⟨s0, s1, s2, s3, s4, s5, s6⟩ := hw; go_simp⟩) hHeld ?_
                  simp only [Act.put, List.getElem_toArray, List.getElem_cons_zero, List.getElem_cons_succ, List.setIfInBounds_toArray, List.set_cons_zero, List.set_cons_succ]
                  have HQ2 := Lib.hid (HQ.out.keep (belowDrew1 wr2))
                  have HE2 := Lib.hid (HE.out.keep (belowDrew1 wr2))
                  have HI2 : Hid (wr2.drew.heap[I]? = some (.cells #[.int .i64 3, .int .i64 0, .string ⟨#[]⟩, .slice none 0 0, .slice none 0 0] 56 (0, 0)) ∧ Below I wr wr2.drew) := ⟨HIB.out.1, HIB.out.2.1.trans ((belowDrew1 wr2).mono (by rw [← HIE.out]; exact HIB.out.2.1.size))⟩
                  clear HQ HE
                  have HQ := HQ2
                  have HE := HE2
                  clear HQ2 HE2
                  generalize wr2.drew = v1 at *
                  refine wpAnyH_ready (rs := [1, 8]) (by kernel_rfl) (by simp) ?_
                  refine AllReadyH.cons (o := _) rfl (fun K hK => ?_) (AllReadyH.cons (o := _) rfl (fun K hK => ?_) AllReadyH.nil)
                  · have hzi := HI2.out.1
                    have i3 : v1.cell? ⟨I, 3, none⟩ = some (.slice none 0 0) := by simp [World.cell?, hzi]
                    clear hzi
                    go_simp
                    refine hK _ _ HE.out (fun hHeld => ?_)
                    clear hK K i3
                    refine wpAnyH_ready (rs := [8]) (by kernel_rfl) (by simp) ?_
                    refine AllReadyH.cons (o := _) rfl (fun K hK => ?_) AllReadyH.nil
                    go_simp
                    have b : Below v1.heap.size v1 (v1.alloc (.cells #[.int .i64 et.k, .int .i64 et.n, .string et.s, .slice xa xn xc, .slice ya yn yc] 56)) := (Below.refl _ _).alloc (Nat.le_refl _) _
                    have HQ2 := Lib.hid (HQ.out.keep b)
                    have HE2 := Lib.hid (HE.out.keep b)
                    have HI3 : Hid ((v1.alloc (.cells #[.int .i64 et.k, .int .i64 et.n, .string et.s, .slice xa xn xc, .slice ya yn yc] 56)).heap[I]? = some (.cells #[.int .i64 3, .int .i64 0, .string ⟨#[]⟩, .slice none 0 0, .slice none 0 0] 56 (0, 0)) ∧ Below I wr (v1.alloc (.cells #[.int .i64 et.k, .int .i64 et.n, .string et.s, .slice xa xn xc, .slice ya yn yc] 56)) ∧ (v1.alloc (.cells #[.int .i64 et.k, .int .i64 et.n, .string et.s, .slice xa xn xc, .slice ya yn yc] 56)).heap[v1.heap.size]? = some (.cells #[.int .i64 et.k, .int .i64 et.n, .string et.s, .slice xa xn xc, .slice ya yn yc] 56 (0, 0)) ∧ I < (v1.alloc (.cells #[.int .i64 et.k, .int .i64 et.n, .string et.s, .slice xa xn xc, .slice ya yn yc] 56)).heap.size ∧ I < v1.heap.size) := by
                      have hlt := (Array.getElem?_eq_some_iff.1 HI2.out.1).1
                      exact ⟨(b.block _ hlt).trans HI2.out.1, HI2.out.2.trans (b.mono (by rw [← HIE.out]; exact HI2.out.2.size)), heap_new _ _, by simp; omega, hlt⟩
                    clear HQ HE b HI2
                    have HQ := HQ2
                    have HE := HE2
                    clear HQ2 HE2
                    refine hK _ _ HE.out (fun hHeld => ?_)
                    clear hK K
                    generalize v1.alloc (.cells #[.int .i64 et.k, .int .i64 et.n, .string et.s, .slice xa xn xc, .slice ya yn yc] 56) = v3 at *
                    generalize v1.heap.size = vb at *
                    refine wpAnyH_ready (rs := [9]) (by kernel_rfl) (by simp) ?_
                    refine AllReadyH.cons (o := _) rfl (fun K hK => ?_) AllReadyH.nil
                    refine step_append_lies _ (by rfl) (.tmp 95) (.tmp 102) 54 (by rfl) v3.heap.size 56 i5 _ 5 80 Try.underlying54 hi5 hy0 hy1 hy2 rfl (by omega) (.slice none 0 0) 0 [] (by simp [Act.eval]) (World.ownsRow_nil _ _ _ _) ⟨vb, 0, none⟩ 1 1 ([.int .i64 et.k, .int .i64 et.n, .string et.s, .slice xa xn xc, .slice ya yn yc]) (by simp [Act.eval]) rfl (by exact World.news_of_block HI3.out.2.2.1) (by intro u hu; simp at hu; rcases hu with rfl | rfl | rfl | rfl | rfl <;> rfl) (by omega) (by unfold maxLen; omega) (by omega) (Nat.le_refl _) _ rfl ?_
                    intro g9 cap w4 hown4 hgrow hat hlt4
                    have HB4 : Below v3.heap.size v3 w4 := (Below.refl _ _).grown hgrow (Nat.le_refl _) (fun k hk => by simp [Value.ownBlock] at hk)
                    have HQ4 := Lib.hid (HQ.out.keep HB4)
                    have HE4 := Lib.hid (HE.out.keep HB4)
                    have HE5 : Hid (SE H g (.slice (some ⟨g, o, none⟩) m mc) (o + i * 6) ek et xa xn xc ya yn yc (w4.setCell ⟨I, 3, none⟩ (.slice (some ⟨g9, 0, none⟩) 1 cap))) := HE4.out.setI HIB.out.2.2
                    have HW4 : Hid (w4.heap[I]? = some (.cells #[.int .i64 3, .int .i64 0, .string ⟨#[]⟩, .slice none 0 0, .slice none 0 0] 56 (0, 0)) ∧ Below I wr w4 ∧ w4.ownsRow v3.heap.size 56 5 (.slice (some ⟨g9, 0, none⟩) 1 cap) 1 [.int .i64 et.k, .int .i64 et.n, .string et.s, .slice xa xn xc, .slice ya yn yc] ∧ I < v3.heap.size ∧ I ≤ v3.heap.size) := ⟨(HB4.block _ HI3.out.2.2.2.1).trans HI3.out.1, HI3.out.2.1.trans (HB4.mono (by rw [← HIE.out]; exact HI3.out.2.1.size)), hown4, HI3.out.2.2.2.1, by rw [← HIE.out]; exact HI3.out.2.1.size⟩
                    clear HQ HE HB4 hown4 hgrow hat hlt4 HI3
                    simp only [Act.put, List.getElem_toArray, List.getElem_cons_zero, List.getElem_cons_succ, List.setIfInBounds_toArray, List.set_cons_zero, List.set_cons_succ]
                    refine hK _ _ HE4.out (fun hHeld => ?_)
                    clear hK K
                    refine wpAnyH_take (i := 10) (v := .pointer (some ⟨I, 3, none⟩)) rfl (by kernel_rfl) (by kernel_rfl) (by kernel_rfl) (fun _ _ _ h => h) (Or.inl ⟨by rfl, fun w hw => by go_simp⟩) hHeld ?_
                    simp only [Act.put, List.getElem_toArray, List.getElem_cons_zero, List.getElem_cons_succ, List.setIfInBounds_toArray, List.set_cons_zero, List.set_cons_succ]
                    refine wpAnyH_ready (rs := [11]) (by kernel_rfl) (by simp) ?_
                    refine AllReadyH.cons (o := _) rfl (fun K hK => ?_) AllReadyH.nil
                    have hzi := HW4.out.1
                    have i3 : w4.cell? ⟨I, 3, none⟩ = some (.slice none 0 0) := by simp [World.cell?, hzi]
                    have if3 : w4.frozen? ⟨I, 3, none⟩ = false := by simp [World.frozen?, hzi]
                    clear hzi
                    go_simp
                    refine hK _ _ HE5.out (fun hHeld => ?_)
                    clear hK K i3 if3
                    refine wpAnyH_done (by kernel_rfl) ?_ _
                    clear hHeld
                    go_wp2_with fail
                    go_meet
                    case rel => exact ⟨g9, cap, by have := ow.set HW4.out.1 3 (.slice (some ⟨g9, 0, none⟩) 1 cap); simpa using this, rel17 HW4.out.2.2.1 HW4.out.2.2.2.1, HW4.out.2.1.setCell (Nat.le_refl _) _⟩
                  · go_simp
                    have b : Below v1.heap.size v1 (v1.alloc (.cells #[.int .i64 et.k, .int .i64 et.n, .string et.s, .slice xa xn xc, .slice ya yn yc] 56)) := (Below.refl _ _).alloc (Nat.le_refl _) _
                    have HQ2 := Lib.hid (HQ.out.keep b)
                    have HE2 := Lib.hid (HE.out.keep b)
                    have HI3 : Hid ((v1.alloc (.cells #[.int .i64 et.k, .int .i64 et.n, .string et.s, .slice xa xn xc, .slice ya yn yc] 56)).heap[I]? = some (.cells #[.int .i64 3, .int .i64 0, .string ⟨#[]⟩, .slice none 0 0, .slice none 0 0] 56 (0, 0)) ∧ Below I wr (v1.alloc (.cells #[.int .i64 et.k, .int .i64 et.n, .string et.s, .slice xa xn xc, .slice ya yn yc] 56)) ∧ (v1.alloc (.cells #[.int .i64 et.k, .int .i64 et.n, .string et.s, .slice xa xn xc, .slice ya yn yc] 56)).heap[v1.heap.size]? = some (.cells #[.int .i64 et.k, .int .i64 et.n, .string et.s, .slice xa xn xc, .slice ya yn yc] 56 (0, 0)) ∧ I < (v1.alloc (.cells #[.int .i64 et.k, .int .i64 et.n, .string et.s, .slice xa xn xc, .slice ya yn yc] 56)).heap.size ∧ I < v1.heap.size) := by
                      have hlt := (Array.getElem?_eq_some_iff.1 HI2.out.1).1
                      exact ⟨(b.block _ hlt).trans HI2.out.1, HI2.out.2.trans (b.mono (by rw [← HIE.out]; exact HI2.out.2.size)), heap_new _ _, by simp; omega, hlt⟩
                    clear HQ HE b HI2
                    have HQ := HQ2
                    have HE := HE2
                    clear HQ2 HE2
                    refine hK _ _ HE.out (fun hHeld => ?_)
                    clear hK K
                    generalize v1.alloc (.cells #[.int .i64 et.k, .int .i64 et.n, .string et.s, .slice xa xn xc, .slice ya yn yc] 56) = v3 at *
                    generalize v1.heap.size = vb at *
                    refine wpAnyH_ready (rs := [1]) (by kernel_rfl) (by simp) ?_
                    refine AllReadyH.cons (o := _) rfl (fun K hK => ?_) AllReadyH.nil
                    have hzi := HI3.out.1
                    have i3 : v3.cell? ⟨I, 3, none⟩ = some (.slice none 0 0) := by simp [World.cell?, hzi]
                    clear hzi
                    go_simp
                    refine hK _ _ HE.out (fun hHeld => ?_)
                    clear hK K i3
                    refine wpAnyH_ready (rs := [9]) (by kernel_rfl) (by simp) ?_
                    refine AllReadyH.cons (o := _) rfl (fun K hK => ?_) AllReadyH.nil
                    refine step_append_lies _ (by rfl) (.tmp 95) (.tmp 102) 54 (by rfl) v3.heap.size 56 i5 _ 5 80 Try.underlying54 hi5 hy0 hy1 hy2 rfl (by omega) (.slice none 0 0) 0 [] (by simp [Act.eval]) (World.ownsRow_nil _ _ _ _) ⟨vb, 0, none⟩ 1 1 ([.int .i64 et.k, .int .i64 et.n, .string et.s, .slice xa xn xc, .slice ya yn yc]) (by simp [Act.eval]) rfl (by exact World.news_of_block HI3.out.2.2.1) (by intro u hu; simp at hu; rcases hu with rfl | rfl | rfl | rfl | rfl <;> rfl) (by omega) (by unfold maxLen; omega) (by omega) (Nat.le_refl _) _ rfl ?_
                    intro g9 cap w4 hown4 hgrow hat hlt4
                    have HB4 : Below v3.heap.size v3 w4 := (Below.refl _ _).grown hgrow (Nat.le_refl _) (fun k hk => by simp [Value.ownBlock] at hk)
                    have HQ4 := Lib.hid (HQ.out.keep HB4)
                    have HE4 := Lib.hid (HE.out.keep HB4)
                    have HE5 : Hid (SE H g (.slice (some ⟨g, o, none⟩) m mc) (o + i * 6) ek et xa xn xc ya yn yc (w4.setCell ⟨I, 3, none⟩ (.slice (some ⟨g9, 0, none⟩) 1 cap))) := HE4.out.setI HIB.out.2.2
                    have HW4 : Hid (w4.heap[I]? = some (.cells #[.int .i64 3, .int .i64 0, .string ⟨#[]⟩, .slice none 0 0, .slice none 0 0] 56 (0, 0)) ∧ Below I wr w4 ∧ w4.ownsRow v3.heap.size 56 5 (.slice (some ⟨g9, 0, none⟩) 1 cap) 1 [.int .i64 et.k, .int .i64 et.n, .string et.s, .slice xa xn xc, .slice ya yn yc] ∧ I < v3.heap.size ∧ I ≤ v3.heap.size) := ⟨(HB4.block _ HI3.out.2.2.2.1).trans HI3.out.1, HI3.out.2.1.trans (HB4.mono (by rw [← HIE.out]; exact HI3.out.2.1.size)), hown4, HI3.out.2.2.2.1, by rw [← HIE.out]; exact HI3.out.2.1.size⟩
                    clear HQ HE HB4 hown4 hgrow hat hlt4 HI3
                    simp only [Act.put, List.getElem_toArray, List.getElem_cons_zero, List.getElem_cons_succ, List.setIfInBounds_toArray, List.set_cons_zero, List.set_cons_succ]
                    refine hK _ _ HE4.out (fun hHeld => ?_)
                    clear hK K
                    refine wpAnyH_take (i := 10) (v := .pointer (some ⟨I, 3, none⟩)) rfl (by kernel_rfl) (by kernel_rfl) (by kernel_rfl) (fun _ _ _ h => h) (Or.inl ⟨by rfl, fun w hw => by go_simp⟩) hHeld ?_
                    simp only [Act.put, List.getElem_toArray, List.getElem_cons_zero, List.getElem_cons_succ, List.setIfInBounds_toArray, List.set_cons_zero, List.set_cons_succ]
                    refine wpAnyH_ready (rs := [11]) (by kernel_rfl) (by simp) ?_
                    refine AllReadyH.cons (o := _) rfl (fun K hK => ?_) AllReadyH.nil
                    have hzi := HW4.out.1
                    have i3 : w4.cell? ⟨I, 3, none⟩ = some (.slice none 0 0) := by simp [World.cell?, hzi]
                    have if3 : w4.frozen? ⟨I, 3, none⟩ = false := by simp [World.frozen?, hzi]
                    clear hzi
                    go_simp
                    refine hK _ _ HE5.out (fun hHeld => ?_)
                    clear hK K i3 if3
                    refine wpAnyH_done (by kernel_rfl) ?_ _
                    clear hHeld
                    go_wp2_with fail
                    go_meet
                    case rel => exact ⟨g9, cap, by have := ow.set HW4.out.1 3 (.slice (some ⟨g9, 0, none⟩) 1 cap); simpa using this, rel17 HW4.out.2.2.1 HW4.out.2.2.2.1, HW4.out.2.1.setCell (Nat.le_refl _) _⟩
                case rest =>
                  obtain ⟨g9, cap, hbx, hcs, hbw⟩ := hcut
                  have hbw' : Below wr.heap.size wr wc := by rw [HIE.out]; exact hbw
                  have HQ4 := Lib.hid (HQW.out.keep hbw')
                  have HE4 := Lib.hid (HEW.out.keep hbw')
                  have HC5 := Lib.hid hcs
                  have HRV4 : Hid (RV (fun b => b < H) wc et (.slice xa xn xc) (.slice ya yn yc)) := RV.keep (fun _ h => h) HQ4.out.2.2.2.size (fun b hb hl => HQ4.out.2.2.2.block b hb) _ _ _ HRV.out
                  clear HQ HE HIB hcs hbw hbw' HQW HEW HRV
                  cases hob : owB ek with
                  | true =>
                    have HST : Hid (stE acc (⟨ek, et, .slice xa xn xc, .slice ya yn yc⟩ : PE) = acc) := if_neg (fun h => by have h1 : owB ek = false := h.1; rw [hob] at h1; cases h1)
                    clear hob hbx
                    go_wp2
                    exact ⟨⟨i + 1, _, by omega, by go_num, by rw [mdE_snoc HXI.out, HACC.out, HST.out]; exact HQ4.out⟩, by simp [intOf]; omega⟩
                  | false =>
                    cases hrs : rsB acc ek with
                    | false =>
                      have HST : Hid (stE acc (⟨ek, et, .slice xa xn xc, .slice ya yn yc⟩ : PE) = acc) := if_neg (fun h => by have h1 : rsB acc ek = true := h.2.1; rw [hrs] at h1; cases h1)
                      clear hob hrs hbx
                      go_wp2
                      exact ⟨⟨i + 1, _, by omega, by go_num, by rw [mdE_snoc HXI.out, HACC.out, HST.out]; exact HQ4.out⟩, by simp [intOf]; omega⟩
                    | true =>
                      have HBB : Hid (owB ek = false ∧ rsB acc ek = true) := ⟨hob, hrs⟩
                      have z0 : wc.cell? ⟨I, 0, none⟩ = some (.int .i64 3) := by simp [World.cell?, hbx]
                      have z1 : wc.cell? ⟨I, 1, none⟩ = some (.int .i64 0) := by simp [World.cell?, hbx]
                      have z2 : wc.cell? ⟨I, 2, none⟩ = some (.string ⟨#[]⟩) := by simp [World.cell?, hbx]
                      have z3 : wc.cell? ⟨I, 3, none⟩ = some (.slice (some ⟨g9, 0, none⟩) 1 cap) := by simp [World.cell?, hbx]
                      have z4 : wc.cell? ⟨I, 4, none⟩ = some (.slice none 0 0) := by simp [World.cell?, hbx]
                      have HV := Lib.hid (valid12 (inT et) (.slice (some ⟨g9, 0, none⟩) 1 cap) (.slice none 0 0) wc (inT_ok HTO.out) ⟨⟨_, _, rfl, .inr ⟨g9, 0, rfl, trivial, World.block_lt_of_cell? wc _ HC5.out.1, fun i9 hi9 => by
                        obtain rfl : i9 = 0 := by omega
                        exact ⟨_, _, RV.keep (fun _ _ => trivial) (Nat.le_refl _) (fun _ _ _ => rfl) _ _ _ HRV4.out, HC5.out⟩⟩⟩, ⟨none, 0, rfl, .inl rfl⟩⟩)
                      have HVC : Hid (Calls Try.prog 32 #[.agg #[.int .i64 3, .int .i64 0, .string ⟨#[]⟩, .slice (some ⟨g9, 0, none⟩) 1 cap, .slice none 0 0]] wc fun e w' => e = .returned (.int .i64 (wk (inT et) 0)) ∧ Below wc.heap.size wc w') := HV.out
                      have HIW : Hid (wk (inT et) 0 = 0 ↔ wk et 1 = 0) := inT_wk et
                      clear hob hrs hbx HV
                      generalize wk (inT et) 0 = q9 at *
                      go_wp2_with fail
                      refine HVC.out.mono ?_
                      rintro e wv ⟨rfl, bv⟩
                      have HQ5 := Lib.hid (HQ4.out.keep bv)
                      have HE5 := Lib.hid (HE4.out.keep bv)
                      clear HVC z0 z1 z2 z3 z4 bv HC5 HRV4
                      by_cases hq9 : q9 = 0
                      · have HSTE : Hid (stE acc (⟨ek, et, .slice xa xn xc, .slice ya yn yc⟩ : PE) = acc ++ [(⟨ek, et, .slice xa xn xc, .slice ya yn yc⟩ : PE)]) := if_pos ⟨HBB.out.1, HBB.out.2, HIW.out.1 hq9⟩
                        have hq9b : (q9 == 0) = true := by simp [hq9]
                        clear HQ4 HE4 HIW hq9
                        go_upto_region 19 with fail
                        have HQ := HQ5
                        have HE := HE5
                        clear HQ5 HE5
                        generalize hal : acc.length = al at *
                        have HAL := Lib.hid hal
                        clear hal
                        generalize wv = wr4 at *
                        refine wp_region_held_drew (S := SE H g (.slice (some ⟨g, o, none⟩) m mc) (o + i * 6) ek et xa xn xc ya yn yc) (by kernel_rfl) (HE.out.keep (belowDrew1 wr4)) (fun hHeld => ?_)
                        refine wpAnyH_take (i := 0) (v := .pointer (some ⟨H + 1 + 1, 4, none⟩)) rfl (by kernel_rfl) (by kernel_rfl) (by kernel_rfl) (fun _ _ _ h => h) (Or.inl ⟨by rfl, fun w hw => by go_simp⟩) hHeld ?_
                        simp only [Act.put, List.getElem_toArray, List.getElem_cons_zero, List.setIfInBounds_toArray, List.set_cons_zero, List.set_cons_succ]
                        refine wpAnyH_take (i := 2) (v := .pointer (some ⟨H, 4, none⟩)) rfl (by kernel_rfl) (by kernel_rfl) (by kernel_rfl) (fun _ _ _ h => h) (Or.inl ⟨by rfl, fun w hw => by go_simp⟩) hHeld ?_
                        simp only [Act.put, List.getElem_toArray, List.getElem_cons_zero, List.getElem_cons_succ, List.setIfInBounds_toArray, List.set_cons_zero, List.set_cons_succ]
                        refine wpAnyH_take (i := 3) (v := .slice (some ⟨g, o, none⟩) m mc) rfl (by kernel_rfl) (by kernel_rfl) (by kernel_rfl) (fun _ _ _ h => h) (Or.inl ⟨by rfl, fun w hw => by obtain ⟨s0, s1, s2, s3, s4, s5, s6⟩ := hw; go_simp⟩) hHeld ?_
                        simp only [Act.put, List.getElem_toArray, List.getElem_cons_zero, List.getElem_cons_succ, List.setIfInBounds_toArray, List.set_cons_zero, List.set_cons_succ]
                        refine wpAnyH_take (i := 4) (v := .int .i64 (i : Int)) rfl (by kernel_rfl) (by kernel_rfl) (by kernel_rfl) (fun _ _ _ h => h) (Or.inl ⟨by rfl, fun w hw => by go_simp⟩) hHeld ?_
                        simp only [Act.put, List.getElem_toArray, List.getElem_cons_zero, List.getElem_cons_succ, List.setIfInBounds_toArray, List.set_cons_zero, List.set_cons_succ]
                        refine wpAnyH_take (i := 5) (v := .pointer (some ⟨g, o + i * 6, none⟩)) rfl (by kernel_rfl) (by kernel_rfl) (by kernel_rfl) (fun _ _ _ h => h) (Or.inl ⟨by rfl, fun w hw => by go_simp⟩) hHeld ?_
                        simp only [Act.put, List.getElem_toArray, List.getElem_cons_zero, List.getElem_cons_succ, List.setIfInBounds_toArray, List.set_cons_zero, List.set_cons_succ]
                        refine wpAnyH_take (i := 6) (v := .agg #[.string ek, .int .i64 et.k, .int .i64 et.n, .string et.s, .slice xa xn xc, .slice ya yn yc]) rfl (by kernel_rfl) (by kernel_rfl) (by kernel_rfl) (fun _ _ _ h => h) (Or.inl ⟨by rfl, fun w hw => by obtain ⟨s0, s1, s2, s3, s4, s5, s6⟩ := hw; go_simp⟩) hHeld ?_
                        simp only [Act.put, List.getElem_toArray, List.getElem_cons_zero, List.getElem_cons_succ, List.setIfInBounds_toArray, List.set_cons_zero, List.set_cons_succ]
                        have HQ2 := Lib.hid (HQ.out.keep (belowDrew1 wr4))
                        have HE2 := Lib.hid (HE.out.keep (belowDrew1 wr4))
                        clear HQ HE
                        have HQ := HQ2
                        have HE := HE2
                        clear HQ2 HE2
                        generalize wr4.drew = v1 at *
                        refine wpAnyH_ready (rs := [1, 7]) (by kernel_rfl) (by simp) ?_
                        refine AllReadyH.cons (o := _) rfl (fun K hK => ?_) (AllReadyH.cons (o := _) rfl (fun K hK => ?_) AllReadyH.nil)
                        · obtain ⟨m0, m1, m2, m3, m4, mf⟩ := HQ.out.1.xs
                          go_simp
                          refine hK _ _ HE.out (fun hHeld => ?_)
                          clear hK K m0 m1 m2 m3 m4 mf
                          refine wpAnyH_ready (rs := [7]) (by kernel_rfl) (by simp) ?_
                          refine AllReadyH.cons (o := _) rfl (fun K hK => ?_) AllReadyH.nil
                          go_simp
                          have b : Below v1.heap.size v1 (v1.alloc (.cells #[.string ek, .int .i64 et.k, .int .i64 et.n, .string et.s, .slice xa xn xc, .slice ya yn yc] 59)) := (Below.refl _ _).alloc (Nat.le_refl _) _
                          have HQ2 := Lib.hid (HQ.out.keep b)
                          have HE2 := Lib.hid (HE.out.keep b)
                          have HV : Hid ((v1.alloc (.cells #[.string ek, .int .i64 et.k, .int .i64 et.n, .string et.s, .slice xa xn xc, .slice ya yn yc] 59)).heap[v1.heap.size]? = some (.cells (gC (⟨ek, et, .slice xa xn xc, .slice ya yn yc⟩ : PE)).toArray 59 (0, 0))) := heap_new _ _
                          clear HQ HE b
                          have HQ := HQ2
                          have HE := HE2
                          clear HQ2 HE2
                          refine hK _ _ HE.out (fun hHeld => ?_)
                          clear hK K
                          generalize v1.alloc (.cells #[.string ek, .int .i64 et.k, .int .i64 et.n, .string et.s, .slice xa xn xc, .slice ya yn yc] 59) = v3 at *
                          generalize v1.heap.size = vb at *
                          refine wpAnyH_ready (rs := [8]) (by kernel_rfl) (by simp) ?_
                          refine AllReadyH.cons (o := _) rfl (fun K hK => ?_) AllReadyH.nil
                          refine step_append_lies _ (by rfl) (.tmp 116) (.tmp 122) 33 (by rfl) (H + 3) 59 i0 _ 6 96 Try.underlying33 hi hz0 hz1 hz2 rfl (by omega) (.slice la al lc) al (gCs acc) (by simp [Act.eval]) (by have h9 := HQ.out.2.2.1; rw [HAL.out] at h9; exact h9) ⟨vb, 0, none⟩ 1 1 (gC (⟨ek, et, .slice xa xn xc, .slice ya yn yc⟩ : PE)) (by simp [Act.eval]) rfl (by exact World.news_of_block HV.out) (by intro u hu; simp [gC, cv] at hu; rcases hu with rfl | rfl | rfl | rfl | rfl | rfl <;> rfl) (by omega) (by unfold maxLen; omega) (by omega) (by exact HQ.out.1.2.2.2) _ rfl ?_
                          intro g9 cap w4 hown4 hgrow hat hlt4
                          have HB4 : Hid (Below (H + 3) v3 w4) := (Below.refl _ _).grown hgrow HQ.out.1.2.2.2 (fun k hk => (World.ownsRow.lt HQ.out.2.2.1 k hk).1)
                          have HMI4 := Lib.hid (HQ.out.1.keep HB4.out)
                          have HE4 : Hid (SE H g (.slice (some ⟨g, o, none⟩) m mc) (o + i * 6) ek et xa xn xc ya yn yc w4) := HE.out.keep4 HB4.out hgb
                          have HNX := Lib.hid (HQ.out.more (e := (⟨ek, et, .slice xa xn xc, .slice ya yn yc⟩ : PE)) (yl' := .slice (some ⟨g9, 0, none⟩) (al + 1) cap) (by rw [HAL.out]; exact hown4) hgrow)
                          have HE5 : Hid (SE H g (.slice (some ⟨g, o, none⟩) m mc) (o + i * 6) ek et xa xn xc ya yn yc (w4.setCell ⟨H + 1 + 1, 4, none⟩ (.slice (some ⟨g9, 0, none⟩) (al + 1) cap))) := HE4.out.setX hgb
                          clear HQ HE HB4 hown4 hgrow hat hlt4 HV
                          simp only [Act.put, List.getElem_toArray, List.getElem_cons_zero, List.getElem_cons_succ, List.setIfInBounds_toArray, List.set_cons_zero, List.set_cons_succ]
                          refine hK _ _ HE4.out (fun hHeld => ?_)
                          clear hK K
                          refine wpAnyH_take (i := 9) (v := .pointer (some ⟨H + 1 + 1, 4, none⟩)) rfl (by kernel_rfl) (by kernel_rfl) (by kernel_rfl) (fun _ _ _ h => h) (Or.inl ⟨by rfl, fun w hw => by go_simp⟩) hHeld ?_
                          simp only [Act.put, List.getElem_toArray, List.getElem_cons_zero, List.getElem_cons_succ, List.setIfInBounds_toArray, List.set_cons_zero, List.set_cons_succ]
                          refine wpAnyH_ready (rs := [10]) (by kernel_rfl) (by simp) ?_
                          refine AllReadyH.cons (o := _) rfl (fun K hK => ?_) AllReadyH.nil
                          obtain ⟨m0, m1, m2, m3, m4, mf⟩ := HMI4.out.xs
                          have mf4 := mf 4
                          go_simp
                          refine hK _ _ HE5.out (fun hHeld => ?_)
                          clear hK K m0 m1 m2 m3 m4 mf mf4 HMI4 HE4
                          refine wpAnyH_done (by kernel_rfl) ?_ _
                          clear hHeld
                          clear HE5
                          have HST := Lib.hid (HSTE.out)
                          go_wp2
                          exact ⟨⟨i + 1, _, by omega, by go_num, by rw [mdE_snoc HXI.out, HACC.out, HST.out]; exact HNX.out⟩, by simp [intOf]; omega⟩
                        · go_simp
                          have b : Below v1.heap.size v1 (v1.alloc (.cells #[.string ek, .int .i64 et.k, .int .i64 et.n, .string et.s, .slice xa xn xc, .slice ya yn yc] 59)) := (Below.refl _ _).alloc (Nat.le_refl _) _
                          have HQ2 := Lib.hid (HQ.out.keep b)
                          have HE2 := Lib.hid (HE.out.keep b)
                          have HV : Hid ((v1.alloc (.cells #[.string ek, .int .i64 et.k, .int .i64 et.n, .string et.s, .slice xa xn xc, .slice ya yn yc] 59)).heap[v1.heap.size]? = some (.cells (gC (⟨ek, et, .slice xa xn xc, .slice ya yn yc⟩ : PE)).toArray 59 (0, 0))) := heap_new _ _
                          clear HQ HE b
                          have HQ := HQ2
                          have HE := HE2
                          clear HQ2 HE2
                          refine hK _ _ HE.out (fun hHeld => ?_)
                          clear hK K
                          generalize v1.alloc (.cells #[.string ek, .int .i64 et.k, .int .i64 et.n, .string et.s, .slice xa xn xc, .slice ya yn yc] 59) = v3 at *
                          generalize v1.heap.size = vb at *
                          refine wpAnyH_ready (rs := [1]) (by kernel_rfl) (by simp) ?_
                          refine AllReadyH.cons (o := _) rfl (fun K hK => ?_) AllReadyH.nil
                          obtain ⟨m0, m1, m2, m3, m4, mf⟩ := HQ.out.1.xs
                          go_simp
                          refine hK _ _ HE.out (fun hHeld => ?_)
                          clear hK K m0 m1 m2 m3 m4 mf
                          refine wpAnyH_ready (rs := [8]) (by kernel_rfl) (by simp) ?_
                          refine AllReadyH.cons (o := _) rfl (fun K hK => ?_) AllReadyH.nil
                          refine step_append_lies _ (by rfl) (.tmp 116) (.tmp 122) 33 (by rfl) (H + 3) 59 i0 _ 6 96 Try.underlying33 hi hz0 hz1 hz2 rfl (by omega) (.slice la al lc) al (gCs acc) (by simp [Act.eval]) (by have h9 := HQ.out.2.2.1; rw [HAL.out] at h9; exact h9) ⟨vb, 0, none⟩ 1 1 (gC (⟨ek, et, .slice xa xn xc, .slice ya yn yc⟩ : PE)) (by simp [Act.eval]) rfl (by exact World.news_of_block HV.out) (by intro u hu; simp [gC, cv] at hu; rcases hu with rfl | rfl | rfl | rfl | rfl | rfl <;> rfl) (by omega) (by unfold maxLen; omega) (by omega) (by exact HQ.out.1.2.2.2) _ rfl ?_
                          intro g9 cap w4 hown4 hgrow hat hlt4
                          have HB4 : Hid (Below (H + 3) v3 w4) := (Below.refl _ _).grown hgrow HQ.out.1.2.2.2 (fun k hk => (World.ownsRow.lt HQ.out.2.2.1 k hk).1)
                          have HMI4 := Lib.hid (HQ.out.1.keep HB4.out)
                          have HE4 : Hid (SE H g (.slice (some ⟨g, o, none⟩) m mc) (o + i * 6) ek et xa xn xc ya yn yc w4) := HE.out.keep4 HB4.out hgb
                          have HNX := Lib.hid (HQ.out.more (e := (⟨ek, et, .slice xa xn xc, .slice ya yn yc⟩ : PE)) (yl' := .slice (some ⟨g9, 0, none⟩) (al + 1) cap) (by rw [HAL.out]; exact hown4) hgrow)
                          have HE5 : Hid (SE H g (.slice (some ⟨g, o, none⟩) m mc) (o + i * 6) ek et xa xn xc ya yn yc (w4.setCell ⟨H + 1 + 1, 4, none⟩ (.slice (some ⟨g9, 0, none⟩) (al + 1) cap))) := HE4.out.setX hgb
                          clear HQ HE HB4 hown4 hgrow hat hlt4 HV
                          simp only [Act.put, List.getElem_toArray, List.getElem_cons_zero, List.getElem_cons_succ, List.setIfInBounds_toArray, List.set_cons_zero, List.set_cons_succ]
                          refine hK _ _ HE4.out (fun hHeld => ?_)
                          clear hK K
                          refine wpAnyH_take (i := 9) (v := .pointer (some ⟨H + 1 + 1, 4, none⟩)) rfl (by kernel_rfl) (by kernel_rfl) (by kernel_rfl) (fun _ _ _ h => h) (Or.inl ⟨by rfl, fun w hw => by go_simp⟩) hHeld ?_
                          simp only [Act.put, List.getElem_toArray, List.getElem_cons_zero, List.getElem_cons_succ, List.setIfInBounds_toArray, List.set_cons_zero, List.set_cons_succ]
                          refine wpAnyH_ready (rs := [10]) (by kernel_rfl) (by simp) ?_
                          refine AllReadyH.cons (o := _) rfl (fun K hK => ?_) AllReadyH.nil
                          obtain ⟨m0, m1, m2, m3, m4, mf⟩ := HMI4.out.xs
                          have mf4 := mf 4
                          go_simp
                          refine hK _ _ HE5.out (fun hHeld => ?_)
                          clear hK K m0 m1 m2 m3 m4 mf mf4 HMI4 HE4
                          refine wpAnyH_done (by kernel_rfl) ?_ _
                          clear hHeld
                          clear HE5
                          have HST := Lib.hid (HSTE.out)
                          go_wp2
                          exact ⟨⟨i + 1, _, by omega, by go_num, by rw [mdE_snoc HXI.out, HACC.out, HST.out]; exact HNX.out⟩, by simp [intOf]; omega⟩
                      · have HST : Hid (stE acc (⟨ek, et, .slice xa xn xc, .slice ya yn yc⟩ : PE) = acc) := if_neg (fun h => hq9 (HIW.out.2 h.2.2))
                        have hq9b : (q9 == 0) = false := by simp [hq9]
                        have HQ4 := HQ5
                        clear HQ5 HE5 HE4 HIW hq9
                        go_wp2
                        exact ⟨⟨i + 1, _, by omega, by go_num, by rw [mdE_snoc HXI.out, HACC.out, HST.out]; exact HQ4.out⟩, by simp [intOf]; omega⟩
          · obtain rfl : m = i := by omega
            have hQe : mdE (es.take m) = mdE es := by rw [List.take_of_length_le (by have := HMM.out; omega)]
            rw [hQe] at HQ
            clear hQe
            obtain ⟨m0, m1, m2, m3, m4, mf⟩ := HQ.out.1.xs
            obtain ⟨r0, r1, r2, r3, r4⟩ := ow.cells HQ.out.1.2.1
            have HRZ : Hid (ow wr (H + 1) (.slice none 0 0) (.int .i64 0) (.int .i64 0) (.string ⟨#[]⟩) (.slice none 0 0)) := HQ.out.1.2.1
            have z0 := HRZ.out.frozen 0
            have z1 := HRZ.out.frozen 1
            have z2 := HRZ.out.frozen 2
            have z3 := HRZ.out.frozen 3
            have z4 := HRZ.out.frozen 4
            have HFIN : Hid (∀ wE, Besides (H + 1) wr wE → RNs wE nl (mdN ns) ∧ RG wE.heap.size wE yl (mdE es) ∧ capped nl ∧ capped yl ∧ Below w.heap.size w wE) := fun wE hE => made_end HS.out HM.out HQ.out hE
            obtain ⟨na9, nc9, rfl⟩ := ownForm HQ.out.2.1
            obtain ⟨ya9, yc9, rfl⟩ := ownForm HQ.out.2.2.1
            clear mf b0 b1 b2 b3 HQ
            go_wp2
            exact bodyPost_ret (v := .agg #[.slice na9 (mdN ns).length nc9, .int .i64 (wiI sz 1048577), .int .i64 (quI qu), .string ag, .slice ya9 (mdE es).length yc9]) (results_cell_row Try.results21 _ _ (H + 1) 35 _ (0, 0) _ rfl (ow.set (ow.set (ow.set (ow.set (ow.set HRZ.out 0 _) 1 _) 2 _) 3 _) 4 _) Try.underlying35 rfl info35s) rfl ⟨_, _, rfl, HFIN.out _ (besides5 _ _ _ _ _ _ _)⟩
end Go.Proofs.Ytldkecjfjcnkfaa
