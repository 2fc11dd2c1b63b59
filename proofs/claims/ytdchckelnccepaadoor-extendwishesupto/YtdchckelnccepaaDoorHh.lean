import Derived.Test.YtdchckelnccepaaDoorZ8
namespace Go.Proofs.YtdchckelnccepaaDoor
open Go.RowKit Go.Deep
/-- the box of the wish -/
def OB (H : Nat) (x : World) (na ma : Option Addr) (nc mc nl ml : Nat) (sz qu : Int) (ag : ByteArray) : Prop :=
  x.heap[H]? = some (.cells #[.slice na nl nc, .int .i64 sz, .int .i64 qu, .string ag, .slice ma ml mc] 25 (0, 0))
theorem OB.keep {H : Nat} {x y : World} {na ma : Option Addr} {nc mc nl ml : Nat} {sz qu : Int} {ag : ByteArray} (h : OB H x na ma nc mc nl ml sz qu ag) (hb : Below x.heap.size x y) : OB H y na ma nc mc nl ml sz qu ag :=
  (hb.block _ (Array.getElem?_eq_some_iff.1 h).1).trans h
theorem OB.box {H : Nat} {x : World} {na ma : Option Addr} {nc mc nl ml : Nat} {sz qu : Int} {ag : ByteArray} (e : OB H x na ma nc mc nl ml sz qu ag) :
    x.cell? ⟨H, 0, none⟩ = some (.slice na nl nc) ∧ x.cell? ⟨H, 1, none⟩ = some (.int .i64 sz) ∧ x.cell? ⟨H, 2, none⟩ = some (.int .i64 qu) ∧ x.cell? ⟨H, 3, none⟩ = some (.string ag) ∧ x.cell? ⟨H, 4, none⟩ = some (.slice ma ml mc) := by
  unfold OB at e
  refine ⟨?_, ?_, ?_, ?_, ?_⟩ <;> simp [World.cell?, e]
/-- names rise, one by one -/
def riseN (ns : List (ByteArray × Int)) (i : Nat) : Prop := ∀ j a b, j + 1 < i → ns[j]? = some a → ns[j + 1]? = some b → Op.bytesLess a.1.toList b.1.toList = true
def riseP (es : List PE) (i : Nat) : Prop := ∀ j a b, j + 1 < i → es[j]? = some a → es[j + 1]? = some b → Op.bytesLess a.key.toList b.key.toList = true
theorem rise_step {es : List PE} (h : riseP es es.length) : es.Pairwise KL := by
  refine (rise_iff es).1 ?_
  intro p q hpq hq
  induction q with
  | zero => omega
  | succ q ih =>
    have h1 := h q es[q] es[q + 1] hq (List.getElem?_eq_getElem (by omega)) (List.getElem?_eq_getElem hq)
    rw [kyG_at hq]
    by_cases e : p = q
    · subst e; rw [kyG_at (by omega)]; exact h1
    · have h2 := ih (by omega) (by omega)
      rw [kyG_at (i := q) (by omega)] at h2
      exact less_trans _ _ _ h2 h1
theorem rise_nE {ns : List (ByteArray × Int)} (h : riseN ns ns.length) : (nE ns).Pairwise KL := by
  refine rise_step (fun j a b hj ha hb => ?_)
  rw [nE_len] at hj
  have e1 : (nE ns)[j]? = some (leaf ns[j].1 (tn ns[j].2)) := by unfold nE; rw [List.getElem?_map, List.getElem?_eq_getElem (by omega)]; rfl
  have e2 : (nE ns)[j + 1]? = some (leaf ns[j + 1].1 (tn ns[j + 1].2)) := by unfold nE; rw [List.getElem?_map, List.getElem?_eq_getElem (by omega)]; rfl
  rw [ha] at e1
  rw [hb] at e2
  cases e1
  cases e2
  exact h j _ _ hj (List.getElem?_eq_getElem (by omega)) (List.getElem?_eq_getElem (by omega))
theorem not_rise {a b : ByteArray} (h : (Op.bytesLess b.toList a.toList || b.toList == a.toList) = true) : Op.bytesLess a.toList b.toList = false := by
  have := bytes_tri b.toList a.toList
  rw [h] at this
  simpa using this
theorem yes_rise {a b : ByteArray} (h : (Op.bytesLess b.toList a.toList || b.toList == a.toList) = false) : Op.bytesLess a.toList b.toList = true := by
  have := bytes_tri b.toList a.toList
  rw [h] at this
  simpa using this
set_option maxHeartbeats 8000000 in
set_option maxRecDepth 100000 in
theorem Good41 (na ma : Option Addr) (nc mc : Nat) (ns : List (ByteArray × Int)) (sz qu : Int) (ag : ByteArray) (es : List PE) (w : World) (hn : RNs w (.slice na ns.length nc) ns) (hm : RG w.heap.size w (.slice ma es.length mc) es) (hl : ns.length + es.length ≤ 2147480000)
    (hkn : ∀ x ∈ ns, x.1.size ≤ 140737488351232) (hka : ag.size ≤ 140737488351232) (hke : ∀ e ∈ es, e.key.size ≤ 140737488351232 ∧ e.t.ok) :
    Calls Tryd.prog 14 #[.agg #[.slice na ns.length nc, .int .i64 sz, .int .i64 qu, .string ag, .slice ma es.length mc]] w fun e w' => ∃ r : Bool, e = .returned (.bool r) ∧ (r = true ↔ GW ns sz qu es) ∧ Below w.heap.size w w' := by
  have b0 : Below w.heap.size w (w.alloc (.cells #[.slice na ns.length nc, .int .i64 sz, .int .i64 qu, .string ag, .slice ma es.length mc] 25)) := (Below.refl _ _).alloc (Nat.le_refl _) _
  have HN : Hid (RNs (w.alloc (.cells #[.slice na ns.length nc, .int .i64 sz, .int .i64 qu, .string ag, .slice ma es.length mc] 25)) (.slice na ns.length nc) ns) := hn.keep b0
  have HM : Hid (RG (w.alloc (.cells #[.slice na ns.length nc, .int .i64 sz, .int .i64 qu, .string ag, .slice ma es.length mc] 25)).heap.size (w.alloc (.cells #[.slice na ns.length nc, .int .i64 sz, .int .i64 qu, .string ag, .slice ma es.length mc] 25)) (.slice ma es.length mc) es) := (hm.keep b0).mono b0.size
  have HO : Hid (OB w.heap.size (w.alloc (.cells #[.slice na ns.length nc, .int .i64 sz, .int .i64 qu, .string ag, .slice ma es.length mc] 25)) na ma nc mc ns.length es.length sz qu ag ∧ Below w.heap.size w (w.alloc (.cells #[.slice na ns.length nc, .int .i64 sz, .int .i64 qu, .string ag, .slice ma es.length mc] 25))) := ⟨heap_new _ _, b0⟩
  have HK : Hid ((∀ x ∈ ns, x.1.size ≤ 140737488351232) ∧ ag.size ≤ 140737488351232 ∧ (∀ e ∈ es, e.key.size ≤ 140737488351232 ∧ e.t.ok) ∧ ns.length + es.length ≤ 2147480000) := ⟨hkn, hka, hke, hl⟩
  have HX : Hid (ns = [] ∨ ∃ g o, na = some ⟨g, o, none⟩ ∧ g < (w.alloc (.cells #[.slice na ns.length nc, .int .i64 sz, .int .i64 qu, .string ag, .slice ma es.length mc] 25)).heap.size ∧ ∀ i x, ns[i]? = some x → (w.alloc (.cells #[.slice na ns.length nc, .int .i64 sz, .int .i64 qu, .string ag, .slice ma es.length mc] 25)).cell? ⟨g, o + i * 2, none⟩ = some (.string x.1) ∧ (w.alloc (.cells #[.slice na ns.length nc, .int .i64 sz, .int .i64 qu, .string ag, .slice ma es.length mc] 25)).cell? ⟨g, o + i * 2 + 1, none⟩ = some (.int .i64 x.2)) := by
    obtain ⟨a, c, e, hx⟩ := HN.out
    cases e
    exact hx
  have HY : Hid (es = [] ∨ ∃ g o, ma = some ⟨g, o, none⟩ ∧ g < (w.alloc (.cells #[.slice na ns.length nc, .int .i64 sz, .int .i64 qu, .string ag, .slice ma es.length mc] 25)).heap.size ∧ ∀ i e, es[i]? = some e → RV (fun b => b < (w.alloc (.cells #[.slice na ns.length nc, .int .i64 sz, .int .i64 qu, .string ag, .slice ma es.length mc] 25)).heap.size) (w.alloc (.cells #[.slice na ns.length nc, .int .i64 sz, .int .i64 qu, .string ag, .slice ma es.length mc] 25)) e.t e.x e.y ∧ ∀ r, r < 6 → (w.alloc (.cells #[.slice na ns.length nc, .int .i64 sz, .int .i64 qu, .string ag, .slice ma es.length mc] 25)).cell? ⟨g, o + i * 6 + r, none⟩ = (gC e)[r]?) := by
    obtain ⟨a, c, e, _, hx⟩ := HM.out
    cases e
    exact hx
  clear hn hm hkn hka hke b0
  generalize hnn : ns.length = nl at *
  have HNN := Lib.hid hnn
  generalize hmm : es.length = ml at *
  have HMM := Lib.hid hmm
  clear hnn hmm
  go_enter Tryd.func14, Tryd.ntmps14
  go_upto_region 1 with fail
  generalize (w.alloc (.cells #[.slice na nl nc, .int .i64 sz, .int .i64 qu, .string ag, .slice ma ml mc] 25)) = w0 at *
  generalize hvb : w.heap.size = H at *
  have HS := Lib.hid hvb
  clear hvb
  obtain ⟨x0, x1, x2, x3, x4⟩ := HO.out.1.box
  go_wp2_with fail
  go_loopw [3] (fun ti wr => ∃ i : Nat, i ≤ nl ∧ ti = .int .i64 i ∧ Hid (Below w0.heap.size w0 wr ∧ riseN ns i ∧ ∀ (j : Nat) (y : ByteArray × Int), j < i → ns[j]? = some y → idB y.2 = true)) (fun ti _ => nl - (intOf ti).toNat)
  case atStart => exact ⟨0, Nat.zero_le _, rfl, Below.refl _ _, fun j a b hj => by omega, fun j y hj => absurd hj (Nat.not_lt_zero _)⟩
  case round =>
    obtain ⟨i, hi, rfl, HI⟩ := hrel
    have hob := HO.out.1.keep HI.out.1
    have HOW := Lib.hid hob
    clear x0 x1 x2 x3 x4
    obtain ⟨x0, x1, x2, x3, x4⟩ := hob.box
    clear hob
    by_cases hlt : i < nl
    · obtain ⟨x, hx⟩ : ∃ x, ns[i]? = some x := ⟨_, List.getElem?_eq_getElem (by have := HNN.out; omega)⟩
      obtain ⟨g, o, rfl, hg, hcc⟩ := HX.out.resolve_left (fun e => by rw [e] at hx; simp at hx)
      obtain ⟨xs, xi⟩ := x
      have g0 : wr.cell? ⟨g, o + i * 2, none⟩ = some (.string xs) := Below.cellS HI.out.1 (Nat.le_refl _) (hcc i _ hx).1
      have g1 : wr.cell? ⟨g, o + i * 2 + 1, none⟩ = some (.int .i64 xi) := Below.cellS HI.out.1 (Nat.le_refl _) (hcc i _ hx).2
      have HC : Hid (∀ j y, ns[j]? = some y → w0.cell? ⟨g, o + j * 2, none⟩ = some (.string y.1)) := fun j y hy => (hcc j y hy).1
      have HXI := Lib.hid hx
      clear hcc hx hg x1 x2 x3 x4
      by_cases hid : idB xi = true
      · have HID := Lib.hid hid
        have hid1 : ¬ xi < 0 ∧ ¬ 255 < xi := by unfold idB at hid; simp at hid; omega
        obtain ⟨h01, h02⟩ := hid1
        clear hid
        go_upto_region 6 with fail
        clear g1
        have HJ : Hid (∀ j (y : ByteArray × Int), j < i + 1 → ns[j]? = some y → idB y.2 = true) := fun j y hj hy => by
          rcases Nat.lt_succ_iff_lt_or_eq.1 hj with h | rfl
          · exact HI.out.2.2 j y h hy
          · have h9 := HXI.out
            rw [hy] at h9
            cases h9
            exact HID.out
        cases i with
        | zero =>
          refine wp_region_held_drew (S := fun _ => True) (by kernel_rfl) (trivial) (fun hHeld => ?_)
          refine wpAnyH_take (i := 0) (v := .int .i64 0) rfl (by kernel_rfl) (by kernel_rfl) (by kernel_rfl) (fun _ _ _ h => h) (Or.inl ⟨by rfl, fun w hw => by go_simp⟩) hHeld ?_
          simp only [Act.put, List.getElem_toArray, List.getElem_cons_zero, List.setIfInBounds_toArray, List.set_cons_zero, List.set_cons_succ]
          refine wpAnyH_take (i := 1) (v := .bool false) rfl (by kernel_rfl) (by kernel_rfl) (by kernel_rfl) (fun _ _ _ h => h) (Or.inl ⟨by rfl, fun w hw => by go_simp⟩) hHeld ?_
          simp only [Act.put, List.getElem_toArray, List.getElem_cons_zero, List.getElem_cons_succ, List.setIfInBounds_toArray, List.set_cons_zero, List.set_cons_succ]
          refine wpAnyH_take (i := 2) (v := .bool false) rfl (by kernel_rfl) (by kernel_rfl) (by kernel_rfl) (fun _ _ _ h => h) (Or.inl ⟨by rfl, fun w hw => by go_simp⟩) hHeld ?_
          simp only [Act.put, List.getElem_toArray, List.getElem_cons_zero, List.getElem_cons_succ, List.setIfInBounds_toArray, List.set_cons_zero, List.set_cons_succ]
          refine wpAnyH_take (i := 3) (v := undef) rfl (by kernel_rfl) (by kernel_rfl) (by kernel_rfl) (fun _ _ _ h => h) (Or.inr ⟨by rfl, rfl⟩) hHeld ?_
          simp only [Act.put, List.getElem_toArray, List.getElem_cons_zero, List.getElem_cons_succ, List.setIfInBounds_toArray, List.set_cons_zero, List.set_cons_succ]
          refine wpAnyH_take (i := 4) (v := undef) rfl (by kernel_rfl) (by kernel_rfl) (by kernel_rfl) (fun _ _ _ h => h) (Or.inr ⟨by rfl, rfl⟩) hHeld ?_
          simp only [Act.put, List.getElem_toArray, List.getElem_cons_zero, List.getElem_cons_succ, List.setIfInBounds_toArray, List.set_cons_zero, List.set_cons_succ]
          refine wpAnyH_take (i := 5) (v := undef) rfl (by kernel_rfl) (by kernel_rfl) (by kernel_rfl) (fun _ _ _ h => h) (Or.inr ⟨by rfl, rfl⟩) hHeld ?_
          simp only [Act.put, List.getElem_toArray, List.getElem_cons_zero, List.getElem_cons_succ, List.setIfInBounds_toArray, List.set_cons_zero, List.set_cons_succ]
          refine wpAnyH_take (i := 6) (v := undef) rfl (by kernel_rfl) (by kernel_rfl) (by kernel_rfl) (fun _ _ _ h => h) (Or.inr ⟨by rfl, rfl⟩) hHeld ?_
          simp only [Act.put, List.getElem_toArray, List.getElem_cons_zero, List.getElem_cons_succ, List.setIfInBounds_toArray, List.set_cons_zero, List.set_cons_succ]
          refine wpAnyH_take (i := 7) (v := undef) rfl (by kernel_rfl) (by kernel_rfl) (by kernel_rfl) (fun _ _ _ h => h) (Or.inr ⟨by rfl, rfl⟩) hHeld ?_
          simp only [Act.put, List.getElem_toArray, List.getElem_cons_zero, List.getElem_cons_succ, List.setIfInBounds_toArray, List.set_cons_zero, List.set_cons_succ]
          refine wpAnyH_take (i := 8) (v := undef) rfl (by kernel_rfl) (by kernel_rfl) (by kernel_rfl) (fun _ _ _ h => h) (Or.inr ⟨by rfl, rfl⟩) hHeld ?_
          simp only [Act.put, List.getElem_toArray, List.getElem_cons_zero, List.getElem_cons_succ, List.setIfInBounds_toArray, List.set_cons_zero, List.set_cons_succ]
          refine wpAnyH_take (i := 9) (v := undef) rfl (by kernel_rfl) (by kernel_rfl) (by kernel_rfl) (fun _ _ _ h => h) (Or.inr ⟨by rfl, rfl⟩) hHeld ?_
          simp only [Act.put, List.getElem_toArray, List.getElem_cons_zero, List.getElem_cons_succ, List.setIfInBounds_toArray, List.set_cons_zero, List.set_cons_succ]
          refine wpAnyH_take (i := 10) (v := undef) rfl (by kernel_rfl) (by kernel_rfl) (by kernel_rfl) (fun _ _ _ h => h) (Or.inr ⟨by rfl, rfl⟩) hHeld ?_
          simp only [Act.put, List.getElem_toArray, List.getElem_cons_zero, List.getElem_cons_succ, List.setIfInBounds_toArray, List.set_cons_zero, List.set_cons_succ]
          refine wpAnyH_take (i := 11) (v := undef) rfl (by kernel_rfl) (by kernel_rfl) (by kernel_rfl) (fun _ _ _ h => h) (Or.inr ⟨by rfl, rfl⟩) hHeld ?_
          simp only [Act.put, List.getElem_toArray, List.getElem_cons_zero, List.getElem_cons_succ, List.setIfInBounds_toArray, List.set_cons_zero, List.set_cons_succ]
          refine wpAnyH_take (i := 12) (v := undef) rfl (by kernel_rfl) (by kernel_rfl) (by kernel_rfl) (fun _ _ _ h => h) (Or.inr ⟨by rfl, rfl⟩) hHeld ?_
          simp only [Act.put, List.getElem_toArray, List.getElem_cons_zero, List.getElem_cons_succ, List.setIfInBounds_toArray, List.set_cons_zero, List.set_cons_succ]
          refine wpAnyH_take (i := 13) (v := undef) rfl (by kernel_rfl) (by kernel_rfl) (by kernel_rfl) (fun _ _ _ h => h) (Or.inr ⟨by rfl, rfl⟩) hHeld ?_
          simp only [Act.put, List.getElem_toArray, List.getElem_cons_zero, List.getElem_cons_succ, List.setIfInBounds_toArray, List.set_cons_zero, List.set_cons_succ]
          refine wpAnyH_take (i := 14) (v := undef) rfl (by kernel_rfl) (by kernel_rfl) (by kernel_rfl) (fun _ _ _ h => h) (Or.inr ⟨by rfl, rfl⟩) hHeld ?_
          simp only [Act.put, List.getElem_toArray, List.getElem_cons_zero, List.getElem_cons_succ, List.setIfInBounds_toArray, List.set_cons_zero, List.set_cons_succ]
          refine wpAnyH_take (i := 15) (v := undef) rfl (by kernel_rfl) (by kernel_rfl) (by kernel_rfl) (fun _ _ _ h => h) (Or.inr ⟨by rfl, rfl⟩) hHeld ?_
          simp only [Act.put, List.getElem_toArray, List.getElem_cons_zero, List.getElem_cons_succ, List.setIfInBounds_toArray, List.set_cons_zero, List.set_cons_succ]
          refine wpAnyH_take (i := 16) (v := undef) rfl (by kernel_rfl) (by kernel_rfl) (by kernel_rfl) (fun _ _ _ h => h) (Or.inr ⟨by rfl, rfl⟩) hHeld ?_
          simp only [Act.put, List.getElem_toArray, List.getElem_cons_zero, List.getElem_cons_succ, List.setIfInBounds_toArray, List.set_cons_zero, List.set_cons_succ]
          refine wpAnyH_take (i := 17) (v := .bool false) rfl (by kernel_rfl) (by kernel_rfl) (by kernel_rfl) (fun _ _ _ h => h) (Or.inl ⟨by rfl, fun w hw => by go_simp⟩) hHeld ?_
          simp only [Act.put, List.getElem_toArray, List.getElem_cons_zero, List.getElem_cons_succ, List.setIfInBounds_toArray, List.set_cons_zero, List.set_cons_succ]
          refine wpAnyH_done (by kernel_rfl) ?_ _
          clear hHeld
          have HN2 : Hid (Below w0.heap.size w0 wr.drew) := HI.out.1.trans ((belowDrew1 wr).mono HI.out.1.size)
          clear HI x0 g0 HOW
          go_wp2
          exact ⟨⟨0 + 1, by omega, by go_num, HN2.out, fun j a b hj => by omega, HJ.out⟩, by simp [intOf]; omega⟩
        | succ i =>
          obtain ⟨y, hy⟩ : ∃ y, ns[i]? = some y := ⟨_, List.getElem?_eq_getElem (by have := HNN.out; omega)⟩
          have g2 : wr.cell? ⟨g, o + i * 2, none⟩ = some (.string y.1) := Below.cellS HI.out.1 (Nat.le_refl _) (HC.out i y hy)
          have HYI := Lib.hid hy
          clear hy
          obtain ⟨ys, yi⟩ := y
          simp only at g2
          have hwr : IntKind.i64.wrap (i : Int) = (i : Int) := by unfold IntKind.wrap; simp [IntKind.bits, IntKind.signed]; omega
          cases hll : (Op.bytesLess xs.toList ys.toList || xs.toList == ys.toList) with
          | true =>
            have HGW : Hid (¬ GW ns sz qu es) := fun h => by
              have h9 := (rise_iff _).2 h.2.2.1 i (i + 1) (by omega) (by rw [nE_len, HNN.out]; omega)
              have e1 : (nE ns)[i]? = some (leaf ys (tn yi)) := by unfold nE; rw [List.getElem?_map, HYI.out]; rfl
              have e2 : (nE ns)[i + 1]? = some (leaf xs (tn xi)) := by unfold nE; rw [List.getElem?_map, HXI.out]; rfl
              unfold kyG at h9
              rw [getD_of e1, getD_of e2] at h9
              have h8 := not_rise hll
              rw [show (leaf ys (tn yi)).key = ys from rfl, show (leaf xs (tn xi)).key = xs from rfl, h8] at h9
              cases h9
            refine wp_region_held_drew (S := fun x => x.cell? ⟨H, 0, none⟩ = some (.slice (some ⟨g, o, none⟩) nl nc) ∧ x.cell? ⟨g, o + (i + 1) * 2, none⟩ = some (.string xs) ∧ x.cell? ⟨g, o + i * 2, none⟩ = some (.string ys)) (by kernel_rfl) (⟨x0, g0, g2⟩) (fun hHeld => ?_)
            refine wpAnyH_take (i := 0) (v := .int .i64 ((i + 1 : Nat) : Int)) rfl (by kernel_rfl) (by kernel_rfl) (by kernel_rfl) (fun _ _ _ h => h) (Or.inl ⟨by rfl, fun w hw => by go_simp⟩) hHeld ?_
            simp only [Act.put, List.getElem_toArray, List.getElem_cons_zero, List.setIfInBounds_toArray, List.set_cons_zero, List.set_cons_succ]
            refine wpAnyH_take (i := 1) (v := .bool true) rfl (by kernel_rfl) (by kernel_rfl) (by kernel_rfl) (fun _ _ _ h => h) (Or.inl ⟨by rfl, fun w hw => by go_simp⟩) hHeld ?_
            simp only [Act.put, List.getElem_toArray, List.getElem_cons_zero, List.getElem_cons_succ, List.setIfInBounds_toArray, List.set_cons_zero, List.set_cons_succ]
            refine wpAnyH_take (i := 2) (v := .bool true) rfl (by kernel_rfl) (by kernel_rfl) (by kernel_rfl) (fun _ _ _ h => h) (Or.inl ⟨by rfl, fun w hw => by go_simp⟩) hHeld ?_
            simp only [Act.put, List.getElem_toArray, List.getElem_cons_zero, List.getElem_cons_succ, List.setIfInBounds_toArray, List.set_cons_zero, List.set_cons_succ]
            refine wpAnyH_take (i := 3) (v := .pointer (some ⟨H, 0, none⟩)) rfl (by kernel_rfl) (by kernel_rfl) (by kernel_rfl) (fun _ _ _ h => h) (Or.inl ⟨by rfl, fun w hw => by go_simp⟩) hHeld ?_
            simp only [Act.put, List.getElem_toArray, List.getElem_cons_zero, List.getElem_cons_succ, List.setIfInBounds_toArray, List.set_cons_zero, List.set_cons_succ]
            refine wpAnyH_take (i := 4) (v := .slice (some ⟨g, o, none⟩) nl nc) rfl (by kernel_rfl) (by kernel_rfl) (by kernel_rfl) (fun _ _ _ h => h) (Or.inl ⟨by rfl, fun w hw => by obtain ⟨s0, s1, s2⟩ := hw; go_simp⟩) hHeld ?_
            simp only [Act.put, List.getElem_toArray, List.getElem_cons_zero, List.getElem_cons_succ, List.setIfInBounds_toArray, List.set_cons_zero, List.set_cons_succ]
            refine wpAnyH_take (i := 5) (v := .int .i64 ((i + 1 : Nat) : Int)) rfl (by kernel_rfl) (by kernel_rfl) (by kernel_rfl) (fun _ _ _ h => h) (Or.inl ⟨by rfl, fun w hw => by go_simp⟩) hHeld ?_
            simp only [Act.put, List.getElem_toArray, List.getElem_cons_zero, List.getElem_cons_succ, List.setIfInBounds_toArray, List.set_cons_zero, List.set_cons_succ]
            refine wpAnyH_take (i := 6) (v := .pointer (some ⟨g, o + (i + 1) * 2, none⟩)) rfl (by kernel_rfl) (by kernel_rfl) (by kernel_rfl) (fun _ _ _ h => h) (Or.inl ⟨by rfl, fun w hw => by (go_simp; intro hh; exact absurd (hh (by omega)) (by omega))⟩) hHeld ?_
            simp only [Act.put, List.getElem_toArray, List.getElem_cons_zero, List.getElem_cons_succ, List.setIfInBounds_toArray, List.set_cons_zero, List.set_cons_succ]
            refine wpAnyH_take (i := 7) (v := .pointer (some ⟨g, o + (i + 1) * 2, none⟩)) rfl (by kernel_rfl) (by kernel_rfl) (by kernel_rfl) (fun _ _ _ h => h) (Or.inl ⟨by rfl, fun w hw => by go_simp⟩) hHeld ?_
            simp only [Act.put, List.getElem_toArray, List.getElem_cons_zero, List.getElem_cons_succ, List.setIfInBounds_toArray, List.set_cons_zero, List.set_cons_succ]
            refine wpAnyH_take (i := 8) (v := .string xs) rfl (by kernel_rfl) (by kernel_rfl) (by kernel_rfl) (fun _ _ _ h => h) (Or.inl ⟨by rfl, fun w hw => by obtain ⟨s0, s1, s2⟩ := hw; go_simp⟩) hHeld ?_
            simp only [Act.put, List.getElem_toArray, List.getElem_cons_zero, List.getElem_cons_succ, List.setIfInBounds_toArray, List.set_cons_zero, List.set_cons_succ]
            refine wpAnyH_take (i := 9) (v := .pointer (some ⟨H, 0, none⟩)) rfl (by kernel_rfl) (by kernel_rfl) (by kernel_rfl) (fun _ _ _ h => h) (Or.inl ⟨by rfl, fun w hw => by go_simp⟩) hHeld ?_
            simp only [Act.put, List.getElem_toArray, List.getElem_cons_zero, List.getElem_cons_succ, List.setIfInBounds_toArray, List.set_cons_zero, List.set_cons_succ]
            refine wpAnyH_take (i := 10) (v := .slice (some ⟨g, o, none⟩) nl nc) rfl (by kernel_rfl) (by kernel_rfl) (by kernel_rfl) (fun _ _ _ h => h) (Or.inl ⟨by rfl, fun w hw => by obtain ⟨s0, s1, s2⟩ := hw; go_simp⟩) hHeld ?_
            simp only [Act.put, List.getElem_toArray, List.getElem_cons_zero, List.getElem_cons_succ, List.setIfInBounds_toArray, List.set_cons_zero, List.set_cons_succ]
            refine wpAnyH_take (i := 11) (v := .int .i64 ((i + 1 : Nat) : Int)) rfl (by kernel_rfl) (by kernel_rfl) (by kernel_rfl) (fun _ _ _ h => h) (Or.inl ⟨by rfl, fun w hw => by go_simp⟩) hHeld ?_
            simp only [Act.put, List.getElem_toArray, List.getElem_cons_zero, List.getElem_cons_succ, List.setIfInBounds_toArray, List.set_cons_zero, List.set_cons_succ]
            refine wpAnyH_take (i := 12) (v := .int .i64 (i : Int)) rfl (by kernel_rfl) (by kernel_rfl) (by kernel_rfl) (fun _ _ _ h => h) (Or.inl ⟨by rfl, fun w hw => by go_simp⟩) hHeld ?_
            simp only [Act.put, List.getElem_toArray, List.getElem_cons_zero, List.getElem_cons_succ, List.setIfInBounds_toArray, List.set_cons_zero, List.set_cons_succ]
            refine wpAnyH_take (i := 13) (v := .pointer (some ⟨g, o + i * 2, none⟩)) rfl (by kernel_rfl) (by kernel_rfl) (by kernel_rfl) (fun _ _ _ h => h) (Or.inl ⟨by rfl, fun w hw => by (go_simp; intro hh; omega)⟩) hHeld ?_
            simp only [Act.put, List.getElem_toArray, List.getElem_cons_zero, List.getElem_cons_succ, List.setIfInBounds_toArray, List.set_cons_zero, List.set_cons_succ]
            refine wpAnyH_take (i := 14) (v := .pointer (some ⟨g, o + i * 2, none⟩)) rfl (by kernel_rfl) (by kernel_rfl) (by kernel_rfl) (fun _ _ _ h => h) (Or.inl ⟨by rfl, fun w hw => by go_simp⟩) hHeld ?_
            simp only [Act.put, List.getElem_toArray, List.getElem_cons_zero, List.getElem_cons_succ, List.setIfInBounds_toArray, List.set_cons_zero, List.set_cons_succ]
            refine wpAnyH_take (i := 15) (v := .string ys) rfl (by kernel_rfl) (by kernel_rfl) (by kernel_rfl) (fun _ _ _ h => h) (Or.inl ⟨by rfl, fun w hw => by obtain ⟨s0, s1, s2⟩ := hw; go_simp⟩) hHeld ?_
            simp only [Act.put, List.getElem_toArray, List.getElem_cons_zero, List.getElem_cons_succ, List.setIfInBounds_toArray, List.set_cons_zero, List.set_cons_succ]
            refine wpAnyH_take (i := 16) (v := .bool true) rfl (by kernel_rfl) (by kernel_rfl) (by kernel_rfl) (fun _ _ _ h => h) (Or.inl ⟨by rfl, fun w hw => by go_simp⟩) hHeld ?_
            simp only [Act.put, List.getElem_toArray, List.getElem_cons_zero, List.getElem_cons_succ, List.setIfInBounds_toArray, List.set_cons_zero, List.set_cons_succ]
            refine wpAnyH_take (i := 17) (v := .bool true) rfl (by kernel_rfl) (by kernel_rfl) (by kernel_rfl) (fun _ _ _ h => h) (Or.inl ⟨by rfl, fun w hw => by go_simp⟩) hHeld ?_
            simp only [Act.put, List.getElem_toArray, List.getElem_cons_zero, List.getElem_cons_succ, List.setIfInBounds_toArray, List.set_cons_zero, List.set_cons_succ]
            refine wpAnyH_done (by kernel_rfl) ?_ _
            clear hHeld
            have HN2 : Hid (Below H w wr.drew) := HO.out.2.trans ((HI.out.1.trans ((belowDrew1 wr).mono HI.out.1.size)).mono (by rw [← HS.out]; exact HO.out.2.size))
            clear HI x0 g0 g2 HOW HJ
            go_wp2
            go_ret
            first | exact ⟨false, rfl, ⟨fun h => (by cases h), fun h => absurd h HGW.out⟩, (by rw [HS.out]; exact HN2.out)⟩ | exact Or.inl ⟨rfl, HGW.out, (by rw [HS.out]; exact HN2.out)⟩
          | false =>
            refine wp_region_held_drew (S := fun x => x.cell? ⟨H, 0, none⟩ = some (.slice (some ⟨g, o, none⟩) nl nc) ∧ x.cell? ⟨g, o + (i + 1) * 2, none⟩ = some (.string xs) ∧ x.cell? ⟨g, o + i * 2, none⟩ = some (.string ys)) (by kernel_rfl) (⟨x0, g0, g2⟩) (fun hHeld => ?_)
            refine wpAnyH_take (i := 0) (v := .int .i64 ((i + 1 : Nat) : Int)) rfl (by kernel_rfl) (by kernel_rfl) (by kernel_rfl) (fun _ _ _ h => h) (Or.inl ⟨by rfl, fun w hw => by go_simp⟩) hHeld ?_
            simp only [Act.put, List.getElem_toArray, List.getElem_cons_zero, List.setIfInBounds_toArray, List.set_cons_zero, List.set_cons_succ]
            refine wpAnyH_take (i := 1) (v := .bool true) rfl (by kernel_rfl) (by kernel_rfl) (by kernel_rfl) (fun _ _ _ h => h) (Or.inl ⟨by rfl, fun w hw => by go_simp⟩) hHeld ?_
            simp only [Act.put, List.getElem_toArray, List.getElem_cons_zero, List.getElem_cons_succ, List.setIfInBounds_toArray, List.set_cons_zero, List.set_cons_succ]
            refine wpAnyH_take (i := 2) (v := .bool true) rfl (by kernel_rfl) (by kernel_rfl) (by kernel_rfl) (fun _ _ _ h => h) (Or.inl ⟨by rfl, fun w hw => by go_simp⟩) hHeld ?_
            simp only [Act.put, List.getElem_toArray, List.getElem_cons_zero, List.getElem_cons_succ, List.setIfInBounds_toArray, List.set_cons_zero, List.set_cons_succ]
            refine wpAnyH_take (i := 3) (v := .pointer (some ⟨H, 0, none⟩)) rfl (by kernel_rfl) (by kernel_rfl) (by kernel_rfl) (fun _ _ _ h => h) (Or.inl ⟨by rfl, fun w hw => by go_simp⟩) hHeld ?_
            simp only [Act.put, List.getElem_toArray, List.getElem_cons_zero, List.getElem_cons_succ, List.setIfInBounds_toArray, List.set_cons_zero, List.set_cons_succ]
            refine wpAnyH_take (i := 4) (v := .slice (some ⟨g, o, none⟩) nl nc) rfl (by kernel_rfl) (by kernel_rfl) (by kernel_rfl) (fun _ _ _ h => h) (Or.inl ⟨by rfl, fun w hw => by obtain ⟨s0, s1, s2⟩ := hw; go_simp⟩) hHeld ?_
            simp only [Act.put, List.getElem_toArray, List.getElem_cons_zero, List.getElem_cons_succ, List.setIfInBounds_toArray, List.set_cons_zero, List.set_cons_succ]
            refine wpAnyH_take (i := 5) (v := .int .i64 ((i + 1 : Nat) : Int)) rfl (by kernel_rfl) (by kernel_rfl) (by kernel_rfl) (fun _ _ _ h => h) (Or.inl ⟨by rfl, fun w hw => by go_simp⟩) hHeld ?_
            simp only [Act.put, List.getElem_toArray, List.getElem_cons_zero, List.getElem_cons_succ, List.setIfInBounds_toArray, List.set_cons_zero, List.set_cons_succ]
            refine wpAnyH_take (i := 6) (v := .pointer (some ⟨g, o + (i + 1) * 2, none⟩)) rfl (by kernel_rfl) (by kernel_rfl) (by kernel_rfl) (fun _ _ _ h => h) (Or.inl ⟨by rfl, fun w hw => by (go_simp; intro hh; exact absurd (hh (by omega)) (by omega))⟩) hHeld ?_
            simp only [Act.put, List.getElem_toArray, List.getElem_cons_zero, List.getElem_cons_succ, List.setIfInBounds_toArray, List.set_cons_zero, List.set_cons_succ]
            refine wpAnyH_take (i := 7) (v := .pointer (some ⟨g, o + (i + 1) * 2, none⟩)) rfl (by kernel_rfl) (by kernel_rfl) (by kernel_rfl) (fun _ _ _ h => h) (Or.inl ⟨by rfl, fun w hw => by go_simp⟩) hHeld ?_
            simp only [Act.put, List.getElem_toArray, List.getElem_cons_zero, List.getElem_cons_succ, List.setIfInBounds_toArray, List.set_cons_zero, List.set_cons_succ]
            refine wpAnyH_take (i := 8) (v := .string xs) rfl (by kernel_rfl) (by kernel_rfl) (by kernel_rfl) (fun _ _ _ h => h) (Or.inl ⟨by rfl, fun w hw => by obtain ⟨s0, s1, s2⟩ := hw; go_simp⟩) hHeld ?_
            simp only [Act.put, List.getElem_toArray, List.getElem_cons_zero, List.getElem_cons_succ, List.setIfInBounds_toArray, List.set_cons_zero, List.set_cons_succ]
            refine wpAnyH_take (i := 9) (v := .pointer (some ⟨H, 0, none⟩)) rfl (by kernel_rfl) (by kernel_rfl) (by kernel_rfl) (fun _ _ _ h => h) (Or.inl ⟨by rfl, fun w hw => by go_simp⟩) hHeld ?_
            simp only [Act.put, List.getElem_toArray, List.getElem_cons_zero, List.getElem_cons_succ, List.setIfInBounds_toArray, List.set_cons_zero, List.set_cons_succ]
            refine wpAnyH_take (i := 10) (v := .slice (some ⟨g, o, none⟩) nl nc) rfl (by kernel_rfl) (by kernel_rfl) (by kernel_rfl) (fun _ _ _ h => h) (Or.inl ⟨by rfl, fun w hw => by obtain ⟨s0, s1, s2⟩ := hw; go_simp⟩) hHeld ?_
            simp only [Act.put, List.getElem_toArray, List.getElem_cons_zero, List.getElem_cons_succ, List.setIfInBounds_toArray, List.set_cons_zero, List.set_cons_succ]
            refine wpAnyH_take (i := 11) (v := .int .i64 ((i + 1 : Nat) : Int)) rfl (by kernel_rfl) (by kernel_rfl) (by kernel_rfl) (fun _ _ _ h => h) (Or.inl ⟨by rfl, fun w hw => by go_simp⟩) hHeld ?_
            simp only [Act.put, List.getElem_toArray, List.getElem_cons_zero, List.getElem_cons_succ, List.setIfInBounds_toArray, List.set_cons_zero, List.set_cons_succ]
            refine wpAnyH_take (i := 12) (v := .int .i64 (i : Int)) rfl (by kernel_rfl) (by kernel_rfl) (by kernel_rfl) (fun _ _ _ h => h) (Or.inl ⟨by rfl, fun w hw => by go_simp⟩) hHeld ?_
            simp only [Act.put, List.getElem_toArray, List.getElem_cons_zero, List.getElem_cons_succ, List.setIfInBounds_toArray, List.set_cons_zero, List.set_cons_succ]
            refine wpAnyH_take (i := 13) (v := .pointer (some ⟨g, o + i * 2, none⟩)) rfl (by kernel_rfl) (by kernel_rfl) (by kernel_rfl) (fun _ _ _ h => h) (Or.inl ⟨by rfl, fun w hw => by (go_simp; intro hh; omega)⟩) hHeld ?_
            simp only [Act.put, List.getElem_toArray, List.getElem_cons_zero, List.getElem_cons_succ, List.setIfInBounds_toArray, List.set_cons_zero, List.set_cons_succ]
            refine wpAnyH_take (i := 14) (v := .pointer (some ⟨g, o + i * 2, none⟩)) rfl (by kernel_rfl) (by kernel_rfl) (by kernel_rfl) (fun _ _ _ h => h) (Or.inl ⟨by rfl, fun w hw => by go_simp⟩) hHeld ?_
            simp only [Act.put, List.getElem_toArray, List.getElem_cons_zero, List.getElem_cons_succ, List.setIfInBounds_toArray, List.set_cons_zero, List.set_cons_succ]
            refine wpAnyH_take (i := 15) (v := .string ys) rfl (by kernel_rfl) (by kernel_rfl) (by kernel_rfl) (fun _ _ _ h => h) (Or.inl ⟨by rfl, fun w hw => by obtain ⟨s0, s1, s2⟩ := hw; go_simp⟩) hHeld ?_
            simp only [Act.put, List.getElem_toArray, List.getElem_cons_zero, List.getElem_cons_succ, List.setIfInBounds_toArray, List.set_cons_zero, List.set_cons_succ]
            refine wpAnyH_take (i := 16) (v := .bool false) rfl (by kernel_rfl) (by kernel_rfl) (by kernel_rfl) (fun _ _ _ h => h) (Or.inl ⟨by rfl, fun w hw => by go_simp⟩) hHeld ?_
            simp only [Act.put, List.getElem_toArray, List.getElem_cons_zero, List.getElem_cons_succ, List.setIfInBounds_toArray, List.set_cons_zero, List.set_cons_succ]
            refine wpAnyH_take (i := 17) (v := .bool false) rfl (by kernel_rfl) (by kernel_rfl) (by kernel_rfl) (fun _ _ _ h => h) (Or.inl ⟨by rfl, fun w hw => by go_simp⟩) hHeld ?_
            simp only [Act.put, List.getElem_toArray, List.getElem_cons_zero, List.getElem_cons_succ, List.setIfInBounds_toArray, List.set_cons_zero, List.set_cons_succ]
            refine wpAnyH_done (by kernel_rfl) ?_ _
            clear hHeld
            have HN2 : Hid (Below w0.heap.size w0 wr.drew ∧ riseN ns (i + 1 + 1)) := ⟨HI.out.1.trans ((belowDrew1 wr).mono HI.out.1.size), fun j a b hj ha hb => by
              rcases Nat.lt_succ_iff_lt_or_eq.1 hj with h | h
              · exact HI.out.2.1 j a b h ha hb
              · obtain rfl : j = i := by omega
                have e1 := HYI.out
                have e2 := HXI.out
                rw [ha] at e1
                rw [hb] at e2
                cases e1
                cases e2
                exact yes_rise hll⟩
            clear HI x0 g0 g2 HOW
            go_wp2
            exact ⟨⟨i + 1 + 1, by omega, by go_num, HN2.out.1, HN2.out.2, HJ.out⟩, by simp [intOf]; omega⟩
      · have HGW : Hid (¬ GW ns sz qu es) := fun h => by
          have h9 := h.1
          unfold wsB at h9
          simp only [Bool.and_eq_true, Bool.not_eq_true', List.any_eq_false] at h9
          have h8 := h9.2.2.2.1 _ (List.mem_of_getElem? HXI.out)
          simp only [Bool.not_eq_false] at h8
          exact hid h8
        have HN2 : Hid (Below H w wr) := HO.out.2.trans (HI.out.1.mono (by rw [← HS.out]; exact HO.out.2.size))
        have h9 : xi < 0 ∨ (¬ xi < 0 ∧ 255 < xi) := by unfold idB at hid; simp at hid; omega
        clear hid HI HOW
        rcases h9 with h9 | ⟨h8, h9⟩
        · go_wp2
          go_ret
          first | exact ⟨false, rfl, ⟨fun h => (by cases h), fun h => absurd h HGW.out⟩, (by rw [HS.out]; exact HN2.out)⟩ | exact Or.inl ⟨rfl, HGW.out, (by rw [HS.out]; exact HN2.out)⟩
        · go_wp2
          go_ret
          first | exact ⟨false, rfl, ⟨fun h => (by cases h), fun h => absurd h HGW.out⟩, (by rw [HS.out]; exact HN2.out)⟩ | exact Or.inl ⟨rfl, HGW.out, (by rw [HS.out]; exact HN2.out)⟩
    · obtain rfl : i = nl := by omega
      have HF : Hid (riseN ns i ∧ ns.any (fun x => !idB x.2) = false) := ⟨HI.out.2.1, by
        rw [List.any_eq_false]
        intro x hx
        obtain ⟨j, hj, rfl⟩ := List.getElem_of_mem hx
        rw [HI.out.2.2 j _ (by rw [← HNN.out]; exact hj) (List.getElem?_eq_getElem hj)]
        decide⟩
      have HB1 : Hid (Below w0.heap.size w0 wr) := HI.out.1
      have HBH : Hid (Below H w wr) := HO.out.2.trans (HI.out.1.mono (by rw [← HS.out]; exact HO.out.2.size))
      clear HI
      by_cases hsz : ¬ sz < 0 ∧ ¬ 1048576 < sz ∧ ¬ qu < 0
      · obtain ⟨h1, h2, h3⟩ := hsz
        go_upto_region 11 with fail
        clear x0 x1 x2 x3 x4
        go_loopw [4] (fun ti wq => ∃ k : Nat, k ≤ ml ∧ ti = .int .i64 k ∧ Hid (Below w0.heap.size w0 wq ∧ riseP es k ∧ ∀ (j : Nat) (e : PE), j < k → es[j]? = some e → owB e.key = false)) (fun ti _ => ml - (intOf ti).toNat)
        case atStart => exact ⟨0, Nat.zero_le _, rfl, HB1.out, fun j a b hj => by omega, fun j y hj => absurd hj (Nat.not_lt_zero _)⟩
        case round =>
          clear HB1 HBH HOW
          obtain ⟨k, hk, rfl, HI⟩ := hrel
          have hob := HO.out.1.keep HI.out.1
          have HOW := Lib.hid hob
          obtain ⟨x0, x1, x2, x3, x4⟩ := hob.box
          clear hob
          by_cases hlt : k < ml
          · obtain ⟨x, hx⟩ : ∃ x, es[k]? = some x := ⟨_, List.getElem?_eq_getElem (by have := HMM.out; omega)⟩
            obtain ⟨g, o, rfl, hg, hcc⟩ := HY.out.resolve_left (fun e => by rw [e] at hx; simp at hx)
            have g0 : wr.cell? ⟨g, o + k * 6, none⟩ = some (.string x.key) := Below.cellS HI.out.1 (Nat.le_refl _) ((hcc k _ hx).2 0 (by omega))
            have HC : Hid (∀ j (y : PE), es[j]? = some y → w0.cell? ⟨g, o + j * 6, none⟩ = some (.string y.key)) := fun j y hy => (hcc j y hy).2 0 (by omega)
            have HXI := Lib.hid hx
            clear hcc hx hg x0 x1 x2 x3
            generalize hxk : x.key = xs at *
            have HXK := Lib.hid hxk
            clear hxk
            go_wp2_with fail
            refine (own49 xs wr).mono ?_
            rintro e w1 ⟨rfl, hw1⟩
            subst w1
            cases how : owB xs with
            | true =>
              have HGW : Hid (¬ GW ns sz qu es) := fun h => by
                have h9 := h.1
                unfold wsB at h9
                simp only [Bool.and_eq_true, Bool.not_eq_true', List.any_eq_false] at h9
                have h8 := h9.2.2.2.2 _ (List.mem_of_getElem? HXI.out)
                rw [HXK.out] at h8
                exact h8 how
              have HN2 : Hid (Below H w wr) := HO.out.2.trans (HI.out.1.mono (by rw [← HS.out]; exact HO.out.2.size))
              clear HI HOW how
              go_wp2
              go_ret
              first | exact ⟨false, rfl, ⟨fun h => (by cases h), fun h => absurd h HGW.out⟩, (by rw [HS.out]; exact HN2.out)⟩ | exact Or.inl ⟨rfl, HGW.out, (by rw [HS.out]; exact HN2.out)⟩
            | false =>
              have HJ : Hid (∀ j (y : PE), j < k + 1 → es[j]? = some y → owB y.key = false) := fun j y hj hy => by
                rcases Nat.lt_succ_iff_lt_or_eq.1 hj with h | rfl
                · exact HI.out.2.2 j y h hy
                · have h9 := HXI.out
                  rw [hy] at h9
                  cases h9
                  rw [HXK.out]
                  exact how
              clear how
              go_upto_region 15 with fail
              cases k with
              | zero =>
                refine wp_region_held_drew (S := fun _ => True) (by kernel_rfl) (trivial) (fun hHeld => ?_)
                refine wpAnyH_take (i := 0) (v := .int .i64 0) rfl (by kernel_rfl) (by kernel_rfl) (by kernel_rfl) (fun _ _ _ h => h) (Or.inl ⟨by rfl, fun w hw => by go_simp⟩) hHeld ?_
                simp only [Act.put, List.getElem_toArray, List.getElem_cons_zero, List.setIfInBounds_toArray, List.set_cons_zero, List.set_cons_succ]
                refine wpAnyH_take (i := 1) (v := .bool false) rfl (by kernel_rfl) (by kernel_rfl) (by kernel_rfl) (fun _ _ _ h => h) (Or.inl ⟨by rfl, fun w hw => by go_simp⟩) hHeld ?_
                simp only [Act.put, List.getElem_toArray, List.getElem_cons_zero, List.getElem_cons_succ, List.setIfInBounds_toArray, List.set_cons_zero, List.set_cons_succ]
                refine wpAnyH_take (i := 2) (v := .bool false) rfl (by kernel_rfl) (by kernel_rfl) (by kernel_rfl) (fun _ _ _ h => h) (Or.inl ⟨by rfl, fun w hw => by go_simp⟩) hHeld ?_
                simp only [Act.put, List.getElem_toArray, List.getElem_cons_zero, List.getElem_cons_succ, List.setIfInBounds_toArray, List.set_cons_zero, List.set_cons_succ]
                refine wpAnyH_take (i := 3) (v := undef) rfl (by kernel_rfl) (by kernel_rfl) (by kernel_rfl) (fun _ _ _ h => h) (Or.inr ⟨by rfl, rfl⟩) hHeld ?_
                simp only [Act.put, List.getElem_toArray, List.getElem_cons_zero, List.getElem_cons_succ, List.setIfInBounds_toArray, List.set_cons_zero, List.set_cons_succ]
                refine wpAnyH_take (i := 4) (v := undef) rfl (by kernel_rfl) (by kernel_rfl) (by kernel_rfl) (fun _ _ _ h => h) (Or.inr ⟨by rfl, rfl⟩) hHeld ?_
                simp only [Act.put, List.getElem_toArray, List.getElem_cons_zero, List.getElem_cons_succ, List.setIfInBounds_toArray, List.set_cons_zero, List.set_cons_succ]
                refine wpAnyH_take (i := 5) (v := undef) rfl (by kernel_rfl) (by kernel_rfl) (by kernel_rfl) (fun _ _ _ h => h) (Or.inr ⟨by rfl, rfl⟩) hHeld ?_
                simp only [Act.put, List.getElem_toArray, List.getElem_cons_zero, List.getElem_cons_succ, List.setIfInBounds_toArray, List.set_cons_zero, List.set_cons_succ]
                refine wpAnyH_take (i := 6) (v := undef) rfl (by kernel_rfl) (by kernel_rfl) (by kernel_rfl) (fun _ _ _ h => h) (Or.inr ⟨by rfl, rfl⟩) hHeld ?_
                simp only [Act.put, List.getElem_toArray, List.getElem_cons_zero, List.getElem_cons_succ, List.setIfInBounds_toArray, List.set_cons_zero, List.set_cons_succ]
                refine wpAnyH_take (i := 7) (v := undef) rfl (by kernel_rfl) (by kernel_rfl) (by kernel_rfl) (fun _ _ _ h => h) (Or.inr ⟨by rfl, rfl⟩) hHeld ?_
                simp only [Act.put, List.getElem_toArray, List.getElem_cons_zero, List.getElem_cons_succ, List.setIfInBounds_toArray, List.set_cons_zero, List.set_cons_succ]
                refine wpAnyH_take (i := 8) (v := undef) rfl (by kernel_rfl) (by kernel_rfl) (by kernel_rfl) (fun _ _ _ h => h) (Or.inr ⟨by rfl, rfl⟩) hHeld ?_
                simp only [Act.put, List.getElem_toArray, List.getElem_cons_zero, List.getElem_cons_succ, List.setIfInBounds_toArray, List.set_cons_zero, List.set_cons_succ]
                refine wpAnyH_take (i := 9) (v := undef) rfl (by kernel_rfl) (by kernel_rfl) (by kernel_rfl) (fun _ _ _ h => h) (Or.inr ⟨by rfl, rfl⟩) hHeld ?_
                simp only [Act.put, List.getElem_toArray, List.getElem_cons_zero, List.getElem_cons_succ, List.setIfInBounds_toArray, List.set_cons_zero, List.set_cons_succ]
                refine wpAnyH_take (i := 10) (v := undef) rfl (by kernel_rfl) (by kernel_rfl) (by kernel_rfl) (fun _ _ _ h => h) (Or.inr ⟨by rfl, rfl⟩) hHeld ?_
                simp only [Act.put, List.getElem_toArray, List.getElem_cons_zero, List.getElem_cons_succ, List.setIfInBounds_toArray, List.set_cons_zero, List.set_cons_succ]
                refine wpAnyH_take (i := 11) (v := undef) rfl (by kernel_rfl) (by kernel_rfl) (by kernel_rfl) (fun _ _ _ h => h) (Or.inr ⟨by rfl, rfl⟩) hHeld ?_
                simp only [Act.put, List.getElem_toArray, List.getElem_cons_zero, List.getElem_cons_succ, List.setIfInBounds_toArray, List.set_cons_zero, List.set_cons_succ]
                refine wpAnyH_take (i := 12) (v := undef) rfl (by kernel_rfl) (by kernel_rfl) (by kernel_rfl) (fun _ _ _ h => h) (Or.inr ⟨by rfl, rfl⟩) hHeld ?_
                simp only [Act.put, List.getElem_toArray, List.getElem_cons_zero, List.getElem_cons_succ, List.setIfInBounds_toArray, List.set_cons_zero, List.set_cons_succ]
                refine wpAnyH_take (i := 13) (v := undef) rfl (by kernel_rfl) (by kernel_rfl) (by kernel_rfl) (fun _ _ _ h => h) (Or.inr ⟨by rfl, rfl⟩) hHeld ?_
                simp only [Act.put, List.getElem_toArray, List.getElem_cons_zero, List.getElem_cons_succ, List.setIfInBounds_toArray, List.set_cons_zero, List.set_cons_succ]
                refine wpAnyH_take (i := 14) (v := undef) rfl (by kernel_rfl) (by kernel_rfl) (by kernel_rfl) (fun _ _ _ h => h) (Or.inr ⟨by rfl, rfl⟩) hHeld ?_
                simp only [Act.put, List.getElem_toArray, List.getElem_cons_zero, List.getElem_cons_succ, List.setIfInBounds_toArray, List.set_cons_zero, List.set_cons_succ]
                refine wpAnyH_take (i := 15) (v := undef) rfl (by kernel_rfl) (by kernel_rfl) (by kernel_rfl) (fun _ _ _ h => h) (Or.inr ⟨by rfl, rfl⟩) hHeld ?_
                simp only [Act.put, List.getElem_toArray, List.getElem_cons_zero, List.getElem_cons_succ, List.setIfInBounds_toArray, List.set_cons_zero, List.set_cons_succ]
                refine wpAnyH_take (i := 16) (v := undef) rfl (by kernel_rfl) (by kernel_rfl) (by kernel_rfl) (fun _ _ _ h => h) (Or.inr ⟨by rfl, rfl⟩) hHeld ?_
                simp only [Act.put, List.getElem_toArray, List.getElem_cons_zero, List.getElem_cons_succ, List.setIfInBounds_toArray, List.set_cons_zero, List.set_cons_succ]
                refine wpAnyH_take (i := 17) (v := .bool false) rfl (by kernel_rfl) (by kernel_rfl) (by kernel_rfl) (fun _ _ _ h => h) (Or.inl ⟨by rfl, fun w hw => by go_simp⟩) hHeld ?_
                simp only [Act.put, List.getElem_toArray, List.getElem_cons_zero, List.getElem_cons_succ, List.setIfInBounds_toArray, List.set_cons_zero, List.set_cons_succ]
                refine wpAnyH_done (by kernel_rfl) ?_ _
                clear hHeld
                have HN2 : Hid (Below w0.heap.size w0 wr.drew) := HI.out.1.trans ((belowDrew1 wr).mono HI.out.1.size)
                clear HI x4 g0 HOW
                go_wp2
                exact ⟨⟨0 + 1, by omega, by go_num, HN2.out, fun j a b hj => by omega, HJ.out⟩, by simp [intOf]; omega⟩
              | succ k =>
                obtain ⟨y, hy⟩ : ∃ y, es[k]? = some y := ⟨_, List.getElem?_eq_getElem (by have := HMM.out; omega)⟩
                have g2 : wr.cell? ⟨g, o + k * 6, none⟩ = some (.string y.key) := Below.cellS HI.out.1 (Nat.le_refl _) (HC.out k y hy)
                have HYI := Lib.hid hy
                clear hy
                generalize hyk : y.key = ys at *
                have HYK := Lib.hid hyk
                clear hyk
                have hwr : IntKind.i64.wrap (k : Int) = (k : Int) := by unfold IntKind.wrap; simp [IntKind.bits, IntKind.signed]; omega
                cases hll : (Op.bytesLess xs.toList ys.toList || xs.toList == ys.toList) with
                | true =>
                  have HGW : Hid (¬ GW ns sz qu es) := fun h => by
                    have h9 := (rise_iff _).2 h.2.1 k (k + 1) (by omega) (by rw [HMM.out]; omega)
                    unfold kyG at h9
                    rw [getD_of HYI.out, getD_of HXI.out, HXK.out, HYK.out, not_rise hll] at h9
                    cases h9
                  refine wp_region_held_drew (S := fun x => x.cell? ⟨H, 4, none⟩ = some (.slice (some ⟨g, o, none⟩) ml mc) ∧ x.cell? ⟨g, o + (k + 1) * 6, none⟩ = some (.string xs) ∧ x.cell? ⟨g, o + k * 6, none⟩ = some (.string ys)) (by kernel_rfl) (⟨x4, g0, g2⟩) (fun hHeld => ?_)
                  refine wpAnyH_take (i := 0) (v := .int .i64 ((k + 1 : Nat) : Int)) rfl (by kernel_rfl) (by kernel_rfl) (by kernel_rfl) (fun _ _ _ h => h) (Or.inl ⟨by rfl, fun w hw => by go_simp⟩) hHeld ?_
                  simp only [Act.put, List.getElem_toArray, List.getElem_cons_zero, List.setIfInBounds_toArray, List.set_cons_zero, List.set_cons_succ]
                  refine wpAnyH_take (i := 1) (v := .bool true) rfl (by kernel_rfl) (by kernel_rfl) (by kernel_rfl) (fun _ _ _ h => h) (Or.inl ⟨by rfl, fun w hw => by go_simp⟩) hHeld ?_
                  simp only [Act.put, List.getElem_toArray, List.getElem_cons_zero, List.getElem_cons_succ, List.setIfInBounds_toArray, List.set_cons_zero, List.set_cons_succ]
                  refine wpAnyH_take (i := 2) (v := .bool true) rfl (by kernel_rfl) (by kernel_rfl) (by kernel_rfl) (fun _ _ _ h => h) (Or.inl ⟨by rfl, fun w hw => by go_simp⟩) hHeld ?_
                  simp only [Act.put, List.getElem_toArray, List.getElem_cons_zero, List.getElem_cons_succ, List.setIfInBounds_toArray, List.set_cons_zero, List.set_cons_succ]
                  refine wpAnyH_take (i := 3) (v := .pointer (some ⟨H, 4, none⟩)) rfl (by kernel_rfl) (by kernel_rfl) (by kernel_rfl) (fun _ _ _ h => h) (Or.inl ⟨by rfl, fun w hw => by go_simp⟩) hHeld ?_
                  simp only [Act.put, List.getElem_toArray, List.getElem_cons_zero, List.getElem_cons_succ, List.setIfInBounds_toArray, List.set_cons_zero, List.set_cons_succ]
                  refine wpAnyH_take (i := 4) (v := .slice (some ⟨g, o, none⟩) ml mc) rfl (by kernel_rfl) (by kernel_rfl) (by kernel_rfl) (fun _ _ _ h => h) (Or.inl ⟨by rfl, fun w hw => by obtain ⟨s0, s1, s2⟩ := hw; go_simp⟩) hHeld ?_
                  simp only [Act.put, List.getElem_toArray, List.getElem_cons_zero, List.getElem_cons_succ, List.setIfInBounds_toArray, List.set_cons_zero, List.set_cons_succ]
                  refine wpAnyH_take (i := 5) (v := .int .i64 ((k + 1 : Nat) : Int)) rfl (by kernel_rfl) (by kernel_rfl) (by kernel_rfl) (fun _ _ _ h => h) (Or.inl ⟨by rfl, fun w hw => by go_simp⟩) hHeld ?_
                  simp only [Act.put, List.getElem_toArray, List.getElem_cons_zero, List.getElem_cons_succ, List.setIfInBounds_toArray, List.set_cons_zero, List.set_cons_succ]
                  refine wpAnyH_take (i := 6) (v := .pointer (some ⟨g, o + (k + 1) * 6, none⟩)) rfl (by kernel_rfl) (by kernel_rfl) (by kernel_rfl) (fun _ _ _ h => h) (Or.inl ⟨by rfl, fun w hw => by (go_simp; intro hh; exact absurd (hh (by omega)) (by omega))⟩) hHeld ?_
                  simp only [Act.put, List.getElem_toArray, List.getElem_cons_zero, List.getElem_cons_succ, List.setIfInBounds_toArray, List.set_cons_zero, List.set_cons_succ]
                  refine wpAnyH_take (i := 7) (v := .pointer (some ⟨g, o + (k + 1) * 6, none⟩)) rfl (by kernel_rfl) (by kernel_rfl) (by kernel_rfl) (fun _ _ _ h => h) (Or.inl ⟨by rfl, fun w hw => by go_simp⟩) hHeld ?_
                  simp only [Act.put, List.getElem_toArray, List.getElem_cons_zero, List.getElem_cons_succ, List.setIfInBounds_toArray, List.set_cons_zero, List.set_cons_succ]
                  refine wpAnyH_take (i := 8) (v := .string xs) rfl (by kernel_rfl) (by kernel_rfl) (by kernel_rfl) (fun _ _ _ h => h) (Or.inl ⟨by rfl, fun w hw => by obtain ⟨s0, s1, s2⟩ := hw; go_simp⟩) hHeld ?_
                  simp only [Act.put, List.getElem_toArray, List.getElem_cons_zero, List.getElem_cons_succ, List.setIfInBounds_toArray, List.set_cons_zero, List.set_cons_succ]
                  refine wpAnyH_take (i := 9) (v := .pointer (some ⟨H, 4, none⟩)) rfl (by kernel_rfl) (by kernel_rfl) (by kernel_rfl) (fun _ _ _ h => h) (Or.inl ⟨by rfl, fun w hw => by go_simp⟩) hHeld ?_
                  simp only [Act.put, List.getElem_toArray, List.getElem_cons_zero, List.getElem_cons_succ, List.setIfInBounds_toArray, List.set_cons_zero, List.set_cons_succ]
                  refine wpAnyH_take (i := 10) (v := .slice (some ⟨g, o, none⟩) ml mc) rfl (by kernel_rfl) (by kernel_rfl) (by kernel_rfl) (fun _ _ _ h => h) (Or.inl ⟨by rfl, fun w hw => by obtain ⟨s0, s1, s2⟩ := hw; go_simp⟩) hHeld ?_
                  simp only [Act.put, List.getElem_toArray, List.getElem_cons_zero, List.getElem_cons_succ, List.setIfInBounds_toArray, List.set_cons_zero, List.set_cons_succ]
                  refine wpAnyH_take (i := 11) (v := .int .i64 ((k + 1 : Nat) : Int)) rfl (by kernel_rfl) (by kernel_rfl) (by kernel_rfl) (fun _ _ _ h => h) (Or.inl ⟨by rfl, fun w hw => by go_simp⟩) hHeld ?_
                  simp only [Act.put, List.getElem_toArray, List.getElem_cons_zero, List.getElem_cons_succ, List.setIfInBounds_toArray, List.set_cons_zero, List.set_cons_succ]
                  refine wpAnyH_take (i := 12) (v := .int .i64 (k : Int)) rfl (by kernel_rfl) (by kernel_rfl) (by kernel_rfl) (fun _ _ _ h => h) (Or.inl ⟨by rfl, fun w hw => by go_simp⟩) hHeld ?_
                  simp only [Act.put, List.getElem_toArray, List.getElem_cons_zero, List.getElem_cons_succ, List.setIfInBounds_toArray, List.set_cons_zero, List.set_cons_succ]
                  refine wpAnyH_take (i := 13) (v := .pointer (some ⟨g, o + k * 6, none⟩)) rfl (by kernel_rfl) (by kernel_rfl) (by kernel_rfl) (fun _ _ _ h => h) (Or.inl ⟨by rfl, fun w hw => by (go_simp; intro hh; omega)⟩) hHeld ?_
                  simp only [Act.put, List.getElem_toArray, List.getElem_cons_zero, List.getElem_cons_succ, List.setIfInBounds_toArray, List.set_cons_zero, List.set_cons_succ]
                  refine wpAnyH_take (i := 14) (v := .pointer (some ⟨g, o + k * 6, none⟩)) rfl (by kernel_rfl) (by kernel_rfl) (by kernel_rfl) (fun _ _ _ h => h) (Or.inl ⟨by rfl, fun w hw => by go_simp⟩) hHeld ?_
                  simp only [Act.put, List.getElem_toArray, List.getElem_cons_zero, List.getElem_cons_succ, List.setIfInBounds_toArray, List.set_cons_zero, List.set_cons_succ]
                  refine wpAnyH_take (i := 15) (v := .string ys) rfl (by kernel_rfl) (by kernel_rfl) (by kernel_rfl) (fun _ _ _ h => h) (Or.inl ⟨by rfl, fun w hw => by obtain ⟨s0, s1, s2⟩ := hw; go_simp⟩) hHeld ?_
                  simp only [Act.put, List.getElem_toArray, List.getElem_cons_zero, List.getElem_cons_succ, List.setIfInBounds_toArray, List.set_cons_zero, List.set_cons_succ]
                  refine wpAnyH_take (i := 16) (v := .bool true) rfl (by kernel_rfl) (by kernel_rfl) (by kernel_rfl) (fun _ _ _ h => h) (Or.inl ⟨by rfl, fun w hw => by go_simp⟩) hHeld ?_
                  simp only [Act.put, List.getElem_toArray, List.getElem_cons_zero, List.getElem_cons_succ, List.setIfInBounds_toArray, List.set_cons_zero, List.set_cons_succ]
                  refine wpAnyH_take (i := 17) (v := .bool true) rfl (by kernel_rfl) (by kernel_rfl) (by kernel_rfl) (fun _ _ _ h => h) (Or.inl ⟨by rfl, fun w hw => by go_simp⟩) hHeld ?_
                  simp only [Act.put, List.getElem_toArray, List.getElem_cons_zero, List.getElem_cons_succ, List.setIfInBounds_toArray, List.set_cons_zero, List.set_cons_succ]
                  refine wpAnyH_done (by kernel_rfl) ?_ _
                  clear hHeld
                  have HN2 : Hid (Below H w wr.drew) := HO.out.2.trans ((HI.out.1.trans ((belowDrew1 wr).mono HI.out.1.size)).mono (by rw [← HS.out]; exact HO.out.2.size))
                  clear HI x4 g0 g2 HOW HJ
                  go_wp2
                  go_ret
                  first | exact ⟨false, rfl, ⟨fun h => (by cases h), fun h => absurd h HGW.out⟩, (by rw [HS.out]; exact HN2.out)⟩ | exact Or.inl ⟨rfl, HGW.out, (by rw [HS.out]; exact HN2.out)⟩
                | false =>
                  refine wp_region_held_drew (S := fun x => x.cell? ⟨H, 4, none⟩ = some (.slice (some ⟨g, o, none⟩) ml mc) ∧ x.cell? ⟨g, o + (k + 1) * 6, none⟩ = some (.string xs) ∧ x.cell? ⟨g, o + k * 6, none⟩ = some (.string ys)) (by kernel_rfl) (⟨x4, g0, g2⟩) (fun hHeld => ?_)
                  refine wpAnyH_take (i := 0) (v := .int .i64 ((k + 1 : Nat) : Int)) rfl (by kernel_rfl) (by kernel_rfl) (by kernel_rfl) (fun _ _ _ h => h) (Or.inl ⟨by rfl, fun w hw => by go_simp⟩) hHeld ?_
                  simp only [Act.put, List.getElem_toArray, List.getElem_cons_zero, List.setIfInBounds_toArray, List.set_cons_zero, List.set_cons_succ]
                  refine wpAnyH_take (i := 1) (v := .bool true) rfl (by kernel_rfl) (by kernel_rfl) (by kernel_rfl) (fun _ _ _ h => h) (Or.inl ⟨by rfl, fun w hw => by go_simp⟩) hHeld ?_
                  simp only [Act.put, List.getElem_toArray, List.getElem_cons_zero, List.getElem_cons_succ, List.setIfInBounds_toArray, List.set_cons_zero, List.set_cons_succ]
                  refine wpAnyH_take (i := 2) (v := .bool true) rfl (by kernel_rfl) (by kernel_rfl) (by kernel_rfl) (fun _ _ _ h => h) (Or.inl ⟨by rfl, fun w hw => by go_simp⟩) hHeld ?_
                  simp only [Act.put, List.getElem_toArray, List.getElem_cons_zero, List.getElem_cons_succ, List.setIfInBounds_toArray, List.set_cons_zero, List.set_cons_succ]
                  refine wpAnyH_take (i := 3) (v := .pointer (some ⟨H, 4, none⟩)) rfl (by kernel_rfl) (by kernel_rfl) (by kernel_rfl) (fun _ _ _ h => h) (Or.inl ⟨by rfl, fun w hw => by go_simp⟩) hHeld ?_
                  simp only [Act.put, List.getElem_toArray, List.getElem_cons_zero, List.getElem_cons_succ, List.setIfInBounds_toArray, List.set_cons_zero, List.set_cons_succ]
                  refine wpAnyH_take (i := 4) (v := .slice (some ⟨g, o, none⟩) ml mc) rfl (by kernel_rfl) (by kernel_rfl) (by kernel_rfl) (fun _ _ _ h => h) (Or.inl ⟨by rfl, fun w hw => by obtain ⟨s0, s1, s2⟩ := hw; go_simp⟩) hHeld ?_
                  simp only [Act.put, List.getElem_toArray, List.getElem_cons_zero, List.getElem_cons_succ, List.setIfInBounds_toArray, List.set_cons_zero, List.set_cons_succ]
                  refine wpAnyH_take (i := 5) (v := .int .i64 ((k + 1 : Nat) : Int)) rfl (by kernel_rfl) (by kernel_rfl) (by kernel_rfl) (fun _ _ _ h => h) (Or.inl ⟨by rfl, fun w hw => by go_simp⟩) hHeld ?_
                  simp only [Act.put, List.getElem_toArray, List.getElem_cons_zero, List.getElem_cons_succ, List.setIfInBounds_toArray, List.set_cons_zero, List.set_cons_succ]
                  refine wpAnyH_take (i := 6) (v := .pointer (some ⟨g, o + (k + 1) * 6, none⟩)) rfl (by kernel_rfl) (by kernel_rfl) (by kernel_rfl) (fun _ _ _ h => h) (Or.inl ⟨by rfl, fun w hw => by (go_simp; intro hh; exact absurd (hh (by omega)) (by omega))⟩) hHeld ?_
                  simp only [Act.put, List.getElem_toArray, List.getElem_cons_zero, List.getElem_cons_succ, List.setIfInBounds_toArray, List.set_cons_zero, List.set_cons_succ]
                  refine wpAnyH_take (i := 7) (v := .pointer (some ⟨g, o + (k + 1) * 6, none⟩)) rfl (by kernel_rfl) (by kernel_rfl) (by kernel_rfl) (fun _ _ _ h => h) (Or.inl ⟨by rfl, fun w hw => by go_simp⟩) hHeld ?_
                  simp only [Act.put, List.getElem_toArray, List.getElem_cons_zero, List.getElem_cons_succ, List.setIfInBounds_toArray, List.set_cons_zero, List.set_cons_succ]
                  refine wpAnyH_take (i := 8) (v := .string xs) rfl (by kernel_rfl) (by kernel_rfl) (by kernel_rfl) (fun _ _ _ h => h) (Or.inl ⟨by rfl, fun w hw => by obtain ⟨s0, s1, s2⟩ := hw; go_simp⟩) hHeld ?_
                  simp only [Act.put, List.getElem_toArray, List.getElem_cons_zero, List.getElem_cons_succ, List.setIfInBounds_toArray, List.set_cons_zero, List.set_cons_succ]
                  refine wpAnyH_take (i := 9) (v := .pointer (some ⟨H, 4, none⟩)) rfl (by kernel_rfl) (by kernel_rfl) (by kernel_rfl) (fun _ _ _ h => h) (Or.inl ⟨by rfl, fun w hw => by go_simp⟩) hHeld ?_
                  simp only [Act.put, List.getElem_toArray, List.getElem_cons_zero, List.getElem_cons_succ, List.setIfInBounds_toArray, List.set_cons_zero, List.set_cons_succ]
                  refine wpAnyH_take (i := 10) (v := .slice (some ⟨g, o, none⟩) ml mc) rfl (by kernel_rfl) (by kernel_rfl) (by kernel_rfl) (fun _ _ _ h => h) (Or.inl ⟨by rfl, fun w hw => by obtain ⟨s0, s1, s2⟩ := hw; go_simp⟩) hHeld ?_
                  simp only [Act.put, List.getElem_toArray, List.getElem_cons_zero, List.getElem_cons_succ, List.setIfInBounds_toArray, List.set_cons_zero, List.set_cons_succ]
                  refine wpAnyH_take (i := 11) (v := .int .i64 ((k + 1 : Nat) : Int)) rfl (by kernel_rfl) (by kernel_rfl) (by kernel_rfl) (fun _ _ _ h => h) (Or.inl ⟨by rfl, fun w hw => by go_simp⟩) hHeld ?_
                  simp only [Act.put, List.getElem_toArray, List.getElem_cons_zero, List.getElem_cons_succ, List.setIfInBounds_toArray, List.set_cons_zero, List.set_cons_succ]
                  refine wpAnyH_take (i := 12) (v := .int .i64 (k : Int)) rfl (by kernel_rfl) (by kernel_rfl) (by kernel_rfl) (fun _ _ _ h => h) (Or.inl ⟨by rfl, fun w hw => by go_simp⟩) hHeld ?_
                  simp only [Act.put, List.getElem_toArray, List.getElem_cons_zero, List.getElem_cons_succ, List.setIfInBounds_toArray, List.set_cons_zero, List.set_cons_succ]
                  refine wpAnyH_take (i := 13) (v := .pointer (some ⟨g, o + k * 6, none⟩)) rfl (by kernel_rfl) (by kernel_rfl) (by kernel_rfl) (fun _ _ _ h => h) (Or.inl ⟨by rfl, fun w hw => by (go_simp; intro hh; omega)⟩) hHeld ?_
                  simp only [Act.put, List.getElem_toArray, List.getElem_cons_zero, List.getElem_cons_succ, List.setIfInBounds_toArray, List.set_cons_zero, List.set_cons_succ]
                  refine wpAnyH_take (i := 14) (v := .pointer (some ⟨g, o + k * 6, none⟩)) rfl (by kernel_rfl) (by kernel_rfl) (by kernel_rfl) (fun _ _ _ h => h) (Or.inl ⟨by rfl, fun w hw => by go_simp⟩) hHeld ?_
                  simp only [Act.put, List.getElem_toArray, List.getElem_cons_zero, List.getElem_cons_succ, List.setIfInBounds_toArray, List.set_cons_zero, List.set_cons_succ]
                  refine wpAnyH_take (i := 15) (v := .string ys) rfl (by kernel_rfl) (by kernel_rfl) (by kernel_rfl) (fun _ _ _ h => h) (Or.inl ⟨by rfl, fun w hw => by obtain ⟨s0, s1, s2⟩ := hw; go_simp⟩) hHeld ?_
                  simp only [Act.put, List.getElem_toArray, List.getElem_cons_zero, List.getElem_cons_succ, List.setIfInBounds_toArray, List.set_cons_zero, List.set_cons_succ]
                  refine wpAnyH_take (i := 16) (v := .bool false) rfl (by kernel_rfl) (by kernel_rfl) (by kernel_rfl) (fun _ _ _ h => h) (Or.inl ⟨by rfl, fun w hw => by go_simp⟩) hHeld ?_
                  simp only [Act.put, List.getElem_toArray, List.getElem_cons_zero, List.getElem_cons_succ, List.setIfInBounds_toArray, List.set_cons_zero, List.set_cons_succ]
                  refine wpAnyH_take (i := 17) (v := .bool false) rfl (by kernel_rfl) (by kernel_rfl) (by kernel_rfl) (fun _ _ _ h => h) (Or.inl ⟨by rfl, fun w hw => by go_simp⟩) hHeld ?_
                  simp only [Act.put, List.getElem_toArray, List.getElem_cons_zero, List.getElem_cons_succ, List.setIfInBounds_toArray, List.set_cons_zero, List.set_cons_succ]
                  refine wpAnyH_done (by kernel_rfl) ?_ _
                  clear hHeld
                  have HN2 : Hid (Below w0.heap.size w0 wr.drew ∧ riseP es (k + 1 + 1)) := ⟨HI.out.1.trans ((belowDrew1 wr).mono HI.out.1.size), fun j a b hj ha hb => by
                    rcases Nat.lt_succ_iff_lt_or_eq.1 hj with h | h
                    · exact HI.out.2.1 j a b h ha hb
                    · obtain rfl : j = k := by omega
                      have e1 := HYI.out
                      have e2 := HXI.out
                      rw [ha] at e1
                      rw [hb] at e2
                      cases e1
                      cases e2
                      rw [HXK.out, HYK.out]
                      exact yes_rise hll⟩
                  clear HI x4 g0 g2 HOW
                  go_wp2
                  exact ⟨⟨k + 1 + 1, by omega, by go_num, HN2.out.1, HN2.out.2, HJ.out⟩, by simp [intOf]; omega⟩
          · obtain rfl : k = ml := by omega
            have HP : Hid (es.Pairwise KL ∧ (nE ns).Pairwise KL ∧ (∀ e ∈ es, owB e.key = false)) := by
              refine ⟨rise_step (by rw [HMM.out]; exact HI.out.2.1), rise_nE (by rw [HNN.out]; exact HF.out.1), fun e he => ?_⟩
              obtain ⟨j, hj, rfl⟩ := List.getElem_of_mem he
              exact HI.out.2.2 j _ (by rw [← HMM.out]; exact hj) (List.getElem?_eq_getElem hj)
            have HWS : Hid (wsB ns sz qu es = true) := by
              show _ = true
              have e5 : es.any (fun e => owB e.key) = false := by
                rw [List.any_eq_false]
                intro x hx
                rw [HP.out.2.2 x hx]
                decide
              unfold wsB
              rw [HF.out.2, e5, decide_eq_true (by omega : 0 ≤ sz), decide_eq_true (by omega : sz ≤ 1048576), decide_eq_true (by omega : 0 ≤ qu)]
              rfl
            have HBH : Hid (Below H w wr ∧ H ≤ wr.heap.size) := by
              have h9 := HO.out.2.trans (HI.out.1.mono (by rw [← HS.out]; exact HO.out.2.size))
              exact ⟨h9, by rw [← HS.out] at h9 ⊢; exact h9.size⟩
            have HD := Lib.hid (dict50 na ma nc mc ns sz qu ag es wr (by rw [HNN.out]; exact HN.out.keep HI.out.1) (by rw [HMM.out]; exact (HM.out.keep HI.out.1).mono HI.out.1.size) (by rw [HNN.out, HMM.out]; exact HK.out.2.2.2))
            rw [HNN.out, HMM.out] at HD
            clear HI HOW
            go_wp2_with fail
            refine HD.out.mono ?_
            rintro e w2 ⟨yv, v', rfl, hrd, hb⟩
            have HLD : Hid (LD es (ownP ns sz qu ag yv) (wtAll es (ownP ns sz qu ag yv))) := own_LD HP.out.1 HP.out.2.2
            generalize hes : wtAll es (ownP ns sz qu ag yv) = es' at *
            have HB2 : Hid (Below H w w2 ∧ H ≤ w2.heap.size) := ⟨HBH.out.1.trans (hb.mono HBH.out.2), Nat.le_trans HBH.out.2 hb.size⟩
            clear hes HD HBH hb x0 x1 x2 x3 x4
            have hRD := hrd
            obtain ⟨va, vc, rfl, -⟩ := hrd
            have HV : Hid (∀ w', Below w2.heap.size w2 w' → Calls Tryd.prog 32 #[.agg #[.int .i64 4, .int .i64 0, .string ⟨#[]⟩, .slice none 0 0, .slice va es'.length vc]] w' fun e w'' => e = .returned (.int .i64 (wk (tG es') 0)) ∧ Below w'.heap.size w' w'') := fun w' hw => by
              have hlen := HLD.out.len
              have hokk : (tG es').ok := tG_ok (by have h9 := HK.out.2.2.2; have h8 := HMM.out; simp only [ownP, ownQ, List.length_cons, List.length_nil] at hlen; omega) (fun e he => (HLD.out.mem e he).elim (HK.out.2.2.1 e) (own_ok (by have h9 := HK.out.2.2.2; have h8 := HNN.out; omega) HK.out.1 HK.out.2.1 e))
              exact valid13 (tG es') (.slice none 0 0) (.slice va es'.length vc) w' hokk ⟨⟨none, 0, rfl, .inl rfl⟩, rd_keep hw (fun _ h => h) hRD⟩
            have HGI : Hid ((wk (tG es') 0 == 0) = true ↔ GW ns sz qu es) := (show GoodP ns sz qu ag es (wk (tG es') 0 == 0) from .inr ⟨HWS.out, yv, es', HLD.out, rfl⟩).iff
            clear hRD
            generalize es'.length = el at *
            go_upto_region 18 with fail
            have HOB := heap_new w2 (.cells #[.int .i64 4, .int .i64 0, .string ⟨#[]⟩, .slice none 0 0, .slice va el vc] 41)
            have b3 : Below w2.heap.size w2 (w2.alloc (.cells #[.int .i64 4, .int .i64 0, .string ⟨#[]⟩, .slice none 0 0, .slice va el vc] 41)) := (Below.refl _ _).alloc (Nat.le_refl _) _
            have HB3 : Hid (Below w2.heap.size w2 (w2.alloc (.cells #[.int .i64 4, .int .i64 0, .string ⟨#[]⟩, .slice none 0 0, .slice va el vc] 41))) := b3
            clear b3
            generalize w2.alloc (.cells #[.int .i64 4, .int .i64 0, .string ⟨#[]⟩, .slice none 0 0, .slice va el vc] 41) = w3 at *
            have z0 : w3.cell? ⟨w2.heap.size, 0, none⟩ = some (.int .i64 4) := by simp [World.cell?, HOB]
            have z1 : w3.cell? ⟨w2.heap.size, 1, none⟩ = some (.int .i64 0) := by simp [World.cell?, HOB]
            have z2 : w3.cell? ⟨w2.heap.size, 2, none⟩ = some (.string ⟨#[]⟩) := by simp [World.cell?, HOB]
            have z3 : w3.cell? ⟨w2.heap.size, 3, none⟩ = some (.slice none 0 0) := by simp [World.cell?, HOB]
            have z4 : w3.cell? ⟨w2.heap.size, 4, none⟩ = some (.slice va el vc) := by simp [World.cell?, HOB]
            clear HOB
            go_wp2_with fail
            refine (HV.out w3 HB3.out).mono ?_
            rintro e w4 ⟨rfl, hb⟩
            have HB4 : Hid (Below H w w4) := HB2.out.1.trans ((HB3.out.trans (hb.mono HB3.out.size)).mono HB2.out.2)
            clear hb z0 z1 z2 z3 z4 HV
            generalize wk (tG es') 0 = kk at *
            go_wp2
            go_ret
            exact ⟨kk == 0, rfl, HGI.out, (by rw [HS.out]; exact HB4.out)⟩
      · have HGW : Hid (¬ GW ns sz qu es) := fun h => by
          have h9 := h.1
          unfold wsB at h9
          simp only [Bool.and_eq_true, decide_eq_true_eq] at h9
          exact hsz ⟨by omega, by omega, by omega⟩
        have h9 : sz < 0 ∨ (¬ sz < 0 ∧ 1048576 < sz) ∨ (¬ sz < 0 ∧ ¬ 1048576 < sz ∧ qu < 0) := by omega
        clear hsz HOW
        rcases h9 with h7 | ⟨h7, h8⟩ | ⟨h7, h8, h9⟩
        all_goals
          go_wp2
          go_ret
          first | exact ⟨false, rfl, ⟨fun h => (by cases h), fun h => absurd h HGW.out⟩, (by rw [HS.out]; exact HBH.out)⟩ | exact Or.inl ⟨rfl, HGW.out, (by rw [HS.out]; exact HBH.out)⟩
end Go.Proofs.YtdchckelnccepaaDoor
