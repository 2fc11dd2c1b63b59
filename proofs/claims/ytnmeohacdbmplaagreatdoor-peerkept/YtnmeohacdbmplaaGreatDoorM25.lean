import Derived.Test.YtnmeohacdbmplaaGreatDoorM24
import Derived.Deep.MidRow
import Derived.ArgAppend
import Derived.Laws.OwnMore
namespace Go.Proofs.YtnmeohacdbmplaaGreatDoor
open Go.RowKit
/-- the same events -/
def EvQ (es ys : List Ev) : Prop := es.length = ys.length ∧ ∀ (k : Nat) (x y : Ev), es[k]? = some x → ys[k]? = some y → y.hello = x.hello ∧ y.peer = x.peer ∧ y.x.D = x.x.D ∧ y.x.hb = x.x.hb ∧ y.x.m = { x.x.m with d := y.x.m.d, h := y.x.m.h }
theorem EvH.same {es ys : List Ev} {met : List (List UInt8)} {xs : List Mg} (h1 : EvH es met xs) (h2 : EvH ys met xs) : EvQ es ys := by
  obtain ⟨es', rfl, e1⟩ := h1
  obtain ⟨ys', rfl, e2⟩ := h2
  have q1 := e1.1
  have q2 := e2.1
  refine ⟨by rw [List.length_append, List.length_append]; omega, fun k x y hx hy => ?_⟩
  by_cases hk : k < (met.map hev).length
  · rw [List.getElem?_append_left hk] at hx hy
    rw [hx] at hy
    obtain rfl := Option.some.inj hy
    exact ⟨rfl, rfl, rfl, rfl, rfl⟩
  · rw [List.getElem?_append_right (by omega)] at hx hy
    have hlt := (List.getElem?_eq_some_iff.1 hx).1
    obtain ⟨z, hz⟩ : ∃ z, xs[k - (met.map hev).length]? = some z := ⟨_, List.getElem?_eq_getElem (by omega)⟩
    obtain ⟨a1, a2, a3, a4, a5⟩ := e1.2 _ x z hx hz
    obtain ⟨b1, b2, b3, b4, b5⟩ := e2.2 _ y z hy hz
    refine ⟨b1.trans a1.symm, b2.trans a2.symm, b3.trans a3.symm, b4.trans a4.symm, ?_⟩
    rw [a5]
    exact b5
theorem flat61 (es : List Ev) (h : ∀ x ∈ es, x.ls.length = 61) (i : Nat) (x : Ev) (hi : es[i]? = some x) (j : Nat) (hj : j < 61) : (es.flatMap Ev.ls)[i * 61 + j]? = x.ls[j]? := by
  induction es generalizing i with
  | nil => simp at hi
  | cons y es ih =>
    have hy := h y (by simp)
    rw [List.flatMap_cons]
    cases i with
    | zero =>
      simp at hi
      subst hi
      rw [Nat.zero_mul, Nat.zero_add, List.getElem?_append_left (by omega)]
    | succ i =>
      rw [List.getElem?_append_right (by omega), show (i + 1) * 61 + j - y.ls.length = i * 61 + j by omega]
      exact ih (fun x hx => h x (by simp [hx])) i (by simpa using hi)
theorem EVS.at {B : Nat} {w : World} {g n c : Nat} {es : List Ev} (h : EVS B w (.slice (some ⟨g, 0, none⟩) n c) es) (hn : n = es.length) {k : Nat} {x : Ev} (hk : es[k]? = some x) : w.rangeAt g (k * 61) x.ls := by
  subst hn
  intro j u hu
  have h61 : x.ls.length = 61 := Ev.len (h.2 x (List.mem_of_getElem? hk))
  have hj := (List.getElem?_eq_some_iff.1 hu).1
  have hkl := (List.getElem?_eq_some_iff.1 hk).1
  rw [World.ownsRow.cellAt h.1 (k * 61 + j) (by omega), flat61 es (fun y hy => Ev.len (h.2 y hy)) k x hk j (by omega)]
  exact hu
theorem pr_of {u : World} {g o : Nat} {x : Ev} (h : u.rangeAt g o x.ls) : u.rangeAt g (o + 1) (Lib.byteCells x.peer) := fun j v hj => by
  rw [Nat.add_assoc, Nat.add_comm 1 j]
  refine h (j + 1) v ?_
  unfold Ev.ls
  rw [List.getElem?_cons_succ, List.getElem?_append_left (List.getElem?_eq_some_iff.1 hj).1]
  exact hj
theorem ms_of {u : World} {g o : Nat} {x : Ev} (h20 : x.peer.length = 20) (h : u.rangeAt g o x.ls) : u.rangeAt g (o + 21) x.x.m.ls := fun j v hj => by
  rw [Nat.add_assoc, Nat.add_comm 21 j]
  refine h (j + 21) v ?_
  unfold Ev.ls
  rw [show j + 21 = (j + 20) + 1 from rfl, List.getElem?_cons_succ, List.getElem?_append_right (by rw [bcl_len, h20]; omega), bcl_len, h20, show j + 20 - 20 = j by omega]
  exact hj
set_option maxHeartbeats 4000000 in
set_option maxRecDepth 100000 in
theorem eventsSameT (w : World) (B B' : Nat) (v1 v2 : Value) (es ys : List Ev) (h1 : EVS B w v1 es) (h2 : EVS B' w v2 ys) (hq : EvQ es ys) (hl : es.length ≤ 107374182) :
    Calls Tryz.prog 25 #[v1, v2] w fun e w' => e = .returned (.bool true) ∧ Below w.heap.size w w' := by
  have H1 := Lib.hid h1
  have H2 := Lib.hid h2
  have HQ := Lib.hid hq
  obtain ⟨a1, c1, rfl⟩ := h1.form
  obtain ⟨a2, c2, rfl⟩ := h2.form
  rw [← hq.1] at H2 ⊢
  clear h1 h2 hq
  obtain ⟨n, hn⟩ : ∃ n, n = es.length := ⟨_, rfl⟩
  have HN := Lib.hid hn
  rw [← hn] at H1 H2 hl ⊢
  clear hn
  go_enter Tryz.func25, Tryz.ntmps25
  go_wp2
  go_loopw [5] (fun t wr => ∃ k : Nat, k ≤ n ∧ t = .int .i64 k ∧ Hid (Below w.heap.size w wr)) (fun t _ => n - (intOf t).toNat)
  case atStart => exact ⟨0, Nat.zero_le _, rfl, Below.refl _ _⟩
  case round =>
    obtain ⟨k, hk, rfl, HBW⟩ := hrel
    by_cases hlt : k < n
    · obtain ⟨x, hx⟩ : ∃ x, es[k]? = some x := ⟨_, List.getElem?_eq_getElem (by rw [← HN.out]; exact hlt)⟩
      obtain ⟨y, hy⟩ : ∃ y, ys[k]? = some y := ⟨_, List.getElem?_eq_getElem (by rw [← HQ.out.1, ← HN.out]; exact hlt)⟩
      obtain ⟨g1, rfl⟩ : ∃ g1, a1 = some ⟨g1, 0, none⟩ := by
        rcases H1.out.1.2 with ⟨h, _⟩ | ⟨g, cap, cur, h, _⟩
        · simp at h; omega
        · simp at h; exact ⟨g, h.1⟩
      obtain ⟨g2, rfl⟩ : ∃ g2, a2 = some ⟨g2, 0, none⟩ := by
        rcases H2.out.1.2 with ⟨h, _⟩ | ⟨g, cap, cur, h, _⟩
        · simp at h; omega
        · simp at h; exact ⟨g, h.1⟩
      have heq := HQ.out.2 k x y hx hy
      have o1 := H1.out.2 x (List.mem_of_getElem? hx)
      have o2 := H2.out.2 y (List.mem_of_getElem? hy)
      have r1 := H1.out.at HN.out hx
      have r2 := H2.out.at (HN.out.trans HQ.out.1) hy
      have hl20 := o1.pr
      have hx20 := o1.pr
      have hy20 := o2.pr
      have hi20 : (Tryz.prog.info? 28).map (·.size) = some (Lib.byteCells x.peer).length := by rw [bcl_len, hl20]; exact info20
      have him1 : (Tryz.prog.info? 47).map (·.size) = some x.x.m.ls.length := by rw [info_msg o1.mg.ok, Mv.cs, List.size_toArray]
      have him2 : (Tryz.prog.info? 47).map (·.size) = some y.x.m.ls.length := by rw [info_msg o2.mg.ok, Mv.cs, List.size_toArray]
      have keep : ∀ (u u' : World) (g : Nat) (o : Nat) (xs : List Value), xs.length = 61 → u.rangeAt g o xs → Below u.heap.size u u' → u'.rangeAt g o xs := fun u u' g o xs _ hr hb j v hj => (World.cell?_of_block (w := u) (hb.block g (World.block_lt_of_cell? u _ (hr j v hj)))).trans (hr j v hj)
      have HV : Hid (wr.rangeAt g1 (k * 61) (Ev.ls x) ∧ wr.rangeAt g2 (k * 61) (Ev.ls y)) := ⟨keep w wr g1 _ _ (Ev.len o1) r1 HBW.out, keep w wr g2 _ _ (Ev.len o2) r2 HBW.out⟩
      have HKP : Hid (∀ w5, Below (wr.drewN 1).heap.size (wr.drewN 1) w5 → w5.rangeAt g1 (k * 61) (Ev.ls x) ∧ w5.rangeAt g2 (k * 61) (Ev.ls y)) := fun w5 b5 => ⟨keep (wr.drewN 1) w5 g1 _ _ (Ev.len o1) HV.out.1 b5, keep (wr.drewN 1) w5 g2 _ _ (Ev.len o2) HV.out.2 b5⟩
      have HMS := Lib.hid (msameT (wr.drewN 1) x.x.m y.x.m x.x.D x.x.hb (o1.mg.mm.keep (belowN HBW.out 1)) (by have := o2.mg.mm; rw [heq.2.2.1, heq.2.2.2.1] at this; exact this.keep (belowN HBW.out 1)) heq.2.2.2.2)
      have hkn : (k : Int) < (n : Int) := by omega
      have hk0 : (0 : Int) ≤ (k : Int) := by omega
      have HEQ := Lib.hid heq
      clear o1 o2 r1 r2 keep hx hy H1 H2 heq
      go_upto_region 6 with fail
      refine wp_region_held_drew (S := fun u => u.rangeAt g1 (k * 61) (Ev.ls x) ∧ u.rangeAt g2 (k * 61) (Ev.ls y)) (by kernel_rfl) (HV.out) (fun hHeld => ?_)
      refine wpAnyH_take (i := 0) (v := .slice (some ⟨g1, 0, none⟩) n c1) rfl (by kernel_rfl) (by kernel_rfl) (by kernel_rfl) (fun _ _ _ h => h) (Or.inl ⟨by rfl, fun w hw => by go_simp⟩) hHeld ?_
      simp only [Act.put, List.getElem_toArray, List.getElem_cons_zero, List.setIfInBounds_toArray, List.set_cons_zero, List.set_cons_succ]
      refine wpAnyH_take (i := 1) (v := .int .i64 (k : Int)) rfl (by kernel_rfl) (by kernel_rfl) (by kernel_rfl) (fun _ _ _ h => h) (Or.inl ⟨by rfl, fun w hw => by go_simp⟩) hHeld ?_
      simp only [Act.put, List.getElem_toArray, List.getElem_cons_zero, List.getElem_cons_succ, List.setIfInBounds_toArray, List.set_cons_zero, List.set_cons_succ]
      refine wpAnyH_take (i := 2) (v := .pointer (some ⟨g1, k * 61, none⟩)) rfl (by kernel_rfl) (by kernel_rfl) (by kernel_rfl) (fun _ _ _ h => h) (Or.inl ⟨by rfl, fun w hw => by have hq := hkn; have hq2 := hk0; go_simp⟩) hHeld ?_
      simp only [Act.put, List.getElem_toArray, List.getElem_cons_zero, List.getElem_cons_succ, List.setIfInBounds_toArray, List.set_cons_zero, List.set_cons_succ]
      refine wpAnyH_take (i := 3) (v := .pointer (some ⟨g1, k * 61, none⟩)) rfl (by kernel_rfl) (by kernel_rfl) (by kernel_rfl) (fun _ _ _ h => h) (Or.inl ⟨by rfl, fun w hw => by go_simp⟩) hHeld ?_
      simp only [Act.put, List.getElem_toArray, List.getElem_cons_zero, List.getElem_cons_succ, List.setIfInBounds_toArray, List.set_cons_zero, List.set_cons_succ]
      refine wpAnyH_take (i := 4) (v := .bool x.hello) rfl (by kernel_rfl) (by kernel_rfl) (by kernel_rfl) (fun _ _ _ h => h) (Or.inl ⟨by rfl, fun w hw => by have hq : w.cell? ⟨g1, k * 61, none⟩ = some (.bool x.hello) := hw.1 0 _ rfl; go_simp⟩) hHeld ?_
      simp only [Act.put, List.getElem_toArray, List.getElem_cons_zero, List.getElem_cons_succ, List.setIfInBounds_toArray, List.set_cons_zero, List.set_cons_succ]
      refine wpAnyH_take (i := 5) (v := .slice (some ⟨g2, 0, none⟩) n c2) rfl (by kernel_rfl) (by kernel_rfl) (by kernel_rfl) (fun _ _ _ h => h) (Or.inl ⟨by rfl, fun w hw => by go_simp⟩) hHeld ?_
      simp only [Act.put, List.getElem_toArray, List.getElem_cons_zero, List.getElem_cons_succ, List.setIfInBounds_toArray, List.set_cons_zero, List.set_cons_succ]
      refine wpAnyH_take (i := 6) (v := .int .i64 (k : Int)) rfl (by kernel_rfl) (by kernel_rfl) (by kernel_rfl) (fun _ _ _ h => h) (Or.inl ⟨by rfl, fun w hw => by go_simp⟩) hHeld ?_
      simp only [Act.put, List.getElem_toArray, List.getElem_cons_zero, List.getElem_cons_succ, List.setIfInBounds_toArray, List.set_cons_zero, List.set_cons_succ]
      refine wpAnyH_take (i := 7) (v := .pointer (some ⟨g2, k * 61, none⟩)) rfl (by kernel_rfl) (by kernel_rfl) (by kernel_rfl) (fun _ _ _ h => h) (Or.inl ⟨by rfl, fun w hw => by have hq := hkn; have hq2 := hk0; go_simp⟩) hHeld ?_
      simp only [Act.put, List.getElem_toArray, List.getElem_cons_zero, List.getElem_cons_succ, List.setIfInBounds_toArray, List.set_cons_zero, List.set_cons_succ]
      refine wpAnyH_take (i := 8) (v := .pointer (some ⟨g2, k * 61, none⟩)) rfl (by kernel_rfl) (by kernel_rfl) (by kernel_rfl) (fun _ _ _ h => h) (Or.inl ⟨by rfl, fun w hw => by go_simp⟩) hHeld ?_
      simp only [Act.put, List.getElem_toArray, List.getElem_cons_zero, List.getElem_cons_succ, List.setIfInBounds_toArray, List.set_cons_zero, List.set_cons_succ]
      refine wpAnyH_take (i := 9) (v := .bool x.hello) rfl (by kernel_rfl) (by kernel_rfl) (by kernel_rfl) (fun _ _ _ h => h) (Or.inl ⟨by rfl, fun w hw => by have hq : w.cell? ⟨g2, k * 61, none⟩ = some (.bool y.hello) := hw.2 0 _ rfl; rw [HEQ.out.1] at hq; go_simp⟩) hHeld ?_
      simp only [Act.put, List.getElem_toArray, List.getElem_cons_zero, List.getElem_cons_succ, List.setIfInBounds_toArray, List.set_cons_zero, List.set_cons_succ]
      refine wpAnyH_take (i := 10) (v := .bool false) rfl (by kernel_rfl) (by kernel_rfl) (by kernel_rfl) (fun _ _ _ h => h) (Or.inl ⟨by rfl, fun w hw => by go_simp⟩) hHeld ?_
      simp only [Act.put, List.getElem_toArray, List.getElem_cons_zero, List.getElem_cons_succ, List.setIfInBounds_toArray, List.set_cons_zero, List.set_cons_succ]
      refine wpAnyH_take (i := 11) (v := .bool false) rfl (by kernel_rfl) (by kernel_rfl) (by kernel_rfl) (fun _ _ _ h => h) (Or.inl ⟨by rfl, fun w hw => by go_simp⟩) hHeld ?_
      simp only [Act.put, List.getElem_toArray, List.getElem_cons_zero, List.getElem_cons_succ, List.setIfInBounds_toArray, List.set_cons_zero, List.set_cons_succ]
      refine wpAnyH_take (i := 12) (v := .slice (some ⟨g1, 0, none⟩) n c1) rfl (by kernel_rfl) (by kernel_rfl) (by kernel_rfl) (fun _ _ _ h => h) (Or.inl ⟨by rfl, fun w hw => by go_simp⟩) hHeld ?_
      simp only [Act.put, List.getElem_toArray, List.getElem_cons_zero, List.getElem_cons_succ, List.setIfInBounds_toArray, List.set_cons_zero, List.set_cons_succ]
      refine wpAnyH_take (i := 13) (v := .int .i64 (k : Int)) rfl (by kernel_rfl) (by kernel_rfl) (by kernel_rfl) (fun _ _ _ h => h) (Or.inl ⟨by rfl, fun w hw => by go_simp⟩) hHeld ?_
      simp only [Act.put, List.getElem_toArray, List.getElem_cons_zero, List.getElem_cons_succ, List.setIfInBounds_toArray, List.set_cons_zero, List.set_cons_succ]
      refine wpAnyH_take (i := 14) (v := .pointer (some ⟨g1, k * 61, none⟩)) rfl (by kernel_rfl) (by kernel_rfl) (by kernel_rfl) (fun _ _ _ h => h) (Or.inl ⟨by rfl, fun w hw => by have hq := hkn; have hq2 := hk0; go_simp⟩) hHeld ?_
      simp only [Act.put, List.getElem_toArray, List.getElem_cons_zero, List.getElem_cons_succ, List.setIfInBounds_toArray, List.set_cons_zero, List.set_cons_succ]
      refine wpAnyH_take (i := 15) (v := .pointer (some ⟨g1, k * 61 + 1, none⟩)) rfl (by kernel_rfl) (by kernel_rfl) (by kernel_rfl) (fun _ _ _ h => h) (Or.inl ⟨by rfl, fun w hw => by go_simp⟩) hHeld ?_
      simp only [Act.put, List.getElem_toArray, List.getElem_cons_zero, List.getElem_cons_succ, List.setIfInBounds_toArray, List.set_cons_zero, List.set_cons_succ]
      refine wpAnyH_take (i := 16) (v := .agg (bc x.peer)) rfl (by kernel_rfl) (by kernel_rfl) (by kernel_rfl) (fun _ _ _ h => h) (yieldsIf_load_mid (by rfl) _ _ rfl _ _ rfl _ _ (fun u hw => pr_of hw.1) Tryz.underlying28 rfl hi20) hHeld ?_
      simp only [Act.put, List.getElem_toArray, List.getElem_cons_zero, List.getElem_cons_succ, List.setIfInBounds_toArray, List.set_cons_zero, List.set_cons_succ]
      refine wpAnyH_take (i := 17) (v := .slice (some ⟨g2, 0, none⟩) n c2) rfl (by kernel_rfl) (by kernel_rfl) (by kernel_rfl) (fun _ _ _ h => h) (Or.inl ⟨by rfl, fun w hw => by go_simp⟩) hHeld ?_
      simp only [Act.put, List.getElem_toArray, List.getElem_cons_zero, List.getElem_cons_succ, List.setIfInBounds_toArray, List.set_cons_zero, List.set_cons_succ]
      refine wpAnyH_take (i := 18) (v := .int .i64 (k : Int)) rfl (by kernel_rfl) (by kernel_rfl) (by kernel_rfl) (fun _ _ _ h => h) (Or.inl ⟨by rfl, fun w hw => by go_simp⟩) hHeld ?_
      simp only [Act.put, List.getElem_toArray, List.getElem_cons_zero, List.getElem_cons_succ, List.setIfInBounds_toArray, List.set_cons_zero, List.set_cons_succ]
      refine wpAnyH_take (i := 19) (v := .pointer (some ⟨g2, k * 61, none⟩)) rfl (by kernel_rfl) (by kernel_rfl) (by kernel_rfl) (fun _ _ _ h => h) (Or.inl ⟨by rfl, fun w hw => by have hq := hkn; have hq2 := hk0; go_simp⟩) hHeld ?_
      simp only [Act.put, List.getElem_toArray, List.getElem_cons_zero, List.getElem_cons_succ, List.setIfInBounds_toArray, List.set_cons_zero, List.set_cons_succ]
      refine wpAnyH_take (i := 20) (v := .pointer (some ⟨g2, k * 61 + 1, none⟩)) rfl (by kernel_rfl) (by kernel_rfl) (by kernel_rfl) (fun _ _ _ h => h) (Or.inl ⟨by rfl, fun w hw => by go_simp⟩) hHeld ?_
      simp only [Act.put, List.getElem_toArray, List.getElem_cons_zero, List.getElem_cons_succ, List.setIfInBounds_toArray, List.set_cons_zero, List.set_cons_succ]
      refine wpAnyH_take (i := 21) (v := .agg (bc x.peer)) rfl (by kernel_rfl) (by kernel_rfl) (by kernel_rfl) (fun _ _ _ h => h) (yieldsIf_load_mid (by rfl) _ _ rfl _ _ rfl _ _ (fun u hw => HEQ.out.2.1 ▸ pr_of hw.2) Tryz.underlying28 rfl hi20) hHeld ?_
      simp only [Act.put, List.getElem_toArray, List.getElem_cons_zero, List.getElem_cons_succ, List.setIfInBounds_toArray, List.set_cons_zero, List.set_cons_succ]
      refine wpAnyH_take (i := 22) (v := .bool false) rfl (by kernel_rfl) (by kernel_rfl) (by kernel_rfl) (fun _ _ _ h => h) (Or.inl ⟨by rfl, fun w hw => by have hq := equal_20 w 9998 x.peer x.peer hl20 hl20; rw [decide_eq_true rfl] at hq; go_simp⟩) hHeld ?_
      simp only [Act.put, List.getElem_toArray, List.getElem_cons_zero, List.getElem_cons_succ, List.setIfInBounds_toArray, List.set_cons_zero, List.set_cons_succ]
      refine wpAnyH_take (i := 23) (v := .bool false) rfl (by kernel_rfl) (by kernel_rfl) (by kernel_rfl) (fun _ _ _ h => h) (Or.inl ⟨by rfl, fun w hw => by go_simp⟩) hHeld ?_
      simp only [Act.put, List.getElem_toArray, List.getElem_cons_zero, List.getElem_cons_succ, List.setIfInBounds_toArray, List.set_cons_zero, List.set_cons_succ]
      refine wpAnyH_take (i := 24) (v := .bool false) rfl (by kernel_rfl) (by kernel_rfl) (by kernel_rfl) (fun _ _ _ h => h) (Or.inl ⟨by rfl, fun w hw => by go_simp⟩) hHeld ?_
      simp only [Act.put, List.getElem_toArray, List.getElem_cons_zero, List.getElem_cons_succ, List.setIfInBounds_toArray, List.set_cons_zero, List.set_cons_succ]
      refine wpAnyH_take (i := 25) (v := .slice (some ⟨g1, 0, none⟩) n c1) rfl (by kernel_rfl) (by kernel_rfl) (by kernel_rfl) (fun _ _ _ h => h) (Or.inl ⟨by rfl, fun w hw => by go_simp⟩) hHeld ?_
      simp only [Act.put, List.getElem_toArray, List.getElem_cons_zero, List.getElem_cons_succ, List.setIfInBounds_toArray, List.set_cons_zero, List.set_cons_succ]
      refine wpAnyH_take (i := 26) (v := .int .i64 (k : Int)) rfl (by kernel_rfl) (by kernel_rfl) (by kernel_rfl) (fun _ _ _ h => h) (Or.inl ⟨by rfl, fun w hw => by go_simp⟩) hHeld ?_
      simp only [Act.put, List.getElem_toArray, List.getElem_cons_zero, List.getElem_cons_succ, List.setIfInBounds_toArray, List.set_cons_zero, List.set_cons_succ]
      refine wpAnyH_take (i := 27) (v := .pointer (some ⟨g1, k * 61, none⟩)) rfl (by kernel_rfl) (by kernel_rfl) (by kernel_rfl) (fun _ _ _ h => h) (Or.inl ⟨by rfl, fun w hw => by have hq := hkn; have hq2 := hk0; go_simp⟩) hHeld ?_
      simp only [Act.put, List.getElem_toArray, List.getElem_cons_zero, List.getElem_cons_succ, List.setIfInBounds_toArray, List.set_cons_zero, List.set_cons_succ]
      refine wpAnyH_take (i := 28) (v := .pointer (some ⟨g1, k * 61 + 21, none⟩)) rfl (by kernel_rfl) (by kernel_rfl) (by kernel_rfl) (fun _ _ _ h => h) (Or.inl ⟨by rfl, fun w hw => by go_simp⟩) hHeld ?_
      simp only [Act.put, List.getElem_toArray, List.getElem_cons_zero, List.getElem_cons_succ, List.setIfInBounds_toArray, List.set_cons_zero, List.set_cons_succ]
      refine wpAnyH_take (i := 29) (v := .agg x.x.m.cs) rfl (by kernel_rfl) (by kernel_rfl) (by kernel_rfl) (fun _ _ _ h => h) (yieldsIf_load_mid (by rfl) _ _ rfl _ _ rfl _ _ (fun u hw => ms_of hx20 hw.1) Tryz.underlying47 rfl him1) hHeld ?_
      simp only [Act.put, List.getElem_toArray, List.getElem_cons_zero, List.getElem_cons_succ, List.setIfInBounds_toArray, List.set_cons_zero, List.set_cons_succ]
      refine wpAnyH_take (i := 30) (v := .slice (some ⟨g2, 0, none⟩) n c2) rfl (by kernel_rfl) (by kernel_rfl) (by kernel_rfl) (fun _ _ _ h => h) (Or.inl ⟨by rfl, fun w hw => by go_simp⟩) hHeld ?_
      simp only [Act.put, List.getElem_toArray, List.getElem_cons_zero, List.getElem_cons_succ, List.setIfInBounds_toArray, List.set_cons_zero, List.set_cons_succ]
      refine wpAnyH_take (i := 31) (v := .int .i64 (k : Int)) rfl (by kernel_rfl) (by kernel_rfl) (by kernel_rfl) (fun _ _ _ h => h) (Or.inl ⟨by rfl, fun w hw => by go_simp⟩) hHeld ?_
      simp only [Act.put, List.getElem_toArray, List.getElem_cons_zero, List.getElem_cons_succ, List.setIfInBounds_toArray, List.set_cons_zero, List.set_cons_succ]
      refine wpAnyH_take (i := 32) (v := .pointer (some ⟨g2, k * 61, none⟩)) rfl (by kernel_rfl) (by kernel_rfl) (by kernel_rfl) (fun _ _ _ h => h) (Or.inl ⟨by rfl, fun w hw => by have hq := hkn; have hq2 := hk0; go_simp⟩) hHeld ?_
      simp only [Act.put, List.getElem_toArray, List.getElem_cons_zero, List.getElem_cons_succ, List.setIfInBounds_toArray, List.set_cons_zero, List.set_cons_succ]
      refine wpAnyH_take (i := 33) (v := .pointer (some ⟨g2, k * 61 + 21, none⟩)) rfl (by kernel_rfl) (by kernel_rfl) (by kernel_rfl) (fun _ _ _ h => h) (Or.inl ⟨by rfl, fun w hw => by go_simp⟩) hHeld ?_
      simp only [Act.put, List.getElem_toArray, List.getElem_cons_zero, List.getElem_cons_succ, List.setIfInBounds_toArray, List.set_cons_zero, List.set_cons_succ]
      refine wpAnyH_take (i := 34) (v := .agg y.x.m.cs) rfl (by kernel_rfl) (by kernel_rfl) (by kernel_rfl) (fun _ _ _ h => h) (yieldsIf_load_mid (by rfl) _ _ rfl _ _ rfl _ _ (fun u hw => ms_of hy20 hw.2) Tryz.underlying47 rfl him2) hHeld ?_
      simp only [Act.put, List.getElem_toArray, List.getElem_cons_zero, List.getElem_cons_succ, List.setIfInBounds_toArray, List.set_cons_zero, List.set_cons_succ]
      refine wpAnyH_ready (rs := [35]) (by kernel_rfl) (by simp) ?_
      refine AllReadyH.cons (o := _) rfl (fun K hK => ?_) AllReadyH.nil
      go_simp
      refine (HMS.out).mono ?_
      rintro e w5 ⟨rfl, b5⟩
      have HV5 : Hid (w5.rangeAt g1 (k * 61) (Ev.ls x) ∧ w5.rangeAt g2 (k * 61) (Ev.ls y)) := HKP.out w5 b5
      have HB5 : Hid (Below w.heap.size w w5) := (belowN HBW.out 1).trans (b5.mono HBW.out.size)
      clear b5
      go_wp2_with fail
      refine hK.out _ _ (HV5.out) (fun hHeld => ?_)
      clear hK K
      refine wpAnyH_take (i := 36) (v := .bool false) rfl (by kernel_rfl) (by kernel_rfl) (by kernel_rfl) (fun _ _ _ h => h) (Or.inl ⟨by rfl, fun w hw => by go_simp⟩) hHeld ?_
      simp only [Act.put, List.getElem_toArray, List.getElem_cons_zero, List.getElem_cons_succ, List.setIfInBounds_toArray, List.set_cons_zero, List.set_cons_succ]
      refine wpAnyH_take (i := 37) (v := .bool false) rfl (by kernel_rfl) (by kernel_rfl) (by kernel_rfl) (fun _ _ _ h => h) (Or.inl ⟨by rfl, fun w hw => by go_simp⟩) hHeld ?_
      simp only [Act.put, List.getElem_toArray, List.getElem_cons_zero, List.getElem_cons_succ, List.setIfInBounds_toArray, List.set_cons_zero, List.set_cons_succ]
      refine wpAnyH_done (by kernel_rfl) ?_ _
      clear hHeld
      go_wp2
      exact ⟨⟨k + 1, by omega, by go_num, HB5⟩, by simp [intOf]; omega⟩
    · obtain rfl : k = n := by omega
      go_wp2
      go_ret
      exact ⟨rfl, HBW.out⟩
end Go.Proofs.YtnmeohacdbmplaaGreatDoor
namespace Go.Proofs.YtnmeohacdbmplaaGreatDoor
open Go.RowKit
theorem OW.atP {B : Nat} {w : World} {g n cap : Nat} {l : List UInt8} (h : OW B w (.slice (some ⟨g, 0, none⟩) n cap) l) (k : Nat) (hk : k < l.length) : w.cell? ⟨g, k, none⟩ = some (.int .u8 ((byt l k).toNat : Int)) ∧ w.frozen? ⟨g, k, none⟩ = false := by
  constructor
  · obtain ⟨a', c', e, _, hh⟩ := h.rb
    simp only [Value.slice.injEq] at e
    obtain ⟨rfl, _, _⟩ := e
    rcases hh with hh | ⟨g', o', e', _, hh⟩
    · subst hh; simp at hk
    simp only [Option.some.injEq, Addr.mk.injEq] at e'
    obtain ⟨rfl, rfl, _⟩ := e'
    have := hh k hk
    rwa [Nat.zero_add] at this
  · rcases h.2 with ⟨e, _⟩ | ⟨g', cap', cur, e, _, h3, _⟩
    · cases e
    · cases e
      simp [World.frozen?, h3]
theorem OW.putP {B : Nat} {w : World} {g n cap : Nat} {l : List UInt8} (h : OW B w (.slice (some ⟨g, 0, none⟩) n cap) l) (k : Nat) (c : UInt8) : OW B (w.setCell ⟨g, k, none⟩ (.int .u8 (c.toNat : Int))) (.slice (some ⟨g, 0, none⟩) n cap) (l.set k c) := by
  rcases h.2 with ⟨e, _⟩ | ⟨g', cap', cur, e, h2, h3, h4, h5, h6, h7⟩
  · cases e
  simp only [Value.slice.injEq, Option.some.injEq, Addr.mk.injEq] at e
  obtain ⟨⟨rfl, _⟩, rfl, rfl⟩ := e
  refine ⟨by simp [Lib.byteCells], .inr ⟨g, cap, cur.setIfInBounds k (.int .u8 (c.toNat : Int)), by rw [List.length_set], h2, heap_setCell_same w g k cur 5 _ h3, by rw [List.length_set]; exact h4, h5, by simpa using h6, ?_⟩⟩
  rw [List.length_set, Array.toList_setIfInBounds, List.take_set, h7]
  simp [Lib.byteCells, List.map_set]
/-- a list of bytes that is being written over -/
structure Sp (w0 : World) (B : Nat) (g n cap : Nat) (wr : World) : Prop where
  ow : ∃ m : List UInt8, m.length = n ∧ OW B wr (.slice (some ⟨g, 0, none⟩) n cap) m
  fr : Fm.Fr (fun k => k ≠ g) w0 wr
theorem Sp.start {w : World} {B g n cap : Nat} {l : List UInt8} (h : OW B w (.slice (some ⟨g, 0, none⟩) n cap) l) (hn : l.length = n) : Sp w B g n cap w := ⟨⟨l, hn, h⟩, Fm.Fr.refl _ _⟩
theorem Sp.at {w0 wr : World} {B g n cap : Nat} (h : Sp w0 B g n cap wr) (k : Nat) (hk : k < n) : ∃ x : Int, 0 ≤ x ∧ x < 256 ∧ wr.cell? ⟨g, k, none⟩ = some (.int .u8 x) ∧ wr.frozen? ⟨g, k, none⟩ = false ∧ ∀ z : Int, 0 ≤ z → z < 256 → Sp w0 B g n cap (wr.setCell ⟨g, k, none⟩ (.int .u8 z)) := by
  obtain ⟨m, hm, ho⟩ := h.ow
  obtain ⟨q1, q2⟩ := ho.atP k (by omega)
  refine ⟨_, by omega, by have := (byt m k).toNat_lt; omega, q1, q2, fun z h0 h1 => ⟨⟨m.set k (UInt8.ofNat z.toNat), by rw [List.length_set]; exact hm, ?_⟩, h.fr.setCell g k _ (fun x => x rfl)⟩⟩
  have ez : z = (((UInt8.ofNat z.toNat).toNat : Nat) : Int) := by rw [UInt8.toNat_ofNat', Nat.mod_eq_of_lt (by omega)]; omega
  have := ho.putP k (UInt8.ofNat z.toNat)
  rw [← ez] at this
  exact this
set_option maxHeartbeats 1000000 in
set_option maxRecDepth 100000 in
/-- all bytes of a list that the call owns are turned -/
theorem spoilBytesT (w : World) (B : Nat) (v : Value) (l : List UInt8) (h : OW B w v l) (hl : l.length ≤ 140737488351232) :
    Calls Tryz.prog 30 #[v] w fun e w' => e = .returned (.tuple #[]) ∧ (∃ m : List UInt8, m.length = l.length ∧ OW B w' v m) ∧ Fm.Fr (fun k => v.ownBlock ≠ some k) w w' := by
  rcases h.2 with ⟨rfl, h0⟩ | ⟨g, cap, cur, rfl, _, _⟩
  · have hl0 : l = [] := List.length_eq_zero_iff.1 h0
    subst hl0
    have HW := Lib.hid h
    clear h
    go_enter Tryz.func30, Tryz.ntmps30
    go_wp2
    go_loopw [2] (fun t wr => t = .int .i64 0 ∧ w = wr) (fun _ _ => 0)
    case atStart => exact ⟨rfl, rfl⟩
    case round =>
      obtain ⟨rfl, rfl⟩ := hrel
      go_wp2
      go_end0
      exact ⟨rfl, ⟨[], rfl, HW.out⟩, Fm.Fr.refl _ _⟩
  · have HI0 := Lib.hid (Sp.start h rfl)
    generalize l.length = n at *
    clear h
    go_enter Tryz.func30, Tryz.ntmps30
    go_wp2
    go_loopw [2] (fun t wr => ∃ k : Nat, k ≤ n ∧ t = .int .i64 k ∧ Hid (Sp w B g n cap wr)) (fun t _ => n - (intOf t).toNat)
    case atStart => exact ⟨0, Nat.zero_le _, rfl, HI0⟩
    case round =>
      obtain ⟨k, hk, rfl, HI⟩ := hrel
      by_cases hlt : k < n
      · obtain ⟨x, hx0, hx1, hc, hf, hput⟩ := HI.out.at k hlt
        have hsub : IntKind.u8.wrap (255 - x) = 255 - x := by
          unfold IntKind.wrap
          simp [IntKind.signed, IntKind.bits]
          omega
        have HP := Lib.hid (hput (255 - x) (by omega) (by omega))
        have hkn : (k : Int) < (n : Int) := by omega
        clear hput
        go_wp2
        exact ⟨⟨k + 1, by omega, by go_num, HP⟩, by simp [intOf]; omega⟩
      · go_wp2
        go_end0
        obtain ⟨m, hm, ho⟩ := HI.out.ow
        exact ⟨rfl, ⟨m, hm, ho⟩, HI.out.fr.mono (fun k' _ h => by simpa [Value.ownBlock, eq_comm] using h)⟩
end Go.Proofs.YtnmeohacdbmplaaGreatDoor
namespace Go.Proofs.YtnmeohacdbmplaaGreatDoor
open Go.RowKit

theorem setR_size : ∀ (us : List Value) (cur : Array Value) (o : Nat), (setR cur o us).size = cur.size
  | [], _, _ => rfl
  | u :: us, cur, o => by unfold setR; rw [setR_size us, Array.size_setIfInBounds]
theorem setR_low : ∀ (us : List Value) (cur : Array Value) (o k : Nat), k ≤ o → (setR cur o us).toList.take k = cur.toList.take k
  | [], _, _, _, _ => rfl
  | u :: us, cur, o, k, h => by
    unfold setR
    rw [setR_low us _ (o + 1) k (by omega), Array.toList_setIfInBounds, List.take_set_of_le h]
theorem setR_high : ∀ (us : List Value) (cur : Array Value) (o : Nat), o + us.length ≤ cur.size → (setR cur o us).toList.take (o + us.length) = cur.toList.take o ++ us
  | [], _, _, _ => by simp [setR]
  | u :: us, cur, o, h => by
    rw [List.length_cons] at h
    unfold setR
    have := setR_high us (cur.setIfInBounds o u) (o + 1) (by rw [Array.size_setIfInBounds]; omega)
    rw [List.length_cons, show o + (us.length + 1) = o + 1 + us.length by omega, this, Array.toList_setIfInBounds, List.take_succ_eq_append_getElem (by simp; omega), List.take_set_of_le (Nat.le_refl _)]
    simp



theorem ownsRow_baseL {w : World} {B B' e size n : Nat} {v : Value} {xs : List Value} (h : w.ownsRow B e size v n xs) (hb : B' ≤ B) : w.ownsRow B' e size v n xs := by
  refine ⟨h.1, ?_⟩
  rcases h.2 with h1 | ⟨g, cap, cur, h1, h2, h3⟩
  · exact .inl h1
  · exact .inr ⟨g, cap, cur, h1, Nat.le_trans hb h2, h3⟩
/-- what an append keeps: every list of the same kind that ends no later -/
def KeepsL (e : TypeId) (sz : Nat) (sv : Value) (n : Nat) (w w' : World) : Prop := ∀ (B0 : Nat) (v0 : Value) (m : Nat) (xs0 : List Value), w.ownsRow B0 e sz v0 m xs0 → (v0.ownBlock = sv.ownBlock → m ≤ n) → w'.ownsRow B0 e sz v0 m xs0
theorem append_bothL {ops : Array Oper} {rest : List Oper} {o : Oper} {a : Act} {Q : Exit → Act → World → Prop} {w : World} {B : Nat} {e t : TypeId} {sv : Value} {n sz m : Nat} {xs us : List Value} (i0 : TypeInfo) (z : Value) (bytes : Nat) (hgd : o.guard = none) (s x : Operand)
    (ho : o.op = .call { callee := .builtin .append, args := #[s, x], argTypes := #[t, t] }) (h1 : Tryz.prog.underlying t = some (.slice e)) (h2 : Tryz.prog.info? e = some i0) (h3 : i0.zero = some z) (h4 : i0.size = sz) (h5 : i0.bytes = bytes) (h6 : z.cells.size = sz) (h7 : 0 < sz) (hm : 0 < m)
    (hs : a.eval s = sv) (hown : w.ownsRow B e sz sv n xs) (ad : Addr) (cx : Nat) (hx : a.eval x = .slice (some ad) m cx) (hul : us.length = m * sz) (hc : ∀ j u, us[j]? = some u → w.cell? (ad.add j) = some u) (h1c : ∀ u ∈ us, u.oneCell' = true) (hB : B ≤ w.heap.size) (b1 : n + m ≤ maxLen) (b2 : (n + m) * bytes ≤ 140737488355328)
    (h : ∀ v' w', w'.ownsRow B e sz v' (n + m) (xs ++ us) → KeepsL e sz sv n w w' → w.grownBy w' sv.ownBlock → (v'.ownBlock = sv.ownBlock ∨ ∀ g, v'.ownBlock = some g → w.heap.size ≤ g) → wpList Tryz.prog ops Q rest (a.put o.dst v') w') : wpList Tryz.prog ops Q (o :: rest) a w := by
  have hall : ∀ w', w.grownBy w' none → KeepsL e sz sv n w w' := fun w' r2 B0 v0 m xs0 ho' _ => by
    refine ⟨ho'.1, ?_⟩
    rcases ho'.2 with hh | ⟨g, cap, cur, e1, e2, e3, e4⟩
    · exact .inl hh
    · exact .inr ⟨g, cap, cur, e1, e2, (r2.block g (Array.getElem?_eq_some_iff.1 e3).1 (by simp)).trans e3, e4⟩
  rcases hown.2 with ⟨rfl, rfl⟩ | ⟨g, cap, cur, rfl, hBg, hg, hnc, hcm, hsz, htk⟩
  · obtain rfl : xs = [] := List.eq_nil_of_length_eq_zero (by simpa using hown.1)
    refine wpList_append_grows w hgd s x t ho e i0 z sz bytes h1 h2 h3 h4 h5 h6 h7 none 0 0 [] hs (fun _ => ⟨rfl, rfl⟩) (by simp) (fun b hb => by cases hb) ad m cx us hx hul hc h1c (by omega) b1 b2 (fun v' w' r1 r2 => ?_)
    exact h v' w' (ownsRow_baseL r1 hB) (hall w' r2) r2 (.inr (fun g hg => (World.ownsRow.lt r1 g hg).1))
  · refine wpList_append_arg w hgd s x t ho e i0 z sz bytes h1 h2 h3 h4 h5 h6 h7 g 0 n cap xs hs hown.1 (fun j u' hj => ?_) ad m cx us hx hul hc h1c (fun hr j hj => ?_) b1 b2 (fun hr => ?_) (fun hr v' w' r1 r2 => ?_)
    · have hj' : j < n * sz := by
        have := (List.getElem?_eq_some_iff.1 hj).1
        rwa [hown.1] at this
      rw [Nat.zero_add]
      rw [← htk, List.getElem?_take_of_lt hj', Array.getElem?_toList] at hj
      simpa [World.cell?, hg] using hj
    · have hle : n * sz + m * sz ≤ cur.size := by rw [← Nat.add_mul, hsz]; exact Nat.mul_le_mul_right _ hr
      have : n * sz + j < cur.size := by omega
      rw [Nat.zero_add]
      exact ⟨by simp [World.cell?, hg, this], by simp [World.frozen?, hg]⟩
    · have hle : n * sz + us.length ≤ cur.size := by rw [hul, ← Nat.add_mul, hsz]; exact Nat.mul_le_mul_right _ hr
      rw [Nat.zero_add]
      have hh := setCells_heap us w g (n * sz) cur e hg
      obtain ⟨k1, k2, k3, k4⟩ := setCells_rest us w g (n * sz)
      refine h _ _ ⟨by rw [List.length_append, hown.1, hul, Nat.add_mul], .inr ⟨g, cap, _, rfl, hBg, hh, hr, hcm, by rw [setR_size]; exact hsz, ?_⟩⟩ (fun B0 v0 m0 xs0 ho' hm0 => ?_) ⟨k1, k2, k3, by rw [k4]; exact Nat.le_refl _, fun k hk hne => setCells_other us w g _ k (fun e => hne (by rw [e]; rfl))⟩ (.inl rfl)
      · have := setR_high us cur (n * sz) hle
        rw [hul, ← Nat.add_mul] at this
        rw [this, htk]
      · refine ⟨ho'.1, ?_⟩
        rcases ho'.2 with hh' | ⟨g', cap', cur', e1, e2, e3, e4, e5, e6, e7⟩
        · exact .inl hh'
        · by_cases eg : g' = g
          · subst eg
            have hm' := hm0 (by rw [e1]; rfl)
            rw [hg] at e3
            simp only [Option.some.injEq, Obj.cells.injEq] at e3
            obtain ⟨rfl, _⟩ := e3
            refine .inr ⟨g', cap', _, e1, e2, hh, e4, e5, by rw [setR_size]; exact e6, ?_⟩
            rw [setR_low us cur _ _ (Nat.mul_le_mul_right _ hm')]
            exact e7
          · exact .inr ⟨g', cap', cur', e1, e2, (setCells_other us w g _ g' eg).trans e3, e4, e5, e6, e7⟩
    · exact h v' w' (ownsRow_baseL r1 hB) (hall w' r2) ⟨r2.os, r2.tape, r2.output, r2.size, fun k hk _ => r2.block k hk (by simp)⟩ (.inr (fun g hg => (World.ownsRow.lt r1 g hg).1))
end Go.Proofs.YtnmeohacdbmplaaGreatDoor
namespace Go.Proofs.YtnmeohacdbmplaaGreatDoor
open Go.RowKit
/-- no list -/
def nv : Value := .slice none 0 0
theorem info31 : (Tryz.prog.info? 31).map (fun i => (i.zero, i.size, i.bytes)) = some (some (.slice none 0 0), 1, 24) := by kernel_rfl
theorem info5b : (Tryz.prog.info? 5).map (fun i => (i.zero, i.size, i.bytes)) = some (some (.int .u8 0), 1, 1) := by kernel_rfl
theorem rowFr {S : Nat → Prop} {B e size n : Nat} {w w' : World} {v : Value} {us : List Value} (h : w.ownsRow B e size v n us) (hf : Fm.Fr S w w') (hs : ∀ g, v.ownBlock = some g → S g) : w'.ownsRow B e size v n us := by
  refine ⟨h.1, ?_⟩
  rcases h.2 with h1 | ⟨g, cap, cur, h1, h2, h3, h4⟩
  · exact .inl h1
  · exact .inr ⟨g, cap, cur, h1, h2, (hf.block g (Array.getElem?_eq_some_iff.1 h3).1 (hs g (by rw [h1]; rfl))).trans h3, h4⟩
theorem OW.frS {S : Nat → Prop} {B : Nat} {w w' : World} {v : Value} {l : List UInt8} (h : OW B w v l) (hf : Fm.Fr S w w') (hs : ∀ g, v.ownBlock = some g → S g) : OW B w' v l := rowFr h hf hs
theorem rowTag {w : World} {B e size n : Nat} {v : Value} {us : List Value} (h : w.ownsRow B e size v n us) {g : Nat} (hg : v.ownBlock = some g) : B ≤ g ∧ g < w.heap.size ∧ ∃ cs, w.heap[g]? = some (.cells cs e (0, 0)) := by
  rcases h.2 with ⟨rfl, _⟩ | ⟨q, cap, cur, rfl, h2, h3, _⟩
  · simp [Value.ownBlock] at hg
  · simp [Value.ownBlock] at hg
    subst hg
    exact ⟨h2, (Array.getElem?_eq_some_iff.1 h3).1, cur, h3⟩
theorem tag_ne {w : World} {g g' : Nat} {cs cs' : Array Value} {t t' : TypeId} {f f' : Nat × Nat} (h : w.heap[g]? = some (.cells cs t f)) (h' : w.heap[g']? = some (.cells cs' t' f')) (ht : t ≠ t') : g ≠ g' := by
  rintro rfl
  rw [h] at h'
  simp only [Option.some.injEq, Obj.cells.injEq] at h'
  exact ht h'.2.1
/-- lists of bytes, each in a block of its own -/
structure FL (B : Nat) (w : World) (vs : List Value) (L : List (List UInt8)) : Prop where
  len : vs.length = L.length
  each : ∀ j, j < L.length → OW B w (vs.getD j nv) (L.getD j [])
  ap : ∀ i j g, i < L.length → j < L.length → i ≠ j → (vs.getD i nv).ownBlock = some g → (vs.getD j nv).ownBlock ≠ some g
/-- the blocks of the lists -/
def bks (vs : List Value) (g : Nat) : Prop := ∃ j, j < vs.length ∧ (vs.getD j nv).ownBlock = some g
theorem FL.fr {S : Nat → Prop} {B : Nat} {w w' : World} {vs : List Value} {L : List (List UInt8)} (h : FL B w vs L) (hf : Fm.Fr S w w') (h2 : ∀ g, bks vs g → S g) : FL B w' vs L :=
  ⟨h.len, fun j hj => (h.each j hj).frS hf (fun g hg => h2 g ⟨j, by rw [h.len]; exact hj, hg⟩), h.ap⟩
theorem FL.lt {B : Nat} {w : World} {vs : List Value} {L : List (List UInt8)} (h : FL B w vs L) {g : Nat} (hg : bks vs g) : B ≤ g ∧ g < w.heap.size ∧ ∃ cs, w.heap[g]? = some (.cells cs 5 (0, 0)) := by
  obtain ⟨j, hj, e⟩ := hg
  exact rowTag (h.each j (by rw [← h.len]; exact hj)) e
/-- the lists, and the first j of them gone on with -/
structure MF (w1 : World) (B : Nat) (vs : List Value) (L : List (List UInt8)) (mk : Nat → List UInt8) (j : Nat) (ms : List Value) (w3 : World) : Prop where
  fl : FL B w3 vs L
  len : ms.length = j
  each : ∀ q, q < j → OW B w3 (ms.getD q nv) (L.getD q [] ++ mk q)
  loc : ∀ q, q < j → (ms.getD q nv).ownBlock = (vs.getD q nv).ownBlock ∨ ∀ g, (ms.getD q nv).ownBlock = some g → w1.heap.size ≤ g
  fr : Fm.Fr (fun k => ¬ bks vs k) w1 w3
  old : ∀ g, bks vs g → g < w1.heap.size
theorem MF.start {w1 : World} {B : Nat} {vs : List Value} {L : List (List UInt8)} (mk : Nat → List UInt8) (h : FL B w1 vs L) : MF w1 B vs L mk 0 [] w1 :=
  ⟨h, rfl, fun _ hq => absurd hq (Nat.not_lt_zero _), fun _ hq => absurd hq (Nat.not_lt_zero _), Fm.Fr.refl _ _, fun _ hg => (h.lt hg).2.1⟩
/-- where only other blocks turn -/
theorem MF.frm {w1 : World} {B : Nat} {vs : List Value} {L : List (List UInt8)} {mk : Nat → List UInt8} {j : Nat} {ms : List Value} {w3 w4 : World} {S : Nat → Prop} (h : MF w1 B vs L mk j ms w3) (_hj : j ≤ L.length) (f : Fm.Fr S w3 w4) (h5 : ∀ k cs, w3.heap[k]? = some (.cells cs 5 (0, 0)) → S k) (h1 : ∀ k, k < w1.heap.size → S k) : MF w1 B vs L mk j ms w4 :=
  ⟨h.fl.fr f (fun g hg => (h.fl.lt hg).2.2.elim (h5 g)), h.len, fun q hq => (h.each q hq).frS f (fun g hg => (rowTag (h.each q hq) hg).2.2.elim (h5 g)), h.loc, ⟨f.os.trans h.fr.os, f.tape.trans h.fr.tape, f.output.trans h.fr.output, Nat.le_trans h.fr.size f.size, fun k hk hn => (f.block k (Nat.lt_of_lt_of_le hk h.fr.size) (h1 k hk)).trans (h.fr.block k hk hn)⟩, h.old⟩
theorem MF.below {w1 : World} {B : Nat} {vs : List Value} {L : List (List UInt8)} {mk : Nat → List UInt8} {j : Nat} {ms : List Value} {w3 w4 : World} (h : MF w1 B vs L mk j ms w3) (hj : j ≤ L.length) (hb : Below w3.heap.size w3 w4) : MF w1 B vs L mk j ms w4 :=
  h.frm hj (S := fun _ => True) (Fm.Fr.of_below hb) (fun _ _ _ => trivial) (fun _ _ => trivial)
/-- one more of them is being gone on with -/
structure CG (w1 w3 : World) (B : Nat) (vs : List Value) (L : List (List UInt8)) (mk : Nat → List UInt8) (j : Nat) (ms : List Value) (zv : Value) (a : List UInt8) (w : World) : Prop where
  mf : MF w1 B vs L mk j ms w
  sz : w3.heap.size ≤ w.heap.size
  w13 : w1.heap.size ≤ w3.heap.size
  ow : OW B w zv (L.getD j [] ++ a)
  at_ : zv.ownBlock = (vs.getD j nv).ownBlock ∨ ∀ g, zv.ownBlock = some g → w3.heap.size ≤ g
  msl : ∀ q, q < j → ∀ g, (ms.getD q nv).ownBlock = some g → g < w3.heap.size
theorem CG.start {w1 w3 : World} {B : Nat} {vs : List Value} {L : List (List UInt8)} {mk : Nat → List UInt8} {j : Nat} {ms : List Value} (h : MF w1 B vs L mk j ms w3) (hj : j < L.length) : CG w1 w3 B vs L mk j ms (vs.getD j nv) [] w3 :=
  ⟨h, Nat.le_refl _, h.fr.size, by rw [List.append_nil]; exact h.fl.each j hj, .inl rfl, fun q hq g hg => (rowTag (h.each q hq) hg).2.1⟩
theorem CG.below {w1 w3 : World} {B : Nat} {vs : List Value} {L : List (List UInt8)} {mk : Nat → List UInt8} {j : Nat} {ms : List Value} {zv : Value} {a : List UInt8} {w w' : World} (h : CG w1 w3 B vs L mk j ms zv a w) (hj : j ≤ L.length) (hb : Below w.heap.size w w') : CG w1 w3 B vs L mk j ms zv a w' :=
  ⟨h.mf.below hj hb, Nat.le_trans h.sz hb.size, h.w13, h.ow.grow hb, h.at_, h.msl⟩
theorem CG.step {w1 w3 : World} {B : Nat} {vs : List Value} {L : List (List UInt8)} {mk : Nat → List UInt8} {j : Nat} {ms : List Value} {zv : Value} {a : List UInt8} {w w' : World} (h : CG w1 w3 B vs L mk j ms zv a w) (hj : j < L.length) (u : List UInt8) (v' : Value)
    (h1 : w'.ownsRow B 5 1 v' ((L.getD j [] ++ a).length + u.length) (Lib.byteCells (L.getD j [] ++ a) ++ Lib.byteCells u)) (h2 : KeepsL 5 1 zv (L.getD j [] ++ a).length w w') (h3 : w.grownBy w' zv.ownBlock) (h4 : v'.ownBlock = zv.ownBlock ∨ ∀ g, v'.ownBlock = some g → w.heap.size ≤ g) :
    CG w1 w3 B vs L mk j ms v' (a ++ u) w' := by
  have hjv : j < vs.length := by rw [h.mf.fl.len]; exact hj
  have frz : Fm.Fr (fun k => zv.ownBlock ≠ some k) w w' := ⟨h3.os, h3.tape, h3.output, h3.size, fun k hk hs => h3.block k hk (fun e => hs e.symm)⟩
  refine ⟨⟨⟨h.mf.fl.len, fun i hi => ?_, h.mf.fl.ap⟩, h.mf.len, fun q hq => ?_, h.mf.loc, ?_, h.mf.old⟩, Nat.le_trans h.sz h3.size, h.w13, ?_, ?_, h.msl⟩
  · refine h2 B _ _ _ (h.mf.fl.each i hi) (fun he => ?_)
    cases hb : (vs.getD i nv).ownBlock with
    | none =>
      rcases (h.mf.fl.each i hi).2 with ⟨_, h0⟩ | ⟨g, cap, cur, e1, _⟩
      · rw [h0]; exact Nat.zero_le _
      · rw [e1] at hb; simp [Value.ownBlock] at hb
    | some g =>
      by_cases hij : i = j
      · subst hij
        rw [List.length_append]; omega
      · rcases h.at_ with e | e
        · exact absurd (by rw [← e, ← he]; exact hb) (h.mf.fl.ap i j g hi hj hij hb)
        · have q1 := e g (by rw [← he]; exact hb)
          have q2 := h.mf.old g ⟨i, by rw [h.mf.fl.len]; exact hi, hb⟩
          have q3 := h.w13
          omega
  · refine (h.mf.each q hq).frS frz (fun g hg hz => ?_)
    have hm := h.msl q hq g hg
    rcases h.at_ with e | e
    · rcases h.mf.loc q hq with e2 | e2
      · exact h.mf.fl.ap q j g (by omega) hj (by omega) (by rw [← e2]; exact hg) (by rw [← e]; exact hz)
      · have q1 := e2 g hg
        have q2 := h.mf.old g ⟨j, hjv, by rw [← e]; exact hz⟩
        omega
    · have q1 := e g hz
      omega
  · refine ⟨h3.os.trans h.mf.fr.os, h3.tape.trans h.mf.fr.tape, h3.output.trans h.mf.fr.output, Nat.le_trans h.mf.fr.size h3.size, fun k hk hn => (frz.block k (Nat.lt_of_lt_of_le hk h.mf.fr.size) (fun hz => ?_)).trans (h.mf.fr.block k hk hn)⟩
    rcases h.at_ with e | e
    · exact hn ⟨j, hjv, by rw [← e]; exact hz⟩
    · have q1 := e k hz
      have q3 := h.w13
      omega
  · unfold OW
    rw [← List.append_assoc, bcl_append, List.length_append]
    exact h1
  · rcases h4 with e | e
    · rw [e]; exact h.at_
    · exact .inr (fun g hg => Nat.le_trans h.sz (e g hg))
/-- it joins those that were gone on with -/
theorem CG.done {w1 w3 : World} {B : Nat} {vs : List Value} {L : List (List UInt8)} {mk : Nat → List UInt8} {j : Nat} {ms : List Value} {zv : Value} {w : World} (h : CG w1 w3 B vs L mk j ms zv (mk j) w) : MF w1 B vs L mk (j + 1) (ms ++ [zv]) w := by
  have hlast : (ms ++ [zv]).getD j nv = zv := by rw [List.getD_eq_getElem?_getD, List.getElem?_append_right (by rw [h.mf.len]; exact Nat.le_refl _), h.mf.len]; simp
  have hold : ∀ q, q < j → (ms ++ [zv]).getD q nv = ms.getD q nv := fun q hq => by rw [List.getD_eq_getElem?_getD, List.getElem?_append_left (by rw [h.mf.len]; exact hq), ← List.getD_eq_getElem?_getD]
  refine ⟨h.mf.fl, by rw [List.length_append, h.mf.len]; rfl, fun q hq => ?_, fun q hq => ?_, h.mf.fr, h.mf.old⟩
  · by_cases hqj : q = j
    · subst hqj; rw [hlast]; exact h.ow
    · rw [hold q (by omega)]; exact h.mf.each q (by omega)
  · by_cases hqj : q = j
    · subst hqj
      rw [hlast]
      rcases h.at_ with e | e
      · exact .inl e
      · exact .inr (fun g hg => Nat.le_trans h.w13 (e g hg))
    · rw [hold q (by omega)]; exact h.mf.loc q (by omega)
end Go.Proofs.YtnmeohacdbmplaaGreatDoor
