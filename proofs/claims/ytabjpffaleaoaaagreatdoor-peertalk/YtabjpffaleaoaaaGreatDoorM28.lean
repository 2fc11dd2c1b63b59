import Derived.Test.YtabjpffaleaoaaaGreatDoorM27
import Derived.Deep.MidRow
import Derived.Test.YtabjpffaleaoaaaGreatDoorM24
namespace Go.Proofs.YtabjpffaleaoaaaGreatDoor
open Go.RowKit
/-- the same events -/
def EvQ (es ys : List Ev) : Prop := es.length = ys.length ∧ ∀ (k : Nat) (x y : Ev), es[k]? = some x → ys[k]? = some y → y.hello = x.hello ∧ y.peer = x.peer ∧ y.x.D = x.x.D ∧ y.x.hb = x.x.hb ∧ y.x.m = { x.x.m with d := y.x.m.d, h := y.x.m.h }
theorem EvH.same {es ys : List Ev} {met : List (List UInt8)} {xs : List Mg} (h1 : EvH es met xs) (h2 : EvH ys met xs) : EvQ es ys := by
  obtain ⟨es', rfl, e1⟩ := h1
  obtain ⟨ys', rfl, e2⟩ := h2
  have q1 := e1.1
  have q2 := e2.1
  refine ⟨by rw [List.length_append, List.length_append]; omega, fun k x y hx hy => ?_⟩
  by_cases hk : k < (met.map hev).length
  · rw [List.getElem?_append_left hk] at hx hy
    rw [hx] at hy
    obtain rfl := Option.some.inj hy
    exact ⟨rfl, rfl, rfl, rfl, rfl⟩
  · rw [List.getElem?_append_right (by omega)] at hx hy
    have hlt := (List.getElem?_eq_some_iff.1 hx).1
    obtain ⟨z, hz⟩ : ∃ z, xs[k - (met.map hev).length]? = some z := ⟨_, List.getElem?_eq_getElem (by omega)⟩
    obtain ⟨a1, a2, a3, a4, a5⟩ := e1.2 _ x z hx hz
    obtain ⟨b1, b2, b3, b4, b5⟩ := e2.2 _ y z hy hz
    refine ⟨b1.trans a1.symm, b2.trans a2.symm, b3.trans a3.symm, b4.trans a4.symm, ?_⟩
    rw [a5]
    exact b5
theorem flat61 (es : List Ev) (h : ∀ x ∈ es, x.ls.length = 61) (i : Nat) (x : Ev) (hi : es[i]? = some x) (j : Nat) (hj : j < 61) : (es.flatMap Ev.ls)[i * 61 + j]? = x.ls[j]? := by
  induction es generalizing i with
  | nil => simp at hi
  | cons y es ih =>
    have hy := h y (by simp)
    rw [List.flatMap_cons]
    cases i with
    | zero =>
      simp at hi
      subst hi
      rw [Nat.zero_mul, Nat.zero_add, List.getElem?_append_left (by omega)]
    | succ i =>
      rw [List.getElem?_append_right (by omega), show (i + 1) * 61 + j - y.ls.length = i * 61 + j by omega]
      exact ih (fun x hx => h x (by simp [hx])) i (by simpa using hi)
theorem EVS.at {B : Nat} {w : World} {g n c : Nat} {es : List Ev} (h : EVS B w (.slice (some ⟨g, 0, none⟩) n c) es) (hn : n = es.length) {k : Nat} {x : Ev} (hk : es[k]? = some x) : w.rangeAt g (k * 61) x.ls := by
  subst hn
  intro j u hu
  have h61 : x.ls.length = 61 := Ev.len (h.2 x (List.mem_of_getElem? hk))
  have hj := (List.getElem?_eq_some_iff.1 hu).1
  have hkl := (List.getElem?_eq_some_iff.1 hk).1
  rw [World.ownsRow.cellAt h.1 (k * 61 + j) (by omega), flat61 es (fun y hy => Ev.len (h.2 y hy)) k x hk j (by omega)]
  exact hu
theorem pr_of {u : World} {g o : Nat} {x : Ev} (h : u.rangeAt g o x.ls) : u.rangeAt g (o + 1) (Lib.byteCells x.peer) := fun j v hj => by
  rw [Nat.add_assoc, Nat.add_comm 1 j]
  refine h (j + 1) v ?_
  unfold Ev.ls
  rw [List.getElem?_cons_succ, List.getElem?_append_left (List.getElem?_eq_some_iff.1 hj).1]
  exact hj
theorem ms_of {u : World} {g o : Nat} {x : Ev} (h20 : x.peer.length = 20) (h : u.rangeAt g o x.ls) : u.rangeAt g (o + 21) x.x.m.ls := fun j v hj => by
  rw [Nat.add_assoc, Nat.add_comm 21 j]
  refine h (j + 21) v ?_
  unfold Ev.ls
  rw [show j + 21 = (j + 20) + 1 from rfl, List.getElem?_cons_succ, List.getElem?_append_right (by rw [bcl_len, h20]; omega), bcl_len, h20, show j + 20 - 20 = j by omega]
  exact hj
set_option maxHeartbeats 4000000 in
set_option maxRecDepth 100000 in
theorem eventsSameT (w : World) (B B' : Nat) (v1 v2 : Value) (es ys : List Ev) (h1 : EVS B w v1 es) (h2 : EVS B' w v2 ys) (hq : EvQ es ys) (hl : es.length ≤ 107374182) :
    Calls Tryz.prog 25 #[v1, v2] w fun e w' => e = .returned (.bool true) ∧ Below w.heap.size w w' := by
  have H1 := Lib.hid h1
  have H2 := Lib.hid h2
  have HQ := Lib.hid hq
  obtain ⟨a1, c1, rfl⟩ := h1.form
  obtain ⟨a2, c2, rfl⟩ := h2.form
  rw [← hq.1] at H2 ⊢
  clear h1 h2 hq
  obtain ⟨n, hn⟩ : ∃ n, n = es.length := ⟨_, rfl⟩
  have HN := Lib.hid hn
  rw [← hn] at H1 H2 hl ⊢
  clear hn
  go_enter Tryz.func25, Tryz.ntmps25
  go_wp2
  go_loopw [5] (fun t wr => ∃ k : Nat, k ≤ n ∧ t = .int .i64 k ∧ Hid (Below w.heap.size w wr)) (fun t _ => n - (intOf t).toNat)
  case atStart => exact ⟨0, Nat.zero_le _, rfl, Below.refl _ _⟩
  case round =>
    obtain ⟨k, hk, rfl, HBW⟩ := hrel
    by_cases hlt : k < n
    · obtain ⟨x, hx⟩ : ∃ x, es[k]? = some x := ⟨_, List.getElem?_eq_getElem (by rw [← HN.out]; exact hlt)⟩
      obtain ⟨y, hy⟩ : ∃ y, ys[k]? = some y := ⟨_, List.getElem?_eq_getElem (by rw [← HQ.out.1, ← HN.out]; exact hlt)⟩
      obtain ⟨g1, rfl⟩ : ∃ g1, a1 = some ⟨g1, 0, none⟩ := by
        rcases H1.out.1.2 with ⟨h, _⟩ | ⟨g, cap, cur, h, _⟩
        · simp at h; omega
        · simp at h; exact ⟨g, h.1⟩
      obtain ⟨g2, rfl⟩ : ∃ g2, a2 = some ⟨g2, 0, none⟩ := by
        rcases H2.out.1.2 with ⟨h, _⟩ | ⟨g, cap, cur, h, _⟩
        · simp at h; omega
        · simp at h; exact ⟨g, h.1⟩
      have heq := HQ.out.2 k x y hx hy
      have o1 := H1.out.2 x (List.mem_of_getElem? hx)
      have o2 := H2.out.2 y (List.mem_of_getElem? hy)
      have r1 := H1.out.at HN.out hx
      have r2 := H2.out.at (HN.out.trans HQ.out.1) hy
      have hl20 := o1.pr
      have hx20 := o1.pr
      have hy20 := o2.pr
      have hi20 : (Tryz.prog.info? 28).map (·.size) = some (Lib.byteCells x.peer).length := by rw [bcl_len, hl20]; exact info20
      have him1 : (Tryz.prog.info? 47).map (·.size) = some x.x.m.ls.length := by rw [info_msg o1.mg.ok, Mv.cs, List.size_toArray]
      have him2 : (Tryz.prog.info? 47).map (·.size) = some y.x.m.ls.length := by rw [info_msg o2.mg.ok, Mv.cs, List.size_toArray]
      have keep : ∀ (u u' : World) (g : Nat) (o : Nat) (xs : List Value), xs.length = 61 → u.rangeAt g o xs → Below u.heap.size u u' → u'.rangeAt g o xs := fun u u' g o xs _ hr hb j v hj => (World.cell?_of_block (w := u) (hb.block g (World.block_lt_of_cell? u _ (hr j v hj)))).trans (hr j v hj)
      have HV : Hid (wr.rangeAt g1 (k * 61) (Ev.ls x) ∧ wr.rangeAt g2 (k * 61) (Ev.ls y)) := ⟨keep w wr g1 _ _ (Ev.len o1) r1 HBW.out, keep w wr g2 _ _ (Ev.len o2) r2 HBW.out⟩
      have HKP : Hid (∀ w5, Below (wr.drewN 1).heap.size (wr.drewN 1) w5 → w5.rangeAt g1 (k * 61) (Ev.ls x) ∧ w5.rangeAt g2 (k * 61) (Ev.ls y)) := fun w5 b5 => ⟨keep (wr.drewN 1) w5 g1 _ _ (Ev.len o1) HV.out.1 b5, keep (wr.drewN 1) w5 g2 _ _ (Ev.len o2) HV.out.2 b5⟩
      have HMS := Lib.hid (msameT (wr.drewN 1) x.x.m y.x.m x.x.D x.x.hb (o1.mg.mm.keep (belowN HBW.out 1)) (by have := o2.mg.mm; rw [heq.2.2.1, heq.2.2.2.1] at this; exact this.keep (belowN HBW.out 1)) heq.2.2.2.2)
      have hkn : (k : Int) < (n : Int) := by omega
      have hk0 : (0 : Int) ≤ (k : Int) := by omega
      have HEQ := Lib.hid heq
      clear o1 o2 r1 r2 keep hx hy H1 H2 heq
      go_upto_region 6 with fail
      refine wp_region_held_drew (S := fun u => u.rangeAt g1 (k * 61) (Ev.ls x) ∧ u.rangeAt g2 (k * 61) (Ev.ls y)) (by kernel_rfl) (HV.out) (fun hHeld => ?_)
      refine wpAnyH_take (i := 0) (v := .slice (some ⟨g1, 0, none⟩) n c1) rfl (by kernel_rfl) (by kernel_rfl) (by kernel_rfl) (fun _ _ _ h => h) (Or.inl ⟨by rfl, fun w hw => by go_simp⟩) hHeld ?_
      simp only [Act.put, List.getElem_toArray, List.getElem_cons_zero, List.setIfInBounds_toArray, List.set_cons_zero, List.set_cons_succ]
      refine wpAnyH_take (i := 1) (v := .int .i64 (k : Int)) rfl (by kernel_rfl) (by kernel_rfl) (by kernel_rfl) (fun _ _ _ h => h) (Or.inl ⟨by rfl, fun w hw => by go_simp⟩) hHeld ?_
      simp only [Act.put, List.getElem_toArray, List.getElem_cons_zero, List.getElem_cons_succ, List.setIfInBounds_toArray, List.set_cons_zero, List.set_cons_succ]
      refine wpAnyH_take (i := 2) (v := .pointer (some ⟨g1, k * 61, none⟩)) rfl (by kernel_rfl) (by kernel_rfl) (by kernel_rfl) (fun _ _ _ h => h) (Or.inl ⟨by rfl, fun w hw => by have hq := hkn; have hq2 := hk0; go_simp⟩) hHeld ?_
      simp only [Act.put, List.getElem_toArray, List.getElem_cons_zero, List.getElem_cons_succ, List.setIfInBounds_toArray, List.set_cons_zero, List.set_cons_succ]
      refine wpAnyH_take (i := 3) (v := .pointer (some ⟨g1, k * 61, none⟩)) rfl (by kernel_rfl) (by kernel_rfl) (by kernel_rfl) (fun _ _ _ h => h) (Or.inl ⟨by rfl, fun w hw => by go_simp⟩) hHeld ?_
      simp only [Act.put, List.getElem_toArray, List.getElem_cons_zero, List.getElem_cons_succ, List.setIfInBounds_toArray, List.set_cons_zero, List.set_cons_succ]
      refine wpAnyH_take (i := 4) (v := .bool x.hello) rfl (by kernel_rfl) (by kernel_rfl) (by kernel_rfl) (fun _ _ _ h => h) (Or.inl ⟨by rfl, fun w hw => by have hq : w.cell? ⟨g1, k * 61, none⟩ = some (.bool x.hello) := hw.1 0 _ rfl; go_simp⟩) hHeld ?_
      simp only [Act.put, List.getElem_toArray, List.getElem_cons_zero, List.getElem_cons_succ, List.setIfInBounds_toArray, List.set_cons_zero, List.set_cons_succ]
      refine wpAnyH_take (i := 5) (v := .slice (some ⟨g2, 0, none⟩) n c2) rfl (by kernel_rfl) (by kernel_rfl) (by kernel_rfl) (fun _ _ _ h => h) (Or.inl ⟨by rfl, fun w hw => by go_simp⟩) hHeld ?_
      simp only [Act.put, List.getElem_toArray, List.getElem_cons_zero, List.getElem_cons_succ, List.setIfInBounds_toArray, List.set_cons_zero, List.set_cons_succ]
      refine wpAnyH_take (i := 6) (v := .int .i64 (k : Int)) rfl (by kernel_rfl) (by kernel_rfl) (by kernel_rfl) (fun _ _ _ h => h) (Or.inl ⟨by rfl, fun w hw => by go_simp⟩) hHeld ?_
      simp only [Act.put, List.getElem_toArray, List.getElem_cons_zero, List.getElem_cons_succ, List.setIfInBounds_toArray, List.set_cons_zero, List.set_cons_succ]
      refine wpAnyH_take (i := 7) (v := .pointer (some ⟨g2, k * 61, none⟩)) rfl (by kernel_rfl) (by kernel_rfl) (by kernel_rfl) (fun _ _ _ h => h) (Or.inl ⟨by rfl, fun w hw => by have hq := hkn; have hq2 := hk0; go_simp⟩) hHeld ?_
      simp only [Act.put, List.getElem_toArray, List.getElem_cons_zero, List.getElem_cons_succ, List.setIfInBounds_toArray, List.set_cons_zero, List.set_cons_succ]
      refine wpAnyH_take (i := 8) (v := .pointer (some ⟨g2, k * 61, none⟩)) rfl (by kernel_rfl) (by kernel_rfl) (by kernel_rfl) (fun _ _ _ h => h) (Or.inl ⟨by rfl, fun w hw => by go_simp⟩) hHeld ?_
      simp only [Act.put, List.getElem_toArray, List.getElem_cons_zero, List.getElem_cons_succ, List.setIfInBounds_toArray, List.set_cons_zero, List.set_cons_succ]
      refine wpAnyH_take (i := 9) (v := .bool x.hello) rfl (by kernel_rfl) (by kernel_rfl) (by kernel_rfl) (fun _ _ _ h => h) (Or.inl ⟨by rfl, fun w hw => by have hq : w.cell? ⟨g2, k * 61, none⟩ = some (.bool y.hello) := hw.2 0 _ rfl; rw [HEQ.out.1] at hq; go_simp⟩) hHeld ?_
      simp only [Act.put, List.getElem_toArray, List.getElem_cons_zero, List.getElem_cons_succ, List.setIfInBounds_toArray, List.set_cons_zero, List.set_cons_succ]
      refine wpAnyH_take (i := 10) (v := .bool false) rfl (by kernel_rfl) (by kernel_rfl) (by kernel_rfl) (fun _ _ _ h => h) (Or.inl ⟨by rfl, fun w hw => by go_simp⟩) hHeld ?_
      simp only [Act.put, List.getElem_toArray, List.getElem_cons_zero, List.getElem_cons_succ, List.setIfInBounds_toArray, List.set_cons_zero, List.set_cons_succ]
      refine wpAnyH_take (i := 11) (v := .bool false) rfl (by kernel_rfl) (by kernel_rfl) (by kernel_rfl) (fun _ _ _ h => h) (Or.inl ⟨by rfl, fun w hw => by go_simp⟩) hHeld ?_
      simp only [Act.put, List.getElem_toArray, List.getElem_cons_zero, List.getElem_cons_succ, List.setIfInBounds_toArray, List.set_cons_zero, List.set_cons_succ]
      refine wpAnyH_take (i := 12) (v := .slice (some ⟨g1, 0, none⟩) n c1) rfl (by kernel_rfl) (by kernel_rfl) (by kernel_rfl) (fun _ _ _ h => h) (Or.inl ⟨by rfl, fun w hw => by go_simp⟩) hHeld ?_
      simp only [Act.put, List.getElem_toArray, List.getElem_cons_zero, List.getElem_cons_succ, List.setIfInBounds_toArray, List.set_cons_zero, List.set_cons_succ]
      refine wpAnyH_take (i := 13) (v := .int .i64 (k : Int)) rfl (by kernel_rfl) (by kernel_rfl) (by kernel_rfl) (fun _ _ _ h => h) (Or.inl ⟨by rfl, fun w hw => by go_simp⟩) hHeld ?_
      simp only [Act.put, List.getElem_toArray, List.getElem_cons_zero, List.getElem_cons_succ, List.setIfInBounds_toArray, List.set_cons_zero, List.set_cons_succ]
      refine wpAnyH_take (i := 14) (v := .pointer (some ⟨g1, k * 61, none⟩)) rfl (by kernel_rfl) (by kernel_rfl) (by kernel_rfl) (fun _ _ _ h => h) (Or.inl ⟨by rfl, fun w hw => by have hq := hkn; have hq2 := hk0; go_simp⟩) hHeld ?_
      simp only [Act.put, List.getElem_toArray, List.getElem_cons_zero, List.getElem_cons_succ, List.setIfInBounds_toArray, List.set_cons_zero, List.set_cons_succ]
      refine wpAnyH_take (i := 15) (v := .pointer (some ⟨g1, k * 61 + 1, none⟩)) rfl (by kernel_rfl) (by kernel_rfl) (by kernel_rfl) (fun _ _ _ h => h) (Or.inl ⟨by rfl, fun w hw => by go_simp⟩) hHeld ?_
      simp only [Act.put, List.getElem_toArray, List.getElem_cons_zero, List.getElem_cons_succ, List.setIfInBounds_toArray, List.set_cons_zero, List.set_cons_succ]
      refine wpAnyH_take (i := 16) (v := .agg (bc x.peer)) rfl (by kernel_rfl) (by kernel_rfl) (by kernel_rfl) (fun _ _ _ h => h) (yieldsIf_load_mid (by rfl) _ _ rfl _ _ rfl _ _ (fun u hw => pr_of hw.1) Tryz.underlying28 rfl hi20) hHeld ?_
      simp only [Act.put, List.getElem_toArray, List.getElem_cons_zero, List.getElem_cons_succ, List.setIfInBounds_toArray, List.set_cons_zero, List.set_cons_succ]
      refine wpAnyH_take (i := 17) (v := .slice (some ⟨g2, 0, none⟩) n c2) rfl (by kernel_rfl) (by kernel_rfl) (by kernel_rfl) (fun _ _ _ h => h) (Or.inl ⟨by rfl, fun w hw => by go_simp⟩) hHeld ?_
      simp only [Act.put, List.getElem_toArray, List.getElem_cons_zero, List.getElem_cons_succ, List.setIfInBounds_toArray, List.set_cons_zero, List.set_cons_succ]
      refine wpAnyH_take (i := 18) (v := .int .i64 (k : Int)) rfl (by kernel_rfl) (by kernel_rfl) (by kernel_rfl) (fun _ _ _ h => h) (Or.inl ⟨by rfl, fun w hw => by go_simp⟩) hHeld ?_
      simp only [Act.put, List.getElem_toArray, List.getElem_cons_zero, List.getElem_cons_succ, List.setIfInBounds_toArray, List.set_cons_zero, List.set_cons_succ]
      refine wpAnyH_take (i := 19) (v := .pointer (some ⟨g2, k * 61, none⟩)) rfl (by kernel_rfl) (by kernel_rfl) (by kernel_rfl) (fun _ _ _ h => h) (Or.inl ⟨by rfl, fun w hw => by have hq := hkn; have hq2 := hk0; go_simp⟩) hHeld ?_
      simp only [Act.put, List.getElem_toArray, List.getElem_cons_zero, List.getElem_cons_succ, List.setIfInBounds_toArray, List.set_cons_zero, List.set_cons_succ]
      refine wpAnyH_take (i := 20) (v := .pointer (some ⟨g2, k * 61 + 1, none⟩)) rfl (by kernel_rfl) (by kernel_rfl) (by kernel_rfl) (fun _ _ _ h => h) (Or.inl ⟨by rfl, fun w hw => by go_simp⟩) hHeld ?_
      simp only [Act.put, List.getElem_toArray, List.getElem_cons_zero, List.getElem_cons_succ, List.setIfInBounds_toArray, List.set_cons_zero, List.set_cons_succ]
      refine wpAnyH_take (i := 21) (v := .agg (bc x.peer)) rfl (by kernel_rfl) (by kernel_rfl) (by kernel_rfl) (fun _ _ _ h => h) (yieldsIf_load_mid (by rfl) _ _ rfl _ _ rfl _ _ (fun u hw => HEQ.out.2.1 ▸ pr_of hw.2) Tryz.underlying28 rfl hi20) hHeld ?_
      simp only [Act.put, List.getElem_toArray, List.getElem_cons_zero, List.getElem_cons_succ, List.setIfInBounds_toArray, List.set_cons_zero, List.set_cons_succ]
      refine wpAnyH_take (i := 22) (v := .bool false) rfl (by kernel_rfl) (by kernel_rfl) (by kernel_rfl) (fun _ _ _ h => h) (Or.inl ⟨by rfl, fun w hw => by have hq := equal_20 w 9998 x.peer x.peer hl20 hl20; rw [decide_eq_true rfl] at hq; go_simp⟩) hHeld ?_
      simp only [Act.put, List.getElem_toArray, List.getElem_cons_zero, List.getElem_cons_succ, List.setIfInBounds_toArray, List.set_cons_zero, List.set_cons_succ]
      refine wpAnyH_take (i := 23) (v := .bool false) rfl (by kernel_rfl) (by kernel_rfl) (by kernel_rfl) (fun _ _ _ h => h) (Or.inl ⟨by rfl, fun w hw => by go_simp⟩) hHeld ?_
      simp only [Act.put, List.getElem_toArray, List.getElem_cons_zero, List.getElem_cons_succ, List.setIfInBounds_toArray, List.set_cons_zero, List.set_cons_succ]
      refine wpAnyH_take (i := 24) (v := .bool false) rfl (by kernel_rfl) (by kernel_rfl) (by kernel_rfl) (fun _ _ _ h => h) (Or.inl ⟨by rfl, fun w hw => by go_simp⟩) hHeld ?_
      simp only [Act.put, List.getElem_toArray, List.getElem_cons_zero, List.getElem_cons_succ, List.setIfInBounds_toArray, List.set_cons_zero, List.set_cons_succ]
      refine wpAnyH_take (i := 25) (v := .slice (some ⟨g1, 0, none⟩) n c1) rfl (by kernel_rfl) (by kernel_rfl) (by kernel_rfl) (fun _ _ _ h => h) (Or.inl ⟨by rfl, fun w hw => by go_simp⟩) hHeld ?_
      simp only [Act.put, List.getElem_toArray, List.getElem_cons_zero, List.getElem_cons_succ, List.setIfInBounds_toArray, List.set_cons_zero, List.set_cons_succ]
      refine wpAnyH_take (i := 26) (v := .int .i64 (k : Int)) rfl (by kernel_rfl) (by kernel_rfl) (by kernel_rfl) (fun _ _ _ h => h) (Or.inl ⟨by rfl, fun w hw => by go_simp⟩) hHeld ?_
      simp only [Act.put, List.getElem_toArray, List.getElem_cons_zero, List.getElem_cons_succ, List.setIfInBounds_toArray, List.set_cons_zero, List.set_cons_succ]
      refine wpAnyH_take (i := 27) (v := .pointer (some ⟨g1, k * 61, none⟩)) rfl (by kernel_rfl) (by kernel_rfl) (by kernel_rfl) (fun _ _ _ h => h) (Or.inl ⟨by rfl, fun w hw => by have hq := hkn; have hq2 := hk0; go_simp⟩) hHeld ?_
      simp only [Act.put, List.getElem_toArray, List.getElem_cons_zero, List.getElem_cons_succ, List.setIfInBounds_toArray, List.set_cons_zero, List.set_cons_succ]
      refine wpAnyH_take (i := 28) (v := .pointer (some ⟨g1, k * 61 + 21, none⟩)) rfl (by kernel_rfl) (by kernel_rfl) (by kernel_rfl) (fun _ _ _ h => h) (Or.inl ⟨by rfl, fun w hw => by go_simp⟩) hHeld ?_
      simp only [Act.put, List.getElem_toArray, List.getElem_cons_zero, List.getElem_cons_succ, List.setIfInBounds_toArray, List.set_cons_zero, List.set_cons_succ]
      refine wpAnyH_take (i := 29) (v := .agg x.x.m.cs) rfl (by kernel_rfl) (by kernel_rfl) (by kernel_rfl) (fun _ _ _ h => h) (yieldsIf_load_mid (by rfl) _ _ rfl _ _ rfl _ _ (fun u hw => ms_of hx20 hw.1) Tryz.underlying47 rfl him1) hHeld ?_
      simp only [Act.put, List.getElem_toArray, List.getElem_cons_zero, List.getElem_cons_succ, List.setIfInBounds_toArray, List.set_cons_zero, List.set_cons_succ]
      refine wpAnyH_take (i := 30) (v := .slice (some ⟨g2, 0, none⟩) n c2) rfl (by kernel_rfl) (by kernel_rfl) (by kernel_rfl) (fun _ _ _ h => h) (Or.inl ⟨by rfl, fun w hw => by go_simp⟩) hHeld ?_
      simp only [Act.put, List.getElem_toArray, List.getElem_cons_zero, List.getElem_cons_succ, List.setIfInBounds_toArray, List.set_cons_zero, List.set_cons_succ]
      refine wpAnyH_take (i := 31) (v := .int .i64 (k : Int)) rfl (by kernel_rfl) (by kernel_rfl) (by kernel_rfl) (fun _ _ _ h => h) (Or.inl ⟨by rfl, fun w hw => by go_simp⟩) hHeld ?_
      simp only [Act.put, List.getElem_toArray, List.getElem_cons_zero, List.getElem_cons_succ, List.setIfInBounds_toArray, List.set_cons_zero, List.set_cons_succ]
      refine wpAnyH_take (i := 32) (v := .pointer (some ⟨g2, k * 61, none⟩)) rfl (by kernel_rfl) (by kernel_rfl) (by kernel_rfl) (fun _ _ _ h => h) (Or.inl ⟨by rfl, fun w hw => by have hq := hkn; have hq2 := hk0; go_simp⟩) hHeld ?_
      simp only [Act.put, List.getElem_toArray, List.getElem_cons_zero, List.getElem_cons_succ, List.setIfInBounds_toArray, List.set_cons_zero, List.set_cons_succ]
      refine wpAnyH_take (i := 33) (v := .pointer (some ⟨g2, k * 61 + 21, none⟩)) rfl (by kernel_rfl) (by kernel_rfl) (by kernel_rfl) (fun _ _ _ h => h) (Or.inl ⟨by rfl, fun w hw => by go_simp⟩) hHeld ?_
      simp only [Act.put, List.getElem_toArray, List.getElem_cons_zero, List.getElem_cons_succ, List.setIfInBounds_toArray, List.set_cons_zero, List.set_cons_succ]
      refine wpAnyH_take (i := 34) (v := .agg y.x.m.cs) rfl (by kernel_rfl) (by kernel_rfl) (by kernel_rfl) (fun _ _ _ h => h) (yieldsIf_load_mid (by rfl) _ _ rfl _ _ rfl _ _ (fun u hw => ms_of hy20 hw.2) Tryz.underlying47 rfl him2) hHeld ?_
      simp only [Act.put, List.getElem_toArray, List.getElem_cons_zero, List.getElem_cons_succ, List.setIfInBounds_toArray, List.set_cons_zero, List.set_cons_succ]
      refine wpAnyH_ready (rs := [35]) (by kernel_rfl) (by simp) ?_
      refine AllReadyH.cons (o := _) rfl (fun K hK => ?_) AllReadyH.nil
      go_simp
      refine (HMS.out).mono ?_
      rintro e w5 ⟨rfl, b5⟩
      have HV5 : Hid (w5.rangeAt g1 (k * 61) (Ev.ls x) ∧ w5.rangeAt g2 (k * 61) (Ev.ls y)) := HKP.out w5 b5
      have HB5 : Hid (Below w.heap.size w w5) := (belowN HBW.out 1).trans (b5.mono HBW.out.size)
      clear b5
      go_wp2_with fail
      refine hK.out _ _ (HV5.out) (fun hHeld => ?_)
      clear hK K
      refine wpAnyH_take (i := 36) (v := .bool false) rfl (by kernel_rfl) (by kernel_rfl) (by kernel_rfl) (fun _ _ _ h => h) (Or.inl ⟨by rfl, fun w hw => by go_simp⟩) hHeld ?_
      simp only [Act.put, List.getElem_toArray, List.getElem_cons_zero, List.getElem_cons_succ, List.setIfInBounds_toArray, List.set_cons_zero, List.set_cons_succ]
      refine wpAnyH_take (i := 37) (v := .bool false) rfl (by kernel_rfl) (by kernel_rfl) (by kernel_rfl) (fun _ _ _ h => h) (Or.inl ⟨by rfl, fun w hw => by go_simp⟩) hHeld ?_
      simp only [Act.put, List.getElem_toArray, List.getElem_cons_zero, List.getElem_cons_succ, List.setIfInBounds_toArray, List.set_cons_zero, List.set_cons_succ]
      refine wpAnyH_done (by kernel_rfl) ?_ _
      clear hHeld
      go_wp2
      exact ⟨⟨k + 1, by omega, by go_num, HB5⟩, by simp [intOf]; omega⟩
    · obtain rfl : k = n := by omega
      go_wp2
      go_ret
      exact ⟨rfl, HBW.out⟩
end Go.Proofs.YtabjpffaleaoaaaGreatDoor
namespace Go.Proofs.YtabjpffaleaoaaaGreatDoor
open Go.RowKit
/-- what a new connection answers to a Feed -/
theorem FdE.tell {w : World} {g R : Nat} {P : Pv} {L : List Int} {H : List UInt8} {l : List UInt8} {e : Ending} {w' : World} (hf : FP w g R P L H 2 0 [] (.slice none 0 0)) (hsh : P.sh = false) (h : FdE w g R P L H 2 0 [] (.slice none 0 0) l e w') :
    ∃ ev fin es met xs q' P', e = .returned (.tuple #[ev, .int .i64 fin]) ∧ EVS w.heap.size w' ev es ∧ EvH es met xs ∧ Tel P.info L P.b ⟨P.ic, P.ii, P.ib, H⟩ l met xs q' fin ∧ Sd w' g P' P.b P.wc P.wi (!met.isEmpty) q' fin ∧ Fm.Fr (fun k => k ≠ g ∧ k ≠ R) w w' := by
  obtain ⟨ev, fin, es, B1, rfl, hB, hes, fr, hcase⟩ := FdE.step hf h (q0 := ⟨P.ic, P.ii, P.ib, H⟩) (A := []) (es := []) (by rw [hsh]; exact Acc.start _ _ _ _)
  have fr' : Fm.Fr (fun k => k ≠ g ∧ k ≠ R) w w' := fr.mono (fun k _ h => ⟨h.1, h.2, nd k⟩)
  rw [List.nil_append, List.nil_append] at hcase
  rcases hcase with ⟨rfl, P2, H2, p2, s2, held2, hv2, hfp2, j1, j2, j3, j4, _, _, hacc⟩ | ⟨h0, met, xs, q', P2, htel, heh, hsd⟩
  · obtain ⟨met, xs, htel, heh, hsh⟩ := hacc.tel
    exact ⟨ev, 0, es, met, xs, _, P2, rfl, hes.mono hB, heh, htel, ⟨hfp2.pk, hfp2.why, j2, hsh, j3, j4, rfl, rfl, hfp2.ho, hfp2.hl⟩, fr'⟩
  · exact ⟨ev, fin, es, met, xs, q', P2, rfl, hes.mono hB, heh, htel, hsd, fr'⟩
theorem two (w : World) (A B : Obj) : ((w.alloc A).alloc B).heap[w.heap.size]? = some A ∧ ((w.alloc A).alloc B).heap[w.heap.size + 1]? = some B ∧ ((w.alloc A).alloc B).heap.size = w.heap.size + 2 := by
  have z1 : (w.alloc A).heap.size = w.heap.size + 1 := by simp
  have bB : Below (w.alloc A).heap.size (w.alloc A) ((w.alloc A).alloc B) := (Below.refl _ _).alloc (Nat.le_refl _) _
  refine ⟨(bB.block _ (by omega)).trans (heapNew w A), ?_, by simp⟩
  rw [← z1]; exact heapNew _ B
set_option maxHeartbeats 4000000 in
set_option maxRecDepth 100000 in
theorem cuttingT (w : World) (hkt : KT w) (hmt : Bs.MT w) (b v : Int) (hb0 : List UInt8) (h320 : hb0.length = 32) (lv : Value) (L : List Int) (hl : L.length * 8 ≤ 140737488351232) (hr : Bs.RZ w lv L) (bv : Value) (l : List UInt8) (hb : RB w bv l) (hll : l.length ≤ 16777216) (cv : Value) (zs : List Int) (hz : Bs.RZ w cv zs) (hzl : zs.length ≤ 1048576) (hzb : ∀ z ∈ zs, -9223372036854775808 ≤ z ∧ z ≤ 9223372036854775807) :
    Calls Tryz.prog 6 #[Bs.sc b v, .agg (bc hb0), lv, bv, cv] w fun e w' => e = .returned (.bool true) ∧ Below w.heap.size w w' := by
  have HA : Hid (∀ u, Below w.heap.size w u → Calls Tryz.prog 9 #[] u fun e w' => e = .returned (.bool true) ∧ Below u.heap.size u w') := fun u hu => awakeT u (hkt.below hu hkt.pos) (hmt.keep hu)
  have HC0 := Lib.hid (And.intro hkt (And.intro hmt (And.intro hr (And.intro hb (And.intro hz hzb)))))
  clear hkt hmt hr hb hz hzb
  go_enter Tryz.func6, Tryz.ntmps6
  go_wp2_with fail
  obtain ⟨u0, hu0⟩ : ∃ x, x = (w.alloc (Obj.cells #[Value.int IntKind.i64 b, Value.int IntKind.i64 v] 23)).alloc (Obj.cells (bc hb0) 25) := ⟨_, rfl⟩
  have B0 : Hid (Below w.heap.size w u0) := by
    rw [hu0]
    exact ((Below.refl _ _).alloc (Nat.le_refl _) _).alloc (by simp) _
  rw [← hu0]
  refine (HA.out u0 B0.out).mono ?_
  rintro e w1 ⟨rfl, b1⟩
  have hs0 : u0.heap[w.heap.size]? = some (.cells #[.int .i64 b, .int .i64 v] 23) ∧ u0.heap[w.heap.size + 1]? = some (.cells (bc hb0) 25) ∧ u0.heap.size = w.heap.size + 2 := by
    rw [hu0]
    exact two w _ _
  have HS1 : Hid (w1.heap[w.heap.size]? = some (.cells #[.int .i64 b, .int .i64 v] 23) ∧ w1.heap[w.heap.size + 1]? = some (.cells (bc hb0) 25)) := ⟨(b1.block _ (by omega)).trans hs0.1, (b1.block _ (by omega)).trans hs0.2.1⟩
  have B1 : Hid (Below w.heap.size w w1) := B0.out.trans (b1.mono B0.out.size)
  have HZ1 : Hid (w.heap.size + 2 ≤ w1.heap.size) := by have := b1.size; show _ ≤ _; omega
  have HN := Lib.hid (newP b v hb0 h320 lv L w1 hl (HC0.out.2.2.1.keep B1.out) (HC0.out.1.below B1.out HC0.out.1.pos) (HC0.out.2.1.keep B1.out))
  have hsc := HS1.out.1
  have hsh := HS1.out.2
  have c0 : w1.cell? ⟨w.heap.size, 0, none⟩ = some (.int .i64 b) := by unfold World.cell?; simp only [hsc]; rfl
  have c1 : w1.cell? ⟨w.heap.size, 1, none⟩ = some (.int .i64 v) := by unfold World.cell?; simp only [hsc]; rfl
  clear b1 hs0 hu0 HA hsc
  go_wp2_with (first | (refine load_hash_if rfl _ rfl (w.heap.size + 1) rfl hb0 hsh h320 ?_))
  refine HN.out.mono ?_
  rintro e w2 ⟨p, rfl, hpp, b2, hnew⟩
  have B2 : Hid (Below w.heap.size w w2) := B1.out.trans (b2.mono B1.out.size)
  have HS2 : Hid (w2.heap[w.heap.size]? = some (.cells #[.int .i64 b, .int .i64 v] 23) ∧ w2.heap[w.heap.size + 1]? = some (.cells (bc hb0) 25)) := by
    have := HZ1.out
    exact ⟨(b2.block _ (by omega)).trans HS1.out.1, (b2.block _ (by omega)).trans HS1.out.2⟩
  have HN2 := Lib.hid (newP b v hb0 h320 lv L w2 hl (HC0.out.2.2.1.keep B2.out) (HC0.out.1.below B2.out HC0.out.1.pos) (HC0.out.2.1.keep B2.out))
  have HNw := Lib.hid (And.intro hpp (And.intro hnew b2))
  have hsc2 := HS2.out.1
  have hsh2 := HS2.out.2
  have d0 : w2.cell? ⟨w.heap.size, 0, none⟩ = some (.int .i64 b) := by unfold World.cell?; simp only [hsc2]; rfl
  have d1 : w2.cell? ⟨w.heap.size, 1, none⟩ = some (.int .i64 v) := by unfold World.cell?; simp only [hsc2]; rfl
  clear hsc2 hpp hnew b2 c0 c1 hsh HN HS1
  go_wp2_with (first | (refine load_hash_if rfl _ rfl (w.heap.size + 1) rfl hb0 hsh2 h320 ?_))
  refine HN2.out.mono ?_
  rintro e w3 ⟨p2, rfl, hpp2, b3, hnew2⟩
  have B3 : Hid (Below w.heap.size w w3) := B2.out.trans (b3.mono B2.out.size)
  by_cases hE : nwE b v L = 0
  · obtain ⟨g, R, P, rfl, hg, hf, hi, hpb, hs0, hwc, hwi, hwb, hic, hii, hib⟩ := HNw.out.2.1 hE
    obtain ⟨g', R', P', rfl, hg', hf', hi', hpb', hs0', hwc', hwi', hwb', hic', hii', hib'⟩ := hnew2 hE
    rw [hE]
    have HF := Lib.hid (hf.below b3)
    have HF' := Lib.hid hf'
    have HG : Hid (w.heap.size + 2 ≤ g ∧ g < R ∧ R < w2.heap.size ∧ w2.heap.size ≤ g' ∧ g' < R' ∧ R' < w3.heap.size) := ⟨by have := HZ1.out; omega, hf.gR, hf.rk.lt, hg', hf'.gR, hf'.rk.lt⟩
    have HP : Hid (P.info = hb0.take 20 ∧ P.b = b ∧ P.sh = false ∧ P.wc = true ∧ P.wi = false ∧ P.ic = true ∧ P.ii = false ∧ P.ib = false) := ⟨hi, hpb, hs0, hwc, hwi, hic, hii, hib⟩
    have HP' : Hid (P'.info = hb0.take 20 ∧ P'.b = b ∧ P'.sh = false ∧ P'.wc = true ∧ P'.wi = false ∧ P'.ic = true ∧ P'.ii = false ∧ P'.ib = false) := ⟨hi', hpb', hs0', hwc', hwi', hic', hii', hib'⟩
    have HFd := Lib.hid (feedT w3 g R P L _ 2 0 [] (.slice none 0 0) HF.out bv l (Fm.rn_free (HC0.out.2.2.2.1.keep B3.out)) hll)
    obtain ⟨ba, bcp, hbv, _⟩ := HC0.out.2.2.2.1
    obtain ⟨ca, ccp, hcv, _⟩ := HC0.out.2.2.2.2.1
    rw [hbv] at HFd HC0 ⊢
    rw [hcv] at HC0 ⊢
    clear hf hg hpb hi hs0 hwc hwi hwb hic hii hib hf' hg' hpb' hi' hs0' hwc' hwi' hwb' hic' hii' hib' hnew2 hpp2 HNw hE d0 d1 hsh2 HN2 b3 hbv hcv
    go_wp2_with (first | (go_at_call 11; refine (numLT _ _).mono ?_; rintro e w9 ⟨rfl, rfl⟩))
    refine HFd.out.mono ?_
    intro e w4 hx
    obtain ⟨ev, fin, es, met, xs, q, Q, rfl, hes, heh, htel, hsd, fr4⟩ := FdE.tell HF.out HP.out.2.2.1 hx
    obtain ⟨ea, ec, rfl⟩ := hes.form
    have hz3 : w.heap.size ≤ w3.heap.size := B3.out.size
    have B4 : Hid (Below w.heap.size w w4) := by
      have h1 := HG.out
      exact below_fr B3.out fr4 hz3 (fun k hk => ⟨by omega, by omega⟩)
    have HF4 : Hid (FP w4 g' R' P' L (List.replicate ((L.length + 7) / 8) 0) 2 0 [] (.slice none 0 0)) := by
      have h1 := HG.out
      have h2 := HF'.out.g1
      have h3 := HF.out.g1
      exact HF'.out.frame fr4 ⟨by omega, by omega⟩ ⟨by omega, by omega⟩ ⟨by omega, by omega⟩ ⟨by omega, by omega⟩ HF.out.rows.1 HF.out.rows.2
    have HFe := Lib.hid (fedT w4 g' R' P' L _ HF4.out HP'.out.2.2.1 w.heap.size (by have := HG.out; omega) (.slice ba l.length bcp) l ((Fm.RN.of_rb HC0.out.2.2.2.1).move (w' := w4) (fun _ h => h) (fun k hk _ _ => B4.out.block k hk)) hll (.slice ca zs.length ccp) zs (RZo.of HC0.out.2.2.2.2.1 B4.out) hzl HC0.out.2.2.2.2.2)
    have H4 := Lib.hid (And.intro hes (And.intro heh (And.intro htel (And.intro hsd fr4.size))))
    clear hx hes heh htel hsd fr4 HFd
    go_wp2_with fail
    refine HFe.out.mono ?_
    rintro e w5 ⟨ev2, fin2, es2, met2, xs2, q2, Q2, rfl, hes2, heh2, htel2, hsd2, fr5⟩
    obtain ⟨ea2, ec2, rfl⟩ := hes2.form
    obtain ⟨rfl, rfl, rfl, rfl⟩ : met2 = met ∧ xs2 = xs ∧ q2 = q ∧ fin2 = fin := by
      have t1 := H4.out.2.2.1
      obtain ⟨x1, x2, _, _, _, x6, x7, x8⟩ := HP.out
      obtain ⟨y1, y2, _, _, _, y6, y7, y8⟩ := HP'.out
      rw [x1, x2, x6, x7, x8] at t1
      rw [y1, y2, y6, y7, y8] at htel2
      exact t1.det htel2
    have hgs := HG.out
    have sdA : Sd w5 g Q P.b P.wc P.wi (!met2.isEmpty) q2 fin2 := H4.out.2.2.2.1.keep (fr5.block g H4.out.2.2.2.1.pk.lt ⟨by omega, by omega⟩) (fun k cs e => fr5.block k (Array.getElem?_eq_some_iff.1 e).1 (HF4.out.rows.2 k cs e))
    have evA : EVS w3.heap.size w5 (.slice ea es.length ec) es := H4.out.1.fr (fun k hk hlt => fr5.block k hlt ⟨by omega, by omega⟩)
    have B5 : Hid (Below w.heap.size w w5) := below_fr B4.out fr5 B4.out.size (fun k hk => ⟨by omega, by omega⟩)
    have hlen : es.length ≤ 107374182 := by
      have := H4.out.2.2.1.len H4.out.2.1
      omega
    have HES := Lib.hid (eventsSameT w5 _ _ _ _ es es2 evA hes2 (H4.out.2.1.same heh2) hlen)
    have hbA : 0 < Q.b := by rw [sdA.b, HP.out.2.1]; have := HF.out.b0; rw [HP.out.2.1] at this; omega
    have hbB : 0 < Q2.b := by rw [hsd2.b, HP'.out.2.1]; have := HF.out.b0; rw [HP.out.2.1] at this; omega
    have e1 : Q.wc = true ∧ Q.wi = false ∧ Q2.wc = true ∧ Q2.wi = false := ⟨sdA.wc.trans HP.out.2.2.2.1, sdA.wi.trans HP.out.2.2.2.2.1, hsd2.wc.trans HP'.out.2.2.2.1, hsd2.wi.trans HP'.out.2.2.2.2.1⟩
    have HSA : Hid (∀ u, Below w5.heap.size w5 u → Calls Tryz.prog 14 #[.pointer (some ⟨g, 0, none⟩)] u fun e w' => ∃ hv, e = .returned (.agg #[.bool (!met2.isEmpty), .bool (fin2 != 0), .int .i64 fin2, .bool true, .bool false, .bool q2.c, .bool q2.i, hv]) ∧ OW u.heap.size w' hv q2.H ∧ Below u.heap.size u w') := fun u hu => by
      have h := stateT u g Q (sdA.pk.keep (hu.block g sdA.pk.lt)) hbA q2.H (sdA.hs.rb.keep hu) sdA.hl
      rw [sdA.sh, sdA.why, e1.1, e1.2.1, sdA.ic, sdA.ii] at h
      exact h
    have HSB : Hid (∀ u, Below w5.heap.size w5 u → Calls Tryz.prog 14 #[.pointer (some ⟨g', 0, none⟩)] u fun e w' => ∃ hv, e = .returned (.agg #[.bool (!met2.isEmpty), .bool (fin2 != 0), .int .i64 fin2, .bool true, .bool false, .bool q2.c, .bool q2.i, hv]) ∧ OW u.heap.size w' hv q2.H ∧ Below u.heap.size u w') := fun u hu => by
      have h := stateT u g' Q2 (hsd2.pk.keep (hu.block g' hsd2.pk.lt)) hbB q2.H (hsd2.hs.rb.keep hu) hsd2.hl
      rw [hsd2.sh, hsd2.why, e1.2.2.1, e1.2.2.2, hsd2.ic, hsd2.ii] at h
      exact h
    have HHL : Hid (q2.H.length ≤ 140737488351232) := sdA.hl
    clear sdA evA hbA hbB e1 hes2 heh2 htel2 hsd2 fr5 HF HF' HF4 HP HP' H4 HC0 HG hgs HFe B4 hlen hz3
    go_wp2_with (first | (go_at_call 11; refine (numLT _ _).mono ?_; rintro e w9 ⟨rfl, rfl⟩))
    refine HES.out.mono ?_
    rintro e w6 ⟨rfl, b6⟩
    have B6 : Hid (Below w5.heap.size w5 w6) := b6
    clear b6 HES
    go_wp2_with (first | (go_at_call 11; refine (numLT _ _).mono ?_; rintro e w9 ⟨rfl, rfl⟩))
    refine (HSA.out w6 B6.out).mono ?_
    rintro e w7 ⟨v7, rfl, o7, b7⟩
    obtain ⟨a7, c7, rfl⟩ := o7.form
    have B7 : Hid (Below w5.heap.size w5 w7) := B6.out.trans (b7.mono B6.out.size)
    have O7 := Lib.hid o7.rb
    clear o7 b7
    go_wp2_with (first | (go_at_call 11; refine (numLT _ _).mono ?_; rintro e w9 ⟨rfl, rfl⟩))
    refine (HSB.out w7 B7.out).mono ?_
    rintro e w8 ⟨v8, rfl, o8, b8⟩
    obtain ⟨a8, c8, rfl⟩ := o8.form
    have B8 : Hid (Below w5.heap.size w5 w8) := B7.out.trans (b8.mono B7.out.size)
    have O8 : Hid (RB w8 (.slice a7 q2.H.length c7) q2.H ∧ RB w8 (.slice a8 q2.H.length c8) q2.H) := ⟨O7.out.keep b8, o8.rb⟩
    clear o8 b8 O7
    go_wp2_with (first | (go_at_call 11; refine (numLT _ _).mono ?_; rintro e w9 ⟨rfl, rfl⟩))
    refine (stateSameT w8 _ _ _ _ _ _ _ _ _ q2.H O8.out.1 O8.out.2 HHL.out).mono ?_
    rintro e w10 ⟨rfl, b10⟩
    have B10 : Hid (Below w5.heap.size w5 w10) := B8.out.trans (b10.mono B8.out.size)
    clear b10 O8
    go_wp2_with (first | (go_at_call 11; refine (numLT _ _).mono ?_; rintro e w9 ⟨rfl, rfl⟩))
    refine (HSA.out w10 B10.out).mono ?_
    rintro e w11 ⟨v11, rfl, o11, b11⟩
    have B11 : Hid (Below w.heap.size w w11) := B5.out.trans ((B10.out.trans (b11.mono B10.out.size)).mono B5.out.size)
    obtain ⟨a11, c11, rfl⟩ := o11.form
    have hfd : ∀ u : World, (Instr.field 43 (.agg #[.bool (!met2.isEmpty), .bool (fin2 != 0), .int .i64 fin2, .bool true, .bool false, .bool q2.c, .bool q2.i, .slice a11 q2.H.length c11]) 1).run Tryz.prog u = .ok (.bool (fin2 != 0)) u := fun _ => by kernel_rfl
    clear o11 b11
    go_wp2_with (first | (go_at_call 11; refine (numLT _ _).mono ?_; rintro e w9 ⟨rfl, rfl⟩))
    go_wp2
    go_ret
    exact ⟨by simp, B11.out⟩
  · have hp := HNw.out.1.2 hE
    have hp2 := hpp2.2 hE
    subst hp hp2
    have q1 : (nwE b v L != 0) = true := by simp [hE]
    have HB3 := B3
    clear hpp2 hnew2 hE HNw HC0 HS2 d0 d1 hsh2 HN2
    go_wp2_with (first | (go_at_call 11; refine (numLT _ _).mono ?_; rintro e w9 ⟨rfl, rfl⟩))
    go_wp2
    go_ret
    exact ⟨rfl, HB3.out⟩
end Go.Proofs.YtabjpffaleaoaaaGreatDoor
