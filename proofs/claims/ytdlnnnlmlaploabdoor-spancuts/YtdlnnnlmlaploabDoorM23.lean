import Derived.Test.YtdlnnnlmlaploabDoorM22
namespace Go.Proofs.YtdlnnnlmlaploabDoor
open Go.RowKit Go.Deep
/-! ### The reference's walk: plain lists, and its frame -/
theorem txt_ge {k n : Int} {s : ByteArray} {ln : Nat} {l : Nat → T} {dn : Nat} {ky : Nat → ByteArray} {dv : Nat → T} (h : VT (.mk k n s ln l dn ky dv)) :
    1 + (catN (fun i => txt (l i)) ln).length + (catN (fun i => wtx (ky i) ++ txt (dv i)) dn).length ≤ (txt (.mk k n s ln l dn ky dv)).length := by
  obtain ⟨o1, o2, o3, o4, o5, o6⟩ : 1 ≤ k ∧ k ≤ 4 ∧ (k = 1 ∨ n = 0) ∧ (k = 2 ∨ s.toList = []) ∧ (k = 3 ∨ ln = 0) ∧ (k = 4 ∨ dn = 0) := of_decide_eq_true h.1
  by_cases hk1 : k = 1
  · obtain rfl : ln = 0 := by omega
    obtain rfl : dn = 0 := by omega
    have e : txt (.mk k n s 0 l 0 ky dv) = 105 :: (Lib.itoa n ++ [101]) := if_pos hk1
    rw [e]; simp [catN]
  by_cases hk2 : k = 2
  · obtain rfl : ln = 0 := by omega
    obtain rfl : dn = 0 := by omega
    have e : txt (.mk k n s 0 l 0 ky dv) = wtx s := (if_neg hk1).trans (if_pos hk2)
    have := wtx_size s
    rw [e]; simp [catN]; omega
  by_cases hk3 : k = 3
  · obtain rfl : dn = 0 := by omega
    have e : txt (.mk k n s ln l 0 ky dv) = 108 :: (catN (fun i => txt (l i)) ln ++ [101]) := (if_neg hk1).trans ((if_neg hk2).trans (if_pos hk3))
    rw [e]; simp [catN]; omega
  · obtain rfl : ln = 0 := by omega
    have e : txt (.mk k n s 0 l dn ky dv) = 100 :: (catN (fun i => wtx (ky i) ++ txt (dv i)) dn ++ [101]) := (if_neg hk1).trans ((if_neg hk2).trans (if_neg hk3))
    rw [e]; simp [catN]; omega
theorem kids_len {g : Nat → Nat → List Sp} {c : Nat → List UInt8} : ∀ {n : Nat}, (∀ i m, i < n → (g i m).length ≤ (c i).length) → (kids g n).length ≤ (catN c n).length
  | 0, _ => Nat.le_refl _
  | n + 1, h => by
    show (kids g n ++ g n _).length ≤ (catN c n ++ c n).length
    rw [List.length_append, List.length_append]
    have := kids_len (n := n) (fun i m hi => h i m (by omega))
    have := h n (kids g n).length (by omega)
    omega
theorem walk_len : ∀ (t : T) (here : Nat) (sp : Sp), VT t → (walkT t here sp).length ≤ (txt t).length := by
  intro t
  induction t with
  | no => intro _ _ _; exact Nat.le_refl _
  | mk k n s ln l dn ky dv il id =>
    intro here sp h
    have hg := txt_ge h
    unfold walkT
    rw [List.length_cons, List.length_append]
    have h1 := kids_len (g := fun i m => walkT (l i) (here + 1 + m) { fr := sp.fr + 1 + (catN (fun i => txt (l i)) i).length, dep := sp.dep + 1, up := here, nth := i }) (c := fun i => txt (l i)) (n := ln) (fun i m hi => il i _ _ (h.2.1 i hi))
    have h2 := kids_len (g := fun i m => walkT (dv i) (here + 1 + (kids (fun i m => walkT (l i) (here + 1 + m) { fr := sp.fr + 1 + (catN (fun i => txt (l i)) i).length, dep := sp.dep + 1, up := here, nth := i }) ln).length + m)
         { fr := sp.fr + 1 + (catN (fun i => txt (l i)) ln).length + (catN (fun i => wtx (ky i) ++ txt (dv i)) i).length + (wtx (ky i)).length, dep := sp.dep + 1, up := here, nth := i, key := ky i }) (c := fun i => wtx (ky i) ++ txt (dv i)) (n := dn) (fun i m hi => by
      have := id i (here + 1 + (kids (fun i m => walkT (l i) (here + 1 + m) { fr := sp.fr + 1 + (catN (fun i => txt (l i)) i).length, dep := sp.dep + 1, up := here, nth := i }) ln).length + m) { fr := sp.fr + 1 + (catN (fun i => txt (l i)) ln).length + (catN (fun i => wtx (ky i) ++ txt (dv i)) i).length + (wtx (ky i)).length, dep := sp.dep + 1, up := here, nth := i, key := ky i } (h.2.2 i hi).2
      rw [List.length_append]
      omega)
    omega
/-- a row has grown: nothing else that was there has changed -/
structure NR (lv lv' : Value) (w w' : World) : Prop where
  os : w'.os = w.os
  tape : w'.tape = w.tape
  output : w'.output = w.output
  size : w.heap.size ≤ w'.heap.size
  block : ∀ k, k < w.heap.size → lv.ownBlock ≠ some k → w'.heap[k]? = w.heap[k]?
  own : lv'.ownBlock = lv.ownBlock ∨ ∃ g, lv'.ownBlock = some g ∧ w.heap.size ≤ g
theorem NR.refl (lv : Value) (w : World) : NR lv lv w w := ⟨rfl, rfl, rfl, Nat.le_refl _, fun _ _ _ => rfl, .inl rfl⟩
theorem NR.trans {lv lv1 lv2 : Value} {w w1 w2 : World} (h : NR lv lv1 w w1) (g : NR lv1 lv2 w1 w2) : NR lv lv2 w w2 where
  os := g.os.trans h.os
  tape := g.tape.trans h.tape
  output := g.output.trans h.output
  size := Nat.le_trans h.size g.size
  block := fun k hk hn => (g.block k (Nat.lt_of_lt_of_le hk h.size) (fun e => by
    rcases h.own with e1 | ⟨x, e1, hx⟩
    · exact hn (e1 ▸ e)
    · rw [e1] at e; injection e with e; omega)).trans (h.block k hk hn)
  own := by
    have hs := h.size
    rcases g.own with e | ⟨x, e, hx⟩
    · rw [e]; exact h.own
    · exact .inr ⟨x, e, by omega⟩
theorem NR.of_below {lv : Value} {w w' : World} (h : Below w.heap.size w w') : NR lv lv w w' := ⟨h.os, h.tape, h.output, h.size, fun k hk _ => h.block k hk, .inl rfl⟩
theorem NR.below {B k : Nat} {us : List Value} {lv lv' : Value} {w w' : World} (h : NR lv lv' w w') (ho : w.ownsRow B 37 7 lv k us) (hB : B ≤ w.heap.size) : Below B w w' :=
  ⟨h.os, h.tape, h.output, h.size, fun x hx => h.block x (by omega) (fun e => by have := (own_lt ho e).1; omega)⟩
/-- a span's cells -/
abbrev Sp.cs (s : Sp) : Array Value := #[.int .i64 s.kind, .int .i64 s.fr, .int .i64 s.to, .int .i64 s.dep, .int .i64 s.up, .int .i64 s.nth, .string s.key]
def KC (t : T) : Prop := ∀ (x y : Value) (w : World) (B here : Nat) (lv : Value) (us : List Value) (sp : Sp), RV (fun k => k < B) w t x y → t.rng → VT t → TB B w → sp.fr + (txt t).length ≤ 1048576 → sp.dep + (txt t).length ≤ 1048577 → here + (txt t).length ≤ 1048577 → w.ownsRow B 37 7 lv here us → B ≤ w.heap.size →
  Calls Tryd.prog 75 #[lv, vv t x y, .agg (Sp.cs sp)] w fun e w' => ∃ lv', e = .returned lv' ∧ w'.ownsRow B 37 7 lv' (here + (walkT t here sp).length) (us ++ spW ((walkT t here sp).map Sp.v)) ∧ NR lv lv' w w'
end Go.Proofs.YtdlnnnlmlaploabDoor
namespace Go.Proofs.YtdlnnnlmlaploabDoor
open Go.RowKit Go.Deep
theorem blk.cells7 {w : World} {g : Nat} {ty : TypeId} {c0 c1 c2 c3 c4 c5 c6 : Value} (h : blk w g ty #[c0, c1, c2, c3, c4, c5, c6]) :
    w.cell? ⟨g, 0, none⟩ = some c0 ∧ w.cell? ⟨g, 1, none⟩ = some c1 ∧ w.cell? ⟨g, 2, none⟩ = some c2 ∧ w.cell? ⟨g, 3, none⟩ = some c3 ∧ w.cell? ⟨g, 4, none⟩ = some c4 ∧ w.cell? ⟨g, 5, none⟩ = some c5 ∧ w.cell? ⟨g, 6, none⟩ = some c6 :=
  ⟨h.cell 0, h.cell 1, h.cell 2, h.cell 3, h.cell 4, h.cell 5, h.cell 6⟩
theorem built45 (a b c d : Int) : Tryd.prog.built 37 [(1, .int .i64 a), (3, .int .i64 b), (4, .int .i64 c), (5, .int .i64 d)] = some #[.int .i64 0, .int .i64 a, .int .i64 0, .int .i64 b, .int .i64 c, .int .i64 d, .string ByteArray.empty] := by kernel_rfl
theorem built45k (a b c d : Int) (k : ByteArray) : Tryd.prog.built 37 [(1, .int .i64 a), (3, .int .i64 b), (4, .int .i64 c), (5, .int .i64 d), (6, .string k)] = some #[.int .i64 0, .int .i64 a, .int .i64 0, .int .i64 b, .int .i64 c, .int .i64 d, .string k] := by kernel_rfl
theorem yieldsIf_build {P : Program} {ops : Array Oper} {S : World → Prop} {o : Oper} {a : Act} (hw : Region.wanted o (yielded ops a.tmps) = true) (t : TypeId) (parts : Array (Nat × Operand)) (ho : o.op = .build t parts) (cells : Array Value)
    (hf : P.built t (parts.map fun (i, x) => (i, a.eval x)).toList = some cells) : YieldsIf P ops S o (.agg cells) a :=
  .inl ⟨hw, fun w _ => by unfold execOp; simp only [ho, Sem.run_bind, run_build w t _ cells hf, Result.andThen_ok, Sem.run_pure]⟩
theorem spW_app (a b : List Vi) : spW (a ++ b) = spW a ++ spW b := by unfold spW; simp
/-- behind the append -/
theorem W5x {W4 w5 : World} {here lc g2 lc2 : Nat} {la lb : Option Addr} {sc2 : Array Value}
    (hg : (W4.alloc (Obj.cells sc2 37)).grownBy w5 (Value.slice la here lc).ownBlock) (ha : (Value.slice lb g2 lc2).ownBlock = (Value.slice la here lc).ownBlock ∨ (Value.slice lb g2 lc2).ownBlock = some (W4.heap.size + 1)) :
    NR (.slice la here lc) (.slice lb g2 lc2) W4 w5 := by
  have b0 : Below W4.heap.size W4 (W4.alloc (Obj.cells sc2 37)) := (Below.refl _ _).alloc (Nat.le_refl _) _
  have hs := b0.size
  refine ⟨hg.os.trans b0.os, hg.tape.trans b0.tape, hg.output.trans b0.output, Nat.le_trans hs hg.size, fun k hk hn => (hg.block k (Nat.lt_of_lt_of_le hk hs) (fun e => hn e.symm)).trans (b0.block k hk), ?_⟩
  rcases ha with h | h
  · exact .inl h
  · exact .inr ⟨_, h, by omega⟩
set_option maxRecDepth 10000 in
set_option maxHeartbeats 6000000 in
theorem walk29 (t : T) : KC t := by
  induction t with
  | no => intro x y w B here lv us sp h; exact h.elim
  | mk k n s ln l dn ky dv il id =>
    intro x y w B here lv us sp hr hrng hvt hT h1 h2 h3 hown hB
    obtain ⟨⟨xa, xn, xc, rfl⟩, ⟨ya, yn, yc, rfl⟩⟩ := hr.slices
    obtain ⟨la, lc, rfl⟩ := ownForm hown
    have htx := txt_ge hvt
    have ZZ := Lib.hid (And.intro hr (And.intro hrng hvt))
    obtain ⟨hL, hD⟩ := hr
    obtain ⟨a, ca, ha, hL⟩ := hL
    obtain ⟨rfl, rfl, rfl⟩ : a = xa ∧ ln = xn ∧ ca = xc := by cases ha; exact ⟨rfl, rfl, rfl⟩
    clear ha
    obtain ⟨a', ca', ha, hD⟩ := hD
    obtain ⟨rfl, rfl, rfl⟩ : a' = ya ∧ dn = yn ∧ ca' = yc := by cases ha; exact ⟨rfl, rfl, rfl⟩
    clear ha
    obtain ⟨_, _, _, _, r5, r6⟩ := hrng
    have HCL : Hid ((∀ i, KC (l i)) ∧ (∀ i, i < ln → (l i).rng) ∧ (∀ i, i < ln → VT (l i)) ∧ (ln = 0 ∨ ∃ b o, a = some ⟨b, o, none⟩ ∧ b < B ∧ b < w.heap.size ∧ ∀ i, i < ln → ∃ x' y', RV (fun k => k < B) w (l i) x' y' ∧ five w b (o + i * 5) (l i) x' y')) := ⟨il, r5, hvt.2.1, hL⟩
    have HCD : Hid ((∀ i, KC (dv i)) ∧ (∀ i, i < dn → (dv i).rng) ∧ (∀ i, i < dn → VT (dv i)) ∧ (dn = 0 ∨ ∃ b o, a' = some ⟨b, o, none⟩ ∧ b < B ∧ b < w.heap.size ∧ ∀ i, i < dn → ∃ x' y', RV (fun k => k < B) w (dv i) x' y' ∧ w.cell? ⟨b, o + i * 6, none⟩ = some (.string (ky i)) ∧ five w b (o + i * 6 + 1) (dv i) x' y')) := ⟨id, r6, fun i hi => (hvt.2.2 i hi).2, hD⟩
    show Calls Tryd.prog 75 #[.slice la here lc, .agg #[.int .i64 k, .int .i64 n, .string s, .slice a ln ca, .slice a' dn ca'], .agg #[.int .i64 sp.kind, .int .i64 (sp.fr : Nat), .int .i64 (sp.to : Nat), .int .i64 (sp.dep : Nat), .int .i64 sp.up, .int .i64 (sp.nth : Nat), .string sp.key]] w _
    have HG : Hid (obj ((w.alloc (Obj.cells #[.int .i64 k, .int .i64 n, .string s, .slice a ln ca, .slice a' dn ca'] 31)).alloc (Obj.cells #[.int .i64 k, .int .i64 (sp.fr : Nat), .int .i64 (sp.to : Nat), .int .i64 (sp.dep : Nat), .int .i64 sp.up, .int .i64 (sp.nth : Nat), .string sp.key] 37)) w.heap.size (.int .i64 k) (.int .i64 n) (.string s) (.slice a ln ca) (.slice a' dn ca') ∧ blk ((w.alloc (Obj.cells #[.int .i64 k, .int .i64 n, .string s, .slice a ln ca, .slice a' dn ca'] 31)).alloc (Obj.cells #[.int .i64 k, .int .i64 (sp.fr : Nat), .int .i64 (sp.to : Nat), .int .i64 (sp.dep : Nat), .int .i64 sp.up, .int .i64 (sp.nth : Nat), .string sp.key] 37)) (w.heap.size + 1) 37 #[.int .i64 k, .int .i64 (sp.fr : Nat), .int .i64 (sp.to : Nat), .int .i64 (sp.dep : Nat), .int .i64 sp.up, .int .i64 (sp.nth : Nat), .string sp.key] ∧ ((w.alloc (Obj.cells #[.int .i64 k, .int .i64 n, .string s, .slice a ln ca, .slice a' dn ca'] 31)).alloc (Obj.cells #[.int .i64 k, .int .i64 (sp.fr : Nat), .int .i64 (sp.to : Nat), .int .i64 (sp.dep : Nat), .int .i64 sp.up, .int .i64 (sp.nth : Nat), .string sp.key] 37)).ownsRow B 37 7 (.slice la here lc) here us ∧ NR (.slice la here lc) (.slice la here lc) w ((w.alloc (Obj.cells #[.int .i64 k, .int .i64 n, .string s, .slice a ln ca, .slice a' dn ca'] 31)).alloc (Obj.cells #[.int .i64 k, .int .i64 (sp.fr : Nat), .int .i64 (sp.to : Nat), .int .i64 (sp.dep : Nat), .int .i64 sp.up, .int .i64 (sp.nth : Nat), .string sp.key] 37))) := by
      have c1 : Below w.heap.size w (w.alloc (Obj.cells #[.int .i64 k, .int .i64 n, .string s, .slice a ln ca, .slice a' dn ca'] 31)) := (Below.refl _ _).alloc (Nat.le_refl _) _
      have c2 : Below (w.alloc (Obj.cells #[.int .i64 k, .int .i64 n, .string s, .slice a ln ca, .slice a' dn ca'] 31)).heap.size (w.alloc (Obj.cells #[.int .i64 k, .int .i64 n, .string s, .slice a ln ca, .slice a' dn ca'] 31)) ((w.alloc (Obj.cells #[.int .i64 k, .int .i64 n, .string s, .slice a ln ca, .slice a' dn ca'] 31)).alloc (Obj.cells #[.int .i64 k, .int .i64 (sp.fr : Nat), .int .i64 (sp.to : Nat), .int .i64 (sp.dep : Nat), .int .i64 sp.up, .int .i64 (sp.nth : Nat), .string sp.key] 37)) := (Below.refl _ _).alloc (Nat.le_refl _) _
      have o1 : obj (w.alloc (Obj.cells #[.int .i64 k, .int .i64 n, .string s, .slice a ln ca, .slice a' dn ca'] 31)) w.heap.size (.int .i64 k) (.int .i64 n) (.string s) (.slice a ln ca) (.slice a' dn ca') := heap_new _ _
      have o2 := heap_new (w.alloc (Obj.cells #[.int .i64 k, .int .i64 n, .string s, .slice a ln ca, .slice a' dn ca'] 31)) (Obj.cells #[.int .i64 k, .int .i64 (sp.fr : Nat), .int .i64 (sp.to : Nat), .int .i64 (sp.dep : Nat), .int .i64 sp.up, .int .i64 (sp.nth : Nat), .string sp.key] 37)
      rw [show (w.alloc (Obj.cells #[.int .i64 k, .int .i64 n, .string s, .slice a ln ca, .slice a' dn ca'] 31)).heap.size = w.heap.size + 1 by simp] at o2
      exact ⟨o1.keep (c2.block _ o1.lt), o2, (hown.alloc _).alloc _, (NR.of_below c1).trans (NR.of_below c2)⟩
    have HOW := Lib.hid hown
    have HT := Lib.hid (And.intro hT hB)
    have HZ : Hid (∀ wz, Below B w wz → Calls Tryd.prog 93 #[.agg #[.int .i64 k, .int .i64 n, .string s, .slice a ln ca, .slice a' dn ca']] wz fun e w' => e = .returned (.int .i64 (txt (.mk k n s ln l dn ky dv)).length) ∧ Below wz.heap.size wz w') := by
      refine Lib.hid (fun wz hb => ?_)
      obtain ⟨z1, z2, z3⟩ := ZZ.out
      exact size45 (.mk k n s ln l dn ky dv) _ _ wz (RV.keep (fun _ _ => trivial) hb.size (fun b hb' _ => hb.block b hb') _ _ _ z1) z2 z3 (tb_up (hT.on hb) (Nat.le_trans hB hb.size)) (by omega)
    have HTX := Lib.hid htx
    generalize htl : (txt (.mk k n s ln l dn ky dv)).length = tl at *
    have HTL := Lib.hid htl
    clear il id r5 r6 hvt hL hD ZZ hown hT hB htl htx
    go_enter Tryd.func75, Tryd.ntmps75
    go_wp2_with fail
    generalize ((w.alloc (Obj.cells #[.int .i64 k, .int .i64 n, .string s, .slice a ln ca, .slice a' dn ca'] 31)).alloc (Obj.cells #[.int .i64 k, .int .i64 (sp.fr : Nat), .int .i64 (sp.to : Nat), .int .i64 (sp.dep : Nat), .int .i64 sp.up, .int .i64 (sp.nth : Nat), .string sp.key] 37)) = W2 at *
    generalize hvb : w.heap.size = vb at *
    generalize hsb : vb + 1 = sb at *
    have HVS : Hid (vb = w.heap.size ∧ sb = w.heap.size + 1) := ⟨hvb.symm, by omega⟩
    obtain ⟨_, e1, _⟩ := (show blk W2 sb 37 _ from HG.out.2.1).cells7
    have HZ2 := Lib.hid (HZ.out W2.drew (HG.out.2.2.2.below HOW.out (by have := HT.out.2; have := HVS.out.1; omega)).drew)
    clear hvb hsb
    refine wp_region_held_drew (S := fun w' => obj w' vb (.int .i64 k) (.int .i64 n) (.string s) (.slice a ln ca) (.slice a' dn ca') ∧ w'.cell? ⟨sb, 1, none⟩ = some (.int .i64 (sp.fr : Nat))) (by kernel_rfl) (⟨HG.out.1, e1⟩) (fun hHeld => ?_)
    refine wpAnyH_take (i := 0) (v := .pointer (some ⟨sb, 1, none⟩)) rfl (by kernel_rfl) (by kernel_rfl) (by kernel_rfl) (fun _ _ _ h => h) (Or.inl ⟨by rfl, fun w hw => by go_simp⟩) hHeld ?_
    simp only [Act.put, List.getElem_toArray, List.getElem_cons_zero, List.setIfInBounds_toArray, List.set_cons_zero, List.set_cons_succ]
    refine wpAnyH_take (i := 1) (v := .int .i64 (sp.fr : Nat)) rfl (by kernel_rfl) (by kernel_rfl) (by kernel_rfl) (fun _ _ _ h => h) (Or.inl ⟨by rfl, fun w hw => by have c := hw.2; go_simp⟩) hHeld ?_
    simp only [Act.put, List.getElem_toArray, List.getElem_cons_zero, List.getElem_cons_succ, List.setIfInBounds_toArray, List.set_cons_zero, List.set_cons_succ]
    refine wpAnyH_take (i := 2) (v := .agg #[.int .i64 k, .int .i64 n, .string s, .slice a ln ca, .slice a' dn ca']) rfl (by kernel_rfl) (by kernel_rfl) (by kernel_rfl) (fun _ _ _ h => h) (Or.inl ⟨by rfl, fun w hw => by obtain ⟨c0, c1, c2, c3, c4⟩ := hw.1.cells; go_simp⟩) hHeld ?_
    simp only [Act.put, List.getElem_toArray, List.getElem_cons_zero, List.getElem_cons_succ, List.setIfInBounds_toArray, List.set_cons_zero, List.set_cons_succ]
    refine wpAnyH_ready (rs := [3]) (by kernel_rfl) (by simp) ?_
    refine AllReadyH.cons (o := _) rfl (fun K hK => ?_) AllReadyH.nil
    go_simp
    refine (HZ2.out).mono ?_
    rintro e w' ⟨rfl, hb3⟩
    have HG3 : Hid (obj w' vb (.int .i64 k) (.int .i64 n) (.string s) (.slice a ln ca) (.slice a' dn ca') ∧ blk w' sb 37 #[.int .i64 k, .int .i64 (sp.fr : Nat), .int .i64 (sp.to : Nat), .int .i64 (sp.dep : Nat), .int .i64 sp.up, .int .i64 (sp.nth : Nat), .string sp.key] ∧ w'.ownsRow B 37 7 (.slice la here lc) here us ∧ NR (.slice la here lc) (.slice la here lc) w w') := by
      obtain ⟨q1, q2, q3, q4⟩ := HG.out
      have q1' : obj W2.drew vb (.int .i64 k) (.int .i64 n) (.string s) (.slice a ln ca) (.slice a' dn ca') := q1
      have q2' : blk W2.drew sb 37 _ := q2
      have q4' : NR _ _ w W2.drew := ⟨q4.os, q4.tape, q4.output, q4.size, q4.block, q4.own⟩
      exact ⟨q1'.keep (hb3.block _ q1'.lt), q2'.keep (hb3.block _ q2'.lt), own_keep q3 (fun x _ hx => hb3.block x hx), q4'.trans (NR.of_below hb3)⟩
    obtain ⟨_, t1, t2, _⟩ := (show blk w' sb 37 _ from HG3.out.2.1).cells7
    have tf := HG3.out.2.1.frozen 2
    clear hb3
    go_wp2_with fail
    refine hK.out _ _ (⟨HG3.out.1, t1⟩) (fun hHeld => ?_)
    clear hK K
    refine wpAnyH_take (i := 4) (v := .int .i64 ((sp.fr : Int) + (tl : Int))) rfl (by kernel_rfl) (by kernel_rfl) (by kernel_rfl) (fun _ _ _ h => h) (Or.inl ⟨by rfl, fun w hw => by go_simp; exact IntWalk.i64_in _ ⟨by omega, by omega⟩⟩) hHeld ?_
    simp only [Act.put, List.getElem_toArray, List.getElem_cons_zero, List.getElem_cons_succ, List.setIfInBounds_toArray, List.set_cons_zero, List.set_cons_succ]
    refine wpAnyH_take (i := 5) (v := .pointer (some ⟨sb, 2, none⟩)) rfl (by kernel_rfl) (by kernel_rfl) (by kernel_rfl) (fun _ _ _ h => h) (Or.inl ⟨by rfl, fun w hw => by go_simp⟩) hHeld ?_
    simp only [Act.put, List.getElem_toArray, List.getElem_cons_zero, List.getElem_cons_succ, List.setIfInBounds_toArray, List.set_cons_zero, List.set_cons_succ]
    refine wpAnyH_ready (rs := [6]) (by kernel_rfl) (by simp) ?_
    refine AllReadyH.cons (o := _) rfl (fun K hK => ?_) AllReadyH.nil
    go_simp
    have HG4 : Hid (obj (w'.setCell ⟨sb, 2, none⟩ (.int .i64 ((sp.fr : Int) + (tl : Int)))) vb (.int .i64 k) (.int .i64 n) (.string s) (.slice a ln ca) (.slice a' dn ca') ∧ blk (w'.setCell ⟨sb, 2, none⟩ (.int .i64 ((sp.fr : Int) + (tl : Int)))) sb 37 #[.int .i64 k, .int .i64 (sp.fr : Nat), .int .i64 ((sp.fr : Int) + (tl : Int)), .int .i64 (sp.dep : Nat), .int .i64 sp.up, .int .i64 (sp.nth : Nat), .string sp.key] ∧ (w'.setCell ⟨sb, 2, none⟩ (.int .i64 ((sp.fr : Int) + (tl : Int)))).ownsRow B 37 7 (.slice la here lc) here us ∧ NR (.slice la here lc) (.slice la here lc) w (w'.setCell ⟨sb, 2, none⟩ (.int .i64 ((sp.fr : Int) + (tl : Int))))) := by
      obtain ⟨q1, q2, q3, q4⟩ := HG3.out
      have hv := HVS.out
      refine ⟨q1.keep (Below.heap_setCell _ _ _ _ (show vb ≠ sb by omega)), q2.set 2 _, own_far q3 (fun e => by have := own_lt HOW.out e; omega), ⟨q4.os, q4.tape, q4.output, by rw [setCell_size]; exact q4.size, fun x hx hn => by rw [Below.heap_setCell _ _ _ _ (show x ≠ sb by omega)]; exact q4.block x hx hn, q4.own⟩⟩
    refine hK.out _ _ ⟨HG4.out.1, (show blk _ sb 37 _ from HG4.out.2.1).cell 1⟩ (fun hHeld => ?_)
    clear hK K hHeld t1 t2 tf HG3
    refine wpAnyH_done (by kernel_rfl) ?_ _
    generalize (w'.setCell ⟨sb, 2, none⟩ (.int .i64 ((sp.fr : Int) + (tl : Int)))) = W4 at *
    have HA : Hid ((W4.alloc (Obj.cells #[.int .i64 k, .int .i64 (sp.fr : Nat), .int .i64 ((sp.fr : Int) + (tl : Int)), .int .i64 (sp.dep : Nat), .int .i64 sp.up, .int .i64 (sp.nth : Nat), .string sp.key] 37)).ownsRow B 37 7 (.slice la here lc) here us ∧ (W4.alloc (Obj.cells #[.int .i64 k, .int .i64 (sp.fr : Nat), .int .i64 ((sp.fr : Int) + (tl : Int)), .int .i64 (sp.dep : Nat), .int .i64 sp.up, .int .i64 (sp.nth : Nat), .string sp.key] 37)).heap[W4.heap.size]? = some (Obj.cells (Vi.sp (⟨k, (sp.fr : Nat), (sp.fr : Int) + (tl : Int), (sp.dep : Nat), sp.up, (sp.nth : Nat), sp.key, 0, 0⟩ : Vi)).toArray 37) ∧ B ≤ (W4.alloc (Obj.cells #[.int .i64 k, .int .i64 (sp.fr : Nat), .int .i64 ((sp.fr : Int) + (tl : Int)), .int .i64 (sp.dep : Nat), .int .i64 sp.up, .int .i64 (sp.nth : Nat), .string sp.key] 37)).heap.size) := by
      refine ⟨HG4.out.2.2.1.alloc _, heap_new W4 _, ?_⟩
      have := HG4.out.2.2.2.size
      have := HT.out.2
      have := HVS.out.1
      simp
      omega
    obtain ⟨t0, t1, t2, t3, t4, t5, t6⟩ := (show blk W4 sb 37 _ from HG4.out.2.1).cells7
    go_wp2_with (at_builtin; refine append_span rfl _ _ rfl rfl HA.out.1 W4.heap.size (⟨k, (sp.fr : Nat), (sp.fr : Int) + (tl : Int), (sp.dep : Nat), sp.up, (sp.nth : Nat), sp.key, 0, 0⟩ : Vi) rfl HA.out.2.1 HA.out.2.2 (by omega) ?_)
    intro lv5 w5 ho5 hg5 ha5
    obtain ⟨lb, lcb, rfl⟩ := ownForm ho5
    have Y5 := W5x hg5 ha5
    have HW5 := Lib.hid (And.intro ho5 Y5)
    have HBX : Hid (∀ lvv wr, NR (.slice la here lc) lvv W4 wr → obj wr vb (.int .i64 k) (.int .i64 n) (.string s) (.slice a ln ca) (.slice a' dn ca') ∧ blk wr sb 37 #[.int .i64 k, .int .i64 (sp.fr : Nat), .int .i64 ((sp.fr : Int) + (tl : Int)), .int .i64 (sp.dep : Nat), .int .i64 sp.up, .int .i64 (sp.nth : Nat), .string sp.key] ∧ Below B w wr ∧ NR (.slice la here lc) lvv w wr) := by
      refine Lib.hid (fun lvv wr hn => ?_)
      obtain ⟨q1, q2, q3, q4⟩ := HG4.out
      have hv := HVS.out
      have own1 : ∀ x, (Value.slice la here lc).ownBlock = some x → x < w.heap.size := fun x hx => (own_lt HOW.out hx).2
      have hh := q4.trans hn
      exact ⟨q1.keep (hn.block _ q1.lt (fun e => by have := own1 _ e; omega)), q2.keep (hn.block _ q2.lt (fun e => by have := own1 _ e; omega)), hh.below HOW.out (by have := HT.out.2; omega), hh⟩
    obtain ⟨t0, t1, t2, t3, t4, t5, t6⟩ := (show blk w5 sb 37 _ from (HBX.out _ _ Y5).2.1).cells7
    obtain ⟨_, _, _, v3, v4⟩ := (HBX.out _ _ Y5).1.cells
    clear ho5 hg5 ha5 Y5 HA HG4 HZ HZ2 HG
    go_wp2_with fail
    have K0 : kids (fun i m => walkT (l i) (here + 1 + m) { fr := sp.fr + 1 + (catN (fun i => txt (l i)) i).length, dep := sp.dep + 1, up := here, nth := i }) 0 = [] := rfl
    go_loopw [0, 8, 9] (fun lvv av iv wr => ∃ j : Nat, j ≤ ln ∧ iv = .int .i64 j ∧ av = .int .i64 ((sp.fr + 1 + (catN (fun i => txt (l i)) j).length : Nat) : Int) ∧ Hid (wr.ownsRow B 37 7 lvv (here + 1 + (kids (fun i m => walkT (l i) (here + 1 + m) { fr := sp.fr + 1 + (catN (fun i => txt (l i)) i).length, dep := sp.dep + 1, up := here, nth := i }) j).length) (us ++ Vi.sp (⟨k, (sp.fr : Nat), (sp.fr : Int) + (tl : Int), (sp.dep : Nat), sp.up, (sp.nth : Nat), sp.key, 0, 0⟩ : Vi) ++ spW ((kids (fun i m => walkT (l i) (here + 1 + m) { fr := sp.fr + 1 + (catN (fun i => txt (l i)) i).length, dep := sp.dep + 1, up := here, nth := i }) j).map Sp.v)) ∧ NR (.slice la here lc) lvv W4 wr)) (fun _ _ iv _ => ln - (intOf iv).toNat)
    case atStart =>
      refine ⟨0, Nat.zero_le _, rfl, ?_, ?_, HW5.out.2⟩
      · simp [catN]
      · rw [K0]; simpa [spW] using HW5.out.1
    case round =>
      clear HW5 t0 t1 t2 t3 t4 t5 t6 v3 v4
      obtain ⟨j, hj, rfl, rfl, HO⟩ := hrel
      obtain ⟨lb, lcc, rfl⟩ := ownForm HO.out.1
      obtain ⟨_, _, _, v3, v4⟩ := (HBX.out _ _ HO.out.2).1.cells
      by_cases hlt : j < ln
      · obtain ⟨il, r5, hvl, hL⟩ := HCL.out
        rcases hL with h | ⟨b, o, rfl, hbB, hb, hL⟩
        · omega
        obtain ⟨x1, y1, hv, hf⟩ := hL j hlt
        obtain ⟨⟨xa1, xn1, xc1, rfl⟩, ⟨ya1, yn1, yc1, rfl⟩⟩ := hv.slices
        have HFV : Hid (∀ wr, Below B w wr → five wr b (o + j * 5) (l j) (.slice xa1 xn1 xc1) (.slice ya1 yn1 yc1) ∧ RV (fun k => k < B) wr (l j) (.slice xa1 xn1 xc1) (.slice ya1 yn1 yc1)) := by
          refine Lib.hid (fun wr hw => ?_)
          obtain ⟨f0, f1, f2, f3, f4⟩ := hf
          have hk := hw.block b hbB
          exact ⟨⟨(World.cell?_of_block (w := w) hk).trans f0, (World.cell?_of_block (w := w) hk).trans f1, (World.cell?_of_block (w := w) hk).trans f2, (World.cell?_of_block (w := w) hk).trans f3, (World.cell?_of_block (w := w) hk).trans f4⟩, RV.keep (fun _ h => h) hw.size (fun x hx _ => hw.block x hx) _ _ _ hv⟩
        have hle : (catN (fun i => txt (l i)) j).length + (txt (l j)).length ≤ (catN (fun i => txt (l i)) ln).length := catN_le hlt
        have hkl : (kids (fun i m => walkT (l i) (here + 1 + m) { fr := sp.fr + 1 + (catN (fun i => txt (l i)) i).length, dep := sp.dep + 1, up := here, nth := i }) j).length ≤ (catN (fun i => txt (l i)) j).length := kids_len (fun i m hi => walk_len _ _ _ (hvl i (by omega)))
        have htx := HTX.out
        obtain ⟨b1, b2, b3, b4⟩ := HBX.out _ _ HO.out.2
        have HX := Lib.hid (il j (.slice xa1 xn1 xc1) (.slice ya1 yn1 yc1) wr.drew B (here + 1 + (kids (fun i m => walkT (l i) (here + 1 + m) { fr := sp.fr + 1 + (catN (fun i => txt (l i)) i).length, dep := sp.dep + 1, up := here, nth := i }) j).length) _ _ { fr := sp.fr + 1 + (catN (fun i => txt (l i)) j).length, dep := sp.dep + 1, up := here, nth := j } (HFV.out wr.drew b3.drew).2 (r5 j hlt) (hvl j hlt) (HT.out.1.on b3.drew) (by show sp.fr + 1 + _ + _ ≤ _; omega) (by show sp.dep + 1 + _ ≤ _; omega) (by omega) HO.out.1 (by have := HT.out.2; have := HVS.out.1; have := b3.size; show B ≤ wr.heap.size; omega))
        have HE2 : Hid ((catN (fun i => txt (l i)) (j + 1)).length = (catN (fun i => txt (l i)) j).length + (txt (l j)).length ∧ kids (fun i m => walkT (l i) (here + 1 + m) { fr := sp.fr + 1 + (catN (fun i => txt (l i)) i).length, dep := sp.dep + 1, up := here, nth := i }) (j + 1) = kids (fun i m => walkT (l i) (here + 1 + m) { fr := sp.fr + 1 + (catN (fun i => txt (l i)) i).length, dep := sp.dep + 1, up := here, nth := i }) j ++ walkT (l j) (here + 1 + (kids (fun i m => walkT (l i) (here + 1 + m) { fr := sp.fr + 1 + (catN (fun i => txt (l i)) i).length, dep := sp.dep + 1, up := here, nth := i }) j).length) { fr := sp.fr + 1 + (catN (fun i => txt (l i)) j).length, dep := sp.dep + 1, up := here, nth := j }) := ⟨List.length_append, rfl⟩
        have HZJ : Hid (∀ wz, Below B w wz → Calls Tryd.prog 93 #[.agg #[.int .i64 (l j).k, .int .i64 (l j).n, .string (l j).s, .slice xa1 xn1 xc1, .slice ya1 yn1 yc1]] wz fun e w' => e = .returned (.int .i64 (txt (l j)).length) ∧ Below wz.heap.size wz w') := by
          refine Lib.hid (fun wz hw => ?_)
          exact size45 (l j) _ _ wz (RV.keep (fun _ _ => trivial) (Nat.le_refl _) (fun _ _ _ => rfl) _ _ _ (HFV.out wz hw).2) (r5 j hlt) (hvl j hlt) (tb_up (HT.out.1.on hw) (by have := HT.out.2; have := HVS.out.1; have := hw.size; omega)) (by omega)
        have g0 : obj wr vb (.int .i64 k) (.int .i64 n) (.string s) (.slice (some ⟨b, o, none⟩) ln ca) (.slice a' dn ca') := b1
        have g1 : wr.cell? ⟨sb, 3, none⟩ = some (.int .i64 (sp.dep : Nat)) := b2.cell 3
        have g2 := (HFV.out wr b3).1
        have HO2 := Lib.hid (And.intro HO.out.1 HO.out.2)
        obtain ⟨at0, hat⟩ : ∃ at0, at0 = sp.fr + 1 + (catN (fun i => txt (l i)) j).length := ⟨_, rfl⟩
        obtain ⟨hr, hhr⟩ : ∃ hr, hr = here + 1 + (kids (fun i m => walkT (l i) (here + 1 + m) { fr := sp.fr + 1 + (catN (fun i => txt (l i)) i).length, dep := sp.dep + 1, up := here, nth := i }) j).length := ⟨_, rfl⟩
        obtain ⟨tj, htj⟩ : ∃ tj, tj = (txt (l j)).length := ⟨_, rfl⟩
        have a0 : at0 + tj ≤ 1048576 := by omega
        rw [← hhr, ← hat] at HX
        rw [← hat, ← hhr]
        rw [← hhr] at HO2
        rw [← htj] at HZJ
        have HEQ := Lib.hid (And.intro hat (And.intro hhr htj))
        have j0 : (0 : Int) ≤ (j : Int) := by omega
        have j1 : (j : Int) < (ln : Int) := by omega
        clear il r5 hvl hL hv hf hle hkl htx b1 b2 b3 b4 HO hat hhr htj
        go_wp2_with fail
        refine wp_region_held_drew (S := fun w' => obj w' vb (.int .i64 k) (.int .i64 n) (.string s) (.slice (some ⟨b, o, none⟩) ln ca) (.slice a' dn ca') ∧ w'.cell? ⟨sb, 3, none⟩ = some (.int .i64 (sp.dep : Nat)) ∧ five w' b (o + j * 5) (l j) (.slice xa1 xn1 xc1) (.slice ya1 yn1 yc1)) (by kernel_rfl) (⟨g0, g1, g2⟩) (fun hHeld => ?_)
        refine wpAnyH_take (i := 0) (v := .slice lb hr lcc) rfl (by kernel_rfl) (by kernel_rfl) (by kernel_rfl) (fun _ _ _ h => h) (Or.inl ⟨by rfl, fun w hw => by go_simp⟩) hHeld ?_
        simp only [Act.put, List.getElem_toArray, List.getElem_cons_zero, List.setIfInBounds_toArray, List.set_cons_zero, List.set_cons_succ]
        refine wpAnyH_take (i := 1) (v := .pointer (some ⟨vb, 3, none⟩)) rfl (by kernel_rfl) (by kernel_rfl) (by kernel_rfl) (fun _ _ _ h => h) (Or.inl ⟨by rfl, fun w hw => by go_simp⟩) hHeld ?_
        simp only [Act.put, List.getElem_toArray, List.getElem_cons_zero, List.getElem_cons_succ, List.setIfInBounds_toArray, List.set_cons_zero, List.set_cons_succ]
        refine wpAnyH_take (i := 2) (v := .slice (some ⟨b, o, none⟩) ln ca) rfl (by kernel_rfl) (by kernel_rfl) (by kernel_rfl) (fun _ _ _ h => h) (Or.inl ⟨by rfl, fun w hw => by obtain ⟨c0, c1, c2, c3, c4⟩ := hw.1.cells; go_simp⟩) hHeld ?_
        simp only [Act.put, List.getElem_toArray, List.getElem_cons_zero, List.getElem_cons_succ, List.setIfInBounds_toArray, List.set_cons_zero, List.set_cons_succ]
        refine wpAnyH_take (i := 3) (v := .int .i64 j) rfl (by kernel_rfl) (by kernel_rfl) (by kernel_rfl) (fun _ _ _ h => h) (Or.inl ⟨by rfl, fun w hw => by go_simp⟩) hHeld ?_
        simp only [Act.put, List.getElem_toArray, List.getElem_cons_zero, List.getElem_cons_succ, List.setIfInBounds_toArray, List.set_cons_zero, List.set_cons_succ]
        refine wpAnyH_take (i := 4) (v := .pointer (some ⟨b, o + j * 5, none⟩)) rfl (by kernel_rfl) (by kernel_rfl) (by kernel_rfl) (fun _ _ _ h => h) (Or.inl ⟨by rfl, fun w hw => by go_simp⟩) hHeld ?_
        simp only [Act.put, List.getElem_toArray, List.getElem_cons_zero, List.getElem_cons_succ, List.setIfInBounds_toArray, List.set_cons_zero, List.set_cons_succ]
        refine wpAnyH_take (i := 5) (v := .agg #[.int .i64 (l j).k, .int .i64 (l j).n, .string (l j).s, .slice xa1 xn1 xc1, .slice ya1 yn1 yc1]) rfl (by kernel_rfl) (by kernel_rfl) (by kernel_rfl) (fun _ _ _ h => h) (Or.inl ⟨by rfl, fun w hw => by obtain ⟨c0, c1, c2, c3, c4⟩ := hw.2.2; go_simp⟩) hHeld ?_
        simp only [Act.put, List.getElem_toArray, List.getElem_cons_zero, List.getElem_cons_succ, List.setIfInBounds_toArray, List.set_cons_zero, List.set_cons_succ]
        refine wpAnyH_take (i := 6) (v := .int .i64 (at0 : Nat)) rfl (by kernel_rfl) (by kernel_rfl) (by kernel_rfl) (fun _ _ _ h => h) (Or.inl ⟨by rfl, fun w hw => by go_simp⟩) hHeld ?_
        simp only [Act.put, List.getElem_toArray, List.getElem_cons_zero, List.getElem_cons_succ, List.setIfInBounds_toArray, List.set_cons_zero, List.set_cons_succ]
        refine wpAnyH_take (i := 7) (v := .pointer (some ⟨sb, 3, none⟩)) rfl (by kernel_rfl) (by kernel_rfl) (by kernel_rfl) (fun _ _ _ h => h) (Or.inl ⟨by rfl, fun w hw => by go_simp⟩) hHeld ?_
        simp only [Act.put, List.getElem_toArray, List.getElem_cons_zero, List.getElem_cons_succ, List.setIfInBounds_toArray, List.set_cons_zero, List.set_cons_succ]
        refine wpAnyH_take (i := 8) (v := .int .i64 (sp.dep : Nat)) rfl (by kernel_rfl) (by kernel_rfl) (by kernel_rfl) (fun _ _ _ h => h) (Or.inl ⟨by rfl, fun w hw => by have c := hw.2.1; go_simp⟩) hHeld ?_
        simp only [Act.put, List.getElem_toArray, List.getElem_cons_zero, List.getElem_cons_succ, List.setIfInBounds_toArray, List.set_cons_zero, List.set_cons_succ]
        refine wpAnyH_take (i := 9) (v := .int .i64 ((sp.dep + 1 : Nat) : Int)) rfl (by kernel_rfl) (by kernel_rfl) (by kernel_rfl) (fun _ _ _ h => h) (Or.inl ⟨by rfl, fun w hw => by go_simp; exact IntWalk.i64_in _ ⟨by omega, by omega⟩⟩) hHeld ?_
        simp only [Act.put, List.getElem_toArray, List.getElem_cons_zero, List.getElem_cons_succ, List.setIfInBounds_toArray, List.set_cons_zero, List.set_cons_succ]
        refine wpAnyH_take (i := 10) (v := .int .i64 (here : Nat)) rfl (by kernel_rfl) (by kernel_rfl) (by kernel_rfl) (fun _ _ _ h => h) (Or.inl ⟨by rfl, fun w hw => by go_simp⟩) hHeld ?_
        simp only [Act.put, List.getElem_toArray, List.getElem_cons_zero, List.getElem_cons_succ, List.setIfInBounds_toArray, List.set_cons_zero, List.set_cons_succ]
        refine wpAnyH_take (i := 11) (v := .int .i64 j) rfl (by kernel_rfl) (by kernel_rfl) (by kernel_rfl) (fun _ _ _ h => h) (Or.inl ⟨by rfl, fun w hw => by go_simp⟩) hHeld ?_
        simp only [Act.put, List.getElem_toArray, List.getElem_cons_zero, List.getElem_cons_succ, List.setIfInBounds_toArray, List.set_cons_zero, List.set_cons_succ]
        refine wpAnyH_take (i := 12) (v := .agg #[.int .i64 0, .int .i64 (at0 : Nat), .int .i64 0, .int .i64 ((sp.dep + 1 : Nat) : Int), .int .i64 (here : Nat), .int .i64 j, .string ByteArray.empty]) rfl (by kernel_rfl) (by kernel_rfl) (by kernel_rfl) (fun _ _ _ h => h) (yieldsIf_build (by rfl) 37 _ rfl _ (by rw [Array.toList_map]; exact built45 _ _ _ _)) hHeld ?_
        simp only [Act.put, List.getElem_toArray, List.getElem_cons_zero, List.getElem_cons_succ, List.setIfInBounds_toArray, List.set_cons_zero, List.set_cons_succ]
        refine wpAnyH_ready (rs := [13]) (by kernel_rfl) (by simp) ?_
        refine AllReadyH.cons (o := _) rfl (fun K hK => ?_) AllReadyH.nil
        go_simp
        refine (HX.out).mono ?_
        rintro e w' ⟨lv6, rfl, ho6, hn6⟩
        obtain ⟨lb6, lc6, rfl⟩ := ownForm ho6
        have H6 : Hid (w'.ownsRow B 37 7 _ _ _ ∧ NR (.slice la here lc) (.slice lb6 _ lc6) W4 w') := ⟨ho6, HO2.out.2.trans ⟨hn6.os, hn6.tape, hn6.output, hn6.size, hn6.block, hn6.own⟩⟩
        obtain ⟨d1, d2, d3, d4⟩ := HBX.out _ _ H6.out.2
        have e5 := (HFV.out w' d3).1
        clear ho6 hn6
        go_wp2_with fail
        refine hK.out _ _ (⟨d1, d2.cell 3, e5⟩) (fun hHeld => ?_)
        clear hK K
        refine wpAnyH_ready (rs := [14]) (by kernel_rfl) (by simp) ?_
        refine AllReadyH.cons (o := _) rfl (fun K hK => ?_) AllReadyH.nil
        go_simp
        refine hK.out _ _ hHeld (fun hHeld => ?_)
        clear hK K
        refine wpAnyH_done (by kernel_rfl) ?_ _
        obtain ⟨hr2, hhr2⟩ : ∃ hr2, hr2 = hr + (walkT (l j) hr { fr := at0, dep := sp.dep + 1, up := here, nth := j }).length := ⟨_, rfl⟩
        rw [← hhr2] at H6 ⊢
        have HR2 := Lib.hid hhr2
        have HZ7 := Lib.hid (HZJ.out w' d3)
        obtain ⟨_, _, _, v3, v4⟩ := d1.cells
        obtain ⟨f0, f1, f2, f3, f4⟩ := e5
        clear hHeld d1 d2 d3 d4 g0 g1 g2 hhr2 HX
        go_wp2_with fail
        refine HZ7.out.mono ?_
        rintro e w7 ⟨rfl, hb7⟩
        have H7 : Hid (w7.ownsRow B 37 7 (.slice lb6 hr2 lc6) hr2 _ ∧ NR (.slice la here lc) (.slice lb6 hr2 lc6) W4 w7) := ⟨own_keep H6.out.1 (fun x _ hx => hb7.block x hx), H6.out.2.trans (NR.of_below hb7)⟩
        clear hb7 H6 f0 f1 f2 f3 f4 v3 v4 HZ7
        go_wp2
        go_roundw
        case rel =>
          obtain ⟨q1, q2, q3⟩ := HEQ.out
          obtain ⟨q4, q5⟩ := HE2.out
          have q6 := HR2.out
          refine ⟨j + 1, by omega, by go_num, ?_, ?_, H7.out.2⟩
          · rw [q4, ← q3, show sp.fr + 1 + ((catN (fun i => txt (l i)) j).length + tj) = at0 + tj by omega]; go_num
          · rw [q5, List.length_append, List.map_append, spW_app]
            subst q1 q2 q6
            have := H7.out.1
            rw [← Nat.add_assoc, ← List.append_assoc]
            exact this
        case measure => simp [intOf]; omega
      · obtain rfl : ln = j := by omega
        have hkL : (kids (fun i m => walkT (l i) (here + 1 + m) { fr := sp.fr + 1 + (catN (fun i => txt (l i)) i).length, dep := sp.dep + 1, up := here, nth := i }) ln).length ≤ (catN (fun i => txt (l i)) ln).length := kids_len (fun i m hi => walk_len _ _ _ (HCL.out.2.2.1 i hi))
        have htx := HTX.out
        obtain ⟨aL, haL⟩ : ∃ aL, aL = sp.fr + 1 + (catN (fun i => txt (l i)) ln).length := ⟨_, rfl⟩
        obtain ⟨hL1, hhL⟩ : ∃ hL1, hL1 = here + 1 + (kids (fun i m => walkT (l i) (here + 1 + m) { fr := sp.fr + 1 + (catN (fun i => txt (l i)) i).length, dep := sp.dep + 1, up := here, nth := i }) ln).length := ⟨_, rfl⟩
        obtain ⟨uL, huL⟩ : ∃ uL, uL = us ++ Vi.sp (⟨k, (sp.fr : Nat), (sp.fr : Int) + (tl : Int), (sp.dep : Nat), sp.up, (sp.nth : Nat), sp.key, 0, 0⟩ : Vi) ++ spW ((kids (fun i m => walkT (l i) (here + 1 + m) { fr := sp.fr + 1 + (catN (fun i => txt (l i)) i).length, dep := sp.dep + 1, up := here, nth := i }) ln).map Sp.v) := ⟨_, rfl⟩
        rw [← hhL, ← huL] at HO
        rw [← haL, ← hhL]
        have HEL := Lib.hid (And.intro haL (And.intro hhL huL))
        have HLB : Hid (aL + (catN (fun i => wtx (ky i) ++ txt (dv i)) dn).length ≤ sp.fr + tl ∧ hL1 + (catN (fun i => wtx (ky i) ++ txt (dv i)) dn).length ≤ here + tl ∧ 1 + (catN (fun i => wtx (ky i) ++ txt (dv i)) dn).length ≤ tl) := ⟨by omega, by omega, by omega⟩
        clear hkL htx haL hhL huL HCL
        go_wp2_with fail
        go_loopw [0, 8, 10] (fun lvv av iv wr => ∃ j : Nat, j ≤ dn ∧ iv = .int .i64 j ∧ av = .int .i64 ((aL + (catN (fun i => wtx (ky i) ++ txt (dv i)) j).length : Nat) : Int) ∧ Hid (wr.ownsRow B 37 7 lvv (hL1 + (kids (fun i m => walkT (dv i) (hL1 + m) { fr := aL + (catN (fun i => wtx (ky i) ++ txt (dv i)) i).length + (wtx (ky i)).length, dep := sp.dep + 1, up := here, nth := i, key := ky i }) j).length) (uL ++ spW ((kids (fun i m => walkT (dv i) (hL1 + m) { fr := aL + (catN (fun i => wtx (ky i) ++ txt (dv i)) i).length + (wtx (ky i)).length, dep := sp.dep + 1, up := here, nth := i, key := ky i }) j).map Sp.v)) ∧ NR (.slice la here lc) lvv W4 wr)) (fun _ _ iv _ => dn - (intOf iv).toNat)
        case atStart =>
          refine ⟨0, Nat.zero_le _, rfl, rfl, ?_, HO.out.2⟩
          have := HO.out.1
          simpa [spW, kids] using this
        case round =>
          clear HO v3 v4
          obtain ⟨j, hj, rfl, rfl, HO⟩ := hrel
          obtain ⟨lb, lcc, rfl⟩ := ownForm HO.out.1
          obtain ⟨_, _, _, v3, v4⟩ := (HBX.out _ _ HO.out.2).1.cells
          by_cases hlt : j < dn
          · obtain ⟨id, r6, hvl, hL⟩ := HCD.out
            rcases hL with h | ⟨b, o, rfl, hbB, hb, hL⟩
            · omega
            obtain ⟨x1, y1, hv, hk0, hf⟩ := hL j hlt
            obtain ⟨⟨xa1, xn1, xc1, rfl⟩, ⟨ya1, yn1, yc1, rfl⟩⟩ := hv.slices
            have HFV : Hid (∀ wr, Below B w wr → wr.cell? ⟨b, o + j * 6, none⟩ = some (.string (ky j)) ∧ five wr b (o + j * 6 + 1) (dv j) (.slice xa1 xn1 xc1) (.slice ya1 yn1 yc1) ∧ RV (fun k => k < B) wr (dv j) (.slice xa1 xn1 xc1) (.slice ya1 yn1 yc1)) := by
              refine Lib.hid (fun wr hw => ?_)
              obtain ⟨f0, f1, f2, f3, f4⟩ := hf
              have hk := hw.block b hbB
              exact ⟨(World.cell?_of_block (w := w) hk).trans hk0, ⟨(World.cell?_of_block (w := w) hk).trans f0, (World.cell?_of_block (w := w) hk).trans f1, (World.cell?_of_block (w := w) hk).trans f2, (World.cell?_of_block (w := w) hk).trans f3, (World.cell?_of_block (w := w) hk).trans f4⟩, RV.keep (fun _ h => h) hw.size (fun x hx _ => hw.block x hx) _ _ _ hv⟩
            have hle : (catN (fun i => wtx (ky i) ++ txt (dv i)) j).length + (wtx (ky j) ++ txt (dv j)).length ≤ (catN (fun i => wtx (ky i) ++ txt (dv i)) dn).length := catN_le (f := fun i => wtx (ky i) ++ txt (dv i)) hlt
            have hl2 : (wtx (ky j) ++ txt (dv j)).length = (wtx (ky j)).length + (txt (dv j)).length := List.length_append
            have hkl : (kids (fun i m => walkT (dv i) (hL1 + m) { fr := aL + (catN (fun i => wtx (ky i) ++ txt (dv i)) i).length + (wtx (ky i)).length, dep := sp.dep + 1, up := here, nth := i, key := ky i }) j).length ≤ (catN (fun i => wtx (ky i) ++ txt (dv i)) j).length := kids_len (c := fun i => wtx (ky i) ++ txt (dv i)) (fun i m hi => by
              have := walk_len (dv i) (hL1 + m) { fr := aL + (catN (fun i => wtx (ky i) ++ txt (dv i)) i).length + (wtx (ky i)).length, dep := sp.dep + 1, up := here, nth := i, key := ky i } (hvl i (by omega))
              rw [List.length_append]
              omega)
            have hks : (ky j).size ≤ 1048576 := by have := wtx_size (ky j); have := HLB.out; omega
            have hlb := HLB.out
            obtain ⟨b1, b2, b3, b4⟩ := HBX.out _ _ HO.out.2
            have HE2 : Hid ((catN (fun i => wtx (ky i) ++ txt (dv i)) (j + 1)).length = (catN (fun i => wtx (ky i) ++ txt (dv i)) j).length + ((wtx (ky j)).length + (txt (dv j)).length) ∧ kids (fun i m => walkT (dv i) (hL1 + m) { fr := aL + (catN (fun i => wtx (ky i) ++ txt (dv i)) i).length + (wtx (ky i)).length, dep := sp.dep + 1, up := here, nth := i, key := ky i }) (j + 1) = kids (fun i m => walkT (dv i) (hL1 + m) { fr := aL + (catN (fun i => wtx (ky i) ++ txt (dv i)) i).length + (wtx (ky i)).length, dep := sp.dep + 1, up := here, nth := i, key := ky i }) j ++ walkT (dv j) (hL1 + (kids (fun i m => walkT (dv i) (hL1 + m) { fr := aL + (catN (fun i => wtx (ky i) ++ txt (dv i)) i).length + (wtx (ky i)).length, dep := sp.dep + 1, up := here, nth := i, key := ky i }) j).length) { fr := aL + (catN (fun i => wtx (ky i) ++ txt (dv i)) j).length + (wtx (ky j)).length, dep := sp.dep + 1, up := here, nth := j, key := ky j }) := ⟨List.length_append.trans (by rw [hl2]), rfl⟩
            have HZJ : Hid (∀ wz, Below B w wz → Calls Tryd.prog 93 #[.agg #[.int .i64 (dv j).k, .int .i64 (dv j).n, .string (dv j).s, .slice xa1 xn1 xc1, .slice ya1 yn1 yc1]] wz fun e w' => e = .returned (.int .i64 (txt (dv j)).length) ∧ Below wz.heap.size wz w') := by
              refine Lib.hid (fun wz hw => ?_)
              exact size45 (dv j) _ _ wz (RV.keep (fun _ _ => trivial) (Nat.le_refl _) (fun _ _ _ => rfl) _ _ _ (HFV.out wz hw).2.2) (r6 j hlt) (hvl j hlt) (tb_up (HT.out.1.on hw) (by have := HT.out.2; have := HVS.out.1; have := hw.size; omega)) (by omega)
            have HST := Lib.hid (strSize46 (ky j) wr (tb_up (HT.out.1.on b3) (by have := HT.out.2; have := HVS.out.1; have := b3.size; omega)) hks)
            have HXX := Lib.hid (fun (wz : World) (hw : Below B w wz) (ho : wz.ownsRow B 37 7 (.slice lb (hL1 + (kids (fun i m => walkT (dv i) (hL1 + m) { fr := aL + (catN (fun i => wtx (ky i) ++ txt (dv i)) i).length + (wtx (ky i)).length, dep := sp.dep + 1, up := here, nth := i, key := ky i }) j).length) lcc) (hL1 + (kids (fun i m => walkT (dv i) (hL1 + m) { fr := aL + (catN (fun i => wtx (ky i) ++ txt (dv i)) i).length + (wtx (ky i)).length, dep := sp.dep + 1, up := here, nth := i, key := ky i }) j).length) (uL ++ spW ((kids (fun i m => walkT (dv i) (hL1 + m) { fr := aL + (catN (fun i => wtx (ky i) ++ txt (dv i)) i).length + (wtx (ky i)).length, dep := sp.dep + 1, up := here, nth := i, key := ky i }) j).map Sp.v))) => (id j (.slice xa1 xn1 xc1) (.slice ya1 yn1 yc1) wz.drew B (hL1 + (kids (fun i m => walkT (dv i) (hL1 + m) { fr := aL + (catN (fun i => wtx (ky i) ++ txt (dv i)) i).length + (wtx (ky i)).length, dep := sp.dep + 1, up := here, nth := i, key := ky i }) j).length) _ _ { fr := aL + (catN (fun i => wtx (ky i) ++ txt (dv i)) j).length + (wtx (ky j)).length, dep := sp.dep + 1, up := here, nth := j, key := ky j } (HFV.out wz.drew hw.drew).2.2 (r6 j hlt) (hvl j hlt) (HT.out.1.on hw.drew) (by show aL + _ + _ + _ ≤ _; omega) (by show sp.dep + 1 + _ ≤ _; omega) (by omega) ho (by have := HT.out.2; have := HVS.out.1; have := hw.size; show B ≤ wz.heap.size; omega)))
            have HO2 := Lib.hid (And.intro HO.out.1 HO.out.2)
            obtain ⟨at0, hat⟩ : ∃ at0, at0 = aL + (catN (fun i => wtx (ky i) ++ txt (dv i)) j).length := ⟨_, rfl⟩
            obtain ⟨hr, hhr⟩ : ∃ hr, hr = hL1 + (kids (fun i m => walkT (dv i) (hL1 + m) { fr := aL + (catN (fun i => wtx (ky i) ++ txt (dv i)) i).length + (wtx (ky i)).length, dep := sp.dep + 1, up := here, nth := i, key := ky i }) j).length := ⟨_, rfl⟩
            obtain ⟨tj, htj⟩ : ∃ tj, tj = (txt (dv j)).length := ⟨_, rfl⟩
            obtain ⟨kl, hkll⟩ : ∃ kl, kl = (wtx (ky j)).length := ⟨_, rfl⟩
            obtain ⟨atk, hatk⟩ : ∃ atk, atk = at0 + kl := ⟨_, rfl⟩
            have a0 : at0 + kl + tj ≤ 1048576 := by omega
            rw [← hhr, ← hat, ← hkll, ← hatk] at HXX
            rw [← hat, ← hhr]
            rw [← hhr] at HO2
            rw [← htj] at HZJ
            rw [← hkll] at HST
            have HEQ := Lib.hid (And.intro hat (And.intro hhr (And.intro htj (And.intro hkll hatk))))
            have j0 : (0 : Int) ≤ (j : Int) := by omega
            have j1 : (j : Int) < (dn : Int) := by omega
            have g0 : obj wr vb (.int .i64 k) (.int .i64 n) (.string s) (.slice a ln ca) (.slice (some ⟨b, o, none⟩) dn ca') := b1
            obtain ⟨gk, _⟩ := HFV.out wr b3
            clear id r6 hvl hL hv hf hle hkl hlb b1 b2 b3 b4 HO hat hhr htj hk0 hl2 hks hkll
            go_wp2_with fail
            refine HST.out.mono ?_
            rintro e w3 ⟨rfl, hb3⟩
            have H3 : Hid (w3.ownsRow B 37 7 (.slice lb hr lcc) hr _ ∧ NR (.slice la here lc) (.slice lb hr lcc) W4 w3) := ⟨own_keep HO2.out.1 (fun x _ hx => hb3.block x hx), HO2.out.2.trans (NR.of_below hb3)⟩
            obtain ⟨d1, d2, d3, d4⟩ := HBX.out _ _ H3.out.2
            clear g0 gk v3 v4
            have g0 : obj w3 vb (.int .i64 k) (.int .i64 n) (.string s) (.slice a ln ca) (.slice (some ⟨b, o, none⟩) dn ca') := d1
            have g1 : w3.cell? ⟨sb, 3, none⟩ = some (.int .i64 (sp.dep : Nat)) := d2.cell 3
            obtain ⟨g2, g3, _⟩ := HFV.out w3 d3
            have HX := Lib.hid (HXX.out w3 d3 H3.out.1)
            clear hb3 HO2 HST HXX d1 d2 d3 d4
            go_wp2_with fail
            rw [show ((at0 : Int) + (kl : Int)) = ((atk : Nat) : Int) by omega]
            have a1 : atk + tj ≤ 1048576 := by omega
            clear hatk a0
            refine wp_region_held_drew (S := fun w' => obj w' vb (.int .i64 k) (.int .i64 n) (.string s) (.slice a ln ca) (.slice (some ⟨b, o, none⟩) dn ca') ∧ w'.cell? ⟨sb, 3, none⟩ = some (.int .i64 (sp.dep : Nat)) ∧ w'.cell? ⟨b, o + j * 6, none⟩ = some (.string (ky j)) ∧ five w' b (o + j * 6 + 1) (dv j) (.slice xa1 xn1 xc1) (.slice ya1 yn1 yc1)) (by kernel_rfl) (⟨g0, g1, g2, g3⟩) (fun hHeld => ?_)
            refine wpAnyH_take (i := 0) (v := .slice lb hr lcc) rfl (by kernel_rfl) (by kernel_rfl) (by kernel_rfl) (fun _ _ _ h => h) (Or.inl ⟨by rfl, fun w hw => by go_simp⟩) hHeld ?_
            simp only [Act.put, List.getElem_toArray, List.getElem_cons_zero, List.setIfInBounds_toArray, List.set_cons_zero, List.set_cons_succ]
            refine wpAnyH_take (i := 1) (v := .pointer (some ⟨vb, 4, none⟩)) rfl (by kernel_rfl) (by kernel_rfl) (by kernel_rfl) (fun _ _ _ h => h) (Or.inl ⟨by rfl, fun w hw => by go_simp⟩) hHeld ?_
            simp only [Act.put, List.getElem_toArray, List.getElem_cons_zero, List.getElem_cons_succ, List.setIfInBounds_toArray, List.set_cons_zero, List.set_cons_succ]
            refine wpAnyH_take (i := 2) (v := .slice (some ⟨b, o, none⟩) dn ca') rfl (by kernel_rfl) (by kernel_rfl) (by kernel_rfl) (fun _ _ _ h => h) (Or.inl ⟨by rfl, fun w hw => by obtain ⟨c0, c1, c2, c3, c4⟩ := hw.1.cells; go_simp⟩) hHeld ?_
            simp only [Act.put, List.getElem_toArray, List.getElem_cons_zero, List.getElem_cons_succ, List.setIfInBounds_toArray, List.set_cons_zero, List.set_cons_succ]
            refine wpAnyH_take (i := 3) (v := .int .i64 j) rfl (by kernel_rfl) (by kernel_rfl) (by kernel_rfl) (fun _ _ _ h => h) (Or.inl ⟨by rfl, fun w hw => by go_simp⟩) hHeld ?_
            simp only [Act.put, List.getElem_toArray, List.getElem_cons_zero, List.getElem_cons_succ, List.setIfInBounds_toArray, List.set_cons_zero, List.set_cons_succ]
            refine wpAnyH_take (i := 4) (v := .pointer (some ⟨b, o + j * 6, none⟩)) rfl (by kernel_rfl) (by kernel_rfl) (by kernel_rfl) (fun _ _ _ h => h) (Or.inl ⟨by rfl, fun w hw => by go_simp⟩) hHeld ?_
            simp only [Act.put, List.getElem_toArray, List.getElem_cons_zero, List.getElem_cons_succ, List.setIfInBounds_toArray, List.set_cons_zero, List.set_cons_succ]
            refine wpAnyH_take (i := 5) (v := .pointer (some ⟨b, o + j * 6 + 1, none⟩)) rfl (by kernel_rfl) (by kernel_rfl) (by kernel_rfl) (fun _ _ _ h => h) (Or.inl ⟨by rfl, fun w hw => by go_simp⟩) hHeld ?_
            simp only [Act.put, List.getElem_toArray, List.getElem_cons_zero, List.getElem_cons_succ, List.setIfInBounds_toArray, List.set_cons_zero, List.set_cons_succ]
            refine wpAnyH_take (i := 6) (v := .agg #[.int .i64 (dv j).k, .int .i64 (dv j).n, .string (dv j).s, .slice xa1 xn1 xc1, .slice ya1 yn1 yc1]) rfl (by kernel_rfl) (by kernel_rfl) (by kernel_rfl) (fun _ _ _ h => h) (Or.inl ⟨by rfl, fun w hw => by obtain ⟨c0, c1, c2, c3, c4⟩ := hw.2.2.2; go_simp⟩) hHeld ?_
            simp only [Act.put, List.getElem_toArray, List.getElem_cons_zero, List.getElem_cons_succ, List.setIfInBounds_toArray, List.set_cons_zero, List.set_cons_succ]
            refine wpAnyH_take (i := 7) (v := .int .i64 (atk : Nat)) rfl (by kernel_rfl) (by kernel_rfl) (by kernel_rfl) (fun _ _ _ h => h) (Or.inl ⟨by rfl, fun w hw => by go_simp⟩) hHeld ?_
            simp only [Act.put, List.getElem_toArray, List.getElem_cons_zero, List.getElem_cons_succ, List.setIfInBounds_toArray, List.set_cons_zero, List.set_cons_succ]
            refine wpAnyH_take (i := 8) (v := .pointer (some ⟨sb, 3, none⟩)) rfl (by kernel_rfl) (by kernel_rfl) (by kernel_rfl) (fun _ _ _ h => h) (Or.inl ⟨by rfl, fun w hw => by go_simp⟩) hHeld ?_
            simp only [Act.put, List.getElem_toArray, List.getElem_cons_zero, List.getElem_cons_succ, List.setIfInBounds_toArray, List.set_cons_zero, List.set_cons_succ]
            refine wpAnyH_take (i := 9) (v := .int .i64 (sp.dep : Nat)) rfl (by kernel_rfl) (by kernel_rfl) (by kernel_rfl) (fun _ _ _ h => h) (Or.inl ⟨by rfl, fun w hw => by have c := hw.2.1; go_simp⟩) hHeld ?_
            simp only [Act.put, List.getElem_toArray, List.getElem_cons_zero, List.getElem_cons_succ, List.setIfInBounds_toArray, List.set_cons_zero, List.set_cons_succ]
            refine wpAnyH_take (i := 10) (v := .int .i64 ((sp.dep + 1 : Nat) : Int)) rfl (by kernel_rfl) (by kernel_rfl) (by kernel_rfl) (fun _ _ _ h => h) (Or.inl ⟨by rfl, fun w hw => by go_simp; exact IntWalk.i64_in _ ⟨by omega, by omega⟩⟩) hHeld ?_
            simp only [Act.put, List.getElem_toArray, List.getElem_cons_zero, List.getElem_cons_succ, List.setIfInBounds_toArray, List.set_cons_zero, List.set_cons_succ]
            refine wpAnyH_take (i := 11) (v := .int .i64 (here : Nat)) rfl (by kernel_rfl) (by kernel_rfl) (by kernel_rfl) (fun _ _ _ h => h) (Or.inl ⟨by rfl, fun w hw => by go_simp⟩) hHeld ?_
            simp only [Act.put, List.getElem_toArray, List.getElem_cons_zero, List.getElem_cons_succ, List.setIfInBounds_toArray, List.set_cons_zero, List.set_cons_succ]
            refine wpAnyH_take (i := 12) (v := .int .i64 j) rfl (by kernel_rfl) (by kernel_rfl) (by kernel_rfl) (fun _ _ _ h => h) (Or.inl ⟨by rfl, fun w hw => by go_simp⟩) hHeld ?_
            simp only [Act.put, List.getElem_toArray, List.getElem_cons_zero, List.getElem_cons_succ, List.setIfInBounds_toArray, List.set_cons_zero, List.set_cons_succ]
            refine wpAnyH_take (i := 13) (v := .pointer (some ⟨vb, 4, none⟩)) rfl (by kernel_rfl) (by kernel_rfl) (by kernel_rfl) (fun _ _ _ h => h) (Or.inl ⟨by rfl, fun w hw => by go_simp⟩) hHeld ?_
            simp only [Act.put, List.getElem_toArray, List.getElem_cons_zero, List.getElem_cons_succ, List.setIfInBounds_toArray, List.set_cons_zero, List.set_cons_succ]
            refine wpAnyH_take (i := 14) (v := .slice (some ⟨b, o, none⟩) dn ca') rfl (by kernel_rfl) (by kernel_rfl) (by kernel_rfl) (fun _ _ _ h => h) (Or.inl ⟨by rfl, fun w hw => by obtain ⟨c0, c1, c2, c3, c4⟩ := hw.1.cells; go_simp⟩) hHeld ?_
            simp only [Act.put, List.getElem_toArray, List.getElem_cons_zero, List.getElem_cons_succ, List.setIfInBounds_toArray, List.set_cons_zero, List.set_cons_succ]
            refine wpAnyH_take (i := 15) (v := .int .i64 j) rfl (by kernel_rfl) (by kernel_rfl) (by kernel_rfl) (fun _ _ _ h => h) (Or.inl ⟨by rfl, fun w hw => by go_simp⟩) hHeld ?_
            simp only [Act.put, List.getElem_toArray, List.getElem_cons_zero, List.getElem_cons_succ, List.setIfInBounds_toArray, List.set_cons_zero, List.set_cons_succ]
            refine wpAnyH_take (i := 16) (v := .pointer (some ⟨b, o + j * 6, none⟩)) rfl (by kernel_rfl) (by kernel_rfl) (by kernel_rfl) (fun _ _ _ h => h) (Or.inl ⟨by rfl, fun w hw => by go_simp⟩) hHeld ?_
            simp only [Act.put, List.getElem_toArray, List.getElem_cons_zero, List.getElem_cons_succ, List.setIfInBounds_toArray, List.set_cons_zero, List.set_cons_succ]
            refine wpAnyH_take (i := 17) (v := .pointer (some ⟨b, o + j * 6, none⟩)) rfl (by kernel_rfl) (by kernel_rfl) (by kernel_rfl) (fun _ _ _ h => h) (Or.inl ⟨by rfl, fun w hw => by go_simp⟩) hHeld ?_
            simp only [Act.put, List.getElem_toArray, List.getElem_cons_zero, List.getElem_cons_succ, List.setIfInBounds_toArray, List.set_cons_zero, List.set_cons_succ]
            refine wpAnyH_take (i := 18) (v := .string (ky j)) rfl (by kernel_rfl) (by kernel_rfl) (by kernel_rfl) (fun _ _ _ h => h) (Or.inl ⟨by rfl, fun w hw => by have c := hw.2.2.1; go_simp⟩) hHeld ?_
            simp only [Act.put, List.getElem_toArray, List.getElem_cons_zero, List.getElem_cons_succ, List.setIfInBounds_toArray, List.set_cons_zero, List.set_cons_succ]
            refine wpAnyH_take (i := 19) (v := .agg #[.int .i64 0, .int .i64 (atk : Nat), .int .i64 0, .int .i64 ((sp.dep + 1 : Nat) : Int), .int .i64 (here : Nat), .int .i64 j, .string (ky j)]) rfl (by kernel_rfl) (by kernel_rfl) (by kernel_rfl) (fun _ _ _ h => h) (yieldsIf_build (by rfl) 37 _ rfl _ (by rw [Array.toList_map]; exact built45k _ _ _ _ _)) hHeld ?_
            simp only [Act.put, List.getElem_toArray, List.getElem_cons_zero, List.getElem_cons_succ, List.setIfInBounds_toArray, List.set_cons_zero, List.set_cons_succ]
            refine wpAnyH_ready (rs := [20]) (by kernel_rfl) (by simp) ?_
            refine AllReadyH.cons (o := _) rfl (fun K hK => ?_) AllReadyH.nil
            go_simp
            refine (HX.out).mono ?_
            rintro e w' ⟨lv6, rfl, ho6, hn6⟩
            obtain ⟨lb6, lc6, rfl⟩ := ownForm ho6
            have H6 : Hid (w'.ownsRow B 37 7 _ _ _ ∧ NR (.slice la here lc) (.slice lb6 _ lc6) W4 w') := ⟨ho6, H3.out.2.trans ⟨hn6.os, hn6.tape, hn6.output, hn6.size, hn6.block, hn6.own⟩⟩
            obtain ⟨d1, d2, d3, d4⟩ := HBX.out _ _ H6.out.2
            have e5 := HFV.out w' d3
            clear ho6 hn6
            go_wp2_with fail
            refine hK.out _ _ (⟨d1, d2.cell 3, e5.1, e5.2.1⟩) (fun hHeld => ?_)
            clear hK K
            refine wpAnyH_ready (rs := [21]) (by kernel_rfl) (by simp) ?_
            refine AllReadyH.cons (o := _) rfl (fun K hK => ?_) AllReadyH.nil
            go_simp
            refine hK.out _ _ hHeld (fun hHeld => ?_)
            clear hK K
            refine wpAnyH_done (by kernel_rfl) ?_ _
            obtain ⟨hr2, hhr2⟩ : ∃ hr2, hr2 = hr + (walkT (dv j) hr { fr := atk, dep := sp.dep + 1, up := here, nth := j, key := ky j }).length := ⟨_, rfl⟩
            rw [← hhr2] at H6 ⊢
            have HR2 := Lib.hid hhr2
            have HZ7 := Lib.hid (HZJ.out w' d3)
            obtain ⟨_, _, _, v3, v4⟩ := d1.cells
            obtain ⟨f0, f1, f2, f3, f4⟩ := e5.2.1
            clear hHeld d1 d2 d3 d4 g0 g1 g2 g3 hhr2 HX e5
            go_wp2_with fail
            refine HZ7.out.mono ?_
            rintro e w7 ⟨rfl, hb7⟩
            have H7 : Hid (w7.ownsRow B 37 7 (.slice lb6 hr2 lc6) hr2 _ ∧ NR (.slice la here lc) (.slice lb6 hr2 lc6) W4 w7) := ⟨own_keep H6.out.1 (fun x _ hx => hb7.block x hx), H6.out.2.trans (NR.of_below hb7)⟩
            clear hb7 H6 f0 f1 f2 f3 f4 v3 v4 HZ7
            go_wp2
            go_roundw
            case rel =>
              obtain ⟨q1, q2, q3, q7, q8⟩ := HEQ.out
              obtain ⟨q4, q5⟩ := HE2.out
              have q6 := HR2.out
              refine ⟨j + 1, by omega, by go_num, ?_, ?_, H7.out.2⟩
              · rw [q4, ← q3, ← q7, show aL + ((catN (fun i => wtx (ky i) ++ txt (dv i)) j).length + (kl + tj)) = atk + tj by omega]; go_num
              · rw [q5, List.length_append, List.map_append, spW_app]
                subst q1 q2 q7 q8 q6
                have := H7.out.1
                rw [← Nat.add_assoc, ← List.append_assoc]
                exact this
            case measure => simp [intOf]; omega
          · obtain rfl : dn = j := by omega
            have HP := Lib.hid (And.intro HO.out.1 (HBX.out _ _ HO.out.2).2.2.2)
            clear HO
            obtain ⟨at0, hat⟩ : ∃ at0, at0 = aL + (catN (fun i => wtx (ky i) ++ txt (dv i)) dn).length := ⟨_, rfl⟩
            rw [← hat]
            clear hat
            go_wp2
            go_ret
            refine ⟨_, rfl, ?_, HP.out.2⟩
            obtain ⟨q1, q2, q3⟩ := HEL.out
            have hw : walkT (.mk k n s ln l dn ky dv) here sp = { sp with kind := k, to := sp.fr + tl } :: (kids (fun i m => walkT (l i) (here + 1 + m) { fr := sp.fr + 1 + (catN (fun i => txt (l i)) i).length, dep := sp.dep + 1, up := here, nth := i }) ln ++ kids (fun i m => walkT (dv i) (hL1 + m) { fr := aL + (catN (fun i => wtx (ky i) ++ txt (dv i)) i).length + (wtx (ky i)).length, dep := sp.dep + 1, up := here, nth := i, key := ky i }) dn) := by
              rw [q1, q2, ← HTL.out]; rfl
            have hov : Sp.v { sp with kind := k, to := sp.fr + tl } = (⟨k, (sp.fr : Nat), (sp.fr : Int) + (tl : Int), (sp.dep : Nat), sp.up, (sp.nth : Nat), sp.key, 0, 0⟩ : Vi) := rfl
            rw [hw, List.length_cons, List.length_append, List.map_cons, List.map_append, hov]
            have := HP.out.1
            rw [q3] at this
            have e2 : ∀ (x : Vi) (A B : List Vi), us ++ spW (x :: (A ++ B)) = us ++ Vi.sp x ++ spW A ++ spW B := fun x A B => by unfold spW; simp
            rw [e2]
            refine Eq.mp (congrArg (fun m => World.ownsRow _ B 37 7 _ m _) ?_) this
            omega
end Go.Proofs.YtdlnnnlmlaploabDoor
