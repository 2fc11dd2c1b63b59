import Derived.Test.YtdlnnnlmlaploaaDoorSF
namespace Go.Proofs.YtdlnnnlmlaploaaDoor
open Go.RowKit Go.Deep
/-! ### Skim's visitor -/
/-- a span's cells -/
def Vi.sp (v : Vi) : List Value := [.int .i64 v.kd, .int .i64 v.fr, .int .i64 v.to, .int .i64 v.dp, .int .i64 v.up, .int .i64 v.nt, .string v.ky]
def spW (l : List Vi) : List Value := (l.map Vi.sp).flatten
theorem spW_len (l : List Vi) : (spW l).length = l.length * 7 := by
  induction l with
  | nil => rfl
  | cons v l ih =>
    show (v.sp ++ spW l).length = _
    rw [List.length_append, ih, List.length_cons]
    show 7 + _ = _
    omega
theorem spW_snoc (l : List Vi) (v : Vi) : spW (l ++ [v]) = spW l ++ v.sp := by unfold spW; simp
theorem spW_at : ∀ (l : List Vi) (k j : Nat) (v : Vi), l[k]? = some v → j < 7 → (spW l)[k * 7 + j]? = v.sp[j]?
  | [], k, j, v, h, _ => by simp at h
  | x :: l, 0, j, v, h, hj => by
    simp at h; subst h
    show (x.sp ++ spW l)[0 * 7 + j]? = _
    rw [Nat.zero_mul, Nat.zero_add, List.getElem?_append_left (by show j < 7; exact hj)]
  | x :: l, k + 1, j, v, h, hj => by
    show (x.sp ++ spW l)[(k + 1) * 7 + j]? = _
    rw [List.getElem?_append_right (by show 7 ≤ _; omega)]
    have e : (k + 1) * 7 + j - x.sp.length = k * 7 + j := by show (k + 1) * 7 + j - 7 = _; omega
    rw [e]
    exact spW_at l k j v (by simpa using h) hj
theorem spW_set : ∀ (l : List Vi) (k : Nat) (t : Int), k < l.length → (spW l).set (k * 7 + 2) (.int .i64 t) = spW (l.modify k fun x => { x with to := t })
  | [], k, t, h => by simp at h
  | x :: l, 0, t, _ => rfl
  | x :: l, k + 1, t, h => by
    show (x.sp ++ spW l).set ((k + 1) * 7 + 2) _ = x.sp ++ spW (l.modify k _)
    rw [List.set_append_right _ _ (by show 7 ≤ _; omega)]
    have e : (k + 1) * 7 + 2 - x.sp.length = k * 7 + 2 := by show (k + 1) * 7 + 2 - 7 = _; omega
    rw [e, spW_set l k t (by simpa using h)]
/-- the spans, one value more having been shown -/
def skStep (l : List Vi) (v : Vi) : List Vi := (if v.pl = (l.length : Int) then l ++ [v] else l).modify v.pl.toNat fun x => { x with to := v.to }
def sk (h : List Vi) : List Vi := h.foldl skStep []
theorem sk_snoc (h : List Vi) (v : Vi) : sk (h ++ [v]) = skStep (sk h) v := by unfold sk; rw [List.foldl_append]; rfl
theorem info45 : (Tryd.prog.info? 45).map (fun i => (i.zero, i.size, i.bytes)) = some (some (.agg #[.int .i64 0, .int .i64 0, .int .i64 0, .int .i64 0, .int .i64 0, .int .i64 0, .string ByteArray.empty]), 7, 64) := by kernel_rfl
/-- one span more on the row -/
theorem append_span {ops : Array Oper} {rest : List Oper} {o : Oper} {a : Act} {Q : Exit → Act → World → Prop} {w : World} {B k : Nat} {sv : Value} {us : List Value} (hgd : o.guard = none) (s x : Operand)
    (ho : o.op = .call { callee := .builtin .append, args := #[s, x], argTypes := #[37, 37] }) (hs : a.eval s = sv) (hown : w.ownsRow B 45 7 sv k us) (g : Nat) (v : Vi) (hx : a.eval x = .slice (some ⟨g, 0, none⟩) 1 1)
    (hc : w.heap[g]? = some (.cells v.sp.toArray 45 (0, 0))) (hB : B ≤ w.heap.size) (hlim : k ≤ 1048577)
    (h : ∀ v' w', w'.ownsRow B 45 7 v' (k + 1) (us ++ v.sp) → w.grownBy w' sv.ownBlock → (v'.ownBlock = sv.ownBlock ∨ v'.ownBlock = some w.heap.size) → wpList Tryd.prog ops Q rest (a.put o.dst v') w') : wpList Tryd.prog ops Q (o :: rest) a w := by
  obtain ⟨i0, hi, hz0, hz1, hz2⟩ := info_parts info45
  refine wpList_append_own_at w hgd s x 37 ho B 45 i0 _ 7 64 Tryd.underlying37 hi hz0 hz1 hz2 rfl (by omega) sv k us hs hown ⟨g, 0, none⟩ 1 1 v.sp hx rfl (fun j u hu => ?_) (fun u hu => ?_) (by unfold maxLen; omega) (by omega) hB (fun v' w' h1 h2 _ h4 => h v' w' h1 h2 h4)
  · have hadd : (⟨g, 0, none⟩ : Addr).add j = ⟨g, j, none⟩ := by unfold Addr.add; split <;> simp_all
    rw [hadd, cell_of_row w g j _ 45 (0, 0) hc, List.getElem?_toArray]
    exact hu
  · unfold Vi.sp at hu
    simp at hu
    rcases hu with rfl | rfl | rfl | rfl | rfl | rfl | rfl <;> rfl
theorem own_some {w : World} {B e s k : Nat} {v : Value} {us : List Value} (h : w.ownsRow B e s v (k + 1) us) : ∃ g c, v = .slice (some ⟨g, 0, none⟩) (k + 1) c := by
  rcases h.2 with ⟨_, e⟩ | ⟨g, cap, cur, rfl, _⟩
  · omega
  · exact ⟨g, cap, rfl⟩
/-- behind the append -/
theorem Skx {w w3 : World} {Bs B g4 c4 sc : Nat} {sa : Option Addr} {v : Vi} {l : List Vi} (hBs : Bs < B) (ho : w.ownsRow B 45 7 (.slice sa l.length sc) l.length (spW l)) (hb : blk w Bs 37 #[.slice sa l.length sc])
    (ho' : w3.ownsRow B 45 7 (.slice (some ⟨g4, 0, none⟩) (l.length + 1) c4) (l.length + 1) (spW l ++ v.sp)) (hg : ((w.alloc (Obj.cells (Vi.cs v) 47)).alloc (Obj.cells v.sp.toArray 45)).grownBy w3 (Value.slice sa l.length sc).ownBlock)
    (_ha : (Value.slice (some ⟨g4, 0, none⟩) (l.length + 1) c4).ownBlock = (Value.slice sa l.length sc).ownBlock ∨ (Value.slice (some ⟨g4, 0, none⟩) (l.length + 1) c4).ownBlock = some ((w.alloc (Obj.cells (Vi.cs v) 47)).alloc (Obj.cells v.sp.toArray 45)).heap.size) :
    w3.cell? ⟨Bs, 0, none⟩ = some (.slice sa l.length sc) ∧ w3.frozen? ⟨Bs, 0, none⟩ = false ∧
    (w3.setCell ⟨Bs, 0, none⟩ (.slice (some ⟨g4, 0, none⟩) (l.length + 1) c4)).cell? ⟨Bs, 0, none⟩ = some (.slice (some ⟨g4, 0, none⟩) (l.length + 1) c4) ∧
    (w3.setCell ⟨Bs, 0, none⟩ (.slice (some ⟨g4, 0, none⟩) (l.length + 1) c4)).cell? ⟨w.heap.size, 7, none⟩ = some (.int .i64 v.pl) ∧
    (w3.setCell ⟨Bs, 0, none⟩ (.slice (some ⟨g4, 0, none⟩) (l.length + 1) c4)).cell? ⟨w.heap.size, 2, none⟩ = some (.int .i64 v.to) ∧
    (w3.setCell ⟨Bs, 0, none⟩ (.slice (some ⟨g4, 0, none⟩) (l.length + 1) c4)).cell? ⟨g4, l.length * 7 + 2, none⟩ = some (.int .i64 v.to) ∧
    (w3.setCell ⟨Bs, 0, none⟩ (.slice (some ⟨g4, 0, none⟩) (l.length + 1) c4)).frozen? ⟨g4, l.length * 7 + 2, none⟩ = false := by
  have hlt := hb.lt
  have own1 : ∀ x, (Value.slice sa l.length sc).ownBlock = some x → B ≤ x ∧ x < w.heap.size := fun x hx => own_lt ho hx
  have b0 : Below w.heap.size w (w.alloc (Obj.cells (Vi.cs v) 47)) := (Below.refl _ _).alloc (Nat.le_refl _) _
  have b1 : Below (w.alloc (Obj.cells (Vi.cs v) 47)).heap.size (w.alloc (Obj.cells (Vi.cs v) 47)) ((w.alloc (Obj.cells (Vi.cs v) 47)).alloc (Obj.cells v.sp.toArray 45)) := (Below.refl _ _).alloc (Nat.le_refl _) _
  have hs1 : (w.alloc (Obj.cells (Vi.cs v) 47)).heap.size = w.heap.size + 1 := by simp
  have hs2 : ((w.alloc (Obj.cells (Vi.cs v) 47)).alloc (Obj.cells v.sp.toArray 45)).heap.size = w.heap.size + 2 := by simp
  have hB3 : blk w3 Bs 37 #[.slice sa l.length sc] := ((hb.keep (b0.block _ hlt)).keep (b1.block _ (by omega))).keep (hg.block _ (by omega) (fun e => by have := own1 Bs e.symm; omega))
  have hP : blk w3 w.heap.size 47 (Vi.cs v) := by
    have e0 : blk (w.alloc (Obj.cells (Vi.cs v) 47)) w.heap.size 47 (Vi.cs v) := heap_new w _
    exact (e0.keep (b1.block _ (by omega))).keep (hg.block _ (by omega) (fun e => by have := own1 _ e.symm; omega))
  have hg4 := own_lt ho' (g := g4) rfl
  have hP4 : blk (w3.setCell ⟨Bs, 0, none⟩ (.slice (some ⟨g4, 0, none⟩) (l.length + 1) c4)) w.heap.size 47 (Vi.cs v) := hP.keep (Below.heap_setCell _ _ _ _ (show w.heap.size ≠ Bs by omega))
  have ho4 := ownsRow_setCell_below ho' (a := ⟨Bs, 0, none⟩) hBs (.slice (some ⟨g4, 0, none⟩) (l.length + 1) c4)
  refine ⟨hB3.cell 0, hB3.frozen 0, (hB3.set 0 _).cell 0, hP4.cell 7, hP4.cell 2, ?_, ?_⟩
  · obtain ⟨_, -, hcell⟩ := own_form ho4 (g := g4) rfl
    refine hcell _ _ ?_
    rw [List.getElem?_append_right (by rw [spW_len]; omega), spW_len, show l.length * 7 + 2 - l.length * 7 = 2 by omega]
    rfl
  · obtain ⟨cs', h5⟩ : ∃ cs, (w3.setCell ⟨Bs, 0, none⟩ (.slice (some ⟨g4, 0, none⟩) (l.length + 1) c4)).heap[g4]? = some (Obj.cells cs 45 (0, 0)) := by
      rcases ho4.2 with ⟨e, _⟩ | ⟨g, cap, cur, e, h2, h3, _⟩
      · cases e
      · injection e with e1 e2 e3; injection e1 with e1; injection e1 with e1; subst e1; exact ⟨_, h3⟩
    simp [World.frozen?, h5]
theorem SkA {w w3 : World} {Bs B g4 c4 sc : Nat} {sa : Option Addr} {v : Vi} {l : List Vi} (hBs : Bs < B) (c1 : v.pl = (l.length : Int)) (ho : w.ownsRow B 45 7 (.slice sa l.length sc) l.length (spW l)) (hb : blk w Bs 37 #[.slice sa l.length sc])
    (ho' : w3.ownsRow B 45 7 (.slice (some ⟨g4, 0, none⟩) (l.length + 1) c4) (l.length + 1) (spW l ++ v.sp)) (hg : ((w.alloc (Obj.cells (Vi.cs v) 47)).alloc (Obj.cells v.sp.toArray 45)).grownBy w3 (Value.slice sa l.length sc).ownBlock)
    (ha : (Value.slice (some ⟨g4, 0, none⟩) (l.length + 1) c4).ownBlock = (Value.slice sa l.length sc).ownBlock ∨ (Value.slice (some ⟨g4, 0, none⟩) (l.length + 1) c4).ownBlock = some ((w.alloc (Obj.cells (Vi.cs v) 47)).alloc (Obj.cells v.sp.toArray 45)).heap.size) :
    ∃ sv', blk ((w3.setCell ⟨Bs, 0, none⟩ (.slice (some ⟨g4, 0, none⟩) (l.length + 1) c4)).setCell ⟨g4, l.length * 7 + 2, none⟩ (.int .i64 v.to)) Bs 37 #[sv'] ∧ ((w3.setCell ⟨Bs, 0, none⟩ (.slice (some ⟨g4, 0, none⟩) (l.length + 1) c4)).setCell ⟨g4, l.length * 7 + 2, none⟩ (.int .i64 v.to)).ownsRow B 45 7 sv' (skStep l v).length (spW (skStep l v)) ∧ Near Bs (.slice sa l.length sc) w ((w3.setCell ⟨Bs, 0, none⟩ (.slice (some ⟨g4, 0, none⟩) (l.length + 1) c4)).setCell ⟨g4, l.length * 7 + 2, none⟩ (.int .i64 v.to)) ∧ (sv'.ownBlock = (Value.slice sa l.length sc).ownBlock ∨ ∃ g, sv'.ownBlock = some g ∧ w.heap.size ≤ g) := by
  have hlt := hb.lt
  have own1 : ∀ x, (Value.slice sa l.length sc).ownBlock = some x → B ≤ x ∧ x < w.heap.size := fun x hx => own_lt ho hx
  have b0 : Below w.heap.size w (w.alloc (Obj.cells (Vi.cs v) 47)) := (Below.refl _ _).alloc (Nat.le_refl _) _
  have b1 : Below (w.alloc (Obj.cells (Vi.cs v) 47)).heap.size (w.alloc (Obj.cells (Vi.cs v) 47)) ((w.alloc (Obj.cells (Vi.cs v) 47)).alloc (Obj.cells v.sp.toArray 45)) := (Below.refl _ _).alloc (Nat.le_refl _) _
  have hs1 : (w.alloc (Obj.cells (Vi.cs v) 47)).heap.size = w.heap.size + 1 := by simp
  have hs2 : ((w.alloc (Obj.cells (Vi.cs v) 47)).alloc (Obj.cells v.sp.toArray 45)).heap.size = w.heap.size + 2 := by simp
  have b2 := b0.trans (b1.mono (by omega))
  have hB3 : blk w3 Bs 37 #[.slice sa l.length sc] := (hb.keep (b2.block _ hlt)).keep (hg.block _ (by omega) (fun e => by have := own1 Bs e.symm; omega))
  have hg4 := own_lt ho' (g := g4) rfl
  have e1 : skStep l v = (l ++ [v]).modify l.length fun x => { x with to := v.to } := by
    unfold skStep
    rw [if_pos c1, c1]
    rfl
  have ho4 := own_set (u := .int .i64 v.to) (i := l.length * 7 + 2) (ownsRow_setCell_below ho' (a := ⟨Bs, 0, none⟩) hBs (.slice (some ⟨g4, 0, none⟩) (l.length + 1) c4)) (g := g4) rfl (by omega)
  rw [← spW_snoc, spW_set (l ++ [v]) l.length v.to (by simp)] at ho4
  refine ⟨.slice (some ⟨g4, 0, none⟩) (l.length + 1) c4, (hB3.set 0 _).keep (Below.heap_setCell _ _ _ _ (show Bs ≠ g4 by omega)), ?_, ⟨hg.os.trans b2.os, hg.tape.trans b2.tape, hg.output.trans b2.output, ?_, fun k hk hn hv => ?_⟩, ?_⟩
  · rw [e1, List.length_modify, List.length_append]
    exact ho4
  · rw [setCell_size, setCell_size]; exact Nat.le_trans b2.size hg.size
  · have hk4 : k ≠ g4 := fun e => by
      subst e
      rcases ha with h | h
      · exact hv h.symm
      · have : k = w.heap.size + 2 := by rw [hs2] at h; injection h
        omega
    rw [Below.heap_setCell _ _ _ _ hk4, Below.heap_setCell _ _ _ _ (show k ≠ Bs from hn)]
    exact (hg.block k (by omega) (fun e => hv e.symm)).trans (b2.block k hk)
  · rcases ha with h | h
    · exact .inl h
    · exact .inr ⟨_, h, by omega⟩
theorem SkB {w : World} {Bs B g sc : Nat} {v : Vi} {l : List Vi} (hBs : Bs < B) (c1 : ¬ v.pl = (l.length : Int)) (c2 : 0 ≤ v.pl ∧ v.pl < (l.length : Int)) (ho : w.ownsRow B 45 7 (.slice (some ⟨g, 0, none⟩) l.length sc) l.length (spW l)) (hb : blk w Bs 37 #[.slice (some ⟨g, 0, none⟩) l.length sc]) :
    ∃ sv', blk ((w.alloc (Obj.cells (Vi.cs v) 47)).setCell ⟨g, v.pl.toNat * 7 + 2, none⟩ (.int .i64 v.to)) Bs 37 #[sv'] ∧ ((w.alloc (Obj.cells (Vi.cs v) 47)).setCell ⟨g, v.pl.toNat * 7 + 2, none⟩ (.int .i64 v.to)).ownsRow B 45 7 sv' (skStep l v).length (spW (skStep l v)) ∧ Near Bs (.slice (some ⟨g, 0, none⟩) l.length sc) w ((w.alloc (Obj.cells (Vi.cs v) 47)).setCell ⟨g, v.pl.toNat * 7 + 2, none⟩ (.int .i64 v.to)) ∧ (sv'.ownBlock = (Value.slice (some ⟨g, 0, none⟩) l.length sc).ownBlock ∨ ∃ g', sv'.ownBlock = some g' ∧ w.heap.size ≤ g') := by
  have hlt := hb.lt
  have hg := own_lt ho (g := g) rfl
  have b0 : Below w.heap.size w (w.alloc (Obj.cells (Vi.cs v) 47)) := (Below.refl _ _).alloc (Nat.le_refl _) _
  have e1 : skStep l v = l.modify v.pl.toNat fun x => { x with to := v.to } := by unfold skStep; rw [if_neg c1]
  have ho4 := own_set (u := .int .i64 v.to) (i := v.pl.toNat * 7 + 2) (ho.alloc (Obj.cells (Vi.cs v) 47)) (g := g) rfl (by omega)
  rw [spW_set l _ v.to (by omega)] at ho4
  refine ⟨.slice (some ⟨g, 0, none⟩) l.length sc, (hb.keep (b0.block _ hlt)).keep (Below.heap_setCell _ _ _ _ (show Bs ≠ g by omega)), ?_, ⟨b0.os, b0.tape, b0.output, ?_, fun k hk hn hv => ?_⟩, .inl rfl⟩
  · rw [e1, List.length_modify]; exact ho4
  · rw [setCell_size]; exact b0.size
  · rw [Below.heap_setCell _ _ _ _ (show k ≠ g from fun e => hv (by rw [e]; rfl))]
    exact b0.block k hk
set_option maxRecDepth 10000 in
set_option maxHeartbeats 1000000 in
theorem skim27 {w : World} {Bs B : Nat} (hBs : Bs < B) (hB : B ≤ w.heap.size) (v : Vi) (l : List Vi) (sv : Value) (hb : blk w Bs 37 #[sv]) (ho : w.ownsRow B 45 7 sv l.length (spW l)) (hp : v.pl = (l.length : Int) ∨ (0 ≤ v.pl ∧ v.pl < (l.length : Int))) (hl : l.length ≤ 1048576) :
    Calls Tryd.prog 27 #[.agg (Vi.cs v), .pointer (some ⟨Bs, 0, none⟩)] w fun e w' => e = .returned (.bool true) ∧ ∃ sv', blk w' Bs 37 #[sv'] ∧ w'.ownsRow B 45 7 sv' (skStep l v).length (spW (skStep l v)) ∧ Near Bs sv w w' ∧ (sv'.ownBlock = sv.ownBlock ∨ ∃ g, sv'.ownBlock = some g ∧ w.heap.size ≤ g) := by
  obtain ⟨sa, sc, rfl⟩ := ownForm ho
  have b0 : Below w.heap.size w (w.alloc (Obj.cells (Vi.cs v) 47)) := (Below.refl _ _).alloc (Nat.le_refl _) _
  have hb1 : blk (w.alloc (Obj.cells (Vi.cs v) 47)) Bs 37 _ := hb.keep (b0.block _ hb.lt)
  have c0 : (w.alloc (Obj.cells (Vi.cs v) 47)).cell? ⟨Bs, 0, none⟩ = some (.slice sa l.length sc) := hb1.cell 0
  have f0 := hb1.frozen 0
  have HO : Hid (w.ownsRow B 45 7 (.slice sa l.length sc) l.length (spW l) ∧ blk w Bs 37 #[.slice sa l.length sc]) := ⟨ho, hb⟩
  have HO2 : Hid (((w.alloc (Obj.cells (Vi.cs v) 47)).alloc (Obj.cells #[.int .i64 v.kd, .int .i64 v.fr, .int .i64 v.to, .int .i64 v.dp, .int .i64 v.up, .int .i64 v.nt, .string v.ky] 45)).ownsRow B 45 7 (.slice sa l.length sc) l.length (spW l) ∧ ((w.alloc (Obj.cells (Vi.cs v) 47)).alloc (Obj.cells #[.int .i64 v.kd, .int .i64 v.fr, .int .i64 v.to, .int .i64 v.dp, .int .i64 v.up, .int .i64 v.nt, .string v.ky] 45)).heap[w.heap.size + 1]? = some (Obj.cells v.sp.toArray 45) ∧ B ≤ ((w.alloc (Obj.cells (Vi.cs v) 47)).alloc (Obj.cells #[.int .i64 v.kd, .int .i64 v.fr, .int .i64 v.to, .int .i64 v.dp, .int .i64 v.up, .int .i64 v.nt, .string v.ky] 45)).heap.size) := by
    refine ⟨(ho.alloc _).alloc _, ?_, by simp; omega⟩
    have := heap_new (w.alloc (Obj.cells (Vi.cs v) 47)) (Obj.cells v.sp.toArray 45)
    rw [show (w.alloc (Obj.cells (Vi.cs v) 47)).heap.size = w.heap.size + 1 by simp] at this
    exact this
  clear ho hb hb1 b0
  by_cases c1 : v.pl = (l.length : Int)
  · go_enter Tryd.func27, Tryd.ntmps27
    go_wp2_with (at_builtin; refine append_span rfl _ _ rfl rfl HO2.out.1 (w.heap.size + 1) v rfl HO2.out.2.1 HO2.out.2.2 (by omega) ?_; (intro sv' w3 ho' hg' ha'; obtain ⟨g4, c4, rfl⟩ := own_some ho'; have HX := Lib.hid (And.intro ho' (And.intro hg' ha')); have X := Skx hBs HO.out.1 HO.out.2 ho' hg' ha'; obtain ⟨e0, ef, q0, q7, q2, qr, qf⟩ := X; clear ho' hg' ha'))
    go_ret
    exact ⟨rfl, SkA hBs c1 HO.out.1 HO.out.2 HX.out.1 HX.out.2.1 HX.out.2.2⟩
  · have c2 : 0 ≤ v.pl ∧ v.pl < (l.length : Int) := by omega
    obtain ⟨g, rfl⟩ : ∃ g, sa = some ⟨g, 0, none⟩ := by
      rcases HO.out.1.2 with ⟨e, e2⟩ | ⟨g, cap, cur, e, _⟩
      · omega
      · injection e with e1; exact ⟨g, e1⟩
    have RC : (w.alloc (Obj.cells (Vi.cs v) 47)).cell? ⟨g, v.pl.toNat * 7 + 2, none⟩ = some (.int .i64 (l[v.pl.toNat]'(by omega)).to) ∧ (w.alloc (Obj.cells (Vi.cs v) 47)).frozen? ⟨g, v.pl.toNat * 7 + 2, none⟩ = false := by
      have ho1 := HO.out.1.alloc (Obj.cells (Vi.cs v) 47)
      obtain ⟨_, -, hcell⟩ := own_form ho1 (g := g) rfl
      refine ⟨hcell _ _ (spW_at l v.pl.toNat 2 _ (List.getElem?_eq_getElem (by omega)) (by omega)), ?_⟩
      obtain ⟨cs', h5⟩ : ∃ cs, (w.alloc (Obj.cells (Vi.cs v) 47)).heap[g]? = some (Obj.cells cs 45 (0, 0)) := by
        rcases ho1.2 with ⟨e, _⟩ | ⟨g', cap, cur, e, h2, h3, _⟩
        · cases e
        · injection e with e1; injection e1 with e1; injection e1 with e1; subst e1; exact ⟨_, h3⟩
      simp [World.frozen?, h5]
    obtain ⟨r0, r1⟩ := RC
    generalize (l[v.pl.toNat]'(by omega)).to = tt at r0
    have c1' : (v.pl == (l.length : Int)) = false := by simpa using c1
    have DONE := Lib.hid (SkB hBs c1 c2 HO.out.1 HO.out.2)
    clear hp HO2 HO c1
    obtain ⟨c3, c4⟩ := c2
    generalize hk : v.pl.toNat = k at *
    have hk2 : v.pl = (k : Int) := by omega
    go_enter Tryd.func27, Tryd.ntmps27
    go_wp2
    go_ret
    exact ⟨rfl, DONE.out⟩
end Go.Proofs.YtdlnnnlmlaploaaDoor
