import Derived.Test.YtdlnnnlmlaploaaDoorM18
namespace Go.Proofs.YtdlnnnlmlaploaaDoor
open Go.RowKit Go.Deep
/-! ### span.check: the reader with a visitor that says yes -/
theorem check33 (v : Vi) (w : World) : Calls Tryd.prog 33 #[.agg (Vi.cs v)] w fun e w' => e = .returned (.bool true) ∧ Below w.heap.size w w' := by
  go_enter Tryd.func33, Tryd.ntmps33
  go_wp2
  go_ret
  exact ⟨rfl, (Below.refl _ _).alloc (Nat.le_refl _) _⟩
theorem visC {b : List UInt8} {A : Nat} : Vis b 33 #[] gT (fun _ _ S => ∀ k, ¬ S k) A where
  keep := fun _ _ _ _ h _ _ => h
  own := fun _ _ _ h k hk => absurd hk (h k)
  enter := fun args w => by
    show (callFunc 33 args).run Tryd.prog w = .ok (.enter 33 args) w
    kernel_rfl
  call := fun h w S v hS hx => by
    refine (check33 v w).mono ?_
    rintro e w' ⟨rfl, hb⟩
    exact ⟨rfl, S, hS, ⟨hb.os, hb.tape, hb.output, hb.size, fun k hk _ => hb.block k hk, fun k hk => .inl hk⟩⟩
set_option maxHeartbeats 1000000 in
/-- check's answer, by layer 2's words -/
theorem check21 (v : Value) (b : List UInt8) (w : World) (hr : RB w v b) (hev : EVw w) :
    Calls Tryd.prog 21 #[v] w fun e w' => ∃ t k er, e = .returned (.int .i64 er) ∧ DOUT b t k er ∧ Below w.heap.size w w' := by
  obtain ⟨a, c, rfl, hc, ht⟩ := hr
  by_cases hl : b.length ≤ 1048576
  · have hA : b = [] ∨ ∀ g o, a = some ⟨g, o, none⟩ → g < w.heap.size := by
      rcases ht with h | ⟨g', o', e', h1, _⟩
      · exact .inl h
      · exact .inr fun g o e => by rw [e'] at e; injection e with e; injection e with e1; omega
    have h4 : 4 < w.heap.size := by obtain ⟨_, ⟨t, p, h2⟩⟩ := hev; exact World.block_lt_of_cell? w _ h2
    have C := Lib.hid (read26 (visC (A := w.heap.size)) hl hc hA h4 (Nat.le_refl _) hev ht (fun k => id))
    have HB := Lib.hid hl
    clear ht hev hA h4 hc hl
    go_enter Tryd.func21, Tryd.ntmps21
    go_wp2_with fail
    refine C.out.mono ?_
    rintro e w' ⟨h, p, er, S, rfl, hF, _, hv⟩
    obtain ⟨t, k, rfl, hd, _⟩ := hF.out HB.out
    have HF : Hid (DOUT b t k er ∧ Below w.heap.size w w') := ⟨hd, hv.os, hv.tape, hv.output, hv.size, fun k hk => hv.block k hk id⟩
    clear hF hd hv C
    go_wp2
    go_ret
    exact ⟨t, k, er, rfl, HF.out⟩
  · have C := read26x (w := w) (a := a) (c := c) (show 1048576 < b.length by omega) (.func (.func 33) #[] #[])
    have HL : Hid (1048576 < b.length) := by show _ < _; omega
    clear ht hc hev
    go_enter Tryd.func21, Tryd.ntmps21
    go_wp2_with fail
    refine C.mono ?_
    rintro e w' ⟨rfl, rfl⟩
    go_wp2
    go_ret
    exact ⟨t0, 0, 20, rfl, .inr ⟨rfl, .inr (.inr ⟨HL.out, rfl, rfl⟩)⟩, Below.refl _ _⟩
end Go.Proofs.YtdlnnnlmlaploaaDoor
namespace Go.Proofs.YtdlnnnlmlaploaaDoor
open Go.RowKit Go.Deep
/-! ### span.leads -/
/-- a path in memory -/
def PS (w : World) (v : Value) (p : List (Int × ByteArray)) : Prop := ∃ a c, v = .slice a p.length c ∧ (p = [] ∨ ∃ g o, a = some ⟨g, o, none⟩ ∧ g < w.heap.size ∧ ∀ i n k, p[i]? = some (n, k) → w.cell? ⟨g, o + i * 2, none⟩ = some (.int .i64 n) ∧ w.cell? ⟨g, o + i * 2 + 1, none⟩ = some (.string k))
theorem PS.keep {w w' : World} {v : Value} {p : List (Int × ByteArray)} (h : PS w v p) (hb : Below w.heap.size w w') : PS w' v p := by
  obtain ⟨a, c, rfl, h⟩ := h
  refine ⟨a, c, rfl, ?_⟩
  rcases h with h | ⟨g, o, h1, h2, h3⟩
  · exact .inl h
  · exact .inr ⟨g, o, h1, Nat.lt_of_lt_of_le h2 hb.size, fun i n k hi => ⟨(World.cell?_of_block (w := w) (hb.block g h2)).trans (h3 i n k hi).1, (World.cell?_of_block (w := w) (hb.block g h2)).trans (h3 i n k hi).2⟩⟩
def leadsP (p : List (Int × ByteArray)) (ar : Int) (v : Vi) : Bool :=
  if v.dp = 0 then true else match p[(v.dp - 1).toNat]? with
  | some (n, k) => if ar = 3 then n == v.nt else k.toList == v.ky.toList
  | none => false
set_option maxRecDepth 10000 in
set_option maxHeartbeats 2000000 in
theorem leads35 (pv : Value) (p : List (Int × ByteArray)) (w : World) (ar : Int) (v : Vi) (h : PS w pv p) (hd : ∃ d : Nat, v.dp = (d : Int) ∧ d ≤ 1048577) (hp : p.length ≤ 140737488351232) :
    Calls Tryd.prog 35 #[pv, .int .i64 ar, .agg (Vi.cs v)] w fun e w' => e = .returned (.bool (leadsP p ar v)) ∧ Below w.heap.size w w' := by
  obtain ⟨kd, fr, to, dp, up, nt, ky, pl, fi⟩ := v
  obtain ⟨d, hd, hd2⟩ := hd
  obtain rfl : dp = (d : Int) := hd
  obtain ⟨a, c, rfl, h⟩ := h
  show Calls Tryd.prog 35 #[.slice a p.length c, .int .i64 ar, .agg #[.int .i64 kd, .int .i64 fr, .int .i64 to, .int .i64 (d : Int), .int .i64 up, .int .i64 nt, .string ky, .int .i64 pl, .int .i64 fi]] w _
  have b0 : Below w.heap.size w (w.alloc (Obj.cells #[.int .i64 kd, .int .i64 fr, .int .i64 to, .int .i64 (d : Int), .int .i64 up, .int .i64 nt, .string ky, .int .i64 pl, .int .i64 fi] 47)) := (Below.refl _ _).alloc (Nat.le_refl _) _
  cases d with
  | zero =>
    have HB := Lib.hid b0
    clear h b0
    go_enter Tryd.func35, Tryd.ntmps35
    go_wp2
    go_ret
    exact ⟨rfl, HB.out⟩
  | succ m =>
    have hm0 : ((m : Int) + 1 == 0) = false := beq_eq_false_iff_ne.2 (by omega)
    have HLP : Hid (leadsP p ar ⟨kd, fr, to, ((m + 1 : Nat) : Int), up, nt, ky, pl, fi⟩ = match p[m]? with | some (n, k) => if ar = 3 then n == nt else k.toList == ky.toList | none => false) := by
      show leadsP _ _ _ = _
      unfold leadsP
      rw [if_neg (by show ¬ ((m + 1 : Nat) : Int) = 0; omega)]
      rw [show ((((m + 1 : Nat) : Int)) - 1).toNat = m by omega]
    have HLP2 : Hid (leadsP p ar ⟨kd, fr, to, (m : Int) + 1, up, nt, ky, pl, fi⟩ = match p[m]? with | some (n, k) => if ar = 3 then n == nt else k.toList == ky.toList | none => false) := HLP
    by_cases hlen : p.length ≤ m
    · have hlen' : (p.length : Int) ≤ (m : Int) := by omega
      have hl2 : (p.length : Int) < (m : Int) + 1 := by omega
      have HB := Lib.hid b0
      have HE : Hid (p[m]? = none) := List.getElem?_eq_none hlen
      clear h b0
      go_enter Tryd.func35, Tryd.ntmps35
      go_wp2
      go_ret
      exact ⟨by rw [HLP.out, HE.out]; rfl, HB.out⟩
    · have hlt : m < p.length := by omega
      obtain ⟨⟨n, k⟩, hx⟩ : ∃ x, p[m]? = some x := ⟨_, List.getElem?_eq_getElem hlt⟩
      rcases h with rfl | ⟨g, o, rfl, hg, hcell⟩
      · simp at hlt
      obtain ⟨g0, g1⟩ := hcell m n k hx
      have g0a := cell_alloc_old (o := Obj.cells #[.int .i64 kd, .int .i64 fr, .int .i64 to, .int .i64 ((m : Int) + 1), .int .i64 up, .int .i64 nt, .string ky, .int .i64 pl, .int .i64 fi] 47) g0
      have g1a := cell_alloc_old (o := Obj.cells #[.int .i64 kd, .int .i64 fr, .int .i64 to, .int .i64 ((m : Int) + 1), .int .i64 up, .int .i64 nt, .string ky, .int .i64 pl, .int .i64 fi] 47) g1
      have hnl : ¬ (p.length : Int) < (m : Int) + 1 := by omega
      have hm1 : (0 : Int) ≤ (m : Int) := by omega
      have hm2 : (m : Int) < (p.length : Int) := by omega
      have HX := Lib.hid (And.intro hx b0)
      clear hcell hx hg b0
      by_cases har : ar = 3
      · subst har
        go_enter Tryd.func35, Tryd.ntmps35
        go_wp2
        go_ret
        exact ⟨by rw [HLP2.out, HX.out.1]; rfl, HX.out.2.alloc HX.out.2.size _⟩
      · have har' : (ar == 3) = false := beq_eq_false_iff_ne.2 har
        go_enter Tryd.func35, Tryd.ntmps35
        go_wp2
        go_ret
        exact ⟨by rw [HLP2.out, HX.out.1]; show _ = Ending.returned (Value.bool (if ar = 3 then _ else _)); rw [if_neg har]; rfl, HX.out.2.alloc HX.out.2.size _⟩
end Go.Proofs.YtdlnnnlmlaploaaDoor
namespace Go.Proofs.YtdlnnnlmlaploaaDoor
open Go.RowKit Go.Deep
/-! ### follow's visitor -/
/-- where the path has led, having been shown v -/
def fwS (p : List (Int × ByteArray)) (q v : Vi) : Vi := if v.up = q.pl ∧ leadsP p q.kd v = true then v else q
/-- the end of that: what is kept, and whether it goes on -/
def fwE (q v : Vi) : Vi × Bool := if v.pl = q.pl ∧ v.to ≠ 0 then (v, false) else (q, true)
def fw (p : List (Int × ByteArray)) (q v : Vi) : Vi × Bool := fwE (fwS p q v) v
theorem fwE_hit {q v : Vi} (h : v.pl = q.pl) (ht : v.to ≠ 0) : fwE q v = (v, false) := if_pos ⟨h, ht⟩
theorem fwE_miss {q v : Vi} (h : ¬ (v.pl = q.pl ∧ v.to ≠ 0)) : fwE q v = (q, true) := if_neg h
theorem box9B {w : World} {g : Nat} {c0 c1 c2 c3 c4 c5 c6 c7 c8 : Value} (hk : blk w g 47 #[c0, c1, c2, c3, c4, c5, c6, c7, c8]) (v0 v1 v2 v3 v4 v5 v6 v7 v8 : Value) :
    Besides g w (set9 w g v0 v1 v2 v3 v4 v5 v6 v7 v8) ∧ blk (set9 w g v0 v1 v2 v3 v4 v5 v6 v7 v8) g 47 #[v0, v1, v2, v3, v4, v5, v6, v7, v8] :=
  ⟨(((((((((Besides.refl g w).set1).set1).set1).set1).set1).set1).set1).set1).set1, ((((((((hk.s0 v0).s1 v1).s2 v2).s3 v3).s4 v4).s5 v5).s6 v6).s7 v7).s8 v8⟩
set_option maxRecDepth 10000 in
set_option maxHeartbeats 2000000 in
theorem follow34 {w : World} {Ab Pb : Nat} (q v : Vi) (p : List (Int × ByteArray)) (pv : Value) (hq : blk w Ab 47 (Vi.cs q)) (hpc : w.cell? ⟨Pb, 0, none⟩ = some pv) (hP : PS w pv p) (hd : ∃ d : Nat, v.dp = (d : Int) ∧ d ≤ 1048577) (hp : p.length ≤ 140737488351232) :
    Calls Tryd.prog 34 #[.agg (Vi.cs v), .pointer (some ⟨Ab, 0, none⟩), .pointer (some ⟨Pb, 0, none⟩)] w fun e w' => e = .returned (.bool (fw p q v).2) ∧ blk w' Ab 47 (Vi.cs (fw p q v).1) ∧ Besides Ab w w' := by
  obtain ⟨kd, fr, to, dp, up, nt, ky, pl, fi⟩ := v
  obtain ⟨d, hd, hd2⟩ := hd
  obtain rfl : dp = (d : Int) := hd
  obtain ⟨qkd, qfr, qto, qdp, qup, qnt, qky, qpl, qfi⟩ := q
  show Calls Tryd.prog 34 #[.agg #[.int .i64 kd, .int .i64 fr, .int .i64 to, .int .i64 (d : Int), .int .i64 up, .int .i64 nt, .string ky, .int .i64 pl, .int .i64 fi], .pointer (some ⟨Ab, 0, none⟩), .pointer (some ⟨Pb, 0, none⟩)] w _
  have b0 : Below w.heap.size w (w.alloc (Obj.cells #[.int .i64 kd, .int .i64 fr, .int .i64 to, .int .i64 (d : Int), .int .i64 up, .int .i64 nt, .string ky, .int .i64 pl, .int .i64 fi] 47)) := (Below.refl _ _).alloc (Nat.le_refl _) _
  have H0 : Hid (Besides Ab w (w.alloc (Obj.cells #[.int .i64 kd, .int .i64 fr, .int .i64 to, .int .i64 (d : Int), .int .i64 up, .int .i64 nt, .string ky, .int .i64 pl, .int .i64 fi] 47)) ∧ blk (w.alloc (Obj.cells #[.int .i64 kd, .int .i64 fr, .int .i64 to, .int .i64 (d : Int), .int .i64 up, .int .i64 nt, .string ky, .int .i64 pl, .int .i64 fi] 47)) Ab 47 #[.int .i64 qkd, .int .i64 qfr, .int .i64 qto, .int .i64 qdp, .int .i64 qup, .int .i64 qnt, .string qky, .int .i64 qpl, .int .i64 qfi] ∧ blk (w.alloc (Obj.cells #[.int .i64 kd, .int .i64 fr, .int .i64 to, .int .i64 (d : Int), .int .i64 up, .int .i64 nt, .string ky, .int .i64 pl, .int .i64 fi] 47)) w.heap.size 47 #[.int .i64 kd, .int .i64 fr, .int .i64 to, .int .i64 (d : Int), .int .i64 up, .int .i64 nt, .string ky, .int .i64 pl, .int .i64 fi] ∧ PS (w.alloc (Obj.cells #[.int .i64 kd, .int .i64 fr, .int .i64 to, .int .i64 (d : Int), .int .i64 up, .int .i64 nt, .string ky, .int .i64 pl, .int .i64 fi] 47)) pv p ∧ Ab < w.heap.size) := ⟨Besides.of_below b0, (show blk w Ab 47 #[.int .i64 qkd, .int .i64 qfr, .int .i64 qto, .int .i64 qdp, .int .i64 qup, .int .i64 qnt, .string qky, .int .i64 qpl, .int .i64 qfi] from hq).keep (b0.block _ (show blk w Ab 47 _ from hq).lt), heap_new _ _, hP.keep b0, (show blk w Ab 47 _ from hq).lt⟩
  have pc0 : (w.alloc (Obj.cells #[.int .i64 kd, .int .i64 fr, .int .i64 to, .int .i64 (d : Int), .int .i64 up, .int .i64 nt, .string ky, .int .i64 pl, .int .i64 fi] 47)).cell? ⟨Pb, 0, none⟩ = some pv := cell_alloc_old hpc
  have HPV : Hid (∃ a n c, pv = .slice a n c) := by obtain ⟨a, c, rfl, _⟩ := hP; exact ⟨a, _, c, rfl⟩
  obtain ⟨pa, pn, pc, rfl⟩ := HPV.out
  clear hq hpc hP b0
  obtain ⟨a0, a1, a2, a3, a4, a5, a6, a7, a8⟩ := H0.out.2.1.cells9
  obtain ⟨z0, z1, z2, z3, z4, z5, z6, z7, z8⟩ := H0.out.2.1.frozen9
  obtain ⟨v0, v1, v2, v3, v4, v5, v6, v7, v8⟩ := H0.out.2.2.1.cells9
  by_cases hu : up = qpl
  · subst hu
    have HL := Lib.hid (leads35 (.slice pa pn pc) p (w.alloc (Obj.cells #[.int .i64 kd, .int .i64 fr, .int .i64 to, .int .i64 (d : Int), .int .i64 up, .int .i64 nt, .string ky, .int .i64 pl, .int .i64 fi] 47)) qkd ⟨kd, fr, to, (d : Int), up, nt, ky, pl, fi⟩ H0.out.2.2.2.1 ⟨d, rfl, hd2⟩ hp)
    cases hlead : leadsP p qkd ⟨kd, fr, to, (d : Int), up, nt, ky, pl, fi⟩ with
    | true =>
      have HFW : Hid (fw p ⟨qkd, qfr, qto, qdp, qup, qnt, qky, up, qfi⟩ ⟨kd, fr, to, (d : Int), up, nt, ky, pl, fi⟩ = fwE ⟨kd, fr, to, (d : Int), up, nt, ky, pl, fi⟩ ⟨kd, fr, to, (d : Int), up, nt, ky, pl, fi⟩) := by
        show _ = _
        unfold fw fwS
        rw [if_pos ⟨rfl, hlead⟩]
      go_enter Tryd.func34, Tryd.ntmps34
      go_wp2_with fail
      refine HL.out.mono ?_
      rintro e w1 ⟨rfl, hb1⟩
      rw [hlead]
      have H1 : Hid (Besides Ab w w1 ∧ blk w1 Ab 47 #[.int .i64 qkd, .int .i64 qfr, .int .i64 qto, .int .i64 qdp, .int .i64 qup, .int .i64 qnt, .string qky, .int .i64 up, .int .i64 qfi] ∧ blk w1 w.heap.size 47 #[.int .i64 kd, .int .i64 fr, .int .i64 to, .int .i64 (d : Int), .int .i64 up, .int .i64 nt, .string ky, .int .i64 pl, .int .i64 fi] ∧ True) := by
        obtain ⟨q1, q2, q3, _⟩ := H0.out
        exact ⟨q1.trans (Besides.of_below hb1), q2.keep (hb1.block _ q2.lt), q3.keep (hb1.block _ q3.lt), trivial⟩
      clear hb1 HL a0 a1 a2 a3 a4 a5 a6 a7 a8 z0 z1 z2 z3 z4 z5 z6 z7 z8 v0 v1 v2 v3 v4 v5 v6 v7 v8
      obtain ⟨a0, a1, a2, a3, a4, a5, a6, a7, a8⟩ := H1.out.2.1.cells9
      obtain ⟨z0, z1, z2, z3, z4, z5, z6, z7, z8⟩ := H1.out.2.1.frozen9
      obtain ⟨v0, v1, v2, v3, v4, v5, v6, v7, v8⟩ := H1.out.2.2.1.cells9
      by_cases ht : to = 0
      · subst ht
        have i47 : (Tryd.prog.info? 47).map (·.size) = some (Vi.cs (⟨kd, fr, 0, (d : Int), up, nt, ky, pl, fi⟩ : Vi)).size := info47s
        have R2 : Hid (Besides Ab w (w1.setRow Ab (Vi.cs (⟨kd, fr, 0, (d : Int), up, nt, ky, pl, fi⟩ : Vi))) ∧ blk (w1.setRow Ab (Vi.cs (⟨kd, fr, 0, (d : Int), up, nt, ky, pl, fi⟩ : Vi))) Ab 47 (Vi.cs (⟨kd, fr, 0, (d : Int), up, nt, ky, pl, fi⟩ : Vi)) ∧ blk (w1.setRow Ab (Vi.cs (⟨kd, fr, 0, (d : Int), up, nt, ky, pl, fi⟩ : Vi))) w.heap.size 47 #[.int .i64 kd, .int .i64 fr, .int .i64 0, .int .i64 (d : Int), .int .i64 up, .int .i64 nt, .string ky, .int .i64 pl, .int .i64 fi] ∧ True) := by
          obtain ⟨q1, q2, q3, _⟩ := H1.out
          exact ⟨q1.trans (besides_row ..), blk_row q2 _, q3.keep ((besides_row ..).block _ q3.lt (by have := H0.out.2.2.2.2; show w.heap.size ≠ Ab; omega)), trivial⟩
        go_wp2_with (first | (refine wpList_store_row rfl 47 _ _ rfl Ab (Vi.cs (⟨kd, fr, 0, (d : Int), up, nt, ky, pl, fi⟩ : Vi)) rfl rfl 47 _ H1.out.2.1 i47 rfl (cs_one _) ?_; (obtain ⟨d0, d1, d2, d3, d4, d5, d6, d7, d8⟩ := R2.out.2.1.cells9; obtain ⟨e0, e1, e2, e3, e4, e5, e6, e7, e8⟩ := R2.out.2.2.1.cells9; generalize w1.setRow Ab (Vi.cs (⟨kd, fr, 0, (d : Int), up, nt, ky, pl, fi⟩ : Vi)) = w2 at *)))
        go_wp2
        go_ret
        rw [HFW.out.trans (fwE_miss (fun h => h.2 rfl))]
        exact ⟨rfl, R2.out.2.1, R2.out.1⟩
      · have ht' : (to == 0) = false := beq_eq_false_iff_ne.2 ht
        have i47 : (Tryd.prog.info? 47).map (·.size) = some (Vi.cs (⟨kd, fr, to, (d : Int), up, nt, ky, pl, fi⟩ : Vi)).size := info47s
        have R2 : Hid (Besides Ab w (w1.setRow Ab (Vi.cs (⟨kd, fr, to, (d : Int), up, nt, ky, pl, fi⟩ : Vi))) ∧ blk (w1.setRow Ab (Vi.cs (⟨kd, fr, to, (d : Int), up, nt, ky, pl, fi⟩ : Vi))) Ab 47 (Vi.cs (⟨kd, fr, to, (d : Int), up, nt, ky, pl, fi⟩ : Vi)) ∧ blk (w1.setRow Ab (Vi.cs (⟨kd, fr, to, (d : Int), up, nt, ky, pl, fi⟩ : Vi))) w.heap.size 47 #[.int .i64 kd, .int .i64 fr, .int .i64 to, .int .i64 (d : Int), .int .i64 up, .int .i64 nt, .string ky, .int .i64 pl, .int .i64 fi] ∧ True) := by
          obtain ⟨q1, q2, q3, _⟩ := H1.out
          exact ⟨q1.trans (besides_row ..), blk_row q2 _, q3.keep ((besides_row ..).block _ q3.lt (by have := H0.out.2.2.2.2; show w.heap.size ≠ Ab; omega)), trivial⟩
        go_wp2_with (first | (refine wpList_store_row rfl 47 _ _ rfl Ab (Vi.cs (⟨kd, fr, to, (d : Int), up, nt, ky, pl, fi⟩ : Vi)) rfl rfl 47 _ H1.out.2.1 i47 rfl (cs_one _) ?_; (obtain ⟨d0, d1, d2, d3, d4, d5, d6, d7, d8⟩ := R2.out.2.1.cells9; obtain ⟨e0, e1, e2, e3, e4, e5, e6, e7, e8⟩ := R2.out.2.2.1.cells9; generalize w1.setRow Ab (Vi.cs (⟨kd, fr, to, (d : Int), up, nt, ky, pl, fi⟩ : Vi)) = w2 at *)) | (refine wpList_store_row rfl 47 _ _ rfl Ab (Vi.cs (⟨kd, fr, to, (d : Int), up, nt, ky, pl, fi⟩ : Vi)) rfl rfl 47 _ R2.out.2.1 i47 rfl (cs_one _) ?_))
        go_wp2
        go_ret
        rw [HFW.out.trans (fwE_hit rfl ht)]
        exact ⟨rfl, blk_row R2.out.2.1 _, R2.out.1.trans (besides_row ..)⟩
    | false =>
      have HFW : Hid (fw p ⟨qkd, qfr, qto, qdp, qup, qnt, qky, up, qfi⟩ ⟨kd, fr, to, (d : Int), up, nt, ky, pl, fi⟩ = fwE ⟨qkd, qfr, qto, qdp, qup, qnt, qky, up, qfi⟩ ⟨kd, fr, to, (d : Int), up, nt, ky, pl, fi⟩) := by
        show _ = _
        unfold fw fwS
        rw [if_neg (fun h => by rw [hlead] at h; cases h.2)]
      go_enter Tryd.func34, Tryd.ntmps34
      go_wp2_with fail
      refine HL.out.mono ?_
      rintro e w1 ⟨rfl, hb1⟩
      rw [hlead]
      have H1 : Hid (Besides Ab w w1 ∧ blk w1 Ab 47 #[.int .i64 qkd, .int .i64 qfr, .int .i64 qto, .int .i64 qdp, .int .i64 qup, .int .i64 qnt, .string qky, .int .i64 up, .int .i64 qfi] ∧ blk w1 w.heap.size 47 #[.int .i64 kd, .int .i64 fr, .int .i64 to, .int .i64 (d : Int), .int .i64 up, .int .i64 nt, .string ky, .int .i64 pl, .int .i64 fi] ∧ True) := by
        obtain ⟨q1, q2, q3, _⟩ := H0.out
        exact ⟨q1.trans (Besides.of_below hb1), q2.keep (hb1.block _ q2.lt), q3.keep (hb1.block _ q3.lt), trivial⟩
      clear hb1 HL a0 a1 a2 a3 a4 a5 a6 a7 a8 z0 z1 z2 z3 z4 z5 z6 z7 z8 v0 v1 v2 v3 v4 v5 v6 v7 v8
      obtain ⟨a0, a1, a2, a3, a4, a5, a6, a7, a8⟩ := H1.out.2.1.cells9
      obtain ⟨z0, z1, z2, z3, z4, z5, z6, z7, z8⟩ := H1.out.2.1.frozen9
      obtain ⟨v0, v1, v2, v3, v4, v5, v6, v7, v8⟩ := H1.out.2.2.1.cells9
      by_cases hp : pl = up
      · subst hp
        by_cases ht : to = 0
        · subst ht
          go_wp2
          go_ret
          rw [HFW.out.trans (fwE_miss (fun h => h.2 rfl))]
          exact ⟨rfl, H1.out.2.1, H1.out.1⟩
        · have ht' : (to == 0) = false := beq_eq_false_iff_ne.2 ht
          go_wp2
          go_ret
          obtain ⟨y1, y2⟩ := box9B H1.out.2.1 (.int .i64 kd) (.int .i64 fr) (.int .i64 to) (.int .i64 (d : Int)) (.int .i64 pl) (.int .i64 nt) (.string ky) (.int .i64 pl) (.int .i64 fi)
          rw [HFW.out.trans (fwE_hit rfl ht)]
          exact ⟨rfl, y2, H1.out.1.trans y1⟩
      · have hp' : (pl != up) = true := by simpa using hp
        go_wp2
        go_ret
        rw [HFW.out.trans (fwE_miss (fun h => hp h.1))]
        exact ⟨rfl, H1.out.2.1, H1.out.1⟩
  · have hu' : (up == qpl) = false := beq_eq_false_iff_ne.2 hu
    have HFW : Hid (fw p ⟨qkd, qfr, qto, qdp, qup, qnt, qky, qpl, qfi⟩ ⟨kd, fr, to, (d : Int), up, nt, ky, pl, fi⟩ = fwE ⟨qkd, qfr, qto, qdp, qup, qnt, qky, qpl, qfi⟩ ⟨kd, fr, to, (d : Int), up, nt, ky, pl, fi⟩) := by
      show _ = _
      unfold fw fwS
      rw [if_neg (fun h => hu h.1)]
    go_enter Tryd.func34, Tryd.ntmps34
    by_cases hp : pl = qpl
    · subst hp
      by_cases ht : to = 0
      · subst ht
        go_wp2
        go_ret
        rw [HFW.out.trans (fwE_miss (fun h => h.2 rfl))]
        exact ⟨rfl, H0.out.2.1, H0.out.1⟩
      · have ht' : (to == 0) = false := beq_eq_false_iff_ne.2 ht
        go_wp2
        go_ret
        obtain ⟨y1, y2⟩ := box9B H0.out.2.1 (.int .i64 kd) (.int .i64 fr) (.int .i64 to) (.int .i64 (d : Int)) (.int .i64 up) (.int .i64 nt) (.string ky) (.int .i64 pl) (.int .i64 fi)
        rw [HFW.out.trans (fwE_hit rfl ht)]
        exact ⟨rfl, y2, H0.out.1.trans y1⟩
    · have hp' : (pl != qpl) = true := by simpa using hp
      go_wp2
      go_ret
      rw [HFW.out.trans (fwE_miss (fun h => hp h.1))]
      exact ⟨rfl, H0.out.2.1, H0.out.1⟩
end Go.Proofs.YtdlnnnlmlaploaaDoor
namespace Go.Proofs.YtdlnnnlmlaploaaDoor
open Go.RowKit Go.Deep
/-! ### follow's visitor as a visitor -/
theorem due_dpt (ls : List Lv) (i n : Nat) : (dueV ls i n).dp = (ls.length : Int) := by cases ls <;> rfl
theorem vg_dp {b : List UInt8} {ls : List Lv} {i n : Nat} {v : Vi} {ls' : List Lv} {i' : Nat} (h : VG b ls i n v ls' i') : v.dp = (ls.length : Int) := by
  rcases h with ⟨t, j, _, _, _, rfl, _, _⟩ | ⟨_, _, c3, _, _⟩
  · exact due_dpt ls i n
  · rcases c3 with ⟨_, rfl⟩ | ⟨_, rfl⟩ <;> exact due_dpt ls i n
theorem Rch.len {b : List UInt8} (hlim : b.length ≤ 1048576) {go : List Vi → Bool} {h : List Vi} {s : RS} (H : Rch b go h s) : s.ls.length ≤ 32 := by
  have := H.ok hlim
  cases s with
  | val ls i n => exact this.2.2.1.1
  | mid ls i n => exact this.2.2.1
/-- the depths of what is open -/
theorem Rch.deps {b : List UInt8} (hlim : b.length ≤ 1048576) {go : List Vi → Bool} {h : List Vi} {s : RS} (H : Rch b go h s) : ∀ l ∈ s.ls, ∃ d : Nat, l.dp = (d : Int) ∧ d ≤ 32 := by
  induction H with
  | start => intro l hl; cases hl
  | @value h ls i n v ls' i' hr hv _ ih =>
    have ih' : ∀ l ∈ ls, ∃ d : Nat, l.dp = (d : Int) ∧ d ≤ 32 := ih
    have hlen : ls.length ≤ 32 := hr.len hlim
    have hdp := vg_dp hv
    show ∀ l ∈ ls', _
    rcases hv with ⟨t, j, _, _, _, _, rfl, _⟩ | ⟨_, _, _, rfl, _⟩
    · exact ih'
    · intro l hl
      rcases List.mem_cons.1 hl with rfl | hl
      · exact ⟨ls.length, hdp, hlen⟩
      · exact ih' l hl
  | @part h l r i n l' i' _ _ hp ih =>
    have ih' : ∀ x ∈ l :: r, ∃ d : Nat, x.dp = (d : Int) ∧ d ≤ 32 := ih
    show ∀ x ∈ l' :: r, _
    intro x hx
    rcases List.mem_cons.1 hx with rfl | hx
    · have := ih' l (by simp)
      rcases hp with ⟨_, rfl, _⟩ | ⟨_, _, t, j, _, _, rfl, _⟩ <;> exact this
    · exact ih' x (by simp [hx])
  | @close h l r i n _ _ _ _ ih =>
    have ih' : ∀ x ∈ l :: r, ∃ d : Nat, x.dp = (d : Int) ∧ d ≤ 32 := ih
    show ∀ x ∈ r, _
    intro x hx
    exact ih' x (by simp [hx])
theorem Nx.dep {b : List UInt8} (hlim : b.length ≤ 1048576) {go : List Vi → Bool} {h : List Vi} {v : Vi} (H : Nx b go h v) : ∃ d : Nat, v.dp = (d : Int) ∧ d ≤ 1048577 := by
  rcases H with ⟨ls, i, n, ls', i', hr, hv⟩ | ⟨l, r, i, n, hr, _, _, rfl⟩
  · have hlen : ls.length ≤ 32 := hr.len hlim
    exact ⟨ls.length, vg_dp hv, by omega⟩
  · obtain ⟨d, h1, h2⟩ := hr.deps hlim l (by simp [RS.ls])
    exact ⟨d, h1, by omega⟩
/-- where follow begins -/
def fw0 : Vi := ⟨0, 0, 0, 0, 0, 0, ByteArray.empty, -1, 0⟩
/-- where follow stands, and whether it goes on, having been shown h -/
def fwF (p : List (Int × ByteArray)) (h : List Vi) : Vi × Bool := h.foldl (fun s v => fw p s.1 v) (fw0, true)
theorem fwF_snoc (p : List (Int × ByteArray)) (h : List Vi) (v : Vi) : fwF p (h ++ [v]) = fw p (fwF p h).1 v := by unfold fwF; rw [List.foldl_append]; rfl
abbrev goF (p : List (Int × ByteArray)) : List Vi → Bool := fun h => (fwF p h).2
/-- a path in old memory -/
def PSA (A : Nat) (w : World) (v : Value) (p : List (Int × ByteArray)) : Prop := ∃ a c, v = .slice a p.length c ∧ (p = [] ∨ ∃ g o, a = some ⟨g, o, none⟩ ∧ g < A ∧ ∀ i n k, p[i]? = some (n, k) → w.cell? ⟨g, o + i * 2, none⟩ = some (.int .i64 n) ∧ w.cell? ⟨g, o + i * 2 + 1, none⟩ = some (.string k))
theorem PSA.ps {A : Nat} {w : World} {v : Value} {p : List (Int × ByteArray)} (h : PSA A w v p) (hA : A ≤ w.heap.size) : PS w v p := by
  obtain ⟨a, c, rfl, h⟩ := h
  refine ⟨a, c, rfl, ?_⟩
  rcases h with h | ⟨g, o, h1, h2, h3⟩
  · exact .inl h
  · exact .inr ⟨g, o, h1, by omega, h3⟩
theorem PSA.keep {A : Nat} {w w' : World} {v : Value} {p : List (Int × ByteArray)} (h : PSA A w v p) (hb : ∀ k, k < A → w'.heap[k]? = w.heap[k]?) : PSA A w' v p := by
  obtain ⟨a, c, rfl, h⟩ := h
  refine ⟨a, c, rfl, ?_⟩
  rcases h with h | ⟨g, o, h1, h2, h3⟩
  · exact .inl h
  · exact .inr ⟨g, o, h1, h2, fun i n k hi => ⟨(World.cell?_of_block (w := w) (hb g h2)).trans (h3 i n k hi).1, (World.cell?_of_block (w := w) (hb g h2)).trans (h3 i n k hi).2⟩⟩
/-- what follow's visitor keeps -/
def JF (Ab Pb A : Nat) (p : List (Int × ByteArray)) (pv : Value) (h : List Vi) (w : World) (S : Nat → Prop) : Prop :=
  A ≤ Ab ∧ A ≤ Pb ∧ Ab ≠ Pb ∧ A ≤ w.heap.size ∧ blk w Ab 47 (Vi.cs (fwF p h).1) ∧ blk w Pb 23 #[pv] ∧ PSA A w pv p ∧ ∀ k, S k ↔ (k = Ab ∨ k = Pb)
theorem visF {b : List UInt8} (hlim : b.length ≤ 1048576) {Ab Pb A : Nat} {p : List (Int × ByteArray)} (hp : p.length ≤ 140737488351232) {pv : Value} : Vis b 34 #[.pointer (some ⟨Ab, 0, none⟩), .pointer (some ⟨Pb, 0, none⟩)] (goF p) (JF Ab Pb A p pv) A where
  keep := fun h w w' S ⟨h1, h2, h3, h4, h5, h6, h7, h8⟩ hs hk =>
    ⟨h1, h2, h3, Nat.le_trans h4 hs, h5.keep (hk Ab (.inl ((h8 Ab).2 (.inl rfl)))), h6.keep (hk Pb (.inl ((h8 Pb).2 (.inr rfl)))), h7.keep (fun k hk' => hk k (.inr hk')), h8⟩
  own := fun h w S ⟨h1, h2, h3, h4, h5, h6, h7, h8⟩ k hk => by
    rcases (h8 k).1 hk with rfl | rfl
    · exact ⟨h1, _, _, _, h5, by decide, by decide⟩
    · exact ⟨h2, _, _, _, h6, by decide, by decide⟩
  enter := fun args w => by
    show (callFunc 34 args).run Tryd.prog w = .ok (.enter 34 args) w
    kernel_rfl
  call := fun h w S v ⟨h1, h2, h3, h4, h5, h6, h7, h8⟩ hx => by
    refine (follow34 (fwF p h).1 v p pv h5 (h6.cell 0) (h7.ps h4) (hx.dep hlim) hp).mono ?_
    rintro e w' ⟨rfl, k1, k2⟩
    refine ⟨by show _ = Ending.returned (Value.bool (fwF p (h ++ [v])).2); rw [fwF_snoc], S, ⟨h1, h2, h3, Nat.le_trans h4 k2.size, by rw [fwF_snoc]; exact k1, h6.keep (k2.block _ h6.lt (fun e => h3 e.symm)), h7.keep (fun k hk => k2.block k (by omega) (by omega)), h8⟩, ⟨k2.os, k2.tape, k2.output, k2.size, fun k hk hn => k2.block k hk (fun e => hn ((h8 k).2 (.inl e))), fun k hk => .inl hk⟩⟩
end Go.Proofs.YtdlnnnlmlaploaaDoor
namespace Go.Proofs.YtdlnnnlmlaploaaDoor
open Go.RowKit Go.Deep
def nestB (q : Vi) : Bool := q.kd == 3 || q.kd == 4
theorem nests36 (q : Vi) (w : World) : Calls Tryd.prog 36 #[.agg (Vi.cs q)] w fun e w' => e = .returned (.bool (nestB q)) ∧ Below w.heap.size w w' := by
  obtain ⟨kd, fr, to, dp, up, nt, ky, pl, fi⟩ := q
  have b0 : Below w.heap.size w (w.alloc (Obj.cells (Vi.cs ⟨kd, fr, to, dp, up, nt, ky, pl, fi⟩) 47)) := (Below.refl _ _).alloc (Nat.le_refl _) _
  have HB := Lib.hid b0
  clear b0
  by_cases h3 : kd = 3
  · subst h3
    go_enter Tryd.func36, Tryd.ntmps36
    go_wp2
    go_ret
    exact ⟨rfl, HB.out⟩
  · have h3' : (kd == 3) = false := beq_eq_false_iff_ne.2 h3
    go_enter Tryd.func36, Tryd.ntmps36
    go_wp2
    go_ret
    exact ⟨by unfold nestB; simp [h3'], HB.out⟩
set_option maxRecDepth 10000 in
set_option maxHeartbeats 1000000 in
theorem follow22 (a : Option Addr) (c : Nat) (b : List UInt8) (w : World) (pa : Option Addr) (pn pc : Nat) (p : List (Int × ByteArray)) (hr : RB w (.slice a b.length c) b) (hev : EVw w) (hl : b.length ≤ 1048576) (hP : PSA w.heap.size w (.slice pa pn pc) p) (hp : p.length ≤ 140737488351232) :
    Calls Tryd.prog 22 #[.slice a b.length c, .slice pa pn pc] w fun e w' => ∃ h pp er, Fin b (goF p) h pp er ∧ Below w.heap.size w w' ∧ e = .returned (.tuple #[.agg (Vi.cs (fwF p h).1), .int .i64 (if (fwF p h).1.dp = (pn : Int) then 0 else if nestB (fwF p h).1 = true then 30 else 31)]) := by
  have b1 : Below w.heap.size w (((w.alloc (Obj.cells #[.slice pa pn pc] 23)).alloc zero9).alloc (Obj.cells #[.int .i64 0, .int .i64 0, .int .i64 0, .int .i64 0, .int .i64 0, .int .i64 0, .string { data := #[] }, .int .i64 (-1), .int .i64 0] 47)) := (((Below.refl _ _).alloc (Nat.le_refl _) _).alloc (by simp) _).alloc (by simp; omega) _
  have hn1 : (w.alloc (Obj.cells #[.slice pa pn pc] 23)).heap.size = w.heap.size + 1 := by simp
  have hn2 : ((w.alloc (Obj.cells #[.slice pa pn pc] 23)).alloc zero9).heap.size = w.heap.size + 1 + 1 := by simp
  have o1 : blk (((w.alloc (Obj.cells #[.slice pa pn pc] 23)).alloc zero9).alloc (Obj.cells #[.int .i64 0, .int .i64 0, .int .i64 0, .int .i64 0, .int .i64 0, .int .i64 0, .string { data := #[] }, .int .i64 (-1), .int .i64 0] 47)) w.heap.size 23 #[.slice pa pn pc] := by
    have h0 : blk (w.alloc (Obj.cells #[.slice pa pn pc] 23)) w.heap.size 23 #[.slice pa pn pc] := heap_new _ _
    have h1 := h0.keep (((Below.refl _ _).alloc (Nat.le_refl _) zero9 : Below (w.alloc (Obj.cells #[.slice pa pn pc] 23)).heap.size _ _).block _ h0.lt)
    exact h1.keep (((Below.refl _ _).alloc (Nat.le_refl _) _ : Below ((w.alloc (Obj.cells #[.slice pa pn pc] 23)).alloc zero9).heap.size _ _).block _ h1.lt)
  have o2 : blk (((w.alloc (Obj.cells #[.slice pa pn pc] 23)).alloc zero9).alloc (Obj.cells #[.int .i64 0, .int .i64 0, .int .i64 0, .int .i64 0, .int .i64 0, .int .i64 0, .string { data := #[] }, .int .i64 (-1), .int .i64 0] 47)) (w.heap.size + 1) 47 #[.int .i64 0, .int .i64 0, .int .i64 0, .int .i64 0, .int .i64 0, .int .i64 0, .string { data := #[] }, .int .i64 0, .int .i64 0] := by
    have h0 := heap_new (w.alloc (Obj.cells #[.slice pa pn pc] 23)) zero9
    rw [hn1] at h0
    have h0' : blk ((w.alloc (Obj.cells #[.slice pa pn pc] 23)).alloc zero9) (w.heap.size + 1) 47 #[.int .i64 0, .int .i64 0, .int .i64 0, .int .i64 0, .int .i64 0, .int .i64 0, .string { data := #[] }, .int .i64 0, .int .i64 0] := h0
    exact h0'.keep (((Below.refl _ _).alloc (Nat.le_refl _) _ : Below ((w.alloc (Obj.cells #[.slice pa pn pc] 23)).alloc zero9).heap.size _ _).block _ h0'.lt)
  have o3 : blk (((w.alloc (Obj.cells #[.slice pa pn pc] 23)).alloc zero9).alloc (Obj.cells #[.int .i64 0, .int .i64 0, .int .i64 0, .int .i64 0, .int .i64 0, .int .i64 0, .string { data := #[] }, .int .i64 (-1), .int .i64 0] 47)) (w.heap.size + 1 + 1) 47 (Vi.cs fw0) := by
    have h0 := heap_new ((w.alloc (Obj.cells #[.slice pa pn pc] 23)).alloc zero9) (Obj.cells #[.int .i64 0, .int .i64 0, .int .i64 0, .int .i64 0, .int .i64 0, .int .i64 0, .string { data := #[] }, .int .i64 (-1), .int .i64 0] 47)
    rw [hn2] at h0
    exact h0
  obtain ⟨a', c', e', hc, ht⟩ := hr
  cases e'
  have hA : b = [] ∨ ∀ g o, a = some ⟨g, o, none⟩ → g < w.heap.size := by
    rcases ht with h | ⟨g', o', e', h1, _⟩
    · exact .inl h
    · exact .inr fun g o e => by rw [e'] at e; injection e with e; injection e with e1; omega
  have h4 : 4 < w.heap.size := by obtain ⟨_, ⟨t, p, h2⟩⟩ := hev; exact World.block_lt_of_cell? w _ h2
  have ht1 : b = [] ∨ ∃ g o, a = some ⟨g, o, none⟩ ∧ g < (((w.alloc (Obj.cells #[.slice pa pn pc] 23)).alloc zero9).alloc (Obj.cells #[.int .i64 0, .int .i64 0, .int .i64 0, .int .i64 0, .int .i64 0, .int .i64 0, .string { data := #[] }, .int .i64 (-1), .int .i64 0] 47)).heap.size ∧ ∀ j, j < b.length → (((w.alloc (Obj.cells #[.slice pa pn pc] 23)).alloc zero9).alloc (Obj.cells #[.int .i64 0, .int .i64 0, .int .i64 0, .int .i64 0, .int .i64 0, .int .i64 0, .string { data := #[] }, .int .i64 (-1), .int .i64 0] 47)).cell? ⟨g, o + j, none⟩ = some (.int .u8 ((byt b j).toNat : Int)) := by
    rcases ht with h | ⟨g, o, h1, h2, h3⟩
    · exact .inl h
    · exact .inr ⟨g, o, h1, Nat.lt_of_lt_of_le h2 b1.size, fun j hj => (b1.cell h2).trans (h3 j hj)⟩
  have hJ : JF (w.heap.size + 1 + 1) w.heap.size w.heap.size p (.slice pa pn pc) [] (((w.alloc (Obj.cells #[.slice pa pn pc] 23)).alloc zero9).alloc (Obj.cells #[.int .i64 0, .int .i64 0, .int .i64 0, .int .i64 0, .int .i64 0, .int .i64 0, .string { data := #[] }, .int .i64 (-1), .int .i64 0] 47)) (fun k => k = w.heap.size + 1 + 1 ∨ k = w.heap.size) := ⟨by omega, Nat.le_refl _, by omega, b1.size, o3, o1, hP.keep (fun k hk => b1.block k hk), fun k => Iff.rfl⟩
  have C := Lib.hid (read26 (visF hl hp) hl hc hA h4 b1.size (hev.keep b1) ht1 hJ)
  have H0 := Lib.hid (And.intro b1 o2)
  clear hP hev hc ht hA h4 ht1 hJ b1 o1 o2 o3 hn1 hn2
  go_enter Tryd.func22, Tryd.ntmps22
  go_wp2_with fail
  refine C.out.mono ?_
  rintro e WW ⟨h, pp, er, S, rfl, hF, ⟨_, _, _, _, h5, h6, _, _⟩, hv⟩
  have HF := Lib.hid hF
  obtain ⟨⟨qkd, qfr, qto, qdp, qup, qnt, qky, qpl, qfi⟩, hq⟩ : ∃ q, (fwF p h).1 = q := ⟨_, rfl⟩
  have HQ := Lib.hid hq
  rw [hq] at h5
  have H1 : Hid (Below w.heap.size w WW ∧ blk WW (w.heap.size + 1) 47 #[.int .i64 0, .int .i64 0, .int .i64 0, .int .i64 0, .int .i64 0, .int .i64 0, .string { data := #[] }, .int .i64 0, .int .i64 0] ∧ blk WW (w.heap.size + 1 + 1) 47 #[.int .i64 qkd, .int .i64 qfr, .int .i64 qto, .int .i64 qdp, .int .i64 qup, .int .i64 qnt, .string qky, .int .i64 qpl, .int .i64 qfi] ∧ blk WW w.heap.size 23 #[.slice pa pn pc]) := by
    obtain ⟨q1, q2⟩ := H0.out
    refine ⟨⟨hv.os.trans q1.os, hv.tape.trans q1.tape, hv.output.trans q1.output, Nat.le_trans q1.size hv.size, fun k hk => (hv.block k (Nat.lt_of_lt_of_le hk q1.size) (by show ¬ (k = _ ∨ k = _); omega)).trans (q1.block k hk)⟩, q2.keep (hv.block _ q2.lt (by show ¬ (_ = _ ∨ _ = _); omega)), h5, h6⟩
  clear C H0 hF h5 h6 hv hq
  generalize hAb : w.heap.size + 1 + 1 = Ab at *
  generalize hRb : w.heap.size + 1 = Rb at *
  obtain ⟨Pb, hPb⟩ : ∃ Pb, Pb = w.heap.size := ⟨_, rfl⟩
  have HZ : Hid (Rb = w.heap.size + 1) := hRb.symm
  have n1 : Rb ≠ Ab := by omega
  have n2 : Ab ≠ Rb := by omega
  have n3 : Rb ≠ w.heap.size := by omega
  have n4 : w.heap.size ≠ Rb := by omega
  clear hAb hRb hPb
  obtain ⟨z0, z1, z2, z3, z4, z5, z6, z7, z8⟩ := H1.out.2.1.cells9
  obtain ⟨f0, f1, f2, f3, f4, f5, f6, f7, f8⟩ := H1.out.2.1.frozen9
  obtain ⟨a0, a1, a2, a3, a4, a5, a6, a7, a8⟩ := H1.out.2.2.1.cells9
  have pcell : WW.cell? ⟨w.heap.size, 0, none⟩ = some (.slice pa pn pc) := H1.out.2.2.2.cell 0
  by_cases hd : qdp = (pn : Int)
  · subst hd
    go_wp2
    obtain ⟨y1, y2⟩ := box9B H1.out.2.1 (.int .i64 qkd) (.int .i64 qfr) (.int .i64 qto) (.int .i64 (pn : Int)) (.int .i64 qup) (.int .i64 qnt) (.string qky) (.int .i64 qpl) (.int .i64 qfi)
    generalize hX : set9 WW Rb (.int .i64 qkd) (.int .i64 qfr) (.int .i64 qto) (.int .i64 (pn : Int)) (.int .i64 qup) (.int .i64 qnt) (.string qky) (.int .i64 qpl) (.int .i64 qfi) = X at *
    unfold set9 at hX
    rw [hX]
    refine bodyPost_ret (v := .tuple #[.agg #[.int .i64 qkd, .int .i64 qfr, .int .i64 qto, .int .i64 (pn : Int), .int .i64 qup, .int .i64 qnt, .string qky, .int .i64 qpl, .int .i64 qfi], .int .i64 0]) (results_cell47t Tryd.results22 _ _ Rb _ rfl y2 rfl) rfl ?_
    refine ⟨h, pp, er, HF.out, ?_, ?_⟩
    · have hb := H1.out.1
      have hz := HZ.out
      exact ⟨y1.os.trans hb.os, y1.tape.trans hb.tape, y1.output.trans hb.output, Nat.le_trans hb.size y1.size, fun k hk => (y1.block k (Nat.lt_of_lt_of_le hk hb.size) (by omega)).trans (hb.block k hk)⟩
    · rw [HQ.out]
      rw [if_pos rfl]
  · have hd' : (qdp == (pn : Int)) = false := beq_eq_false_iff_ne.2 hd
    have HN := Lib.hid (nests36 ⟨qkd, qfr, qto, qdp, qup, qnt, qky, qpl, qfi⟩ WW)
    go_wp2_with fail
    refine HN.out.mono ?_
    rintro e W5 ⟨rfl, hb5⟩
    have H2 : Hid (Below w.heap.size w W5 ∧ blk W5 Rb 47 #[.int .i64 0, .int .i64 0, .int .i64 0, .int .i64 0, .int .i64 0, .int .i64 0, .string { data := #[] }, .int .i64 0, .int .i64 0] ∧ blk W5 Ab 47 #[.int .i64 qkd, .int .i64 qfr, .int .i64 qto, .int .i64 qdp, .int .i64 qup, .int .i64 qnt, .string qky, .int .i64 qpl, .int .i64 qfi] ∧ blk W5 w.heap.size 23 #[.slice pa pn pc]) := by
      obtain ⟨q1, q2, q3, q4⟩ := H1.out
      exact ⟨q1.trans (hb5.mono q1.size), q2.keep (hb5.block _ q2.lt), q3.keep (hb5.block _ q3.lt), q4.keep (hb5.block _ q4.lt)⟩
    clear HN hb5 H1 pcell z0 z1 z2 z3 z4 z5 z6 z7 z8 f0 f1 f2 f3 f4 f5 f6 f7 f8 a0 a1 a2 a3 a4 a5 a6 a7 a8
    obtain ⟨z0, z1, z2, z3, z4, z5, z6, z7, z8⟩ := H2.out.2.1.cells9
    obtain ⟨f0, f1, f2, f3, f4, f5, f6, f7, f8⟩ := H2.out.2.1.frozen9
    obtain ⟨a0, a1, a2, a3, a4, a5, a6, a7, a8⟩ := H2.out.2.2.1.cells9
    have pcell : W5.cell? ⟨w.heap.size, 0, none⟩ = some (.slice pa pn pc) := H2.out.2.2.2.cell 0
    cases hn : nestB ⟨qkd, qfr, qto, qdp, qup, qnt, qky, qpl, qfi⟩ with
    | true =>
      go_wp2
      obtain ⟨y1, y2⟩ := box9B H2.out.2.1 (.int .i64 qkd) (.int .i64 qfr) (.int .i64 qto) (.int .i64 qdp) (.int .i64 qup) (.int .i64 qnt) (.string qky) (.int .i64 qpl) (.int .i64 qfi)
      generalize hX : set9 W5 Rb (.int .i64 qkd) (.int .i64 qfr) (.int .i64 qto) (.int .i64 qdp) (.int .i64 qup) (.int .i64 qnt) (.string qky) (.int .i64 qpl) (.int .i64 qfi) = X at *
      unfold set9 at hX
      rw [hX]
      refine bodyPost_ret (v := .tuple #[.agg #[.int .i64 qkd, .int .i64 qfr, .int .i64 qto, .int .i64 qdp, .int .i64 qup, .int .i64 qnt, .string qky, .int .i64 qpl, .int .i64 qfi], .int .i64 30]) (results_cell47t Tryd.results22 _ _ Rb _ rfl y2 rfl) rfl ?_
      refine ⟨h, pp, er, HF.out, ?_, ?_⟩
      · have hb := H2.out.1
        have hz := HZ.out
        exact ⟨y1.os.trans hb.os, y1.tape.trans hb.tape, y1.output.trans hb.output, Nat.le_trans hb.size y1.size, fun k hk => (y1.block k (Nat.lt_of_lt_of_le hk hb.size) (by omega)).trans (hb.block k hk)⟩
      · rw [HQ.out]
        rw [if_neg hd, if_pos hn]
    | false =>
      go_wp2
      obtain ⟨y1, y2⟩ := box9B H2.out.2.1 (.int .i64 qkd) (.int .i64 qfr) (.int .i64 qto) (.int .i64 qdp) (.int .i64 qup) (.int .i64 qnt) (.string qky) (.int .i64 qpl) (.int .i64 qfi)
      generalize hX : set9 W5 Rb (.int .i64 qkd) (.int .i64 qfr) (.int .i64 qto) (.int .i64 qdp) (.int .i64 qup) (.int .i64 qnt) (.string qky) (.int .i64 qpl) (.int .i64 qfi) = X at *
      unfold set9 at hX
      rw [hX]
      refine bodyPost_ret (v := .tuple #[.agg #[.int .i64 qkd, .int .i64 qfr, .int .i64 qto, .int .i64 qdp, .int .i64 qup, .int .i64 qnt, .string qky, .int .i64 qpl, .int .i64 qfi], .int .i64 31]) (results_cell47t Tryd.results22 _ _ Rb _ rfl y2 rfl) rfl ?_
      refine ⟨h, pp, er, HF.out, ?_, ?_⟩
      · have hb := H2.out.1
        have hz := HZ.out
        exact ⟨y1.os.trans hb.os, y1.tape.trans hb.tape, y1.output.trans hb.output, Nat.le_trans hb.size y1.size, fun k hk => (y1.block k (Nat.lt_of_lt_of_le hk hb.size) (by omega)).trans (hb.block k hk)⟩
      · rw [HQ.out]
        rw [if_neg hd, if_neg (by rw [hn]; exact Bool.false_ne_true)]
end Go.Proofs.YtdlnnnlmlaploaaDoor
namespace Go.Proofs.YtdlnnnlmlaploaaDoor
open Go.RowKit Go.Deep
/-- what a run with a visitor that may stop has shown, a run that does not stop has shown too -/
theorem Rch.free {b : List UInt8} {go : List Vi → Bool} {h : List Vi} {s : RS} (H : Rch b go h s) : Rch b gT h s := by
  induction H with
  | start => exact .start
  | value _ hv _ ih => exact .value ih hv rfl
  | part _ hb hp ih => exact .part ih hb hp
  | close _ hi hb _ ih => exact .close ih hi hb rfl
/-- and at each beginning of it that is not the whole, the visitor went on -/
theorem Rch.went {b : List UInt8} {go : List Vi → Bool} {h : List Vi} {s : RS} (H : Rch b go h s) : ∀ k, 0 < k → k ≤ h.length → go (h.take k) = true := by
  induction H with
  | start => intro k h1 h2; simp at h2; omega
  | @value h ls i n v ls' i' _ _ hg ih =>
    intro k h1 h2
    rw [List.length_append, List.length_singleton] at h2
    by_cases hk : k ≤ h.length
    · rw [List.take_append_of_le_length hk]; exact ih k h1 hk
    · rw [List.take_of_length_le (by rw [List.length_append, List.length_singleton]; omega)]; exact hg
  | part _ _ _ ih => exact ih
  | @close h l r i n _ _ _ hg ih =>
    intro k h1 h2
    rw [List.length_append, List.length_singleton] at h2
    by_cases hk : k ≤ h.length
    · rw [List.take_append_of_le_length hk]; exact ih k h1 hk
    · rw [List.take_of_length_le (by rw [List.length_append, List.length_singleton]; omega)]; exact hg
set_option maxRecDepth 10000 in
set_option maxHeartbeats 1000000 in
theorem find19 (a : Option Addr) (c : Nat) (b : List UInt8) (w : World) (pa : Option Addr) (pn pc : Nat) (p : List (Int × ByteArray)) (hr : RB w (.slice a b.length c) b) (hev : EVw w) (hP : PSA w.heap.size w (.slice pa pn pc) p) (hp : p.length ≤ 140737488351232) :
    Calls Tryd.prog 19 #[.slice a b.length c, .slice pa pn pc] w fun e w' => ∃ t k er, DOUT b t k er ∧ Below w.heap.size w w' ∧
      ((er ≠ 0 ∧ e = .returned (.tuple #[.agg (Vi.cs ⟨0, 0, 0, 0, 0, 0, ByteArray.empty, 0, 0⟩), .int .i64 er])) ∨ (er = 0 ∧ ∃ h pp e0, Fin b (goF p) h pp e0 ∧ e = .returned (.tuple #[.agg (Vi.cs (fwF p h).1), .int .i64 (if (fwF p h).1.dp = (pn : Int) then 0 else if nestB (fwF p h).1 = true then 30 else 31)]))) := by
  have b0 : Below w.heap.size w (w.alloc zero9) := (Below.refl _ _).alloc (Nat.le_refl _) _
  have H0 : Hid (Below w.heap.size w (w.alloc zero9) ∧ blk (w.alloc zero9) w.heap.size 47 #[.int .i64 0, .int .i64 0, .int .i64 0, .int .i64 0, .int .i64 0, .int .i64 0, .string { data := #[] }, .int .i64 0, .int .i64 0] ∧ RB (w.alloc zero9) (.slice a b.length c) b ∧ EVw (w.alloc zero9) ∧ PSA w.heap.size (w.alloc zero9) (.slice pa pn pc) p) := ⟨b0, heap_new _ _, hr.keep b0, hev.keep b0, hP.keep (fun k hk => b0.block k hk)⟩
  clear hr hev hP b0
  go_enter Tryd.func19, Tryd.ntmps19
  go_wp2_with fail
  refine (check21 _ b _ H0.out.2.2.1 H0.out.2.2.2.1).mono ?_
  rintro e w1 ⟨t, k, er, rfl, hd, hb1⟩
  have H1 : Hid (Below w.heap.size w w1 ∧ blk w1 w.heap.size 47 #[.int .i64 0, .int .i64 0, .int .i64 0, .int .i64 0, .int .i64 0, .int .i64 0, .string { data := #[] }, .int .i64 0, .int .i64 0] ∧ RB w1 (.slice a b.length c) b ∧ EVw w1 ∧ PSA w1.heap.size w1 (.slice pa pn pc) p) := by
    obtain ⟨q1, q2, q3, q4, q5⟩ := H0.out
    have h2 := q1.trans (hb1.mono q1.size)
    refine ⟨h2, q2.keep (hb1.block _ q2.lt), q3.keep hb1, q4.keep hb1, ?_⟩
    obtain ⟨a', c', e', h⟩ := q5.keep (w' := w1) (fun k hk => hb1.block k (Nat.lt_of_lt_of_le hk q1.size))
    refine ⟨a', c', e', ?_⟩
    rcases h with h | ⟨g, o, g1, g2, g3⟩
    · exact .inl h
    · exact .inr ⟨g, o, g1, Nat.lt_of_lt_of_le g2 h2.size, g3⟩
  have HD := Lib.hid hd
  generalize hRb : w.heap.size = Rb at *
  have HZ : Hid (Rb = w.heap.size) := hRb.symm
  clear hb1 H0 hRb
  by_cases he : er = 0
  · subst he
    have hl : b.length ≤ 1048576 := (dout_txt hd).2.2
    have HC := Lib.hid (follow22 a c b w1 pa pn pc p H1.out.2.2.1 H1.out.2.2.2.1 hl H1.out.2.2.2.2 hp)
    clear hd hl
    go_wp2_with fail
    refine HC.out.mono ?_
    rintro e w2 ⟨h, pp, e0, hF, hb2, rfl⟩
    have H2 : Hid (Below Rb w w2 ∧ blk w2 Rb 47 #[.int .i64 0, .int .i64 0, .int .i64 0, .int .i64 0, .int .i64 0, .int .i64 0, .string { data := #[] }, .int .i64 0, .int .i64 0]) := by
      obtain ⟨q1, q2, _⟩ := H1.out
      exact ⟨q1.trans (hb2.mono (by have := q1.size; have := HZ.out; omega)), q2.keep (hb2.block _ q2.lt)⟩
    have HF := Lib.hid hF
    obtain ⟨⟨qkd, qfr, qto, qdp, qup, qnt, qky, qpl, qfi⟩, hq⟩ : ∃ q, (fwF p h).1 = q := ⟨_, rfl⟩
    have HQ := Lib.hid hq
    rw [hq]
    generalize hE : (if (⟨qkd, qfr, qto, qdp, qup, qnt, qky, qpl, qfi⟩ : Vi).dp = (pn : Int) then (0 : Int) else if nestB ⟨qkd, qfr, qto, qdp, qup, qnt, qky, qpl, qfi⟩ = true then 30 else 31) = E
    have HE := Lib.hid hE
    obtain ⟨z0, z1, z2, z3, z4, z5, z6, z7, z8⟩ := H2.out.2.cells9
    obtain ⟨f0, f1, f2, f3, f4, f5, f6, f7, f8⟩ := H2.out.2.frozen9
    clear HC hF hb2 H1 hq hE
    go_wp2
    obtain ⟨y1, y2⟩ := box9B H2.out.2 (.int .i64 qkd) (.int .i64 qfr) (.int .i64 qto) (.int .i64 qdp) (.int .i64 qup) (.int .i64 qnt) (.string qky) (.int .i64 qpl) (.int .i64 qfi)
    generalize hX : set9 w2 Rb (.int .i64 qkd) (.int .i64 qfr) (.int .i64 qto) (.int .i64 qdp) (.int .i64 qup) (.int .i64 qnt) (.string qky) (.int .i64 qpl) (.int .i64 qfi) = X at *
    unfold set9 at hX
    rw [hX]
    refine bodyPost_ret (v := .tuple #[.agg #[.int .i64 qkd, .int .i64 qfr, .int .i64 qto, .int .i64 qdp, .int .i64 qup, .int .i64 qnt, .string qky, .int .i64 qpl, .int .i64 qfi], .int .i64 E]) (results_cell47t Tryd.results19 _ _ Rb _ rfl y2 rfl) rfl ?_
    have hb := H2.out.1
    exact ⟨t, k, 0, HD.out, ⟨y1.os.trans hb.os, y1.tape.trans hb.tape, y1.output.trans hb.output, Nat.le_trans hb.size y1.size, fun k hk => (y1.block k (Nat.lt_of_lt_of_le hk hb.size) (by have := HZ.out; omega)).trans (hb.block k (by have := HZ.out; omega))⟩, .inr ⟨rfl, h, pp, e0, HF.out, by rw [HQ.out, HE.out]⟩⟩
  · have he' : (er != 0) = true := by simpa using he
    obtain ⟨z0, z1, z2, z3, z4, z5, z6, z7, z8⟩ := H1.out.2.1.cells9
    obtain ⟨f0, f1, f2, f3, f4, f5, f6, f7, f8⟩ := H1.out.2.1.frozen9
    clear hd
    go_wp2
    obtain ⟨y1, y2⟩ := box9B H1.out.2.1 (.int .i64 0) (.int .i64 0) (.int .i64 0) (.int .i64 0) (.int .i64 0) (.int .i64 0) (.string { data := #[] }) (.int .i64 0) (.int .i64 0)
    generalize hX : set9 w1 Rb (.int .i64 0) (.int .i64 0) (.int .i64 0) (.int .i64 0) (.int .i64 0) (.int .i64 0) (.string { data := #[] }) (.int .i64 0) (.int .i64 0) = X at *
    unfold set9 at hX
    rw [hX]
    refine bodyPost_ret (v := .tuple #[.agg #[.int .i64 0, .int .i64 0, .int .i64 0, .int .i64 0, .int .i64 0, .int .i64 0, .string { data := #[] }, .int .i64 0, .int .i64 0], .int .i64 er]) (results_cell47t Tryd.results19 _ _ Rb _ rfl y2 rfl) rfl ?_
    have hb := H1.out.1
    exact ⟨t, k, er, HD.out, ⟨y1.os.trans hb.os, y1.tape.trans hb.tape, y1.output.trans hb.output, Nat.le_trans hb.size y1.size, fun k hk => (y1.block k (Nat.lt_of_lt_of_le hk hb.size) (by have := HZ.out; omega)).trans (hb.block k (by have := HZ.out; omega))⟩, .inl ⟨he, rfl⟩⟩
end Go.Proofs.YtdlnnnlmlaploaaDoor
namespace Go.Proofs.YtdlnnnlmlaploaaDoor
/-! ### The spans of a stack go on into those of the whole: plain lists -/
/-- one span goes on as another: its end may be set -/
structure Ag (x y : Sp) : Prop where
  kd : y.kind = x.kind
  fr : y.fr = x.fr
  dp : y.dep = x.dep
  up : y.up = x.up
  nt : y.nth = x.nth
  ky : y.key = x.key
  to : x.to ≠ 0 → y.to = x.to
theorem Ag.refl (x : Sp) : Ag x x := ⟨rfl, rfl, rfl, rfl, rfl, rfl, fun _ => rfl⟩
theorem Ag.trans {x y z : Sp} (h : Ag x y) (k : Ag y z) : Ag x z := ⟨k.kd.trans h.kd, k.fr.trans h.fr, k.dp.trans h.dp, k.up.trans h.up, k.nt.trans h.nt, k.ky.trans h.ky, fun e => (k.to (by rw [h.to e]; exact e)).trans (h.to e)⟩
/-- a list of spans goes on as another: what is new stands below one of P, or below what is new -/
structure Ext (P : Int → Prop) (A B : List Sp) : Prop where
  old : ∀ (j : Nat) (x : Sp), A[j]? = some x → ∃ y, B[j]? = some y ∧ Ag x y
  new : ∀ (j : Nat) (y : Sp), A.length ≤ j → B[j]? = some y → P y.up ∨ (A.length : Int) ≤ y.up
theorem Ext.len {P : Int → Prop} {A B : List Sp} (h : Ext P A B) : A.length ≤ B.length := by
  rcases Nat.lt_or_ge B.length A.length with g | g
  · obtain ⟨y, hy, _⟩ := h.old B.length _ (List.getElem?_eq_getElem g)
    rw [List.getElem?_eq_none (Nat.le_refl _)] at hy
    cases hy
  · exact g
theorem Ext.trans {P P' : Int → Prop} {A B C : List Sp} (h : Ext P A B) (k : Ext P' B C) (hp : ∀ u, P' u → P u ∨ (A.length : Int) ≤ u) : Ext P A C where
  old := fun j x hx => by
    obtain ⟨y, hy, a1⟩ := h.old j x hx
    obtain ⟨z, hz, a2⟩ := k.old j y hy
    exact ⟨z, hz, a1.trans a2⟩
  new := fun j z hj hz => by
    by_cases hb : j < B.length
    · obtain ⟨z', hz', a⟩ := k.old j _ (List.getElem?_eq_getElem hb)
      obtain rfl := Option.some.inj (hz.symm.trans hz')
      rw [a.up]
      exact h.new j _ hj (List.getElem?_eq_getElem hb)
    · rcases k.new j z (by omega) hz with g | g
      · exact hp _ g
      · have := h.len
        exact .inr (by omega)
theorem Ext.refl (P : Int → Prop) (A : List Sp) : Ext P A A where
  old := fun j x hx => ⟨x, hx, .refl x⟩
  new := fun j y hj hy => by rw [List.getElem?_eq_none hj] at hy; cases hy
theorem Ext.app {P : Int → Prop} {A B : List Sp} (hB : ∀ y ∈ B, P y.up ∨ (A.length : Int) ≤ y.up) : Ext P A (A ++ B) where
  old := fun j x hx => by
    have hl := (List.getElem?_eq_some_iff.1 hx).1
    exact ⟨x, by rw [List.getElem?_append_left hl]; exact hx, .refl x⟩
  new := fun j y hj hy => by
    rw [List.getElem?_append_right hj] at hy
    exact hB y (List.mem_of_getElem? hy)
theorem Ext.set {P : Int → Prop} {A B : List Sp} {x y : Sp} (h : Ag x y) : Ext P (A ++ x :: B) (A ++ y :: B) where
  old := fun j z hz => by
    by_cases h1 : j < A.length
    · rw [List.getElem?_append_left h1] at hz ⊢
      exact ⟨z, hz, .refl z⟩
    · rw [List.getElem?_append_right (by omega)] at hz ⊢
      match hj : j - A.length with
      | 0 =>
        rw [hj] at hz
        simp only [List.getElem?_cons_zero, Option.some.injEq] at hz ⊢
        subst hz
        exact ⟨y, rfl, h⟩
      | m + 1 =>
        rw [hj] at hz
        simp only [List.getElem?_cons_succ] at hz ⊢
        exact ⟨z, hz, .refl z⟩
  new := fun j z hj hz => by
    rw [List.getElem?_eq_none (by simpa using hj)] at hz
    cases hz
/-- the places of what is open -/
def plS : List Fr → Int → Prop
  | [], k => k = -1
  | _ :: r, k => k = ((stS r).1.length : Int) ∨ plS r k
theorem plS_top : ∀ st : List Fr, plS st (dueS st).up
  | [] => rfl
  | _ :: _ => .inl rfl
def spO : Out → List Sp
  | .go st _ => (stS st).1
  | .val t _ => walkT t 0 (dueS [])
  | .bad _ _ => []
def plO : Out → Int → Prop
  | .go st _ => plS st
  | .val _ _ => fun _ => False
  | .bad _ _ => fun _ => False
theorem spO_deliver {st : List Fr} {t : T} {j : Nat} (hw : AW st) : spO (deliver st t j) = (stS st).1 ++ walkT t (stS st).1.length (dueS st) := by
  match st, hw with
  | [], _ => rfl
  | f :: r, hw => exact stS_join hw
theorem plO_deliver {st : List Fr} {t : T} {j : Nat} {u : Int} (h : plO (deliver st t j) u) : plS st u := by
  match st, h with
  | [], h => exact h.elim
  | f :: r, h => exact h
def Grow (st : List Fr) (o : Out) : Prop := Ext (plS st) (stS st).1 (spO o) ∧ ∀ u, plO o u → plS st u ∨ ((stS st).1.length : Int) ≤ u
theorem grow_leaf {st : List Fr} {t : T} {j : Nat} (hw : AW st) (ht : t = tNum t.n ∨ t = tStr t.s) : Grow st (deliver st t j) := by
  refine ⟨?_, fun u hu => .inl (plO_deliver hu)⟩
  rw [spO_deliver hw]
  refine Ext.app fun y hy => .inl ?_
  have e : y.up = (dueS st).up := by
    rcases ht with e | e
    · rw [e, walkT_num] at hy; rw [List.mem_singleton.1 hy]
    · rw [e, walkT_str] at hy; rw [List.mem_singleton.1 hy]
  rw [e]
  exact plS_top st
theorem grow_open {st : List Fr} (d : Bool) (i : Nat) : Grow st (.go ({ d := d } :: st) i) := by
  refine ⟨?_, fun u hu => ?_⟩
  · show Ext _ _ (stS ({ d := d } :: st)).1
    rw [stS_open]
    refine Ext.app fun y hy => .inl ?_
    rw [List.mem_singleton.1 hy]
    exact plS_top st
  · rcases hu with rfl | hu
    · exact .inr (Int.le_refl _)
    · exact .inl hu
theorem grow_close {f : Fr} {r : List Fr} {i : Nat} (hw : AW r) : Grow (f :: r) (deliver r f.close i) := by
  refine ⟨?_, fun u hu => .inl (.inr (plO_deliver hu))⟩
  rw [spO_deliver hw, stS_close, stS_top]
  exact Ext.set ⟨rfl, rfl, rfl, rfl, rfl, rfl, fun e => absurd rfl e⟩
theorem grow_opn {b : List UInt8} {st : List Fr} {i : Nat} (hw : AW st) (hb : ∀ p e, opn b st i ≠ .bad p e) : Grow st (opn b st i) := by
  unfold opn at hb ⊢
  split
  · rename_i h1
    rw [if_pos h1] at hb
    split
    · rename_i h2; rw [if_pos h2] at hb; exact absurd rfl (hb _ _)
    · exact grow_open false _
  · rename_i h1
    rw [if_neg h1] at hb
    split
    · rename_i h3
      rw [if_pos h3] at hb
      split
      · rename_i h2; rw [if_pos h2] at hb; exact absurd rfl (hb _ _)
      · exact grow_open true _
    · rename_i h3
      rw [if_neg h3] at hb
      unfold scal at hb ⊢
      split
      · rename_i h4
        rw [if_pos h4] at hb
        cases hn : numb b i with
        | bad p e => rw [hn] at hb; exact absurd rfl (hb _ _)
        | ok n j => exact grow_leaf hw (.inl rfl)
      · rename_i h4
        rw [if_neg h4] at hb
        split
        · rename_i h5
          rw [if_pos h5] at hb
          cases hn : strg b i with
          | bad p e => rw [hn] at hb; exact absurd rfl (hb _ _)
          | ok n j => exact grow_leaf hw (.inr rfl)
        · rename_i h5
          rw [if_neg h5] at hb
          exact absurd rfl (hb _ _)
theorem grow_step {b : List UInt8} {st : List Fr} {i : Nat} (hO : OI b (.go st i)) (hb : ∀ p e, step b st i ≠ .bad p e) : Grow st (step b st i) := by
  obtain ⟨_, _, hs⟩ := hO
  unfold step at hb ⊢
  split
  · rename_i h1; rw [if_pos h1] at hb; exact absurd rfl (hb _ _)
  · rename_i h1
    rw [if_neg h1] at hb
    match st, hs, hb with
    | [], hs, hb => exact grow_opn trivial hb
    | f :: r, hs, hb =>
      dsimp only at hb ⊢
      split
      · rename_i hf
        rw [if_pos hf] at hb
        split
        · exact grow_close hs.2.1
        · rename_i hc
          rw [if_neg hc] at hb
          unfold keyy at hb ⊢
          split
          · rename_i h2; rw [if_pos h2] at hb; exact absurd rfl (hb _ _)
          · rename_i h2
            rw [if_neg h2] at hb
            cases hn : strg b i with
            | bad p e => rw [hn] at hb; exact absurd rfl (hb _ _)
            | ok s j =>
              rw [hn] at hb
              dsimp only at hb ⊢
              split
              · rename_i h3; rw [if_pos h3] at hb; exact absurd rfl (hb _ _)
              · exact ⟨Ext.refl _ _, fun u hu => .inl hu⟩
      · rename_i hf
        rw [if_neg hf] at hb
        split
        · exact grow_close hs.2.1
        · rename_i hc
          rw [if_neg hc] at hb
          refine grow_opn (fun e => ?_) hb
          cases hh : f.has with
          | true => rfl
          | false => exact absurd ⟨e, hh⟩ hf
theorem run_grow {b : List UInt8} (hlim : b.length ≤ 1048576) {o q : Out} (H : Run b o q) : ∀ {t : T} {n : Nat}, q = .val t n → OI b o → Ext (plO o) (spO o) (walkT t 0 (dueS [])) := by
  induction H with
  | refl o => intro t n e _; subst e; exact Ext.refl _ _
  | @more st i o hr ih =>
    intro t n e hO
    subst e
    have hb : ∀ p e, step b st i ≠ .bad p e := fun p e h => by
      rw [h] at hr
      cases hr
    obtain ⟨h1, h2⟩ := grow_step hO hb
    exact h1.trans (ih rfl (oi_step (by omega) hO)) h2
theorem Run.rest {b : List UInt8} {o p q : Out} (h : Run b o p) (k : Run b o q) (hq : q.fin) : Run b p q := by
  induction h with
  | refl o => exact k
  | more _ ih =>
    cases k with
    | refl => exact hq.elim
    | more k' => exact ih k'
theorem dout_run {b : List UInt8} {t : T} {k : Nat} (h : DOUT b t k 0) : ∃ n, Run b (.go [] 0) (.val t n) := by
  rcases h with ⟨_, _, _, n, hr, _⟩ | ⟨_, ⟨e, _⟩ | ⟨hr, _⟩ | ⟨_, _, e⟩⟩
  · exact ⟨n, hr⟩
  · cases e
  · have := run_er hr; omega
  · cases e
/-! ### The same of what is shown -/
/-- alike but for the end and the two last -/
structure Eq6 (x y : Vi) : Prop where
  kd : y.kd = x.kd
  fr : y.fr = x.fr
  dp : y.dp = x.dp
  up : y.up = x.up
  nt : y.nt = x.nt
  ky : y.ky = x.ky
theorem Eq6.refl (x : Vi) : Eq6 x x := ⟨rfl, rfl, rfl, rfl, rfl, rfl⟩
theorem Eq6.trans {x y z : Vi} (h : Eq6 x y) (k : Eq6 y z) : Eq6 x z := ⟨k.kd.trans h.kd, k.fr.trans h.fr, k.dp.trans h.dp, k.up.trans h.up, k.nt.trans h.nt, k.ky.trans h.ky⟩
theorem Eq6.symm {x y : Vi} (h : Eq6 x y) : Eq6 y x := ⟨h.kd.symm, h.fr.symm, h.dp.symm, h.up.symm, h.nt.symm, h.ky.symm⟩
structure EX (ls : List Lv) (K L : List Vi) : Prop where
  old : ∀ (j : Nat) (x : Vi), K[j]? = some x → ∃ y, L[j]? = some y ∧ Eq6 x y ∧ (x.to ≠ 0 → y.to = x.to)
  new : ∀ (j : Nat) (y : Vi), K.length ≤ j → L[j]? = some y → (y.up = -1 ∨ ∃ l ∈ ls, l.pl = y.up) ∨ (K.length : Int) ≤ y.up
theorem plS_ls : ∀ {ls : List Lv} {st : List Fr}, LRw ls st → ∀ {k : Int}, plS st k → k = -1 ∨ ∃ l ∈ ls, l.pl = k
  | [], [], _, _, h => .inl h
  | l :: r, f :: s, hw, k, h => by
    rcases h with h | h
    · exact .inr ⟨l, by simp, by rw [hw.1.bs.pl, h]⟩
    · rcases plS_ls hw.2 h with e | ⟨x, hx, e⟩
      · exact .inl e
      · exact .inr ⟨x, by simp [hx], e⟩
  | [], _ :: _, h, _, _ => h.elim
  | _ :: _, [], h, _, _ => h.elim
theorem EX.of {ls : List Lv} {K : List Vi} {A B : List Sp} {P : Int → Prop} (h : K.map Vi.o = A.map Sp.v) (hx : Ext P A B) (hP : ∀ k, P k → k = -1 ∨ ∃ l ∈ ls, l.pl = k) : EX ls K (B.map Sp.v) := by
  have hl : K.length = A.length := by rw [← List.length_map (f := Vi.o), h, List.length_map]
  constructor
  · intro j x hj
    have h1 : (A.map Sp.v)[j]? = some x.o := by rw [← h, List.getElem?_map, hj]; rfl
    rw [List.getElem?_map, Option.map_eq_some_iff] at h1
    obtain ⟨a, ha, hax⟩ := h1
    obtain ⟨y, hy, ag⟩ := hx.old j a ha
    refine ⟨y.v, by rw [List.getElem?_map, hy]; rfl, ⟨?_, ?_, ?_, ?_, ?_, ?_⟩, fun hne => ?_⟩
    · rw [show x.kd = x.o.kd from rfl, ← hax]; exact ag.kd
    · rw [show x.fr = x.o.fr from rfl, ← hax]; exact congrArg Int.ofNat ag.fr
    · rw [show x.dp = x.o.dp from rfl, ← hax]; exact congrArg Int.ofNat ag.dp
    · rw [show x.up = x.o.up from rfl, ← hax]; exact ag.up
    · rw [show x.nt = x.o.nt from rfl, ← hax]; exact congrArg Int.ofNat ag.nt
    · rw [show x.ky = x.o.ky from rfl, ← hax]; exact ag.ky
    · rw [show x.to = x.o.to from rfl, ← hax] at hne ⊢
      have hne' : a.to ≠ 0 := fun e => hne (by show (a.to : Int) = 0; rw [e]; rfl)
      exact congrArg Int.ofNat (ag.to hne')
  · intro j y hj hy
    rw [List.getElem?_map, Option.map_eq_some_iff] at hy
    obtain ⟨a, ha, rfl⟩ := hy
    rcases hx.new j a (by omega) ha with g | g
    · exact .inl (hP _ g)
    · exact .inr (by rw [hl]; exact g)
/-- what was shown so far goes on into the spans of the whole -/
theorem Rch.ext {b : List UInt8} (hlim : b.length ≤ 1048576) {h : List Vi} {s : RS} (H : Rch b gT h s) {t : T} {k : Nat} (hd : DOUT b t k 0) : EX s.ls (sk h) ((walkT t 0 (dueS [])).map Sp.v) := by
  obtain ⟨n, hr⟩ := dout_run hd
  have hp := H.plain hlim
  have h0 : OI b (.go [] 0) := ⟨Nat.zero_le _, rfl, trivial⟩
  match s, hp with
  | .val ls i m, hp =>
    obtain ⟨st, h1, _, h3, h4⟩ := hp
    exact EX.of h4 (run_grow hlim (h1.rest hr trivial) rfl (oi_run (by omega) h1 h0)) fun k hk => plS_ls h3 hk
  | .mid [] i m, hp =>
    obtain ⟨t', h1, h4⟩ := hp
    have e := Run.unique h1 hr trivial trivial
    injection e with e1 e2
    subst e1
    exact EX.of h4 (Ext.refl (fun _ => False) _) fun k hk => hk.elim
  | .mid (l :: r) i m, hp =>
    obtain ⟨f, st, h1, h2, h3, h4⟩ := hp
    refine EX.of h4 (run_grow hlim (h1.rest hr trivial) rfl (oi_run (by omega) h1 h0)) fun k hk => ?_
    rcases hk with rfl | hk
    · exact .inr ⟨l, by simp [RS.ls], h2.bs.pl⟩
    · rcases plS_ls h3 hk with e | ⟨x, hx, e⟩
      · exact .inl e
      · exact .inr ⟨x, by simp [RS.ls, hx], e⟩
end Go.Proofs.YtdlnnnlmlaploaaDoor
