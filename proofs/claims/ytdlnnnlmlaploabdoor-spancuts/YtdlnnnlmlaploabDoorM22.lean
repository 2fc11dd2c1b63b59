import Derived.Test.YtdlnnnlmlaploabDoorM21
namespace Go.Proofs.YtdlnnnlmlaploabDoor
theorem byt_lt {b : List UInt8} {i : Nat} {x : UInt8} (h : byt b i = x) (hx : x ≠ 0) : i < b.length := by
  rcases Nat.lt_or_ge i b.length with g | g
  · exact g
  · rw [byt_end g] at h; exact absurd h.symm hx
/-- how Skim's reading ends is what layer 2 says of the text; if there is no fault it has shown the spans of the tree -/
theorem Fin.out {b : List UInt8} (hlim : b.length ≤ 1048576) {h : List Vi} {p er : Int} (H : Fin b gT h p er) : ∃ t, ∃ k : Nat, p = (k : Int) ∧ DOUT b t k er ∧ (er = 0 → (sk h).map Vi.o = (walkT t 0 (dueS [])).map Sp.v) := by
  have bad : ∀ {k : Nat} {e : Int}, Run b (.go [] 0) (.bad k e) → DOUT b t0 k e := fun hr => .inr ⟨rfl, .inr (.inl ⟨hr, hlim⟩)⟩
  cases H with
  | vstop _ _ hg => cases hg
  | estop _ _ _ hg => cases hg
  | @vbad h ls i n er i' hr hz hv =>
    obtain ⟨st, h1, h2, h3, _⟩ := hr.plain hlim
    obtain ⟨hi, _⟩ := run_at hlim h1
    refine ⟨t0, i', rfl, bad ?_, fun e => absurd e hz⟩
    rcases hv with ⟨c1, c2, j, c3, rfl⟩ | ⟨c1, c2, c3, rfl, rfl⟩
    · have e := step_leaf hi h2 c1 c2
      rw [c3] at e
      exact h1.snoc e
    · have hl : 32 ≤ st.length := by rw [← h3.len]; exact c2
      rcases c3 with c3 | c3
      · exact h1.snoc (by rw [sx_list c1 h2 c3, if_pos hl])
      · exact h1.snoc (by rw [sx_dict c1 h2 c3, if_pos hl])
  | @pbad h l r i n er i' hr hb hp =>
    obtain ⟨f, s, h1, h2, h3, _⟩ := hr.plain hlim
    obtain ⟨hi, _⟩ := run_at hlim h1
    obtain ⟨c1, hp⟩ := hp
    have hkd : l.kd = f.kd := by have := congrArg Vi.kd h2.bs.o; exact this
    have hd : f.d = true := by
      rw [c1] at hkd
      unfold Fr.kd at hkd
      cases hf : f.d with
      | true => rfl
      | false => rw [hf] at hkd; cases hkd
    have hnz : er ≠ 0 := by
      rcases hp with ⟨_, e, _⟩ | ⟨_, ⟨_, _, e, _⟩ | ⟨_, _, _, _, _, e, _⟩⟩
      · rw [e]; decide
      · exact e
      · rw [e]; decide
    refine ⟨t0, i', rfl, bad ?_, fun e => absurd e hnz⟩
    rcases hp with ⟨c2, rfl, rfl⟩ | ⟨c2, c3⟩
    · refine h1.snoc ?_
      have hlt : i' < b.length := by
        rcases c2 with c2 | c2 | c2
        · exact byt_lt c2 (by decide)
        · exact byt_lt c2 (by decide)
        · exact byt_lt c2 (by decide)
      unfold step
      rw [if_neg (by omega)]
      dsimp only
      rw [if_pos ⟨hd, h2.has hd⟩, if_neg hb]
      unfold keyy
      rw [if_pos (by rcases c2 with c2 | c2 | c2 <;> rw [c2] <;> rfl)]
    · have e := sx_key (r := s) hi hd (h2.has hd) hb (fun e => c2 (.inr (.inl e))) (fun e => c2 (.inr (.inr e))) (fun e => c2 (.inl e))
      rcases c3 with ⟨j, c3, _, rfl⟩ | ⟨t, j, c3, c4, c5, rfl, rfl⟩
      · rw [c3] at e
        exact h1.snoc e
      · rw [c3] at e
        dsimp only at e
        have hps : f.ps ≠ [] := fun e0 => by
          rw [h2.pa] at c4
          unfold Fr.num at c4
          rw [if_pos hd, e0] at c4
          simp at c4
        rw [if_pos ⟨hps, by rw [← h2.kd hd hps]; exact c5⟩] at e
        exact h1.snoc e
  | @trail h i n hr hi =>
    obtain ⟨t, h1, _⟩ := hr.plain hlim
    exact ⟨t0, i, rfl, .inr ⟨rfl, .inl ⟨rfl, hi, hlim, t, h1⟩⟩, fun e => by cases e⟩
  | @done h i n hr hi =>
    obtain ⟨t, h1, h2⟩ := hr.plain hlim
    exact ⟨t, 0, rfl, .inl ⟨rfl, rfl, hlim, i, h1, hi⟩, fun _ => h2⟩
/-- the cells of the spans of a tree -/
def spT (t : T) : List Value := spW ((walkT t 0 (dueS [])).map Sp.v)
def spN (t : T) : Nat := (walkT t 0 (dueS [])).length
/-- Skim's answer, by layer 2's words -/
def SKA (b : List UInt8) (B : Nat) (w' : World) (v : Value) (k : Nat) (er : Int) : Prop :=
  ∃ t, DOUT b t k er ∧ ((er ≠ 0 ∧ v = .slice none 0 0) ∨ (er = 0 ∧ w'.ownsRow B 37 7 v (spN t) (spT t)))
theorem SKO.out {b : List UInt8} {w w' : World} {v : Value} {p er : Int} (h : SKO b w w' v p er) : ∃ k : Nat, p = (k : Int) ∧ SKA b (w.heap.size + 1) w' v k er := by
  rcases h with ⟨h1, rfl, rfl, rfl⟩ | ⟨h1, hh, h2, h3⟩
  · exact ⟨0, rfl, t0, .inr ⟨rfl, .inr (.inr ⟨h1, rfl, rfl⟩)⟩, .inl ⟨by decide, rfl⟩⟩
  · obtain ⟨t, k, rfl, d, e⟩ := h2.out h1
    refine ⟨k, rfl, t, d, ?_⟩
    rcases h3 with h3 | ⟨rfl, _, h3⟩
    · exact .inl h3
    · refine .inr ⟨rfl, ?_⟩
      have e' := e rfl
      have hl : (sk hh).length = spN t := by rw [← List.length_map (f := Vi.o), e', List.length_map]; rfl
      rw [spW_o, e', hl] at h3
      exact h3
end Go.Proofs.YtdlnnnlmlaploabDoor
namespace Go.Proofs.YtdlnnnlmlaploabDoor
open Go.RowKit Go.Deep
/-! ### span.check: the reader with a visitor that says yes -/
theorem check33 (v : Vi) (w : World) : Calls Tryd.prog 44 #[.agg (Vi.cs v)] w fun e w' => e = .returned (.bool true) ∧ Below w.heap.size w w' := by
  go_enter Tryd.func44, Tryd.ntmps44
  go_wp2
  go_ret
  exact ⟨rfl, (Below.refl _ _).alloc (Nat.le_refl _) _⟩
theorem visC {b : List UInt8} {A : Nat} : Vis b 44 #[] gT (fun _ _ S => ∀ k, ¬ S k) A where
  keep := fun _ _ _ _ h _ _ => h
  own := fun _ _ _ h k hk => absurd hk (h k)
  enter := fun args w => by
    show (callFunc 44 args).run Tryd.prog w = .ok (.enter 44 args) w
    kernel_rfl
  call := fun h w S v hS hx => by
    refine (check33 v w).mono ?_
    rintro e w' ⟨rfl, hb⟩
    exact ⟨rfl, S, hS, ⟨hb.os, hb.tape, hb.output, hb.size, fun k hk _ => hb.block k hk, fun k hk => .inl hk⟩⟩
set_option maxHeartbeats 1000000 in
/-- check's answer, by layer 2's words -/
theorem check21 (v : Value) (b : List UInt8) (w : World) (hr : RB w v b) (hev : EVw w) :
    Calls Tryd.prog 26 #[v] w fun e w' => ∃ t k er, e = .returned (.int .i64 er) ∧ DOUT b t k er ∧ Below w.heap.size w w' := by
  obtain ⟨a, c, rfl, hc, ht⟩ := hr
  by_cases hl : b.length ≤ 1048576
  · have hA : b = [] ∨ ∀ g o, a = some ⟨g, o, none⟩ → g < w.heap.size := by
      rcases ht with h | ⟨g', o', e', h1, _⟩
      · exact .inl h
      · exact .inr fun g o e => by rw [e'] at e; injection e with e; injection e with e1; omega
    have h4 : 1 < w.heap.size := by obtain ⟨_, ⟨t, p, h2⟩⟩ := hev; exact World.block_lt_of_cell? w _ h2
    have C := Lib.hid (read26 (visC (A := w.heap.size)) hl hc hA h4 (Nat.le_refl _) hev ht (fun k => id))
    have HB := Lib.hid hl
    clear ht hev hA h4 hc hl
    go_enter Tryd.func26, Tryd.ntmps26
    go_wp2_with fail
    refine C.out.mono ?_
    rintro e w' ⟨h, p, er, S, rfl, hF, _, hv⟩
    obtain ⟨t, k, rfl, hd, _⟩ := hF.out HB.out
    have HF : Hid (DOUT b t k er ∧ Below w.heap.size w w') := ⟨hd, hv.os, hv.tape, hv.output, hv.size, fun k hk => hv.block k hk id⟩
    clear hF hd hv C
    go_wp2
    go_ret
    exact ⟨t, k, er, rfl, HF.out⟩
  · have C := read26x (w := w) (a := a) (c := c) (show 1048576 < b.length by omega) (.func (.func 44) #[] #[])
    have HL : Hid (1048576 < b.length) := by show _ < _; omega
    clear ht hc hev
    go_enter Tryd.func26, Tryd.ntmps26
    go_wp2_with fail
    refine C.mono ?_
    rintro e w' ⟨rfl, rfl⟩
    go_wp2
    go_ret
    exact ⟨t0, 0, 20, rfl, .inr ⟨rfl, .inr (.inr ⟨HL.out, rfl, rfl⟩)⟩, Below.refl _ _⟩
end Go.Proofs.YtdlnnnlmlaploabDoor
namespace Go.Proofs.YtdlnnnlmlaploabDoor
open Go.RowKit Go.Deep
/-! ### span.leads -/
/-- a path in memory -/
def PS (w : World) (v : Value) (p : List (Int × ByteArray)) : Prop := ∃ a c, v = .slice a p.length c ∧ (p = [] ∨ ∃ g o, a = some ⟨g, o, none⟩ ∧ g < w.heap.size ∧ ∀ i n k, p[i]? = some (n, k) → w.cell? ⟨g, o + i * 2, none⟩ = some (.int .i64 n) ∧ w.cell? ⟨g, o + i * 2 + 1, none⟩ = some (.string k))
theorem PS.keep {w w' : World} {v : Value} {p : List (Int × ByteArray)} (h : PS w v p) (hb : Below w.heap.size w w') : PS w' v p := by
  obtain ⟨a, c, rfl, h⟩ := h
  refine ⟨a, c, rfl, ?_⟩
  rcases h with h | ⟨g, o, h1, h2, h3⟩
  · exact .inl h
  · exact .inr ⟨g, o, h1, Nat.lt_of_lt_of_le h2 hb.size, fun i n k hi => ⟨(World.cell?_of_block (w := w) (hb.block g h2)).trans (h3 i n k hi).1, (World.cell?_of_block (w := w) (hb.block g h2)).trans (h3 i n k hi).2⟩⟩
def leadsP (p : List (Int × ByteArray)) (ar : Int) (v : Vi) : Bool :=
  if v.dp = 0 then true else match p[(v.dp - 1).toNat]? with
  | some (n, k) => if ar = 3 then n == v.nt else k.toList == v.ky.toList
  | none => false
set_option maxRecDepth 10000 in
set_option maxHeartbeats 2000000 in
theorem leads35 (pv : Value) (p : List (Int × ByteArray)) (w : World) (ar : Int) (v : Vi) (h : PS w pv p) (hd : ∃ d : Nat, v.dp = (d : Int) ∧ d ≤ 1048577) (hp : p.length ≤ 140737488351232) :
    Calls Tryd.prog 46 #[pv, .int .i64 ar, .agg (Vi.cs v)] w fun e w' => e = .returned (.bool (leadsP p ar v)) ∧ Below w.heap.size w w' := by
  obtain ⟨kd, fr, to, dp, up, nt, ky, pl, fi⟩ := v
  obtain ⟨d, hd, hd2⟩ := hd
  obtain rfl : dp = (d : Int) := hd
  obtain ⟨a, c, rfl, h⟩ := h
  show Calls Tryd.prog 46 #[.slice a p.length c, .int .i64 ar, .agg #[.int .i64 kd, .int .i64 fr, .int .i64 to, .int .i64 (d : Int), .int .i64 up, .int .i64 nt, .string ky, .int .i64 pl, .int .i64 fi]] w _
  have b0 : Below w.heap.size w (w.alloc (Obj.cells #[.int .i64 kd, .int .i64 fr, .int .i64 to, .int .i64 (d : Int), .int .i64 up, .int .i64 nt, .string ky, .int .i64 pl, .int .i64 fi] 60)) := (Below.refl _ _).alloc (Nat.le_refl _) _
  cases d with
  | zero =>
    have HB := Lib.hid b0
    clear h b0
    go_enter Tryd.func46, Tryd.ntmps46
    go_wp2
    go_ret
    exact ⟨rfl, HB.out⟩
  | succ m =>
    have hm0 : ((m : Int) + 1 == 0) = false := beq_eq_false_iff_ne.2 (by omega)
    have HLP : Hid (leadsP p ar ⟨kd, fr, to, ((m + 1 : Nat) : Int), up, nt, ky, pl, fi⟩ = match p[m]? with | some (n, k) => if ar = 3 then n == nt else k.toList == ky.toList | none => false) := by
      show leadsP _ _ _ = _
      unfold leadsP
      rw [if_neg (by show ¬ ((m + 1 : Nat) : Int) = 0; omega)]
      rw [show ((((m + 1 : Nat) : Int)) - 1).toNat = m by omega]
    have HLP2 : Hid (leadsP p ar ⟨kd, fr, to, (m : Int) + 1, up, nt, ky, pl, fi⟩ = match p[m]? with | some (n, k) => if ar = 3 then n == nt else k.toList == ky.toList | none => false) := HLP
    by_cases hlen : p.length ≤ m
    · have hlen' : (p.length : Int) ≤ (m : Int) := by omega
      have hl2 : (p.length : Int) < (m : Int) + 1 := by omega
      have HB := Lib.hid b0
      have HE : Hid (p[m]? = none) := List.getElem?_eq_none hlen
      clear h b0
      go_enter Tryd.func46, Tryd.ntmps46
      go_wp2
      go_ret
      exact ⟨by rw [HLP.out, HE.out]; rfl, HB.out⟩
    · have hlt : m < p.length := by omega
      obtain ⟨⟨n, k⟩, hx⟩ : ∃ x, p[m]? = some x := ⟨_, List.getElem?_eq_getElem hlt⟩
      rcases h with rfl | ⟨g, o, rfl, hg, hcell⟩
      · simp at hlt
      obtain ⟨g0, g1⟩ := hcell m n k hx
      have g0a := cell_alloc_old (o := Obj.cells #[.int .i64 kd, .int .i64 fr, .int .i64 to, .int .i64 ((m : Int) + 1), .int .i64 up, .int .i64 nt, .string ky, .int .i64 pl, .int .i64 fi] 60) g0
      have g1a := cell_alloc_old (o := Obj.cells #[.int .i64 kd, .int .i64 fr, .int .i64 to, .int .i64 ((m : Int) + 1), .int .i64 up, .int .i64 nt, .string ky, .int .i64 pl, .int .i64 fi] 60) g1
      have hnl : ¬ (p.length : Int) < (m : Int) + 1 := by omega
      have hm1 : (0 : Int) ≤ (m : Int) := by omega
      have hm2 : (m : Int) < (p.length : Int) := by omega
      have HX := Lib.hid (And.intro hx b0)
      clear hcell hx hg b0
      by_cases har : ar = 3
      · subst har
        go_enter Tryd.func46, Tryd.ntmps46
        go_wp2
        go_ret
        exact ⟨by rw [HLP2.out, HX.out.1]; rfl, HX.out.2.alloc HX.out.2.size _⟩
      · have har' : (ar == 3) = false := beq_eq_false_iff_ne.2 har
        go_enter Tryd.func46, Tryd.ntmps46
        go_wp2
        go_ret
        exact ⟨by rw [HLP2.out, HX.out.1]; show _ = Ending.returned (Value.bool (if ar = 3 then _ else _)); rw [if_neg har]; rfl, HX.out.2.alloc HX.out.2.size _⟩
end Go.Proofs.YtdlnnnlmlaploabDoor
namespace Go.Proofs.YtdlnnnlmlaploabDoor
open Go.RowKit Go.Deep
/-! ### follow's visitor -/
/-- where the path has led, having been shown v -/
def fwS (p : List (Int × ByteArray)) (q v : Vi) : Vi := if v.up = q.pl ∧ leadsP p q.kd v = true then v else q
/-- the end of that: what is kept, and whether it goes on -/
def fwE (q v : Vi) : Vi × Bool := if v.pl = q.pl ∧ v.to ≠ 0 then (v, false) else (q, true)
def fw (p : List (Int × ByteArray)) (q v : Vi) : Vi × Bool := fwE (fwS p q v) v
theorem fwE_hit {q v : Vi} (h : v.pl = q.pl) (ht : v.to ≠ 0) : fwE q v = (v, false) := if_pos ⟨h, ht⟩
theorem fwE_miss {q v : Vi} (h : ¬ (v.pl = q.pl ∧ v.to ≠ 0)) : fwE q v = (q, true) := if_neg h
theorem box9B {w : World} {g : Nat} {c0 c1 c2 c3 c4 c5 c6 c7 c8 : Value} (hk : blk w g 60 #[c0, c1, c2, c3, c4, c5, c6, c7, c8]) (v0 v1 v2 v3 v4 v5 v6 v7 v8 : Value) :
    Besides g w (set9 w g v0 v1 v2 v3 v4 v5 v6 v7 v8) ∧ blk (set9 w g v0 v1 v2 v3 v4 v5 v6 v7 v8) g 60 #[v0, v1, v2, v3, v4, v5, v6, v7, v8] :=
  ⟨(((((((((Besides.refl g w).set1).set1).set1).set1).set1).set1).set1).set1).set1, ((((((((hk.s0 v0).s1 v1).s2 v2).s3 v3).s4 v4).s5 v5).s6 v6).s7 v7).s8 v8⟩
set_option maxRecDepth 10000 in
set_option maxHeartbeats 2000000 in
theorem follow34 {w : World} {Ab Pb : Nat} (q v : Vi) (p : List (Int × ByteArray)) (pv : Value) (hq : blk w Ab 60 (Vi.cs q)) (hpc : w.cell? ⟨Pb, 0, none⟩ = some pv) (hP : PS w pv p) (hd : ∃ d : Nat, v.dp = (d : Int) ∧ d ≤ 1048577) (hp : p.length ≤ 140737488351232) :
    Calls Tryd.prog 45 #[.agg (Vi.cs v), .pointer (some ⟨Ab, 0, none⟩), .pointer (some ⟨Pb, 0, none⟩)] w fun e w' => e = .returned (.bool (fw p q v).2) ∧ blk w' Ab 60 (Vi.cs (fw p q v).1) ∧ Besides Ab w w' := by
  obtain ⟨kd, fr, to, dp, up, nt, ky, pl, fi⟩ := v
  obtain ⟨d, hd, hd2⟩ := hd
  obtain rfl : dp = (d : Int) := hd
  obtain ⟨qkd, qfr, qto, qdp, qup, qnt, qky, qpl, qfi⟩ := q
  show Calls Tryd.prog 45 #[.agg #[.int .i64 kd, .int .i64 fr, .int .i64 to, .int .i64 (d : Int), .int .i64 up, .int .i64 nt, .string ky, .int .i64 pl, .int .i64 fi], .pointer (some ⟨Ab, 0, none⟩), .pointer (some ⟨Pb, 0, none⟩)] w _
  have b0 : Below w.heap.size w (w.alloc (Obj.cells #[.int .i64 kd, .int .i64 fr, .int .i64 to, .int .i64 (d : Int), .int .i64 up, .int .i64 nt, .string ky, .int .i64 pl, .int .i64 fi] 60)) := (Below.refl _ _).alloc (Nat.le_refl _) _
  have H0 : Hid (Besides Ab w (w.alloc (Obj.cells #[.int .i64 kd, .int .i64 fr, .int .i64 to, .int .i64 (d : Int), .int .i64 up, .int .i64 nt, .string ky, .int .i64 pl, .int .i64 fi] 60)) ∧ blk (w.alloc (Obj.cells #[.int .i64 kd, .int .i64 fr, .int .i64 to, .int .i64 (d : Int), .int .i64 up, .int .i64 nt, .string ky, .int .i64 pl, .int .i64 fi] 60)) Ab 60 #[.int .i64 qkd, .int .i64 qfr, .int .i64 qto, .int .i64 qdp, .int .i64 qup, .int .i64 qnt, .string qky, .int .i64 qpl, .int .i64 qfi] ∧ blk (w.alloc (Obj.cells #[.int .i64 kd, .int .i64 fr, .int .i64 to, .int .i64 (d : Int), .int .i64 up, .int .i64 nt, .string ky, .int .i64 pl, .int .i64 fi] 60)) w.heap.size 60 #[.int .i64 kd, .int .i64 fr, .int .i64 to, .int .i64 (d : Int), .int .i64 up, .int .i64 nt, .string ky, .int .i64 pl, .int .i64 fi] ∧ PS (w.alloc (Obj.cells #[.int .i64 kd, .int .i64 fr, .int .i64 to, .int .i64 (d : Int), .int .i64 up, .int .i64 nt, .string ky, .int .i64 pl, .int .i64 fi] 60)) pv p ∧ Ab < w.heap.size) := ⟨Besides.of_below b0, (show blk w Ab 60 #[.int .i64 qkd, .int .i64 qfr, .int .i64 qto, .int .i64 qdp, .int .i64 qup, .int .i64 qnt, .string qky, .int .i64 qpl, .int .i64 qfi] from hq).keep (b0.block _ (show blk w Ab 60 _ from hq).lt), heap_new _ _, hP.keep b0, (show blk w Ab 60 _ from hq).lt⟩
  have pc0 : (w.alloc (Obj.cells #[.int .i64 kd, .int .i64 fr, .int .i64 to, .int .i64 (d : Int), .int .i64 up, .int .i64 nt, .string ky, .int .i64 pl, .int .i64 fi] 60)).cell? ⟨Pb, 0, none⟩ = some pv := cell_alloc_old hpc
  have HPV : Hid (∃ a n c, pv = .slice a n c) := by obtain ⟨a, c, rfl, _⟩ := hP; exact ⟨a, _, c, rfl⟩
  obtain ⟨pa, pn, pc, rfl⟩ := HPV.out
  clear hq hpc hP b0
  obtain ⟨a0, a1, a2, a3, a4, a5, a6, a7, a8⟩ := H0.out.2.1.cells9
  obtain ⟨z0, z1, z2, z3, z4, z5, z6, z7, z8⟩ := H0.out.2.1.frozen9
  obtain ⟨v0, v1, v2, v3, v4, v5, v6, v7, v8⟩ := H0.out.2.2.1.cells9
  by_cases hu : up = qpl
  · subst hu
    have HL := Lib.hid (leads35 (.slice pa pn pc) p (w.alloc (Obj.cells #[.int .i64 kd, .int .i64 fr, .int .i64 to, .int .i64 (d : Int), .int .i64 up, .int .i64 nt, .string ky, .int .i64 pl, .int .i64 fi] 60)) qkd ⟨kd, fr, to, (d : Int), up, nt, ky, pl, fi⟩ H0.out.2.2.2.1 ⟨d, rfl, hd2⟩ hp)
    cases hlead : leadsP p qkd ⟨kd, fr, to, (d : Int), up, nt, ky, pl, fi⟩ with
    | true =>
      have HFW : Hid (fw p ⟨qkd, qfr, qto, qdp, qup, qnt, qky, up, qfi⟩ ⟨kd, fr, to, (d : Int), up, nt, ky, pl, fi⟩ = fwE ⟨kd, fr, to, (d : Int), up, nt, ky, pl, fi⟩ ⟨kd, fr, to, (d : Int), up, nt, ky, pl, fi⟩) := by
        show _ = _
        unfold fw fwS
        rw [if_pos ⟨rfl, hlead⟩]
      go_enter Tryd.func45, Tryd.ntmps45
      go_wp2_with fail
      refine HL.out.mono ?_
      rintro e w1 ⟨rfl, hb1⟩
      rw [hlead]
      have H1 : Hid (Besides Ab w w1 ∧ blk w1 Ab 60 #[.int .i64 qkd, .int .i64 qfr, .int .i64 qto, .int .i64 qdp, .int .i64 qup, .int .i64 qnt, .string qky, .int .i64 up, .int .i64 qfi] ∧ blk w1 w.heap.size 60 #[.int .i64 kd, .int .i64 fr, .int .i64 to, .int .i64 (d : Int), .int .i64 up, .int .i64 nt, .string ky, .int .i64 pl, .int .i64 fi] ∧ True) := by
        obtain ⟨q1, q2, q3, _⟩ := H0.out
        exact ⟨q1.trans (Besides.of_below hb1), q2.keep (hb1.block _ q2.lt), q3.keep (hb1.block _ q3.lt), trivial⟩
      clear hb1 HL a0 a1 a2 a3 a4 a5 a6 a7 a8 z0 z1 z2 z3 z4 z5 z6 z7 z8 v0 v1 v2 v3 v4 v5 v6 v7 v8
      obtain ⟨a0, a1, a2, a3, a4, a5, a6, a7, a8⟩ := H1.out.2.1.cells9
      obtain ⟨z0, z1, z2, z3, z4, z5, z6, z7, z8⟩ := H1.out.2.1.frozen9
      obtain ⟨v0, v1, v2, v3, v4, v5, v6, v7, v8⟩ := H1.out.2.2.1.cells9
      by_cases ht : to = 0
      · subst ht
        have i47 : (Tryd.prog.info? 60).map (·.size) = some (Vi.cs (⟨kd, fr, 0, (d : Int), up, nt, ky, pl, fi⟩ : Vi)).size := info47s
        have R2 : Hid (Besides Ab w (w1.setRow Ab (Vi.cs (⟨kd, fr, 0, (d : Int), up, nt, ky, pl, fi⟩ : Vi))) ∧ blk (w1.setRow Ab (Vi.cs (⟨kd, fr, 0, (d : Int), up, nt, ky, pl, fi⟩ : Vi))) Ab 60 (Vi.cs (⟨kd, fr, 0, (d : Int), up, nt, ky, pl, fi⟩ : Vi)) ∧ blk (w1.setRow Ab (Vi.cs (⟨kd, fr, 0, (d : Int), up, nt, ky, pl, fi⟩ : Vi))) w.heap.size 60 #[.int .i64 kd, .int .i64 fr, .int .i64 0, .int .i64 (d : Int), .int .i64 up, .int .i64 nt, .string ky, .int .i64 pl, .int .i64 fi] ∧ True) := by
          obtain ⟨q1, q2, q3, _⟩ := H1.out
          exact ⟨q1.trans (besides_row ..), blk_row q2 _, q3.keep ((besides_row ..).block _ q3.lt (by have := H0.out.2.2.2.2; show w.heap.size ≠ Ab; omega)), trivial⟩
        go_wp2_with (first | (refine wpList_store_row rfl 60 _ _ rfl Ab (Vi.cs (⟨kd, fr, 0, (d : Int), up, nt, ky, pl, fi⟩ : Vi)) rfl rfl 60 _ H1.out.2.1 i47 rfl (cs_one _) ?_; (obtain ⟨d0, d1, d2, d3, d4, d5, d6, d7, d8⟩ := R2.out.2.1.cells9; obtain ⟨e0, e1, e2, e3, e4, e5, e6, e7, e8⟩ := R2.out.2.2.1.cells9; generalize w1.setRow Ab (Vi.cs (⟨kd, fr, 0, (d : Int), up, nt, ky, pl, fi⟩ : Vi)) = w2 at *)))
        go_wp2
        go_ret
        rw [HFW.out.trans (fwE_miss (fun h => h.2 rfl))]
        exact ⟨rfl, R2.out.2.1, R2.out.1⟩
      · have ht' : (to == 0) = false := beq_eq_false_iff_ne.2 ht
        have i47 : (Tryd.prog.info? 60).map (·.size) = some (Vi.cs (⟨kd, fr, to, (d : Int), up, nt, ky, pl, fi⟩ : Vi)).size := info47s
        have R2 : Hid (Besides Ab w (w1.setRow Ab (Vi.cs (⟨kd, fr, to, (d : Int), up, nt, ky, pl, fi⟩ : Vi))) ∧ blk (w1.setRow Ab (Vi.cs (⟨kd, fr, to, (d : Int), up, nt, ky, pl, fi⟩ : Vi))) Ab 60 (Vi.cs (⟨kd, fr, to, (d : Int), up, nt, ky, pl, fi⟩ : Vi)) ∧ blk (w1.setRow Ab (Vi.cs (⟨kd, fr, to, (d : Int), up, nt, ky, pl, fi⟩ : Vi))) w.heap.size 60 #[.int .i64 kd, .int .i64 fr, .int .i64 to, .int .i64 (d : Int), .int .i64 up, .int .i64 nt, .string ky, .int .i64 pl, .int .i64 fi] ∧ True) := by
          obtain ⟨q1, q2, q3, _⟩ := H1.out
          exact ⟨q1.trans (besides_row ..), blk_row q2 _, q3.keep ((besides_row ..).block _ q3.lt (by have := H0.out.2.2.2.2; show w.heap.size ≠ Ab; omega)), trivial⟩
        go_wp2_with (first | (refine wpList_store_row rfl 60 _ _ rfl Ab (Vi.cs (⟨kd, fr, to, (d : Int), up, nt, ky, pl, fi⟩ : Vi)) rfl rfl 60 _ H1.out.2.1 i47 rfl (cs_one _) ?_; (obtain ⟨d0, d1, d2, d3, d4, d5, d6, d7, d8⟩ := R2.out.2.1.cells9; obtain ⟨e0, e1, e2, e3, e4, e5, e6, e7, e8⟩ := R2.out.2.2.1.cells9; generalize w1.setRow Ab (Vi.cs (⟨kd, fr, to, (d : Int), up, nt, ky, pl, fi⟩ : Vi)) = w2 at *)) | (refine wpList_store_row rfl 60 _ _ rfl Ab (Vi.cs (⟨kd, fr, to, (d : Int), up, nt, ky, pl, fi⟩ : Vi)) rfl rfl 60 _ R2.out.2.1 i47 rfl (cs_one _) ?_))
        go_wp2
        go_ret
        rw [HFW.out.trans (fwE_hit rfl ht)]
        exact ⟨rfl, blk_row R2.out.2.1 _, R2.out.1.trans (besides_row ..)⟩
    | false =>
      have HFW : Hid (fw p ⟨qkd, qfr, qto, qdp, qup, qnt, qky, up, qfi⟩ ⟨kd, fr, to, (d : Int), up, nt, ky, pl, fi⟩ = fwE ⟨qkd, qfr, qto, qdp, qup, qnt, qky, up, qfi⟩ ⟨kd, fr, to, (d : Int), up, nt, ky, pl, fi⟩) := by
        show _ = _
        unfold fw fwS
        rw [if_neg (fun h => by rw [hlead] at h; cases h.2)]
      go_enter Tryd.func45, Tryd.ntmps45
      go_wp2_with fail
      refine HL.out.mono ?_
      rintro e w1 ⟨rfl, hb1⟩
      rw [hlead]
      have H1 : Hid (Besides Ab w w1 ∧ blk w1 Ab 60 #[.int .i64 qkd, .int .i64 qfr, .int .i64 qto, .int .i64 qdp, .int .i64 qup, .int .i64 qnt, .string qky, .int .i64 up, .int .i64 qfi] ∧ blk w1 w.heap.size 60 #[.int .i64 kd, .int .i64 fr, .int .i64 to, .int .i64 (d : Int), .int .i64 up, .int .i64 nt, .string ky, .int .i64 pl, .int .i64 fi] ∧ True) := by
        obtain ⟨q1, q2, q3, _⟩ := H0.out
        exact ⟨q1.trans (Besides.of_below hb1), q2.keep (hb1.block _ q2.lt), q3.keep (hb1.block _ q3.lt), trivial⟩
      clear hb1 HL a0 a1 a2 a3 a4 a5 a6 a7 a8 z0 z1 z2 z3 z4 z5 z6 z7 z8 v0 v1 v2 v3 v4 v5 v6 v7 v8
      obtain ⟨a0, a1, a2, a3, a4, a5, a6, a7, a8⟩ := H1.out.2.1.cells9
      obtain ⟨z0, z1, z2, z3, z4, z5, z6, z7, z8⟩ := H1.out.2.1.frozen9
      obtain ⟨v0, v1, v2, v3, v4, v5, v6, v7, v8⟩ := H1.out.2.2.1.cells9
      by_cases hp : pl = up
      · subst hp
        by_cases ht : to = 0
        · subst ht
          go_wp2
          go_ret
          rw [HFW.out.trans (fwE_miss (fun h => h.2 rfl))]
          exact ⟨rfl, H1.out.2.1, H1.out.1⟩
        · have ht' : (to == 0) = false := beq_eq_false_iff_ne.2 ht
          go_wp2
          go_ret
          obtain ⟨y1, y2⟩ := box9B H1.out.2.1 (.int .i64 kd) (.int .i64 fr) (.int .i64 to) (.int .i64 (d : Int)) (.int .i64 pl) (.int .i64 nt) (.string ky) (.int .i64 pl) (.int .i64 fi)
          rw [HFW.out.trans (fwE_hit rfl ht)]
          exact ⟨rfl, y2, H1.out.1.trans y1⟩
      · have hp' : (pl != up) = true := by simpa using hp
        go_wp2
        go_ret
        rw [HFW.out.trans (fwE_miss (fun h => hp h.1))]
        exact ⟨rfl, H1.out.2.1, H1.out.1⟩
  · have hu' : (up == qpl) = false := beq_eq_false_iff_ne.2 hu
    have HFW : Hid (fw p ⟨qkd, qfr, qto, qdp, qup, qnt, qky, qpl, qfi⟩ ⟨kd, fr, to, (d : Int), up, nt, ky, pl, fi⟩ = fwE ⟨qkd, qfr, qto, qdp, qup, qnt, qky, qpl, qfi⟩ ⟨kd, fr, to, (d : Int), up, nt, ky, pl, fi⟩) := by
      show _ = _
      unfold fw fwS
      rw [if_neg (fun h => hu h.1)]
    go_enter Tryd.func45, Tryd.ntmps45
    by_cases hp : pl = qpl
    · subst hp
      by_cases ht : to = 0
      · subst ht
        go_wp2
        go_ret
        rw [HFW.out.trans (fwE_miss (fun h => h.2 rfl))]
        exact ⟨rfl, H0.out.2.1, H0.out.1⟩
      · have ht' : (to == 0) = false := beq_eq_false_iff_ne.2 ht
        go_wp2
        go_ret
        obtain ⟨y1, y2⟩ := box9B H0.out.2.1 (.int .i64 kd) (.int .i64 fr) (.int .i64 to) (.int .i64 (d : Int)) (.int .i64 up) (.int .i64 nt) (.string ky) (.int .i64 pl) (.int .i64 fi)
        rw [HFW.out.trans (fwE_hit rfl ht)]
        exact ⟨rfl, y2, H0.out.1.trans y1⟩
    · have hp' : (pl != qpl) = true := by simpa using hp
      go_wp2
      go_ret
      rw [HFW.out.trans (fwE_miss (fun h => hp h.1))]
      exact ⟨rfl, H0.out.2.1, H0.out.1⟩
end Go.Proofs.YtdlnnnlmlaploabDoor
namespace Go.Proofs.YtdlnnnlmlaploabDoor
open Go.RowKit Go.Deep
/-! ### follow's visitor as a visitor -/
theorem due_dpt (ls : List Lv) (i n : Nat) : (dueV ls i n).dp = (ls.length : Int) := by cases ls <;> rfl
theorem vg_dp {b : List UInt8} {ls : List Lv} {i n : Nat} {v : Vi} {ls' : List Lv} {i' : Nat} (h : VG b ls i n v ls' i') : v.dp = (ls.length : Int) := by
  rcases h with ⟨t, j, _, _, _, rfl, _, _⟩ | ⟨_, _, c3, _, _⟩
  · exact due_dpt ls i n
  · rcases c3 with ⟨_, rfl⟩ | ⟨_, rfl⟩ <;> exact due_dpt ls i n
theorem Rch.len {b : List UInt8} (hlim : b.length ≤ 1048576) {go : List Vi → Bool} {h : List Vi} {s : RS} (H : Rch b go h s) : s.ls.length ≤ 32 := by
  have := H.ok hlim
  cases s with
  | val ls i n => exact this.2.2.1.1
  | mid ls i n => exact this.2.2.1
/-- the depths of what is open -/
theorem Rch.deps {b : List UInt8} (hlim : b.length ≤ 1048576) {go : List Vi → Bool} {h : List Vi} {s : RS} (H : Rch b go h s) : ∀ l ∈ s.ls, ∃ d : Nat, l.dp = (d : Int) ∧ d ≤ 32 := by
  induction H with
  | start => intro l hl; cases hl
  | @value h ls i n v ls' i' hr hv _ ih =>
    have ih' : ∀ l ∈ ls, ∃ d : Nat, l.dp = (d : Int) ∧ d ≤ 32 := ih
    have hlen : ls.length ≤ 32 := hr.len hlim
    have hdp := vg_dp hv
    show ∀ l ∈ ls', _
    rcases hv with ⟨t, j, _, _, _, _, rfl, _⟩ | ⟨_, _, _, rfl, _⟩
    · exact ih'
    · intro l hl
      rcases List.mem_cons.1 hl with rfl | hl
      · exact ⟨ls.length, hdp, hlen⟩
      · exact ih' l hl
  | @part h l r i n l' i' _ _ hp ih =>
    have ih' : ∀ x ∈ l :: r, ∃ d : Nat, x.dp = (d : Int) ∧ d ≤ 32 := ih
    show ∀ x ∈ l' :: r, _
    intro x hx
    rcases List.mem_cons.1 hx with rfl | hx
    · have := ih' l (by simp)
      rcases hp with ⟨_, rfl, _⟩ | ⟨_, _, t, j, _, _, rfl, _⟩ <;> exact this
    · exact ih' x (by simp [hx])
  | @close h l r i n _ _ _ _ ih =>
    have ih' : ∀ x ∈ l :: r, ∃ d : Nat, x.dp = (d : Int) ∧ d ≤ 32 := ih
    show ∀ x ∈ r, _
    intro x hx
    exact ih' x (by simp [hx])
theorem Nx.dep {b : List UInt8} (hlim : b.length ≤ 1048576) {go : List Vi → Bool} {h : List Vi} {v : Vi} (H : Nx b go h v) : ∃ d : Nat, v.dp = (d : Int) ∧ d ≤ 1048577 := by
  rcases H with ⟨ls, i, n, ls', i', hr, hv⟩ | ⟨l, r, i, n, hr, _, _, rfl⟩
  · have hlen : ls.length ≤ 32 := hr.len hlim
    exact ⟨ls.length, vg_dp hv, by omega⟩
  · obtain ⟨d, h1, h2⟩ := hr.deps hlim l (by simp [RS.ls])
    exact ⟨d, h1, by omega⟩
/-- where follow begins -/
def fw0 : Vi := ⟨0, 0, 0, 0, 0, 0, ByteArray.empty, -1, 0⟩
/-- where follow stands, and whether it goes on, having been shown h -/
def fwF (p : List (Int × ByteArray)) (h : List Vi) : Vi × Bool := h.foldl (fun s v => fw p s.1 v) (fw0, true)
theorem fwF_snoc (p : List (Int × ByteArray)) (h : List Vi) (v : Vi) : fwF p (h ++ [v]) = fw p (fwF p h).1 v := by unfold fwF; rw [List.foldl_append]; rfl
abbrev goF (p : List (Int × ByteArray)) : List Vi → Bool := fun h => (fwF p h).2
/-- a path in old memory -/
def PSA (A : Nat) (w : World) (v : Value) (p : List (Int × ByteArray)) : Prop := ∃ a c, v = .slice a p.length c ∧ (p = [] ∨ ∃ g o, a = some ⟨g, o, none⟩ ∧ g < A ∧ ∀ i n k, p[i]? = some (n, k) → w.cell? ⟨g, o + i * 2, none⟩ = some (.int .i64 n) ∧ w.cell? ⟨g, o + i * 2 + 1, none⟩ = some (.string k))
theorem PSA.ps {A : Nat} {w : World} {v : Value} {p : List (Int × ByteArray)} (h : PSA A w v p) (hA : A ≤ w.heap.size) : PS w v p := by
  obtain ⟨a, c, rfl, h⟩ := h
  refine ⟨a, c, rfl, ?_⟩
  rcases h with h | ⟨g, o, h1, h2, h3⟩
  · exact .inl h
  · exact .inr ⟨g, o, h1, by omega, h3⟩
theorem PSA.keep {A : Nat} {w w' : World} {v : Value} {p : List (Int × ByteArray)} (h : PSA A w v p) (hb : ∀ k, k < A → w'.heap[k]? = w.heap[k]?) : PSA A w' v p := by
  obtain ⟨a, c, rfl, h⟩ := h
  refine ⟨a, c, rfl, ?_⟩
  rcases h with h | ⟨g, o, h1, h2, h3⟩
  · exact .inl h
  · exact .inr ⟨g, o, h1, h2, fun i n k hi => ⟨(World.cell?_of_block (w := w) (hb g h2)).trans (h3 i n k hi).1, (World.cell?_of_block (w := w) (hb g h2)).trans (h3 i n k hi).2⟩⟩
/-- what follow's visitor keeps -/
def JF (Ab Pb A : Nat) (p : List (Int × ByteArray)) (pv : Value) (h : List Vi) (w : World) (S : Nat → Prop) : Prop :=
  A ≤ Ab ∧ A ≤ Pb ∧ Ab ≠ Pb ∧ A ≤ w.heap.size ∧ blk w Ab 60 (Vi.cs (fwF p h).1) ∧ blk w Pb 23 #[pv] ∧ PSA A w pv p ∧ ∀ k, S k ↔ (k = Ab ∨ k = Pb)
theorem visF {b : List UInt8} (hlim : b.length ≤ 1048576) {Ab Pb A : Nat} {p : List (Int × ByteArray)} (hp : p.length ≤ 140737488351232) {pv : Value} : Vis b 45 #[.pointer (some ⟨Ab, 0, none⟩), .pointer (some ⟨Pb, 0, none⟩)] (goF p) (JF Ab Pb A p pv) A where
  keep := fun h w w' S ⟨h1, h2, h3, h4, h5, h6, h7, h8⟩ hs hk =>
    ⟨h1, h2, h3, Nat.le_trans h4 hs, h5.keep (hk Ab (.inl ((h8 Ab).2 (.inl rfl)))), h6.keep (hk Pb (.inl ((h8 Pb).2 (.inr rfl)))), h7.keep (fun k hk' => hk k (.inr hk')), h8⟩
  own := fun h w S ⟨h1, h2, h3, h4, h5, h6, h7, h8⟩ k hk => by
    rcases (h8 k).1 hk with rfl | rfl
    · exact ⟨h1, _, _, _, h5, by decide, by decide⟩
    · exact ⟨h2, _, _, _, h6, by decide, by decide⟩
  enter := fun args w => by
    show (callFunc 45 args).run Tryd.prog w = .ok (.enter 45 args) w
    kernel_rfl
  call := fun h w S v ⟨h1, h2, h3, h4, h5, h6, h7, h8⟩ hx => by
    refine (follow34 (fwF p h).1 v p pv h5 (h6.cell 0) (h7.ps h4) (hx.dep hlim) hp).mono ?_
    rintro e w' ⟨rfl, k1, k2⟩
    refine ⟨by show _ = Ending.returned (Value.bool (fwF p (h ++ [v])).2); rw [fwF_snoc], S, ⟨h1, h2, h3, Nat.le_trans h4 k2.size, by rw [fwF_snoc]; exact k1, h6.keep (k2.block _ h6.lt (fun e => h3 e.symm)), h7.keep (fun k hk => k2.block k (by omega) (by omega)), h8⟩, ⟨k2.os, k2.tape, k2.output, k2.size, fun k hk hn => k2.block k hk (fun e => hn ((h8 k).2 (.inl e))), fun k hk => .inl hk⟩⟩
end Go.Proofs.YtdlnnnlmlaploabDoor
namespace Go.Proofs.YtdlnnnlmlaploabDoor
open Go.RowKit Go.Deep
theorem tb_up {B B' : Nat} {w : World} (h : TB B w) (hB : B ≤ B') : TB B' w := fun w' hb => h w' (hb.mono hB)
theorem itoa_len {n : Int} (h0 : -9223372036854775808 ≤ n) (h1 : n ≤ 9223372036854775807) : (Lib.itoa n).length ≤ 21 := Lib.itoa_length_le n h0 h1
set_option maxHeartbeats 1000000 in
theorem strSize46 (s : ByteArray) (w : World) (hT : TB w.heap.size w) (hs : s.size ≤ 1048576) :
    Calls Tryd.prog 94 #[.int .i64 s.size] w fun e w' => e = .returned (.int .i64 (wtx s).length) ∧ Below w.heap.size w w' := by
  have hl := itoa_len (n := (s.size : Int)) (by omega) (by omega)
  have hz : (({ data := (Lib.itoa s.size).toArray } : ByteArray)).size = (Lib.itoa s.size).length := List.size_toArray
  have HE : Hid ((wtx s).length = (Lib.itoa s.size).length + 1 + s.size) := by
    show _ = _
    unfold wtx
    rw [List.length_append, List.length_cons]
    have : s.data.toList.length = s.size := Array.length_toList
    omega
  have C := itoa25 (s.size : Int) (by omega) (by omega) w hT
  generalize s.size = m at *
  go_enter Tryd.func94, Tryd.ntmps94
  go_wp2_with fail
  refine C.mono ?_
  rintro e w2 ⟨rfl, hb2⟩
  go_wp2
  go_ret
  exact ⟨by rw [HE.out]; show Ending.returned (Value.int .i64 (((Lib.itoa m).length : Int) + 1 + m)) = _; congr 2, hb2⟩
end Go.Proofs.YtdlnnnlmlaploabDoor
namespace Go.Proofs.YtdlnnnlmlaploabDoor
open Go.RowKit Go.Deep
def ZC (t : T) : Prop := ∀ (x y : Value) (w : World), RV (fun _ => True) w t x y → t.rng → VT t → TB w.heap.size w → (txt t).length ≤ 1048576 →
  Calls Tryd.prog 93 #[vv t x y] w fun e w' => e = .returned (.int .i64 (txt t).length) ∧ Below w.heap.size w w'
theorem wtx_size (s : ByteArray) : s.size + 1 ≤ (wtx s).length := by
  unfold wtx
  rw [List.length_append, List.length_cons]
  have : s.data.toList.length = s.size := Array.length_toList
  omega
set_option maxRecDepth 10000 in
set_option maxHeartbeats 4000000 in
theorem size45 (t : T) : ZC t := by
  induction t with
  | no => intro x y w h; exact h.elim
  | mk k n s ln l dn ky dv il id =>
    intro x y w hr hrng hvt hT hlim
    obtain ⟨⟨xa, xn, xc, rfl⟩, ⟨ya, yn, yc, rfl⟩⟩ := hr.slices
    obtain ⟨r1, r2, r3, r4, r5, r6⟩ := hrng
    obtain ⟨o1, o2, o3, o4, o5, o6⟩ : 1 ≤ k ∧ k ≤ 4 ∧ (k = 1 ∨ n = 0) ∧ (k = 2 ∨ s.toList = []) ∧ (k = 3 ∨ ln = 0) ∧ (k = 4 ∨ dn = 0) := of_decide_eq_true hvt.1
    have b0 : Below w.heap.size w (w.alloc (Obj.cells #[.int .i64 k, .int .i64 n, .string s, .slice xa xn xc, .slice ya yn yc] 31)) := (Below.refl _ _).alloc (Nat.le_refl _) _
    show Calls Tryd.prog 93 #[.agg #[.int .i64 k, .int .i64 n, .string s, .slice xa xn xc, .slice ya yn yc]] w _
    by_cases hk1 : k = 1
    · subst hk1
      have e : Hid (txt (.mk 1 n s ln l dn ky dv) = 105 :: (Lib.itoa n ++ [101])) := rfl
      have hlen := itoa_len r1 r2
      have hz : (({ data := (Lib.itoa n).toArray } : ByteArray)).size = (Lib.itoa n).length := List.size_toArray
      have C := itoa25 n r1 r2 _ (tb_up (hT.on b0) b0.size)
      have B0 := Lib.hid b0
      clear hr il id r5 r6 hlim hvt b0 o3 o4 o5 o6
      go_enter Tryd.func93, Tryd.ntmps93
      go_wp2_with fail
      refine C.mono ?_
      rintro e2 w2 ⟨rfl, hb2⟩
      go_wp2
      go_ret
      exact ⟨by rw [e.out]; simp; omega, B0.out.trans (hb2.mono B0.out.size)⟩
    by_cases hk2 : k = 2
    · subst hk2
      have e : Hid (txt (.mk 2 n s ln l dn ky dv) = wtx s) := rfl
      have hsz : s.size ≤ 1048576 := by have h1 := wtx_size s; rw [e.out] at hlim; omega
      have C := strSize46 s _ (tb_up (hT.on b0) b0.size) hsz
      have B0 := Lib.hid b0
      clear hr il id r5 r6 hlim hvt b0 o3 o4 o5 o6
      go_enter Tryd.func93, Tryd.ntmps93
      go_wp2_with fail
      refine C.mono ?_
      rintro e2 w2 ⟨rfl, hb2⟩
      go_wp2
      go_ret
      exact ⟨by rw [e.out]; rfl, B0.out.trans (hb2.mono B0.out.size)⟩
    have hk1' : (k == 1) = false := by simpa using hk1
    have hk2' : (k == 2) = false := by simpa using hk2
    obtain ⟨hL, hD⟩ := hr
    by_cases hk3 : k = 3
    · subst hk3
      obtain ⟨a, ca, ha, hL⟩ := hL
      obtain ⟨rfl, rfl, rfl⟩ : a = xa ∧ ln = xn ∧ ca = xc := by cases ha; exact ⟨rfl, rfl, rfl⟩
      clear ha
      have EL : Hid ((txt (.mk 3 n s ln l dn ky dv)).length = 2 + (catN (fun i => txt (l i)) ln).length) := by
        show _ = _
        have e : txt (.mk 3 n s ln l dn ky dv) = 108 :: (catN (fun i => txt (l i)) ln ++ [101]) := rfl
        rw [e]; simp; omega
      have HC : Hid ((∀ i, ZC (l i)) ∧ (∀ i, i < ln → (l i).rng) ∧ (∀ i, i < ln → VT (l i)) ∧ (ln = 0 ∨ ∃ b o, a = some ⟨b, o, none⟩ ∧ True ∧ b < w.heap.size ∧ ∀ i, i < ln → ∃ x' y', RV (fun _ => True) w (l i) x' y' ∧ five w b (o + i * 5) (l i) x' y')) := ⟨il, r5, hvt.2.1, hL⟩
      have HL2 : Hid (2 + (catN (fun i => txt (l i)) ln).length ≤ 1048576) := by rw [← EL.out]; exact hlim
      have HB0 : Hid (Below w.heap.size w (w.alloc (Obj.cells #[.int .i64 3, .int .i64 n, .string s, .slice a ln ca, .slice ya yn yc] 31)) ∧ obj (w.alloc (Obj.cells #[.int .i64 3, .int .i64 n, .string s, .slice a ln ca, .slice ya yn yc] 31)) w.heap.size (.int .i64 3) (.int .i64 n) (.string s) (.slice a ln ca) (.slice ya yn yc)) := ⟨b0, heap_new _ _⟩
      clear il id r5 r6 hvt hlim hL hD hk1 hk2 o3 o4 o5 o6 b0
      go_enter Tryd.func93, Tryd.ntmps93
      go_wp2
      generalize (w.alloc (Obj.cells #[.int .i64 3, .int .i64 n, .string s, .slice a ln ca, .slice ya yn yc] 31)) = w0 at *
      generalize hvb : w.heap.size = vb at *
      have HVB := Lib.hid hvb
      clear hvb
      go_loopw [3, 4] (fun c i wr => ∃ j : Nat, j ≤ ln ∧ i = .int .i64 j ∧ c = .int .i64 ((2 + (catN (fun i => txt (l i)) j).length : Nat) : Int) ∧ Hid (Below vb w wr ∧ obj wr vb (.int .i64 3) (.int .i64 n) (.string s) (.slice a ln ca) (.slice ya yn yc))) (fun _ i _ => ln - (intOf i).toNat)
      case atStart => exact ⟨0, Nat.zero_le _, rfl, rfl, HB0.out⟩
      case round =>
        clear HB0
        obtain ⟨j, hj, rfl, rfl, HO⟩ := hrel
        obtain ⟨_, _, _, cl, _⟩ := HO.out.2.cells
        by_cases hlt : j < ln
        · obtain ⟨il, r5, hvl, hL⟩ := HC.out
          rcases hL with h | ⟨b, o, rfl, _, hb, hL⟩
          · omega
          obtain ⟨x1, y1, hv, g1, g2, g3, g4, g5⟩ := hL j hlt
          have hle : (catN (fun i => txt (l i)) j).length + (txt (l j)).length ≤ (catN (fun i => txt (l i)) ln).length := catN_le hlt
          obtain ⟨hbw, hx⟩ := HO.out
          have hk := hbw.block b hb
          replace g1 := (World.cell?_of_block (w := w) hk).trans g1
          replace g2 := (World.cell?_of_block (w := w) hk).trans g2
          replace g3 := (World.cell?_of_block (w := w) hk).trans g3
          replace g4 := (World.cell?_of_block (w := w) hk).trans g4
          replace g5 := (World.cell?_of_block (w := w) hk).trans g5
          have hv' := Below.rv hbw (Nat.le_of_eq HVB.out) hv
          obtain ⟨⟨xa1, xn1, xc1, rfl⟩, ⟨ya1, yn1, yc1, rfl⟩⟩ := hv.slices
          have hl2 := HL2.out
          have HX := Lib.hid (il j _ _ _ hv' (r5 j hlt) (hvl j hlt) (tb_up (hT.on hbw) (by have := hbw.size; have := HVB.out; omega)) (by omega))
          have e2 : (catN (fun i => txt (l i)) (j + 1)).length = (catN (fun i => txt (l i)) j).length + (txt (l j)).length := List.length_append
          have HM := Lib.hid (And.intro e2 (And.intro hbw hx))
          have j0 : (0 : Int) ≤ (j : Int) := by omega
          have j1 : (j : Int) < (ln : Int) := by omega
          generalize hC1 : (catN (fun i => txt (l i)) j).length = c1 at *
          generalize hC2 : (txt (l j)).length = c2 at *
          have m1 : c1 + c2 ≤ 1048576 := by omega
          clear il r5 hvl hL hv hv' hle hbw hx hk HO e2 hl2 hC1 hC2
          go_wp2_with fail
          refine HX.out.mono ?_
          rintro e w2 ⟨rfl, q2⟩
          have HN : Hid (Below vb w w2 ∧ obj w2 vb (.int .i64 3) (.int .i64 n) (.string s) (.slice (some ⟨b, o, none⟩) ln ca) (.slice ya yn yc)) := by
            obtain ⟨z1, z3, z4⟩ := HM.out
            exact ⟨z3.trans (q2.mono (by have := z3.size; have := HVB.out; omega)), z4.keep (q2.block _ z4.lt)⟩
          clear q2 HX g1 g2 g3 g4 g5 cl
          go_wp2
          go_roundw
          case rel => exact ⟨j + 1, by omega, by go_num, by rw [HM.out.1]; go_num, HN⟩
          case measure => simp [intOf]; omega
        · obtain rfl : j = ln := by omega
          have HP : Hid (Below vb w _) := HO.out.1
          clear HO
          generalize hC1 : (2 + (catN (fun i => txt (l i)) j).length) = c1 at *
          go_wp2
          go_ret
          exact ⟨by rw [EL.out]; rfl, by rw [HVB.out]; exact HP.out⟩
    · have hk4 : k = 4 := by clear hL hD il id; omega
      subst hk4
      obtain ⟨a', ca', ha, hD⟩ := hD
      obtain ⟨rfl, rfl, rfl⟩ : a' = ya ∧ dn = yn ∧ ca' = yc := by cases ha; exact ⟨rfl, rfl, rfl⟩
      clear ha
      have EL : Hid ((txt (.mk 4 n s ln l dn ky dv)).length = 2 + (catN (fun i => wtx (ky i) ++ txt (dv i)) dn).length) := by
        show _ = _
        have e : txt (.mk 4 n s ln l dn ky dv) = 100 :: (catN (fun i => wtx (ky i) ++ txt (dv i)) dn ++ [101]) := rfl
        rw [e]; simp; omega
      have HD : Hid ((∀ i, ZC (dv i)) ∧ (∀ i, i < dn → (dv i).rng) ∧ (∀ i, i < dn → VT (dv i)) ∧ (dn = 0 ∨ ∃ b o, a' = some ⟨b, o, none⟩ ∧ True ∧ b < w.heap.size ∧ ∀ i, i < dn → ∃ x' y', RV (fun _ => True) w (dv i) x' y' ∧ w.cell? ⟨b, o + i * 6, none⟩ = some (.string (ky i)) ∧ five w b (o + i * 6 + 1) (dv i) x' y')) := ⟨id, r6, fun i hi => (hvt.2.2 i hi).2, hD⟩
      have HL2 : Hid (2 + (catN (fun i => wtx (ky i) ++ txt (dv i)) dn).length ≤ 1048576) := by rw [← EL.out]; exact hlim
      have HB0 : Hid (Below w.heap.size w (w.alloc (Obj.cells #[.int .i64 4, .int .i64 n, .string s, .slice xa xn xc, .slice a' dn ca'] 31)) ∧ obj (w.alloc (Obj.cells #[.int .i64 4, .int .i64 n, .string s, .slice xa xn xc, .slice a' dn ca'] 31)) w.heap.size (.int .i64 4) (.int .i64 n) (.string s) (.slice xa xn xc) (.slice a' dn ca')) := ⟨b0, heap_new _ _⟩
      clear il id r5 r6 hvt hlim hL hD hk1 hk2 hk3 o3 o4 o5 o6 b0
      go_enter Tryd.func93, Tryd.ntmps93
      go_wp2
      generalize (w.alloc (Obj.cells #[.int .i64 4, .int .i64 n, .string s, .slice xa xn xc, .slice a' dn ca'] 31)) = w0 at *
      generalize hvb : w.heap.size = vb at *
      have HVB := Lib.hid hvb
      clear hvb
      go_loopw [5, 6] (fun c i wr => ∃ j : Nat, j ≤ dn ∧ i = .int .i64 j ∧ c = .int .i64 ((2 + (catN (fun i => wtx (ky i) ++ txt (dv i)) j).length : Nat) : Int) ∧ Hid (Below vb w wr ∧ obj wr vb (.int .i64 4) (.int .i64 n) (.string s) (.slice xa xn xc) (.slice a' dn ca'))) (fun _ i _ => dn - (intOf i).toNat)
      case atStart => exact ⟨0, Nat.zero_le _, rfl, rfl, HB0.out⟩
      case round =>
        clear HB0
        obtain ⟨j2, hj, rfl, rfl, HO⟩ := hrel
        by_cases hlt : j2 < dn
        · obtain ⟨il, r5, hvl, hL⟩ := HD.out
          rcases hL with h | ⟨b, o, rfl, _, hb, hL⟩
          · omega
          obtain ⟨x1, y1, hv, g0, g1, g2, g3, g4, g5⟩ := hL j2 hlt
          have hle : (catN (fun i => wtx (ky i) ++ txt (dv i)) j2).length + (wtx (ky j2) ++ txt (dv j2)).length ≤ (catN (fun i => wtx (ky i) ++ txt (dv i)) dn).length := catN_le (f := fun i => wtx (ky i) ++ txt (dv i)) hlt
          have hl2 : (wtx (ky j2) ++ txt (dv j2)).length = (wtx (ky j2)).length + (txt (dv j2)).length := List.length_append
          obtain ⟨hbw, hx⟩ := HO.out
          have hle2 := HL2.out
          obtain ⟨⟨xa1, xn1, xc1, rfl⟩, ⟨ya1, yn1, yc1, rfl⟩⟩ := hv.slices
          have hcell : ∀ wq, Below vb w wq → obj wq vb (.int .i64 4) (.int .i64 n) (.string s) (.slice xa xn xc) (.slice (some ⟨b, o, none⟩) dn ca') → wq.cell? ⟨vb, 4, none⟩ = some (.slice (some ⟨b, o, none⟩) dn ca') ∧ wq.cell? ⟨b, o + j2 * 6, none⟩ = some (.string (ky j2)) ∧ wq.cell? ⟨b, o + j2 * 6 + 1, none⟩ = some (.int .i64 (dv j2).k) ∧ wq.cell? ⟨b, o + j2 * 6 + 1 + 1, none⟩ = some (.int .i64 (dv j2).n) ∧ wq.cell? ⟨b, o + j2 * 6 + 1 + 2, none⟩ = some (.string (dv j2).s) ∧ wq.cell? ⟨b, o + j2 * 6 + 1 + 3, none⟩ = some (.slice xa1 xn1 xc1) ∧ wq.cell? ⟨b, o + j2 * 6 + 1 + 4, none⟩ = some (.slice ya1 yn1 yc1) := fun wq hq hxq => by
            have hk := hq.block b (HVB.out ▸ hb)
            exact ⟨hxq.cells.2.2.2.2, (World.cell?_of_block (w := w) hk).trans g0, (World.cell?_of_block (w := w) hk).trans g1, (World.cell?_of_block (w := w) hk).trans g2, (World.cell?_of_block (w := w) hk).trans g3, (World.cell?_of_block (w := w) hk).trans g4, (World.cell?_of_block (w := w) hk).trans g5⟩
          have hks : (ky j2).size ≤ 1048576 := by have := wtx_size (ky j2); omega
          have HC1 : Hid (∀ w', w'.heap = wr.heap → w'.os = wr.os → w'.tape = wr.tape → w'.output = wr.output → Calls Tryd.prog 94 #[.int .i64 (ky j2).size] w' fun e wq => e = .returned (.int .i64 (wtx (ky j2)).length) ∧ (wq.cell? ⟨vb, 4, none⟩ = some (.slice (some ⟨b, o, none⟩) dn ca') ∧ wq.cell? ⟨b, o + j2 * 6, none⟩ = some (.string (ky j2)) ∧ wq.cell? ⟨b, o + j2 * 6 + 1, none⟩ = some (.int .i64 (dv j2).k) ∧ wq.cell? ⟨b, o + j2 * 6 + 1 + 1, none⟩ = some (.int .i64 (dv j2).n) ∧ wq.cell? ⟨b, o + j2 * 6 + 1 + 2, none⟩ = some (.string (dv j2).s) ∧ wq.cell? ⟨b, o + j2 * 6 + 1 + 3, none⟩ = some (.slice xa1 xn1 xc1) ∧ wq.cell? ⟨b, o + j2 * 6 + 1 + 4, none⟩ = some (.slice ya1 yn1 yc1)) ∧
              Hid (Calls Tryd.prog 93 #[.agg #[.int .i64 (dv j2).k, .int .i64 (dv j2).n, .string (dv j2).s, .slice xa1 xn1 xc1, .slice ya1 yn1 yc1]] wq fun e wz => e = .returned (.int .i64 (txt (dv j2)).length) ∧ (wz.cell? ⟨vb, 4, none⟩ = some (.slice (some ⟨b, o, none⟩) dn ca') ∧ wz.cell? ⟨b, o + j2 * 6, none⟩ = some (.string (ky j2)) ∧ wz.cell? ⟨b, o + j2 * 6 + 1, none⟩ = some (.int .i64 (dv j2).k) ∧ wz.cell? ⟨b, o + j2 * 6 + 1 + 1, none⟩ = some (.int .i64 (dv j2).n) ∧ wz.cell? ⟨b, o + j2 * 6 + 1 + 2, none⟩ = some (.string (dv j2).s) ∧ wz.cell? ⟨b, o + j2 * 6 + 1 + 3, none⟩ = some (.slice xa1 xn1 xc1) ∧ wz.cell? ⟨b, o + j2 * 6 + 1 + 4, none⟩ = some (.slice ya1 yn1 yc1)) ∧ Hid (Below vb w wz ∧ obj wz vb (.int .i64 4) (.int .i64 n) (.string s) (.slice xa xn xc) (.slice (some ⟨b, o, none⟩) dn ca')))) := by
            intro w' hh h1 h2 h3
            have hbw' : Below wr.heap.size wr w' := ⟨h1, h2, h3, by rw [hh]; exact Nat.le_refl _, fun q _ => by rw [hh]⟩
            have hvw : vb ≤ wr.heap.size := by have := hbw.size; have := HVB.out; omega
            have hbq0 := hbw.trans (hbw'.mono hvw)
            refine (strSize46 (ky j2) w' (tb_up (hT.on hbq0) (by have := hbw'.size; omega)) hks).mono ?_
            rintro e wq ⟨rfl, hb2⟩
            have hbq := hbq0.trans (hb2.mono (by have := hbw'.size; omega))
            have hxq := (hx.keep (hbw'.block _ hx.lt)).keep (hb2.block _ (Nat.lt_of_lt_of_le hx.lt hbw'.size))
            refine ⟨rfl, hcell wq hbq hxq, ?_⟩
            refine Lib.hid ((il j2 _ _ wq (Below.rv hbq (Nat.le_of_eq HVB.out) hv) (r5 j2 hlt) (hvl j2 hlt) (tb_up (hT.on hbq) (by have := hbw'.size; have := hb2.size; omega)) (by omega)).mono ?_)
            rintro e wz ⟨rfl, hb3⟩
            have hbz := hbq.trans (hb3.mono (by have := hbw'.size; have := hb2.size; omega))
            have hxz := hxq.keep (hb3.block _ hxq.lt)
            exact ⟨rfl, hcell wz hbz hxz, hbz, hxz⟩
          have hcr := hcell _ hbw hx
          have e2 : (catN (fun i => wtx (ky i) ++ txt (dv i)) (j2 + 1)).length = (catN (fun i => wtx (ky i) ++ txt (dv i)) j2).length + ((wtx (ky j2)).length + (txt (dv j2)).length) := List.length_append.trans (by rw [hl2])
          have HM := Lib.hid e2
          generalize hC1 : (catN (fun i => wtx (ky i) ++ txt (dv i)) j2).length = c1 at *
          generalize hC2 : (wtx (ky j2)).length = c2 at *
          generalize hC3 : (txt (dv j2)).length = c3 at *
          have m1 : c1 + (c2 + c3) ≤ 1048574 := by omega
          have hksz := Lib.hid hks
          have j0 : (0 : Int) ≤ (j2 : Int) := by omega
          have j1 : (j2 : Int) < (dn : Int) := by omega
          obtain ⟨k0, k1, k2, k3, k4, k5, k6⟩ := hcr
          clear il r5 hvl hL hv hle hle2 hbw hx HO hcell hl2 g0 g1 g2 g3 g4 g5 e2 hC1 hC2 hC3
          go_wp2_with fail
          go_region_held3 (fun w' => w'.cell? ⟨vb, 4, none⟩ = some (.slice (some ⟨b, o, none⟩) dn ca') ∧ w'.cell? ⟨b, o + j2 * 6, none⟩ = some (.string (ky j2)) ∧ w'.cell? ⟨b, o + j2 * 6 + 1, none⟩ = some (.int .i64 (dv j2).k) ∧ w'.cell? ⟨b, o + j2 * 6 + 1 + 1, none⟩ = some (.int .i64 (dv j2).n) ∧ w'.cell? ⟨b, o + j2 * 6 + 1 + 2, none⟩ = some (.string (dv j2).s) ∧ w'.cell? ⟨b, o + j2 * 6 + 1 + 3, none⟩ = some (.slice xa1 xn1 xc1) ∧ w'.cell? ⟨b, o + j2 * 6 + 1 + 4, none⟩ = some (.slice ya1 yn1 yc1))
            (first | (with_reducible exact ⟨z0, z1, z2, z3, z4, z5, z6⟩) | (with_reducible exact ⟨q0, q1, q2, q3, q4, q5, q6⟩) | (exact ⟨k0, k1, k2, k3, k4, k5, k6⟩))
            (first | (go_at_call 94; refine (HC1.out wr.drew rfl rfl rfl rfl).mono ?_; rintro e wq ⟨rfl, ⟨q0, q1, q2, q3, q4, q5, q6⟩, HX⟩) | (go_at_call 93; refine HX.out.mono ?_; rintro e wz ⟨rfl, ⟨z0, z1, z2, z3, z4, z5, z6⟩, HN⟩))
          clear k0 k1 k2 k3 k4 k5 k6 q0 q1 q2 q3 q4 q5 q6 z0 z1 z2 z3 z4 z5 z6 HC1 HX
          go_wp2
          go_roundw
          case rel =>
            have ew1 : IntKind.i64.wrap (2 + (c1 : Int) + (c2 : Int)) = 2 + (c1 : Int) + (c2 : Int) := IntWalk.i64_in _ (by omega)
            have ew2 : IntKind.i64.wrap (2 + (c1 : Int) + (c2 : Int) + (c3 : Int)) = 2 + (c1 : Int) + (c2 : Int) + (c3 : Int) := IntWalk.i64_in _ (by omega)
            refine ⟨j2 + 1, by omega, by go_num, ?_, HN⟩
            rw [HM.out]
            congr 1
            rw [ew1, ew2]
            omega
          case measure => simp [intOf]; omega
        · obtain rfl : j2 = dn := by omega
          obtain ⟨_, _, _, _, cd⟩ := HO.out.2.cells
          have HP : Hid (Below vb w _) := HO.out.1
          clear HO
          generalize hC1 : (2 + (catN (fun i => wtx (ky i) ++ txt (dv i)) j2).length) = c1 at *
          go_wp2
          go_ret
          exact ⟨by rw [EL.out]; rfl, by rw [HVB.out]; exact HP.out⟩
end Go.Proofs.YtdlnnnlmlaploabDoor
