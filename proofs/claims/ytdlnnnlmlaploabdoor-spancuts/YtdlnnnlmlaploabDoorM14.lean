import Derived.Test.YtdlnnnlmlaploabDoorM13
import Derived.Deep.LoopGhost
import Derived.WalkMore
import Derived.OwnWalk
namespace Go.Proofs.YtdlnnnlmlaploabDoor
open Go.RowKit Go.Deep
theorem cs_one (v : Vi) : (Vi.cs v).all (·.oneCell') = true := by kernel_rfl
set_option maxRecDepth 10000 in
set_option maxHeartbeats 2000000 in
theorem read26 {A : Nat} {J : List Vi → World → (Nat → Prop) → Prop} {fn : Nat} {caps : Array Value} {go : List Vi → Bool} {w : World} {S0 : Nat → Prop} {a : Option Addr} {c : Nat} {b : List UInt8}
    (V : Vis b fn caps go J A) (hlim : b.length ≤ 1048576) (hc : b.length ≤ c) (hA : b = [] ∨ ∀ g o, a = some ⟨g, o, none⟩ → g < A) (h4 : 1 < A) (hAw : A ≤ w.heap.size) (hev : EVw w)
    (htx : b = [] ∨ ∃ g o, a = some ⟨g, o, none⟩ ∧ g < w.heap.size ∧ ∀ j, j < b.length → w.cell? ⟨g, o + j, none⟩ = some (.int .u8 ((byt b j).toNat : Int))) (hJ : J [] w S0) :
    Calls Tryd.prog 39 #[.slice a b.length c, .func (.func fn) #[] caps] w fun e w' => ∃ h p er S, e = .returned (.tuple #[.int .i64 p, .int .i64 er]) ∧ Fin b go h p er ∧ J h w' S ∧ FV w w' S0 S := by
  have VH : Hid (Vis b fn caps go J A) := V
  have HH : Hid ((b = [] ∨ ∀ g o, a = some ⟨g, o, none⟩ → g < A) ∧ 1 < A ∧ A ≤ w.heap.size ∧ EVw w ∧ (b = [] ∨ ∃ g o, a = some ⟨g, o, none⟩ ∧ g < w.heap.size ∧ ∀ j, j < b.length → w.cell? ⟨g, o + j, none⟩ = some (.int .u8 ((byt b j).toNat : Int))) ∧ J [] w S0) := ⟨hA, h4, hAw, hev, htx, hJ⟩
  have EN := V.enter
  clear V hA h4 hAw hev htx hJ
  go_enter Tryd.func39, Tryd.ntmps39
  go_wp2
  go_step3
  go_wp2
  go_step3
  go_wp2_with fail
  go_loopg [7] (b.length + 1) (fun gk flt wr => flt = .int .i64 0 ∧ ∃ h ls i n ov S, Hid (Rch b go h (.val ls i n) ∧ RV2 A J w S0 w.heap.size a c b h ls i n ov wr S) ∧ i + gk = b.length + 1 ∧ w.heap.size < wr.heap.size)
  case atStart =>
    obtain ⟨hA, h4, hAw, hev, htx, hJ⟩ := HH.out
    exact ⟨rfl, [], [], 0, 0, _, S0, ⟨.start, RV2.start VH.out hlim hc h4 hAw hev htx hJ⟩, by omega, by simp⟩
  case round =>
    obtain ⟨rfl, h, ls, i, n, ov, S, HR, hik, hwr⟩ := hrel
    have HZ : Hid (RV2 A J w S0 w.heap.size a c b h ls i n ov (wr.alloc zero9) S) := HR.out.2.below VH.out ((Below.refl _ _).alloc (Nat.le_refl _) _)
    have C := Lib.hid (value40 HZ.out.sr (HR.out.1.ok hlim))
    go_wp2_with fail
    refine C.out.mono ?_
    rintro e w1 ⟨v, er, ov', ls', i', rfl, s1, n1, q1⟩
    have R1 : Hid (RV2 A J w S0 w.heap.size a c b h ls' i' (n + 1) ov' w1 S) := HZ.out.step VH.out s1 n1
    have hz : blk w1 wr.heap.size 60 #[.int .i64 0, .int .i64 0, .int .i64 0, .int .i64 0, .int .i64 0, .int .i64 0, .string { data := #[] }, .int .i64 0, .int .i64 0] := by
      have e0 : blk (wr.alloc zero9) wr.heap.size 60 #[.int .i64 0, .int .i64 0, .int .i64 0, .int .i64 0, .int .i64 0, .int .i64 0, .string { data := #[] }, .int .i64 0, .int .i64 0] := heap_new wr zero9
      exact e0.keep (n1.block _ e0.lt (by omega) (fun e => by have := (own_lt HR.out.2.sr.own e).2; omega))
    have hg3 : ¬ S wr.heap.size := fun e => by have := (HR.out.2.apart VH.out _ e).2.2.2; omega
    have hg2 : ov'.ownBlock ≠ some wr.heap.size := fun e => by
      obtain ⟨cs', h5⟩ := own_obj s1.own e
      rw [show w1.heap[wr.heap.size]? = _ from hz] at h5
      injection h5 with h5
      injection h5 with e1 e2 e3
      cases e2
    have R2 : Hid (RV2 A J w S0 w.heap.size a c b h ls' i' (n + 1) ov' (w1.setRow wr.heap.size (Vi.cs v)) S ∧ blk (w1.setRow wr.heap.size (Vi.cs v)) wr.heap.size 60 (Vi.cs v)) := by
      obtain ⟨hA, h4, hAw, _⟩ := HH.out
      exact ⟨R1.out.far VH.out (besides_row ..) (by omega) hg2 hg3 (by omega) hAw hA h4, blk_row hz _⟩
    have Q1 : Hid ((er = 0 ∧ VG b ls i n v ls' i') ∨ er ≠ 0 ∧ VBd b ls i er i') := q1
    have i47 : (Tryd.prog.info? 60).map (·.size) = some (Vi.cs v).size := info47s
    clear s1 n1 q1 hg2 hg3 R1 C HZ
    by_cases ce : er = 0
    · subst ce
      have q1 : VG b ls i n v ls' i' := by rcases Q1.out with q | q; exact q.2; exact absurd rfl q.1
      have G1 : Hid (VG b ls i n v ls' i') := q1
      clear Q1 q1
      go_wp2_with (first | (refine wpList_store_row rfl 60 _ _ rfl wr.heap.size (Vi.cs v) rfl rfl 60 _ hz i47 rfl (cs_one v) ?_; (obtain ⟨d0, d1, d2, d3, d4, d5, d6, d7, d8⟩ := R2.out.2.cells9; generalize w1.setRow wr.heap.size (Vi.cs v) = w2 at *)))
      clear d0 d1 d2 d3 d4 d5 d6 d7 d8
      refine (VH.out.call h w2 S v R2.out.1.j (.inl ⟨ls, i, n, ls', i', HR.out.1, G1.out⟩)).mono ?_
      rintro e w3 ⟨rfl, S', j3, f3⟩
      have R3 : Hid (RV2 A J w S0 w.heap.size a c b (h ++ [v]) ls' i' (n + 1) ov' w3 S') := by
        obtain ⟨hA, h4, _⟩ := HH.out
        exact R2.out.1.vis VH.out j3 f3 hA h4
      have hw3 : w.heap.size < w3.heap.size := R3.out.sr.bk.lt
      clear j3 f3 R2 hz
      cases hgo : go (h ++ [v]) with
      | false =>
        have FI : Hid (Fin b go (h ++ [v]) 0 0) := .vstop HR.out.1 G1.out hgo
        clear hgo
        go_wp2
        rw [Exit.noGoto_ret]
        go_ret2
        exact ⟨_, 0, 0, S', rfl, FI.out, R3.out.j, R3.out.fv⟩
      | true =>
        have HM : Hid (Rch b go (h ++ [v]) (.mid ls' i' (n + 1))) := .value HR.out.1 G1.out hgo
        clear hgo
        go_wp2_with fail
        have hii : i < i' ∧ i' ≤ b.length := by
          have hok := HR.out.1.ok hlim
          have hok2 := HM.out.ok hlim
          refine ⟨?_, hok2.1⟩
          rcases G1.out with ⟨t, j, c1, c2, c3, _, _, rfl⟩ | ⟨_, _, _, _, rfl⟩
          · have := leaf_pos hok.1 hlim c1 c2 c3; omega
          · omega
        have HRM : Hid (Rch b go (h ++ [v]) (.mid ls' i' (n + 1)) ∧ RV2 A J w S0 w.heap.size a c b (h ++ [v]) ls' i' (n + 1) ov' w3 S') := ⟨HM.out, R3.out⟩
        clear HM R3 G1
        go_loopg [7] (b.length + 1 - i') (fun gk2 flt wr2 => flt = .int .i64 0 ∧ ∃ h2 ls2 i2 n2 ov2 S2, Hid (Rch b go h2 (.mid ls2 i2 n2) ∧ RV2 A J w S0 w.heap.size a c b h2 ls2 i2 n2 ov2 wr2 S2) ∧ i2 + gk2 = b.length + 1 ∧ i < i2 ∧ i2 ≤ b.length ∧ w.heap.size < wr2.heap.size)
        case atStart => exact ⟨rfl, h ++ [v], ls', i', n + 1, ov', S', HRM, by omega, by omega, by omega, hw3⟩
        case round =>
          obtain ⟨rfl, h2, ls2, i2, n2, ov2, S2, HQ, hik2, hi2, hi2b, hwr2⟩ := hrel
          obtain ⟨oa, oc, rfl⟩ := ownForm HQ.out.2.sr.own
          obtain ⟨_, e1, _, e3, _⟩ := HQ.out.2.sr.cells
          clear HRM
          cases ls2 with
          | nil =>
            have e3' : wr.cell? ⟨w.heap.size, 3, none⟩ = some (.slice oa 0 oc) := e3
            clear e3
            by_cases ct : i2 < b.length
            · go_wp2
              rw [Exit.noGoto_ret]
              go_ret2
              exact ⟨h2, i2, 26, S2, rfl, .trail HQ.out.1 ct, HQ.out.2.j, HQ.out.2.fv⟩
            · go_wp2
              rw [Exit.noGoto_ret]
              go_ret2
              exact ⟨h2, 0, 0, S2, rfl, .done HQ.out.1 (by omega), HQ.out.2.j, HQ.out.2.fv⟩
          | cons l r =>
            have e3' : wr.cell? ⟨w.heap.size, 3, none⟩ = some (.slice oa (r.length + 1) oc) := e3
            have C41 := Lib.hid (next41 HQ.out.2.sr)
            have hok := Lib.hid (HQ.out.1.ok hlim)
            clear e3
            go_wp2_with fail
            refine C41.out.mono ?_
            rintro e w4 ⟨rfl, b4⟩
            have R4 : Hid (RV2 A J w S0 w.heap.size a c b h2 (l :: r) i2 n2 _ w4 S2) := HQ.out.2.below VH.out b4
            clear b4 C41 e1 e3'
            by_cases c101 : byt b i2 = 101
            · have hi : i2 < b.length := by
                rcases Nat.lt_or_ge i2 b.length with g | g
                · exact g
                · rw [byt_end g] at c101; cases c101
              have z : ((byt b i2).toNat : Int) = 101 := by rw [c101]; rfl
              have C42 := Lib.hid (close42 R4.out.sr hok.out hi)
              have NX : Hid (Nx b go h2 (endV l i2)) := .inr ⟨l, r, i2, n2, HQ.out.1, hi, c101, rfl⟩
              have H101 : Hid (byt b i2 = 101) := c101
              clear c101
              rw [z]
              go_wp2_with fail
              refine C42.out.mono ?_
              rintro e w5 ⟨ov5, rfl, s5, n5⟩
              have R5 : Hid (RV2 A J w S0 w.heap.size a c b h2 r (i2 + 1) n2 ov5 w5 S2) := R4.out.step VH.out s5 (Near.of n5)
              clear s5 n5 C42 R4
              go_wp2_with fail
              refine (VH.out.call h2 w5 S2 (endV l i2) R5.out.j NX.out).mono ?_
              rintro e w6 ⟨rfl, S6, j6, f6⟩
              have R6 : Hid (RV2 A J w S0 w.heap.size a c b (h2 ++ [endV l i2]) r (i2 + 1) n2 ov5 w6 S6) := by
                obtain ⟨hA, h4, _⟩ := HH.out
                exact R5.out.vis VH.out j6 f6 hA h4
              have hw6 : w.heap.size < w6.heap.size := R6.out.sr.bk.lt
              clear j6 f6 R5 NX
              cases hgo : go (h2 ++ [endV l i2]) with
              | false =>
                have FI : Hid (Fin b go (h2 ++ [endV l i2]) 0 0) := .estop HQ.out.1 hi H101.out hgo
                clear hgo
                go_wp2
                rw [Exit.noGoto_ret]
                go_ret2
                exact ⟨_, 0, 0, S6, rfl, FI.out, R6.out.j, R6.out.fv⟩
              | true =>
                have HM : Hid (Rch b go (h2 ++ [endV l i2]) (.mid r (i2 + 1) n2)) := .close HQ.out.1 hi H101.out hgo
                clear hgo
                go_wp2
                go_roundg (b.length + 1 - (i2 + 1))
                case measure => omega
                case rel => exact ⟨rfl, _, r, i2 + 1, n2, ov5, S6, ⟨HM.out, R6.out⟩, by omega, by omega, by omega, hw6⟩
            · have z : ((byt b i2).toNat : Int) ≠ 101 := u8_ne c101
              have C43 := Lib.hid (part43 R4.out.sr hok.out)
              have N101 : Hid (byt b i2 ≠ 101) := c101
              clear c101
              generalize ((byt b i2).toNat : Int) = zz at *
              go_wp2_with fail
              refine C43.out.mono ?_
              rintro e w5 ⟨er, i5, us5, rfl, s5, n5, q5⟩
              by_cases ce2 : er = 0
              · obtain ⟨l5, hus, hpg⟩ : ∃ l', us5 = usW (l' :: r) ∧ PGd b l i2 l' i5 := by
                  rcases q5 with q | q
                  · exact q.2
                  · exact absurd ce2 q.1
                subst hus
                subst ce2
                have R5 : Hid (RV2 A J w S0 w.heap.size a c b h2 (l5 :: r) i5 n2 _ w5 S2) := R4.out.step VH.out s5 n5
                have HM : Hid (Rch b go h2 (.val (l5 :: r) i5 n2)) := .part HQ.out.1 N101.out hpg
                have hi5 : i2 ≤ i5 ∧ i5 ≤ b.length := ⟨by rcases hpg with ⟨_, _, rfl⟩ | ⟨_, _, t, j, _, _, _, rfl⟩ <;> omega, (HM.out.ok hlim).1⟩
                have hw5 : w.heap.size < w5.heap.size := R5.out.sr.bk.lt
                clear s5 n5 q5 hpg R4 C43
                go_wp2
                go_roundg (b.length + 1 - i5)
                case measure => omega
                case rel => exact ⟨rfl, h2, l5 :: r, i5, n2, _, S2, ⟨HM.out, R5.out⟩, by omega, hw5⟩
              · have ce2' : (er != 0) = true := by simpa using ce2
                obtain ⟨_, d1, _⟩ := s5.cells
                have hpb : Hid (PBd b l i2 er i5) := by
                  rcases q5 with q | q
                  · exact absurd q.1 ce2
                  · exact q.2
                have JF : Hid (J h2 w5 S2 ∧ FV w w5 S0 S2) := by
                  refine ⟨VH.out.keep h2 w4 w5 S2 R4.out.j n5.size (fun k hk => n5.block k (R4.out.apart2 VH.out k hk).2.2 (R4.out.apart2 VH.out k hk).1 (R4.out.apart2 VH.out k hk).2.1), R4.out.fv.near n5 R4.out.sr.low R4.out.own_ge⟩
                clear s5 n5 q5 R4 C43
                go_wp2
                rw [Exit.noGoto_ret]
                go_ret2
                exact ⟨h2, i5, er, S2, rfl, .pbad HQ.out.1 N101.out hpb.out, JF.out.1, JF.out.2⟩
    · have ce' : (er != 0) = true := by simpa using ce
      go_wp2_with (first | (refine wpList_store_row rfl 60 _ _ rfl wr.heap.size (Vi.cs v) rfl rfl 60 _ hz i47 rfl (cs_one v) ?_; (obtain ⟨_, d1, _⟩ := R2.out.1.sr.cells; generalize w1.setRow wr.heap.size (Vi.cs v) = w2 at *)))
      rw [Exit.noGoto_ret]
      go_ret2
      exact ⟨h, i', er, S, rfl, .vbad HR.out.1 ce (by rcases Q1.out with q | q; exact absurd q.1 ce; exact q.2), R2.out.1.j, R2.out.1.fv⟩
end Go.Proofs.YtdlnnnlmlaploabDoor
namespace Go.Proofs.YtdlnnnlmlaploabDoor
open Go.RowKit Go.Deep
/-! ### Skim's visitor -/
/-- a span's cells -/
def Vi.sp (v : Vi) : List Value := [.int .i64 v.kd, .int .i64 v.fr, .int .i64 v.to, .int .i64 v.dp, .int .i64 v.up, .int .i64 v.nt, .string v.ky]
def spW (l : List Vi) : List Value := (l.map Vi.sp).flatten
theorem spW_len (l : List Vi) : (spW l).length = l.length * 7 := by
  induction l with
  | nil => rfl
  | cons v l ih =>
    show (v.sp ++ spW l).length = _
    rw [List.length_append, ih, List.length_cons]
    show 7 + _ = _
    omega
theorem spW_snoc (l : List Vi) (v : Vi) : spW (l ++ [v]) = spW l ++ v.sp := by unfold spW; simp
theorem spW_at : ∀ (l : List Vi) (k j : Nat) (v : Vi), l[k]? = some v → j < 7 → (spW l)[k * 7 + j]? = v.sp[j]?
  | [], k, j, v, h, _ => by simp at h
  | x :: l, 0, j, v, h, hj => by
    simp at h; subst h
    show (x.sp ++ spW l)[0 * 7 + j]? = _
    rw [Nat.zero_mul, Nat.zero_add, List.getElem?_append_left (by show j < 7; exact hj)]
  | x :: l, k + 1, j, v, h, hj => by
    show (x.sp ++ spW l)[(k + 1) * 7 + j]? = _
    rw [List.getElem?_append_right (by show 7 ≤ _; omega)]
    have e : (k + 1) * 7 + j - x.sp.length = k * 7 + j := by show (k + 1) * 7 + j - 7 = _; omega
    rw [e]
    exact spW_at l k j v (by simpa using h) hj
theorem spW_set : ∀ (l : List Vi) (k : Nat) (t : Int), k < l.length → (spW l).set (k * 7 + 2) (.int .i64 t) = spW (l.modify k fun x => { x with to := t })
  | [], k, t, h => by simp at h
  | x :: l, 0, t, _ => rfl
  | x :: l, k + 1, t, h => by
    show (x.sp ++ spW l).set ((k + 1) * 7 + 2) _ = x.sp ++ spW (l.modify k _)
    rw [List.set_append_right _ _ (by show 7 ≤ _; omega)]
    have e : (k + 1) * 7 + 2 - x.sp.length = k * 7 + 2 := by show (k + 1) * 7 + 2 - 7 = _; omega
    rw [e, spW_set l k t (by simpa using h)]
/-- the spans, one value more having been shown -/
def skStep (l : List Vi) (v : Vi) : List Vi := (if v.pl = (l.length : Int) then l ++ [v] else l).modify v.pl.toNat fun x => { x with to := v.to }
def sk (h : List Vi) : List Vi := h.foldl skStep []
theorem sk_snoc (h : List Vi) (v : Vi) : sk (h ++ [v]) = skStep (sk h) v := by unfold sk; rw [List.foldl_append]; rfl
theorem info45 : (Tryd.prog.info? 37).map (fun i => (i.zero, i.size, i.bytes)) = some (some (.agg #[.int .i64 0, .int .i64 0, .int .i64 0, .int .i64 0, .int .i64 0, .int .i64 0, .string ByteArray.empty]), 7, 64) := by kernel_rfl
/-- one span more on the row -/
theorem append_span {ops : Array Oper} {rest : List Oper} {o : Oper} {a : Act} {Q : Exit → Act → World → Prop} {w : World} {B k : Nat} {sv : Value} {us : List Value} (hgd : o.guard = none) (s x : Operand)
    (ho : o.op = .call { callee := .builtin .append, args := #[s, x], argTypes := #[46, 46] }) (hs : a.eval s = sv) (hown : w.ownsRow B 37 7 sv k us) (g : Nat) (v : Vi) (hx : a.eval x = .slice (some ⟨g, 0, none⟩) 1 1)
    (hc : w.heap[g]? = some (.cells v.sp.toArray 37 (0, 0))) (hB : B ≤ w.heap.size) (hlim : k ≤ 1048577)
    (h : ∀ v' w', w'.ownsRow B 37 7 v' (k + 1) (us ++ v.sp) → w.grownBy w' sv.ownBlock → (v'.ownBlock = sv.ownBlock ∨ v'.ownBlock = some w.heap.size) → wpList Tryd.prog ops Q rest (a.put o.dst v') w') : wpList Tryd.prog ops Q (o :: rest) a w := by
  obtain ⟨i0, hi, hz0, hz1, hz2⟩ := info_parts info45
  refine wpList_append_own_at w hgd s x 46 ho B 37 i0 _ 7 64 Tryd.underlying46 hi hz0 hz1 hz2 rfl (by omega) sv k us hs hown ⟨g, 0, none⟩ 1 1 v.sp hx rfl (fun j u hu => ?_) (fun u hu => ?_) (by unfold maxLen; omega) (by omega) hB (fun v' w' h1 h2 _ h4 => h v' w' h1 h2 h4)
  · have hadd : (⟨g, 0, none⟩ : Addr).add j = ⟨g, j, none⟩ := by unfold Addr.add; split <;> simp_all
    rw [hadd, cell_of_row w g j _ 37 (0, 0) hc, List.getElem?_toArray]
    exact hu
  · unfold Vi.sp at hu
    simp at hu
    rcases hu with rfl | rfl | rfl | rfl | rfl | rfl | rfl <;> rfl
theorem own_some {w : World} {B e s k : Nat} {v : Value} {us : List Value} (h : w.ownsRow B e s v (k + 1) us) : ∃ g c, v = .slice (some ⟨g, 0, none⟩) (k + 1) c := by
  rcases h.2 with ⟨_, e⟩ | ⟨g, cap, cur, rfl, _⟩
  · omega
  · exact ⟨g, cap, rfl⟩
/-- behind the append -/
theorem Skx {w w3 : World} {Bs B g4 c4 sc : Nat} {sa : Option Addr} {v : Vi} {l : List Vi} (hBs : Bs < B) (ho : w.ownsRow B 37 7 (.slice sa l.length sc) l.length (spW l)) (hb : blk w Bs 46 #[.slice sa l.length sc])
    (ho' : w3.ownsRow B 37 7 (.slice (some ⟨g4, 0, none⟩) (l.length + 1) c4) (l.length + 1) (spW l ++ v.sp)) (hg : ((w.alloc (Obj.cells (Vi.cs v) 60)).alloc (Obj.cells v.sp.toArray 37)).grownBy w3 (Value.slice sa l.length sc).ownBlock)
    (_ha : (Value.slice (some ⟨g4, 0, none⟩) (l.length + 1) c4).ownBlock = (Value.slice sa l.length sc).ownBlock ∨ (Value.slice (some ⟨g4, 0, none⟩) (l.length + 1) c4).ownBlock = some ((w.alloc (Obj.cells (Vi.cs v) 60)).alloc (Obj.cells v.sp.toArray 37)).heap.size) :
    w3.cell? ⟨Bs, 0, none⟩ = some (.slice sa l.length sc) ∧ w3.frozen? ⟨Bs, 0, none⟩ = false ∧
    (w3.setCell ⟨Bs, 0, none⟩ (.slice (some ⟨g4, 0, none⟩) (l.length + 1) c4)).cell? ⟨Bs, 0, none⟩ = some (.slice (some ⟨g4, 0, none⟩) (l.length + 1) c4) ∧
    (w3.setCell ⟨Bs, 0, none⟩ (.slice (some ⟨g4, 0, none⟩) (l.length + 1) c4)).cell? ⟨w.heap.size, 7, none⟩ = some (.int .i64 v.pl) ∧
    (w3.setCell ⟨Bs, 0, none⟩ (.slice (some ⟨g4, 0, none⟩) (l.length + 1) c4)).cell? ⟨w.heap.size, 2, none⟩ = some (.int .i64 v.to) ∧
    (w3.setCell ⟨Bs, 0, none⟩ (.slice (some ⟨g4, 0, none⟩) (l.length + 1) c4)).cell? ⟨g4, l.length * 7 + 2, none⟩ = some (.int .i64 v.to) ∧
    (w3.setCell ⟨Bs, 0, none⟩ (.slice (some ⟨g4, 0, none⟩) (l.length + 1) c4)).frozen? ⟨g4, l.length * 7 + 2, none⟩ = false := by
  have hlt := hb.lt
  have own1 : ∀ x, (Value.slice sa l.length sc).ownBlock = some x → B ≤ x ∧ x < w.heap.size := fun x hx => own_lt ho hx
  have b0 : Below w.heap.size w (w.alloc (Obj.cells (Vi.cs v) 60)) := (Below.refl _ _).alloc (Nat.le_refl _) _
  have b1 : Below (w.alloc (Obj.cells (Vi.cs v) 60)).heap.size (w.alloc (Obj.cells (Vi.cs v) 60)) ((w.alloc (Obj.cells (Vi.cs v) 60)).alloc (Obj.cells v.sp.toArray 37)) := (Below.refl _ _).alloc (Nat.le_refl _) _
  have hs1 : (w.alloc (Obj.cells (Vi.cs v) 60)).heap.size = w.heap.size + 1 := by simp
  have hs2 : ((w.alloc (Obj.cells (Vi.cs v) 60)).alloc (Obj.cells v.sp.toArray 37)).heap.size = w.heap.size + 2 := by simp
  have hB3 : blk w3 Bs 46 #[.slice sa l.length sc] := ((hb.keep (b0.block _ hlt)).keep (b1.block _ (by omega))).keep (hg.block _ (by omega) (fun e => by have := own1 Bs e.symm; omega))
  have hP : blk w3 w.heap.size 60 (Vi.cs v) := by
    have e0 : blk (w.alloc (Obj.cells (Vi.cs v) 60)) w.heap.size 60 (Vi.cs v) := heap_new w _
    exact (e0.keep (b1.block _ (by omega))).keep (hg.block _ (by omega) (fun e => by have := own1 _ e.symm; omega))
  have hg4 := own_lt ho' (g := g4) rfl
  have hP4 : blk (w3.setCell ⟨Bs, 0, none⟩ (.slice (some ⟨g4, 0, none⟩) (l.length + 1) c4)) w.heap.size 60 (Vi.cs v) := hP.keep (Below.heap_setCell _ _ _ _ (show w.heap.size ≠ Bs by omega))
  have ho4 := ownsRow_setCell_below ho' (a := ⟨Bs, 0, none⟩) hBs (.slice (some ⟨g4, 0, none⟩) (l.length + 1) c4)
  refine ⟨hB3.cell 0, hB3.frozen 0, (hB3.set 0 _).cell 0, hP4.cell 7, hP4.cell 2, ?_, ?_⟩
  · obtain ⟨_, -, hcell⟩ := own_form ho4 (g := g4) rfl
    refine hcell _ _ ?_
    rw [List.getElem?_append_right (by rw [spW_len]; omega), spW_len, show l.length * 7 + 2 - l.length * 7 = 2 by omega]
    rfl
  · obtain ⟨cs', h5⟩ : ∃ cs, (w3.setCell ⟨Bs, 0, none⟩ (.slice (some ⟨g4, 0, none⟩) (l.length + 1) c4)).heap[g4]? = some (Obj.cells cs 37 (0, 0)) := by
      rcases ho4.2 with ⟨e, _⟩ | ⟨g, cap, cur, e, h2, h3, _⟩
      · cases e
      · injection e with e1 e2 e3; injection e1 with e1; injection e1 with e1; subst e1; exact ⟨_, h3⟩
    simp [World.frozen?, h5]
theorem SkA {w w3 : World} {Bs B g4 c4 sc : Nat} {sa : Option Addr} {v : Vi} {l : List Vi} (hBs : Bs < B) (c1 : v.pl = (l.length : Int)) (ho : w.ownsRow B 37 7 (.slice sa l.length sc) l.length (spW l)) (hb : blk w Bs 46 #[.slice sa l.length sc])
    (ho' : w3.ownsRow B 37 7 (.slice (some ⟨g4, 0, none⟩) (l.length + 1) c4) (l.length + 1) (spW l ++ v.sp)) (hg : ((w.alloc (Obj.cells (Vi.cs v) 60)).alloc (Obj.cells v.sp.toArray 37)).grownBy w3 (Value.slice sa l.length sc).ownBlock)
    (ha : (Value.slice (some ⟨g4, 0, none⟩) (l.length + 1) c4).ownBlock = (Value.slice sa l.length sc).ownBlock ∨ (Value.slice (some ⟨g4, 0, none⟩) (l.length + 1) c4).ownBlock = some ((w.alloc (Obj.cells (Vi.cs v) 60)).alloc (Obj.cells v.sp.toArray 37)).heap.size) :
    ∃ sv', blk ((w3.setCell ⟨Bs, 0, none⟩ (.slice (some ⟨g4, 0, none⟩) (l.length + 1) c4)).setCell ⟨g4, l.length * 7 + 2, none⟩ (.int .i64 v.to)) Bs 46 #[sv'] ∧ ((w3.setCell ⟨Bs, 0, none⟩ (.slice (some ⟨g4, 0, none⟩) (l.length + 1) c4)).setCell ⟨g4, l.length * 7 + 2, none⟩ (.int .i64 v.to)).ownsRow B 37 7 sv' (skStep l v).length (spW (skStep l v)) ∧ Near Bs (.slice sa l.length sc) w ((w3.setCell ⟨Bs, 0, none⟩ (.slice (some ⟨g4, 0, none⟩) (l.length + 1) c4)).setCell ⟨g4, l.length * 7 + 2, none⟩ (.int .i64 v.to)) ∧ (sv'.ownBlock = (Value.slice sa l.length sc).ownBlock ∨ ∃ g, sv'.ownBlock = some g ∧ w.heap.size ≤ g) := by
  have hlt := hb.lt
  have own1 : ∀ x, (Value.slice sa l.length sc).ownBlock = some x → B ≤ x ∧ x < w.heap.size := fun x hx => own_lt ho hx
  have b0 : Below w.heap.size w (w.alloc (Obj.cells (Vi.cs v) 60)) := (Below.refl _ _).alloc (Nat.le_refl _) _
  have b1 : Below (w.alloc (Obj.cells (Vi.cs v) 60)).heap.size (w.alloc (Obj.cells (Vi.cs v) 60)) ((w.alloc (Obj.cells (Vi.cs v) 60)).alloc (Obj.cells v.sp.toArray 37)) := (Below.refl _ _).alloc (Nat.le_refl _) _
  have hs1 : (w.alloc (Obj.cells (Vi.cs v) 60)).heap.size = w.heap.size + 1 := by simp
  have hs2 : ((w.alloc (Obj.cells (Vi.cs v) 60)).alloc (Obj.cells v.sp.toArray 37)).heap.size = w.heap.size + 2 := by simp
  have b2 := b0.trans (b1.mono (by omega))
  have hB3 : blk w3 Bs 46 #[.slice sa l.length sc] := (hb.keep (b2.block _ hlt)).keep (hg.block _ (by omega) (fun e => by have := own1 Bs e.symm; omega))
  have hg4 := own_lt ho' (g := g4) rfl
  have e1 : skStep l v = (l ++ [v]).modify l.length fun x => { x with to := v.to } := by
    unfold skStep
    rw [if_pos c1, c1]
    rfl
  have ho4 := own_set (u := .int .i64 v.to) (i := l.length * 7 + 2) (ownsRow_setCell_below ho' (a := ⟨Bs, 0, none⟩) hBs (.slice (some ⟨g4, 0, none⟩) (l.length + 1) c4)) (g := g4) rfl (by omega)
  rw [← spW_snoc, spW_set (l ++ [v]) l.length v.to (by simp)] at ho4
  refine ⟨.slice (some ⟨g4, 0, none⟩) (l.length + 1) c4, (hB3.set 0 _).keep (Below.heap_setCell _ _ _ _ (show Bs ≠ g4 by omega)), ?_, ⟨hg.os.trans b2.os, hg.tape.trans b2.tape, hg.output.trans b2.output, ?_, fun k hk hn hv => ?_⟩, ?_⟩
  · rw [e1, List.length_modify, List.length_append]
    exact ho4
  · rw [setCell_size, setCell_size]; exact Nat.le_trans b2.size hg.size
  · have hk4 : k ≠ g4 := fun e => by
      subst e
      rcases ha with h | h
      · exact hv h.symm
      · have : k = w.heap.size + 2 := by rw [hs2] at h; injection h
        omega
    rw [Below.heap_setCell _ _ _ _ hk4, Below.heap_setCell _ _ _ _ (show k ≠ Bs from hn)]
    exact (hg.block k (by omega) (fun e => hv e.symm)).trans (b2.block k hk)
  · rcases ha with h | h
    · exact .inl h
    · exact .inr ⟨_, h, by omega⟩
theorem SkB {w : World} {Bs B g sc : Nat} {v : Vi} {l : List Vi} (hBs : Bs < B) (c1 : ¬ v.pl = (l.length : Int)) (c2 : 0 ≤ v.pl ∧ v.pl < (l.length : Int)) (ho : w.ownsRow B 37 7 (.slice (some ⟨g, 0, none⟩) l.length sc) l.length (spW l)) (hb : blk w Bs 46 #[.slice (some ⟨g, 0, none⟩) l.length sc]) :
    ∃ sv', blk ((w.alloc (Obj.cells (Vi.cs v) 60)).setCell ⟨g, v.pl.toNat * 7 + 2, none⟩ (.int .i64 v.to)) Bs 46 #[sv'] ∧ ((w.alloc (Obj.cells (Vi.cs v) 60)).setCell ⟨g, v.pl.toNat * 7 + 2, none⟩ (.int .i64 v.to)).ownsRow B 37 7 sv' (skStep l v).length (spW (skStep l v)) ∧ Near Bs (.slice (some ⟨g, 0, none⟩) l.length sc) w ((w.alloc (Obj.cells (Vi.cs v) 60)).setCell ⟨g, v.pl.toNat * 7 + 2, none⟩ (.int .i64 v.to)) ∧ (sv'.ownBlock = (Value.slice (some ⟨g, 0, none⟩) l.length sc).ownBlock ∨ ∃ g', sv'.ownBlock = some g' ∧ w.heap.size ≤ g') := by
  have hlt := hb.lt
  have hg := own_lt ho (g := g) rfl
  have b0 : Below w.heap.size w (w.alloc (Obj.cells (Vi.cs v) 60)) := (Below.refl _ _).alloc (Nat.le_refl _) _
  have e1 : skStep l v = l.modify v.pl.toNat fun x => { x with to := v.to } := by unfold skStep; rw [if_neg c1]
  have ho4 := own_set (u := .int .i64 v.to) (i := v.pl.toNat * 7 + 2) (ho.alloc (Obj.cells (Vi.cs v) 60)) (g := g) rfl (by omega)
  rw [spW_set l _ v.to (by omega)] at ho4
  refine ⟨.slice (some ⟨g, 0, none⟩) l.length sc, (hb.keep (b0.block _ hlt)).keep (Below.heap_setCell _ _ _ _ (show Bs ≠ g by omega)), ?_, ⟨b0.os, b0.tape, b0.output, ?_, fun k hk hn hv => ?_⟩, .inl rfl⟩
  · rw [e1, List.length_modify]; exact ho4
  · rw [setCell_size]; exact b0.size
  · rw [Below.heap_setCell _ _ _ _ (show k ≠ g from fun e => hv (by rw [e]; rfl))]
    exact b0.block k hk
set_option maxRecDepth 10000 in
set_option maxHeartbeats 1000000 in
theorem skim27 {w : World} {Bs B : Nat} (hBs : Bs < B) (hB : B ≤ w.heap.size) (v : Vi) (l : List Vi) (sv : Value) (hb : blk w Bs 46 #[sv]) (ho : w.ownsRow B 37 7 sv l.length (spW l)) (hp : v.pl = (l.length : Int) ∨ (0 ≤ v.pl ∧ v.pl < (l.length : Int))) (hl : l.length ≤ 1048576) :
    Calls Tryd.prog 40 #[.agg (Vi.cs v), .pointer (some ⟨Bs, 0, none⟩)] w fun e w' => e = .returned (.bool true) ∧ ∃ sv', blk w' Bs 46 #[sv'] ∧ w'.ownsRow B 37 7 sv' (skStep l v).length (spW (skStep l v)) ∧ Near Bs sv w w' ∧ (sv'.ownBlock = sv.ownBlock ∨ ∃ g, sv'.ownBlock = some g ∧ w.heap.size ≤ g) := by
  obtain ⟨sa, sc, rfl⟩ := ownForm ho
  have b0 : Below w.heap.size w (w.alloc (Obj.cells (Vi.cs v) 60)) := (Below.refl _ _).alloc (Nat.le_refl _) _
  have hb1 : blk (w.alloc (Obj.cells (Vi.cs v) 60)) Bs 46 _ := hb.keep (b0.block _ hb.lt)
  have c0 : (w.alloc (Obj.cells (Vi.cs v) 60)).cell? ⟨Bs, 0, none⟩ = some (.slice sa l.length sc) := hb1.cell 0
  have f0 := hb1.frozen 0
  have HO : Hid (w.ownsRow B 37 7 (.slice sa l.length sc) l.length (spW l) ∧ blk w Bs 46 #[.slice sa l.length sc]) := ⟨ho, hb⟩
  have HO2 : Hid (((w.alloc (Obj.cells (Vi.cs v) 60)).alloc (Obj.cells #[.int .i64 v.kd, .int .i64 v.fr, .int .i64 v.to, .int .i64 v.dp, .int .i64 v.up, .int .i64 v.nt, .string v.ky] 37)).ownsRow B 37 7 (.slice sa l.length sc) l.length (spW l) ∧ ((w.alloc (Obj.cells (Vi.cs v) 60)).alloc (Obj.cells #[.int .i64 v.kd, .int .i64 v.fr, .int .i64 v.to, .int .i64 v.dp, .int .i64 v.up, .int .i64 v.nt, .string v.ky] 37)).heap[w.heap.size + 1]? = some (Obj.cells v.sp.toArray 37) ∧ B ≤ ((w.alloc (Obj.cells (Vi.cs v) 60)).alloc (Obj.cells #[.int .i64 v.kd, .int .i64 v.fr, .int .i64 v.to, .int .i64 v.dp, .int .i64 v.up, .int .i64 v.nt, .string v.ky] 37)).heap.size) := by
    refine ⟨(ho.alloc _).alloc _, ?_, by simp; omega⟩
    have := heap_new (w.alloc (Obj.cells (Vi.cs v) 60)) (Obj.cells v.sp.toArray 37)
    rw [show (w.alloc (Obj.cells (Vi.cs v) 60)).heap.size = w.heap.size + 1 by simp] at this
    exact this
  clear ho hb hb1 b0
  by_cases c1 : v.pl = (l.length : Int)
  · go_enter Tryd.func40, Tryd.ntmps40
    go_wp2_with (at_builtin; refine append_span rfl _ _ rfl rfl HO2.out.1 (w.heap.size + 1) v rfl HO2.out.2.1 HO2.out.2.2 (by omega) ?_; (intro sv' w3 ho' hg' ha'; obtain ⟨g4, c4, rfl⟩ := own_some ho'; have HX := Lib.hid (And.intro ho' (And.intro hg' ha')); have X := Skx hBs HO.out.1 HO.out.2 ho' hg' ha'; obtain ⟨e0, ef, q0, q7, q2, qr, qf⟩ := X; clear ho' hg' ha'))
    go_ret
    exact ⟨rfl, SkA hBs c1 HO.out.1 HO.out.2 HX.out.1 HX.out.2.1 HX.out.2.2⟩
  · have c2 : 0 ≤ v.pl ∧ v.pl < (l.length : Int) := by omega
    obtain ⟨g, rfl⟩ : ∃ g, sa = some ⟨g, 0, none⟩ := by
      rcases HO.out.1.2 with ⟨e, e2⟩ | ⟨g, cap, cur, e, _⟩
      · omega
      · injection e with e1; exact ⟨g, e1⟩
    have RC : (w.alloc (Obj.cells (Vi.cs v) 60)).cell? ⟨g, v.pl.toNat * 7 + 2, none⟩ = some (.int .i64 (l[v.pl.toNat]'(by omega)).to) ∧ (w.alloc (Obj.cells (Vi.cs v) 60)).frozen? ⟨g, v.pl.toNat * 7 + 2, none⟩ = false := by
      have ho1 := HO.out.1.alloc (Obj.cells (Vi.cs v) 60)
      obtain ⟨_, -, hcell⟩ := own_form ho1 (g := g) rfl
      refine ⟨hcell _ _ (spW_at l v.pl.toNat 2 _ (List.getElem?_eq_getElem (by omega)) (by omega)), ?_⟩
      obtain ⟨cs', h5⟩ : ∃ cs, (w.alloc (Obj.cells (Vi.cs v) 60)).heap[g]? = some (Obj.cells cs 37 (0, 0)) := by
        rcases ho1.2 with ⟨e, _⟩ | ⟨g', cap, cur, e, h2, h3, _⟩
        · cases e
        · injection e with e1; injection e1 with e1; injection e1 with e1; subst e1; exact ⟨_, h3⟩
      simp [World.frozen?, h5]
    obtain ⟨r0, r1⟩ := RC
    generalize (l[v.pl.toNat]'(by omega)).to = tt at r0
    have c1' : (v.pl == (l.length : Int)) = false := by simpa using c1
    have DONE := Lib.hid (SkB hBs c1 c2 HO.out.1 HO.out.2)
    clear hp HO2 HO c1
    obtain ⟨c3, c4⟩ := c2
    generalize hk : v.pl.toNat = k at *
    have hk2 : v.pl = (k : Int) := by omega
    go_enter Tryd.func40, Tryd.ntmps40
    go_wp2
    go_ret
    exact ⟨rfl, DONE.out⟩
end Go.Proofs.YtdlnnnlmlaploabDoor
namespace Go.Proofs.YtdlnnnlmlaploabDoor
open Go.RowKit Go.Deep
theorem skStep_len (l : List Vi) (v : Vi) : (skStep l v).length = if v.pl = (l.length : Int) then l.length + 1 else l.length := by
  unfold skStep
  rw [List.length_modify]
  split
  · rw [List.length_append]; rfl
  · rfl
abbrev gT : List Vi → Bool := fun _ => true
def RS.ls : RS → List Lv
  | .val ls _ _ => ls
  | .mid ls _ _ => ls
def RS.n : RS → Nat
  | .val _ _ n => n
  | .mid _ _ n => n
/-- the places of what is open; as many spans as values have begun -/
theorem Rch.places {b : List UInt8} {go : List Vi → Bool} {h : List Vi} {s : RS} (H : Rch b go h s) : (sk h).length = s.n ∧ ∀ l ∈ s.ls, 0 ≤ l.pl ∧ l.pl < (s.n : Int) := by
  induction H with
  | start => exact ⟨rfl, fun l hl => by cases hl⟩
  | @value h ls i n v ls' i' _ hv _ ih =>
    obtain ⟨a1, a2⟩ := ih
    have a1' : (sk h).length = n := a1
    have a2' : ∀ l ∈ ls, 0 ≤ l.pl ∧ l.pl < (n : Int) := a2
    have hp : v.pl = (n : Int) := by
      rcases hv with ⟨t, j, _, _, _, rfl, _, _⟩ | ⟨_, _, c3, _, _⟩
      · exact (due_fr' ls i n).2.2.1
      · rcases c3 with ⟨_, rfl⟩ | ⟨_, rfl⟩ <;> exact (due_fr' ls i n).2.2.1
    refine ⟨by rw [sk_snoc, skStep_len, if_pos (by rw [a1']; exact hp), a1']; rfl, ?_⟩
    show ∀ l ∈ ls', 0 ≤ l.pl ∧ l.pl < ((n + 1 : Nat) : Int)
    rcases hv with ⟨t, j, _, _, _, _, rfl, _⟩ | ⟨_, _, _, rfl, _⟩
    · intro l hl; have := a2' l hl; omega
    · intro l hl
      rcases List.mem_cons.1 hl with rfl | hl
      · show 0 ≤ v.pl ∧ v.pl < _; omega
      · have := a2' l hl; omega
  | @part h l r i n l' i' _ _ hp ih =>
    obtain ⟨a1, a2⟩ := ih
    refine ⟨a1, ?_⟩
    have a2' : ∀ x ∈ l :: r, 0 ≤ x.pl ∧ x.pl < (n : Int) := a2
    show ∀ x ∈ l' :: r, 0 ≤ x.pl ∧ x.pl < (n : Int)
    intro x hx
    rcases List.mem_cons.1 hx with rfl | hx
    · have := a2' l (by simp)
      rcases hp with ⟨_, rfl, _⟩ | ⟨_, _, t, j, _, _, rfl, _⟩ <;> exact this
    · exact a2' x (by simp [hx])
  | @close h l r i n _ _ _ _ ih =>
    obtain ⟨a1, a2⟩ := ih
    have a1' : (sk h).length = n := a1
    have a2' : ∀ x ∈ l :: r, 0 ≤ x.pl ∧ x.pl < (n : Int) := a2
    have hl := a2' l (by simp)
    refine ⟨?_, fun x hx => a2' x (by simp; exact .inr hx)⟩
    rw [sk_snoc, skStep_len, if_neg (by show ¬ l.pl = _; rw [a1']; omega), a1']
    rfl
/-- what Skim's visitor keeps -/
def JS (Bs B : Nat) (h : List Vi) (w : World) (S : Nat → Prop) : Prop :=
  Bs < B ∧ B ≤ w.heap.size ∧ ∃ sv, blk w Bs 46 #[sv] ∧ w.ownsRow B 37 7 sv (sk h).length (spW (sk h)) ∧ ∀ k, S k ↔ (k = Bs ∨ sv.ownBlock = some k)
theorem visS {b : List UInt8} (hlim : b.length ≤ 1048576) {A Bs B : Nat} (hA : A ≤ Bs) : Vis b 40 #[.pointer (some ⟨Bs, 0, none⟩)] gT (JS Bs B) A where
  keep := fun h w w' S ⟨h1, h2, sv, h3, h4, h5⟩ hs hk => by
    refine ⟨h1, Nat.le_trans h2 hs, sv, h3.keep (hk Bs (.inl ((h5 Bs).2 (.inl rfl)))), ?_, h5⟩
    refine ⟨h4.1, ?_⟩
    rcases h4.2 with e | ⟨g, cap, cur, q1, q2, q3, q4⟩
    · exact .inl e
    · exact .inr ⟨g, cap, cur, q1, q2, (hk g (.inl ((h5 g).2 (.inr (by rw [q1]; rfl))))).trans q3, q4⟩
  own := fun h w S ⟨h1, h2, sv, h3, h4, h5⟩ k hk => by
    rcases (h5 k).1 hk with rfl | hk
    · exact ⟨hA, _, _, _, h3, by decide, by decide⟩
    · rcases h4.2 with ⟨rfl, _⟩ | ⟨g, cap, cur, rfl, q2, q3, q4⟩
      · cases hk
      · cases hk; exact ⟨by show A ≤ g; omega, _, _, _, q3, by decide, by decide⟩
  enter := fun args w => by
    show (callFunc 40 args).run Tryd.prog w = .ok (.enter 40 args) w
    kernel_rfl
  call := fun h w S v ⟨h1, h2, sv, h3, h4, h5⟩ hx => by
    have hp : (v.pl = ((sk h).length : Int) ∨ (0 ≤ v.pl ∧ v.pl < ((sk h).length : Int))) ∧ (sk h).length ≤ 1048576 := by
      rcases hx with ⟨ls, i, n, ls', i', hr, hv⟩ | ⟨l, r, i, n, hr, hi, _, rfl⟩
      · obtain ⟨a1, _⟩ := hr.places
        have a3 := hr.ok hlim
        have a1' : (sk h).length = n := a1
        have a4 : n ≤ i := a3.2.1
        have a5 : i ≤ b.length := a3.1
        refine ⟨.inl ?_, by omega⟩
        rw [a1']
        rcases hv with ⟨t, j, _, _, _, rfl, _, _⟩ | ⟨_, _, c3, _, _⟩
        · exact (due_fr' ls i n).2.2.1
        · rcases c3 with ⟨_, rfl⟩ | ⟨_, rfl⟩ <;> exact (due_fr' ls i n).2.2.1
      · obtain ⟨a1, a2⟩ := hr.places
        have a1' : (sk h).length = n := a1
        have a3 := hr.ok hlim
        have a4 : n ≤ i := a3.2.1
        have := a2 l (by simp [RS.ls])
        exact ⟨.inr (by rw [a1']; exact this), by omega⟩
    refine (skim27 h1 h2 v (sk h) sv h3 h4 hp.1 hp.2).mono ?_
    rintro e w' ⟨rfl, sv', k1, k2, k3, k4⟩
    refine ⟨rfl, fun k => k = Bs ∨ sv'.ownBlock = some k, ⟨h1, Nat.le_trans h2 k3.size, sv', k1, by rw [sk_snoc]; exact k2, fun k => Iff.rfl⟩, ⟨k3.os, k3.tape, k3.output, k3.size, fun k hk hn => k3.block k hk (fun e => hn ((h5 k).2 (.inl e))) (fun e => hn ((h5 k).2 (.inr e))), fun k hk => ?_⟩⟩
    rcases hk with rfl | hk
    · exact .inl ((h5 _).2 (.inl rfl))
    · rcases k4 with e | ⟨g, e, hg⟩
      · exact .inl ((h5 _).2 (.inr (e ▸ hk)))
      · rw [e] at hk; injection hk with hk; subst hk; exact .inr hg
end Go.Proofs.YtdlnnnlmlaploabDoor
namespace Go.Proofs.YtdlnnnlmlaploabDoor
open Go.RowKit Go.Deep
set_option maxHeartbeats 1000000 in
theorem read26x {w : World} {a : Option Addr} {n c : Nat} (hn : 1048576 < n) (fv : Value) :
    Calls Tryd.prog 39 #[.slice a n c, fv] w fun e w' => e = .returned (.tuple #[.int .i64 0, .int .i64 20]) ∧ w' = w := by
  go_enter Tryd.func39, Tryd.ntmps39
  go_wp2
  go_step3
  go_wp2
  rw [Exit.noGoto_ret]
  go_ret2
  exact ⟨rfl, rfl⟩
/-- what Skim answers -/
def SKO (b : List UInt8) (w w' : World) (v : Value) (p er : Int) : Prop :=
  (1048576 < b.length ∧ v = .slice none 0 0 ∧ p = 0 ∧ er = 20) ∨ (b.length ≤ 1048576 ∧ ∃ h, Fin b gT h p er ∧ ((er ≠ 0 ∧ v = .slice none 0 0) ∨ (er = 0 ∧ p = 0 ∧ w'.ownsRow (w.heap.size + 1) 37 7 v (sk h).length (spW (sk h)))))
theorem Fin.zero {b : List UInt8} {go : List Vi → Bool} {h : List Vi} {p : Int} (H : Fin b go h p 0) : p = 0 := by
  generalize he : (0 : Int) = er at H
  cases H with
  | vstop => rfl
  | estop => rfl
  | vbad _ hz _ => exact absurd he.symm hz
  | pbad _ _ hp =>
    subst he
    rcases hp.2 with ⟨_, e, _⟩ | ⟨_, ⟨_, _, e, _⟩ | ⟨_, _, _, _, _, e, _⟩⟩
    · cases e
    · exact absurd rfl e
    · cases e
  | trail => cases he
  | done => rfl
set_option maxHeartbeats 1000000 in
theorem skim14 (v : Value) (b : List UInt8) (w : World) (hr : RB w v b) (hev : EVw w) :
    Calls Tryd.prog 22 #[v] w fun e w' => ∃ sv p er, e = .returned (.tuple #[sv, .int .i64 p, .int .i64 er]) ∧ SKO b w w' sv p er ∧ Below w.heap.size w w' := by
  obtain ⟨a, c, rfl, hc, ht⟩ := hr
  have b0 : Below w.heap.size w (w.alloc (Obj.cells #[.slice none 0 0] 46)) := (Below.refl _ _).alloc (Nat.le_refl _) _
  by_cases hl : b.length ≤ 1048576
  · have hA : b = [] ∨ ∀ g o, a = some ⟨g, o, none⟩ → g < w.heap.size := by
      rcases ht with h | ⟨g', o', e', h1, _⟩
      · exact .inl h
      · exact .inr fun g o e => by rw [e'] at e; injection e with e; injection e with e1; omega
    have h4 : 1 < w.heap.size := by obtain ⟨_, ⟨t, p, h2⟩⟩ := hev; exact World.block_lt_of_cell? w _ h2
    have ht1 : b = [] ∨ ∃ g o, a = some ⟨g, o, none⟩ ∧ g < (w.alloc (Obj.cells #[.slice none 0 0] 46)).heap.size ∧ ∀ j, j < b.length → (w.alloc (Obj.cells #[.slice none 0 0] 46)).cell? ⟨g, o + j, none⟩ = some (.int .u8 ((byt b j).toNat : Int)) := by
      rcases ht with h | ⟨g, o, h1, h2, h3⟩
      · exact .inl h
      · exact .inr ⟨g, o, h1, Nat.lt_of_lt_of_le h2 b0.size, fun j hj => (b0.cell h2).trans (h3 j hj)⟩
    have hJ : JS w.heap.size (w.heap.size + 1) [] (w.alloc (Obj.cells #[.slice none 0 0] 46)) (fun k => k = w.heap.size) := ⟨by omega, by simp, .slice none 0 0, heap_new w _, World.ownsRow_nil _ _ _ _, fun k => by simp [Value.ownBlock]⟩
    have C := Lib.hid (read26 (visS (A := w.heap.size) (B := w.heap.size + 1) hl (Nat.le_refl _)) hl hc hA h4 (by simp) (hev.keep b0) ht1 hJ)
    have HB := Lib.hid (And.intro hl b0)
    clear ht1 hJ ht hev hA h4 b0 hc hl
    go_enter Tryd.func22, Tryd.ntmps22
    go_wp2_with fail
    refine C.out.mono ?_
    rintro e w' ⟨h, p, er, S, rfl, hF, ⟨_, hs, sv, hb, ho, _⟩, hv⟩
    have BB : Hid (Below w.heap.size w w') := by
      have b0 := HB.out.2
      exact ⟨hv.os.trans b0.os, hv.tape.trans b0.tape, hv.output.trans b0.output, Nat.le_trans b0.size hv.size, fun k hk => (hv.block k (Nat.lt_of_lt_of_le hk b0.size) (by show ¬ k = w.heap.size; omega)).trans (b0.block k hk)⟩
    have c0 : w'.cell? ⟨w.heap.size, 0, none⟩ = some sv := hb.cell 0
    have HF := Lib.hid (And.intro hF ho)
    clear hF ho hs hb hv C
    by_cases ce : er = 0
    · subst ce
      obtain rfl := HF.out.1.zero
      go_wp2
      go_ret3
      exact ⟨sv, 0, 0, rfl, .inr ⟨HB.out.1, h, HF.out.1, .inr ⟨rfl, rfl, HF.out.2⟩⟩, BB.out⟩
    · have ce' : (er != 0) = true := by simpa using ce
      go_wp2
      go_ret3
      exact ⟨.slice none 0 0, p, er, rfl, .inr ⟨HB.out.1, h, HF.out.1, .inl ⟨ce, rfl⟩⟩, BB.out⟩
  · have C := read26x (w := w.alloc (Obj.cells #[.slice none 0 0] 46)) (a := a) (c := c) (show 1048576 < b.length by omega) (.func (.func 40) #[] #[.pointer (some ⟨w.heap.size, 0, none⟩)])
    have HL : Hid (1048576 < b.length) := by show _ < _; omega
    have b0H := Lib.hid b0
    clear ht hc hev
    go_enter Tryd.func22, Tryd.ntmps22
    go_wp2_with fail
    refine C.mono ?_
    rintro e w' ⟨rfl, rfl⟩
    go_wp2
    go_ret3
    exact ⟨.slice none 0 0, 0, 20, rfl, .inl ⟨HL.out, rfl, rfl, rfl⟩, b0⟩
end Go.Proofs.YtdlnnnlmlaploabDoor
