import Derived.Test.YtdlnnnlmlaploaaDoorSE
import Derived.Deep.LoopGhost
import Derived.WalkMore
namespace Go.Proofs.YtdlnnnlmlaploaaDoor
open Go.RowKit Go.Deep
theorem cs_one (v : Vi) : (Vi.cs v).all (·.oneCell') = true := by kernel_rfl
set_option maxRecDepth 10000 in
set_option maxHeartbeats 2000000 in
theorem read26 {A : Nat} {J : List Vi → World → (Nat → Prop) → Prop} {fn : Nat} {caps : Array Value} {go : List Vi → Bool} {w : World} {S0 : Nat → Prop} {a : Option Addr} {c : Nat} {b : List UInt8}
    (V : Vis b fn caps go J A) (hlim : b.length ≤ 1048576) (hc : b.length ≤ c) (hA : b = [] ∨ ∀ g o, a = some ⟨g, o, none⟩ → g < A) (h4 : 4 < A) (hAw : A ≤ w.heap.size) (hev : EVw w)
    (htx : b = [] ∨ ∃ g o, a = some ⟨g, o, none⟩ ∧ g < w.heap.size ∧ ∀ j, j < b.length → w.cell? ⟨g, o + j, none⟩ = some (.int .u8 ((byt b j).toNat : Int))) (hJ : J [] w S0) :
    Calls Tryd.prog 26 #[.slice a b.length c, .func (.func fn) #[] caps] w fun e w' => ∃ h p er S, e = .returned (.tuple #[.int .i64 p, .int .i64 er]) ∧ Fin b go h p er ∧ J h w' S ∧ FV w w' S0 S := by
  have VH : Hid (Vis b fn caps go J A) := V
  have HH : Hid ((b = [] ∨ ∀ g o, a = some ⟨g, o, none⟩ → g < A) ∧ 4 < A ∧ A ≤ w.heap.size ∧ EVw w ∧ (b = [] ∨ ∃ g o, a = some ⟨g, o, none⟩ ∧ g < w.heap.size ∧ ∀ j, j < b.length → w.cell? ⟨g, o + j, none⟩ = some (.int .u8 ((byt b j).toNat : Int))) ∧ J [] w S0) := ⟨hA, h4, hAw, hev, htx, hJ⟩
  have EN := V.enter
  clear V hA h4 hAw hev htx hJ
  go_enter Tryd.func26, Tryd.ntmps26
  go_wp2
  go_step3
  go_wp2
  go_step3
  go_wp2_with fail
  go_loopg [7] (b.length + 1) (fun gk flt wr => flt = .int .i64 0 ∧ ∃ h ls i n ov S, Hid (Rch b go h (.val ls i n) ∧ RV2 A J w S0 w.heap.size a c b h ls i n ov wr S) ∧ i + gk = b.length + 1 ∧ w.heap.size < wr.heap.size)
  case atStart =>
    obtain ⟨hA, h4, hAw, hev, htx, hJ⟩ := HH.out
    exact ⟨rfl, [], [], 0, 0, _, S0, ⟨.start, RV2.start VH.out hlim hc h4 hAw hev htx hJ⟩, by omega, by simp⟩
  case round =>
    obtain ⟨rfl, h, ls, i, n, ov, S, HR, hik, hwr⟩ := hrel
    have HZ : Hid (RV2 A J w S0 w.heap.size a c b h ls i n ov (wr.alloc zero9) S) := HR.out.2.below VH.out ((Below.refl _ _).alloc (Nat.le_refl _) _)
    have C := Lib.hid (value40 HZ.out.sr (HR.out.1.ok hlim))
    go_wp2_with fail
    refine C.out.mono ?_
    rintro e w1 ⟨v, er, ov', ls', i', rfl, s1, n1, q1⟩
    have R1 : Hid (RV2 A J w S0 w.heap.size a c b h ls' i' (n + 1) ov' w1 S) := HZ.out.step VH.out s1 n1
    have hz : blk w1 wr.heap.size 47 #[.int .i64 0, .int .i64 0, .int .i64 0, .int .i64 0, .int .i64 0, .int .i64 0, .string { data := #[] }, .int .i64 0, .int .i64 0] := by
      have e0 : blk (wr.alloc zero9) wr.heap.size 47 #[.int .i64 0, .int .i64 0, .int .i64 0, .int .i64 0, .int .i64 0, .int .i64 0, .string { data := #[] }, .int .i64 0, .int .i64 0] := heap_new wr zero9
      exact e0.keep (n1.block _ e0.lt (by omega) (fun e => by have := (own_lt HR.out.2.sr.own e).2; omega))
    have hg3 : ¬ S wr.heap.size := fun e => by have := (HR.out.2.apart VH.out _ e).2.2.2; omega
    have hg2 : ov'.ownBlock ≠ some wr.heap.size := fun e => by
      obtain ⟨cs', h5⟩ := own_obj s1.own e
      rw [show w1.heap[wr.heap.size]? = _ from hz] at h5
      injection h5 with h5
      injection h5 with e1 e2 e3
      cases e2
    have R2 : Hid (RV2 A J w S0 w.heap.size a c b h ls' i' (n + 1) ov' (w1.setRow wr.heap.size (Vi.cs v)) S ∧ blk (w1.setRow wr.heap.size (Vi.cs v)) wr.heap.size 47 (Vi.cs v)) := by
      obtain ⟨hA, h4, hAw, _⟩ := HH.out
      exact ⟨R1.out.far VH.out (besides_row ..) (by omega) hg2 hg3 (by omega) hAw hA h4, blk_row hz _⟩
    have Q1 : Hid ((er = 0 ∧ VG b ls i n v ls' i') ∨ er ≠ 0 ∧ VBd b ls i er i') := q1
    have i47 : (Tryd.prog.info? 47).map (·.size) = some (Vi.cs v).size := info47s
    clear s1 n1 q1 hg2 hg3 R1 C HZ
    by_cases ce : er = 0
    · subst ce
      have q1 : VG b ls i n v ls' i' := by rcases Q1.out with q | q; exact q.2; exact absurd rfl q.1
      have G1 : Hid (VG b ls i n v ls' i') := q1
      clear Q1 q1
      go_wp2_with (first | (refine wpList_store_row rfl 47 _ _ rfl wr.heap.size (Vi.cs v) rfl rfl 47 _ hz i47 rfl (cs_one v) ?_; (obtain ⟨d0, d1, d2, d3, d4, d5, d6, d7, d8⟩ := R2.out.2.cells9; generalize w1.setRow wr.heap.size (Vi.cs v) = w2 at *)))
      clear d0 d1 d2 d3 d4 d5 d6 d7 d8
      refine (VH.out.call h w2 S v R2.out.1.j (.inl ⟨ls, i, n, ls', i', HR.out.1, G1.out⟩)).mono ?_
      rintro e w3 ⟨rfl, S', j3, f3⟩
      have R3 : Hid (RV2 A J w S0 w.heap.size a c b (h ++ [v]) ls' i' (n + 1) ov' w3 S') := by
        obtain ⟨hA, h4, _⟩ := HH.out
        exact R2.out.1.vis VH.out j3 f3 hA h4
      have hw3 : w.heap.size < w3.heap.size := R3.out.sr.bk.lt
      clear j3 f3 R2 hz
      cases hgo : go (h ++ [v]) with
      | false =>
        have FI : Hid (Fin b go (h ++ [v]) 0 0) := .vstop HR.out.1 G1.out hgo
        clear hgo
        go_wp2
        rw [Exit.noGoto_ret]
        go_ret2
        exact ⟨_, 0, 0, S', rfl, FI.out, R3.out.j, R3.out.fv⟩
      | true =>
        have HM : Hid (Rch b go (h ++ [v]) (.mid ls' i' (n + 1))) := .value HR.out.1 G1.out hgo
        clear hgo
        go_wp2_with fail
        have hii : i < i' ∧ i' ≤ b.length := by
          have hok := HR.out.1.ok hlim
          have hok2 := HM.out.ok hlim
          refine ⟨?_, hok2.1⟩
          rcases G1.out with ⟨t, j, c1, c2, c3, _, _, rfl⟩ | ⟨_, _, _, _, rfl⟩
          · have := leaf_pos hok.1 hlim c1 c2 c3; omega
          · omega
        have HRM : Hid (Rch b go (h ++ [v]) (.mid ls' i' (n + 1)) ∧ RV2 A J w S0 w.heap.size a c b (h ++ [v]) ls' i' (n + 1) ov' w3 S') := ⟨HM.out, R3.out⟩
        clear HM R3 G1
        go_loopg [7] (b.length + 1 - i') (fun gk2 flt wr2 => flt = .int .i64 0 ∧ ∃ h2 ls2 i2 n2 ov2 S2, Hid (Rch b go h2 (.mid ls2 i2 n2) ∧ RV2 A J w S0 w.heap.size a c b h2 ls2 i2 n2 ov2 wr2 S2) ∧ i2 + gk2 = b.length + 1 ∧ i < i2 ∧ i2 ≤ b.length ∧ w.heap.size < wr2.heap.size)
        case atStart => exact ⟨rfl, h ++ [v], ls', i', n + 1, ov', S', HRM, by omega, by omega, by omega, hw3⟩
        case round =>
          obtain ⟨rfl, h2, ls2, i2, n2, ov2, S2, HQ, hik2, hi2, hi2b, hwr2⟩ := hrel
          obtain ⟨oa, oc, rfl⟩ := ownForm HQ.out.2.sr.own
          obtain ⟨_, e1, _, e3, _⟩ := HQ.out.2.sr.cells
          clear HRM
          cases ls2 with
          | nil =>
            have e3' : wr.cell? ⟨w.heap.size, 3, none⟩ = some (.slice oa 0 oc) := e3
            clear e3
            by_cases ct : i2 < b.length
            · go_wp2
              rw [Exit.noGoto_ret]
              go_ret2
              exact ⟨h2, i2, 26, S2, rfl, .trail HQ.out.1 ct, HQ.out.2.j, HQ.out.2.fv⟩
            · go_wp2
              rw [Exit.noGoto_ret]
              go_ret2
              exact ⟨h2, 0, 0, S2, rfl, .done HQ.out.1 (by omega), HQ.out.2.j, HQ.out.2.fv⟩
          | cons l r =>
            have e3' : wr.cell? ⟨w.heap.size, 3, none⟩ = some (.slice oa (r.length + 1) oc) := e3
            have C41 := Lib.hid (next41 HQ.out.2.sr)
            have hok := Lib.hid (HQ.out.1.ok hlim)
            clear e3
            go_wp2_with fail
            refine C41.out.mono ?_
            rintro e w4 ⟨rfl, b4⟩
            have R4 : Hid (RV2 A J w S0 w.heap.size a c b h2 (l :: r) i2 n2 _ w4 S2) := HQ.out.2.below VH.out b4
            clear b4 C41 e1 e3'
            by_cases c101 : byt b i2 = 101
            · have hi : i2 < b.length := by
                rcases Nat.lt_or_ge i2 b.length with g | g
                · exact g
                · rw [byt_end g] at c101; cases c101
              have z : ((byt b i2).toNat : Int) = 101 := by rw [c101]; rfl
              have C42 := Lib.hid (close42 R4.out.sr hok.out hi)
              have NX : Hid (Nx b go h2 (endV l i2)) := .inr ⟨l, r, i2, n2, HQ.out.1, hi, c101, rfl⟩
              have H101 : Hid (byt b i2 = 101) := c101
              clear c101
              rw [z]
              go_wp2_with fail
              refine C42.out.mono ?_
              rintro e w5 ⟨ov5, rfl, s5, n5⟩
              have R5 : Hid (RV2 A J w S0 w.heap.size a c b h2 r (i2 + 1) n2 ov5 w5 S2) := R4.out.step VH.out s5 (Near.of n5)
              clear s5 n5 C42 R4
              go_wp2_with fail
              refine (VH.out.call h2 w5 S2 (endV l i2) R5.out.j NX.out).mono ?_
              rintro e w6 ⟨rfl, S6, j6, f6⟩
              have R6 : Hid (RV2 A J w S0 w.heap.size a c b (h2 ++ [endV l i2]) r (i2 + 1) n2 ov5 w6 S6) := by
                obtain ⟨hA, h4, _⟩ := HH.out
                exact R5.out.vis VH.out j6 f6 hA h4
              have hw6 : w.heap.size < w6.heap.size := R6.out.sr.bk.lt
              clear j6 f6 R5 NX
              cases hgo : go (h2 ++ [endV l i2]) with
              | false =>
                have FI : Hid (Fin b go (h2 ++ [endV l i2]) 0 0) := .estop HQ.out.1 hi H101.out hgo
                clear hgo
                go_wp2
                rw [Exit.noGoto_ret]
                go_ret2
                exact ⟨_, 0, 0, S6, rfl, FI.out, R6.out.j, R6.out.fv⟩
              | true =>
                have HM : Hid (Rch b go (h2 ++ [endV l i2]) (.mid r (i2 + 1) n2)) := .close HQ.out.1 hi H101.out hgo
                clear hgo
                go_wp2
                go_roundg (b.length + 1 - (i2 + 1))
                case measure => omega
                case rel => exact ⟨rfl, _, r, i2 + 1, n2, ov5, S6, ⟨HM.out, R6.out⟩, by omega, by omega, by omega, hw6⟩
            · have z : ((byt b i2).toNat : Int) ≠ 101 := u8_ne c101
              have C43 := Lib.hid (part43 R4.out.sr hok.out)
              have N101 : Hid (byt b i2 ≠ 101) := c101
              clear c101
              generalize ((byt b i2).toNat : Int) = zz at *
              go_wp2_with fail
              refine C43.out.mono ?_
              rintro e w5 ⟨er, i5, us5, rfl, s5, n5, q5⟩
              by_cases ce2 : er = 0
              · obtain ⟨l5, hus, hpg⟩ : ∃ l', us5 = usW (l' :: r) ∧ PGd b l i2 l' i5 := by
                  rcases q5 with q | q
                  · exact q.2
                  · exact absurd ce2 q.1
                subst hus
                subst ce2
                have R5 : Hid (RV2 A J w S0 w.heap.size a c b h2 (l5 :: r) i5 n2 _ w5 S2) := R4.out.step VH.out s5 n5
                have HM : Hid (Rch b go h2 (.val (l5 :: r) i5 n2)) := .part HQ.out.1 N101.out hpg
                have hi5 : i2 ≤ i5 ∧ i5 ≤ b.length := ⟨by rcases hpg with ⟨_, _, rfl⟩ | ⟨_, _, t, j, _, _, _, rfl⟩ <;> omega, (HM.out.ok hlim).1⟩
                have hw5 : w.heap.size < w5.heap.size := R5.out.sr.bk.lt
                clear s5 n5 q5 hpg R4 C43
                go_wp2
                go_roundg (b.length + 1 - i5)
                case measure => omega
                case rel => exact ⟨rfl, h2, l5 :: r, i5, n2, _, S2, ⟨HM.out, R5.out⟩, by omega, hw5⟩
              · have ce2' : (er != 0) = true := by simpa using ce2
                obtain ⟨_, d1, _⟩ := s5.cells
                have hpb : Hid (PBd b l i2 er i5) := by
                  rcases q5 with q | q
                  · exact absurd q.1 ce2
                  · exact q.2
                have JF : Hid (J h2 w5 S2 ∧ FV w w5 S0 S2) := by
                  refine ⟨VH.out.keep h2 w4 w5 S2 R4.out.j n5.size (fun k hk => n5.block k (R4.out.apart VH.out k hk).2.2.2 (R4.out.apart VH.out k hk).1 (R4.out.apart VH.out k hk).2.1), R4.out.fv.near n5 R4.out.sr.low R4.out.own_ge⟩
                clear s5 n5 q5 R4 C43
                go_wp2
                rw [Exit.noGoto_ret]
                go_ret2
                exact ⟨h2, i5, er, S2, rfl, .pbad HQ.out.1 N101.out hpb.out, JF.out.1, JF.out.2⟩
    · have ce' : (er != 0) = true := by simpa using ce
      go_wp2_with (first | (refine wpList_store_row rfl 47 _ _ rfl wr.heap.size (Vi.cs v) rfl rfl 47 _ hz i47 rfl (cs_one v) ?_; (obtain ⟨_, d1, _⟩ := R2.out.1.sr.cells; generalize w1.setRow wr.heap.size (Vi.cs v) = w2 at *)))
      rw [Exit.noGoto_ret]
      go_ret2
      exact ⟨h, i', er, S, rfl, .vbad HR.out.1 ce (by rcases Q1.out with q | q; exact absurd q.1 ce; exact q.2), R2.out.1.j, R2.out.1.fv⟩
end Go.Proofs.YtdlnnnlmlaploaaDoor
