import Derived.Test.YtbnnfpjgjieaeaaDoorN4
namespace Go.Proofs.YtbnnfpjgjieaeaaDoor
open Go.RowKit
/-- what was read, as a message in memory -/
theorem MM.of_dec {w w' : World} {l : List UInt8} {d h : Value} (hd : OW w.heap.size w' d (decS l).D) (hh : OH w.heap.size w' h (decS l).hb) : MM w' { (decS l).m with d := d, h := h } (decS l).D (decS l).hb := by
  have hl : (decS l).m.r.length = 32 ∧ (decS l).D.length ≤ 32768 ∧ (decS l).hb.length ≤ 32768 := by
    unfold decS
    by_cases hE : decE l = 0
    · rw [if_pos hE]
      unfold decE at hE
      split at hE
      · omega
      · rename_i h1
        cases hr : rowFor (kindB l) with
        | none => rw [hr] at hE; simp at hE
        | some r =>
          rw [hr] at hE
          simp only at hE ⊢
          split at hE
          · rename_i hfit
            have hnds := fit_NDS r (rowFor_mem hr).1 l hfit
            refine ⟨tks_r _ _ (zr_len 32) hnds, ?_⟩
            have key : ∀ (cs : List Nat) (s : Ds), s.l.length ≤ 32768 → s.D.length ≤ 32768 → s.hb.length ≤ 32768 → (Ds.tks cs s).D.length ≤ 32768 ∧ (Ds.tks cs s).hb.length ≤ 32768 := by
              intro cs
              induction cs with
              | nil => intro s _ h2 h3; exact ⟨h2, h3⟩
              | cons c cs ih =>
                intro s h1 h2 h3
                refine ih (Ds.tk c s) (Nat.le_trans (rst_le c s.l) h1) ?_ ?_
                · show (dD c s.l s.D).length ≤ _
                  unfold dD; split <;> assumption
                · show (dH c s.l s.hb).length ≤ _
                  unfold dH; split <;> assumption
            exact key r.cs ⟨zmk r.k, [], [], l⟩ (by simp only; omega) (by simp) (by simp)
          · omega
    · rw [if_neg hE]
      exact ⟨zr_len 32, by simp, by simp⟩
  exact ⟨⟨hl.1, hd.form3, hh.form⟩, hd.rb, hh.rh, by omega, by omega⟩
/-- the message of awake -/
def am : Mv := { zmk 6 with i := 258, b := 64, l := 16384 }
abbrev am40 : Array Value := #[Value.int .i64 6, Value.int .i64 258, Value.int .i64 64, Value.int .i64 16384, Value.slice none 0 0, Value.int .u8 0, Value.int .u8 0, Value.int .u8 0, Value.int .u8 0, Value.int .u8 0, Value.int .u8 0, Value.int .u8 0, Value.int .u8 0, Value.int .u8 0, Value.int .u8 0, Value.int .u8 0, Value.int .u8 0, Value.int .u8 0, Value.int .u8 0, Value.int .u8 0, Value.int .u8 0, Value.int .u8 0, Value.int .u8 0, Value.int .u8 0, Value.int .u8 0, Value.int .u8 0, Value.int .u8 0, Value.int .u8 0, Value.int .u8 0, Value.int .u8 0, Value.int .u8 0, Value.int .u8 0, Value.int .u8 0, Value.int .u8 0, Value.int .u8 0, Value.int .u8 0, Value.int .u8 0, Value.int .i64 0, Value.int .i64 0, Value.slice none 0 0]
abbrev ab13 : List UInt8 := [6, 0, 0, 1, 2, 0, 0, 0, 64, 0, 0, 64, 0]
theorem am_ok : am.ok := ⟨zr_len 32, ⟨_, _, _, rfl⟩, ⟨_, _, _, rfl⟩⟩
theorem am_val : valE am = 0 := by decide
theorem am_enc : encB am [] [] = ab13 := by decide
theorem am_built : Tryd.prog.built 47 [(0, .int .i64 6), (1, .int .i64 258), (2, .int .i64 64), (3, .int .i64 16384)] = some am40 := by kernel_rfl
theorem am_cs : am40 = am.cs := rfl
theorem am_info : (Tryd.prog.info? 47).map (·.size) = some am40.size := by kernel_rfl
theorem am_one : am40.all (·.oneCell') = true := am_ok.one
theorem MM.nil {w : World} {m : Mv} (ok : m.ok) (hd : m.d = .slice none 0 0) (hh : m.h = .slice none 0 0) : MM w m [] [] := ⟨ok, by rw [hd]; exact ⟨none, 0, rfl, Nat.le_refl _, .inl rfl⟩, by rw [hh]; exact ⟨none, 0, 0, rfl, rfl, Nat.le_refl _, .inl rfl⟩, by simp, by simp⟩
/-- the two messages of awake as cells -/
def two80 : Array Value := am40 ++ zk40 (-1)
theorem fill_two : Instr.fill (fun i => some (i * 40, 40)) ((Array.range (2 * 40)).map ((Value.agg z40).cells[· % (Value.agg z40).cells.size]!)) [(0, .agg am40), (1, .agg (zk40 (-1)))] = some two80 := by kernel_rfl
theorem build_two {ops : Array Oper} {rest : List Oper} {o : Oper} {a : Act} {w : World} {Q : Exit → Act → World → Prop} (hg : o.guard = none) (x y : Operand) (ho : o.op = .buildSlice 22 2 #[(0, x), (1, y)]) (hx : a.eval x = .agg am40) (hy : a.eval y = .agg (zk40 (-1)))
    (h : wpList Tryd.prog ops Q rest (a.put o.dst (.slice (some ⟨w.heap.size, 0, none⟩) 2 2)) (w.alloc (.cells two80 47))) : wpList Tryd.prog ops Q (o :: rest) a w := by
  obtain ⟨i0, hi, hz0, hz1, hz2⟩ := info_parts info_msgP
  refine wpList_buildSlice hg 22 47 2 _ ho two80 i0 _ Tryd.underlying22 hi hz0 (by rw [hz1]; decide) (by rw [hz1]; decide) ?_ h
  rw [hz1]
  have e : (#[(0, x), (1, y)].map fun (i, y) => (i, a.eval y)).toList = [(0, .agg am40), (1, .agg (zk40 (-1)))] := by simp only [List.map_toArray, List.map_cons, List.map_nil, hx, hy]
  rw [e]
  exact fill_two
def twoM : List Mg := [⟨am, [], []⟩, ⟨zmk (-1), [], []⟩]
set_option maxRecDepth 100000 in
theorem two80_eq : two80 = (am.ls ++ (zmk (-1)).ls).toArray := rfl
set_option maxRecDepth 100000 in
theorem rms_two {w : World} {g : Nat} (h : w.heap[g]? = some (.cells two80 47 (0, 0))) : RMS w (.slice (some ⟨g, 0, none⟩) 2 2) twoM := by
  have hr : w.rangeAt g 0 (am.ls ++ (zmk (-1)).ls) := rangeOf (two80_eq ▸ h)
  refine ⟨_, 2, rfl, Nat.le_refl _, .inr ⟨g, 0, rfl, (Array.getElem?_eq_some_iff.1 h).1, fun i x hx => ?_⟩, fun x hx => ?_⟩
  · match i, hx with
    | 0, hx =>
      simp [twoM] at hx
      subst hx
      intro j v hj
      have hlt := (List.getElem?_eq_some_iff.1 hj).1
      exact hr j v (by rw [List.getElem?_append_left hlt]; exact hj)
    | 1, hx =>
      simp [twoM] at hx
      subst hx
      intro j v hj
      have h9 := hr (40 + j) v (by
        rw [List.getElem?_append_right (by show (40 : Nat) ≤ _; omega)]
        show (zmk (-1)).ls[40 + j - 40]? = _
        rw [Nat.add_sub_cancel_left]; exact hj)
      rw [← Nat.add_assoc] at h9
      exact h9
    | n + 2, hx => simp [twoM] at hx
  · simp [twoM] at hx
    rcases hx with rfl | rfl
    · exact MM.nil am_ok rfl rfl
    · exact MM.nil (zmk_ok _) rfl rfl
theorem two_wirE : wirE twoM = 0 := by decide
theorem two_len : (wirB twoM).length = 21 := by decide
end Go.Proofs.YtbnnfpjgjieaeaaDoor
namespace Go.Proofs.YtbnnfpjgjieaeaaDoor
open Go.RowKit
set_option maxHeartbeats 1000000 in
theorem numLT (w : World) (k : Int) : Calls Tryd.prog 8 #[.int .i64 k] w fun e w' => e = .returned (.int .i64 k) ∧ w = w' := by
  go_enter Tryd.func8, Tryd.ntmps8
  go_wp2
  go_ret
  exact ⟨rfl, rfl⟩
set_option maxHeartbeats 2000000 in
set_option maxRecDepth 100000 in
theorem awakeT (w : World) (hk : KT w) :
    Calls Tryd.prog 6 #[] w fun e w' => e = .returned (.bool true) ∧ Below w.heap.size w w' := by
  have hz := heapNew w (.cells z40 47)
  have hc := heapSetRow _ _ _ am40 _ hz
  have b0 : Below w.heap.size w ((w.alloc (.cells z40 47)).setRow w.heap.size am40) := belowSetRow ((Below.refl _ _).alloc (Nat.le_refl _) _) (Nat.le_refl _) _
  have HA : Hid (MB ((w.alloc (.cells z40 47)).setRow w.heap.size am40) w.heap.size am ∧ KT ((w.alloc (.cells z40 47)).setRow w.heap.size am40) ∧ Below w.heap.size w ((w.alloc (.cells z40 47)).setRow w.heap.size am40)) := ⟨hc, hk.below b0 hk.pos, b0⟩
  have hbt := am_built
  have hmi := am_info
  have hmo := am_one
  clear b0 hk
  go_enter Tryd.func6, Tryd.ntmps6
  go_wp2_with (first | (refine wpList_built rfl 47 _ rfl am40 hbt ?_) | (refine wpList_store_row rfl 47 _ _ rfl w.heap.size am40 rfl rfl 47 z40 hz hmi rfl hmo ?_) | (refine wpList_load_row rfl 47 _ rfl w.heap.size rfl 47 am40 (0, 0) _ hc Tryd.underlying47 rfl hmi ?_))
  generalize (w.alloc (.cells z40 47)).setRow w.heap.size am40 = X at *
  have HE := encodeT X am [] [] (MM.nil am_ok rfl rfl) HA.out.2.1
  rw [am_val, am_enc] at HE
  refine HE.mono ?_
  rintro e w1 ⟨v1, rfl, o1, b1⟩
  obtain ⟨va, vn, vc, rfl⟩ := o1.form3
  have HB : Hid (RB w1 (.slice va vn vc) ab13 ∧ MB w1 w.heap.size am ∧ KT w1 ∧ Below w.heap.size w w1) := ⟨o1.rb, HA.out.1.below b1, HA.out.2.1.below b1 HA.out.2.1.pos, HA.out.2.2.trans (b1.mono HA.out.2.2.size)⟩
  clear HA HE o1 b1 hz hc hbt
  have H13 : Hid (RB (w1.alloc (.cells (bc ab13) 5)) (.slice (some ⟨w1.heap.size, 0, none⟩) 13 13) ab13 ∧ RB (w1.alloc (.cells (bc ab13) 5)) (.slice va vn vc) ab13 ∧ Below w1.heap.size w1 (w1.alloc (.cells (bc ab13) 5))) := ⟨rb_new rfl, HB.out.1.keep ((Below.refl _ _).alloc (Nat.le_refl _) _), (Below.refl _ _).alloc (Nat.le_refl _) _⟩
  have e13 : bc ab13 = #[Value.int .u8 6, Value.int .u8 0, Value.int .u8 0, Value.int .u8 1, Value.int .u8 2, Value.int .u8 0, Value.int .u8 0, Value.int .u8 0, Value.int .u8 64, Value.int .u8 0, Value.int .u8 0, Value.int .u8 64, Value.int .u8 0] := rfl
  rw [e13] at H13
  clear e13
  go_wp2_with fail
  refine (numLT w1 0).mono ?_
  rintro e w9 ⟨rfl, rfl⟩
  go_wp2_with fail
  refine (same _ _ ab13 _ (by decide) H13.out.2.1 H13.out.1).mono ?_
  rintro e w2 ⟨rfl, nq, rfl⟩
  have HC : Hid (RB ((w1.alloc (.cells #[Value.int .u8 6, Value.int .u8 0, Value.int .u8 0, Value.int .u8 1, Value.int .u8 2, Value.int .u8 0, Value.int .u8 0, Value.int .u8 0, Value.int .u8 64, Value.int .u8 0, Value.int .u8 0, Value.int .u8 64, Value.int .u8 0] 5)).drewN nq) (.slice va vn vc) ab13 ∧ MB ((w1.alloc (.cells #[Value.int .u8 6, Value.int .u8 0, Value.int .u8 0, Value.int .u8 1, Value.int .u8 2, Value.int .u8 0, Value.int .u8 0, Value.int .u8 0, Value.int .u8 64, Value.int .u8 0, Value.int .u8 0, Value.int .u8 64, Value.int .u8 0] 5)).drewN nq) w.heap.size am ∧ KT ((w1.alloc (.cells #[Value.int .u8 6, Value.int .u8 0, Value.int .u8 0, Value.int .u8 1, Value.int .u8 2, Value.int .u8 0, Value.int .u8 0, Value.int .u8 0, Value.int .u8 64, Value.int .u8 0, Value.int .u8 0, Value.int .u8 64, Value.int .u8 0] 5)).drewN nq) ∧ Below w.heap.size w ((w1.alloc (.cells #[Value.int .u8 6, Value.int .u8 0, Value.int .u8 0, Value.int .u8 1, Value.int .u8 2, Value.int .u8 0, Value.int .u8 0, Value.int .u8 0, Value.int .u8 64, Value.int .u8 0, Value.int .u8 0, Value.int .u8 64, Value.int .u8 0] 5)).drewN nq)) := by
    have bb := belowN H13.out.2.2 nq
    exact ⟨HB.out.1.keep bb, HB.out.2.1.below bb, HB.out.2.2.1.below bb HB.out.2.2.1.pos, HB.out.2.2.2.trans (bb.mono HB.out.2.2.2.size)⟩
  generalize (w1.alloc (.cells #[Value.int .u8 6, Value.int .u8 0, Value.int .u8 0, Value.int .u8 1, Value.int .u8 2, Value.int .u8 0, Value.int .u8 0, Value.int .u8 0, Value.int .u8 64, Value.int .u8 0, Value.int .u8 0, Value.int .u8 64, Value.int .u8 0] 5)).drewN nq = w2 at *
  clear H13 HB
  go_wp2_with fail
  refine (decodeT w2 _ ab13 (by decide) HC.out.1 HC.out.2.2.1).mono ?_
  rintro e w3 ⟨d1, h1, rfl, q1, q2, q3⟩
  have HBW := back_way am am_ok [] [] am_val rfl rfl
  rw [am_enc] at HBW
  rw [HBW.1, HBW.2.2.2.1]
  have M1 : MM w3 { am with d := d1, h := h1 } [] [] := by
    have h9 := MM.of_dec q1 q2
    rw [HBW.2.1, HBW.2.2.1, HBW.2.2.2.1] at h9
    exact h9
  have hz2 := heapNew w3 (.cells z40 47)
  have hi1 := info_msg M1.ok
  have ho1 := M1.ok.one
  have hs1 : z40.size = (Mv.cs { am with d := d1, h := h1 }).size := M1.ok.size.symm
  have bX : Below w3.heap.size w3 ((w3.alloc (.cells z40 47)).setRow w3.heap.size (Mv.cs { am with d := d1, h := h1 })) := belowSetRow ((Below.refl _ _).alloc (Nat.le_refl _) _) (Nat.le_refl _) _
  have b9 : Below w2.heap.size w2 ((w3.alloc (.cells z40 47)).setRow w3.heap.size (Mv.cs { am with d := d1, h := h1 })) := q3.trans (bX.mono q3.size)
  have HD : Hid (MB ((w3.alloc (.cells z40 47)).setRow w3.heap.size (Mv.cs { am with d := d1, h := h1 })) w.heap.size am ∧ MB ((w3.alloc (.cells z40 47)).setRow w3.heap.size (Mv.cs { am with d := d1, h := h1 })) w3.heap.size { am with d := d1, h := h1 } ∧ MM ((w3.alloc (.cells z40 47)).setRow w3.heap.size (Mv.cs { am with d := d1, h := h1 })) { am with d := d1, h := h1 } [] [] ∧ KT ((w3.alloc (.cells z40 47)).setRow w3.heap.size (Mv.cs { am with d := d1, h := h1 })) ∧ Below w.heap.size w ((w3.alloc (.cells z40 47)).setRow w3.heap.size (Mv.cs { am with d := d1, h := h1 }))) := ⟨HC.out.2.1.below b9, MB.setRow (m := zm) hz2, M1.keep bX, HC.out.2.2.1.below b9 HC.out.2.2.1.pos, HC.out.2.2.2.trans (b9.mono HC.out.2.2.2.size)⟩
  clear q1 q2 q3 HBW bX b9 HC
  generalize hmm : ({ am with d := d1, h := h1 } : Mv) = mm at *
  have HMM : Hid (mm = { am with d := mm.d, h := mm.h }) := by subst hmm; rfl
  clear hmm M1
  have hca : ((w3.alloc (.cells z40 47)).setRow w3.heap.size mm.cs).heap[w.heap.size]? = some (.cells am40 47 (0, 0)) := HD.out.1
  have hkb := zk40_built (-1)
  go_wp2_with (first | (refine wpList_store_row rfl 47 _ _ rfl w3.heap.size mm.cs rfl rfl 47 z40 hz2 hi1 hs1 ho1 ?_) | (refine wpList_load_row rfl 47 _ rfl w.heap.size rfl 47 am40 (0, 0) _ hca Tryd.underlying47 rfl hmi ?_) | (refine wpList_built rfl 47 _ rfl (zk40 (-1)) hkb ?_) | (refine build_two rfl _ _ rfl rfl rfl ?_))
  have bY : Below ((w3.alloc (.cells z40 47)).setRow w3.heap.size mm.cs).heap.size ((w3.alloc (.cells z40 47)).setRow w3.heap.size mm.cs) (((w3.alloc (.cells z40 47)).setRow w3.heap.size mm.cs).alloc (.cells two80 47)) := (Below.refl _ _).alloc (Nat.le_refl _) _
  have HY : Hid (RMS (((w3.alloc (.cells z40 47)).setRow w3.heap.size mm.cs).alloc (.cells two80 47)) (.slice (some ⟨w3.heap.size + 1, 0, none⟩) 2 2) twoM ∧ KT (((w3.alloc (.cells z40 47)).setRow w3.heap.size mm.cs).alloc (.cells two80 47)) ∧ MB (((w3.alloc (.cells z40 47)).setRow w3.heap.size mm.cs).alloc (.cells two80 47)) w.heap.size am ∧ MB (((w3.alloc (.cells z40 47)).setRow w3.heap.size mm.cs).alloc (.cells two80 47)) w3.heap.size mm ∧ MM (((w3.alloc (.cells z40 47)).setRow w3.heap.size mm.cs).alloc (.cells two80 47)) mm [] [] ∧ Below w.heap.size w (((w3.alloc (.cells z40 47)).setRow w3.heap.size mm.cs).alloc (.cells two80 47))) := ⟨rms_two (heapLast _ _ (by simp [World.setRow])), HD.out.2.2.2.1.below bY HD.out.2.2.2.1.pos, HD.out.1.below bY, HD.out.2.1.below bY, HD.out.2.2.1.keep bY, HD.out.2.2.2.2.trans (bY.mono HD.out.2.2.2.2.size)⟩
  clear bY HD hca hz2 hkb
  generalize (((w3.alloc (.cells z40 47)).setRow w3.heap.size mm.cs).alloc (.cells two80 47)) = Y at *
  refine (wireT Y _ twoM HY.out.1 HY.out.2.1 (by decide)).mono ?_
  rintro e w4 ⟨v4, rfl, o4, b4⟩
  rw [two_wirE, if_pos rfl] at o4
  rw [two_wirE]
  obtain ⟨v4a, v4c, rfl⟩ := o4.form
  rw [two_len]
  have HZ : Hid (MB w4 w.heap.size am ∧ MB w4 w3.heap.size mm ∧ MM w4 mm [] [] ∧ Below w.heap.size w w4) := ⟨HY.out.2.2.1.below b4, HY.out.2.2.2.1.below b4, HY.out.2.2.2.2.1.keep b4, HY.out.2.2.2.2.2.trans (b4.mono HY.out.2.2.2.2.2.size)⟩
  clear o4 b4 HY
  have hc1 := HZ.out.1.cells
  have hc2 := HZ.out.2.1.cells
  have hia := info_msg am_ok
  have HN := fun u k => numLT u k
  go_wp2_with (first | (go_at_call 8; refine (numLT _ _).mono ?_; rintro e w9 ⟨rfl, rfl⟩) | (refine wpList_load_msg rfl _ rfl w.heap.size rfl am hc1 hia ?_) | (refine wpList_load_msg rfl _ rfl w3.heap.size rfl mm hc2 hi1 ?_) | (go_at_call 19; refine (msameT w4 am mm [] [] (MM.nil am_ok rfl rfl) HZ.out.2.2.1 HMM.out).mono ?_; rintro e w5 ⟨rfl, b5⟩; have HF : Hid (Below w.heap.size w w5) := HZ.out.2.2.2.trans (b5.mono HZ.out.2.2.2.size); clear b5))
  go_ret
  exact ⟨rfl, HF.out⟩
end Go.Proofs.YtbnnfpjgjieaeaaDoor
