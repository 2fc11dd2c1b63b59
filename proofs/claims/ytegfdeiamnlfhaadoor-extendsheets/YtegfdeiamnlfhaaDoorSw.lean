import Derived.Test.YtegfdeiamnlfhaaDoorSv
namespace Go.Proofs.YtegfdeiamnlfhaaDoor.Bs
open Go.RowKit
/-- append(x, y...) where x is the call's own -/
theorem append_bytesW {ops : Array Oper} {rest : List Oper} {o : Oper} {a : Act} {Q : Exit → Act → World → Prop} {w : World} {B : Nat} {sv xv : Value} {l m : List UInt8} (hgd : o.guard = none) (s x : Operand)
    (ho : o.op = .call { callee := .builtin .append, args := #[s, x], argTypes := #[22, 22] }) (hs : a.eval s = sv) (hown : OW B w sv l) (hx : a.eval x = xv)
    (hr : RB w xv m) (hB : B ≤ w.heap.size) (hlim : l.length + m.length ≤ 140737488355328)
    (h : ∀ v' w', OW B w' v' (l ++ m) → Below B w w' → wpList Tryd.prog ops Q rest (a.put o.dst v') w') : wpList Tryd.prog ops Q (o :: rest) a w := by
  obtain ⟨i0, hi, hz0, hz1, hz2⟩ := info_parts info5
  obtain ⟨ad, c, rfl, _, hr⟩ := hr
  have hm : ∀ b off, ad = some ⟨b, off, none⟩ ∧ (∀ i, i < m.length → w.cell? ⟨b, off + i, none⟩ = some (.int .u8 ((byt m i).toNat : Int))) → wpList Tryd.prog ops Q (o :: rest) a w := by
    rintro b off ⟨rfl, hc⟩
    refine wpList_append_own w hgd s x 22 ho B 5 i0 _ 1 1 Tryd.underlying22 hi hz0 hz1 hz2 rfl (by omega) sv l.length (Lib.byteCells l) hs hown ⟨b, off, none⟩ m.length c (Lib.byteCells m) hx (by rw [bcl_len, Nat.mul_one]) (fun j u hu => ?_) (Lib.byteCells_one _) (by unfold maxLen; omega) (by omega) hB (fun v' w' h1 h2 _ => ?_)
    · have hj' : j < m.length := by
        have := (List.getElem?_eq_some_iff.1 hu).1
        rwa [bcl_len] at this
      have hadd : (⟨b, off, none⟩ : Addr).add j = ⟨b, off + j, none⟩ := by unfold Addr.add; split <;> simp_all
      rw [hadd, hc j hj', getD_byt m j hj']
      simpa [Lib.byteCells, List.getElem?_eq_getElem hj'] using hu
    · refine h v' w' ?_ ((Below.refl B w).grown h2 hB (fun k hk => (World.ownsRow.lt hown k hk).1))
      rw [← bcl_append] at h1
      simpa [OW] using h1
  rcases hr with rfl | ⟨b, off, rfl, _, hc⟩
  · cases ad with
    | none =>
      refine wpList_plain hgd fun K hK => ?_
      have hrun := append_nothing o.type c hown
      simp only [List.length_nil] at hx
      unfold Oper.wp
      simp [execOp, ho, resolve, invoke, builtin, hs, hx, hrun, Result.andThen]
      exact hK _ _ (h _ _ (by rw [List.append_nil]; exact hown) (Below.refl _ _))
    | some ad =>
      refine wpList_append_own w hgd s x 22 ho B 5 i0 _ 1 1 Tryd.underlying22 hi hz0 hz1 hz2 rfl (by omega) sv l.length (Lib.byteCells l) hs hown ad 0 c [] hx (by simp) (fun j u hu => by simp at hu) (fun u hu => by cases hu) (by unfold maxLen; simp at hlim; omega) (by simp at hlim; omega) hB (fun v' w' h1 h2 _ => ?_)
      refine h v' w' ?_ ((Below.refl B w).grown h2 hB (fun k hk => (World.ownsRow.lt hown k hk).1))
      rw [List.append_nil] at h1 ⊢
      simpa [OW] using h1
  · exact hm b off ⟨rfl, hc⟩
end Go.Proofs.YtegfdeiamnlfhaaDoor.Bs
namespace Go.Proofs.YtegfdeiamnlfhaaDoor
open Go.RowKit Go.Deep
def shT (k p t : Int) : List UInt8 := txt (tD (shP k p t))
def esN (k p t : Int) (l : List UInt8) : Int := if shG k p t l.length = true then (if 32766 < (shT k p t).length + l.length then 213 else 0) else 212
def esL (k p t : Int) (l : List UInt8) : List UInt8 := if shG k p t l.length = true ∧ (shT k p t).length + l.length ≤ 32766 then shT k p t ++ l else []
theorem sheetDict_ok (k p t : Int) (a : Option Addr) (n c : Nat) (w : World) (hb : shG k p t n = true) : Calls Tryd.prog 9 #[.agg #[.int .i64 k, .int .i64 p, .int .i64 t, .slice a n c]] w fun e w' => ∃ v', e = .returned (.tuple #[.agg #[.int .i64 4, .int .i64 0, .string ⟨#[]⟩, .slice none 0 0, v'], .bool true]) ∧ NR w.heap.size w' v' (shP k p t) ∧ Below w.heap.size w w' := by
  by_cases h : k = 1
  · subst h; exact sheetDict_one p t a n c w hb
  · exact sheetDict_two k p t a n c w hb (beq_eq_false_iff_ne.2 h)
theorem sheet12_ok (k p t : Int) (a : Option Addr) (n c : Nat) (w : World) : Calls Tryd.prog 12 #[.agg #[.int .i64 k, .int .i64 p, .int .i64 t, .slice a n c]] w fun e w' => ∃ v', e = .returned (.agg #[.int .i64 4, .int .i64 0, .string ⟨#[]⟩, .slice none 0 0, v']) ∧ NR w.heap.size w' v' (shP k p t) ∧ Below w.heap.size w w' := by
  by_cases h : k = 1
  · subst h; exact sheet12_one p t a n c w
  · exact sheet12_two k p t a n c w h
theorem shP_len (k p t : Int) : (shP k p t).length ≤ 3 := by unfold shP; split <;> simp
theorem ow_le {B : Nat} {w : World} {v : Value} {l : List UInt8} (h : Bs.OW B w v l) (hne : l ≠ []) : B ≤ w.heap.size := by
  rcases h.2 with ⟨_, h0⟩ | ⟨g, cap, cur, _, e2, e3, _⟩
  · exact absurd (List.length_eq_zero_iff.1 h0) hne
  · have := (Array.getElem?_eq_some_iff.1 e3).1
    omega
theorem shT_ne (k p t : Int) : shT k p t ≠ [] := by
  unfold shT tD
  simp only [txt]
  rw [if_neg (by decide), if_neg (by decide), if_neg (by decide)]
  exact List.cons_ne_nil _ _
theorem EP.sh {k p t : Int} {w w' : World} {v : Value} {er : Int} (hk : i64 k) (hp : i64 p) (ht : i64 t) (h : EP (tD (shP k p t)) w w' v er) : ∃ B, w.heap.size ≤ B ∧ Bs.OW B w' v (shT k p t) ∧ er = 0 ∧ Below w.heap.size w w' := by
  obtain ⟨B, l, h1, h2, h3, h4, h5⟩ := h
  have hl := tD_txt (shP_len k p t) (shP_i64 hk hp ht)
  rw [if_pos (wk_sh k p t), if_neg (by omega)] at h3
  rw [if_pos ⟨wk_sh k p t, by omega⟩] at h4
  subst h4
  exact ⟨B, h1, h2, h3, h5⟩
set_option maxHeartbeats 4000000 in
set_option maxRecDepth 100000 in
theorem encode5 (k p t : Int) (v : Value) (l : List UInt8) (w : World) (hk : i64 k) (hp : i64 p) (ht : i64 t) (hr : Bs.RB w v l) (_hl : l.length ≤ 140737488351232) (hT : TB w.heap.size w) :
    Calls Tryd.prog 5 #[.agg #[.int .i64 k, .int .i64 p, .int .i64 t, v]] w (Bs.QE w (esL k p t l) (esN k p t l)) := by
  have HR := Lib.hid hr
  obtain ⟨a, c, rfl, _, _⟩ := hr
  have b0 : Below w.heap.size w (w.alloc (.cells #[.int .i64 k, .int .i64 p, .int .i64 t, .slice a l.length c] 24)) := (Below.refl _ _).alloc (Nat.le_refl _) _
  have H0 : Hid (Below w.heap.size w (w.alloc (.cells #[.int .i64 k, .int .i64 p, .int .i64 t, .slice a l.length c] 24)) ∧ (w.alloc (.cells #[.int .i64 k, .int .i64 p, .int .i64 t, .slice a l.length c] 24)).heap[w.heap.size]? = some (.cells #[.int .i64 k, .int .i64 p, .int .i64 t, .slice a l.length c] 24 (0, 0)) ∧ (w.alloc (.cells #[.int .i64 k, .int .i64 p, .int .i64 t, .slice a l.length c] 24)).heap.size = w.heap.size + 1) := ⟨b0, heap_new _ _, by simp⟩
  have HI : Hid (i64 k ∧ i64 p ∧ i64 t ∧ TB w.heap.size w) := ⟨hk, hp, ht, hT⟩
  clear b0 hk hp ht hT
  cases hg : shG k p t l.length with
  | false =>
    have HE : Hid (esL k p t l = [] ∧ esN k p t l = 212) := ⟨by unfold esL; rw [hg]; simp, by unfold esN; rw [hg]; simp⟩
    have HD := Lib.hid (sheetDict_no k p t a l.length c (w.alloc (.cells #[.int .i64 k, .int .i64 p, .int .i64 t, .slice a l.length c] 24)) hg)
    clear hg
    go_enter Tryd.func5, Tryd.ntmps5
    go_wp2_with fail
    refine HD.out.mono ?_
    rintro e w1 ⟨rfl, b1⟩
    have H1 : Hid (∀ o, Below w.heap.size w (w1.alloc o)) := fun o => (H0.out.1.trans (b1.mono H0.out.1.size)).alloc (Nat.le_trans H0.out.1.size b1.size) _
    clear b1 HD
    go_wp2
    go_ret2
    rw [HE.out.1, HE.out.2]
    exact ⟨_, _, rfl, Bs.rb_nil _, H1.out _⟩
  | true =>
    have HD := Lib.hid (sheetDict_ok k p t a l.length c (w.alloc (.cells #[.int .i64 k, .int .i64 p, .int .i64 t, .slice a l.length c] 24)) hg)
    have HG := Lib.hid hg
    clear hg
    go_enter Tryd.func5, Tryd.ntmps5
    go_upto_region 1 with fail
    generalize w.alloc (.cells #[.int .i64 k, .int .i64 p, .int .i64 t, .slice a l.length c] 24) = w0 at *
    have hA : ∀ w', Below w0.heap.size w0 w' → w'.heap[w.heap.size]? = some (.cells #[.int .i64 k, .int .i64 p, .int .i64 t, .slice a l.length c] 24 (0, 0)) := fun w' hw => (hw.block _ (by have := H0.out.2.2; omega)).trans H0.out.2.1
    have HA := Lib.hid hA
    clear hA
    have k0 := HA.out w0 (Below.refl _ _)
    have c0 : w0.cell? ⟨w.heap.size, 0, none⟩ = some (.int .i64 k) := by simp [World.cell?, k0]
    have c1 : w0.cell? ⟨w.heap.size, 1, none⟩ = some (.int .i64 p) := by simp [World.cell?, k0]
    have c2 : w0.cell? ⟨w.heap.size, 2, none⟩ = some (.int .i64 t) := by simp [World.cell?, k0]
    have c3 : w0.cell? ⟨w.heap.size, 3, none⟩ = some (.slice a l.length c) := by simp [World.cell?, k0]
    clear k0
    go_wp2_with fail
    refine HD.out.mono ?_
    rintro e w1 ⟨v', rfl, hn1, b1⟩
    obtain ⟨va, vc, rfl⟩ := hn1.form
    have ba : Below w1.heap.size w1 (w1.alloc (.cells #[.int .i64 4, .int .i64 0, .string ⟨#[]⟩, .slice none 0 0, .slice va (shP k p t).length vc] 35)) := (Below.refl _ _).alloc (Nat.le_refl _) _
    have b2 : Below w0.heap.size w0 (w1.alloc (.cells #[.int .i64 4, .int .i64 0, .string ⟨#[]⟩, .slice none 0 0, .slice va (shP k p t).length vc] 35)) := b1.trans (ba.mono b1.size)
    have H2 : Hid (Below w0.heap.size w0 (w1.alloc (.cells #[.int .i64 4, .int .i64 0, .string ⟨#[]⟩, .slice none 0 0, .slice va (shP k p t).length vc] 35)) ∧ NR w0.heap.size (w1.alloc (.cells #[.int .i64 4, .int .i64 0, .string ⟨#[]⟩, .slice none 0 0, .slice va (shP k p t).length vc] 35)) (.slice va (shP k p t).length vc) (shP k p t)) := ⟨b2, hn1.keep ba⟩
    have hb2 := heap_new w1 (.cells #[.int .i64 4, .int .i64 0, .string ⟨#[]⟩, .slice none 0 0, .slice va (shP k p t).length vc] 35)
    have HENC := Lib.hid (show Calls Tryd.prog 10 #[.agg #[.int .i64 4, .int .i64 0, .string ⟨#[]⟩, .slice none 0 0, .slice va (shP k p t).length vc]] (w1.alloc (.cells #[.int .i64 4, .int .i64 0, .string ⟨#[]⟩, .slice none 0 0, .slice va (shP k p t).length vc] 35)) _ from encode7 (tD (shP k p t)) (.slice none 0 0) (.slice va (shP k p t).length vc) (w1.alloc (.cells #[.int .i64 4, .int .i64 0, .string ⟨#[]⟩, .slice none 0 0, .slice va (shP k p t).length vc] 35)) (tD_ok (shP_len k p t) (shP_i64 HI.out.1 HI.out.2.1 HI.out.2.2.1)) (tD_small (shP_len k p t)) (tD_rng (shP_len k p t) (shP_i64 HI.out.1 HI.out.2.1 HI.out.2.2.1)) (by have := tD_txt (shP_len k p t) (shP_i64 HI.out.1 HI.out.2.1 HI.out.2.2.1); omega) (tb_up (HI.out.2.2.2.on (H0.out.1.trans (b2.mono H0.out.1.size))) (Nat.le_trans H0.out.1.size b2.size)) H2.out.2.rv)
    clear c0 c1 c2 c3 b1 ba b2 hn1 HD
    generalize (shP k p t).length = pl at *
    go_upto_region 2 with fail
    generalize w1.alloc (.cells #[.int .i64 4, .int .i64 0, .string ⟨#[]⟩, .slice none 0 0, .slice va pl vc] 35) = w2 at *
    generalize w1.heap.size = bv at *
    have d0 : w2.cell? ⟨bv, 0, none⟩ = some (.int .i64 4) := by simp [World.cell?, hb2]
    have d1 : w2.cell? ⟨bv, 1, none⟩ = some (.int .i64 0) := by simp [World.cell?, hb2]
    have d2 : w2.cell? ⟨bv, 2, none⟩ = some (.string ⟨#[]⟩) := by simp [World.cell?, hb2]
    have d3 : w2.cell? ⟨bv, 3, none⟩ = some (.slice none 0 0) := by simp [World.cell?, hb2]
    have d4 : w2.cell? ⟨bv, 4, none⟩ = some (.slice va pl vc) := by simp [World.cell?, hb2]
    clear hb2
    go_wp2_with fail
    refine HENC.out.mono ?_
    rintro e w3 ⟨v3, er, rfl, hep⟩
    obtain ⟨B, hB, ho3, rfl, b3⟩ := EP.sh HI.out.1 HI.out.2.1 HI.out.2.2.1 hep
    obtain ⟨a3, c3', rfl⟩ := ho3.form
    have b03 : Below w0.heap.size w0 w3 := H2.out.1.trans (b3.mono H2.out.1.size)
    have H3 : Hid (Bs.OW B w3 (.slice a3 (shT k p t).length c3') (shT k p t) ∧ w0.heap.size ≤ B ∧ Below w0.heap.size w0 w3 ∧ Bs.RB w3 (.slice a l.length c) l ∧ Below w.heap.size w w3) := ⟨ho3, Nat.le_trans H2.out.1.size hB, b03, HR.out.keep (H0.out.1.trans (b03.mono H0.out.1.size)), H0.out.1.trans (b03.mono H0.out.1.size)⟩
    have HTL : Hid ((shT k p t).length ≤ 300) := tD_txt (shP_len k p t) (shP_i64 HI.out.1 HI.out.2.1 HI.out.2.2.1)
    have k3 := HA.out w3 b03
    have e3 : w3.cell? ⟨w.heap.size, 3, none⟩ = some (.slice a l.length c) := by simp [World.cell?, k3]
    clear k3 b03 b3 ho3 hB hep HENC d0 d1 d2 d3 d4 H2
    have hTL := HTL.out
    by_cases hlen : 32766 < (shT k p t).length + l.length
    · have HE : Hid (esL k p t l = [] ∧ esN k p t l = 213) := ⟨by unfold esL; rw [if_neg (by omega)], by unfold esN; rw [if_pos HG.out, if_pos hlen]⟩
      generalize (shT k p t).length = tn at *
      generalize hln : l.length = n at *
      have q : decide ((32766 : Int) - (tn : Int) < (n : Int)) = true := decide_eq_true (by omega)
      clear hlen
      go_wp2
      go_ret2
      rw [HE.out.1, HE.out.2]
      exact ⟨_, _, rfl, Bs.rb_nil _, H3.out.2.2.2.2⟩
    · have HE : Hid (esL k p t l = shT k p t ++ l ∧ esN k p t l = 0) := ⟨by unfold esL; rw [if_pos ⟨HG.out, by omega⟩], by unfold esN; rw [if_pos HG.out, if_neg hlen]⟩
      have HLE : Hid ((shT k p t).length + l.length ≤ 32766) := Nat.le_of_not_lt hlen
      have q : decide ((32766 : Int) - ((shT k p t).length : Int) < (l.length : Int)) = false := decide_eq_false (by omega)
      clear hlen
      have HLN : Hid (∀ v' : Nat, (shT k p t ++ l).length = (shT k p t).length + l.length) := fun _ => List.length_append
      go_wp2_with (at_builtin; refine Bs.append_bytes rfl _ _ rfl rfl H3.out.1 rfl H3.out.2.2.2.1 (ow_le H3.out.1 (shT_ne k p t)) (by have := HLE.out; omega) ?_; intro v' w4 ho4 hb4; obtain ⟨a', c', rfl⟩ := ho4.form)
      go_ret2
      rw [HE.out.1, HE.out.2]
      have h9 := ho4.rb
      unfold Bs.QE
      rw [List.length_append] at h9 ⊢
      exact ⟨_, _, rfl, h9, H3.out.2.2.2.2.trans (hb4.mono (Nat.le_trans H0.out.1.size H3.out.2.1))⟩
set_option maxHeartbeats 4000000 in
set_option maxRecDepth 100000 in
theorem encode6 (k p t : Int) (v : Value) (l : List UInt8) (w : World) (hk : i64 k) (hp : i64 p) (ht : i64 t) (hr : Bs.RB w v l) (hl : l.length ≤ 140737488351232) (hT : TB w.heap.size w) :
    Calls Tryd.prog 6 #[.agg #[.int .i64 k, .int .i64 p, .int .i64 t, v]] w (Bs.QE w (esL k p t l) (esN k p t l)) := by
  have HR := Lib.hid hr
  obtain ⟨a, c, rfl, _, _⟩ := hr
  have b0 : Below w.heap.size w (w.alloc (.cells #[.int .i64 k, .int .i64 p, .int .i64 t, .slice a l.length c] 24)) := (Below.refl _ _).alloc (Nat.le_refl _) _
  have H0 : Hid (Below w.heap.size w (w.alloc (.cells #[.int .i64 k, .int .i64 p, .int .i64 t, .slice a l.length c] 24)) ∧ (w.alloc (.cells #[.int .i64 k, .int .i64 p, .int .i64 t, .slice a l.length c] 24)).heap[w.heap.size]? = some (.cells #[.int .i64 k, .int .i64 p, .int .i64 t, .slice a l.length c] 24 (0, 0)) ∧ (w.alloc (.cells #[.int .i64 k, .int .i64 p, .int .i64 t, .slice a l.length c] 24)).heap.size = w.heap.size + 1) := ⟨b0, heap_new _ _, by simp⟩
  have HI : Hid (i64 k ∧ i64 p ∧ i64 t ∧ TB w.heap.size w ∧ l.length ≤ 140737488351232) := ⟨hk, hp, ht, hT, hl⟩
  have HF := Lib.hid (fine11 k p t a l.length c)
  clear b0 hk hp ht hT
  cases hg : shG k p t l.length with
  | false =>
    have HE : Hid (esL k p t l = [] ∧ esN k p t l = 212) := ⟨by unfold esL; rw [hg]; simp, by unfold esN; rw [hg]; simp⟩
    rw [hg] at HF
    clear hg
    go_enter Tryd.func6, Tryd.ntmps6
    go_wp2_with fail
    refine (HF.out _).mono ?_
    rintro e w1 ⟨rfl, b1⟩
    have H1 : Hid (Below w.heap.size w w1) := H0.out.1.trans (b1.mono H0.out.1.size)
    clear b1 HF
    go_wp2
    go_ret2
    rw [HE.out.1, HE.out.2]
    exact ⟨_, _, rfl, Bs.rb_nil _, H1.out⟩
  | true =>
    rw [hg] at HF
    have HG := Lib.hid hg
    clear hg
    go_enter Tryd.func6, Tryd.ntmps6
    go_upto_region 1 with fail
    generalize w.alloc (.cells #[.int .i64 k, .int .i64 p, .int .i64 t, .slice a l.length c] 24) = w0 at *
    have hA : ∀ w', Below w0.heap.size w0 w' → w'.heap[w.heap.size]? = some (.cells #[.int .i64 k, .int .i64 p, .int .i64 t, .slice a l.length c] 24 (0, 0)) := fun w' hw => (hw.block _ (by have := H0.out.2.2; omega)).trans H0.out.2.1
    have HA := Lib.hid hA
    clear hA
    have k0 := HA.out w0 (Below.refl _ _)
    have c0 : w0.cell? ⟨w.heap.size, 0, none⟩ = some (.int .i64 k) := by simp [World.cell?, k0]
    have c1 : w0.cell? ⟨w.heap.size, 1, none⟩ = some (.int .i64 p) := by simp [World.cell?, k0]
    have c2 : w0.cell? ⟨w.heap.size, 2, none⟩ = some (.int .i64 t) := by simp [World.cell?, k0]
    have c3 : w0.cell? ⟨w.heap.size, 3, none⟩ = some (.slice a l.length c) := by simp [World.cell?, k0]
    clear k0
    go_wp2_with fail
    refine (HF.out w0).mono ?_
    rintro e wf ⟨rfl, bf⟩
    have Hf : Hid (Below w0.heap.size w0 wf) := bf
    have k0 := HA.out wf bf
    clear c0 c1 c2 c3 bf HF
    have c0 : wf.cell? ⟨w.heap.size, 0, none⟩ = some (.int .i64 k) := by simp [World.cell?, k0]
    have c1 : wf.cell? ⟨w.heap.size, 1, none⟩ = some (.int .i64 p) := by simp [World.cell?, k0]
    have c2 : wf.cell? ⟨w.heap.size, 2, none⟩ = some (.int .i64 t) := by simp [World.cell?, k0]
    have c3 : wf.cell? ⟨w.heap.size, 3, none⟩ = some (.slice a l.length c) := by simp [World.cell?, k0]
    clear k0
    go_wp2_with fail
    refine (sheet12_ok k p t a l.length c wf).mono ?_
    rintro e w1 ⟨v', rfl, hn1, b1'⟩
    have b1 : Below w0.heap.size w0 w1 := Hf.out.trans (b1'.mono Hf.out.size)
    obtain ⟨va, vc, rfl⟩ := hn1.form
    have ba : Below w1.heap.size w1 (w1.alloc (.cells #[.int .i64 4, .int .i64 0, .string ⟨#[]⟩, .slice none 0 0, .slice va (shP k p t).length vc] 35)) := (Below.refl _ _).alloc (Nat.le_refl _) _
    have b2 : Below w0.heap.size w0 (w1.alloc (.cells #[.int .i64 4, .int .i64 0, .string ⟨#[]⟩, .slice none 0 0, .slice va (shP k p t).length vc] 35)) := b1.trans (ba.mono b1.size)
    have H2 : Hid (Below w0.heap.size w0 (w1.alloc (.cells #[.int .i64 4, .int .i64 0, .string ⟨#[]⟩, .slice none 0 0, .slice va (shP k p t).length vc] 35)) ∧ NR wf.heap.size (w1.alloc (.cells #[.int .i64 4, .int .i64 0, .string ⟨#[]⟩, .slice none 0 0, .slice va (shP k p t).length vc] 35)) (.slice va (shP k p t).length vc) (shP k p t)) := ⟨b2, hn1.keep ba⟩
    have hb2 := heap_new w1 (.cells #[.int .i64 4, .int .i64 0, .string ⟨#[]⟩, .slice none 0 0, .slice va (shP k p t).length vc] 35)
    have HENC := Lib.hid (show Calls Tryd.prog 13 #[.agg #[.int .i64 4, .int .i64 0, .string ⟨#[]⟩, .slice none 0 0, .slice va (shP k p t).length vc]] (w1.alloc (.cells #[.int .i64 4, .int .i64 0, .string ⟨#[]⟩, .slice none 0 0, .slice va (shP k p t).length vc] 35)) _ from encode8 (tD (shP k p t)) (.slice none 0 0) (.slice va (shP k p t).length vc) (w1.alloc (.cells #[.int .i64 4, .int .i64 0, .string ⟨#[]⟩, .slice none 0 0, .slice va (shP k p t).length vc] 35)) (tD_ok (shP_len k p t) (shP_i64 HI.out.1 HI.out.2.1 HI.out.2.2.1)) (tD_rng (shP_len k p t) (shP_i64 HI.out.1 HI.out.2.1 HI.out.2.2.1)) (by have := tD_txt (shP_len k p t) (shP_i64 HI.out.1 HI.out.2.1 HI.out.2.2.1); omega) (tb_up (HI.out.2.2.2.1.on (H0.out.1.trans (b2.mono H0.out.1.size))) (Nat.le_trans H0.out.1.size b2.size)) H2.out.2.rv)
    clear c0 c1 c2 c3 b1 b1' ba b2 hn1
    generalize (shP k p t).length = pl at *
    go_upto_region 5 with fail
    generalize w1.alloc (.cells #[.int .i64 4, .int .i64 0, .string ⟨#[]⟩, .slice none 0 0, .slice va pl vc] 35) = w2 at *
    generalize w1.heap.size = bv at *
    have d0 : w2.cell? ⟨bv, 0, none⟩ = some (.int .i64 4) := by simp [World.cell?, hb2]
    have d1 : w2.cell? ⟨bv, 1, none⟩ = some (.int .i64 0) := by simp [World.cell?, hb2]
    have d2 : w2.cell? ⟨bv, 2, none⟩ = some (.string ⟨#[]⟩) := by simp [World.cell?, hb2]
    have d3 : w2.cell? ⟨bv, 3, none⟩ = some (.slice none 0 0) := by simp [World.cell?, hb2]
    have d4 : w2.cell? ⟨bv, 4, none⟩ = some (.slice va pl vc) := by simp [World.cell?, hb2]
    clear hb2
    go_wp2_with fail
    refine HENC.out.mono ?_
    rintro e w3 ⟨v3, er, rfl, hep⟩
    obtain ⟨B, hB, ho3, rfl, b3⟩ := EP.sh HI.out.1 HI.out.2.1 HI.out.2.2.1 hep
    obtain ⟨a3, c3', rfl⟩ := ho3.form
    have b03 : Below w0.heap.size w0 w3 := H2.out.1.trans (b3.mono H2.out.1.size)
    have H3 : Hid (Bs.OW B w3 (.slice a3 (shT k p t).length c3') (shT k p t) ∧ w0.heap.size ≤ B ∧ Below w0.heap.size w0 w3 ∧ Bs.RB w3 (.slice a l.length c) l ∧ Below w.heap.size w w3) := ⟨ho3, Nat.le_trans H2.out.1.size hB, b03, HR.out.keep (H0.out.1.trans (b03.mono H0.out.1.size)), H0.out.1.trans (b03.mono H0.out.1.size)⟩
    have HTL : Hid ((shT k p t).length ≤ 300) := tD_txt (shP_len k p t) (shP_i64 HI.out.1 HI.out.2.1 HI.out.2.2.1)
    have k3 := HA.out w3 b03
    have e3 : w3.cell? ⟨w.heap.size, 3, none⟩ = some (.slice a l.length c) := by simp [World.cell?, k3]
    clear k3 b03 b3 ho3 hB hep HENC d0 d1 d2 d3 d4 H2
    have hTL := HTL.out
    go_upto_region 6 with fail
    go_upto_region 7 with (at_builtin; refine Bs.append_bytesW rfl _ _ rfl rfl H3.out.1 rfl H3.out.2.2.2.1 (ow_le H3.out.1 (shT_ne k p t)) (by have := HTL.out; have := HI.out.2.2.2.2; omega) ?_; intro v' w4 ho4 hb4; obtain ⟨a', c', rfl⟩ := ho4.form)
    have h9 := ho4.rb
    rw [List.length_append] at h9
    have H4 : Hid (Bs.RB w4 (.slice a' ((shT k p t).length + l.length) c') (shT k p t ++ l) ∧ Below w.heap.size w w4) := ⟨h9, H3.out.2.2.2.2.trans (hb4.mono (Nat.le_trans H0.out.1.size H3.out.2.1))⟩
    clear ho4 hb4 h9 e3
    by_cases hlen : 32766 < (shT k p t).length + l.length
    · have HE : Hid (esL k p t l = [] ∧ esN k p t l = 213) := ⟨by unfold esL; rw [if_neg (by omega)], by unfold esN; rw [if_pos HG.out, if_pos hlen]⟩
      have q : (32766 : Int) < (((shT k p t).length + l.length : Nat) : Int) := by omega
      clear hlen
      go_wp2
      go_ret2
      rw [HE.out.1, HE.out.2]
      exact ⟨_, _, rfl, Bs.rb_nil _, H4.out.2⟩
    · have HE : Hid (esL k p t l = shT k p t ++ l ∧ esN k p t l = 0) := ⟨by unfold esL; rw [if_pos ⟨HG.out, by omega⟩], by unfold esN; rw [if_pos HG.out, if_neg hlen]⟩
      have q : ¬ (32766 : Int) < (((shT k p t).length + l.length : Nat) : Int) := by omega
      clear hlen
      go_wp2
      go_ret2
      rw [HE.out.1, HE.out.2]
      unfold Bs.QE
      rw [List.length_append]
      exact ⟨_, _, rfl, H4.out.1, H4.out.2⟩
end Go.Proofs.YtegfdeiamnlfhaaDoor
