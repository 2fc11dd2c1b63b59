import Derived.Test.YtjgioiljhefcbabIs
import Derived.ArgAppend
import Derived.Deep.RegionHeld3
namespace Go.Proofs.Ytjgioiljhefcbab
open Go.RowKit
/-- three disks and three lists, each in blocks of its own -/
structure G3 (w wr : World) (s4 s5 s6 s7 sN : Nat) (Sc : Nat → Prop) (pd pc pt : Nat) (A C T : Dk) (ov lv mv nv : Value) (o now : List UInt8) (X Y : List Wv) : Prop where
  f : Below w.heap.size w wr
  d : DK (fun k => s4 ≤ k ∧ k < s5) wr pd A
  c : DK Sc wr pc C
  sc : ∀ k, Sc k → (s5 ≤ k ∧ k < s6) ∨ sN ≤ k
  t : DK (fun k => s6 ≤ k ∧ k < s7) wr pt T
  o : RB wr ov o
  x : OWv w.heap.size wr lv X
  y : OWv w.heap.size wr mv Y
  n : RB wr nv now
  z : w.heap.size ≤ s4 ∧ s4 ≤ s5 ∧ s5 ≤ s6 ∧ s6 ≤ s7 ∧ s7 ≤ sN ∧ sN ≤ wr.heap.size
  ob : ∀ g, ov.ownBlock = some g → g < s4
  xb : ∀ g, lv.ownBlock = some g → g < s4
  yb : ∀ g, mv.ownBlock = some g → g < s4
  nb : ∀ g, nv.ownBlock = some g → s7 ≤ g ∧ g < sN
section
variable {w wr w2 : World} {s4 s5 s6 s7 sN pd pc pt : Nat} {Sc : Nat → Prop} {A C T A' C' T' : Dk} {ov lv mv nv : Value} {o now : List UInt8} {X Y : List Wv}
theorem G3.on (h : G3 w wr s4 s5 s6 s7 sN Sc pd pc pt A C T ov lv mv nv o now X Y) (hb : Below wr.heap.size wr w2) : G3 w w2 s4 s5 s6 s7 sN Sc pd pc pt A C T ov lv mv nv o now X Y :=
  { h with
    f := h.f.trans (hb.mono h.f.size)
    d := h.d.below hb
    c := h.c.below hb
    t := h.t.below hb
    o := h.o.keep hb
    x := ownsRow_fr (S := fun _ => True) h.x (Fr.of_below hb) (fun _ _ => trivial)
    y := ownsRow_fr (S := fun _ => True) h.y (Fr.of_below hb) (fun _ _ => trivial)
    n := h.n.keep hb
    sc := h.sc
    z := ⟨h.z.1, h.z.2.1, h.z.2.2.1, h.z.2.2.2.1, h.z.2.2.2.2.1, Nat.le_trans h.z.2.2.2.2.2 hb.size⟩ }
theorem G3.fr (h : G3 w wr s4 s5 s6 s7 sN Sc pd pc pt A C T ov lv mv nv o now X Y) {V : Nat → Prop} (hf : Fr V wr w2) (hV : ∀ k, k < s4 → V k) (hN : ∀ k, s7 ≤ k → k < sN → V k) (hd : DK (fun k => s4 ≤ k ∧ k < s5) w2 pd A') (hc : DK Sc w2 pc C') (ht : DK (fun k => s6 ≤ k ∧ k < s7) w2 pt T') : G3 w w2 s4 s5 s6 s7 sN Sc pd pc pt A' C' T' ov lv mv nv o now X Y := by
  have hz := h.z
  have hs := hf.size
  have hw := h.f.size
  exact ⟨⟨hf.os.trans h.f.os, hf.tape.trans h.f.tape, hf.output.trans h.f.output, Nat.le_trans hw hs, fun k hk => (hf.block k (by omega) (hV k (by omega))).trans (h.f.block k hk)⟩, hd, hc, h.sc, ht, h.o.fr hf (fun g hg => hV g (h.ob g hg)), ownsRow_fr h.x hf (fun g hg => hV g (h.xb g hg)), ownsRow_fr h.y hf (fun g hg => hV g (h.yb g hg)), h.n.fr hf (fun g hg => hN g (h.nb g hg).1 (h.nb g hg).2), ⟨hz.1, hz.2.1, hz.2.2.1, hz.2.2.2.1, hz.2.2.2.2.1, by omega⟩, h.ob, h.xb, h.yb, h.nb⟩
theorem G3.setC (h : G3 w wr s4 s5 s6 s7 sN Sc pd pc pt A C T ov lv mv nv o now X Y) (hd : DK Sc w2 pc C') (hf : Fr (fun k => ¬ Sc k) wr w2) : G3 w w2 s4 s5 s6 s7 sN Sc pd pc pt A C' T ov lv mv nv o now X Y := by
  have hz := h.z
  have hs := h.sc
  exact h.fr hf (fun k hk h => by have := hs k h; omega) (fun k h1 h2 h => by have := hs k h; omega) (h.d.fr (hf.mono (fun k _ h h' => by have := hs k h'; omega))) hd (h.t.fr (hf.mono (fun k _ h h' => by have := hs k h'; omega)))
theorem G3.setD (h : G3 w wr s4 s5 s6 s7 sN Sc pd pc pt A C T ov lv mv nv o now X Y) (hd : DK (fun k => s4 ≤ k ∧ k < s5) w2 pd A') (hf : Fr (fun k => ¬ (s4 ≤ k ∧ k < s5)) wr w2) : G3 w w2 s4 s5 s6 s7 sN Sc pd pc pt A' C T ov lv mv nv o now X Y := by
  have hz := h.z
  exact h.fr hf (fun k hk h => by omega) (fun k h1 h2 h => by omega) hd (h.c.fr (hf.mono (fun k _ h' h2 => by have := h.sc k h'; omega))) (h.t.fr (hf.mono (fun k _ h => by omega)))
theorem G3.setT (h : G3 w wr s4 s5 s6 s7 sN Sc pd pc pt A C T ov lv mv nv o now X Y) (hd : DK (fun k => s6 ≤ k ∧ k < s7) w2 pt T') (hf : Fr (fun k => ¬ (s6 ≤ k ∧ k < s7)) wr w2) : G3 w w2 s4 s5 s6 s7 sN Sc pd pc pt A C T' ov lv mv nv o now X Y := by
  have hz := h.z
  exact h.fr hf (fun k hk h => by omega) (fun k h1 h2 h => by omega) (h.d.fr (hf.mono (fun k _ h => by omega))) (h.c.fr (hf.mono (fun k _ h' h2 => by have := h.sc k h'; omega))) hd
/-- what a round of the loop holds -/
def LS (w : World) (s4 s5 s6 s7 sN pd pc pt : Nat) (A T : Dk) (ov lv mv nv : Value) (o now : List UInt8) (X Y : List Wv) (k : Nat) (wr : World) : Prop := G3 w wr s4 s5 s6 s7 sN (fun k => (s5 ≤ k ∧ k < s6) ∨ sN ≤ k) pd pc pt A ⟨o, (X ++ Y.take k).map mkW, none⟩ T ov lv mv nv o now X Y ∧ sN ≤ wr.heap.size
theorem loop_step {w3 : World} {k s : Nat} {ul : List UInt8} (h : LS w s4 s5 s6 s7 sN pd pc pt A T ov lv mv nv o now X Y k wr) (hb : Below wr.heap.size wr w2) (ht : (X ++ Y.take (k + 1)).map mkW = (X ++ Y.take k).map mkW ++ [⟨s, fl ul, false⟩]) (_h0 : True)
    (hd : DK (fun b => ((s5 ≤ b ∧ b < s6) ∨ sN ≤ b) ∨ w2.heap.size ≤ b) w3 pc ⟨o, (X ++ Y.take k).map mkW ++ [⟨s, fl ul, blownF none⟩], burnt none⟩) (hf : Fr (fun b => ¬ ((s5 ≤ b ∧ b < s6) ∨ sN ≤ b)) w2 w3) : LS w s4 s5 s6 s7 sN pd pc pt A T ov lv mv nv o now X Y (k + 1) w3 := by
  have h2 := hb.size
  have h3 := h.2
  have h4 := hf.size
  unfold LS
  rw [ht]
  exact ⟨(h.1.on hb).setC (hd.sub (fun b _ hb => hb.elim id (fun h => .inr (by omega)))) hf, by omega⟩
end
theorem flat_len {α : Type} (f : α → List Value) (n : Nat) : ∀ (xs : List α), (∀ x ∈ xs, (f x).length = n) → (xs.flatMap f).length = xs.length * n
  | [], _ => by simp
  | x :: xs, h => by
    rw [List.flatMap_cons, List.length_append, h x (List.mem_cons_self ..), flat_len f n xs (fun y hy => h y (List.mem_cons_of_mem _ hy)), List.length_cons, Nat.succ_mul]
    omega
theorem slice_full (va : Option Addr) (vn vc : Nat) (h : vn ≤ vc) (hv : va = none → vc = 0) (w : World) : (Instr.sliceAt 23 (.slice va vn vc) none (some (.int .i64 vn)) (some (.int .i64 vn))).run Try.prog w = .ok (.slice va vn vn) w := by
  have hu := Try.underlying23
  have h1 : (0 : Int) ≤ (vn : Int) := by omega
  have h2 : (vn : Int) ≤ (vc : Int) := by omega
  cases va with
  | none =>
    have := hv rfl
    subst this
    have : vn = 0 := by omega
    subst this
    simp [Instr.sliceAt, run_underlying hu, go_sem]
  | some a => simp [Instr.sliceAt, run_underlying hu, go_sem, h1, h2]
theorem RWv.cells {w : World} {a : Option Addr} {n c : Nat} {us : List Wv} (h : RWv w (.slice a n c) us) : ∀ b, a = some b → ∀ j u, (us.flatMap Wv.cs)[j]? = some u → w.cell? (b.add j) = some u := fun b hb j u hu => by
  obtain ⟨⟨a', c', e, _, h⟩, _⟩ := h
  simp only [Value.slice.injEq] at e
  rcases h with h0 | ⟨g, o, e2, _, h⟩
  · subst h0; simp at hu
  · rw [e.1, e2] at hb
    cases hb
    have hjl := (List.getElem?_eq_some_iff.1 hu).1
    have hlen : (us.flatMap Wv.cs).length = us.length * 2 := flat_len Wv.cs 2 us (fun _ _ => rfl)
    have hi : j / 2 < us.length := by omega
    have hadd : (⟨g, o, none⟩ : Addr).add j = ⟨g, o + j, none⟩ := by unfold Addr.add; split <;> simp_all
    rw [hadd]
    obtain ⟨x, hx⟩ : ∃ x, us[j / 2]? = some x := ⟨us[j / 2], List.getElem?_eq_getElem _⟩
    obtain ⟨k1, k2⟩ := h (j / 2) x hx
    obtain ⟨_, hx'⟩ := List.getElem?_eq_some_iff.1 hx
    rcases Nat.mod_two_eq_zero_or_one j with hm | hm
    · have h0 := flat_at Wv.cs 2 us (j / 2) 0 (fun _ _ => rfl) hi (by omega)
      rw [hx', show j / 2 * 2 + 0 = j by omega, hu] at h0
      rw [show o + j = o + j / 2 * 2 by omega, k1]
      simpa [Wv.cs] using h0.symm
    · have h0 := flat_at Wv.cs 2 us (j / 2) 1 (fun _ _ => rfl) hi (by omega)
      rw [hx', show j / 2 * 2 + 1 = j by omega, hu] at h0
      rw [show o + j = o + j / 2 * 2 + 1 by omega, k2]
      simpa [Wv.cs] using h0.symm
theorem append_full {ops : Array Oper} {rest : List Oper} {o : Oper} {a : Act} {Q : Exit → Act → World → Prop} {w : World} {X Y : List Wv} {la ya : Option Addr} {n ny yc : Nat} (hgd : o.guard = none) (s x : Operand)
    (ho : o.op = .call { callee := .builtin .append, args := #[s, x], argTypes := #[23, 23] }) (hs : a.eval s = .slice la n n) (hx : a.eval x = .slice ya ny yc) (hn : X.length = n) (hy : Y.length = ny) (h1 : RWv w (.slice la n n) X) (h2 : RWv w (.slice ya ny yc) Y) (hla : la = none → n = 0) (hlim : n + ny ≤ 4194304)
    (h : ∀ v' w', RWv w' v' (X ++ Y) → Below w.heap.size w w' → wpList Try.prog ops Q rest (a.put o.dst v') w') : wpList Try.prog ops Q (o :: rest) a w := by
  obtain ⟨i0, hi, hz0, hz1, hz2⟩ := info_parts infoWr
  by_cases hy0 : ny = 0
  · have hY : Y = [] := List.length_eq_zero_iff.1 (by omega)
    subst hy0 hY
    refine wpList_plain hgd fun K hK => ?_
    unfold Oper.wp
    rw [List.append_nil] at h
    have hrun : ∀ ty, (Builtin.append_ #[23, 23] ty #[.slice la n n, .slice ya 0 yc]).run Try.prog w = .ok (.slice la n n) w := fun ty => by
      cases la <;> cases ya <;> simp [Builtin.append_, run_underlying Try.underlying23, sizeOf, typeInfo, hi, Builtin.lenOf, Builtin.firstCells, loadCells, storeCells, loadCellsFrom, go_sem]
    simp [execOp, ho, resolve, invoke, builtin, hs, hx, hrun, Result.andThen]
    exact hK _ _ (h _ _ h1 (Below.refl _ _))
  · have hone : ∀ Z : List Wv, (∀ u ∈ Z, RB w u.dv u.dl ∧ u.dl.length ≤ 140737488351232) → ∀ y ∈ Z.flatMap Wv.cs, y.oneCell' = true := fun Z hZ y hy => by
      obtain ⟨u, hu, hyu⟩ := List.mem_flatMap.1 hy
      simp [Wv.cs] at hyu
      rcases hyu with rfl | rfl
      · rfl
      · exact (hZ u hu).1.one
    obtain ⟨b, hb⟩ : ∃ b, ya = some b := by
      obtain ⟨⟨a', c', e, _, h⟩, _⟩ := h2
      simp only [Value.slice.injEq] at e
      rcases h with h0 | ⟨g, o, e2, _, _⟩
      · rw [h0] at hy; simp at hy; omega
      · exact ⟨_, by rw [e.1, e2]⟩
    subst hb
    refine wpList_append_grows w hgd s x 23 ho 39 i0 _ 2 32 Try.underlying23 hi hz0 hz1 hz2 rfl (by omega) la n n (X.flatMap Wv.cs) hs (fun hl => ⟨hla hl, hla hl⟩) (by rw [flat_len Wv.cs 2 X (fun _ _ => rfl), hn]) h1.cells b ny yc (Y.flatMap Wv.cs) hx (by rw [flat_len Wv.cs 2 Y (fun _ _ => rfl), hy]) (h2.cells b rfl) (hone Y h2.2) (by omega) (by unfold maxLen; omega) (by omega) (fun v' w' k1 k2 => ?_)
    have hbel : Below w.heap.size w w' := ⟨k2.os, k2.tape, k2.output, k2.size, fun k hk => k2.block k hk (by simp)⟩
    have how : OWv w.heap.size w' v' (X ++ Y) := by
      unfold OWv
      rw [List.length_append, hn, hy, List.flatMap_append]
      exact k1
    refine h v' w' (how.rw (fun u hu => ?_)) hbel
    rcases List.mem_append.1 hu with hu | hu
    · exact ⟨(h1.2 u hu).1.keep hbel, (h1.2 u hu).2⟩
    · exact ⟨(h2.2 u hu).1.keep hbel, (h2.2 u hu).2⟩
set_option maxHeartbeats 16000000 in
set_option maxRecDepth 100000 in
theorem copiesLaw (iv v mv kv : Value) (l : List UInt8) (us us2 : List Wv) (sy : Bool) (keep : List Bool) (w : World) (hi : RB w iv l) (hl : l.length ≤ 140737488351232) (hr : RWv w v us) (hul : us.length ≤ 1048576) (hm : RWv w mv us2) (hml : us.length + us2.length ≤ 1048576) (hk : RBo w kv keep) (hkl : keep.length ≤ 1048576) :
    Calls Try.prog 3 #[iv, v, mv, .bool sy, kv] w fun e w' => e = .returned (.bool true) ∧ Below w.heap.size w w' := by
  have HAW := Lib.hid (awake w)
  have HI : Hid (RB w iv l) := hi
  have HR : Hid (RWv w v us) := hr
  have HLL : Hid (l.length ≤ 140737488351232 ∧ us.length ≤ 1048576) := ⟨hl, hul⟩
  obtain ⟨ia, ic, rfl, _, _⟩ := hi
  obtain ⟨wa, wc, rfl, _, _⟩ := hr.1
  have HK : Hid (RBo w kv keep) := hk
  obtain ⟨ka, kc, rfl, _, _⟩ := hk
  have HR0 : Hid (RWv w (.slice wa us.length wc) us) := hr
  have HKL : Hid (keep.length ≤ 1048576) := hkl
  have HM0 : Hid (RWv w mv us2 ∧ us2.length ≤ 1048576) := ⟨hm, by omega⟩
  have HSUM : Hid ((ins l us).length + (ins l us2).length ≤ 1048576) := by have := ins_len l us; have := ins_len l us2; show _ ≤ _; omega
  obtain ⟨ma, mc, rfl, _, _⟩ := hm.1
  clear hm
  clear hr
  go_enter Try.func3, Try.ntmps3
  go_wp2_with fail
  refine HAW.out.mono ?_
  rintro e w1 ⟨rfl, b1⟩
  have P1 : Hid (Below w.heap.size w w1 ∧ RB w1 (.slice ia l.length ic) l ∧ RWv w1 (.slice wa us.length wc) us) := ⟨b1, HI.out.keep b1, HR.out.keep b1⟩
  clear b1 HAW HI HR
  go_wp2_with fail
  refine (whole _ l w1 P1.out.2.1 HLL.out.1).mono ?_
  rintro e w2 ⟨ov, rfl, ho, b2⟩
  obtain ⟨oa, oc, rfl⟩ := ho.form
  have P2 : Hid (Below w.heap.size w w2 ∧ RB w2 (.slice ia l.length ic) l ∧ RWv w2 (.slice wa us.length wc) us ∧ OW w.heap.size w2 (.slice oa (wh l).length oc) (wh l)) := ⟨P1.out.1.trans (b2.mono P1.out.1.size), P1.out.2.1.keep b2, P1.out.2.2.keep b2, ho.mono P1.out.1.size⟩
  clear ho b2 P1
  have hwl : (wh l).length ≤ 32768 := (wh_gd l).2.2
  go_wp2_with fail
  refine (inside _ us ((wh l).length / 64) w2 P2.out.2.2.1 (by omega) (by have := HLL.out.2; omega)).mono ?_
  rintro e w3 ⟨lv', rfl, hx, b3⟩
  obtain ⟨la, lc, hlv⟩ := ownsRow_form hx
  have P3 : Hid (PX w w3 (.slice ia l.length ic) (.slice wa us.length wc) (.slice oa (wh l).length oc) (.slice la (ins l us).length lc) l us) := ⟨P2.out.1.trans (b3.mono P2.out.1.size), P2.out.2.1.keep b3, P2.out.2.2.1.keep b3, P2.out.2.2.2.grow b3, by rw [← show lv' = .slice la (ins l us).length lc from hlv]; exact ownsRow_base hx P2.out.1.size⟩
  have hlv' : lv' = .slice la (ins l us).length lc := hlv
  subst hlv'
  clear hx b3 P2 hlv
  have HNL : Hid ((ins l us).length ≤ 1048576) := Nat.le_trans (ins_len l us) HLL.out.2
  go_wp2_with fail
  refine (inside _ us2 ((wh l).length / 64) w3 (HM0.out.1.keep P3.out.b) (by omega) (by have := HM0.out.2; omega)).mono ?_
  rintro e w4 ⟨yv, rfl, hy, b4⟩
  obtain ⟨ya, yc, ey⟩ := ownsRow_form hy
  have ey' : yv = .slice ya (ins l us2).length yc := ey
  subst ey'
  have P4 : Hid (PX w w4 (.slice ia l.length ic) (.slice wa us.length wc) (.slice oa (wh l).length oc) (.slice la (ins l us).length lc) l us ∧ OWv w.heap.size w4 (.slice ya (ins l us2).length yc) (ins l us2) ∧ (∀ g, (Value.slice oa (wh l).length oc).ownBlock = some g → g < w4.heap.size) ∧ (∀ g, (Value.slice la (ins l us).length lc).ownBlock = some g → g < w4.heap.size) ∧ (∀ g, (Value.slice ya (ins l us2).length yc).ownBlock = some g → g < w4.heap.size)) := ⟨P3.out.on b4, ownsRow_base hy P3.out.b.size, fun g hg => (ownsRow_lt (P3.out.on b4).o g hg).1, fun g hg => (ownsRow_lt (P3.out.on b4).x g hg).1, fun g hg => (ownsRow_lt hy g hg).1⟩
  clear hy b4 P3 ey
  go_wp2_with fail
  refine (P4.out.1.made HLL.out.2).mono ?_
  rintro e w5 ⟨pd, rfl, hda, b5⟩
  have P5 : Hid (PX w w5 (.slice ia l.length ic) (.slice wa us.length wc) (.slice oa (wh l).length oc) (.slice la (ins l us).length lc) l us ∧ OWv w.heap.size w5 (.slice ya (ins l us2).length yc) (ins l us2) ∧ DK (fun k => w4.heap.size ≤ k ∧ k < w5.heap.size) w5 pd (dk0 l us) ∧ w4.heap.size ≤ w5.heap.size ∧ w.heap.size ≤ w4.heap.size) := ⟨P4.out.1.on b5, ownsRow_fr (S := fun _ => True) P4.out.2.1 (Fr.of_below b5) (fun _ _ => trivial), hda.sub (fun k hk h => ⟨h, hk⟩), b5.size, P4.out.1.b.size⟩
  have HWB := Lib.hid P4.out.2.2
  clear hda b5 P4
  have HD0 : Hid ((dk0 l us).ws.length ≤ 1048576 ∧ (dk0 l us).ws.length = (ins l us).length) := ⟨by show ((ins l us).map mkW).length ≤ _; rw [List.length_map]; exact HNL.out, by show ((ins l us).map mkW).length = _; rw [List.length_map]⟩
  go_wp2_with fail
  refine (copy P5.out.2.2.1 (by have := HD0.out.1; omega)).mono ?_
  rintro e w6 ⟨pc, rfl, hdc, b6⟩
  have P6 : Hid (PX w w6 (.slice ia l.length ic) (.slice wa us.length wc) (.slice oa (wh l).length oc) (.slice la (ins l us).length lc) l us ∧ OWv w.heap.size w6 (.slice ya (ins l us2).length yc) (ins l us2) ∧ DK (fun k => w4.heap.size ≤ k ∧ k < w5.heap.size) w6 pd (dk0 l us) ∧ DK (fun k => w5.heap.size ≤ k ∧ k < w6.heap.size) w6 pc (dk0 l us) ∧ w.heap.size ≤ w4.heap.size ∧ w4.heap.size ≤ w5.heap.size ∧ w5.heap.size ≤ w6.heap.size) := ⟨P5.out.1.on b6, ownsRow_fr (S := fun _ => True) P5.out.2.1 (Fr.of_below b6) (fun _ _ => trivial), P5.out.2.2.1.below b6, hdc.sub (fun k hk h => ⟨h, hk⟩), P5.out.2.2.2.2, P5.out.2.2.2.1, b6.size⟩
  clear hdc b6 P5
  go_wp2_with fail
  refine (copy P6.out.2.2.1 (by have := HD0.out.1; omega)).mono ?_
  rintro e w7 ⟨pt, rfl, hdt, b7⟩
  have G7 : Hid (G3 w w7 w4.heap.size w5.heap.size w6.heap.size w7.heap.size w7.heap.size (fun k => w5.heap.size ≤ k ∧ k < w6.heap.size) pd pc pt (dk0 l us) (dk0 l us) (dk0 l us) (.slice oa (wh l).length oc) (.slice la (ins l us).length lc) (.slice ya (ins l us2).length yc) (.slice none 0 0) (wh l) [] (ins l us) (ins l us2)) := by
    obtain ⟨p1, p2, p3, p4, p5, p6, p7⟩ := P6.out
    exact ⟨(p1.on b7).b, p3.below b7, p4.below b7, fun k h => .inl h, hdt.sub (fun k hk h => ⟨h, hk⟩), (p1.on b7).o.rb, (p1.on b7).x, ownsRow_fr (S := fun _ => True) p2 (Fr.of_below b7) (fun _ _ => trivial), ⟨none, 0, rfl, Nat.le_refl _, .inl rfl⟩, ⟨p5, p6, p7, b7.size, Nat.le_refl _, Nat.le_refl _⟩, HWB.out.1, HWB.out.2.1, HWB.out.2.2, fun g hg => by simp [Value.ownBlock] at hg⟩
  clear hdt b7 P6 HWB
  obtain ⟨D0, hD0⟩ : ∃ D0 : Dk, D0 = dk0 l us := ⟨_, rfl⟩
  have HDE : Hid (D0 = dk0 l us) := hD0
  rw [← hD0] at G7 HD0
  clear hD0
  have HDL : Hid (D0.last = wh l ∧ D0.fu = none ∧ D0.ws = (ins l us).map mkW) := by rw [HDE.out]; exact ⟨rfl, rfl, rfl⟩
  have HY0 : Hid ((ins l us2).length ≤ 1048576) := Nat.le_trans (ins_len l us2) HM0.out.2
  generalize hns : (ins l us).length = n at *
  have HNS : Hid ((ins l us).length = n) := hns
  clear hns
  generalize hny : (ins l us2).length = ny at *
  have HNY : Hid ((ins l us2).length = ny) := hny
  clear hny
  generalize hnl : (wh l).length = nl at *
  have HWL : Hid ((wh l).length = nl) := hnl
  clear hnl
  have HIL : Hid ((img (wh l) D0.ws).length = nl) := by show (img _ _).length = nl; rw [img_len]; exact HWL.out
  have hn20 : n ≤ 1048576 := by have := HD0.out; omega
  have hy20 : ny ≤ 1048576 := HY0.out
  go_wp2_with fail
  refine (image G7.out.c).mono ?_
  rintro e w8 ⟨v8, rfl, ho, hb⟩
  have ho' : OW w7.heap.size w8 v8 (img (wh l) D0.ws) := by rw [← HDL.out.1]; exact ho
  have G8 : Hid (G3 w w8 w4.heap.size w5.heap.size w6.heap.size w7.heap.size w7.heap.size (fun k => w5.heap.size ≤ k ∧ k < w6.heap.size) pd pc pt D0 D0 D0 (.slice oa nl oc) (.slice la n lc) (.slice ya ny yc) (.slice none 0 0) (wh l) [] (ins l us) (ins l us2) ∧ RB w8 v8 (img (wh l) D0.ws)) := ⟨G7.out.on hb, ho'.rb⟩
  obtain ⟨a8, c8, e8⟩ := ho'.form
  rw [HIL.out] at e8
  subst e8
  clear ho ho' hb G7
  go_wp2_with fail
  refine (image G8.out.1.d).mono ?_
  rintro e w9 ⟨v9, rfl, ho, hb⟩
  have ho' : OW w8.heap.size w9 v9 (img (wh l) D0.ws) := by rw [← HDL.out.1]; exact ho
  have G9 : Hid (G3 w w9 w4.heap.size w5.heap.size w6.heap.size w7.heap.size w7.heap.size (fun k => w5.heap.size ≤ k ∧ k < w6.heap.size) pd pc pt D0 D0 D0 (.slice oa nl oc) (.slice la n lc) (.slice ya ny yc) (.slice none 0 0) (wh l) [] (ins l us) (ins l us2) ∧ RB w9 (.slice a8 nl c8) (img (wh l) D0.ws) ∧ RB w9 v9 (img (wh l) D0.ws)) := ⟨G8.out.1.on hb, G8.out.2.keep hb, ho'.rb⟩
  obtain ⟨a9, c9, e9⟩ := ho'.form
  rw [HIL.out] at e9
  subst e9
  clear ho ho' hb G8
  go_wp2_with fail
  refine (same _ _ (img (wh l) D0.ws) w9 (by rw [HIL.out]; omega) G9.out.2.1 G9.out.2.2).mono ?_
  rintro e w10 ⟨rfl, nq10, rfl⟩
  have G10 : Hid (G3 w (w9.drewN nq10) w4.heap.size w5.heap.size w6.heap.size w7.heap.size w7.heap.size (fun k => w5.heap.size ≤ k ∧ k < w6.heap.size) pd pc pt D0 D0 D0 (.slice oa nl oc) (.slice la n lc) (.slice ya ny yc) (.slice none 0 0) (wh l) [] (ins l us) (ins l us2)) := G9.out.1.on (belowDrew w9 nq10)
  clear G9
  generalize w9.drewN nq10 = w10 at *
  go_wp2_with fail
  refine (durable G10.out.c).mono ?_
  rintro e w11 ⟨v11, rfl, ho, hb⟩
  have ho' : OW w10.heap.size w11 v11 (wh l) := by rw [← HDL.out.1]; exact ho
  have G11 : Hid (G3 w w11 w4.heap.size w5.heap.size w6.heap.size w7.heap.size w7.heap.size (fun k => w5.heap.size ≤ k ∧ k < w6.heap.size) pd pc pt D0 D0 D0 (.slice oa nl oc) (.slice la n lc) (.slice ya ny yc) (.slice none 0 0) (wh l) [] (ins l us) (ins l us2) ∧ RB w11 v11 (wh l)) := ⟨G10.out.on hb, ho'.rb⟩
  obtain ⟨a11, c11, e11⟩ := ho'.form
  rw [HWL.out] at e11
  subst e11
  clear ho ho' hb G10
  go_wp2_with fail
  refine (durable G11.out.1.d).mono ?_
  rintro e w12 ⟨v12, rfl, ho, hb⟩
  have ho' : OW w11.heap.size w12 v12 (wh l) := by rw [← HDL.out.1]; exact ho
  have G12 : Hid (G3 w w12 w4.heap.size w5.heap.size w6.heap.size w7.heap.size w7.heap.size (fun k => w5.heap.size ≤ k ∧ k < w6.heap.size) pd pc pt D0 D0 D0 (.slice oa nl oc) (.slice la n lc) (.slice ya ny yc) (.slice none 0 0) (wh l) [] (ins l us) (ins l us2) ∧ RB w12 (.slice a11 nl c11) (wh l) ∧ RB w12 v12 (wh l)) := ⟨G11.out.1.on hb, G11.out.2.keep hb, ho'.rb⟩
  obtain ⟨a12, c12, e12⟩ := ho'.form
  rw [HWL.out] at e12
  subst e12
  clear ho ho' hb G11
  go_wp2_with fail
  refine (same _ _ (wh l) w12 (by rw [HWL.out]; omega) G12.out.2.1 G12.out.2.2).mono ?_
  rintro e w13 ⟨rfl, nq13, rfl⟩
  have G13 : Hid (G3 w (w12.drewN nq13) w4.heap.size w5.heap.size w6.heap.size w7.heap.size w7.heap.size (fun k => w5.heap.size ≤ k ∧ k < w6.heap.size) pd pc pt D0 D0 D0 (.slice oa nl oc) (.slice la n lc) (.slice ya ny yc) (.slice none 0 0) (wh l) [] (ins l us) (ins l us2)) := G12.out.1.on (belowDrew w12 nq13)
  clear G12
  generalize w12.drewN nq13 = w13 at *
  go_wp2_with fail
  refine (pending G13.out.c (by have := HD0.out.1; omega)).mono ?_
  rintro e w14 ⟨v14, rfl, ho, hb⟩
  have G14 : Hid (G3 w w14 w4.heap.size w5.heap.size w6.heap.size w7.heap.size w7.heap.size (fun k => w5.heap.size ≤ k ∧ k < w6.heap.size) pd pc pt D0 D0 D0 (.slice oa nl oc) (.slice la n lc) (.slice ya ny yc) (.slice none 0 0) (wh l) [] (ins l us) (ins l us2) ∧ RN w14 v14 (D0.ws.map (·.at_))) := ⟨G13.out.on hb, rn_of ho⟩
  obtain ⟨a14, c14, e14⟩ := ownsRow_form ho
  rw [HD0.out.2] at e14
  subst e14
  clear ho hb G13
  go_wp2_with fail
  refine (pending G14.out.1.d (by have := HD0.out.1; omega)).mono ?_
  rintro e w15 ⟨v15, rfl, ho, hb⟩
  have G15 : Hid (G3 w w15 w4.heap.size w5.heap.size w6.heap.size w7.heap.size w7.heap.size (fun k => w5.heap.size ≤ k ∧ k < w6.heap.size) pd pc pt D0 D0 D0 (.slice oa nl oc) (.slice la n lc) (.slice ya ny yc) (.slice none 0 0) (wh l) [] (ins l us) (ins l us2) ∧ RN w15 (.slice a14 n c14) (D0.ws.map (·.at_)) ∧ RN w15 v15 (D0.ws.map (·.at_))) := ⟨G14.out.1.on hb, G14.out.2.keep hb, rn_of ho⟩
  obtain ⟨a15, c15, e15⟩ := ownsRow_form ho
  rw [HD0.out.2] at e15
  subst e15
  clear ho hb G14
  go_wp2_with fail
  refine (intsame _ _ (D0.ws.map (·.at_)) w15 (by rw [List.length_map]; have := HD0.out.1; omega) G15.out.2.1 G15.out.2.2).mono ?_
  rintro e w16 ⟨rfl, nq16, rfl⟩
  have G16 : Hid (G3 w (w15.drewN nq16) w4.heap.size w5.heap.size w6.heap.size w7.heap.size w7.heap.size (fun k => w5.heap.size ≤ k ∧ k < w6.heap.size) pd pc pt D0 D0 D0 (.slice oa nl oc) (.slice la n lc) (.slice ya ny yc) (.slice none 0 0) (wh l) [] (ins l us) (ins l us2)) := G15.out.1.on (belowDrew w15 nq16)
  clear G15
  generalize w15.drewN nq16 = w16 at *
  go_wp2_with fail
  refine (image G16.out.d).mono ?_
  rintro e w17 ⟨vn, rfl, ho, hb⟩
  have ho' : OW w16.heap.size w17 vn (img (wh l) D0.ws) := by rw [← HDL.out.1]; exact ho
  have hnb : ∀ g, vn.ownBlock = some g → w7.heap.size ≤ g ∧ g < w17.heap.size := fun g hg => by
    have h1 := (ownsRow_lt ho' g hg).1
    have h2 := G16.out.z.2.2.2.2.2
    rcases ho'.2 with ⟨e, _⟩ | ⟨g', _, _, e, h3, _⟩
    · rw [e] at hg; simp [Value.ownBlock] at hg
    · rw [e] at hg; simp [Value.ownBlock] at hg; omega
  have hrn := ho'.rb
  obtain ⟨an, cn, en⟩ := ho'.form
  rw [HIL.out] at en
  subst en
  have G17 : Hid (LS w w4.heap.size w5.heap.size w6.heap.size w7.heap.size w17.heap.size pd pc pt D0 D0 (.slice oa nl oc) (.slice la n lc) (.slice ya ny yc) (.slice an nl cn) (wh l) (img (wh l) D0.ws) (ins l us) (ins l us2) 0 w17) := by
    have h := G16.out.on hb
    have hc : DK (fun k => (w5.heap.size ≤ k ∧ k < w6.heap.size) ∨ w17.heap.size ≤ k) w17 pc ⟨wh l, (ins l us ++ (ins l us2).take 0).map mkW, none⟩ := by
      rw [List.take_zero, List.append_nil]
      have h2 := h.c
      rw [HDE.out] at h2
      exact h2.sub (fun k _ h => .inl h)
    have hz := h.z
    exact ⟨⟨h.f, h.d, hc, fun k h => h, h.t, h.o, h.x, h.y, hrn, ⟨hz.1, hz.2.1, hz.2.2.1, hz.2.2.2.1, hz.2.2.2.2.2, Nat.le_refl _⟩, h.ob, h.xb, h.yb, hnb⟩, Nat.le_refl _⟩
  clear ho ho' hb hnb hrn G16
  generalize hnow : img (wh l) D0.ws = now at *
  have HNOW : Hid (img (wh l) D0.ws = now) := hnow
  clear hnow
  go_wp2_with fail
  go_loopw [19] (fun i wr => ∃ k : Nat, k ≤ ny ∧ i = .int .i64 k ∧ Hid (LS w w4.heap.size w5.heap.size w6.heap.size w7.heap.size w17.heap.size pd pc pt D0 D0 (.slice oa nl oc) (.slice la n lc) (.slice ya ny yc) (.slice an nl cn) (wh l) now (ins l us) (ins l us2) k wr)) (fun i _ => ny - (intOf i).toNat)
  case atStart => exact ⟨0, Nat.zero_le _, rfl, G17⟩
  case round =>
    clear G17
    obtain ⟨k, hk, rfl, H⟩ := hrel
    by_cases hlt : k < ny
    · obtain ⟨u, hu⟩ : ∃ u, (ins l us2)[k]? = some u := ⟨(ins l us2)[k]'(by rw [HNY.out]; exact hlt), List.getElem?_eq_getElem _⟩
      have hrw : RWv wr (.slice ya ny yc) (ins l us2) := H.out.1.y.rw (fun u hu => ⟨(HM0.out.1.2 u (List.mem_filter.1 hu).1).1.keep H.out.1.f, (HM0.out.1.2 u (List.mem_filter.1 hu).1).2⟩)
      have HGS0 : Hid (∀ g, (Value.slice ya ny yc).ownBlock = some g → ¬ ¬ ¬ ((w5.heap.size ≤ g ∧ g < w6.heap.size) ∨ w17.heap.size ≤ g)) := fun g hg => by have h1 := H.out.1.yb g hg; have h2 := H.out.1.z; omega
      obtain ⟨g, o, rfl, hgr, hc1, hc2⟩ : ∃ g o, ya = some ⟨g, o, none⟩ ∧ g < wr.heap.size ∧ wr.cell? ⟨g, o + k * 2, none⟩ = some (.int .i64 u.at_) ∧ wr.cell? ⟨g, o + k * 2 + 1, none⟩ = some u.dv := by
        obtain ⟨⟨a', c', e, _, h⟩, _⟩ := hrw
        simp only [Value.slice.injEq] at e
        rcases h with h0 | ⟨g, o, e2, hg, h⟩
        · rw [h0] at hu; simp at hu
        · exact ⟨g, o, by rw [e.1, e2], hg, h k u hu⟩
      have HGS : Hid (∀ g', g = g' → ¬ ((w5.heap.size ≤ g' ∧ g' < w6.heap.size) ∨ w17.heap.size ≤ g')) := fun g' e h => by subst e; exact HGS0.out g rfl (fun h' => h' h)
      have hum := List.mem_of_getElem? hu
      obtain ⟨hu0, hu1⟩ := ins_in l us2 u hum
      rw [HWL.out] at hu1
      have hrb0 := (hrw.2 u hum).1
      have HUL0 := (hrw.2 u hum).2
      have HT0 : (ins l us ++ (ins l us2).take (k + 1)).map mkW = (ins l us ++ (ins l us2).take k).map mkW ++ [mkW u] := by
        obtain ⟨h1, h2⟩ := List.getElem?_eq_some_iff.1 hu
        rw [List.take_succ_eq_append_getElem h1, ← List.append_assoc, List.map_append, h2]
        rfl
      obtain ⟨ua, ud, ul⟩ := u
      dsimp only at *
      obtain ⟨s, rfl⟩ : ∃ s : Nat, ua = s := ⟨ua.toNat, by omega⟩
      have HT : Hid ((ins l us ++ (ins l us2).take (k + 1)).map mkW = (ins l us ++ (ins l us2).take k).map mkW ++ [⟨s, fl ul, false⟩]) := HT0
      have HUL : Hid (ul.length ≤ 140737488351232) := HUL0
      obtain ⟨da, dc, e, _⟩ := id hrb0
      obtain ⟨dn, hdn⟩ : ∃ dn, ul.length = dn := ⟨_, rfl⟩
      rw [hdn] at e
      subst e
      have HRB : Hid (RB wr.drew (.slice da dn dc) ul) := hrb0.keep (belowDrew wr 1)
      have HS64 : Hid (64 * s + 64 ≤ (wh l).length) := by show 64 * s + 64 ≤ (wh l).length; rw [HWL.out]; omega
      have HNO : Hid (True) := trivial
      have HWL2 : Hid (((ins l us ++ (ins l us2).take k).map mkW).length < 1073741824) := by
        show ((ins l us ++ (ins l us2).take k).map mkW).length < 1073741824
        rw [List.length_map, List.length_append, List.length_take, HNS.out]; omega
      clear hu hum hu0 hu1 hrb0 HUL0 HT0 hdn hrw HGS0
      go_wp2_with fail
      refine wp_region_held_drew (S := fun u => u.cell? ⟨g, o + k * 2, none⟩ = some (.int .i64 s) ∧ u.cell? ⟨g, o + k * 2 + 1, none⟩ = some (.slice da dn dc)) (by kernel_rfl) (⟨hc1, hc2⟩) (fun hHeld => ?_)
      refine wpAnyH_take (i := 0) (v := .pointer (some ⟨pc, 0, none⟩)) rfl (by kernel_rfl) (by kernel_rfl) (by kernel_rfl) (fun _ _ _ h => h) (Or.inl ⟨by rfl, fun w hw => by go_simp⟩) hHeld ?_
      simp only [Act.put, List.getElem_toArray, List.getElem_cons_zero, List.setIfInBounds_toArray, List.set_cons_zero, List.set_cons_succ]
      refine wpAnyH_take (i := 1) (v := .slice (some ⟨g, o, none⟩) ny yc) rfl (by kernel_rfl) (by kernel_rfl) (by kernel_rfl) (fun _ _ _ h => h) (Or.inl ⟨by rfl, fun w hw => by go_simp⟩) hHeld ?_
      simp only [Act.put, List.getElem_toArray, List.getElem_cons_zero, List.getElem_cons_succ, List.setIfInBounds_toArray, List.set_cons_zero, List.set_cons_succ]
      refine wpAnyH_take (i := 2) (v := .int .i64 k) rfl (by kernel_rfl) (by kernel_rfl) (by kernel_rfl) (fun _ _ _ h => h) (Or.inl ⟨by rfl, fun w hw => by go_simp⟩) hHeld ?_
      simp only [Act.put, List.getElem_toArray, List.getElem_cons_zero, List.getElem_cons_succ, List.setIfInBounds_toArray, List.set_cons_zero, List.set_cons_succ]
      refine wpAnyH_take (i := 3) (v := .pointer (some ⟨g, o + k * 2, none⟩)) rfl (by kernel_rfl) (by kernel_rfl) (by kernel_rfl) (fun _ _ _ h => h) (Or.inl ⟨by rfl, fun w hw => by go_simp⟩) hHeld ?_
      simp only [Act.put, List.getElem_toArray, List.getElem_cons_zero, List.getElem_cons_succ, List.setIfInBounds_toArray, List.set_cons_zero, List.set_cons_succ]
      refine wpAnyH_take (i := 4) (v := .pointer (some ⟨g, o + k * 2, none⟩)) rfl (by kernel_rfl) (by kernel_rfl) (by kernel_rfl) (fun _ _ _ h => h) (Or.inl ⟨by rfl, fun w hw => by go_simp⟩) hHeld ?_
      simp only [Act.put, List.getElem_toArray, List.getElem_cons_zero, List.getElem_cons_succ, List.setIfInBounds_toArray, List.set_cons_zero, List.set_cons_succ]
      refine wpAnyH_take (i := 5) (v := .int .i64 s) rfl (by kernel_rfl) (by kernel_rfl) (by kernel_rfl) (fun _ _ _ h => h) (Or.inl ⟨by rfl, fun w hw => by have hw2 : w.cell? ⟨g, o + k * 2, none⟩ = _ := hw.1; go_simp⟩) hHeld ?_
      simp only [Act.put, List.getElem_toArray, List.getElem_cons_zero, List.getElem_cons_succ, List.setIfInBounds_toArray, List.set_cons_zero, List.set_cons_succ]
      refine wpAnyH_take (i := 6) (v := .slice (some ⟨g, o, none⟩) ny yc) rfl (by kernel_rfl) (by kernel_rfl) (by kernel_rfl) (fun _ _ _ h => h) (Or.inl ⟨by rfl, fun w hw => by go_simp⟩) hHeld ?_
      simp only [Act.put, List.getElem_toArray, List.getElem_cons_zero, List.getElem_cons_succ, List.setIfInBounds_toArray, List.set_cons_zero, List.set_cons_succ]
      refine wpAnyH_take (i := 7) (v := .int .i64 k) rfl (by kernel_rfl) (by kernel_rfl) (by kernel_rfl) (fun _ _ _ h => h) (Or.inl ⟨by rfl, fun w hw => by go_simp⟩) hHeld ?_
      simp only [Act.put, List.getElem_toArray, List.getElem_cons_zero, List.getElem_cons_succ, List.setIfInBounds_toArray, List.set_cons_zero, List.set_cons_succ]
      refine wpAnyH_take (i := 8) (v := .pointer (some ⟨g, o + k * 2, none⟩)) rfl (by kernel_rfl) (by kernel_rfl) (by kernel_rfl) (fun _ _ _ h => h) (Or.inl ⟨by rfl, fun w hw => by go_simp⟩) hHeld ?_
      simp only [Act.put, List.getElem_toArray, List.getElem_cons_zero, List.getElem_cons_succ, List.setIfInBounds_toArray, List.set_cons_zero, List.set_cons_succ]
      refine wpAnyH_take (i := 9) (v := .pointer (some ⟨g, o + k * 2 + 1, none⟩)) rfl (by kernel_rfl) (by kernel_rfl) (by kernel_rfl) (fun _ _ _ h => h) (Or.inl ⟨by rfl, fun w hw => by go_simp⟩) hHeld ?_
      simp only [Act.put, List.getElem_toArray, List.getElem_cons_zero, List.getElem_cons_succ, List.setIfInBounds_toArray, List.set_cons_zero, List.set_cons_succ]
      refine wpAnyH_take (i := 10) (v := .slice da dn dc) rfl (by kernel_rfl) (by kernel_rfl) (by kernel_rfl) (fun _ _ _ h => h) (Or.inl ⟨by rfl, fun w hw => by have hw2 : w.cell? ⟨g, o + k * 2 + 1, none⟩ = _ := hw.2; go_simp⟩) hHeld ?_
      simp only [Act.put, List.getElem_toArray, List.getElem_cons_zero, List.getElem_cons_succ, List.setIfInBounds_toArray, List.set_cons_zero, List.set_cons_succ]
      refine wpAnyH_ready (rs := [11]) (by kernel_rfl) (by simp) ?_
      refine AllReadyH.cons (o := _) rfl (fun K hK => ?_) AllReadyH.nil
      go_simp
      refine (full _ ul wr.drew HRB.out HUL.out).mono ?_
      rintro e w2 ⟨gb, rfl, hgb, hrb, hb2⟩
      have HB2 : Hid (RB w2 (.slice (some ⟨gb, 0, none⟩) 64 64) (fl ul) ∧ Below wr.heap.size wr w2) := ⟨hrb, ⟨hb2.os, hb2.tape, hb2.output, hb2.size, hb2.block⟩⟩
      have hh2 : w2.cell? ⟨g, o + k * 2, none⟩ = some (.int .i64 s) ∧ w2.cell? ⟨g, o + k * 2 + 1, none⟩ = some (.slice da dn dc) := ⟨(hb2.cell (p := ⟨g, o + k * 2, none⟩) hgr).trans hc1, (hb2.cell (p := ⟨g, o + k * 2 + 1, none⟩) hgr).trans hc2⟩
      clear hrb hb2 hgb
      go_wp2_with fail
      refine hK.out _ _ hh2 (fun hHeld => ?_)
      clear hK K
      refine wpAnyH_ready (rs := [12]) (by kernel_rfl) (by simp) ?_
      refine AllReadyH.cons (o := _) rfl (fun K hK => ?_) AllReadyH.nil
      go_simp
      refine (write (H.out.1.c.below HB2.out.2) s HS64.out _ (fl ul) HB2.out.1 (fl_len _) HWL2.out).mono ?_
      rintro e w3 ⟨rfl, hd3, hf3⟩
      have H3 := Lib.hid (loop_step H.out HB2.out.2 HT.out trivial hd3 hf3)
      have hh3 : w3.cell? ⟨g, o + k * 2, none⟩ = some (.int .i64 s) ∧ w3.cell? ⟨g, o + k * 2 + 1, none⟩ = some (.slice da dn dc) := ⟨(World.cell?_of_block (w := w2) (hf3.block g (Nat.lt_of_lt_of_le hgr HB2.out.2.size) (HGS.out g rfl))).trans hh2.1, (World.cell?_of_block (w := w2) (hf3.block g (Nat.lt_of_lt_of_le hgr HB2.out.2.size) (HGS.out g rfl))).trans hh2.2⟩
      clear hd3 hf3 hh2
      go_wp2_with fail
      refine hK.out _ _ hh3 (fun hHeld => ?_)
      clear hK K
      refine wpAnyH_ready (rs := [13]) (by kernel_rfl) (by simp) ?_
      refine AllReadyH.cons (o := _) rfl (fun K hK => ?_) AllReadyH.nil
      go_simp
      refine hK.out _ _ hHeld (fun hHeld => ?_)
      clear hK K
      refine wpAnyH_done (by kernel_rfl) ?_ _
      clear hHeld hh3 HB2
      go_wp2_with fail
      go_roundw
      case rel => exact ⟨k + 1, by omega, by go_num, H3⟩
      case measure => (simp [intOf]; omega)
    · have hkn : k = (ins l us2).length := by rw [HNY.out]; omega
      have hGA : G3 w wr w4.heap.size w5.heap.size w6.heap.size w7.heap.size w17.heap.size (fun k => (w5.heap.size ≤ k ∧ k < w6.heap.size) ∨ w17.heap.size ≤ k) pd pc pt D0 ⟨wh l, (ins l us ++ ins l us2).map mkW, none⟩ D0 (.slice oa nl oc) (.slice la n lc) (.slice ya ny yc) (.slice an nl cn) (wh l) now (ins l us) (ins l us2) := by
        have h := H.out.1
        rw [hkn, List.take_length] at h
        exact h
      obtain ⟨C, hC⟩ : ∃ C : Dk, C = ⟨wh l, (ins l us ++ ins l us2).map mkW, none⟩ := ⟨_, rfl⟩
      rw [← hC] at hGA
      have HCI : Hid (img C.last C.ws = img (wh l) ((ins l us ++ ins l us2).map mkW) ∧ C.last.length = nl ∧ C.fu = none) := by rw [hC]; exact ⟨rfl, HWL.out, rfl⟩
      have GA := Lib.hid hGA
      clear hGA hC H hkn
      cases sy with
      | false =>
        go_wp2_with fail
        refine (image GA.out.d).mono ?_
        rintro e x1 ⟨v, rfl, ho, hb⟩
        have ho' : OW wr.heap.size x1 v now := by rw [← HNOW.out, ← HDL.out.1]; exact ho
        have Q1 : Hid (G3 w x1 w4.heap.size w5.heap.size w6.heap.size w7.heap.size w17.heap.size (fun k => (w5.heap.size ≤ k ∧ k < w6.heap.size) ∨ w17.heap.size ≤ k) pd pc pt D0 C D0 (.slice oa nl oc) (.slice la n lc) (.slice ya ny yc) (.slice an nl cn) (wh l) now (ins l us) (ins l us2) ∧ RB x1 v now) := ⟨GA.out.on hb, ho'.rb⟩
        obtain ⟨a1, c1, e1⟩ := ho'.form
        rw [HIL.out] at e1
        subst e1
        clear ho ho' hb GA
        go_wp2_with fail
        refine (same _ _ now x1 (by rw [HIL.out]; omega) Q1.out.2 Q1.out.1.n).mono ?_
        rintro e x2 ⟨rfl, nqa, rfl⟩
        have Q2 : Hid (G3 w (x1.drewN nqa) w4.heap.size w5.heap.size w6.heap.size w7.heap.size w17.heap.size (fun k => (w5.heap.size ≤ k ∧ k < w6.heap.size) ∨ w17.heap.size ≤ k) pd pc pt D0 C D0 (.slice oa nl oc) (.slice la n lc) (.slice ya ny yc) (.slice an nl cn) (wh l) now (ins l us) (ins l us2)) := Q1.out.1.on (belowDrew x1 nqa)
        clear Q1
        generalize x1.drewN nqa = x2 at *
        go_wp2_with fail
        refine (durable Q2.out.d).mono ?_
        rintro e x3 ⟨v, rfl, ho, hb⟩
        have ho' : OW x2.heap.size x3 v (wh l) := by rw [← HDL.out.1]; exact ho
        have Q3 : Hid (G3 w x3 w4.heap.size w5.heap.size w6.heap.size w7.heap.size w17.heap.size (fun k => (w5.heap.size ≤ k ∧ k < w6.heap.size) ∨ w17.heap.size ≤ k) pd pc pt D0 C D0 (.slice oa nl oc) (.slice la n lc) (.slice ya ny yc) (.slice an nl cn) (wh l) now (ins l us) (ins l us2) ∧ RB x3 v (wh l)) := ⟨Q2.out.on hb, ho'.rb⟩
        obtain ⟨a3, c3, e3⟩ := ho'.form
        rw [HWL.out] at e3
        subst e3
        clear ho ho' hb Q2
        go_wp2_with fail
        refine (same _ _ (wh l) x3 (by rw [HWL.out]; omega) Q3.out.2 Q3.out.1.o).mono ?_
        rintro e x4 ⟨rfl, nqb, rfl⟩
        have Q4 : Hid (G3 w (x3.drewN nqb) w4.heap.size w5.heap.size w6.heap.size w7.heap.size w17.heap.size (fun k => (w5.heap.size ≤ k ∧ k < w6.heap.size) ∨ w17.heap.size ≤ k) pd pc pt D0 C D0 (.slice oa nl oc) (.slice la n lc) (.slice ya ny yc) (.slice an nl cn) (wh l) now (ins l us) (ins l us2)) := Q3.out.1.on (belowDrew x3 nqb)
        clear Q3
        generalize x3.drewN nqb = x4 at *
        go_wp2_with fail
        refine (pending Q4.out.d (by have := HD0.out.1; omega)).mono ?_
        rintro e x5 ⟨v, rfl, ho, hb⟩
        obtain ⟨a5, c5, e5⟩ := ownsRow_form ho
        rw [HD0.out.2] at e5
        subst e5
        have Q5 : Hid (G3 w x5 w4.heap.size w5.heap.size w6.heap.size w7.heap.size w17.heap.size (fun k => (w5.heap.size ≤ k ∧ k < w6.heap.size) ∨ w17.heap.size ≤ k) pd pc pt D0 C D0 (.slice oa nl oc) (.slice la n lc) (.slice ya ny yc) (.slice an nl cn) (wh l) now (ins l us) (ins l us2)) := Q4.out.on hb
        clear ho hb Q4
        go_wp2_with fail
        refine (kept _ keep n x5 (HK.out.keep Q5.out.f) (by have := HKL.out; omega) (by omega)).mono ?_
        rintro e x6 ⟨kw, rfl, hko, b6⟩
        have Q6 := Lib.hid (Q5.out.on b6)
        have hkg : ∀ g, kw.ownBlock = some g → x5.heap.size ≤ g := fun g hg => by
          rcases hko.2 with ⟨e, _⟩ | ⟨g', _, _, e, h1, _⟩
          · rw [e] at hg; simp [Value.ownBlock] at hg
          · rw [e] at hg; simp [Value.ownBlock] at hg; omega
        have NC := Lib.hid (crash Q6.out.d kw (kp keep n) hko.rb (by rw [kp_len, HD0.out.2]) (fun g hg h => by have := hkg g hg; have := Q5.out.z; omega) (by have := HD0.out.1; omega) (-1) 0 (by omega) (by omega) (fun h => absurd rfl h))
        rw [if_pos rfl] at NC
        obtain ⟨ak, ck, ek⟩ := ownsRow_form hko
        rw [kp_len] at ek
        subst ek
        clear hko b6 hkg Q5
        go_wp2_with fail
        refine NC.out.mono ?_
        rintro e x7 ⟨rfl, hd, hf⟩
        have Q7 := Lib.hid (Q6.out.setD hd hf)
        clear hd hf NC Q6
        go_wp2_with fail
        refine (kept _ keep n x7 (HK.out.keep Q7.out.f) (by have := HKL.out; omega) (by omega)).mono ?_
        rintro e x8 ⟨kw, rfl, hko, b8⟩
        have Q8 := Lib.hid (Q7.out.on b8)
        have hkg : ∀ g, kw.ownBlock = some g → x7.heap.size ≤ g := fun g hg => by
          rcases hko.2 with ⟨e, _⟩ | ⟨g', _, _, e, h1, _⟩
          · rw [e] at hg; simp [Value.ownBlock] at hg
          · rw [e] at hg; simp [Value.ownBlock] at hg; omega
        have NC := Lib.hid (crash Q8.out.t kw (kp keep n) hko.rb (by rw [kp_len, HD0.out.2]) (fun g hg h => by have := hkg g hg; have := Q7.out.z; omega) (by have := HD0.out.1; omega) (-1) 0 (by omega) (by omega) (fun h => absurd rfl h))
        rw [if_pos rfl] at NC
        obtain ⟨ak2, ck2, ek2⟩ := ownsRow_form hko
        rw [kp_len] at ek2
        subst ek2
        clear hko b8 hkg Q7
        go_wp2_with fail
        refine NC.out.mono ?_
        rintro e x9 ⟨rfl, hd, hf⟩
        have Q9 := Lib.hid (Q8.out.setT hd hf)
        clear hd hf NC Q8
        have HCL : Hid ((crD (kp keep n) (-1) 0 D0.last D0.ws).length = nl) := by show (crD _ _ _ _ _).length = nl; rw [crD_len, HDL.out.1]; exact HWL.out
        generalize crD (kp keep n) (-1) 0 D0.last D0.ws = im at *
        have HXR : Hid (RWv x9 (.slice la n n) (ins l us) ∧ RWv x9 (.slice ya ny yc) (ins l us2) ∧ n ≤ lc ∧ (la = none → lc = 0 ∧ n = 0)) := by
          have hx : RWv x9 (.slice la n lc) (ins l us) := Q9.out.x.rw (fun u hu => ⟨(HR0.out.2 u (List.mem_filter.1 hu).1).1.keep Q9.out.f, (HR0.out.2 u (List.mem_filter.1 hu).1).2⟩)
          refine ⟨⟨?_, hx.2⟩, Q9.out.y.rw (fun u hu => ⟨(HM0.out.1.2 u (List.mem_filter.1 hu).1).1.keep Q9.out.f, (HM0.out.1.2 u (List.mem_filter.1 hu).1).2⟩), ?_, fun hla => ?_⟩
          · obtain ⟨a', c', e, hle, h⟩ := hx.1
            simp only [Value.slice.injEq] at e
            exact ⟨la, n, by rw [HNS.out], by rw [HNS.out]; exact Nat.le_refl _, by rw [e.1]; exact h⟩
          · obtain ⟨a', c', e, hle, h⟩ := hx.1
            simp only [Value.slice.injEq] at e
            rw [HNS.out] at hle
            omega
          · rcases Q9.out.x.2 with ⟨e, h0⟩ | ⟨g', c', cur, e, _⟩
            · simp only [Value.slice.injEq] at e
              rw [HNS.out] at h0
              exact ⟨e.2.2, h0⟩
            · simp only [Value.slice.injEq] at e
              rw [hla] at e
              cases e.1
        have hsl := fun u : World => slice_full la n lc HXR.out.2.2.1 (fun h => (HXR.out.2.2.2 h).1) u
        have HAP : Hid (∀ {ops : Array Oper} {rest : List Oper} {o : Oper} {a : Act} {Q : Exit → Act → World → Prop} (s' x : Operand), o.guard = none → o.op = .call { callee := .builtin .append, args := #[s', x], argTypes := #[23, 23] } → a.eval s' = .slice la n n → a.eval x = .slice ya ny yc →
            (∀ v' w', RWv w' v' (ins l us ++ ins l us2) → Below x9.heap.size x9 w' → wpList Try.prog ops Q rest (a.put o.dst v') w') → wpList Try.prog ops Q (o :: rest) a x9) :=
          fun s' x h1 h2 h3 h4 h5 => append_full h1 s' x h2 h3 h4 HNS.out HNY.out HXR.out.1 HXR.out.2.1 (fun h => (HXR.out.2.2.2 h).2) (by omega) h5
        clear HXR
        go_wp2_with (at_builtin; refine HAP.out _ _ rfl rfl rfl rfl ?_; intro v' x10 hv' b10)
        have HV : Hid (RWv x10 v' (ins l us ++ ins l us2)) := hv'
        obtain ⟨aa, ac, ea, _⟩ := hv'.1
        generalize (ins l us ++ ins l us2).length = nn at *
        subst ea
        have Q10 := Lib.hid (Q9.out.on b10)
        clear hv' b10 Q9 HAP hsl
        have hgd := wh_gd l
        refine (made _ _ (wh l) (ins l us ++ ins l us2) x10 Q10.out.o hgd.1 hgd.2.1 (by omega) HV.out (by rw [List.length_append, HNS.out, HNY.out]; have := HSUM.out; omega) (fun u hu => by
          rcases List.mem_append.1 hu with h | h
          · exact ins_in l us u h
          · exact ins_in l us2 u h)).mono ?_
        rintro e x11 ⟨ph, rfl, hdh, b11⟩
        have Q11 : Hid (G3 w x11 w4.heap.size w5.heap.size w6.heap.size w7.heap.size w17.heap.size (fun k => (w5.heap.size ≤ k ∧ k < w6.heap.size) ∨ w17.heap.size ≤ k) pd pc pt ⟨im, [], none⟩ C ⟨im, [], none⟩ (.slice oa nl oc) (.slice la n lc) (.slice ya ny yc) (.slice an nl cn) (wh l) now (ins l us) (ins l us2) ∧ DK (fun k => x10.heap.size ≤ k) x11 ph ⟨wh l, (ins l us ++ ins l us2).map mkW, none⟩) := ⟨Q10.out.on b11, hdh⟩
        clear hdh b11 Q10 HV hgd
        go_wp2_with fail
        refine (image Q11.out.1.d).mono ?_
        rintro e x12 ⟨v, rfl, ho, hb⟩
        have ho' : OW x11.heap.size x12 v (img im []) := ho
        rw [img_nil] at ho'
        have Q12 : Hid (G3 w x12 w4.heap.size w5.heap.size w6.heap.size w7.heap.size w17.heap.size (fun k => (w5.heap.size ≤ k ∧ k < w6.heap.size) ∨ w17.heap.size ≤ k) pd pc pt ⟨im, [], none⟩ C ⟨im, [], none⟩ (.slice oa nl oc) (.slice la n lc) (.slice ya ny yc) (.slice an nl cn) (wh l) now (ins l us) (ins l us2) ∧ DK (fun k => x10.heap.size ≤ k) x12 ph ⟨wh l, (ins l us ++ ins l us2).map mkW, none⟩ ∧ RB x12 v im) := ⟨Q11.out.1.on hb, Q11.out.2.below hb, ho'.rb⟩
        obtain ⟨a12, c12, e12⟩ := ho'.form
        rw [HCL.out] at e12
        subst e12
        clear ho ho' hb Q11
        go_wp2_with fail
        refine (image Q12.out.1.t).mono ?_
        rintro e x13 ⟨v, rfl, ho, hb⟩
        have ho' : OW x12.heap.size x13 v (img im []) := ho
        rw [img_nil] at ho'
        have Q13 : Hid (G3 w x13 w4.heap.size w5.heap.size w6.heap.size w7.heap.size w17.heap.size (fun k => (w5.heap.size ≤ k ∧ k < w6.heap.size) ∨ w17.heap.size ≤ k) pd pc pt ⟨im, [], none⟩ C ⟨im, [], none⟩ (.slice oa nl oc) (.slice la n lc) (.slice ya ny yc) (.slice an nl cn) (wh l) now (ins l us) (ins l us2) ∧ DK (fun k => x10.heap.size ≤ k) x13 ph ⟨wh l, (ins l us ++ ins l us2).map mkW, none⟩ ∧ RB x13 (.slice a12 nl c12) im ∧ RB x13 v im) := ⟨Q12.out.1.on hb, Q12.out.2.1.below hb, Q12.out.2.2.keep hb, ho'.rb⟩
        obtain ⟨a13, c13, e13⟩ := ho'.form
        rw [HCL.out] at e13
        subst e13
        clear ho ho' hb Q12
        go_wp2_with fail
        refine (same _ _ im x13 (by rw [HCL.out]; omega) Q13.out.2.2.1 Q13.out.2.2.2).mono ?_
        rintro e x14 ⟨rfl, nqc, rfl⟩
        have Q14 : Hid (G3 w (x13.drewN nqc) w4.heap.size w5.heap.size w6.heap.size w7.heap.size w17.heap.size (fun k => (w5.heap.size ≤ k ∧ k < w6.heap.size) ∨ w17.heap.size ≤ k) pd pc pt ⟨im, [], none⟩ C ⟨im, [], none⟩ (.slice oa nl oc) (.slice la n lc) (.slice ya ny yc) (.slice an nl cn) (wh l) now (ins l us) (ins l us2) ∧ DK (fun k => x10.heap.size ≤ k) (x13.drewN nqc) ph ⟨wh l, (ins l us ++ ins l us2).map mkW, none⟩) := ⟨Q13.out.1.on (belowDrew x13 nqc), Q13.out.2.1.below (belowDrew x13 nqc)⟩
        clear Q13
        generalize x13.drewN nqc = x14 at *
        go_wp2_with fail
        refine (image Q14.out.1.c).mono ?_
        rintro e x15 ⟨v, rfl, ho, hb⟩
        have ho' : OW x14.heap.size x15 v (img (wh l) ((ins l us ++ ins l us2).map mkW)) := by rw [← HCI.out.1]; exact ho
        have HIZ : Hid ((img (wh l) ((ins l us ++ ins l us2).map mkW)).length = nl) := by show (img _ _).length = nl; rw [img_len]; exact HWL.out
        have Q15 : Hid (Below w.heap.size w x15 ∧ DK (fun k => x10.heap.size ≤ k) x15 ph ⟨wh l, (ins l us ++ ins l us2).map mkW, none⟩ ∧ RB x15 v (img (wh l) ((ins l us ++ ins l us2).map mkW))) := ⟨(Q14.out.1.on hb).f, Q14.out.2.below hb, ho'.rb⟩
        obtain ⟨a15, c15, e15⟩ := ho'.form
        rw [HIZ.out] at e15
        subst e15
        clear ho ho' hb Q14
        go_wp2_with fail
        refine (image Q15.out.2.1).mono ?_
        rintro e x16 ⟨v, rfl, ho, hb⟩
        have ho' : OW x15.heap.size x16 v (img (wh l) ((ins l us ++ ins l us2).map mkW)) := ho
        have Q16 : Hid (Below w.heap.size w x16 ∧ RB x16 (.slice a15 nl c15) (img (wh l) ((ins l us ++ ins l us2).map mkW)) ∧ RB x16 v (img (wh l) ((ins l us ++ ins l us2).map mkW))) := ⟨Q15.out.1.trans (hb.mono Q15.out.1.size), Q15.out.2.2.keep hb, ho'.rb⟩
        obtain ⟨a16, c16, e16⟩ := ho'.form
        rw [HIZ.out] at e16
        subst e16
        clear ho ho' hb Q15
        go_wp2_with fail
        refine (same _ _ _ x16 (by rw [HIZ.out]; omega) Q16.out.2.1 Q16.out.2.2).mono ?_
        rintro e x17 ⟨rfl, nqd, rfl⟩
        have Q17 : Hid (Below w.heap.size w (x16.drewN nqd)) := belowN Q16.out.1 nqd
        clear Q16
        generalize x16.drewN nqd = x17 at *
        go_wp2_with fail
        go_ret
        exact ⟨rfl, Q17.out⟩
      | true =>
        go_wp2_with fail
        refine (sync_live GA.out.c (by rw [HCI.out.2.2]; rfl)).mono ?_
        rintro e y1 ⟨rfl, hd, hf⟩
        have hS := GA.out.setC hd hf
        obtain ⟨C2, hC2⟩ : ∃ C2 : Dk, C2 = ⟨img C.last C.ws, [], burnt C.fu⟩ := ⟨_, rfl⟩
        rw [← hC2] at hS
        have HCI2 : Hid (img C2.last C2.ws = img (wh l) ((ins l us ++ ins l us2).map mkW) ∧ C2.last.length = nl ∧ C2.fu = none) := by
          rw [hC2]
          exact ⟨by rw [img_nil]; exact HCI.out.1, by rw [img_len]; exact HCI.out.2.1, by rw [HCI.out.2.2]; rfl⟩
        have GB := Lib.hid hS
        clear hS hC2 hd hf GA HCI
        go_wp2_with fail
        refine (image GB.out.d).mono ?_
        rintro e x1 ⟨v, rfl, ho, hb⟩
        have ho' : OW y1.heap.size x1 v now := by rw [← HNOW.out, ← HDL.out.1]; exact ho
        have Q1 : Hid (G3 w x1 w4.heap.size w5.heap.size w6.heap.size w7.heap.size w17.heap.size (fun k => (w5.heap.size ≤ k ∧ k < w6.heap.size) ∨ w17.heap.size ≤ k) pd pc pt D0 C2 D0 (.slice oa nl oc) (.slice la n lc) (.slice ya ny yc) (.slice an nl cn) (wh l) now (ins l us) (ins l us2) ∧ RB x1 v now) := ⟨GB.out.on hb, ho'.rb⟩
        obtain ⟨a1, c1, e1⟩ := ho'.form
        rw [HIL.out] at e1
        subst e1
        clear ho ho' hb GB
        go_wp2_with fail
        refine (same _ _ now x1 (by rw [HIL.out]; omega) Q1.out.2 Q1.out.1.n).mono ?_
        rintro e x2 ⟨rfl, nqa, rfl⟩
        have Q2 : Hid (G3 w (x1.drewN nqa) w4.heap.size w5.heap.size w6.heap.size w7.heap.size w17.heap.size (fun k => (w5.heap.size ≤ k ∧ k < w6.heap.size) ∨ w17.heap.size ≤ k) pd pc pt D0 C2 D0 (.slice oa nl oc) (.slice la n lc) (.slice ya ny yc) (.slice an nl cn) (wh l) now (ins l us) (ins l us2)) := Q1.out.1.on (belowDrew x1 nqa)
        clear Q1
        generalize x1.drewN nqa = x2 at *
        go_wp2_with fail
        refine (durable Q2.out.d).mono ?_
        rintro e x3 ⟨v, rfl, ho, hb⟩
        have ho' : OW x2.heap.size x3 v (wh l) := by rw [← HDL.out.1]; exact ho
        have Q3 : Hid (G3 w x3 w4.heap.size w5.heap.size w6.heap.size w7.heap.size w17.heap.size (fun k => (w5.heap.size ≤ k ∧ k < w6.heap.size) ∨ w17.heap.size ≤ k) pd pc pt D0 C2 D0 (.slice oa nl oc) (.slice la n lc) (.slice ya ny yc) (.slice an nl cn) (wh l) now (ins l us) (ins l us2) ∧ RB x3 v (wh l)) := ⟨Q2.out.on hb, ho'.rb⟩
        obtain ⟨a3, c3, e3⟩ := ho'.form
        rw [HWL.out] at e3
        subst e3
        clear ho ho' hb Q2
        go_wp2_with fail
        refine (same _ _ (wh l) x3 (by rw [HWL.out]; omega) Q3.out.2 Q3.out.1.o).mono ?_
        rintro e x4 ⟨rfl, nqb, rfl⟩
        have Q4 : Hid (G3 w (x3.drewN nqb) w4.heap.size w5.heap.size w6.heap.size w7.heap.size w17.heap.size (fun k => (w5.heap.size ≤ k ∧ k < w6.heap.size) ∨ w17.heap.size ≤ k) pd pc pt D0 C2 D0 (.slice oa nl oc) (.slice la n lc) (.slice ya ny yc) (.slice an nl cn) (wh l) now (ins l us) (ins l us2)) := Q3.out.1.on (belowDrew x3 nqb)
        clear Q3
        generalize x3.drewN nqb = x4 at *
        go_wp2_with fail
        refine (pending Q4.out.d (by have := HD0.out.1; omega)).mono ?_
        rintro e x5 ⟨v, rfl, ho, hb⟩
        obtain ⟨a5, c5, e5⟩ := ownsRow_form ho
        rw [HD0.out.2] at e5
        subst e5
        have Q5 : Hid (G3 w x5 w4.heap.size w5.heap.size w6.heap.size w7.heap.size w17.heap.size (fun k => (w5.heap.size ≤ k ∧ k < w6.heap.size) ∨ w17.heap.size ≤ k) pd pc pt D0 C2 D0 (.slice oa nl oc) (.slice la n lc) (.slice ya ny yc) (.slice an nl cn) (wh l) now (ins l us) (ins l us2)) := Q4.out.on hb
        clear ho hb Q4
        go_wp2_with fail
        refine (kept _ keep n x5 (HK.out.keep Q5.out.f) (by have := HKL.out; omega) (by omega)).mono ?_
        rintro e x6 ⟨kw, rfl, hko, b6⟩
        have Q6 := Lib.hid (Q5.out.on b6)
        have hkg : ∀ g, kw.ownBlock = some g → x5.heap.size ≤ g := fun g hg => by
          rcases hko.2 with ⟨e, _⟩ | ⟨g', _, _, e, h1, _⟩
          · rw [e] at hg; simp [Value.ownBlock] at hg
          · rw [e] at hg; simp [Value.ownBlock] at hg; omega
        have NC := Lib.hid (crash Q6.out.d kw (kp keep n) hko.rb (by rw [kp_len, HD0.out.2]) (fun g hg h => by have := hkg g hg; have := Q5.out.z; omega) (by have := HD0.out.1; omega) (-1) 0 (by omega) (by omega) (fun h => absurd rfl h))
        rw [if_pos rfl] at NC
        obtain ⟨ak, ck, ek⟩ := ownsRow_form hko
        rw [kp_len] at ek
        subst ek
        clear hko b6 hkg Q5
        go_wp2_with fail
        refine NC.out.mono ?_
        rintro e x7 ⟨rfl, hd, hf⟩
        have Q7 := Lib.hid (Q6.out.setD hd hf)
        clear hd hf NC Q6
        go_wp2_with fail
        refine (kept _ keep n x7 (HK.out.keep Q7.out.f) (by have := HKL.out; omega) (by omega)).mono ?_
        rintro e x8 ⟨kw, rfl, hko, b8⟩
        have Q8 := Lib.hid (Q7.out.on b8)
        have hkg : ∀ g, kw.ownBlock = some g → x7.heap.size ≤ g := fun g hg => by
          rcases hko.2 with ⟨e, _⟩ | ⟨g', _, _, e, h1, _⟩
          · rw [e] at hg; simp [Value.ownBlock] at hg
          · rw [e] at hg; simp [Value.ownBlock] at hg; omega
        have NC := Lib.hid (crash Q8.out.t kw (kp keep n) hko.rb (by rw [kp_len, HD0.out.2]) (fun g hg h => by have := hkg g hg; have := Q7.out.z; omega) (by have := HD0.out.1; omega) (-1) 0 (by omega) (by omega) (fun h => absurd rfl h))
        rw [if_pos rfl] at NC
        obtain ⟨ak2, ck2, ek2⟩ := ownsRow_form hko
        rw [kp_len] at ek2
        subst ek2
        clear hko b8 hkg Q7
        go_wp2_with fail
        refine NC.out.mono ?_
        rintro e x9 ⟨rfl, hd, hf⟩
        have Q9 := Lib.hid (Q8.out.setT hd hf)
        clear hd hf NC Q8
        have HCL : Hid ((crD (kp keep n) (-1) 0 D0.last D0.ws).length = nl) := by show (crD _ _ _ _ _).length = nl; rw [crD_len, HDL.out.1]; exact HWL.out
        generalize crD (kp keep n) (-1) 0 D0.last D0.ws = im at *
        have HXR : Hid (RWv x9 (.slice la n n) (ins l us) ∧ RWv x9 (.slice ya ny yc) (ins l us2) ∧ n ≤ lc ∧ (la = none → lc = 0 ∧ n = 0)) := by
          have hx : RWv x9 (.slice la n lc) (ins l us) := Q9.out.x.rw (fun u hu => ⟨(HR0.out.2 u (List.mem_filter.1 hu).1).1.keep Q9.out.f, (HR0.out.2 u (List.mem_filter.1 hu).1).2⟩)
          refine ⟨⟨?_, hx.2⟩, Q9.out.y.rw (fun u hu => ⟨(HM0.out.1.2 u (List.mem_filter.1 hu).1).1.keep Q9.out.f, (HM0.out.1.2 u (List.mem_filter.1 hu).1).2⟩), ?_, fun hla => ?_⟩
          · obtain ⟨a', c', e, hle, h⟩ := hx.1
            simp only [Value.slice.injEq] at e
            exact ⟨la, n, by rw [HNS.out], by rw [HNS.out]; exact Nat.le_refl _, by rw [e.1]; exact h⟩
          · obtain ⟨a', c', e, hle, h⟩ := hx.1
            simp only [Value.slice.injEq] at e
            rw [HNS.out] at hle
            omega
          · rcases Q9.out.x.2 with ⟨e, h0⟩ | ⟨g', c', cur, e, _⟩
            · simp only [Value.slice.injEq] at e
              rw [HNS.out] at h0
              exact ⟨e.2.2, h0⟩
            · simp only [Value.slice.injEq] at e
              rw [hla] at e
              cases e.1
        have hsl := fun u : World => slice_full la n lc HXR.out.2.2.1 (fun h => (HXR.out.2.2.2 h).1) u
        have HAP : Hid (∀ {ops : Array Oper} {rest : List Oper} {o : Oper} {a : Act} {Q : Exit → Act → World → Prop} (s' x : Operand), o.guard = none → o.op = .call { callee := .builtin .append, args := #[s', x], argTypes := #[23, 23] } → a.eval s' = .slice la n n → a.eval x = .slice ya ny yc →
            (∀ v' w', RWv w' v' (ins l us ++ ins l us2) → Below x9.heap.size x9 w' → wpList Try.prog ops Q rest (a.put o.dst v') w') → wpList Try.prog ops Q (o :: rest) a x9) :=
          fun s' x h1 h2 h3 h4 h5 => append_full h1 s' x h2 h3 h4 HNS.out HNY.out HXR.out.1 HXR.out.2.1 (fun h => (HXR.out.2.2.2 h).2) (by omega) h5
        clear HXR
        go_wp2_with (at_builtin; refine HAP.out _ _ rfl rfl rfl rfl ?_; intro v' x10 hv' b10)
        have HV : Hid (RWv x10 v' (ins l us ++ ins l us2)) := hv'
        obtain ⟨aa, ac, ea, _⟩ := hv'.1
        generalize (ins l us ++ ins l us2).length = nn at *
        subst ea
        have Q10 := Lib.hid (Q9.out.on b10)
        clear hv' b10 Q9 HAP hsl
        have hgd := wh_gd l
        refine (made _ _ (wh l) (ins l us ++ ins l us2) x10 Q10.out.o hgd.1 hgd.2.1 (by omega) HV.out (by rw [List.length_append, HNS.out, HNY.out]; have := HSUM.out; omega) (fun u hu => by
          rcases List.mem_append.1 hu with h | h
          · exact ins_in l us u h
          · exact ins_in l us2 u h)).mono ?_
        rintro e x11 ⟨ph, rfl, hdh, b11⟩
        have Q11 : Hid (G3 w x11 w4.heap.size w5.heap.size w6.heap.size w7.heap.size w17.heap.size (fun k => (w5.heap.size ≤ k ∧ k < w6.heap.size) ∨ w17.heap.size ≤ k) pd pc pt ⟨im, [], none⟩ C2 ⟨im, [], none⟩ (.slice oa nl oc) (.slice la n lc) (.slice ya ny yc) (.slice an nl cn) (wh l) now (ins l us) (ins l us2) ∧ DK (fun k => x10.heap.size ≤ k) x11 ph ⟨wh l, (ins l us ++ ins l us2).map mkW, none⟩) := ⟨Q10.out.on b11, hdh⟩
        clear hdh b11 Q10 HV hgd
        go_wp2_with fail
        refine (image Q11.out.1.d).mono ?_
        rintro e x12 ⟨v, rfl, ho, hb⟩
        have ho' : OW x11.heap.size x12 v (img im []) := ho
        rw [img_nil] at ho'
        have Q12 : Hid (G3 w x12 w4.heap.size w5.heap.size w6.heap.size w7.heap.size w17.heap.size (fun k => (w5.heap.size ≤ k ∧ k < w6.heap.size) ∨ w17.heap.size ≤ k) pd pc pt ⟨im, [], none⟩ C2 ⟨im, [], none⟩ (.slice oa nl oc) (.slice la n lc) (.slice ya ny yc) (.slice an nl cn) (wh l) now (ins l us) (ins l us2) ∧ DK (fun k => x10.heap.size ≤ k) x12 ph ⟨wh l, (ins l us ++ ins l us2).map mkW, none⟩ ∧ RB x12 v im) := ⟨Q11.out.1.on hb, Q11.out.2.below hb, ho'.rb⟩
        obtain ⟨a12, c12, e12⟩ := ho'.form
        rw [HCL.out] at e12
        subst e12
        clear ho ho' hb Q11
        go_wp2_with fail
        refine (image Q12.out.1.t).mono ?_
        rintro e x13 ⟨v, rfl, ho, hb⟩
        have ho' : OW x12.heap.size x13 v (img im []) := ho
        rw [img_nil] at ho'
        have Q13 : Hid (G3 w x13 w4.heap.size w5.heap.size w6.heap.size w7.heap.size w17.heap.size (fun k => (w5.heap.size ≤ k ∧ k < w6.heap.size) ∨ w17.heap.size ≤ k) pd pc pt ⟨im, [], none⟩ C2 ⟨im, [], none⟩ (.slice oa nl oc) (.slice la n lc) (.slice ya ny yc) (.slice an nl cn) (wh l) now (ins l us) (ins l us2) ∧ DK (fun k => x10.heap.size ≤ k) x13 ph ⟨wh l, (ins l us ++ ins l us2).map mkW, none⟩ ∧ RB x13 (.slice a12 nl c12) im ∧ RB x13 v im) := ⟨Q12.out.1.on hb, Q12.out.2.1.below hb, Q12.out.2.2.keep hb, ho'.rb⟩
        obtain ⟨a13, c13, e13⟩ := ho'.form
        rw [HCL.out] at e13
        subst e13
        clear ho ho' hb Q12
        go_wp2_with fail
        refine (same _ _ im x13 (by rw [HCL.out]; omega) Q13.out.2.2.1 Q13.out.2.2.2).mono ?_
        rintro e x14 ⟨rfl, nqc, rfl⟩
        have Q14 : Hid (G3 w (x13.drewN nqc) w4.heap.size w5.heap.size w6.heap.size w7.heap.size w17.heap.size (fun k => (w5.heap.size ≤ k ∧ k < w6.heap.size) ∨ w17.heap.size ≤ k) pd pc pt ⟨im, [], none⟩ C2 ⟨im, [], none⟩ (.slice oa nl oc) (.slice la n lc) (.slice ya ny yc) (.slice an nl cn) (wh l) now (ins l us) (ins l us2) ∧ DK (fun k => x10.heap.size ≤ k) (x13.drewN nqc) ph ⟨wh l, (ins l us ++ ins l us2).map mkW, none⟩) := ⟨Q13.out.1.on (belowDrew x13 nqc), Q13.out.2.1.below (belowDrew x13 nqc)⟩
        clear Q13
        generalize x13.drewN nqc = x14 at *
        go_wp2_with fail
        refine (image Q14.out.1.c).mono ?_
        rintro e x15 ⟨v, rfl, ho, hb⟩
        have ho' : OW x14.heap.size x15 v (img (wh l) ((ins l us ++ ins l us2).map mkW)) := by rw [← HCI2.out.1]; exact ho
        have HIZ : Hid ((img (wh l) ((ins l us ++ ins l us2).map mkW)).length = nl) := by show (img _ _).length = nl; rw [img_len]; exact HWL.out
        have Q15 : Hid (Below w.heap.size w x15 ∧ DK (fun k => x10.heap.size ≤ k) x15 ph ⟨wh l, (ins l us ++ ins l us2).map mkW, none⟩ ∧ RB x15 v (img (wh l) ((ins l us ++ ins l us2).map mkW))) := ⟨(Q14.out.1.on hb).f, Q14.out.2.below hb, ho'.rb⟩
        obtain ⟨a15, c15, e15⟩ := ho'.form
        rw [HIZ.out] at e15
        subst e15
        clear ho ho' hb Q14
        go_wp2_with fail
        refine (image Q15.out.2.1).mono ?_
        rintro e x16 ⟨v, rfl, ho, hb⟩
        have ho' : OW x15.heap.size x16 v (img (wh l) ((ins l us ++ ins l us2).map mkW)) := ho
        have Q16 : Hid (Below w.heap.size w x16 ∧ RB x16 (.slice a15 nl c15) (img (wh l) ((ins l us ++ ins l us2).map mkW)) ∧ RB x16 v (img (wh l) ((ins l us ++ ins l us2).map mkW))) := ⟨Q15.out.1.trans (hb.mono Q15.out.1.size), Q15.out.2.2.keep hb, ho'.rb⟩
        obtain ⟨a16, c16, e16⟩ := ho'.form
        rw [HIZ.out] at e16
        subst e16
        clear ho ho' hb Q15
        go_wp2_with fail
        refine (same _ _ _ x16 (by rw [HIZ.out]; omega) Q16.out.2.1 Q16.out.2.2).mono ?_
        rintro e x17 ⟨rfl, nqd, rfl⟩
        have Q17 : Hid (Below w.heap.size w (x16.drewN nqd)) := belowN Q16.out.1 nqd
        clear Q16
        generalize x16.drewN nqd = x17 at *
        go_wp2_with fail
        go_ret
        exact ⟨rfl, Q17.out⟩
end Go.Proofs.Ytjgioiljhefcbab
