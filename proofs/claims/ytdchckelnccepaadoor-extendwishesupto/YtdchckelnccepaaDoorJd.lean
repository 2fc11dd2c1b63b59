import Derived.Test.YtdchckelnccepaaDoorZB
import Derived.Test.YtdchckelnccepaaDoorZ8
namespace Go.Proofs.YtdchckelnccepaaDoor
open Go.RowKit Go.Deep
def WX (x : World) (H : Nat) (na ma : Option Addr) (nc mc n m : Nat) (sz qu : Int) (ag : ByteArray) : Prop := ow x H (.slice na n nc) (.int .i64 sz) (.int .i64 qu) (.string ag) (.slice ma m mc)
theorem WX.keep {x y : World} {H : Nat} {na ma : Option Addr} {nc mc n m : Nat} {sz qu : Int} {ag : ByteArray} (h : WX x H na ma nc mc n m sz qu ag) (hb : Below x.heap.size x y) : WX y H na ma nc mc n m sz qu ag := ow.keep h (hb.block _ (ow.lt h))
theorem sW_kt : ∀ {a b : List PE}, a.map kt = b.map kt → sW a = sW b
  | [], [], _ => rfl
  | [], _ :: _, h => by cases h
  | _ :: _, [], h => by cases h
  | e :: l, f :: m, h => by
    simp only [List.map_cons, List.cons.injEq] at h
    have e1 : e.key = f.key := congrArg Prod.fst h.1
    have e2 : e.t = f.t := congrArg Prod.snd h.1
    simp only [sW, gW, sW_kt h.2, e1, e2]
theorem Wok.congr {ns : List (ByteArray × Int)} {sz qu : Int} {ag : ByteArray} {es fs : List PE} (h : fs.map kt = es.map kt) (hk : Wok ns sz qu ag es) : Wok ns sz qu ag fs := by
  have hx : ∀ e ∈ fs, ∃ f ∈ es, f.key = e.key ∧ f.t = e.t := fun e he => kt_ex h he
  refine ⟨hk.nl, hk.nn, hk.fz, hk.fq, hk.fa, by rw [kt_len h]; exact hk.fl, fun e he => ?_, fun e he => ?_, fun e he => ?_, by rw [sW_kt h]; exact hk.fw⟩
  · obtain ⟨f, hf, e1, e2⟩ := hx e he
    rw [← e1, ← e2]; exact hk.fo f hf
  · obtain ⟨f, hf, e1, e2⟩ := hx e he
    rw [← e2]; exact hk.fi f hf
  · obtain ⟨f, hf, e1, e2⟩ := hx e he
    rw [← e2]; exact hk.fs f hf
theorem wsL_len (r : Bool) (t : T) : (wsL r t).length ≤ 140737488351232 := by
  unfold wsL
  split
  · rename_i h; omega
  · simp
set_option maxHeartbeats 8000000 in
set_option maxRecDepth 100000 in
theorem wishesLaw (na ma : Option Addr) (nc mc : Nat) (ns : List (ByteArray × Int)) (sz qu : Int) (ag : ByteArray) (es : List PE) (w : World) (h1 : RNs w (.slice na ns.length nc) ns) (h3 : RG w.heap.size w (.slice ma es.length mc) es)
    (hnl : ns.length ≤ 1048576) (hel : es.length ≤ 1048576) (heo : ∀ e ∈ es, e.key.size ≤ 140737488351232 ∧ e.t.ok) (hk : (∀ e ∈ es, e.t.small) → sW es ≤ 2147483647 → Wok ns sz qu ag es) (hT : TB w.heap.size w) :
    Calls Tryd.prog 3 #[.agg #[.slice na ns.length nc, .int .i64 sz, .int .i64 qu, .string ag, .slice ma es.length mc]] w fun e w' => e = .returned (.bool true) ∧ Below w.heap.size w w' := by
  have HN : Hid (RNs w (.slice na ns.length nc) ns ∧ RG w.heap.size w (.slice ma es.length mc) es ∧ TB w.heap.size w) := ⟨h1, h3, hT⟩
  have HK := Lib.hid hk
  have HO1 : Hid (∀ i, i < es.length → (kyG es i).size ≤ 140737488351232 ∧ (dvG es i).ok) := fun i hi => by rw [kyG_at hi, dvG_at hi]; exact heo _ (List.getElem_mem hi)
  have HLN : Hid (ns.length ≤ 1048576 ∧ es.length ≤ 1048576) := ⟨hnl, hel⟩
  clear h1 h3 hT hk hnl hel heo
  generalize hn1 : ns.length = n1 at *
  generalize hm1 : es.length = m1 at *
  have HL : Hid (ns.length = n1 ∧ es.length = m1) := ⟨hn1, hm1⟩
  clear hn1 hm1
  have HB0 : Hid (WX (w.alloc (.cells #[.slice na n1 nc, .int .i64 sz, .int .i64 qu, .string ag, .slice ma m1 mc] 25)) w.heap.size na ma nc mc n1 m1 sz qu ag ∧ Below w.heap.size w (w.alloc (.cells #[.slice na n1 nc, .int .i64 sz, .int .i64 qu, .string ag, .slice ma m1 mc] 25))) := ⟨heap_new _ _, (Below.refl _ _).alloc (Nat.le_refl _) _⟩
  go_enter Tryd.func3, Tryd.ntmps3
  go_upto_region 1 with fail
  generalize w.alloc (.cells #[.slice na n1 nc, .int .i64 sz, .int .i64 qu, .string ag, .slice ma m1 mc] 25) = w0 at *
  generalize hvb : w.heap.size = H at *
  have HS := Lib.hid hvb
  clear hvb
  have HR1 : Hid (∀ x, Below H w x → RD (fun _ => True) x m1 (kyG es) (dvG es) (.slice ma m1 mc)) := fun x hx => by have h9 := (rd_of_rg HN.out.2.1); rw [HL.out.2] at h9; exact h9.below (by rw [HS.out]; exact hx)
  obtain ⟨a0, a1, a2, a3, a4⟩ := ow.cells HB0.out.1
  have hsz0 := HB0.out.2.size
  go_wp2_with fail
  refine (Fw.far14w m1 (kyG es) (dvG es) (.slice ma m1 mc) w0 HO1.out (by have := HLN.out; omega) (HR1.out w0 HB0.out.2)).mono ?_
  rintro e w1 ⟨r, rfl, hb, hsm⟩
  have HB1 : Hid (WX w1 H na ma nc mc n1 m1 sz qu ag ∧ Below H w w1) := ⟨HB0.out.1.keep hb, HB0.out.2.trans (hb.mono (by have h9 := HB0.out.2.size; have h8 := HS.out; omega))⟩
  clear a0 a1 a2 a3 a4 hb HB0 hsz0
  cases r with
  | true =>
    clear hsm
    go_wp2
    go_ret
    exact ⟨rfl, by rw [HS.out]; exact HB1.out.2⟩
  | false =>
    have HS1 := Lib.hid (hsm rfl).1
    have HWK : Hid (Wok ns sz qu ag es) := HK.out (fun e he => by
      obtain ⟨i, hi, rfl⟩ := List.getElem_of_mem he
      rw [← dvG_at hi]
      exact HS1.out.2 i (by rw [← HL.out.2]; exact hi)) (by
      rw [← sumN_sW, HL.out.2]
      exact (hsm rfl).2)
    clear hsm HK
    obtain ⟨a0, a1, a2, a3, a4⟩ := ow.cells HB1.out.1
    have hwk : Below w.heap.size w w1 := by rw [HS.out]; exact HB1.out.2
    have HT := Lib.hid (twin15 w1 (.slice na n1 nc) sz qu ag (.slice ma m1 mc) ns m1 (kyG es) (dvG es) (HN.out.1.keep hwk) (by have := HLN.out; have := HL.out; omega) (fun i hi => ⟨(HO1.out i hi).2, HS1.out.2 i hi⟩) HS1.out.1 (HR1.out w1 HB1.out.2))
    clear hwk
    go_wp2_with fail
    refine HT.out.mono ?_
    rintro e w3 ⟨nv', yv', rfl, hn3, hd3, hb, hc3, hc3'⟩
    obtain ⟨fs, hfl, hfa, hfg⟩ := rg_of_rd hd3 hc3'
    obtain ⟨xa, xc, rfl, -⟩ := id hn3
    obtain ⟨xma, xmc, rfl, -⟩ := id hd3
    rw [HL.out.1] at hn3 hc3 ⊢
    have HF1 : Hid (fs.map kt = es.map kt ∧ fs.length = m1) := ⟨kt_of_at (by rw [hfl, HL.out.2]) (fun i hi => hfa i (by rw [← hfl]; exact hi)), hfl⟩
    have hw3 : H ≤ w1.heap.size := by have h9 := HB1.out.2.size; have h8 := HS.out; omega
    have b3' : Below w3.heap.size w3 (w3.alloc (.cells #[.slice xa n1 xc, .int .i64 sz, .int .i64 qu, .string ag, .slice xma m1 xmc] 25)) := (Below.refl _ _).alloc (Nat.le_refl _) _
    have HB3 : Hid (WX (w3.alloc (.cells #[.slice xa n1 xc, .int .i64 sz, .int .i64 qu, .string ag, .slice xma m1 xmc] 25)) H na ma nc mc n1 m1 sz qu ag ∧ Below H w (w3.alloc (.cells #[.slice xa n1 xc, .int .i64 sz, .int .i64 qu, .string ag, .slice xma m1 xmc] 25)) ∧ WX (w3.alloc (.cells #[.slice xa n1 xc, .int .i64 sz, .int .i64 qu, .string ag, .slice xma m1 xmc] 25)) w3.heap.size xa xma xc xmc n1 m1 sz qu ag ∧ RNs (w3.alloc (.cells #[.slice xa n1 xc, .int .i64 sz, .int .i64 qu, .string ag, .slice xma m1 xmc] 25)) (.slice xa n1 xc) ns ∧ RG (w3.alloc (.cells #[.slice xa n1 xc, .int .i64 sz, .int .i64 qu, .string ag, .slice xma m1 xmc] 25)).heap.size (w3.alloc (.cells #[.slice xa n1 xc, .int .i64 sz, .int .i64 qu, .string ag, .slice xma m1 xmc] 25)) (.slice xma m1 xmc) fs) :=
      ⟨(HB1.out.1.keep hb).keep b3', HB1.out.2.trans ((hb.trans (b3'.mono hb.size)).mono hw3), heap_new _ _, hn3.keep b3', (hfg.keep b3').mono b3'.size⟩
    clear a0 a1 a2 a3 a4 HB1 HT hb b3' hn3 hd3 hc3 hc3' hfl hfa hfg hw3
    go_upto_region 3 with fail
    generalize w3.alloc (.cells #[.slice xa n1 xc, .int .i64 sz, .int .i64 qu, .string ag, .slice xma m1 xmc] 25) = w4 at *
    generalize w3.heap.size = X at *
    have HTB : Hid (∀ x, Below H w x → TB x.heap.size x) := fun x hx => tb_any (w := w) (by rw [HS.out]; exact HN.out.2.2) (by rw [HS.out]; exact hx)
    obtain ⟨a0, a1, a2, a3, a4⟩ := ow.cells HB3.out.2.2.1
    have HE1 := Lib.hid (encode6 xa xma xc xmc ns sz qu ag fs w4 (by rw [HL.out.1]; exact HB3.out.2.2.2.1) (by rw [HF1.out.2]; exact HB3.out.2.2.2.2) (HWK.out.congr HF1.out.1) (HTB.out w4 HB3.out.2.1))
    rw [HL.out.1, HF1.out.2] at HE1
    go_wp2_with fail
    refine HE1.out.mono ?_
    rintro e w5 ⟨r1, hr1, va, vc, rfl, rb1, b5⟩
    have hw3 : H ≤ w4.heap.size := by have h9 := HB3.out.2.1.size; have h8 := HS.out; omega
    rw [TW_congr HF1.out.1] at rb1 ⊢
    have HR5 : Hid (r1 = true ↔ GW ns sz qu es) := hr1.trans ⟨GW_congr HF1.out.1, GW_congr HF1.out.1.symm⟩
    have HB5 : Hid (WX w5 H na ma nc mc n1 m1 sz qu ag ∧ Below H w w5 ∧ WX w5 X xa xma xc xmc n1 m1 sz qu ag ∧ RNs w5 (.slice xa n1 xc) ns ∧ RG w5.heap.size w5 (.slice xma m1 xmc) fs) :=
      ⟨HB3.out.1.keep b5, HB3.out.2.1.trans (b5.mono hw3), HB3.out.2.2.1.keep b5, HB3.out.2.2.2.1.keep b5, (HB3.out.2.2.2.2.keep b5).mono b5.size⟩
    have HL1 : Hid (Bs.RB w5 (.slice va (wsL r1 (TW ns sz qu ag es)).length vc) (wsL r1 (TW ns sz qu ag es))) := rb1
    clear a0 a1 a2 a3 a4 HB3 HE1 hr1 rb1 b5 hw3
    obtain ⟨a0, a1, a2, a3, a4⟩ := ow.cells HB5.out.1
    have hwk : Below w.heap.size w w5 := by rw [HS.out]; exact HB5.out.2.1
    have HE2 := Lib.hid (encode7r na ma nc mc ns sz qu ag es w5 (by rw [HL.out.1]; exact HN.out.1.keep hwk) (by rw [HL.out.2]; have h9 := HN.out.2.1; rw [← HS.out] at h9; exact (h9.keep hwk).mono hwk.size) HWK.out (HTB.out w5 HB5.out.2.1))
    rw [HL.out.1, HL.out.2] at HE2
    clear hwk
    go_wp2_with fail
    refine HE2.out.mono ?_
    rintro e w6 ⟨r2, hr2, ua, uc, rfl, rb2, b6⟩
    obtain rfl : r1 = r2 := Bool.eq_iff_iff.2 (HR5.out.trans hr2.symm)
    have hw3 : H ≤ w5.heap.size := by have h9 := HB5.out.2.1.size; have h8 := HS.out; omega
    have HB6 : Hid (WX w6 H na ma nc mc n1 m1 sz qu ag ∧ Below H w w6 ∧ WX w6 X xa xma xc xmc n1 m1 sz qu ag ∧ RNs w6 (.slice xa n1 xc) ns ∧ RG w6.heap.size w6 (.slice xma m1 xmc) fs) :=
      ⟨HB5.out.1.keep b6, HB5.out.2.1.trans (b6.mono hw3), HB5.out.2.2.1.keep b6, HB5.out.2.2.2.1.keep b6, (HB5.out.2.2.2.2.keep b6).mono b6.size⟩
    have HSB := Lib.hid (Bs.same _ _ (wsL r1 (TW ns sz qu ag es)) w6 (wsL_len _ _) (HL1.out.keep b6) rb2)
    clear a0 a1 a2 a3 a4 HB5 HE2 hr2 rb2 b6 hw3 HL1
    generalize (wsL r1 (TW ns sz qu ag es)).length = ll at *
    generalize wsN r1 (TW ns sz qu ag es) = en at *
    go_wp2_with fail
    refine HSB.out.mono ?_
    rintro e w7 ⟨rfl, nn, rfl⟩
    have hbn : Below w6.heap.size w6 (w6.drewN nn) := Bs.belowN (Below.refl _ _) nn
    have hw3 : H ≤ w6.heap.size := by have h9 := HB6.out.2.1.size; have h8 := HS.out; omega
    have HB7 : Hid (WX (w6.drewN nn) H na ma nc mc n1 m1 sz qu ag ∧ Below H w (w6.drewN nn) ∧ WX (w6.drewN nn) X xa xma xc xmc n1 m1 sz qu ag ∧ RNs (w6.drewN nn) (.slice xa n1 xc) ns ∧ RG (w6.drewN nn).heap.size (w6.drewN nn) (.slice xma m1 xmc) fs) :=
      ⟨HB6.out.1.keep hbn, HB6.out.2.1.trans (hbn.mono hw3), HB6.out.2.2.1.keep hbn, HB6.out.2.2.2.1.keep hbn, (HB6.out.2.2.2.2.keep hbn).mono hbn.size⟩
    clear hbn hw3 HB6 HSB
    obtain ⟨a0, a1, a2, a3, a4⟩ := ow.cells HB7.out.1
    obtain ⟨x0, x1, x2, x3, x4⟩ := ow.cells HB7.out.2.2.1
    have HSB := Lib.hid (same20 (w6.drewN nn) (.slice xa n1 xc) (.slice na n1 nc) sz qu ag (.slice xma m1 xmc) (.slice ma m1 mc) ns m1 (kyG es) (dvG es) HB7.out.2.2.2.1 (HN.out.1.keep (by rw [HS.out]; exact HB7.out.2.1)) (by have := HLN.out; have := HL.out; omega) (fun i hi => (HO1.out i hi).2) (by have := HLN.out; omega)
      (by have h9 := rd_of_rg HB7.out.2.2.2.2; rw [HF1.out.2] at h9; exact rd_congr h9 (fun i hi => kt_at HF1.out.1 i (by rw [HF1.out.2]; exact hi))) (HR1.out (w6.drewN nn) HB7.out.2.1))
    go_wp2_with fail
    refine HSB.out.mono ?_
    rintro e w8 ⟨rfl, hb⟩
    have HBZ : Hid (Below H w w8) := HB7.out.2.1.trans (hb.mono (by have h9 := HB7.out.2.1.size; have h8 := HS.out; omega))
    clear hb a0 a1 a2 a3 a4 x0 x1 x2 x3 x4 HSB HB7
    go_wp2
    go_ret
    exact ⟨rfl, by rw [HS.out]; exact HBZ.out⟩
end Go.Proofs.YtdchckelnccepaaDoor
