import Derived.Test.YtnjdopdlafcbgaaHm
import Derived.Test.YtnjdopdlafcbgaaHl
import Derived.Test.YtnjdopdlafcbgaaWw
namespace Go.Proofs.Ytnjdopdlafcbgaa
open Go.RowKit Go.Deep
/-- a wish in its box -/
def WX (x : World) (H : Nat) (na ma : Option Addr) (nc mc n m : Nat) (sz qu : Int) (ag : ByteArray) : Prop := ow x H (.slice na n nc) (.int .i64 sz) (.int .i64 qu) (.string ag) (.slice ma m mc)
theorem WX.keep {x y : World} {H : Nat} {na ma : Option Addr} {nc mc n m : Nat} {sz qu : Int} {ag : ByteArray} (h : WX x H na ma nc mc n m sz qu ag) (hb : Below x.heap.size x y) : WX y H na ma nc mc n m sz qu ag := ow.keep h (hb.block _ (ow.lt h))
/-- what is told of an answer of Merge -/
def MV (w' : World) (v : Value) (ns ns2 : List (ByteArray × Int)) (sz qu sz2 qu2 : Int) (ag ag2 : ByteArray) (es es2 : List PE) : Prop :=
  (¬ (GW ns sz qu es ∧ GW ns2 sz2 qu2 es2) ∧ v = .agg #[.slice none 0 0, .int .i64 0, .int .i64 0, .string ⟨#[]⟩, .slice none 0 0]) ∨ (GW ns sz qu es ∧ GW ns2 sz2 qu2 es2 ∧ ∃ nv s yv, v = .agg #[nv, .int .i64 (orI sz2 sz), .int .i64 (orI qu2 qu), .string s, yv] ∧ RNs w' nv (mgN ns ns2) ∧ s.toList = (orS ag2 ag).toList ∧ RD (fun _ => True) w' (mgP es es2).length (kyG (mgP es es2)) (dvG (mgP es es2)) yv)
theorem ks_of {a b : List PE} (h : a.map kt = b.map kt) {p : T → Prop} {q : ByteArray → Prop} (hp : ∀ e ∈ b, q e.key ∧ p e.t) : ∀ e ∈ a, q e.key ∧ p e.t := fun e he => by
  obtain ⟨f, hf, g1, g2⟩ := kt_ex h he
  rw [← g1, ← g2]
  exact hp f hf
theorem MV.form {w' : World} {v : Value} {ns ns2 : List (ByteArray × Int)} {sz qu sz2 qu2 : Int} {ag ag2 : ByteArray} {es es2 : List PE} (h : MV w' v ns ns2 sz qu sz2 qu2 ag ag2 es es2) : ∃ na n nc s t g ma m mc, v = .agg #[.slice na n nc, .int .i64 s, .int .i64 t, .string g, .slice ma m mc] := by
  rcases h with ⟨_, rfl⟩ | ⟨_, _, nv, s, yv, rfl, ⟨_, _, rfl, _⟩, _, ⟨_, _, rfl, _⟩⟩
  · exact ⟨_, _, _, _, _, _, _, _, _, rfl⟩
  · exact ⟨_, _, _, _, _, _, _, _, _, rfl⟩
/-- the two answers are told of one wish -/
theorem MV.meet {w1 w2 : World} {v1 v2 : Value} {ns ns2 : List (ByteArray × Int)} {sz qu sz2 qu2 : Int} {ag ag2 : ByteArray} {es es2 fs fs2 : List PE} (hb : Below w1.heap.size w1 w2) (h1 : MV w1 v1 ns ns2 sz qu sz2 qu2 ag ag2 fs fs2) (h2 : MV w2 v2 ns ns2 sz qu sz2 qu2 ag ag2 es es2) (e1 : fs.map kt = es.map kt) (e2 : fs2.map kt = es2.map kt)
    (hl : ns.length + ns2.length ≤ 140737488351232) (hl2 : es.length + es2.length ≤ 140737488351232) (hk : ∀ e ∈ es, e.t.ok) (hk2 : ∀ e ∈ es2, e.t.ok) :
    ∃ n1 n2 s t g y1 y2 N n ky dv, v1 = .agg #[n1, .int .i64 s, .int .i64 t, .string g, y1] ∧ v2 = .agg #[n2, .int .i64 s, .int .i64 t, .string g, y2] ∧ RNs w2 n1 N ∧ RNs w2 n2 N ∧ N.length ≤ 140737488351232 ∧ (∀ i, i < n → (dv i).ok) ∧ n ≤ 140737488351232 ∧ RD (fun _ => True) w2 n ky dv y1 ∧ RD (fun _ => True) w2 n ky dv y2 := by
  rcases h1 with ⟨g1, rfl⟩ | ⟨g1, g1', nv, s, yv, rfl, r1, r2, r3⟩
  · rcases h2 with ⟨_, rfl⟩ | ⟨g2, g2', _⟩
    · exact ⟨_, _, 0, 0, _, _, _, [], 0, fun _ => ⟨#[]⟩, fun _ => .no, rfl, rfl, ⟨_, _, rfl, .inl rfl⟩, ⟨_, _, rfl, .inl rfl⟩, Nat.zero_le _, fun i hi => absurd hi (Nat.not_lt_zero _), Nat.zero_le _, ⟨_, _, rfl, .inl rfl⟩, ⟨_, _, rfl, .inl rfl⟩⟩
    · exact absurd ⟨GW_congr e1.symm g2, GW_congr e2.symm g2'⟩ g1
  · rcases h2 with ⟨g2, _⟩ | ⟨_, _, nv', s', yv', rfl, q1, q2, q3⟩
    · exact absurd ⟨GW_congr e1 g1, GW_congr e2 g1'⟩ g2
    · obtain rfl : s = s' := str_ext (r2.trans q2.symm)
      have em := kt_mg e1 e2
      have el := kt_len em
      have hlen := mg_len ltN eqN ns ns2
      have hlen2 := mg_len ltP eqP es es2
      refine ⟨_, _, _, _, _, _, _, mgN ns ns2, (mgP es es2).length, kyG (mgP es es2), dvG (mgP es es2), rfl, rfl, r1.keep hb, q1, by unfold mgN; omega, fun i hi => ?_, by unfold mgP; omega, ?_, q3⟩
      · rw [dvG_at hi]
        exact (mg_mem _ _ _ _ _ (List.getElem_mem hi)).elim (hk _) (hk2 _)
      · rw [el] at r3
        exact (rd_congr r3 (fun i hi => kt_at em i (by omega))).below hb
set_option maxHeartbeats 8000000 in
set_option maxRecDepth 100000 in
theorem mergesLaw (na ma na2 ma2 : Option Addr) (nc mc nc2 mc2 : Nat) (ns ns2 : List (ByteArray × Int)) (sz qu sz2 qu2 : Int) (ag ag2 : ByteArray) (es es2 : List PE) (w : World) (h1 : RNs w (.slice na ns.length nc) ns) (h2 : RNs w (.slice na2 ns2.length nc2) ns2) (h3 : RG w.heap.size w (.slice ma es.length mc) es) (h4 : RG w.heap.size w (.slice ma2 es2.length mc2) es2)
    (c1 : capped (.slice na ns.length nc)) (c2 : capped (.slice na2 ns2.length nc2)) (c3 : capped (.slice ma es.length mc)) (c4 : capped (.slice ma2 es2.length mc2))
    (hl : ns.length ≤ 1048576 ∧ es.length ≤ 1048576 ∧ ns2.length ≤ 1048576 ∧ es2.length ≤ 1048576)
    (hk1 : (∀ x ∈ ns, x.1.size ≤ 140737488351232) ∧ ag.size ≤ 140737488351232 ∧ ∀ e ∈ es, e.key.size ≤ 140737488351232 ∧ e.t.ok) (hk2 : (∀ x ∈ ns2, x.1.size ≤ 140737488351232) ∧ ag2.size ≤ 140737488351232 ∧ ∀ e ∈ es2, e.key.size ≤ 140737488351232 ∧ e.t.ok) :
    Calls Try.prog 7 #[.agg #[.slice na ns.length nc, .int .i64 sz, .int .i64 qu, .string ag, .slice ma es.length mc], .agg #[.slice na2 ns2.length nc2, .int .i64 sz2, .int .i64 qu2, .string ag2, .slice ma2 es2.length mc2]] w fun e w' => e = .returned (.bool true) ∧ Below w.heap.size w w' := by
  have HC : Hid (capped (.slice na ns.length nc) ∧ capped (.slice na2 ns2.length nc2) ∧ capped (.slice ma es.length mc) ∧ capped (.slice ma2 es2.length mc2)) := ⟨c1, c2, c3, c4⟩
  have HN : Hid (RNs w (.slice na ns.length nc) ns ∧ RNs w (.slice na2 ns2.length nc2) ns2 ∧ RG w.heap.size w (.slice ma es.length mc) es ∧ RG w.heap.size w (.slice ma2 es2.length mc2) es2) := ⟨h1, h2, h3, h4⟩
  have HK : Hid ((∀ x ∈ ns, x.1.size ≤ 140737488351232) ∧ ag.size ≤ 140737488351232 ∧ ∀ e ∈ es, e.key.size ≤ 140737488351232 ∧ e.t.ok) := hk1
  have HK2 : Hid ((∀ x ∈ ns2, x.1.size ≤ 140737488351232) ∧ ag2.size ≤ 140737488351232 ∧ ∀ e ∈ es2, e.key.size ≤ 140737488351232 ∧ e.t.ok) := hk2
  have HO1 : Hid (∀ i, i < es.length → (kyG es i).size ≤ 140737488351232 ∧ (dvG es i).ok) := fun i hi => by rw [kyG_at hi, dvG_at hi]; exact hk1.2.2 _ (List.getElem_mem hi)
  have HO2 : Hid (∀ i, i < es2.length → (kyG es2 i).size ≤ 140737488351232 ∧ (dvG es2 i).ok) := fun i hi => by rw [kyG_at hi, dvG_at hi]; exact hk2.2.2 _ (List.getElem_mem hi)
  have HLN : Hid (ns.length ≤ 1048576 ∧ es.length ≤ 1048576 ∧ ns2.length ≤ 1048576 ∧ es2.length ≤ 1048576) := hl
  clear h1 h2 h3 h4 c1 c2 c3 c4 hk1 hk2 hl
  generalize hn1 : ns.length = n1 at *
  generalize hn2 : ns2.length = n2 at *
  generalize hm1 : es.length = m1 at *
  generalize hm2 : es2.length = m2 at *
  have HL : Hid (ns.length = n1 ∧ ns2.length = n2 ∧ es.length = m1 ∧ es2.length = m2) := ⟨hn1, hn2, hm1, hm2⟩
  clear hn1 hn2 hm1 hm2
  have b0 : Below w.heap.size w ((w.alloc (.cells #[.slice na n1 nc, .int .i64 sz, .int .i64 qu, .string ag, .slice ma m1 mc] 35)).alloc (.cells #[.slice na2 n2 nc2, .int .i64 sz2, .int .i64 qu2, .string ag2, .slice ma2 m2 mc2] 35)) := ((Below.refl _ _).alloc (Nat.le_refl _) _).alloc (by simp) _
  have HB0 : Hid (WX ((w.alloc (.cells #[.slice na n1 nc, .int .i64 sz, .int .i64 qu, .string ag, .slice ma m1 mc] 35)).alloc (.cells #[.slice na2 n2 nc2, .int .i64 sz2, .int .i64 qu2, .string ag2, .slice ma2 m2 mc2] 35)) w.heap.size na ma nc mc n1 m1 sz qu ag ∧ WX ((w.alloc (.cells #[.slice na n1 nc, .int .i64 sz, .int .i64 qu, .string ag, .slice ma m1 mc] 35)).alloc (.cells #[.slice na2 n2 nc2, .int .i64 sz2, .int .i64 qu2, .string ag2, .slice ma2 m2 mc2] 35)) (w.heap.size + 1) na2 ma2 nc2 mc2 n2 m2 sz2 qu2 ag2 ∧ Below w.heap.size w ((w.alloc (.cells #[.slice na n1 nc, .int .i64 sz, .int .i64 qu, .string ag, .slice ma m1 mc] 35)).alloc (.cells #[.slice na2 n2 nc2, .int .i64 sz2, .int .i64 qu2, .string ag2, .slice ma2 m2 mc2] 35))) := by
    refine ⟨?_, ?_, b0⟩
    · exact (Below.heap_alloc _ _ _ (by simp)).trans (heap_new _ _)
    · have := heap_new (w.alloc (.cells #[.slice na n1 nc, .int .i64 sz, .int .i64 qu, .string ag, .slice ma m1 mc] 35)) (.cells #[.slice na2 n2 nc2, .int .i64 sz2, .int .i64 qu2, .string ag2, .slice ma2 m2 mc2] 35)
      simpa [WX, ow] using this
  clear b0
  go_enter Try.func7, Try.ntmps7
  go_upto_region 1 with fail
  generalize ((w.alloc (.cells #[.slice na n1 nc, .int .i64 sz, .int .i64 qu, .string ag, .slice ma m1 mc] 35)).alloc (.cells #[.slice na2 n2 nc2, .int .i64 sz2, .int .i64 qu2, .string ag2, .slice ma2 m2 mc2] 35)) = w0 at *
  generalize hvb : w.heap.size = H at *
  have HS := Lib.hid hvb
  clear hvb
  have HR1 : Hid (∀ x, Below H w x → RD (fun _ => True) x m1 (kyG es) (dvG es) (.slice ma m1 mc)) := fun x hx => by have h9 := (rd_of_rg HN.out.2.2.1); rw [HL.out.2.2.1] at h9; exact h9.below (by rw [HS.out]; exact hx)
  have HR2 : Hid (∀ x, Below H w x → RD (fun _ => True) x m2 (kyG es2) (dvG es2) (.slice ma2 m2 mc2)) := fun x hx => by have h9 := (rd_of_rg HN.out.2.2.2); rw [HL.out.2.2.2] at h9; exact h9.below (by rw [HS.out]; exact hx)
  obtain ⟨a0, a1, a2, a3, a4⟩ := ow.cells HB0.out.1
  obtain ⟨b0, b1, b2, b3, b4⟩ := ow.cells HB0.out.2.1
  have hsz0 := HB0.out.2.2.size
  go_wp2_with fail
  refine (far14 m1 (kyG es) (dvG es) (.slice ma m1 mc) w0 HO1.out (by have := HLN.out; omega) (HR1.out w0 HB0.out.2.2)).mono ?_
  rintro e w1 ⟨r, rfl, hb, hsm⟩
  have HB1 : Hid (WX w1 H na ma nc mc n1 m1 sz qu ag ∧ WX w1 (H + 1) na2 ma2 nc2 mc2 n2 m2 sz2 qu2 ag2 ∧ Below H w w1) := ⟨HB0.out.1.keep hb, HB0.out.2.1.keep hb, HB0.out.2.2.trans (hb.mono (by have h9 := HB0.out.2.2.size; have h8 := HS.out; omega))⟩
  clear a0 a1 a2 a3 a4 b0 b1 b2 b3 b4 hb HB0 hsz0
  cases r with
  | true =>
    clear hsm
    go_wp2
    go_ret
    exact ⟨rfl, by rw [HS.out]; exact HB1.out.2.2⟩
  | false =>
    have HS1 := Lib.hid (hsm rfl)
    clear hsm
    obtain ⟨a0, a1, a2, a3, a4⟩ := ow.cells HB1.out.1
    obtain ⟨b0, b1, b2, b3, b4⟩ := ow.cells HB1.out.2.1
    go_wp2_with fail
    refine (far14 m2 (kyG es2) (dvG es2) (.slice ma2 m2 mc2) w1 HO2.out (by have := HLN.out; omega) (HR2.out w1 HB1.out.2.2)).mono ?_
    rintro e w2 ⟨r, rfl, hb, hsm⟩
    have HB2 : Hid (WX w2 H na ma nc mc n1 m1 sz qu ag ∧ WX w2 (H + 1) na2 ma2 nc2 mc2 n2 m2 sz2 qu2 ag2 ∧ Below H w w2) := ⟨HB1.out.1.keep hb, HB1.out.2.1.keep hb, HB1.out.2.2.trans (hb.mono (by have h9 := HB1.out.2.2.size; have h8 := HS.out; omega))⟩
    clear a0 a1 a2 a3 a4 b0 b1 b2 b3 b4 hb HB1
    cases r with
    | true =>
      clear hsm
      go_wp2
      go_ret
      exact ⟨rfl, by rw [HS.out]; exact HB2.out.2.2⟩
    | false =>
      have HS2 := Lib.hid (hsm rfl)
      clear hsm
      obtain ⟨a0, a1, a2, a3, a4⟩ := ow.cells HB2.out.1
      obtain ⟨b0, b1, b2, b3, b4⟩ := ow.cells HB2.out.2.1
      have hwk : Below w.heap.size w w2 := by rw [HS.out]; exact HB2.out.2.2
      have HT := Lib.hid (twin15 w2 (.slice na n1 nc) sz qu ag (.slice ma m1 mc) ns m1 (kyG es) (dvG es) (HN.out.1.keep hwk) (by have := HLN.out; have := HL.out; omega) (fun i hi => ⟨(HO1.out i hi).2, HS1.out.2 i hi⟩) HS1.out.1 (HR1.out w2 HB2.out.2.2))
      clear hwk
      go_wp2_with fail
      refine HT.out.mono ?_
      rintro e w3 ⟨nv', yv', rfl, hn3, hd3, hb, hc3, hc3'⟩
      obtain ⟨fs, hfl, hfa, hfg⟩ := rg_of_rd hd3 hc3'
      obtain ⟨xa, xc, rfl, -⟩ := id hn3
      obtain ⟨xma, xmc, rfl, -⟩ := id hd3
      rw [HL.out.1] at hn3 hc3 ⊢
      have HF1 : Hid (fs.map kt = es.map kt ∧ fs.length = m1) := ⟨kt_of_at (by rw [hfl, HL.out.2.2.1]) (fun i hi => hfa i (by rw [← hfl]; exact hi)), hfl⟩
      have hw3 : H ≤ w2.heap.size := by have h9 := HB2.out.2.2.size; have h8 := HS.out; omega
      have b3' : Below w3.heap.size w3 (w3.alloc (.cells #[.slice xa n1 xc, .int .i64 sz, .int .i64 qu, .string ag, .slice xma m1 xmc] 35)) := (Below.refl _ _).alloc (Nat.le_refl _) _
      have HB3 : Hid (WX (w3.alloc (.cells #[.slice xa n1 xc, .int .i64 sz, .int .i64 qu, .string ag, .slice xma m1 xmc] 35)) H na ma nc mc n1 m1 sz qu ag ∧ WX (w3.alloc (.cells #[.slice xa n1 xc, .int .i64 sz, .int .i64 qu, .string ag, .slice xma m1 xmc] 35)) (H + 1) na2 ma2 nc2 mc2 n2 m2 sz2 qu2 ag2 ∧ Below H w (w3.alloc (.cells #[.slice xa n1 xc, .int .i64 sz, .int .i64 qu, .string ag, .slice xma m1 xmc] 35)) ∧ WX (w3.alloc (.cells #[.slice xa n1 xc, .int .i64 sz, .int .i64 qu, .string ag, .slice xma m1 xmc] 35)) w3.heap.size xa xma xc xmc n1 m1 sz qu ag ∧ RNs (w3.alloc (.cells #[.slice xa n1 xc, .int .i64 sz, .int .i64 qu, .string ag, .slice xma m1 xmc] 35)) (.slice xa n1 xc) ns ∧ RG (w3.alloc (.cells #[.slice xa n1 xc, .int .i64 sz, .int .i64 qu, .string ag, .slice xma m1 xmc] 35)).heap.size (w3.alloc (.cells #[.slice xa n1 xc, .int .i64 sz, .int .i64 qu, .string ag, .slice xma m1 xmc] 35)) (.slice xma m1 xmc) fs ∧ capped (.slice xa n1 xc) ∧ capped (.slice xma m1 xmc)) :=
        ⟨(HB2.out.1.keep hb).keep b3', (HB2.out.2.1.keep hb).keep b3', HB2.out.2.2.trans ((hb.trans (b3'.mono hb.size)).mono hw3), heap_new _ _, hn3.keep b3', (hfg.keep b3').mono b3'.size, hc3, hc3'⟩
      clear a0 a1 a2 a3 a4 b0 b1 b2 b3 b4 HB2 HT hb b3' hn3 hd3 hc3 hc3' hfl hfa hfg hw3
      go_upto_region 4 with fail
      generalize w3.alloc (.cells #[.slice xa n1 xc, .int .i64 sz, .int .i64 qu, .string ag, .slice xma m1 xmc] 35) = w4 at *
      generalize w3.heap.size = X at *
      obtain ⟨a0, a1, a2, a3, a4⟩ := ow.cells HB3.out.1
      obtain ⟨b0, b1, b2, b3, b4⟩ := ow.cells HB3.out.2.1
      have hwk : Below w.heap.size w w4 := by rw [HS.out]; exact HB3.out.2.2.1
      have HT := Lib.hid (twin15 w4 (.slice na2 n2 nc2) sz2 qu2 ag2 (.slice ma2 m2 mc2) ns2 m2 (kyG es2) (dvG es2) (HN.out.2.1.keep hwk) (by have := HLN.out; have := HL.out; omega) (fun i hi => ⟨(HO2.out i hi).2, HS2.out.2 i hi⟩) HS2.out.1 (HR2.out w4 HB3.out.2.2.1))
      clear hwk
      go_wp2_with fail
      refine HT.out.mono ?_
      rintro e w5 ⟨nv', yv', rfl, hn3, hd3, hb, hc3, hc3'⟩
      obtain ⟨fs2, hfl, hfa, hfg⟩ := rg_of_rd hd3 hc3'
      obtain ⟨ya, yc, rfl, -⟩ := id hn3
      obtain ⟨yma, ymc, rfl, -⟩ := id hd3
      rw [HL.out.2.1] at hn3 hc3 ⊢
      have HF2 : Hid (fs2.map kt = es2.map kt ∧ fs2.length = m2) := ⟨kt_of_at (by rw [hfl, HL.out.2.2.2]) (fun i hi => hfa i (by rw [← hfl]; exact hi)), hfl⟩
      have hw3 : H ≤ w4.heap.size := by have h9 := HB3.out.2.2.1.size; have h8 := HS.out; omega
      have b3' : Below w5.heap.size w5 (w5.alloc (.cells #[.slice ya n2 yc, .int .i64 sz2, .int .i64 qu2, .string ag2, .slice yma m2 ymc] 35)) := (Below.refl _ _).alloc (Nat.le_refl _) _
      have bb : Below w4.heap.size w4 (w5.alloc (.cells #[.slice ya n2 yc, .int .i64 sz2, .int .i64 qu2, .string ag2, .slice yma m2 ymc] 35)) := hb.trans (b3'.mono hb.size)
      have HB5 : Hid (WX (w5.alloc (.cells #[.slice ya n2 yc, .int .i64 sz2, .int .i64 qu2, .string ag2, .slice yma m2 ymc] 35)) H na ma nc mc n1 m1 sz qu ag ∧ WX (w5.alloc (.cells #[.slice ya n2 yc, .int .i64 sz2, .int .i64 qu2, .string ag2, .slice yma m2 ymc] 35)) (H + 1) na2 ma2 nc2 mc2 n2 m2 sz2 qu2 ag2 ∧ Below H w (w5.alloc (.cells #[.slice ya n2 yc, .int .i64 sz2, .int .i64 qu2, .string ag2, .slice yma m2 ymc] 35)) ∧ WX (w5.alloc (.cells #[.slice ya n2 yc, .int .i64 sz2, .int .i64 qu2, .string ag2, .slice yma m2 ymc] 35)) X xa xma xc xmc n1 m1 sz qu ag ∧ RNs (w5.alloc (.cells #[.slice ya n2 yc, .int .i64 sz2, .int .i64 qu2, .string ag2, .slice yma m2 ymc] 35)) (.slice xa n1 xc) ns ∧ RG (w5.alloc (.cells #[.slice ya n2 yc, .int .i64 sz2, .int .i64 qu2, .string ag2, .slice yma m2 ymc] 35)).heap.size (w5.alloc (.cells #[.slice ya n2 yc, .int .i64 sz2, .int .i64 qu2, .string ag2, .slice yma m2 ymc] 35)) (.slice xma m1 xmc) fs ∧ capped (.slice xa n1 xc) ∧ capped (.slice xma m1 xmc)) :=
        ⟨HB3.out.1.keep bb, HB3.out.2.1.keep bb, HB3.out.2.2.1.trans (bb.mono hw3), HB3.out.2.2.2.1.keep bb, HB3.out.2.2.2.2.1.keep bb, (HB3.out.2.2.2.2.2.1.keep bb).mono bb.size, HB3.out.2.2.2.2.2.2⟩
      have HY5 : Hid (WX (w5.alloc (.cells #[.slice ya n2 yc, .int .i64 sz2, .int .i64 qu2, .string ag2, .slice yma m2 ymc] 35)) w5.heap.size ya yma yc ymc n2 m2 sz2 qu2 ag2 ∧ RNs (w5.alloc (.cells #[.slice ya n2 yc, .int .i64 sz2, .int .i64 qu2, .string ag2, .slice yma m2 ymc] 35)) (.slice ya n2 yc) ns2 ∧ RG (w5.alloc (.cells #[.slice ya n2 yc, .int .i64 sz2, .int .i64 qu2, .string ag2, .slice yma m2 ymc] 35)).heap.size (w5.alloc (.cells #[.slice ya n2 yc, .int .i64 sz2, .int .i64 qu2, .string ag2, .slice yma m2 ymc] 35)) (.slice yma m2 ymc) fs2 ∧ capped (.slice ya n2 yc) ∧ capped (.slice yma m2 ymc)) := ⟨heap_new _ _, hn3.keep b3', (hfg.keep b3').mono b3'.size, hc3, hc3'⟩
      clear a0 a1 a2 a3 a4 b0 b1 b2 b3 b4 HB3 HT hb b3' bb hn3 hd3 hc3 hc3' hfl hfa hfg hw3
      go_upto_region 5 with fail
      generalize w5.alloc (.cells #[.slice ya n2 yc, .int .i64 sz2, .int .i64 qu2, .string ag2, .slice yma m2 ymc] 35) = w6 at *
      generalize w5.heap.size = Y at *
      obtain ⟨a0, a1, a2, a3, a4⟩ := ow.cells HB5.out.2.2.2.1
      obtain ⟨b0, b1, b2, b3, b4⟩ := ow.cells HY5.out.1
      have HMG := Lib.hid (Merge22 xa xma ya yma xc xmc yc ymc ns ns2 sz qu sz2 qu2 ag ag2 fs fs2 w6 (by rw [HL.out.1]; exact HB5.out.2.2.2.2.1) (by rw [HL.out.2.1]; exact HY5.out.2.1) (by rw [HF1.out.2]; exact HB5.out.2.2.2.2.2.1) (by rw [HF2.out.2]; exact HY5.out.2.2.1)
        (by rw [HL.out.1]; exact HB5.out.2.2.2.2.2.2.1) (by rw [HL.out.2.1]; exact HY5.out.2.2.2.1) (by rw [HF1.out.2]; exact HB5.out.2.2.2.2.2.2.2) (by rw [HF2.out.2]; exact HY5.out.2.2.2.2) (by have := HLN.out; have := HL.out; have := HF1.out.2; omega) (by have := HLN.out; have := HL.out; have := HF2.out.2; omega)
        ⟨HK.out.1, HK.out.2.1, ks_of HF1.out.1 (p := T.ok) (q := fun k => k.size ≤ 140737488351232) HK.out.2.2⟩ ⟨HK2.out.1, HK2.out.2.1, ks_of HF2.out.1 (p := T.ok) (q := fun k => k.size ≤ 140737488351232) HK2.out.2.2⟩
        (fun e he => (ks_of HF1.out.1 (p := T.small) (q := fun _ => True) (fun e he => ⟨trivial, by obtain ⟨i, hi, rfl⟩ := List.getElem_of_mem he; rw [← dvG_at hi]; exact HS1.out.2 i (by rw [← HL.out.2.2.1]; exact hi)⟩) e he).2) (fun e he => (ks_of HF2.out.1 (p := T.small) (q := fun _ => True) (fun e he => ⟨trivial, by obtain ⟨i, hi, rfl⟩ := List.getElem_of_mem he; rw [← dvG_at hi]; exact HS2.out.2 i (by rw [← HL.out.2.2.2]; exact hi)⟩) e he).2))
      rw [HL.out.1, HL.out.2.1, HF1.out.2, HF2.out.2] at HMG
      go_wp2_with fail
      refine HMG.out.mono ?_
      rintro e w7 ⟨v, rfl, hb, hmv⟩
      have HMV : Hid (MV w7 v ns ns2 sz qu sz2 qu2 ag ag2 fs fs2) := hmv
      obtain ⟨pa, pn, pc, ps, pt, pg, pma, pm, pmc, rfl⟩ := HMV.out.form
      have hw3 : H ≤ w6.heap.size := by have h9 := HB5.out.2.2.1.size; have h8 := HS.out; omega
      have b3' : Below w7.heap.size w7 (w7.alloc (.cells #[.slice pa pn pc, .int .i64 ps, .int .i64 pt, .string pg, .slice pma pm pmc] 35)) := (Below.refl _ _).alloc (Nat.le_refl _) _
      have bb : Below w6.heap.size w6 (w7.alloc (.cells #[.slice pa pn pc, .int .i64 ps, .int .i64 pt, .string pg, .slice pma pm pmc] 35)) := hb.trans (b3'.mono hb.size)
      have HB7 : Hid (WX (w7.alloc (.cells #[.slice pa pn pc, .int .i64 ps, .int .i64 pt, .string pg, .slice pma pm pmc] 35)) H na ma nc mc n1 m1 sz qu ag ∧ WX (w7.alloc (.cells #[.slice pa pn pc, .int .i64 ps, .int .i64 pt, .string pg, .slice pma pm pmc] 35)) (H + 1) na2 ma2 nc2 mc2 n2 m2 sz2 qu2 ag2 ∧ Below H w (w7.alloc (.cells #[.slice pa pn pc, .int .i64 ps, .int .i64 pt, .string pg, .slice pma pm pmc] 35)) ∧ WX (w7.alloc (.cells #[.slice pa pn pc, .int .i64 ps, .int .i64 pt, .string pg, .slice pma pm pmc] 35)) X xa xma xc xmc n1 m1 sz qu ag ∧ RNs (w7.alloc (.cells #[.slice pa pn pc, .int .i64 ps, .int .i64 pt, .string pg, .slice pma pm pmc] 35)) (.slice xa n1 xc) ns ∧ RG (w7.alloc (.cells #[.slice pa pn pc, .int .i64 ps, .int .i64 pt, .string pg, .slice pma pm pmc] 35)).heap.size (w7.alloc (.cells #[.slice pa pn pc, .int .i64 ps, .int .i64 pt, .string pg, .slice pma pm pmc] 35)) (.slice xma m1 xmc) fs) :=
        ⟨HB5.out.1.keep bb, HB5.out.2.1.keep bb, HB5.out.2.2.1.trans (bb.mono hw3), HB5.out.2.2.2.1.keep bb, HB5.out.2.2.2.2.1.keep bb, (HB5.out.2.2.2.2.2.1.keep bb).mono bb.size⟩
      have HY7 : Hid (WX (w7.alloc (.cells #[.slice pa pn pc, .int .i64 ps, .int .i64 pt, .string pg, .slice pma pm pmc] 35)) Y ya yma yc ymc n2 m2 sz2 qu2 ag2 ∧ RNs (w7.alloc (.cells #[.slice pa pn pc, .int .i64 ps, .int .i64 pt, .string pg, .slice pma pm pmc] 35)) (.slice ya n2 yc) ns2 ∧ RG (w7.alloc (.cells #[.slice pa pn pc, .int .i64 ps, .int .i64 pt, .string pg, .slice pma pm pmc] 35)).heap.size (w7.alloc (.cells #[.slice pa pn pc, .int .i64 ps, .int .i64 pt, .string pg, .slice pma pm pmc] 35)) (.slice yma m2 ymc) fs2) := ⟨HY5.out.1.keep bb, HY5.out.2.1.keep bb, (HY5.out.2.2.1.keep bb).mono bb.size⟩
      have HP7 : Hid (WX (w7.alloc (.cells #[.slice pa pn pc, .int .i64 ps, .int .i64 pt, .string pg, .slice pma pm pmc] 35)) w7.heap.size pa pma pc pmc pn pm ps pt pg ∧ Below w7.heap.size w7 (w7.alloc (.cells #[.slice pa pn pc, .int .i64 ps, .int .i64 pt, .string pg, .slice pma pm pmc] 35))) := ⟨heap_new _ _, b3'⟩
      clear a0 a1 a2 a3 a4 b0 b1 b2 b3 b4 HB5 HY5 HMG hb b3' bb hmv hw3
      go_upto_region 6 with fail
      generalize w7.alloc (.cells #[.slice pa pn pc, .int .i64 ps, .int .i64 pt, .string pg, .slice pma pm pmc] 35) = w8 at *
      generalize hWW : w7.heap.size = W at *
      have HWW := Lib.hid hWW
      clear hWW
      obtain ⟨a0, a1, a2, a3, a4⟩ := ow.cells HB7.out.1
      obtain ⟨b0, b1, b2, b3, b4⟩ := ow.cells HB7.out.2.1
      have hwk : Below w.heap.size w w8 := by rw [HS.out]; exact HB7.out.2.2.1
      have HMG := Lib.hid (Merge24 na ma na2 ma2 nc mc nc2 mc2 ns ns2 sz qu sz2 qu2 ag ag2 es es2 w8 (by rw [HL.out.1]; exact HN.out.1.keep hwk) (by rw [HL.out.2.1]; exact HN.out.2.1.keep hwk) (by rw [HL.out.2.2.1]; have h9 := HN.out.2.2.1; rw [← HS.out] at h9; exact (h9.keep hwk).mono hwk.size) (by rw [HL.out.2.2.2]; have h9 := HN.out.2.2.2; rw [← HS.out] at h9; exact (h9.keep hwk).mono hwk.size)
        (by rw [HL.out.1]; exact HC.out.1) (by rw [HL.out.2.1]; exact HC.out.2.1) (by rw [HL.out.2.2.1]; exact HC.out.2.2.1) (by rw [HL.out.2.2.2]; exact HC.out.2.2.2) (by have := HLN.out; have := HL.out; omega) (by have := HLN.out; have := HL.out; omega)
        HK.out HK2.out (fun e he => by obtain ⟨i, hi, rfl⟩ := List.getElem_of_mem he; rw [← dvG_at hi]; exact HS1.out.2 i (by rw [← HL.out.2.2.1]; exact hi)) (fun e he => by obtain ⟨i, hi, rfl⟩ := List.getElem_of_mem he; rw [← dvG_at hi]; exact HS2.out.2 i (by rw [← HL.out.2.2.2]; exact hi)))
      rw [HL.out.1, HL.out.2.1, HL.out.2.2.1, HL.out.2.2.2] at HMG
      clear hwk
      go_wp2_with fail
      refine HMG.out.mono ?_
      rintro e w9 ⟨v, rfl, hb, hmv⟩
      have HMW : Hid (MV w9 v ns ns2 sz qu sz2 qu2 ag ag2 es es2) := hmv
      have HME := Lib.hid (HMV.out.meet (by rw [HWW.out]; exact HP7.out.2.trans (hb.mono (by rw [← HWW.out]; exact HP7.out.2.size))) HMW.out HF1.out.1 HF2.out.1 (by have := HLN.out; have := HL.out; omega) (by have := HLN.out; have := HL.out; omega) (fun e he => (HK.out.2.2 e he).2) (fun e he => (HK2.out.2.2 e he).2))
      obtain ⟨qa, qn, qc, qs, qt, qg, qma, qm, qmc, rfl⟩ := HMW.out.form
      have hw3 : H ≤ w8.heap.size := by have h9 := HB7.out.2.2.1.size; have h8 := HS.out; omega
      have b3' : Below w9.heap.size w9 (w9.alloc (.cells #[.slice qa qn qc, .int .i64 qs, .int .i64 qt, .string qg, .slice qma qm qmc] 35)) := (Below.refl _ _).alloc (Nat.le_refl _) _
      have bb : Below w8.heap.size w8 (w9.alloc (.cells #[.slice qa qn qc, .int .i64 qs, .int .i64 qt, .string qg, .slice qma qm qmc] 35)) := hb.trans (b3'.mono hb.size)
      have HB9 : Hid (WX (w9.alloc (.cells #[.slice qa qn qc, .int .i64 qs, .int .i64 qt, .string qg, .slice qma qm qmc] 35)) H na ma nc mc n1 m1 sz qu ag ∧ WX (w9.alloc (.cells #[.slice qa qn qc, .int .i64 qs, .int .i64 qt, .string qg, .slice qma qm qmc] 35)) (H + 1) na2 ma2 nc2 mc2 n2 m2 sz2 qu2 ag2 ∧ Below H w (w9.alloc (.cells #[.slice qa qn qc, .int .i64 qs, .int .i64 qt, .string qg, .slice qma qm qmc] 35)) ∧ WX (w9.alloc (.cells #[.slice qa qn qc, .int .i64 qs, .int .i64 qt, .string qg, .slice qma qm qmc] 35)) X xa xma xc xmc n1 m1 sz qu ag ∧ RNs (w9.alloc (.cells #[.slice qa qn qc, .int .i64 qs, .int .i64 qt, .string qg, .slice qma qm qmc] 35)) (.slice xa n1 xc) ns ∧ RG (w9.alloc (.cells #[.slice qa qn qc, .int .i64 qs, .int .i64 qt, .string qg, .slice qma qm qmc] 35)).heap.size (w9.alloc (.cells #[.slice qa qn qc, .int .i64 qs, .int .i64 qt, .string qg, .slice qma qm qmc] 35)) (.slice xma m1 xmc) fs) :=
        ⟨HB7.out.1.keep bb, HB7.out.2.1.keep bb, HB7.out.2.2.1.trans (bb.mono hw3), HB7.out.2.2.2.1.keep bb, HB7.out.2.2.2.2.1.keep bb, (HB7.out.2.2.2.2.2.keep bb).mono bb.size⟩
      have HY9 : Hid (WX (w9.alloc (.cells #[.slice qa qn qc, .int .i64 qs, .int .i64 qt, .string qg, .slice qma qm qmc] 35)) Y ya yma yc ymc n2 m2 sz2 qu2 ag2 ∧ RNs (w9.alloc (.cells #[.slice qa qn qc, .int .i64 qs, .int .i64 qt, .string qg, .slice qma qm qmc] 35)) (.slice ya n2 yc) ns2 ∧ RG (w9.alloc (.cells #[.slice qa qn qc, .int .i64 qs, .int .i64 qt, .string qg, .slice qma qm qmc] 35)).heap.size (w9.alloc (.cells #[.slice qa qn qc, .int .i64 qs, .int .i64 qt, .string qg, .slice qma qm qmc] 35)) (.slice yma m2 ymc) fs2) := ⟨HY7.out.1.keep bb, HY7.out.2.1.keep bb, (HY7.out.2.2.keep bb).mono bb.size⟩
      have HQ9 : Hid (WX (w9.alloc (.cells #[.slice qa qn qc, .int .i64 qs, .int .i64 qt, .string qg, .slice qma qm qmc] 35)) W pa pma pc pmc pn pm ps pt pg ∧ WX (w9.alloc (.cells #[.slice qa qn qc, .int .i64 qs, .int .i64 qt, .string qg, .slice qma qm qmc] 35)) w9.heap.size qa qma qc qmc qn qm qs qt qg) := ⟨HP7.out.1.keep bb, heap_new _ _⟩
      have HE9 : Hid (∃ N ky dv, qs = ps ∧ qt = pt ∧ qg = pg ∧ RNs (w9.alloc (.cells #[.slice qa qn qc, .int .i64 qs, .int .i64 qt, .string qg, .slice qma qm qmc] 35)) (.slice pa pn pc) N ∧ RNs (w9.alloc (.cells #[.slice qa qn qc, .int .i64 qs, .int .i64 qt, .string qg, .slice qma qm qmc] 35)) (.slice qa qn qc) N ∧ N.length ≤ 140737488351232 ∧ (∀ i, i < pm → (dv i).ok) ∧ pm ≤ 140737488351232 ∧ RD (fun _ => True) (w9.alloc (.cells #[.slice qa qn qc, .int .i64 qs, .int .i64 qt, .string qg, .slice qma qm qmc] 35)) pm ky dv (.slice pma pm pmc) ∧ RD (fun _ => True) (w9.alloc (.cells #[.slice qa qn qc, .int .i64 qs, .int .i64 qt, .string qg, .slice qma qm qmc] 35)) pm ky dv (.slice qma qm qmc)) := by
        obtain ⟨g1, g2, s, t, g, y1, y2, N, n, ky, dv, e1, e2, r1, r2, r3, r4, r5, r6, r7⟩ := HME.out
        simp only [Value.agg.injEq, Array.mk.injEq, List.cons.injEq, and_true] at e1 e2
        obtain ⟨rfl, e11, e12, e13, rfl⟩ := e1
        obtain ⟨rfl, e21, e22, e23, rfl⟩ := e2
        cases e11; cases e12; cases e13; cases e21; cases e22; cases e23
        obtain ⟨_, _, e3, _⟩ := id r6
        cases e3
        exact ⟨N, ky, dv, rfl, rfl, rfl, r1.keep b3', r2.keep b3', r3, r4, r5, r6.below b3', r7.below b3'⟩
      clear a0 a1 a2 a3 a4 b0 b1 b2 b3 b4 HB7 HY7 HP7 HMG HME hb b3' bb hmv hw3
      go_upto_region 7 with fail
      generalize w9.alloc (.cells #[.slice qa qn qc, .int .i64 qs, .int .i64 qt, .string qg, .slice qma qm qmc] 35) = w10 at *
      generalize w9.heap.size = V at *
      obtain ⟨N, ky, dv, rfl, rfl, rfl, r1, r2, r3, r4, r5, r6, r7⟩ := HE9.out
      obtain ⟨_, _, e7, _⟩ := id r7
      cases e7
      obtain ⟨_, _, e8, _⟩ := id r1
      have hpn : pn = N.length := by cases e8; rfl
      obtain ⟨_, _, e9, _⟩ := id r2
      have hqn : qn = N.length := by cases e9; rfl
      have HSA := Lib.hid (same20 w10 (.slice pa pn pc) (.slice qa qn qc) qs qt qg (.slice pma pm pmc) (.slice qma pm qmc) N pm ky dv r1 r2 r3 r4 r5 r6 r7)
      clear r1 r2 r3 r4 r5 r6 r7 e8 e9 HE9 hpn hqn
      obtain ⟨p0, p1, p2, p3, p4⟩ := ow.cells HQ9.out.1
      obtain ⟨q0, q1, q2, q3, q4⟩ := ow.cells HQ9.out.2
      go_wp2_with fail
      refine HSA.out.mono ?_
      rintro e w11 ⟨rfl, hb⟩
      have HB : Hid (Below w10.heap.size w10 w11) := hb
      clear hb p0 p1 p2 p3 p4 q0 q1 q2 q3 q4 HSA
      have hw3 : H ≤ w10.heap.size := by have h9 := HB9.out.2.2.1.size; have h8 := HS.out; omega
      have HW3 := Lib.hid hw3
      clear hw3
      obtain ⟨a0, a1, a2, a3, a4⟩ := ow.cells (HB9.out.1.keep HB.out)
      obtain ⟨x0, x1, x2, x3, x4⟩ := ow.cells (HB9.out.2.2.2.1.keep HB.out)
      have HSB := Lib.hid (same20 w11 (.slice xa n1 xc) (.slice na n1 nc) sz qu ag (.slice xma m1 xmc) (.slice ma m1 mc) ns m1 (kyG es) (dvG es) (HB9.out.2.2.2.2.1.keep HB.out) (HN.out.1.keep (by rw [HS.out]; exact HB9.out.2.2.1.trans (HB.out.mono HW3.out))) (by have := HLN.out; have := HL.out; omega) (fun i hi => (HO1.out i hi).2) (by have := HLN.out; omega)
        (by have h9 := rd_of_rg (HB9.out.2.2.2.2.2.keep HB.out); rw [HF1.out.2] at h9; exact rd_congr h9 (fun i hi => kt_at HF1.out.1 i (by rw [HF1.out.2]; exact hi))) (HR1.out w11 (HB9.out.2.2.1.trans (HB.out.mono HW3.out))))
      go_wp2_with fail
      refine HSB.out.mono ?_
      rintro e w12 ⟨rfl, hb⟩
      have HB' : Hid (Below w10.heap.size w10 w12) := HB.out.trans (hb.mono HB.out.size)
      clear hb a0 a1 a2 a3 a4 x0 x1 x2 x3 x4 HSB HB
      obtain ⟨a0, a1, a2, a3, a4⟩ := ow.cells (HB9.out.2.1.keep HB'.out)
      obtain ⟨x0, x1, x2, x3, x4⟩ := ow.cells (HY9.out.1.keep HB'.out)
      have HSB := Lib.hid (same20 w12 (.slice ya n2 yc) (.slice na2 n2 nc2) sz2 qu2 ag2 (.slice yma m2 ymc) (.slice ma2 m2 mc2) ns2 m2 (kyG es2) (dvG es2) (HY9.out.2.1.keep HB'.out) (HN.out.2.1.keep (by rw [HS.out]; exact HB9.out.2.2.1.trans (HB'.out.mono HW3.out))) (by have := HLN.out; have := HL.out; omega) (fun i hi => (HO2.out i hi).2) (by have := HLN.out; omega)
        (by have h9 := rd_of_rg (HY9.out.2.2.keep HB'.out); rw [HF2.out.2] at h9; exact rd_congr h9 (fun i hi => kt_at HF2.out.1 i (by rw [HF2.out.2]; exact hi))) (HR2.out w12 (HB9.out.2.2.1.trans (HB'.out.mono HW3.out))))
      go_wp2_with fail
      refine HSB.out.mono ?_
      rintro e w13 ⟨rfl, hb⟩
      have HBZ : Hid (Below H w w13) := HB9.out.2.2.1.trans ((HB'.out.trans (hb.mono HB'.out.size)).mono HW3.out)
      clear hb a0 a1 a2 a3 a4 x0 x1 x2 x3 x4 HSB HB'
      go_wp2
      go_ret
      exact ⟨rfl, by rw [HS.out]; exact HBZ.out⟩
end Go.Proofs.Ytnjdopdlafcbgaa
