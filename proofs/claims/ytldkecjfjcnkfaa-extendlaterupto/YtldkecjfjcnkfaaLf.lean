import Derived.Test.YtldkecjfjcnkfaaLe
import Derived.Deep.CutRange
import Derived.Deep.DeepCutAuto
namespace Go.Proofs.Ytldkecjfjcnkfaa
open Go.RowKit Go.Deep
def C5 (x : World) (b : Nat) (c0 c1 c2 c3 c4 : Value) : Prop := x.cell? ⟨b, 0, none⟩ = some c0 ∧ x.cell? ⟨b, 1, none⟩ = some c1 ∧ x.cell? ⟨b, 2, none⟩ = some c2 ∧ x.cell? ⟨b, 3, none⟩ = some c3 ∧ x.cell? ⟨b, 4, none⟩ = some c4
theorem c5_of {x : World} {b : Nat} {c0 c1 c2 c3 c4 : Value} (h : ow x b c0 c1 c2 c3 c4) : C5 x b c0 c1 c2 c3 c4 := ow.cells h
theorem ow_keep {x y : World} {b : Nat} {c0 c1 c2 c3 c4 : Value} (h : ow x b c0 c1 c2 c3 c4) (hb : Below x.heap.size x y) : ow y b c0 c1 c2 c3 c4 := ow.keep h (hb.block _ (ow.lt h))
theorem own5 {x : World} {b : Nat} (h : x.heap[b]? = some (.cells #[.slice none 0 0, .int .i64 0, .int .i64 0, .string ⟨#[]⟩, .slice none 0 0] 35 (0, 0))) (c0 c1 c2 c3 c4 : Value) : ow (((((x.setCell ⟨b, 0, none⟩ c0).setCell ⟨b, 1, none⟩ c1).setCell ⟨b, 2, none⟩ c2).setCell ⟨b, 3, none⟩ c3).setCell ⟨b, 4, none⟩ c4) b c0 c1 c2 c3 c4 := by
  have := ow.set (ow.set (ow.set (ow.set (ow.set h 0 c0) 1 c1) 2 c2) 3 c3) 4 c4
  simpa [ow] using this
theorem TV.form2 {S : Nat → Prop} {x : World} {v : Value} {d : WD} (h : TV S x v d) : ∃ (ra : Option Addr) (rn rc : Nat) (rs rq : Int) (rg : ByteArray) (rma : Option Addr) (rm rmc : Nat), v = .agg #[.slice ra rn rc, .int .i64 rs, .int .i64 rq, .string rg, .slice rma rm rmc] ∧ rn = d.ns.length ∧ rs = d.sz ∧ rq = d.qu := by
  obtain ⟨na, nc, ma, mc, es, rfl, _⟩ := h
  exact ⟨_, _, _, _, _, _, _, _, _, rfl, rfl, rfl, rfl⟩
theorem TV.names {S : Nat → Prop} {x : World} {a a2 : Option Addr} {n c n2 c2 : Nat} {s q : Int} {g : ByteArray} {d : WD} (h : TV S x (.agg #[.slice a n c, .int .i64 s, .int .i64 q, .string g, .slice a2 n2 c2]) d) (k : Nat) (hk : k < n) : ∃ (b o : Nat) (y : ByteArray), a = some ⟨b, o, none⟩ ∧ x.cell? ⟨b, o + k * 2, none⟩ = some (.string y) := by
  obtain ⟨na, nc, ma, mc, es, e, _, h2, _⟩ := h
  simp only [Value.agg.injEq, Array.mk.injEq, List.cons.injEq, and_true] at e
  obtain ⟨e1, _⟩ := e
  cases e1
  obtain ⟨_, _, e2, hx⟩ := h2
  cases e2
  rcases hx with hx | ⟨b, o, e3, _, hc⟩
  · rw [hx] at hk; simp at hk
  · exact ⟨b, o, _, e3, (hc k _ (List.getElem?_eq_getElem hk)).1⟩
theorem noT (x : World) : TV (fun _ => True) x (.agg #[.slice none 0 0, .int .i64 0, .int .i64 0, .string ⟨#[]⟩, .slice none 0 0]) noD := ⟨none, 0, none, 0, [], rfl, rfl, ⟨none, 0, rfl, .inl rfl⟩, fun h => absurd rfl h, ⟨none, 0, rfl, .inl rfl⟩, fun a n c e => (by cases e; exact ⟨Nat.le_refl _, fun _ => rfl⟩), fun a n c e => (by cases e; exact ⟨Nat.le_refl _, fun _ => rfl⟩)⟩
theorem WD.bd.up {d : WD} {N M : Nat} (h : d.bd N) (hN : N ≤ M) : d.bd M := ⟨Nat.le_trans h.nl hN, Nat.le_trans h.kl hN, h.nn, h.na, h.kk⟩
/-- three wishes in their boxes, and none -/
structure QL (w x : World) (bX bY bZ bN : Nat) (x0 x1 x2 x3 x4 y0 y1 y2 y3 y4 z0 z1 z2 z3 z4 : Value) (dX dY dZ : WD) : Prop where
  bx : ow x bX x0 x1 x2 x3 x4
  by' : ow x bY y0 y1 y2 y3 y4
  bz : ow x bZ z0 z1 z2 z3 z4
  bn : ow x bN (.slice none 0 0) (.int .i64 0) (.int .i64 0) (.string ⟨#[]⟩) (.slice none 0 0)
  tx : TV (fun _ => True) x (.agg #[x0, x1, x2, x3, x4]) dX
  ty : TV (fun _ => True) x (.agg #[y0, y1, y2, y3, y4]) dY
  tz : TV (fun _ => True) x (.agg #[z0, z1, z2, z3, z4]) dZ
  bel : Below w.heap.size w x
theorem QL.keep {w x y : World} {bX bY bZ bN : Nat} {x0 x1 x2 x3 x4 y0 y1 y2 y3 y4 z0 z1 z2 z3 z4 : Value} {dX dY dZ : WD} (h : QL w x bX bY bZ bN x0 x1 x2 x3 x4 y0 y1 y2 y3 y4 z0 z1 z2 z3 z4 dX dY dZ) (hb : Below x.heap.size x y) : QL w y bX bY bZ bN x0 x1 x2 x3 x4 y0 y1 y2 y3 y4 z0 z1 z2 z3 z4 dX dY dZ :=
  ⟨ow_keep h.bx hb, ow_keep h.by' hb, ow_keep h.bz hb, ow_keep h.bn hb, h.tx.keep hb, h.ty.keep hb, h.tz.keep hb, h.bel.trans (hb.mono h.bel.size)⟩
theorem QL.s3 {w x y : World} {bX bY bZ bN : Nat} {x0 x1 x2 x3 x4 y0 y1 y2 y3 y4 z0 z1 z2 z3 z4 : Value} {dX dY dZ : WD} (h : QL w x bX bY bZ bN x0 x1 x2 x3 x4 y0 y1 y2 y3 y4 z0 z1 z2 z3 z4 dX dY dZ) (hb : Below x.heap.size x y) : C5 y bX x0 x1 x2 x3 x4 ∧ C5 y bY y0 y1 y2 y3 y4 ∧ C5 y bZ z0 z1 z2 z3 z4 :=
  ⟨c5_of (ow_keep h.bx hb), c5_of (ow_keep h.by' hb), c5_of (ow_keep h.bz hb)⟩
theorem num_mg {a b : WD} (ha : a.good) (hb : b.good) (s : ByteArray) : ((nuF b.ns s).isSome = true → (nuF (mgD a b).ns s).isSome = true ∧ nuN (mgD a b).ns s = nuN b.ns s) ∧ ((nuF b.ns s).isSome = false → (nuF (mgD a b).ns s).isSome = (nuF a.ns s).isSome ∧ nuN (mgD a b).ns s = nuN a.ns s) := by
  unfold nuN
  rw [nu_mg ha hb]
  cases nuF b.ns s with
  | none => exact ⟨fun h => (by cases h), fun _ => ⟨rfl, rfl⟩⟩
  | some p => exact ⟨fun _ => ⟨rfl, rfl⟩, fun h => (by cases h)⟩
structure GS (dX dY dZ : WD) : Prop where
  gX : dX.good
  gY : dY.good
  gZ : dZ.good
  bX : dX.bd 1048576
  bY : dY.bd 1048576
  bZ : dZ.bd 1048576
set_option maxHeartbeats 16000000 in
set_option maxRecDepth 100000 in
theorem laterLaw (na1 ma1 : Option Addr) (nc1 mc1 : Nat) (ns1 : List (ByteArray × Int)) (sz1 qu1 : Int) (ag1 : ByteArray) (es1 : List PE) (na2 ma2 : Option Addr) (nc2 mc2 : Nat) (ns2 : List (ByteArray × Int)) (sz2 qu2 : Int) (ag2 : ByteArray) (es2 : List PE) (na3 ma3 : Option Addr) (nc3 mc3 : Nat) (ns3 : List (ByteArray × Int)) (sz3 qu3 : Int) (ag3 : ByteArray) (es3 : List PE) (nm : ByteArray) (w : World) (hn1 : RNs w (.slice na1 ns1.length nc1) ns1) (hm1 : RG w.heap.size w (.slice ma1 es1.length mc1) es1) (hl1 : ns1.length ≤ 1048576 ∧ es1.length ≤ 1048576 ∧ (∀ x ∈ ns1, x.1.size ≤ 140737488351232) ∧ ag1.size ≤ 140737488351232 ∧ ∀ e ∈ es1, e.key.size ≤ 140737488351232 ∧ e.t.ok) (hn2 : RNs w (.slice na2 ns2.length nc2) ns2) (hm2 : RG w.heap.size w (.slice ma2 es2.length mc2) es2) (hl2 : ns2.length ≤ 1048576 ∧ es2.length ≤ 1048576 ∧ (∀ x ∈ ns2, x.1.size ≤ 140737488351232) ∧ ag2.size ≤ 140737488351232 ∧ ∀ e ∈ es2, e.key.size ≤ 140737488351232 ∧ e.t.ok) (hn3 : RNs w (.slice na3 ns3.length nc3) ns3) (hm3 : RG w.heap.size w (.slice ma3 es3.length mc3) es3) (hl3 : ns3.length ≤ 1048576 ∧ es3.length ≤ 1048576 ∧ (∀ x ∈ ns3, x.1.size ≤ 140737488351232) ∧ ag3.size ≤ 140737488351232 ∧ ∀ e ∈ es3, e.key.size ≤ 140737488351232 ∧ e.t.ok) :
    Calls Try.prog 6 #[.agg #[.slice na1 ns1.length nc1, .int .i64 sz1, .int .i64 qu1, .string ag1, .slice ma1 es1.length mc1], .agg #[.slice na2 ns2.length nc2, .int .i64 sz2, .int .i64 qu2, .string ag2, .slice ma2 es2.length mc2], .agg #[.slice na3 ns3.length nc3, .int .i64 sz3, .int .i64 qu3, .string ag3, .slice ma3 es3.length mc3], .string nm] w fun e w' => e = .returned (.bool true) ∧ Below w.heap.size w w' := by
  have HD1 : Hid (RNs w (.slice na1 ns1.length nc1) ns1 ∧ RG w.heap.size w (.slice ma1 es1.length mc1) es1 ∧ ns1.length ≤ 1048576 ∧ es1.length ≤ 1048576 ∧ (∀ x ∈ ns1, x.1.size ≤ 140737488351232) ∧ ag1.size ≤ 140737488351232 ∧ ∀ e ∈ es1, e.key.size ≤ 140737488351232 ∧ e.t.ok) := ⟨hn1, hm1, hl1⟩
  have HD2 : Hid (RNs w (.slice na2 ns2.length nc2) ns2 ∧ RG w.heap.size w (.slice ma2 es2.length mc2) es2 ∧ ns2.length ≤ 1048576 ∧ es2.length ≤ 1048576 ∧ (∀ x ∈ ns2, x.1.size ≤ 140737488351232) ∧ ag2.size ≤ 140737488351232 ∧ ∀ e ∈ es2, e.key.size ≤ 140737488351232 ∧ e.t.ok) := ⟨hn2, hm2, hl2⟩
  have HD3 : Hid (RNs w (.slice na3 ns3.length nc3) ns3 ∧ RG w.heap.size w (.slice ma3 es3.length mc3) es3 ∧ ns3.length ≤ 1048576 ∧ es3.length ≤ 1048576 ∧ (∀ x ∈ ns3, x.1.size ≤ 140737488351232) ∧ ag3.size ≤ 140737488351232 ∧ ∀ e ∈ es3, e.key.size ≤ 140737488351232 ∧ e.t.ok) := ⟨hn3, hm3, hl3⟩
  clear hn1 hm1 hl1 hn2 hm2 hl2 hn3 hm3 hl3
  generalize hg1 : ns1.length = n1 at *
  generalize hh1 : es1.length = m1 at *
  generalize hg2 : ns2.length = n2 at *
  generalize hh2 : es2.length = m2 at *
  generalize hg3 : ns3.length = n3 at *
  generalize hh3 : es3.length = m3 at *
  have HL : Hid (ns1.length = n1 ∧ es1.length = m1 ∧ ns2.length = n2 ∧ es2.length = m2 ∧ ns3.length = n3 ∧ es3.length = m3) := ⟨hg1, hh1, hg2, hh2, hg3, hh3⟩
  clear hg1 hh1 hg2 hh2 hg3 hh3
  have b0 : Below w.heap.size w (((w.alloc (.cells #[.slice na1 n1 nc1, .int .i64 sz1, .int .i64 qu1, .string ag1, .slice ma1 m1 mc1] 35)).alloc (.cells #[.slice na2 n2 nc2, .int .i64 sz2, .int .i64 qu2, .string ag2, .slice ma2 m2 mc2] 35)).alloc (.cells #[.slice na3 n3 nc3, .int .i64 sz3, .int .i64 qu3, .string ag3, .slice ma3 m3 mc3] 35)) := (((Below.refl _ _).alloc (Nat.le_refl _) _).alloc (by simp) _).alloc (by simp; omega) _
  have HB0 : Hid (ow (((w.alloc (.cells #[.slice na1 n1 nc1, .int .i64 sz1, .int .i64 qu1, .string ag1, .slice ma1 m1 mc1] 35)).alloc (.cells #[.slice na2 n2 nc2, .int .i64 sz2, .int .i64 qu2, .string ag2, .slice ma2 m2 mc2] 35)).alloc (.cells #[.slice na3 n3 nc3, .int .i64 sz3, .int .i64 qu3, .string ag3, .slice ma3 m3 mc3] 35)) w.heap.size (.slice na1 n1 nc1) (.int .i64 sz1) (.int .i64 qu1) (.string ag1) (.slice ma1 m1 mc1) ∧ ow (((w.alloc (.cells #[.slice na1 n1 nc1, .int .i64 sz1, .int .i64 qu1, .string ag1, .slice ma1 m1 mc1] 35)).alloc (.cells #[.slice na2 n2 nc2, .int .i64 sz2, .int .i64 qu2, .string ag2, .slice ma2 m2 mc2] 35)).alloc (.cells #[.slice na3 n3 nc3, .int .i64 sz3, .int .i64 qu3, .string ag3, .slice ma3 m3 mc3] 35)) (w.heap.size + 1) (.slice na2 n2 nc2) (.int .i64 sz2) (.int .i64 qu2) (.string ag2) (.slice ma2 m2 mc2) ∧ ow (((w.alloc (.cells #[.slice na1 n1 nc1, .int .i64 sz1, .int .i64 qu1, .string ag1, .slice ma1 m1 mc1] 35)).alloc (.cells #[.slice na2 n2 nc2, .int .i64 sz2, .int .i64 qu2, .string ag2, .slice ma2 m2 mc2] 35)).alloc (.cells #[.slice na3 n3 nc3, .int .i64 sz3, .int .i64 qu3, .string ag3, .slice ma3 m3 mc3] 35)) (w.heap.size + 1 + 1) (.slice na3 n3 nc3) (.int .i64 sz3) (.int .i64 qu3) (.string ag3) (.slice ma3 m3 mc3) ∧ Below w.heap.size w (((w.alloc (.cells #[.slice na1 n1 nc1, .int .i64 sz1, .int .i64 qu1, .string ag1, .slice ma1 m1 mc1] 35)).alloc (.cells #[.slice na2 n2 nc2, .int .i64 sz2, .int .i64 qu2, .string ag2, .slice ma2 m2 mc2] 35)).alloc (.cells #[.slice na3 n3 nc3, .int .i64 sz3, .int .i64 qu3, .string ag3, .slice ma3 m3 mc3] 35))) := by
    refine ⟨?_, ?_, ?_, b0⟩
    · exact (Below.heap_alloc _ _ _ (by simp; omega)).trans ((Below.heap_alloc _ _ _ (by simp)).trans (heap_new _ _))
    · exact (Below.heap_alloc _ _ _ (by simp)).trans (by have := heap_new (w.alloc (.cells #[.slice na1 n1 nc1, .int .i64 sz1, .int .i64 qu1, .string ag1, .slice ma1 m1 mc1] 35)) (.cells #[.slice na2 n2 nc2, .int .i64 sz2, .int .i64 qu2, .string ag2, .slice ma2 m2 mc2] 35); simpa using this)
    · have := heap_new ((w.alloc (.cells #[.slice na1 n1 nc1, .int .i64 sz1, .int .i64 qu1, .string ag1, .slice ma1 m1 mc1] 35)).alloc (.cells #[.slice na2 n2 nc2, .int .i64 sz2, .int .i64 qu2, .string ag2, .slice ma2 m2 mc2] 35)) (.cells #[.slice na3 n3 nc3, .int .i64 sz3, .int .i64 qu3, .string ag3, .slice ma3 m3 mc3] 35)
      simpa [ow] using this
  clear b0
  go_enter Try.func6, Try.ntmps6
  go_upto_region 1 with fail
  generalize (((w.alloc (.cells #[.slice na1 n1 nc1, .int .i64 sz1, .int .i64 qu1, .string ag1, .slice ma1 m1 mc1] 35)).alloc (.cells #[.slice na2 n2 nc2, .int .i64 sz2, .int .i64 qu2, .string ag2, .slice ma2 m2 mc2] 35)).alloc (.cells #[.slice na3 n3 nc3, .int .i64 sz3, .int .i64 qu3, .string ag3, .slice ma3 m3 mc3] 35)) = w0 at *
  generalize hvb : w.heap.size = H at *
  have HS := Lib.hid hvb
  clear hvb
  obtain ⟨a0, a1, a2, a3, a4⟩ := ow.cells HB0.out.1
  obtain ⟨b0, b1, b2, b3, b4⟩ := ow.cells HB0.out.2.1
  obtain ⟨c0, c1, c2, c3, c4⟩ := ow.cells HB0.out.2.2.1
  have HFR := Lib.hid (far14 m1 (kyG es1) (dvG es1) (.slice ma1 m1 mc1) w0 (fun i hi => by rw [kyG_at (by have := HL.out; omega), dvG_at (by have := HL.out; omega)]; exact HD1.out.2.2.2.2.2.2 _ (List.getElem_mem _)) (by have := HL.out; have := HD1.out.2.2.2.1; omega) (by have h9 := rd_of_rg HD1.out.2.1; rw [HL.out.2.1] at h9; exact h9.below (by have h8 := HB0.out.2.2.2; rw [HS.out]; exact h8)))
  go_wp2_with fail
  refine HFR.out.mono ?_
  rintro e wf1 ⟨r, rfl, hb, hsm⟩
  have HF1 : Hid (ow wf1 H (.slice na1 n1 nc1) (.int .i64 sz1) (.int .i64 qu1) (.string ag1) (.slice ma1 m1 mc1) ∧ ow wf1 (H + 1) (.slice na2 n2 nc2) (.int .i64 sz2) (.int .i64 qu2) (.string ag2) (.slice ma2 m2 mc2) ∧ ow wf1 (H + 1 + 1) (.slice na3 n3 nc3) (.int .i64 sz3) (.int .i64 qu3) (.string ag3) (.slice ma3 m3 mc3) ∧ Below H w wf1) := ⟨ow_keep HB0.out.1 hb, ow_keep HB0.out.2.1 hb, ow_keep HB0.out.2.2.1 hb, HB0.out.2.2.2.trans (hb.mono (by have h9 := HB0.out.2.2.2.size; have h8 := HS.out; omega))⟩
  clear a0 a1 a2 a3 a4 b0 b1 b2 b3 b4 c0 c1 c2 c3 c4 hb HB0 HFR
  cases r with
  | true =>
    clear hsm
    go_wp2
    go_ret
    exact ⟨rfl, by rw [HS.out]; exact HF1.out.2.2.2⟩
  | false =>
    have HS1 := Lib.hid (hsm rfl).2
    clear hsm
    obtain ⟨a0, a1, a2, a3, a4⟩ := ow.cells HF1.out.1
    obtain ⟨b0, b1, b2, b3, b4⟩ := ow.cells HF1.out.2.1
    obtain ⟨c0, c1, c2, c3, c4⟩ := ow.cells HF1.out.2.2.1
    have HFR := Lib.hid (far14 m2 (kyG es2) (dvG es2) (.slice ma2 m2 mc2) wf1 (fun i hi => by rw [kyG_at (by have := HL.out; omega), dvG_at (by have := HL.out; omega)]; exact HD2.out.2.2.2.2.2.2 _ (List.getElem_mem _)) (by have := HL.out; have := HD2.out.2.2.2.1; omega) (by have h9 := rd_of_rg HD2.out.2.1; rw [HL.out.2.2.2.1] at h9; exact h9.below (by have h8 := HF1.out.2.2.2; rw [HS.out]; exact h8)))
    go_wp2_with fail
    refine HFR.out.mono ?_
    rintro e wf2 ⟨r, rfl, hb, hsm⟩
    have HF2 : Hid (ow wf2 H (.slice na1 n1 nc1) (.int .i64 sz1) (.int .i64 qu1) (.string ag1) (.slice ma1 m1 mc1) ∧ ow wf2 (H + 1) (.slice na2 n2 nc2) (.int .i64 sz2) (.int .i64 qu2) (.string ag2) (.slice ma2 m2 mc2) ∧ ow wf2 (H + 1 + 1) (.slice na3 n3 nc3) (.int .i64 sz3) (.int .i64 qu3) (.string ag3) (.slice ma3 m3 mc3) ∧ Below H w wf2) := ⟨ow_keep HF1.out.1 hb, ow_keep HF1.out.2.1 hb, ow_keep HF1.out.2.2.1 hb, HF1.out.2.2.2.trans (hb.mono (by have h9 := HF1.out.2.2.2.size; have h8 := HS.out; omega))⟩
    clear a0 a1 a2 a3 a4 b0 b1 b2 b3 b4 c0 c1 c2 c3 c4 hb HF1 HFR
    cases r with
    | true =>
      clear hsm
      go_wp2
      go_ret
      exact ⟨rfl, by rw [HS.out]; exact HF2.out.2.2.2⟩
    | false =>
      have HS2 := Lib.hid (hsm rfl).2
      clear hsm
      obtain ⟨a0, a1, a2, a3, a4⟩ := ow.cells HF2.out.1
      obtain ⟨b0, b1, b2, b3, b4⟩ := ow.cells HF2.out.2.1
      obtain ⟨c0, c1, c2, c3, c4⟩ := ow.cells HF2.out.2.2.1
      have HFR := Lib.hid (far14 m3 (kyG es3) (dvG es3) (.slice ma3 m3 mc3) wf2 (fun i hi => by rw [kyG_at (by have := HL.out; omega), dvG_at (by have := HL.out; omega)]; exact HD3.out.2.2.2.2.2.2 _ (List.getElem_mem _)) (by have := HL.out; have := HD3.out.2.2.2.1; omega) (by have h9 := rd_of_rg HD3.out.2.1; rw [HL.out.2.2.2.2.2] at h9; exact h9.below (by have h8 := HF2.out.2.2.2; rw [HS.out]; exact h8)))
      go_wp2_with fail
      refine HFR.out.mono ?_
      rintro e wf3 ⟨r, rfl, hb, hsm⟩
      have HF3 : Hid (ow wf3 H (.slice na1 n1 nc1) (.int .i64 sz1) (.int .i64 qu1) (.string ag1) (.slice ma1 m1 mc1) ∧ ow wf3 (H + 1) (.slice na2 n2 nc2) (.int .i64 sz2) (.int .i64 qu2) (.string ag2) (.slice ma2 m2 mc2) ∧ ow wf3 (H + 1 + 1) (.slice na3 n3 nc3) (.int .i64 sz3) (.int .i64 qu3) (.string ag3) (.slice ma3 m3 mc3) ∧ Below H w wf3) := ⟨ow_keep HF2.out.1 hb, ow_keep HF2.out.2.1 hb, ow_keep HF2.out.2.2.1 hb, HF2.out.2.2.2.trans (hb.mono (by have h9 := HF2.out.2.2.2.size; have h8 := HS.out; omega))⟩
      clear a0 a1 a2 a3 a4 b0 b1 b2 b3 b4 c0 c1 c2 c3 c4 hb HF2 HFR
      cases r with
      | true =>
        clear hsm
        go_wp2
        go_ret
        exact ⟨rfl, by rw [HS.out]; exact HF3.out.2.2.2⟩
      | false =>
        have HS3 := Lib.hid (hsm rfl).2
        clear hsm
        obtain ⟨a0, a1, a2, a3, a4⟩ := ow.cells HF3.out.1
        have hw : Below w.heap.size w wf3 := by rw [HS.out]; exact HF3.out.2.2.2
        have HMD := Lib.hid (madeT na1 ma1 nc1 mc1 ns1 sz1 qu1 ag1 es1 wf3 (by rw [HL.out.1]; exact HD1.out.1.keep hw) (by rw [HL.out.2.1]; have h9 := HD1.out.2.1; rw [← HS.out] at h9; exact (h9.keep hw).mono hw.size) (by rw [HL.out.1]; exact HD1.out.2.2.1) (by rw [HL.out.2.1]; exact HD1.out.2.2.2.1) (fun e he => (HD1.out.2.2.2.2.2.2 e he).2))
        rw [HL.out.1, HL.out.2.1] at HMD
        clear hw
        go_wp2_with fail
        refine HMD.out.mono ?_
        rintro e wm1 ⟨v', rfl, htv, hb⟩
        obtain ⟨xa, xn, xc, xs, xq, xg, xma, xm, xmc, hvf, ex1, ex2, ex3⟩ := htv.form2
        subst hvf
        have bb : Below wm1.heap.size wm1 (wm1.alloc (.cells #[.slice xa xn xc, .int .i64 xs, .int .i64 xq, .string xg, .slice xma xm xmc] 35)) := (Below.refl _ _).alloc (Nat.le_refl _) _
        have bc : Below wf3.heap.size wf3 (wm1.alloc (.cells #[.slice xa xn xc, .int .i64 xs, .int .i64 xq, .string xg, .slice xma xm xmc] 35)) := hb.trans (bb.mono hb.size)
        have HM1 : Hid (ow (wm1.alloc (.cells #[.slice xa xn xc, .int .i64 xs, .int .i64 xq, .string xg, .slice xma xm xmc] 35)) H (.slice na1 n1 nc1) (.int .i64 sz1) (.int .i64 qu1) (.string ag1) (.slice ma1 m1 mc1) ∧ ow (wm1.alloc (.cells #[.slice xa xn xc, .int .i64 xs, .int .i64 xq, .string xg, .slice xma xm xmc] 35)) (H + 1) (.slice na2 n2 nc2) (.int .i64 sz2) (.int .i64 qu2) (.string ag2) (.slice ma2 m2 mc2) ∧ ow (wm1.alloc (.cells #[.slice xa xn xc, .int .i64 xs, .int .i64 xq, .string xg, .slice xma xm xmc] 35)) (H + 1 + 1) (.slice na3 n3 nc3) (.int .i64 sz3) (.int .i64 qu3) (.string ag3) (.slice ma3 m3 mc3) ∧ Below H w (wm1.alloc (.cells #[.slice xa xn xc, .int .i64 xs, .int .i64 xq, .string xg, .slice xma xm xmc] 35)) ∧ ow (wm1.alloc (.cells #[.slice xa xn xc, .int .i64 xs, .int .i64 xq, .string xg, .slice xma xm xmc] 35)) wm1.heap.size (.slice xa xn xc) (.int .i64 xs) (.int .i64 xq) (.string xg) (.slice xma xm xmc) ∧ TV (fun _ => True) (wm1.alloc (.cells #[.slice xa xn xc, .int .i64 xs, .int .i64 xq, .string xg, .slice xma xm xmc] 35)) (.agg #[.slice xa xn xc, .int .i64 xs, .int .i64 xq, .string xg, .slice xma xm xmc]) (mdD ns1 sz1 qu1 ag1 es1)) := ⟨ow_keep HF3.out.1 bc, ow_keep HF3.out.2.1 bc, ow_keep HF3.out.2.2.1 bc, HF3.out.2.2.2.trans (bc.mono (by have h9 := HF3.out.2.2.2.size; have h8 := HS.out; omega)), heap_new _ _, htv.keep bb⟩
        have HEx : Hid (xn = (mdD ns1 sz1 qu1 ag1 es1).ns.length ∧ xs = (mdD ns1 sz1 qu1 ag1 es1).sz ∧ xq = (mdD ns1 sz1 qu1 ag1 es1).qu) := ⟨ex1, ex2, ex3⟩
        have HGD1 : Hid ((mdD ns1 sz1 qu1 ag1 es1).good ∧ (mdD ns1 sz1 qu1 ag1 es1).bd 1048576) := ⟨mdD_good _ _ _ _ _, mdD_bd (by rw [HL.out.1]; exact HD1.out.2.2.1) (by rw [HL.out.2.1]; exact HD1.out.2.2.2.1) HD1.out.2.2.2.2.1 HD1.out.2.2.2.2.2.1 (fun e he => ⟨(HD1.out.2.2.2.2.2.2 e he).1, (HD1.out.2.2.2.2.2.2 e he).2, by obtain ⟨i, hi, rfl⟩ := List.getElem_of_mem he; rw [← dvG_at hi]; exact HS1.out i (by rw [← HL.out.2.1]; exact hi)⟩)⟩
        clear a0 a1 a2 a3 a4 HF3 HMD htv hb bb bc ex1 ex2 ex3 HS1
        generalize mdD ns1 sz1 qu1 ag1 es1 = dX at *
        go_upto_region 4 with fail
        generalize (wm1.alloc (.cells #[.slice xa xn xc, .int .i64 xs, .int .i64 xq, .string xg, .slice xma xm xmc] 35)) = wn1 at *
        generalize wm1.heap.size = bX at *
        obtain ⟨a0, a1, a2, a3, a4⟩ := ow.cells HM1.out.2.1
        have hw : Below w.heap.size w wn1 := by rw [HS.out]; exact HM1.out.2.2.2.1
        have HMD := Lib.hid (madeT na2 ma2 nc2 mc2 ns2 sz2 qu2 ag2 es2 wn1 (by rw [HL.out.2.2.1]; exact HD2.out.1.keep hw) (by rw [HL.out.2.2.2.1]; have h9 := HD2.out.2.1; rw [← HS.out] at h9; exact (h9.keep hw).mono hw.size) (by rw [HL.out.2.2.1]; exact HD2.out.2.2.1) (by rw [HL.out.2.2.2.1]; exact HD2.out.2.2.2.1) (fun e he => (HD2.out.2.2.2.2.2.2 e he).2))
        rw [HL.out.2.2.1, HL.out.2.2.2.1] at HMD
        clear hw
        go_wp2_with fail
        refine HMD.out.mono ?_
        rintro e wm2 ⟨v', rfl, htv, hb⟩
        obtain ⟨ya, yn, yc, ys, yq, yg, yma, ym, ymc, hvf, ey1, ey2, ey3⟩ := htv.form2
        subst hvf
        have bb : Below wm2.heap.size wm2 (wm2.alloc (.cells #[.slice ya yn yc, .int .i64 ys, .int .i64 yq, .string yg, .slice yma ym ymc] 35)) := (Below.refl _ _).alloc (Nat.le_refl _) _
        have bc : Below wn1.heap.size wn1 (wm2.alloc (.cells #[.slice ya yn yc, .int .i64 ys, .int .i64 yq, .string yg, .slice yma ym ymc] 35)) := hb.trans (bb.mono hb.size)
        have HM2 : Hid (ow (wm2.alloc (.cells #[.slice ya yn yc, .int .i64 ys, .int .i64 yq, .string yg, .slice yma ym ymc] 35)) H (.slice na1 n1 nc1) (.int .i64 sz1) (.int .i64 qu1) (.string ag1) (.slice ma1 m1 mc1) ∧ ow (wm2.alloc (.cells #[.slice ya yn yc, .int .i64 ys, .int .i64 yq, .string yg, .slice yma ym ymc] 35)) (H + 1) (.slice na2 n2 nc2) (.int .i64 sz2) (.int .i64 qu2) (.string ag2) (.slice ma2 m2 mc2) ∧ ow (wm2.alloc (.cells #[.slice ya yn yc, .int .i64 ys, .int .i64 yq, .string yg, .slice yma ym ymc] 35)) (H + 1 + 1) (.slice na3 n3 nc3) (.int .i64 sz3) (.int .i64 qu3) (.string ag3) (.slice ma3 m3 mc3) ∧ Below H w (wm2.alloc (.cells #[.slice ya yn yc, .int .i64 ys, .int .i64 yq, .string yg, .slice yma ym ymc] 35)) ∧ ow (wm2.alloc (.cells #[.slice ya yn yc, .int .i64 ys, .int .i64 yq, .string yg, .slice yma ym ymc] 35)) bX (.slice xa xn xc) (.int .i64 xs) (.int .i64 xq) (.string xg) (.slice xma xm xmc) ∧ TV (fun _ => True) (wm2.alloc (.cells #[.slice ya yn yc, .int .i64 ys, .int .i64 yq, .string yg, .slice yma ym ymc] 35)) (.agg #[.slice xa xn xc, .int .i64 xs, .int .i64 xq, .string xg, .slice xma xm xmc]) dX ∧ ow (wm2.alloc (.cells #[.slice ya yn yc, .int .i64 ys, .int .i64 yq, .string yg, .slice yma ym ymc] 35)) wm2.heap.size (.slice ya yn yc) (.int .i64 ys) (.int .i64 yq) (.string yg) (.slice yma ym ymc) ∧ TV (fun _ => True) (wm2.alloc (.cells #[.slice ya yn yc, .int .i64 ys, .int .i64 yq, .string yg, .slice yma ym ymc] 35)) (.agg #[.slice ya yn yc, .int .i64 ys, .int .i64 yq, .string yg, .slice yma ym ymc]) (mdD ns2 sz2 qu2 ag2 es2)) := ⟨ow_keep HM1.out.1 bc, ow_keep HM1.out.2.1 bc, ow_keep HM1.out.2.2.1 bc, HM1.out.2.2.2.1.trans (bc.mono (by have h9 := HM1.out.2.2.2.1.size; have h8 := HS.out; omega)), ow_keep HM1.out.2.2.2.2.1 bc, HM1.out.2.2.2.2.2.keep bc, heap_new _ _, htv.keep bb⟩
        have HEy : Hid (yn = (mdD ns2 sz2 qu2 ag2 es2).ns.length ∧ ys = (mdD ns2 sz2 qu2 ag2 es2).sz ∧ yq = (mdD ns2 sz2 qu2 ag2 es2).qu) := ⟨ey1, ey2, ey3⟩
        have HGD2 : Hid ((mdD ns2 sz2 qu2 ag2 es2).good ∧ (mdD ns2 sz2 qu2 ag2 es2).bd 1048576) := ⟨mdD_good _ _ _ _ _, mdD_bd (by rw [HL.out.2.2.1]; exact HD2.out.2.2.1) (by rw [HL.out.2.2.2.1]; exact HD2.out.2.2.2.1) HD2.out.2.2.2.2.1 HD2.out.2.2.2.2.2.1 (fun e he => ⟨(HD2.out.2.2.2.2.2.2 e he).1, (HD2.out.2.2.2.2.2.2 e he).2, by obtain ⟨i, hi, rfl⟩ := List.getElem_of_mem he; rw [← dvG_at hi]; exact HS2.out i (by rw [← HL.out.2.2.2.1]; exact hi)⟩)⟩
        clear a0 a1 a2 a3 a4 HM1 HMD htv hb bb bc ey1 ey2 ey3 HS2
        generalize mdD ns2 sz2 qu2 ag2 es2 = dY at *
        go_upto_region 5 with fail
        generalize (wm2.alloc (.cells #[.slice ya yn yc, .int .i64 ys, .int .i64 yq, .string yg, .slice yma ym ymc] 35)) = wn2 at *
        generalize wm2.heap.size = bY at *
        obtain ⟨a0, a1, a2, a3, a4⟩ := ow.cells HM2.out.2.2.1
        have hw : Below w.heap.size w wn2 := by rw [HS.out]; exact HM2.out.2.2.2.1
        have HMD := Lib.hid (madeT na3 ma3 nc3 mc3 ns3 sz3 qu3 ag3 es3 wn2 (by rw [HL.out.2.2.2.2.1]; exact HD3.out.1.keep hw) (by rw [HL.out.2.2.2.2.2]; have h9 := HD3.out.2.1; rw [← HS.out] at h9; exact (h9.keep hw).mono hw.size) (by rw [HL.out.2.2.2.2.1]; exact HD3.out.2.2.1) (by rw [HL.out.2.2.2.2.2]; exact HD3.out.2.2.2.1) (fun e he => (HD3.out.2.2.2.2.2.2 e he).2))
        rw [HL.out.2.2.2.2.1, HL.out.2.2.2.2.2] at HMD
        clear hw
        go_wp2_with fail
        refine HMD.out.mono ?_
        rintro e wm3 ⟨v', rfl, htv, hb⟩
        obtain ⟨za, zn, zc, zs, zq, zg, zma, zm, zmc, hvf, ez1, ez2, ez3⟩ := htv.form2
        subst hvf
        have bb : Below wm3.heap.size wm3 (wm3.alloc (.cells #[.slice za zn zc, .int .i64 zs, .int .i64 zq, .string zg, .slice zma zm zmc] 35)) := (Below.refl _ _).alloc (Nat.le_refl _) _
        have bc : Below wn2.heap.size wn2 (wm3.alloc (.cells #[.slice za zn zc, .int .i64 zs, .int .i64 zq, .string zg, .slice zma zm zmc] 35)) := hb.trans (bb.mono hb.size)
        have HM3 : Hid (ow (wm3.alloc (.cells #[.slice za zn zc, .int .i64 zs, .int .i64 zq, .string zg, .slice zma zm zmc] 35)) H (.slice na1 n1 nc1) (.int .i64 sz1) (.int .i64 qu1) (.string ag1) (.slice ma1 m1 mc1) ∧ ow (wm3.alloc (.cells #[.slice za zn zc, .int .i64 zs, .int .i64 zq, .string zg, .slice zma zm zmc] 35)) (H + 1) (.slice na2 n2 nc2) (.int .i64 sz2) (.int .i64 qu2) (.string ag2) (.slice ma2 m2 mc2) ∧ ow (wm3.alloc (.cells #[.slice za zn zc, .int .i64 zs, .int .i64 zq, .string zg, .slice zma zm zmc] 35)) (H + 1 + 1) (.slice na3 n3 nc3) (.int .i64 sz3) (.int .i64 qu3) (.string ag3) (.slice ma3 m3 mc3) ∧ Below H w (wm3.alloc (.cells #[.slice za zn zc, .int .i64 zs, .int .i64 zq, .string zg, .slice zma zm zmc] 35)) ∧ ow (wm3.alloc (.cells #[.slice za zn zc, .int .i64 zs, .int .i64 zq, .string zg, .slice zma zm zmc] 35)) bX (.slice xa xn xc) (.int .i64 xs) (.int .i64 xq) (.string xg) (.slice xma xm xmc) ∧ TV (fun _ => True) (wm3.alloc (.cells #[.slice za zn zc, .int .i64 zs, .int .i64 zq, .string zg, .slice zma zm zmc] 35)) (.agg #[.slice xa xn xc, .int .i64 xs, .int .i64 xq, .string xg, .slice xma xm xmc]) dX ∧ ow (wm3.alloc (.cells #[.slice za zn zc, .int .i64 zs, .int .i64 zq, .string zg, .slice zma zm zmc] 35)) bY (.slice ya yn yc) (.int .i64 ys) (.int .i64 yq) (.string yg) (.slice yma ym ymc) ∧ TV (fun _ => True) (wm3.alloc (.cells #[.slice za zn zc, .int .i64 zs, .int .i64 zq, .string zg, .slice zma zm zmc] 35)) (.agg #[.slice ya yn yc, .int .i64 ys, .int .i64 yq, .string yg, .slice yma ym ymc]) dY ∧ ow (wm3.alloc (.cells #[.slice za zn zc, .int .i64 zs, .int .i64 zq, .string zg, .slice zma zm zmc] 35)) wm3.heap.size (.slice za zn zc) (.int .i64 zs) (.int .i64 zq) (.string zg) (.slice zma zm zmc) ∧ TV (fun _ => True) (wm3.alloc (.cells #[.slice za zn zc, .int .i64 zs, .int .i64 zq, .string zg, .slice zma zm zmc] 35)) (.agg #[.slice za zn zc, .int .i64 zs, .int .i64 zq, .string zg, .slice zma zm zmc]) (mdD ns3 sz3 qu3 ag3 es3)) := ⟨ow_keep HM2.out.1 bc, ow_keep HM2.out.2.1 bc, ow_keep HM2.out.2.2.1 bc, HM2.out.2.2.2.1.trans (bc.mono (by have h9 := HM2.out.2.2.2.1.size; have h8 := HS.out; omega)), ow_keep HM2.out.2.2.2.2.1 bc, HM2.out.2.2.2.2.2.1.keep bc, ow_keep HM2.out.2.2.2.2.2.2.1 bc, HM2.out.2.2.2.2.2.2.2.keep bc, heap_new _ _, htv.keep bb⟩
        have HEz : Hid (zn = (mdD ns3 sz3 qu3 ag3 es3).ns.length ∧ zs = (mdD ns3 sz3 qu3 ag3 es3).sz ∧ zq = (mdD ns3 sz3 qu3 ag3 es3).qu) := ⟨ez1, ez2, ez3⟩
        have HGD3 : Hid ((mdD ns3 sz3 qu3 ag3 es3).good ∧ (mdD ns3 sz3 qu3 ag3 es3).bd 1048576) := ⟨mdD_good _ _ _ _ _, mdD_bd (by rw [HL.out.2.2.2.2.1]; exact HD3.out.2.2.1) (by rw [HL.out.2.2.2.2.2]; exact HD3.out.2.2.2.1) HD3.out.2.2.2.2.1 HD3.out.2.2.2.2.2.1 (fun e he => ⟨(HD3.out.2.2.2.2.2.2 e he).1, (HD3.out.2.2.2.2.2.2 e he).2, by obtain ⟨i, hi, rfl⟩ := List.getElem_of_mem he; rw [← dvG_at hi]; exact HS3.out i (by rw [← HL.out.2.2.2.2.2]; exact hi)⟩)⟩
        clear a0 a1 a2 a3 a4 HM2 HMD htv hb bb bc ez1 ez2 ez3 HS3
        generalize mdD ns3 sz3 qu3 ag3 es3 = dZ at *
        go_upto_region 6 with fail
        generalize (wm3.alloc (.cells #[.slice za zn zc, .int .i64 zs, .int .i64 zq, .string zg, .slice zma zm zmc] 35)) = wn3 at *
        generalize wm3.heap.size = bZ at *
        have bb : Below wn3.heap.size wn3 (wn3.alloc (.cells #[.slice none 0 0, .int .i64 0, .int .i64 0, .string ⟨#[]⟩, .slice none 0 0] 35)) := (Below.refl _ _).alloc (Nat.le_refl _) _
        have HQA : Hid (QL w (wn3.alloc (.cells #[.slice none 0 0, .int .i64 0, .int .i64 0, .string ⟨#[]⟩, .slice none 0 0] 35)) bX bY bZ wn3.heap.size (.slice xa xn xc) (.int .i64 xs) (.int .i64 xq) (.string xg) (.slice xma xm xmc) (.slice ya yn yc) (.int .i64 ys) (.int .i64 yq) (.string yg) (.slice yma ym ymc) (.slice za zn zc) (.int .i64 zs) (.int .i64 zq) (.string zg) (.slice zma zm zmc) dX dY dZ) := ⟨ow_keep HM3.out.2.2.2.2.1 bb, ow_keep HM3.out.2.2.2.2.2.2.1 bb, ow_keep HM3.out.2.2.2.2.2.2.2.2.1 bb, heap_new _ _, HM3.out.2.2.2.2.2.1.keep bb, HM3.out.2.2.2.2.2.2.2.1.keep bb, HM3.out.2.2.2.2.2.2.2.2.2.keep bb, by rw [HS.out]; exact HM3.out.2.2.2.1.trans (bb.mono (by have h9 := HM3.out.2.2.2.1.size; have h8 := HS.out; omega))⟩
        have HG : Hid (GS dX dY dZ) := ⟨HGD1.out.1, HGD2.out.1, HGD3.out.1, HGD1.out.2, HGD2.out.2, HGD3.out.2⟩
        clear bb HM3 HGD1 HGD2 HGD3 HD1 HD2 HD3 HL
        go_upto_region 7 with fail
        generalize (wn3.alloc (.cells #[.slice none 0 0, .int .i64 0, .int .i64 0, .string ⟨#[]⟩, .slice none 0 0] 35)) = wB at *
        generalize wn3.heap.size = bN at *
        have HQ0 := HQA
        clear HQA
        go_cut [13] from 43 to 50 (fun s13 wx => ∃ (d : Nat) (la : Option Addr) (ln lc : Nat) (ls lq : Int) (lg : ByteArray) (lma : Option Addr) (lm lmc : Nat), s13 = .pointer (some ⟨d, 0, none⟩) ∧ ow wx d (.slice la ln lc) (.int .i64 ls) (.int .i64 lq) (.string lg) (.slice lma lm lmc) ∧ TV (fun _ => True) wx (.agg #[.slice la ln lc, .int .i64 ls, .int .i64 lq, .string lg, .slice lma lm lmc]) (mgD (mgD dX dY) dZ) ∧ Below wB.heap.size wB wx)
        case first =>
          refine wp_region_held_drew (S := fun s => C5 s bX (.slice xa xn xc) (.int .i64 xs) (.int .i64 xq) (.string xg) (.slice xma xm xmc) ∧ C5 s bY (.slice ya yn yc) (.int .i64 ys) (.int .i64 yq) (.string yg) (.slice yma ym ymc) ∧ C5 s bZ (.slice za zn zc) (.int .i64 zs) (.int .i64 zq) (.string zg) (.slice zma zm zmc)) (by kernel_rfl) (HQ0.out.s3 (belowDrew1 _)) (fun hHeld => ?_)
          refine wpAnyH_take (i := 0) (v := .agg #[.slice xa xn xc, .int .i64 xs, .int .i64 xq, .string xg, .slice xma xm xmc]) rfl (by kernel_rfl) (by kernel_rfl) (by kernel_rfl) (fun _ _ _ h => h) (Or.inl ⟨by rfl, fun w hw => by obtain ⟨⟨a0, a1, a2, a3, a4⟩, ⟨b0, b1, b2, b3, b4⟩, c0, c1, c2, c3, c4⟩ := hw; go_simp⟩) hHeld ?_
          simp only [Act.put, List.getElem_toArray, List.getElem_cons_zero, List.setIfInBounds_toArray, List.set_cons_zero, List.set_cons_succ]
          refine wpAnyH_take (i := 2) (v := .agg #[.slice ya yn yc, .int .i64 ys, .int .i64 yq, .string yg, .slice yma ym ymc]) rfl (by kernel_rfl) (by kernel_rfl) (by kernel_rfl) (fun _ _ _ h => h) (Or.inl ⟨by rfl, fun w hw => by obtain ⟨⟨a0, a1, a2, a3, a4⟩, ⟨b0, b1, b2, b3, b4⟩, c0, c1, c2, c3, c4⟩ := hw; go_simp⟩) hHeld ?_
          simp only [Act.put, List.getElem_toArray, List.getElem_cons_zero, List.getElem_cons_succ, List.setIfInBounds_toArray, List.set_cons_zero, List.set_cons_succ]
          refine wpAnyH_take (i := 5) (v := .agg #[.slice za zn zc, .int .i64 zs, .int .i64 zq, .string zg, .slice zma zm zmc]) rfl (by kernel_rfl) (by kernel_rfl) (by kernel_rfl) (fun _ _ _ h => h) (Or.inl ⟨by rfl, fun w hw => by obtain ⟨⟨a0, a1, a2, a3, a4⟩, ⟨b0, b1, b2, b3, b4⟩, c0, c1, c2, c3, c4⟩ := hw; go_simp⟩) hHeld ?_
          simp only [Act.put, List.getElem_toArray, List.getElem_cons_zero, List.getElem_cons_succ, List.setIfInBounds_toArray, List.set_cons_zero, List.set_cons_succ]
          have HB0 : Hid (Below wB.heap.size wB wB.drew) := belowDrew1 _
          generalize wB.drew = v0 at *
          refine wpAnyH_ready (rs := [1, 8]) (by kernel_rfl) (by simp) ?_
          refine AllReadyH.cons (o := _) rfl (fun K hK => ?_) (AllReadyH.cons (o := _) rfl (fun K hK => ?_) AllReadyH.nil)
          · go_simp
            refine (twinT (HQ0.out.keep HB0.out).tx HG.out.bX (by decide)).mono ?_
            rintro e v1 ⟨t2, rfl, htv, hb⟩
            have HB3 : Hid (Below wB.heap.size wB v1) := HB0.out.trans (hb.mono HB0.out.size)
            have HT4 := Lib.hid htv
            clear htv hb HB0  
            go_wp2_with fail
            refine hK _ _ (HQ0.out.s3 HB3.out) (fun hHeld => ?_)
            clear hK K
            refine wpAnyH_ready (rs := [3, 8]) (by kernel_rfl) (by simp) ?_
            refine AllReadyH.cons (o := _) rfl (fun K hK => ?_) (AllReadyH.cons (o := _) rfl (fun K hK => ?_) AllReadyH.nil)
            · go_simp
              refine (twinT (HQ0.out.keep HB3.out).ty HG.out.bY (by decide)).mono ?_
              rintro e v5 ⟨t6, rfl, htv, hb⟩
              have HB7 : Hid (Below wB.heap.size wB v5) := HB3.out.trans (hb.mono HB3.out.size)
              have HT9 := Lib.hid (HT4.out.keep hb)
              have HT8 := Lib.hid htv
              clear htv hb HB3 HT4 
              go_wp2_with fail
              refine hK _ _ (HQ0.out.s3 HB7.out) (fun hHeld => ?_)
              clear hK K
              refine wpAnyH_ready (rs := [4, 8]) (by kernel_rfl) (by simp) ?_
              refine AllReadyH.cons (o := _) rfl (fun K hK => ?_) (AllReadyH.cons (o := _) rfl (fun K hK => ?_) AllReadyH.nil)
              · go_simp
                refine (mergeT HT9.out HT8.out HG.out.gX HG.out.gY HG.out.bX HG.out.bY (by decide)).mono ?_
                rintro e v10 ⟨t11, rfl, htv, hb⟩
                have HB12 : Hid (Below wB.heap.size wB v10) := HB7.out.trans (hb.mono HB7.out.size)
                have HT14 := Lib.hid (HT9.out.keep hb)
                have HT15 := Lib.hid (HT8.out.keep hb)
                have HT13 := Lib.hid htv
                clear htv hb HB7 HT9 HT8 
                go_wp2_with fail
                refine hK _ _ (HQ0.out.s3 HB12.out) (fun hHeld => ?_)
                clear hK K
                refine wpAnyH_ready (rs := [6, 8]) (by kernel_rfl) (by simp) ?_
                refine AllReadyH.cons (o := _) rfl (fun K hK => ?_) (AllReadyH.cons (o := _) rfl (fun K hK => ?_) AllReadyH.nil)
                · go_simp
                  refine (twinT (HQ0.out.keep HB12.out).tz HG.out.bZ (by decide)).mono ?_
                  rintro e v16 ⟨t17, rfl, htv, hb⟩
                  have HB18 : Hid (Below wB.heap.size wB v16) := HB12.out.trans (hb.mono HB12.out.size)
                  have HT20 := Lib.hid (HT14.out.keep hb)
                  have HT21 := Lib.hid (HT15.out.keep hb)
                  have HT22 := Lib.hid (HT13.out.keep hb)
                  have HT19 := Lib.hid htv
                  clear htv hb HB12 HT14 HT15 HT13 
                  go_wp2_with fail
                  refine hK _ _ (HQ0.out.s3 HB18.out) (fun hHeld => ?_)
                  clear hK K
                  refine wpAnyH_ready (rs := [7, 8]) (by kernel_rfl) (by simp) ?_
                  refine AllReadyH.cons (o := _) rfl (fun K hK => ?_) (AllReadyH.cons (o := _) rfl (fun K hK => ?_) AllReadyH.nil)
                  · go_simp
                    refine (mergeT HT22.out HT19.out (HG.out.gX.mg HG.out.gY) HG.out.gZ (HG.out.bX.mg HG.out.bY) (HG.out.bZ.up (by decide)) (by decide)).mono ?_
                    rintro e v23 ⟨t24, rfl, htv, hb⟩
                    have HB25 : Hid (Below wB.heap.size wB v23) := HB18.out.trans (hb.mono HB18.out.size)
                    have HT27 := Lib.hid (HT20.out.keep hb)
                    have HT28 := Lib.hid (HT21.out.keep hb)
                    have HT29 := Lib.hid (HT22.out.keep hb)
                    have HT30 := Lib.hid (HT19.out.keep hb)
                    have HT26 := Lib.hid htv
                    clear htv hb HB18 HT20 HT21 HT22 HT19 
                    go_wp2_with fail
                    refine hK _ _ (HQ0.out.s3 HB25.out) (fun hHeld => ?_)
                    clear hK K
                    refine wpAnyH_ready (rs := [8]) (by kernel_rfl) (by simp) ?_
                    refine AllReadyH.cons (o := _) rfl (fun K hK => ?_) AllReadyH.nil
                    go_simp
                    have hb : Below v23.heap.size v23 (v23.alloc (.cells #[.slice none 0 0, .int .i64 0, .int .i64 0, .string ⟨#[]⟩, .slice none 0 0] 35)) := (Below.refl _ _).alloc (Nat.le_refl _) _
                    have HB32 : Hid (Below wB.heap.size wB (v23.alloc (.cells #[.slice none 0 0, .int .i64 0, .int .i64 0, .string ⟨#[]⟩, .slice none 0 0] 35))) := HB25.out.trans (hb.mono HB25.out.size)
                    have HA33 : Hid ((v23.alloc (.cells #[.slice none 0 0, .int .i64 0, .int .i64 0, .string ⟨#[]⟩, .slice none 0 0] 35)).heap[v23.heap.size]? = some (.cells #[.slice none 0 0, .int .i64 0, .int .i64 0, .string ⟨#[]⟩, .slice none 0 0] 35 (0, 0)) ∧ wB.heap.size ≤ v23.heap.size) := ⟨heap_new _ _, HB25.out.size⟩
                    have HT34 := Lib.hid (HT27.out.keep hb)
                    have HT35 := Lib.hid (HT28.out.keep hb)
                    have HT36 := Lib.hid (HT29.out.keep hb)
                    have HT37 := Lib.hid (HT30.out.keep hb)
                    have HT38 : Hid (TV (fun b => b ≠ v23.heap.size) (v23.alloc (.cells #[.slice none 0 0, .int .i64 0, .int .i64 0, .string ⟨#[]⟩, .slice none 0 0] 35)) _ (mgD (mgD dX dY) dZ)) := HT26.out.move (fun b _ hl => Nat.ne_of_lt hl) hb.size (fun b _ hl => hb.block b hl)
                    clear hb HB25 HT27 HT28 HT29 HT30 HT26
                    refine hK _ _ (HQ0.out.s3 HB32.out) (fun hHeld => ?_)
                    clear hK K
                    generalize (v23.alloc (.cells #[.slice none 0 0, .int .i64 0, .int .i64 0, .string ⟨#[]⟩, .slice none 0 0] 35)) = v31 at *
                    generalize hdd : v23.heap.size = d31 at *
                    clear hdd
                    obtain ⟨ra, rn, rc, rs, rq, rg, rma, rm, rmc, hrf, -⟩ := HT38.out.form2
                    subst hrf
                    refine wpAnyH_ready (rs := [9]) (by kernel_rfl) (by simp) ?_
                    refine AllReadyH.cons (o := _) rfl (fun K hK => ?_) AllReadyH.nil
                    have hz := HA33.out.1
                    have z0 : v31.cell? ⟨d31, 0, none⟩ = some (.slice none 0 0) := by simp [World.cell?, hz]
                    have z1 : v31.cell? ⟨d31, 1, none⟩ = some (.int .i64 0) := by simp [World.cell?, hz]
                    have z2 : v31.cell? ⟨d31, 2, none⟩ = some (.int .i64 0) := by simp [World.cell?, hz]
                    have z3 : v31.cell? ⟨d31, 3, none⟩ = some (.string ⟨#[]⟩) := by simp [World.cell?, hz]
                    have z4 : v31.cell? ⟨d31, 4, none⟩ = some (.slice none 0 0) := by simp [World.cell?, hz]
                    have f0 : v31.frozen? ⟨d31, 0, none⟩ = false := by simp [World.frozen?, hz]
                    have f1 : v31.frozen? ⟨d31, 1, none⟩ = false := by simp [World.frozen?, hz]
                    have f2 : v31.frozen? ⟨d31, 2, none⟩ = false := by simp [World.frozen?, hz]
                    have f3 : v31.frozen? ⟨d31, 3, none⟩ = false := by simp [World.frozen?, hz]
                    have f4 : v31.frozen? ⟨d31, 4, none⟩ = false := by simp [World.frozen?, hz]
                    clear hz
                    go_simp
                    have HBE : Hid (Below wB.heap.size wB (((((v31.setCell ⟨d31, 0, none⟩ (.slice ra rn rc)).setCell ⟨d31, 1, none⟩ (.int .i64 rs)).setCell ⟨d31, 2, none⟩ (.int .i64 rq)).setCell ⟨d31, 3, none⟩ (.string rg)).setCell ⟨d31, 4, none⟩ (.slice rma rm rmc))) := below5 HB32.out HA33.out.2 _ _ _ _ _
                    refine hK _ _ (HQ0.out.s3 HBE.out) (fun hHeld => ?_)
                    clear hK K z0 z1 z2 z3 z4 f0 f1 f2 f3 f4
                    refine wpAnyH_done (by kernel_rfl) ?_ _
                    clear hHeld
                    go_wp2_with fail
                    go_meet
                    case rel => exact ⟨d31, ra, rn, rc, rs, rq, rg, rma, rm, rmc, rfl, own5 HA33.out.1 _ _ _ _ _, HT38.out.move (fun _ _ _ => trivial) (besides5 _ _ _ _ _ _ _).size (fun b hne hl => (besides5 _ _ _ _ _ _ _).block b hl hne), HBE.out⟩
                  · go_simp
                    have hb : Below v16.heap.size v16 (v16.alloc (.cells #[.slice none 0 0, .int .i64 0, .int .i64 0, .string ⟨#[]⟩, .slice none 0 0] 35)) := (Below.refl _ _).alloc (Nat.le_refl _) _
                    have HB41 : Hid (Below wB.heap.size wB (v16.alloc (.cells #[.slice none 0 0, .int .i64 0, .int .i64 0, .string ⟨#[]⟩, .slice none 0 0] 35))) := HB18.out.trans (hb.mono HB18.out.size)
                    have HA42 : Hid ((v16.alloc (.cells #[.slice none 0 0, .int .i64 0, .int .i64 0, .string ⟨#[]⟩, .slice none 0 0] 35)).heap[v16.heap.size]? = some (.cells #[.slice none 0 0, .int .i64 0, .int .i64 0, .string ⟨#[]⟩, .slice none 0 0] 35 (0, 0)) ∧ wB.heap.size ≤ v16.heap.size) := ⟨heap_new _ _, HB18.out.size⟩
                    have HT43 := Lib.hid (HT20.out.keep hb)
                    have HT44 := Lib.hid (HT21.out.keep hb)
                    have HT45 := Lib.hid (HT22.out.keep hb)
                    have HT46 := Lib.hid (HT19.out.keep hb)
                    clear hb HB18 HT20 HT21 HT22 HT19
                    refine hK _ _ (HQ0.out.s3 HB41.out) (fun hHeld => ?_)
                    clear hK K
                    generalize (v16.alloc (.cells #[.slice none 0 0, .int .i64 0, .int .i64 0, .string ⟨#[]⟩, .slice none 0 0] 35)) = v40 at *
                    generalize hdd : v16.heap.size = d40 at *
                    clear hdd
                    refine wpAnyH_ready (rs := [7]) (by kernel_rfl) (by simp) ?_
                    refine AllReadyH.cons (o := _) rfl (fun K hK => ?_) AllReadyH.nil
                    go_simp
                    refine (mergeT HT45.out HT46.out (HG.out.gX.mg HG.out.gY) HG.out.gZ (HG.out.bX.mg HG.out.bY) (HG.out.bZ.up (by decide)) (by decide)).mono ?_
                    rintro e v47 ⟨t48, rfl, htv, hb⟩
                    have HB49 : Hid (Below wB.heap.size wB v47) := HB41.out.trans (hb.mono HB41.out.size)
                    have HT51 := Lib.hid (HT43.out.keep hb)
                    have HT52 := Lib.hid (HT44.out.keep hb)
                    have HT53 := Lib.hid (HT45.out.keep hb)
                    have HT54 := Lib.hid (HT46.out.keep hb)
                    have hlt := (Array.getElem?_eq_some_iff.1 HA42.out.1).1
                    have HA55 : Hid (v47.heap[d40]? = some (.cells #[.slice none 0 0, .int .i64 0, .int .i64 0, .string ⟨#[]⟩, .slice none 0 0] 35 (0, 0)) ∧ wB.heap.size ≤ d40) := ⟨(hb.block _ hlt).trans HA42.out.1, HA42.out.2⟩
                    have HT50 : Hid (TV (fun b => b ≠ d40) v47 t48 (mgD (mgD dX dY) dZ)) := htv.move (fun b h _ => (show b ≠ d40 by have h9 : _ ≤ b := h; omega)) (Nat.le_refl _) (fun _ _ _ => rfl)
                    clear htv hb HB41 HT43 HT44 HT45 HT46 HA42 hlt
                    go_wp2_with fail
                    refine hK _ _ (HQ0.out.s3 HB49.out) (fun hHeld => ?_)
                    clear hK K
                    obtain ⟨ra, rn, rc, rs, rq, rg, rma, rm, rmc, hrf, -⟩ := HT50.out.form2
                    subst hrf
                    refine wpAnyH_ready (rs := [9]) (by kernel_rfl) (by simp) ?_
                    refine AllReadyH.cons (o := _) rfl (fun K hK => ?_) AllReadyH.nil
                    have hz := HA55.out.1
                    have z0 : v47.cell? ⟨d40, 0, none⟩ = some (.slice none 0 0) := by simp [World.cell?, hz]
                    have z1 : v47.cell? ⟨d40, 1, none⟩ = some (.int .i64 0) := by simp [World.cell?, hz]
                    have z2 : v47.cell? ⟨d40, 2, none⟩ = some (.int .i64 0) := by simp [World.cell?, hz]
                    have z3 : v47.cell? ⟨d40, 3, none⟩ = some (.string ⟨#[]⟩) := by simp [World.cell?, hz]
                    have z4 : v47.cell? ⟨d40, 4, none⟩ = some (.slice none 0 0) := by simp [World.cell?, hz]
                    have f0 : v47.frozen? ⟨d40, 0, none⟩ = false := by simp [World.frozen?, hz]
                    have f1 : v47.frozen? ⟨d40, 1, none⟩ = false := by simp [World.frozen?, hz]
                    have f2 : v47.frozen? ⟨d40, 2, none⟩ = false := by simp [World.frozen?, hz]
                    have f3 : v47.frozen? ⟨d40, 3, none⟩ = false := by simp [World.frozen?, hz]
                    have f4 : v47.frozen? ⟨d40, 4, none⟩ = false := by simp [World.frozen?, hz]
                    clear hz
                    go_simp
                    have HBE : Hid (Below wB.heap.size wB (((((v47.setCell ⟨d40, 0, none⟩ (.slice ra rn rc)).setCell ⟨d40, 1, none⟩ (.int .i64 rs)).setCell ⟨d40, 2, none⟩ (.int .i64 rq)).setCell ⟨d40, 3, none⟩ (.string rg)).setCell ⟨d40, 4, none⟩ (.slice rma rm rmc))) := below5 HB49.out HA55.out.2 _ _ _ _ _
                    refine hK _ _ (HQ0.out.s3 HBE.out) (fun hHeld => ?_)
                    clear hK K z0 z1 z2 z3 z4 f0 f1 f2 f3 f4
                    refine wpAnyH_done (by kernel_rfl) ?_ _
                    clear hHeld
                    go_wp2_with fail
                    go_meet
                    case rel => exact ⟨d40, ra, rn, rc, rs, rq, rg, rma, rm, rmc, rfl, own5 HA55.out.1 _ _ _ _ _, HT50.out.move (fun _ _ _ => trivial) (besides5 _ _ _ _ _ _ _).size (fun b hne hl => (besides5 _ _ _ _ _ _ _).block b hl hne), HBE.out⟩
                · go_simp
                  have hb : Below v10.heap.size v10 (v10.alloc (.cells #[.slice none 0 0, .int .i64 0, .int .i64 0, .string ⟨#[]⟩, .slice none 0 0] 35)) := (Below.refl _ _).alloc (Nat.le_refl _) _
                  have HB58 : Hid (Below wB.heap.size wB (v10.alloc (.cells #[.slice none 0 0, .int .i64 0, .int .i64 0, .string ⟨#[]⟩, .slice none 0 0] 35))) := HB12.out.trans (hb.mono HB12.out.size)
                  have HA59 : Hid ((v10.alloc (.cells #[.slice none 0 0, .int .i64 0, .int .i64 0, .string ⟨#[]⟩, .slice none 0 0] 35)).heap[v10.heap.size]? = some (.cells #[.slice none 0 0, .int .i64 0, .int .i64 0, .string ⟨#[]⟩, .slice none 0 0] 35 (0, 0)) ∧ wB.heap.size ≤ v10.heap.size) := ⟨heap_new _ _, HB12.out.size⟩
                  have HT60 := Lib.hid (HT14.out.keep hb)
                  have HT61 := Lib.hid (HT15.out.keep hb)
                  have HT62 := Lib.hid (HT13.out.keep hb)
                  clear hb HB12 HT14 HT15 HT13
                  refine hK _ _ (HQ0.out.s3 HB58.out) (fun hHeld => ?_)
                  clear hK K
                  generalize (v10.alloc (.cells #[.slice none 0 0, .int .i64 0, .int .i64 0, .string ⟨#[]⟩, .slice none 0 0] 35)) = v57 at *
                  generalize hdd : v10.heap.size = d57 at *
                  clear hdd
                  refine wpAnyH_ready (rs := [6]) (by kernel_rfl) (by simp) ?_
                  refine AllReadyH.cons (o := _) rfl (fun K hK => ?_) AllReadyH.nil
                  go_simp
                  refine (twinT (HQ0.out.keep HB58.out).tz HG.out.bZ (by decide)).mono ?_
                  rintro e v63 ⟨t64, rfl, htv, hb⟩
                  have HB65 : Hid (Below wB.heap.size wB v63) := HB58.out.trans (hb.mono HB58.out.size)
                  have HT67 := Lib.hid (HT60.out.keep hb)
                  have HT68 := Lib.hid (HT61.out.keep hb)
                  have HT69 := Lib.hid (HT62.out.keep hb)
                  have hlt := (Array.getElem?_eq_some_iff.1 HA59.out.1).1
                  have HA70 : Hid (v63.heap[d57]? = some (.cells #[.slice none 0 0, .int .i64 0, .int .i64 0, .string ⟨#[]⟩, .slice none 0 0] 35 (0, 0)) ∧ wB.heap.size ≤ d57) := ⟨(hb.block _ hlt).trans HA59.out.1, HA59.out.2⟩
                  have HT66 := Lib.hid htv
                  clear htv hb HB58 HT60 HT61 HT62 HA59 hlt
                  go_wp2_with fail
                  refine hK _ _ (HQ0.out.s3 HB65.out) (fun hHeld => ?_)
                  clear hK K
                  refine wpAnyH_ready (rs := [7]) (by kernel_rfl) (by simp) ?_
                  refine AllReadyH.cons (o := _) rfl (fun K hK => ?_) AllReadyH.nil
                  go_simp
                  refine (mergeT HT69.out HT66.out (HG.out.gX.mg HG.out.gY) HG.out.gZ (HG.out.bX.mg HG.out.bY) (HG.out.bZ.up (by decide)) (by decide)).mono ?_
                  rintro e v71 ⟨t72, rfl, htv, hb⟩
                  have HB73 : Hid (Below wB.heap.size wB v71) := HB65.out.trans (hb.mono HB65.out.size)
                  have HT75 := Lib.hid (HT67.out.keep hb)
                  have HT76 := Lib.hid (HT68.out.keep hb)
                  have HT77 := Lib.hid (HT69.out.keep hb)
                  have HT78 := Lib.hid (HT66.out.keep hb)
                  have hlt := (Array.getElem?_eq_some_iff.1 HA70.out.1).1
                  have HA79 : Hid (v71.heap[d57]? = some (.cells #[.slice none 0 0, .int .i64 0, .int .i64 0, .string ⟨#[]⟩, .slice none 0 0] 35 (0, 0)) ∧ wB.heap.size ≤ d57) := ⟨(hb.block _ hlt).trans HA70.out.1, HA70.out.2⟩
                  have HT74 : Hid (TV (fun b => b ≠ d57) v71 t72 (mgD (mgD dX dY) dZ)) := htv.move (fun b h _ => (show b ≠ d57 by have h9 : _ ≤ b := h; omega)) (Nat.le_refl _) (fun _ _ _ => rfl)
                  clear htv hb HB65 HT67 HT68 HT69 HT66 HA70 hlt
                  go_wp2_with fail
                  refine hK _ _ (HQ0.out.s3 HB73.out) (fun hHeld => ?_)
                  clear hK K
                  obtain ⟨ra, rn, rc, rs, rq, rg, rma, rm, rmc, hrf, -⟩ := HT74.out.form2
                  subst hrf
                  refine wpAnyH_ready (rs := [9]) (by kernel_rfl) (by simp) ?_
                  refine AllReadyH.cons (o := _) rfl (fun K hK => ?_) AllReadyH.nil
                  have hz := HA79.out.1
                  have z0 : v71.cell? ⟨d57, 0, none⟩ = some (.slice none 0 0) := by simp [World.cell?, hz]
                  have z1 : v71.cell? ⟨d57, 1, none⟩ = some (.int .i64 0) := by simp [World.cell?, hz]
                  have z2 : v71.cell? ⟨d57, 2, none⟩ = some (.int .i64 0) := by simp [World.cell?, hz]
                  have z3 : v71.cell? ⟨d57, 3, none⟩ = some (.string ⟨#[]⟩) := by simp [World.cell?, hz]
                  have z4 : v71.cell? ⟨d57, 4, none⟩ = some (.slice none 0 0) := by simp [World.cell?, hz]
                  have f0 : v71.frozen? ⟨d57, 0, none⟩ = false := by simp [World.frozen?, hz]
                  have f1 : v71.frozen? ⟨d57, 1, none⟩ = false := by simp [World.frozen?, hz]
                  have f2 : v71.frozen? ⟨d57, 2, none⟩ = false := by simp [World.frozen?, hz]
                  have f3 : v71.frozen? ⟨d57, 3, none⟩ = false := by simp [World.frozen?, hz]
                  have f4 : v71.frozen? ⟨d57, 4, none⟩ = false := by simp [World.frozen?, hz]
                  clear hz
                  go_simp
                  have HBE : Hid (Below wB.heap.size wB (((((v71.setCell ⟨d57, 0, none⟩ (.slice ra rn rc)).setCell ⟨d57, 1, none⟩ (.int .i64 rs)).setCell ⟨d57, 2, none⟩ (.int .i64 rq)).setCell ⟨d57, 3, none⟩ (.string rg)).setCell ⟨d57, 4, none⟩ (.slice rma rm rmc))) := below5 HB73.out HA79.out.2 _ _ _ _ _
                  refine hK _ _ (HQ0.out.s3 HBE.out) (fun hHeld => ?_)
                  clear hK K z0 z1 z2 z3 z4 f0 f1 f2 f3 f4
                  refine wpAnyH_done (by kernel_rfl) ?_ _
                  clear hHeld
                  go_wp2_with fail
                  go_meet
                  case rel => exact ⟨d57, ra, rn, rc, rs, rq, rg, rma, rm, rmc, rfl, own5 HA79.out.1 _ _ _ _ _, HT74.out.move (fun _ _ _ => trivial) (besides5 _ _ _ _ _ _ _).size (fun b hne hl => (besides5 _ _ _ _ _ _ _).block b hl hne), HBE.out⟩
              · go_simp
                have hb : Below v5.heap.size v5 (v5.alloc (.cells #[.slice none 0 0, .int .i64 0, .int .i64 0, .string ⟨#[]⟩, .slice none 0 0] 35)) := (Below.refl _ _).alloc (Nat.le_refl _) _
                have HB82 : Hid (Below wB.heap.size wB (v5.alloc (.cells #[.slice none 0 0, .int .i64 0, .int .i64 0, .string ⟨#[]⟩, .slice none 0 0] 35))) := HB7.out.trans (hb.mono HB7.out.size)
                have HA83 : Hid ((v5.alloc (.cells #[.slice none 0 0, .int .i64 0, .int .i64 0, .string ⟨#[]⟩, .slice none 0 0] 35)).heap[v5.heap.size]? = some (.cells #[.slice none 0 0, .int .i64 0, .int .i64 0, .string ⟨#[]⟩, .slice none 0 0] 35 (0, 0)) ∧ wB.heap.size ≤ v5.heap.size) := ⟨heap_new _ _, HB7.out.size⟩
                have HT84 := Lib.hid (HT9.out.keep hb)
                have HT85 := Lib.hid (HT8.out.keep hb)
                clear hb HB7 HT9 HT8
                refine hK _ _ (HQ0.out.s3 HB82.out) (fun hHeld => ?_)
                clear hK K
                generalize (v5.alloc (.cells #[.slice none 0 0, .int .i64 0, .int .i64 0, .string ⟨#[]⟩, .slice none 0 0] 35)) = v81 at *
                generalize hdd : v5.heap.size = d81 at *
                clear hdd
                refine wpAnyH_ready (rs := [4]) (by kernel_rfl) (by simp) ?_
                refine AllReadyH.cons (o := _) rfl (fun K hK => ?_) AllReadyH.nil
                go_simp
                refine (mergeT HT84.out HT85.out HG.out.gX HG.out.gY HG.out.bX HG.out.bY (by decide)).mono ?_
                rintro e v86 ⟨t87, rfl, htv, hb⟩
                have HB88 : Hid (Below wB.heap.size wB v86) := HB82.out.trans (hb.mono HB82.out.size)
                have HT90 := Lib.hid (HT84.out.keep hb)
                have HT91 := Lib.hid (HT85.out.keep hb)
                have hlt := (Array.getElem?_eq_some_iff.1 HA83.out.1).1
                have HA92 : Hid (v86.heap[d81]? = some (.cells #[.slice none 0 0, .int .i64 0, .int .i64 0, .string ⟨#[]⟩, .slice none 0 0] 35 (0, 0)) ∧ wB.heap.size ≤ d81) := ⟨(hb.block _ hlt).trans HA83.out.1, HA83.out.2⟩
                have HT89 := Lib.hid htv
                clear htv hb HB82 HT84 HT85 HA83 hlt
                go_wp2_with fail
                refine hK _ _ (HQ0.out.s3 HB88.out) (fun hHeld => ?_)
                clear hK K
                refine wpAnyH_ready (rs := [6]) (by kernel_rfl) (by simp) ?_
                refine AllReadyH.cons (o := _) rfl (fun K hK => ?_) AllReadyH.nil
                go_simp
                refine (twinT (HQ0.out.keep HB88.out).tz HG.out.bZ (by decide)).mono ?_
                rintro e v93 ⟨t94, rfl, htv, hb⟩
                have HB95 : Hid (Below wB.heap.size wB v93) := HB88.out.trans (hb.mono HB88.out.size)
                have HT97 := Lib.hid (HT90.out.keep hb)
                have HT98 := Lib.hid (HT91.out.keep hb)
                have HT99 := Lib.hid (HT89.out.keep hb)
                have hlt := (Array.getElem?_eq_some_iff.1 HA92.out.1).1
                have HA100 : Hid (v93.heap[d81]? = some (.cells #[.slice none 0 0, .int .i64 0, .int .i64 0, .string ⟨#[]⟩, .slice none 0 0] 35 (0, 0)) ∧ wB.heap.size ≤ d81) := ⟨(hb.block _ hlt).trans HA92.out.1, HA92.out.2⟩
                have HT96 := Lib.hid htv
                clear htv hb HB88 HT90 HT91 HT89 HA92 hlt
                go_wp2_with fail
                refine hK _ _ (HQ0.out.s3 HB95.out) (fun hHeld => ?_)
                clear hK K
                refine wpAnyH_ready (rs := [7]) (by kernel_rfl) (by simp) ?_
                refine AllReadyH.cons (o := _) rfl (fun K hK => ?_) AllReadyH.nil
                go_simp
                refine (mergeT HT99.out HT96.out (HG.out.gX.mg HG.out.gY) HG.out.gZ (HG.out.bX.mg HG.out.bY) (HG.out.bZ.up (by decide)) (by decide)).mono ?_
                rintro e v101 ⟨t102, rfl, htv, hb⟩
                have HB103 : Hid (Below wB.heap.size wB v101) := HB95.out.trans (hb.mono HB95.out.size)
                have HT105 := Lib.hid (HT97.out.keep hb)
                have HT106 := Lib.hid (HT98.out.keep hb)
                have HT107 := Lib.hid (HT99.out.keep hb)
                have HT108 := Lib.hid (HT96.out.keep hb)
                have hlt := (Array.getElem?_eq_some_iff.1 HA100.out.1).1
                have HA109 : Hid (v101.heap[d81]? = some (.cells #[.slice none 0 0, .int .i64 0, .int .i64 0, .string ⟨#[]⟩, .slice none 0 0] 35 (0, 0)) ∧ wB.heap.size ≤ d81) := ⟨(hb.block _ hlt).trans HA100.out.1, HA100.out.2⟩
                have HT104 : Hid (TV (fun b => b ≠ d81) v101 t102 (mgD (mgD dX dY) dZ)) := htv.move (fun b h _ => (show b ≠ d81 by have h9 : _ ≤ b := h; omega)) (Nat.le_refl _) (fun _ _ _ => rfl)
                clear htv hb HB95 HT97 HT98 HT99 HT96 HA100 hlt
                go_wp2_with fail
                refine hK _ _ (HQ0.out.s3 HB103.out) (fun hHeld => ?_)
                clear hK K
                obtain ⟨ra, rn, rc, rs, rq, rg, rma, rm, rmc, hrf, -⟩ := HT104.out.form2
                subst hrf
                refine wpAnyH_ready (rs := [9]) (by kernel_rfl) (by simp) ?_
                refine AllReadyH.cons (o := _) rfl (fun K hK => ?_) AllReadyH.nil
                have hz := HA109.out.1
                have z0 : v101.cell? ⟨d81, 0, none⟩ = some (.slice none 0 0) := by simp [World.cell?, hz]
                have z1 : v101.cell? ⟨d81, 1, none⟩ = some (.int .i64 0) := by simp [World.cell?, hz]
                have z2 : v101.cell? ⟨d81, 2, none⟩ = some (.int .i64 0) := by simp [World.cell?, hz]
                have z3 : v101.cell? ⟨d81, 3, none⟩ = some (.string ⟨#[]⟩) := by simp [World.cell?, hz]
                have z4 : v101.cell? ⟨d81, 4, none⟩ = some (.slice none 0 0) := by simp [World.cell?, hz]
                have f0 : v101.frozen? ⟨d81, 0, none⟩ = false := by simp [World.frozen?, hz]
                have f1 : v101.frozen? ⟨d81, 1, none⟩ = false := by simp [World.frozen?, hz]
                have f2 : v101.frozen? ⟨d81, 2, none⟩ = false := by simp [World.frozen?, hz]
                have f3 : v101.frozen? ⟨d81, 3, none⟩ = false := by simp [World.frozen?, hz]
                have f4 : v101.frozen? ⟨d81, 4, none⟩ = false := by simp [World.frozen?, hz]
                clear hz
                go_simp
                have HBE : Hid (Below wB.heap.size wB (((((v101.setCell ⟨d81, 0, none⟩ (.slice ra rn rc)).setCell ⟨d81, 1, none⟩ (.int .i64 rs)).setCell ⟨d81, 2, none⟩ (.int .i64 rq)).setCell ⟨d81, 3, none⟩ (.string rg)).setCell ⟨d81, 4, none⟩ (.slice rma rm rmc))) := below5 HB103.out HA109.out.2 _ _ _ _ _
                refine hK _ _ (HQ0.out.s3 HBE.out) (fun hHeld => ?_)
                clear hK K z0 z1 z2 z3 z4 f0 f1 f2 f3 f4
                refine wpAnyH_done (by kernel_rfl) ?_ _
                clear hHeld
                go_wp2_with fail
                go_meet
                case rel => exact ⟨d81, ra, rn, rc, rs, rq, rg, rma, rm, rmc, rfl, own5 HA109.out.1 _ _ _ _ _, HT104.out.move (fun _ _ _ => trivial) (besides5 _ _ _ _ _ _ _).size (fun b hne hl => (besides5 _ _ _ _ _ _ _).block b hl hne), HBE.out⟩
            · go_simp
              have hb : Below v1.heap.size v1 (v1.alloc (.cells #[.slice none 0 0, .int .i64 0, .int .i64 0, .string ⟨#[]⟩, .slice none 0 0] 35)) := (Below.refl _ _).alloc (Nat.le_refl _) _
              have HB112 : Hid (Below wB.heap.size wB (v1.alloc (.cells #[.slice none 0 0, .int .i64 0, .int .i64 0, .string ⟨#[]⟩, .slice none 0 0] 35))) := HB3.out.trans (hb.mono HB3.out.size)
              have HA113 : Hid ((v1.alloc (.cells #[.slice none 0 0, .int .i64 0, .int .i64 0, .string ⟨#[]⟩, .slice none 0 0] 35)).heap[v1.heap.size]? = some (.cells #[.slice none 0 0, .int .i64 0, .int .i64 0, .string ⟨#[]⟩, .slice none 0 0] 35 (0, 0)) ∧ wB.heap.size ≤ v1.heap.size) := ⟨heap_new _ _, HB3.out.size⟩
              have HT114 := Lib.hid (HT4.out.keep hb)
              clear hb HB3 HT4
              refine hK _ _ (HQ0.out.s3 HB112.out) (fun hHeld => ?_)
              clear hK K
              generalize (v1.alloc (.cells #[.slice none 0 0, .int .i64 0, .int .i64 0, .string ⟨#[]⟩, .slice none 0 0] 35)) = v111 at *
              generalize hdd : v1.heap.size = d111 at *
              clear hdd
              refine wpAnyH_ready (rs := [3]) (by kernel_rfl) (by simp) ?_
              refine AllReadyH.cons (o := _) rfl (fun K hK => ?_) AllReadyH.nil
              go_simp
              refine (twinT (HQ0.out.keep HB112.out).ty HG.out.bY (by decide)).mono ?_
              rintro e v115 ⟨t116, rfl, htv, hb⟩
              have HB117 : Hid (Below wB.heap.size wB v115) := HB112.out.trans (hb.mono HB112.out.size)
              have HT119 := Lib.hid (HT114.out.keep hb)
              have hlt := (Array.getElem?_eq_some_iff.1 HA113.out.1).1
              have HA120 : Hid (v115.heap[d111]? = some (.cells #[.slice none 0 0, .int .i64 0, .int .i64 0, .string ⟨#[]⟩, .slice none 0 0] 35 (0, 0)) ∧ wB.heap.size ≤ d111) := ⟨(hb.block _ hlt).trans HA113.out.1, HA113.out.2⟩
              have HT118 := Lib.hid htv
              clear htv hb HB112 HT114 HA113 hlt
              go_wp2_with fail
              refine hK _ _ (HQ0.out.s3 HB117.out) (fun hHeld => ?_)
              clear hK K
              refine wpAnyH_ready (rs := [4]) (by kernel_rfl) (by simp) ?_
              refine AllReadyH.cons (o := _) rfl (fun K hK => ?_) AllReadyH.nil
              go_simp
              refine (mergeT HT119.out HT118.out HG.out.gX HG.out.gY HG.out.bX HG.out.bY (by decide)).mono ?_
              rintro e v121 ⟨t122, rfl, htv, hb⟩
              have HB123 : Hid (Below wB.heap.size wB v121) := HB117.out.trans (hb.mono HB117.out.size)
              have HT125 := Lib.hid (HT119.out.keep hb)
              have HT126 := Lib.hid (HT118.out.keep hb)
              have hlt := (Array.getElem?_eq_some_iff.1 HA120.out.1).1
              have HA127 : Hid (v121.heap[d111]? = some (.cells #[.slice none 0 0, .int .i64 0, .int .i64 0, .string ⟨#[]⟩, .slice none 0 0] 35 (0, 0)) ∧ wB.heap.size ≤ d111) := ⟨(hb.block _ hlt).trans HA120.out.1, HA120.out.2⟩
              have HT124 := Lib.hid htv
              clear htv hb HB117 HT119 HT118 HA120 hlt
              go_wp2_with fail
              refine hK _ _ (HQ0.out.s3 HB123.out) (fun hHeld => ?_)
              clear hK K
              refine wpAnyH_ready (rs := [6]) (by kernel_rfl) (by simp) ?_
              refine AllReadyH.cons (o := _) rfl (fun K hK => ?_) AllReadyH.nil
              go_simp
              refine (twinT (HQ0.out.keep HB123.out).tz HG.out.bZ (by decide)).mono ?_
              rintro e v128 ⟨t129, rfl, htv, hb⟩
              have HB130 : Hid (Below wB.heap.size wB v128) := HB123.out.trans (hb.mono HB123.out.size)
              have HT132 := Lib.hid (HT125.out.keep hb)
              have HT133 := Lib.hid (HT126.out.keep hb)
              have HT134 := Lib.hid (HT124.out.keep hb)
              have hlt := (Array.getElem?_eq_some_iff.1 HA127.out.1).1
              have HA135 : Hid (v128.heap[d111]? = some (.cells #[.slice none 0 0, .int .i64 0, .int .i64 0, .string ⟨#[]⟩, .slice none 0 0] 35 (0, 0)) ∧ wB.heap.size ≤ d111) := ⟨(hb.block _ hlt).trans HA127.out.1, HA127.out.2⟩
              have HT131 := Lib.hid htv
              clear htv hb HB123 HT125 HT126 HT124 HA127 hlt
              go_wp2_with fail
              refine hK _ _ (HQ0.out.s3 HB130.out) (fun hHeld => ?_)
              clear hK K
              refine wpAnyH_ready (rs := [7]) (by kernel_rfl) (by simp) ?_
              refine AllReadyH.cons (o := _) rfl (fun K hK => ?_) AllReadyH.nil
              go_simp
              refine (mergeT HT134.out HT131.out (HG.out.gX.mg HG.out.gY) HG.out.gZ (HG.out.bX.mg HG.out.bY) (HG.out.bZ.up (by decide)) (by decide)).mono ?_
              rintro e v136 ⟨t137, rfl, htv, hb⟩
              have HB138 : Hid (Below wB.heap.size wB v136) := HB130.out.trans (hb.mono HB130.out.size)
              have HT140 := Lib.hid (HT132.out.keep hb)
              have HT141 := Lib.hid (HT133.out.keep hb)
              have HT142 := Lib.hid (HT134.out.keep hb)
              have HT143 := Lib.hid (HT131.out.keep hb)
              have hlt := (Array.getElem?_eq_some_iff.1 HA135.out.1).1
              have HA144 : Hid (v136.heap[d111]? = some (.cells #[.slice none 0 0, .int .i64 0, .int .i64 0, .string ⟨#[]⟩, .slice none 0 0] 35 (0, 0)) ∧ wB.heap.size ≤ d111) := ⟨(hb.block _ hlt).trans HA135.out.1, HA135.out.2⟩
              have HT139 : Hid (TV (fun b => b ≠ d111) v136 t137 (mgD (mgD dX dY) dZ)) := htv.move (fun b h _ => (show b ≠ d111 by have h9 : _ ≤ b := h; omega)) (Nat.le_refl _) (fun _ _ _ => rfl)
              clear htv hb HB130 HT132 HT133 HT134 HT131 HA135 hlt
              go_wp2_with fail
              refine hK _ _ (HQ0.out.s3 HB138.out) (fun hHeld => ?_)
              clear hK K
              obtain ⟨ra, rn, rc, rs, rq, rg, rma, rm, rmc, hrf, -⟩ := HT139.out.form2
              subst hrf
              refine wpAnyH_ready (rs := [9]) (by kernel_rfl) (by simp) ?_
              refine AllReadyH.cons (o := _) rfl (fun K hK => ?_) AllReadyH.nil
              have hz := HA144.out.1
              have z0 : v136.cell? ⟨d111, 0, none⟩ = some (.slice none 0 0) := by simp [World.cell?, hz]
              have z1 : v136.cell? ⟨d111, 1, none⟩ = some (.int .i64 0) := by simp [World.cell?, hz]
              have z2 : v136.cell? ⟨d111, 2, none⟩ = some (.int .i64 0) := by simp [World.cell?, hz]
              have z3 : v136.cell? ⟨d111, 3, none⟩ = some (.string ⟨#[]⟩) := by simp [World.cell?, hz]
              have z4 : v136.cell? ⟨d111, 4, none⟩ = some (.slice none 0 0) := by simp [World.cell?, hz]
              have f0 : v136.frozen? ⟨d111, 0, none⟩ = false := by simp [World.frozen?, hz]
              have f1 : v136.frozen? ⟨d111, 1, none⟩ = false := by simp [World.frozen?, hz]
              have f2 : v136.frozen? ⟨d111, 2, none⟩ = false := by simp [World.frozen?, hz]
              have f3 : v136.frozen? ⟨d111, 3, none⟩ = false := by simp [World.frozen?, hz]
              have f4 : v136.frozen? ⟨d111, 4, none⟩ = false := by simp [World.frozen?, hz]
              clear hz
              go_simp
              have HBE : Hid (Below wB.heap.size wB (((((v136.setCell ⟨d111, 0, none⟩ (.slice ra rn rc)).setCell ⟨d111, 1, none⟩ (.int .i64 rs)).setCell ⟨d111, 2, none⟩ (.int .i64 rq)).setCell ⟨d111, 3, none⟩ (.string rg)).setCell ⟨d111, 4, none⟩ (.slice rma rm rmc))) := below5 HB138.out HA144.out.2 _ _ _ _ _
              refine hK _ _ (HQ0.out.s3 HBE.out) (fun hHeld => ?_)
              clear hK K z0 z1 z2 z3 z4 f0 f1 f2 f3 f4
              refine wpAnyH_done (by kernel_rfl) ?_ _
              clear hHeld
              go_wp2_with fail
              go_meet
              case rel => exact ⟨d111, ra, rn, rc, rs, rq, rg, rma, rm, rmc, rfl, own5 HA144.out.1 _ _ _ _ _, HT139.out.move (fun _ _ _ => trivial) (besides5 _ _ _ _ _ _ _).size (fun b hne hl => (besides5 _ _ _ _ _ _ _).block b hl hne), HBE.out⟩
          · go_simp
            have hb : Below v0.heap.size v0 (v0.alloc (.cells #[.slice none 0 0, .int .i64 0, .int .i64 0, .string ⟨#[]⟩, .slice none 0 0] 35)) := (Below.refl _ _).alloc (Nat.le_refl _) _
            have HB147 : Hid (Below wB.heap.size wB (v0.alloc (.cells #[.slice none 0 0, .int .i64 0, .int .i64 0, .string ⟨#[]⟩, .slice none 0 0] 35))) := HB0.out.trans (hb.mono HB0.out.size)
            have HA148 : Hid ((v0.alloc (.cells #[.slice none 0 0, .int .i64 0, .int .i64 0, .string ⟨#[]⟩, .slice none 0 0] 35)).heap[v0.heap.size]? = some (.cells #[.slice none 0 0, .int .i64 0, .int .i64 0, .string ⟨#[]⟩, .slice none 0 0] 35 (0, 0)) ∧ wB.heap.size ≤ v0.heap.size) := ⟨heap_new _ _, HB0.out.size⟩
            clear hb HB0 
            refine hK _ _ (HQ0.out.s3 HB147.out) (fun hHeld => ?_)
            clear hK K
            generalize (v0.alloc (.cells #[.slice none 0 0, .int .i64 0, .int .i64 0, .string ⟨#[]⟩, .slice none 0 0] 35)) = v146 at *
            generalize hdd : v0.heap.size = d146 at *
            clear hdd
            refine wpAnyH_ready (rs := [1]) (by kernel_rfl) (by simp) ?_
            refine AllReadyH.cons (o := _) rfl (fun K hK => ?_) AllReadyH.nil
            go_simp
            refine (twinT (HQ0.out.keep HB147.out).tx HG.out.bX (by decide)).mono ?_
            rintro e v149 ⟨t150, rfl, htv, hb⟩
            have HB151 : Hid (Below wB.heap.size wB v149) := HB147.out.trans (hb.mono HB147.out.size)
            have hlt := (Array.getElem?_eq_some_iff.1 HA148.out.1).1
            have HA153 : Hid (v149.heap[d146]? = some (.cells #[.slice none 0 0, .int .i64 0, .int .i64 0, .string ⟨#[]⟩, .slice none 0 0] 35 (0, 0)) ∧ wB.heap.size ≤ d146) := ⟨(hb.block _ hlt).trans HA148.out.1, HA148.out.2⟩
            have HT152 := Lib.hid htv
            clear htv hb HB147  HA148 hlt
            go_wp2_with fail
            refine hK _ _ (HQ0.out.s3 HB151.out) (fun hHeld => ?_)
            clear hK K
            refine wpAnyH_ready (rs := [3]) (by kernel_rfl) (by simp) ?_
            refine AllReadyH.cons (o := _) rfl (fun K hK => ?_) AllReadyH.nil
            go_simp
            refine (twinT (HQ0.out.keep HB151.out).ty HG.out.bY (by decide)).mono ?_
            rintro e v154 ⟨t155, rfl, htv, hb⟩
            have HB156 : Hid (Below wB.heap.size wB v154) := HB151.out.trans (hb.mono HB151.out.size)
            have HT158 := Lib.hid (HT152.out.keep hb)
            have hlt := (Array.getElem?_eq_some_iff.1 HA153.out.1).1
            have HA159 : Hid (v154.heap[d146]? = some (.cells #[.slice none 0 0, .int .i64 0, .int .i64 0, .string ⟨#[]⟩, .slice none 0 0] 35 (0, 0)) ∧ wB.heap.size ≤ d146) := ⟨(hb.block _ hlt).trans HA153.out.1, HA153.out.2⟩
            have HT157 := Lib.hid htv
            clear htv hb HB151 HT152 HA153 hlt
            go_wp2_with fail
            refine hK _ _ (HQ0.out.s3 HB156.out) (fun hHeld => ?_)
            clear hK K
            refine wpAnyH_ready (rs := [4]) (by kernel_rfl) (by simp) ?_
            refine AllReadyH.cons (o := _) rfl (fun K hK => ?_) AllReadyH.nil
            go_simp
            refine (mergeT HT158.out HT157.out HG.out.gX HG.out.gY HG.out.bX HG.out.bY (by decide)).mono ?_
            rintro e v160 ⟨t161, rfl, htv, hb⟩
            have HB162 : Hid (Below wB.heap.size wB v160) := HB156.out.trans (hb.mono HB156.out.size)
            have HT164 := Lib.hid (HT158.out.keep hb)
            have HT165 := Lib.hid (HT157.out.keep hb)
            have hlt := (Array.getElem?_eq_some_iff.1 HA159.out.1).1
            have HA166 : Hid (v160.heap[d146]? = some (.cells #[.slice none 0 0, .int .i64 0, .int .i64 0, .string ⟨#[]⟩, .slice none 0 0] 35 (0, 0)) ∧ wB.heap.size ≤ d146) := ⟨(hb.block _ hlt).trans HA159.out.1, HA159.out.2⟩
            have HT163 := Lib.hid htv
            clear htv hb HB156 HT158 HT157 HA159 hlt
            go_wp2_with fail
            refine hK _ _ (HQ0.out.s3 HB162.out) (fun hHeld => ?_)
            clear hK K
            refine wpAnyH_ready (rs := [6]) (by kernel_rfl) (by simp) ?_
            refine AllReadyH.cons (o := _) rfl (fun K hK => ?_) AllReadyH.nil
            go_simp
            refine (twinT (HQ0.out.keep HB162.out).tz HG.out.bZ (by decide)).mono ?_
            rintro e v167 ⟨t168, rfl, htv, hb⟩
            have HB169 : Hid (Below wB.heap.size wB v167) := HB162.out.trans (hb.mono HB162.out.size)
            have HT171 := Lib.hid (HT164.out.keep hb)
            have HT172 := Lib.hid (HT165.out.keep hb)
            have HT173 := Lib.hid (HT163.out.keep hb)
            have hlt := (Array.getElem?_eq_some_iff.1 HA166.out.1).1
            have HA174 : Hid (v167.heap[d146]? = some (.cells #[.slice none 0 0, .int .i64 0, .int .i64 0, .string ⟨#[]⟩, .slice none 0 0] 35 (0, 0)) ∧ wB.heap.size ≤ d146) := ⟨(hb.block _ hlt).trans HA166.out.1, HA166.out.2⟩
            have HT170 := Lib.hid htv
            clear htv hb HB162 HT164 HT165 HT163 HA166 hlt
            go_wp2_with fail
            refine hK _ _ (HQ0.out.s3 HB169.out) (fun hHeld => ?_)
            clear hK K
            refine wpAnyH_ready (rs := [7]) (by kernel_rfl) (by simp) ?_
            refine AllReadyH.cons (o := _) rfl (fun K hK => ?_) AllReadyH.nil
            go_simp
            refine (mergeT HT173.out HT170.out (HG.out.gX.mg HG.out.gY) HG.out.gZ (HG.out.bX.mg HG.out.bY) (HG.out.bZ.up (by decide)) (by decide)).mono ?_
            rintro e v175 ⟨t176, rfl, htv, hb⟩
            have HB177 : Hid (Below wB.heap.size wB v175) := HB169.out.trans (hb.mono HB169.out.size)
            have HT179 := Lib.hid (HT171.out.keep hb)
            have HT180 := Lib.hid (HT172.out.keep hb)
            have HT181 := Lib.hid (HT173.out.keep hb)
            have HT182 := Lib.hid (HT170.out.keep hb)
            have hlt := (Array.getElem?_eq_some_iff.1 HA174.out.1).1
            have HA183 : Hid (v175.heap[d146]? = some (.cells #[.slice none 0 0, .int .i64 0, .int .i64 0, .string ⟨#[]⟩, .slice none 0 0] 35 (0, 0)) ∧ wB.heap.size ≤ d146) := ⟨(hb.block _ hlt).trans HA174.out.1, HA174.out.2⟩
            have HT178 : Hid (TV (fun b => b ≠ d146) v175 t176 (mgD (mgD dX dY) dZ)) := htv.move (fun b h _ => (show b ≠ d146 by have h9 : _ ≤ b := h; omega)) (Nat.le_refl _) (fun _ _ _ => rfl)
            clear htv hb HB169 HT171 HT172 HT173 HT170 HA174 hlt
            go_wp2_with fail
            refine hK _ _ (HQ0.out.s3 HB177.out) (fun hHeld => ?_)
            clear hK K
            obtain ⟨ra, rn, rc, rs, rq, rg, rma, rm, rmc, hrf, -⟩ := HT178.out.form2
            subst hrf
            refine wpAnyH_ready (rs := [9]) (by kernel_rfl) (by simp) ?_
            refine AllReadyH.cons (o := _) rfl (fun K hK => ?_) AllReadyH.nil
            have hz := HA183.out.1
            have z0 : v175.cell? ⟨d146, 0, none⟩ = some (.slice none 0 0) := by simp [World.cell?, hz]
            have z1 : v175.cell? ⟨d146, 1, none⟩ = some (.int .i64 0) := by simp [World.cell?, hz]
            have z2 : v175.cell? ⟨d146, 2, none⟩ = some (.int .i64 0) := by simp [World.cell?, hz]
            have z3 : v175.cell? ⟨d146, 3, none⟩ = some (.string ⟨#[]⟩) := by simp [World.cell?, hz]
            have z4 : v175.cell? ⟨d146, 4, none⟩ = some (.slice none 0 0) := by simp [World.cell?, hz]
            have f0 : v175.frozen? ⟨d146, 0, none⟩ = false := by simp [World.frozen?, hz]
            have f1 : v175.frozen? ⟨d146, 1, none⟩ = false := by simp [World.frozen?, hz]
            have f2 : v175.frozen? ⟨d146, 2, none⟩ = false := by simp [World.frozen?, hz]
            have f3 : v175.frozen? ⟨d146, 3, none⟩ = false := by simp [World.frozen?, hz]
            have f4 : v175.frozen? ⟨d146, 4, none⟩ = false := by simp [World.frozen?, hz]
            clear hz
            go_simp
            have HBE : Hid (Below wB.heap.size wB (((((v175.setCell ⟨d146, 0, none⟩ (.slice ra rn rc)).setCell ⟨d146, 1, none⟩ (.int .i64 rs)).setCell ⟨d146, 2, none⟩ (.int .i64 rq)).setCell ⟨d146, 3, none⟩ (.string rg)).setCell ⟨d146, 4, none⟩ (.slice rma rm rmc))) := below5 HB177.out HA183.out.2 _ _ _ _ _
            refine hK _ _ (HQ0.out.s3 HBE.out) (fun hHeld => ?_)
            clear hK K z0 z1 z2 z3 z4 f0 f1 f2 f3 f4
            refine wpAnyH_done (by kernel_rfl) ?_ _
            clear hHeld
            go_wp2_with fail
            go_meet
            case rel => exact ⟨d146, ra, rn, rc, rs, rq, rg, rma, rm, rmc, rfl, own5 HA183.out.1 _ _ _ _ _, HT178.out.move (fun _ _ _ => trivial) (besides5 _ _ _ _ _ _ _).size (fun b hne hl => (besides5 _ _ _ _ _ _ _).block b hl hne), HBE.out⟩

        case rest =>
          obtain ⟨bL, la, ln, lc, ls, lq, lg, lma, lm, lmc, rfl, hol, htl, hbl⟩ := hcut
          have HQ1 := Lib.hid (HQ0.out.keep hbl)
          have HLB : Hid (ow wc bL (.slice la ln lc) (.int .i64 ls) (.int .i64 lq) (.string lg) (.slice lma lm lmc) ∧ TV (fun _ => True) wc (.agg #[.slice la ln lc, .int .i64 ls, .int .i64 lq, .string lg, .slice lma lm lmc]) (mgD (mgD dX dY) dZ)) := ⟨hol, htl⟩
          clear HQ0 hol htl hbl
          have HQ0 := HQ1
          clear HQ1
          generalize wc = wC at *
          go_upto_region 8 with fail
          go_cut [14] from 51 to 58 (fun s14 wx => ∃ (d : Nat) (ra : Option Addr) (rn rc : Nat) (rs rq : Int) (rg : ByteArray) (rma : Option Addr) (rm rmc : Nat), s14 = .pointer (some ⟨d, 0, none⟩) ∧ ow wx d (.slice ra rn rc) (.int .i64 rs) (.int .i64 rq) (.string rg) (.slice rma rm rmc) ∧ TV (fun _ => True) wx (.agg #[.slice ra rn rc, .int .i64 rs, .int .i64 rq, .string rg, .slice rma rm rmc]) (mgD dX (mgD dY dZ)) ∧ Below wC.heap.size wC wx)
          case first =>
            refine wp_region_held_drew (S := fun s => C5 s bX (.slice xa xn xc) (.int .i64 xs) (.int .i64 xq) (.string xg) (.slice xma xm xmc) ∧ C5 s bY (.slice ya yn yc) (.int .i64 ys) (.int .i64 yq) (.string yg) (.slice yma ym ymc) ∧ C5 s bZ (.slice za zn zc) (.int .i64 zs) (.int .i64 zq) (.string zg) (.slice zma zm zmc)) (by kernel_rfl) (HQ0.out.s3 (belowDrew1 _)) (fun hHeld => ?_)
            refine wpAnyH_take (i := 0) (v := .agg #[.slice xa xn xc, .int .i64 xs, .int .i64 xq, .string xg, .slice xma xm xmc]) rfl (by kernel_rfl) (by kernel_rfl) (by kernel_rfl) (fun _ _ _ h => h) (Or.inl ⟨by rfl, fun w hw => by obtain ⟨⟨a0, a1, a2, a3, a4⟩, ⟨b0, b1, b2, b3, b4⟩, c0, c1, c2, c3, c4⟩ := hw; go_simp⟩) hHeld ?_
            simp only [Act.put, List.getElem_toArray, List.getElem_cons_zero, List.setIfInBounds_toArray, List.set_cons_zero, List.set_cons_succ]
            refine wpAnyH_take (i := 2) (v := .agg #[.slice ya yn yc, .int .i64 ys, .int .i64 yq, .string yg, .slice yma ym ymc]) rfl (by kernel_rfl) (by kernel_rfl) (by kernel_rfl) (fun _ _ _ h => h) (Or.inl ⟨by rfl, fun w hw => by obtain ⟨⟨a0, a1, a2, a3, a4⟩, ⟨b0, b1, b2, b3, b4⟩, c0, c1, c2, c3, c4⟩ := hw; go_simp⟩) hHeld ?_
            simp only [Act.put, List.getElem_toArray, List.getElem_cons_zero, List.getElem_cons_succ, List.setIfInBounds_toArray, List.set_cons_zero, List.set_cons_succ]
            refine wpAnyH_take (i := 4) (v := .agg #[.slice za zn zc, .int .i64 zs, .int .i64 zq, .string zg, .slice zma zm zmc]) rfl (by kernel_rfl) (by kernel_rfl) (by kernel_rfl) (fun _ _ _ h => h) (Or.inl ⟨by rfl, fun w hw => by obtain ⟨⟨a0, a1, a2, a3, a4⟩, ⟨b0, b1, b2, b3, b4⟩, c0, c1, c2, c3, c4⟩ := hw; go_simp⟩) hHeld ?_
            simp only [Act.put, List.getElem_toArray, List.getElem_cons_zero, List.getElem_cons_succ, List.setIfInBounds_toArray, List.set_cons_zero, List.set_cons_succ]
            have HB0 : Hid (Below wC.heap.size wC wC.drew) := belowDrew1 _
            generalize wC.drew = v0 at *
            refine wpAnyH_ready (rs := [1, 8]) (by kernel_rfl) (by simp) ?_
            refine AllReadyH.cons (o := _) rfl (fun K hK => ?_) (AllReadyH.cons (o := _) rfl (fun K hK => ?_) AllReadyH.nil)
            · go_simp
              refine (twinT (HQ0.out.keep HB0.out).tx HG.out.bX (by decide)).mono ?_
              rintro e v185 ⟨t186, rfl, htv, hb⟩
              have HB187 : Hid (Below wC.heap.size wC v185) := HB0.out.trans (hb.mono HB0.out.size)
              have HT188 := Lib.hid htv
              clear htv hb HB0  
              go_wp2_with fail
              refine hK _ _ (HQ0.out.s3 HB187.out) (fun hHeld => ?_)
              clear hK K
              refine wpAnyH_ready (rs := [3, 8]) (by kernel_rfl) (by simp) ?_
              refine AllReadyH.cons (o := _) rfl (fun K hK => ?_) (AllReadyH.cons (o := _) rfl (fun K hK => ?_) AllReadyH.nil)
              · go_simp
                refine (twinT (HQ0.out.keep HB187.out).ty HG.out.bY (by decide)).mono ?_
                rintro e v189 ⟨t190, rfl, htv, hb⟩
                have HB191 : Hid (Below wC.heap.size wC v189) := HB187.out.trans (hb.mono HB187.out.size)
                have HT193 := Lib.hid (HT188.out.keep hb)
                have HT192 := Lib.hid htv
                clear htv hb HB187 HT188 
                go_wp2_with fail
                refine hK _ _ (HQ0.out.s3 HB191.out) (fun hHeld => ?_)
                clear hK K
                refine wpAnyH_ready (rs := [5, 8]) (by kernel_rfl) (by simp) ?_
                refine AllReadyH.cons (o := _) rfl (fun K hK => ?_) (AllReadyH.cons (o := _) rfl (fun K hK => ?_) AllReadyH.nil)
                · go_simp
                  refine (twinT (HQ0.out.keep HB191.out).tz HG.out.bZ (by decide)).mono ?_
                  rintro e v194 ⟨t195, rfl, htv, hb⟩
                  have HB196 : Hid (Below wC.heap.size wC v194) := HB191.out.trans (hb.mono HB191.out.size)
                  have HT198 := Lib.hid (HT193.out.keep hb)
                  have HT199 := Lib.hid (HT192.out.keep hb)
                  have HT197 := Lib.hid htv
                  clear htv hb HB191 HT193 HT192 
                  go_wp2_with fail
                  refine hK _ _ (HQ0.out.s3 HB196.out) (fun hHeld => ?_)
                  clear hK K
                  refine wpAnyH_ready (rs := [6, 8]) (by kernel_rfl) (by simp) ?_
                  refine AllReadyH.cons (o := _) rfl (fun K hK => ?_) (AllReadyH.cons (o := _) rfl (fun K hK => ?_) AllReadyH.nil)
                  · go_simp
                    refine (mergeT HT199.out HT197.out HG.out.gY HG.out.gZ HG.out.bY HG.out.bZ (by decide)).mono ?_
                    rintro e v200 ⟨t201, rfl, htv, hb⟩
                    have HB202 : Hid (Below wC.heap.size wC v200) := HB196.out.trans (hb.mono HB196.out.size)
                    have HT204 := Lib.hid (HT198.out.keep hb)
                    have HT205 := Lib.hid (HT199.out.keep hb)
                    have HT206 := Lib.hid (HT197.out.keep hb)
                    have HT203 := Lib.hid htv
                    clear htv hb HB196 HT198 HT199 HT197 
                    go_wp2_with fail
                    refine hK _ _ (HQ0.out.s3 HB202.out) (fun hHeld => ?_)
                    clear hK K
                    refine wpAnyH_ready (rs := [7, 8]) (by kernel_rfl) (by simp) ?_
                    refine AllReadyH.cons (o := _) rfl (fun K hK => ?_) (AllReadyH.cons (o := _) rfl (fun K hK => ?_) AllReadyH.nil)
                    · go_simp
                      refine (mergeT HT204.out HT203.out HG.out.gX (HG.out.gY.mg HG.out.gZ) (HG.out.bX.up (by decide)) (HG.out.bY.mg HG.out.bZ) (by decide)).mono ?_
                      rintro e v207 ⟨t208, rfl, htv, hb⟩
                      have HB209 : Hid (Below wC.heap.size wC v207) := HB202.out.trans (hb.mono HB202.out.size)
                      have HT211 := Lib.hid (HT204.out.keep hb)
                      have HT212 := Lib.hid (HT205.out.keep hb)
                      have HT213 := Lib.hid (HT206.out.keep hb)
                      have HT214 := Lib.hid (HT203.out.keep hb)
                      have HT210 := Lib.hid htv
                      clear htv hb HB202 HT204 HT205 HT206 HT203 
                      go_wp2_with fail
                      refine hK _ _ (HQ0.out.s3 HB209.out) (fun hHeld => ?_)
                      clear hK K
                      refine wpAnyH_ready (rs := [8]) (by kernel_rfl) (by simp) ?_
                      refine AllReadyH.cons (o := _) rfl (fun K hK => ?_) AllReadyH.nil
                      go_simp
                      have hb : Below v207.heap.size v207 (v207.alloc (.cells #[.slice none 0 0, .int .i64 0, .int .i64 0, .string ⟨#[]⟩, .slice none 0 0] 35)) := (Below.refl _ _).alloc (Nat.le_refl _) _
                      have HB216 : Hid (Below wC.heap.size wC (v207.alloc (.cells #[.slice none 0 0, .int .i64 0, .int .i64 0, .string ⟨#[]⟩, .slice none 0 0] 35))) := HB209.out.trans (hb.mono HB209.out.size)
                      have HA217 : Hid ((v207.alloc (.cells #[.slice none 0 0, .int .i64 0, .int .i64 0, .string ⟨#[]⟩, .slice none 0 0] 35)).heap[v207.heap.size]? = some (.cells #[.slice none 0 0, .int .i64 0, .int .i64 0, .string ⟨#[]⟩, .slice none 0 0] 35 (0, 0)) ∧ wC.heap.size ≤ v207.heap.size) := ⟨heap_new _ _, HB209.out.size⟩
                      have HT218 := Lib.hid (HT211.out.keep hb)
                      have HT219 := Lib.hid (HT212.out.keep hb)
                      have HT220 := Lib.hid (HT213.out.keep hb)
                      have HT221 := Lib.hid (HT214.out.keep hb)
                      have HT222 : Hid (TV (fun b => b ≠ v207.heap.size) (v207.alloc (.cells #[.slice none 0 0, .int .i64 0, .int .i64 0, .string ⟨#[]⟩, .slice none 0 0] 35)) _ (mgD dX (mgD dY dZ))) := HT210.out.move (fun b _ hl => Nat.ne_of_lt hl) hb.size (fun b _ hl => hb.block b hl)
                      clear hb HB209 HT211 HT212 HT213 HT214 HT210
                      refine hK _ _ (HQ0.out.s3 HB216.out) (fun hHeld => ?_)
                      clear hK K
                      generalize (v207.alloc (.cells #[.slice none 0 0, .int .i64 0, .int .i64 0, .string ⟨#[]⟩, .slice none 0 0] 35)) = v215 at *
                      generalize hdd : v207.heap.size = d215 at *
                      clear hdd
                      obtain ⟨ra, rn, rc, rs, rq, rg, rma, rm, rmc, hrf, -⟩ := HT222.out.form2
                      subst hrf
                      refine wpAnyH_ready (rs := [9]) (by kernel_rfl) (by simp) ?_
                      refine AllReadyH.cons (o := _) rfl (fun K hK => ?_) AllReadyH.nil
                      have hz := HA217.out.1
                      have z0 : v215.cell? ⟨d215, 0, none⟩ = some (.slice none 0 0) := by simp [World.cell?, hz]
                      have z1 : v215.cell? ⟨d215, 1, none⟩ = some (.int .i64 0) := by simp [World.cell?, hz]
                      have z2 : v215.cell? ⟨d215, 2, none⟩ = some (.int .i64 0) := by simp [World.cell?, hz]
                      have z3 : v215.cell? ⟨d215, 3, none⟩ = some (.string ⟨#[]⟩) := by simp [World.cell?, hz]
                      have z4 : v215.cell? ⟨d215, 4, none⟩ = some (.slice none 0 0) := by simp [World.cell?, hz]
                      have f0 : v215.frozen? ⟨d215, 0, none⟩ = false := by simp [World.frozen?, hz]
                      have f1 : v215.frozen? ⟨d215, 1, none⟩ = false := by simp [World.frozen?, hz]
                      have f2 : v215.frozen? ⟨d215, 2, none⟩ = false := by simp [World.frozen?, hz]
                      have f3 : v215.frozen? ⟨d215, 3, none⟩ = false := by simp [World.frozen?, hz]
                      have f4 : v215.frozen? ⟨d215, 4, none⟩ = false := by simp [World.frozen?, hz]
                      clear hz
                      go_simp
                      have HBE : Hid (Below wC.heap.size wC (((((v215.setCell ⟨d215, 0, none⟩ (.slice ra rn rc)).setCell ⟨d215, 1, none⟩ (.int .i64 rs)).setCell ⟨d215, 2, none⟩ (.int .i64 rq)).setCell ⟨d215, 3, none⟩ (.string rg)).setCell ⟨d215, 4, none⟩ (.slice rma rm rmc))) := below5 HB216.out HA217.out.2 _ _ _ _ _
                      refine hK _ _ (HQ0.out.s3 HBE.out) (fun hHeld => ?_)
                      clear hK K z0 z1 z2 z3 z4 f0 f1 f2 f3 f4
                      refine wpAnyH_done (by kernel_rfl) ?_ _
                      clear hHeld
                      go_wp2_with fail
                      go_meet
                      case rel => exact ⟨d215, ra, rn, rc, rs, rq, rg, rma, rm, rmc, rfl, own5 HA217.out.1 _ _ _ _ _, HT222.out.move (fun _ _ _ => trivial) (besides5 _ _ _ _ _ _ _).size (fun b hne hl => (besides5 _ _ _ _ _ _ _).block b hl hne), HBE.out⟩
                    · go_simp
                      have hb : Below v200.heap.size v200 (v200.alloc (.cells #[.slice none 0 0, .int .i64 0, .int .i64 0, .string ⟨#[]⟩, .slice none 0 0] 35)) := (Below.refl _ _).alloc (Nat.le_refl _) _
                      have HB225 : Hid (Below wC.heap.size wC (v200.alloc (.cells #[.slice none 0 0, .int .i64 0, .int .i64 0, .string ⟨#[]⟩, .slice none 0 0] 35))) := HB202.out.trans (hb.mono HB202.out.size)
                      have HA226 : Hid ((v200.alloc (.cells #[.slice none 0 0, .int .i64 0, .int .i64 0, .string ⟨#[]⟩, .slice none 0 0] 35)).heap[v200.heap.size]? = some (.cells #[.slice none 0 0, .int .i64 0, .int .i64 0, .string ⟨#[]⟩, .slice none 0 0] 35 (0, 0)) ∧ wC.heap.size ≤ v200.heap.size) := ⟨heap_new _ _, HB202.out.size⟩
                      have HT227 := Lib.hid (HT204.out.keep hb)
                      have HT228 := Lib.hid (HT205.out.keep hb)
                      have HT229 := Lib.hid (HT206.out.keep hb)
                      have HT230 := Lib.hid (HT203.out.keep hb)
                      clear hb HB202 HT204 HT205 HT206 HT203
                      refine hK _ _ (HQ0.out.s3 HB225.out) (fun hHeld => ?_)
                      clear hK K
                      generalize (v200.alloc (.cells #[.slice none 0 0, .int .i64 0, .int .i64 0, .string ⟨#[]⟩, .slice none 0 0] 35)) = v224 at *
                      generalize hdd : v200.heap.size = d224 at *
                      clear hdd
                      refine wpAnyH_ready (rs := [7]) (by kernel_rfl) (by simp) ?_
                      refine AllReadyH.cons (o := _) rfl (fun K hK => ?_) AllReadyH.nil
                      go_simp
                      refine (mergeT HT227.out HT230.out HG.out.gX (HG.out.gY.mg HG.out.gZ) (HG.out.bX.up (by decide)) (HG.out.bY.mg HG.out.bZ) (by decide)).mono ?_
                      rintro e v231 ⟨t232, rfl, htv, hb⟩
                      have HB233 : Hid (Below wC.heap.size wC v231) := HB225.out.trans (hb.mono HB225.out.size)
                      have HT235 := Lib.hid (HT227.out.keep hb)
                      have HT236 := Lib.hid (HT228.out.keep hb)
                      have HT237 := Lib.hid (HT229.out.keep hb)
                      have HT238 := Lib.hid (HT230.out.keep hb)
                      have hlt := (Array.getElem?_eq_some_iff.1 HA226.out.1).1
                      have HA239 : Hid (v231.heap[d224]? = some (.cells #[.slice none 0 0, .int .i64 0, .int .i64 0, .string ⟨#[]⟩, .slice none 0 0] 35 (0, 0)) ∧ wC.heap.size ≤ d224) := ⟨(hb.block _ hlt).trans HA226.out.1, HA226.out.2⟩
                      have HT234 : Hid (TV (fun b => b ≠ d224) v231 t232 (mgD dX (mgD dY dZ))) := htv.move (fun b h _ => (show b ≠ d224 by have h9 : _ ≤ b := h; omega)) (Nat.le_refl _) (fun _ _ _ => rfl)
                      clear htv hb HB225 HT227 HT228 HT229 HT230 HA226 hlt
                      go_wp2_with fail
                      refine hK _ _ (HQ0.out.s3 HB233.out) (fun hHeld => ?_)
                      clear hK K
                      obtain ⟨ra, rn, rc, rs, rq, rg, rma, rm, rmc, hrf, -⟩ := HT234.out.form2
                      subst hrf
                      refine wpAnyH_ready (rs := [9]) (by kernel_rfl) (by simp) ?_
                      refine AllReadyH.cons (o := _) rfl (fun K hK => ?_) AllReadyH.nil
                      have hz := HA239.out.1
                      have z0 : v231.cell? ⟨d224, 0, none⟩ = some (.slice none 0 0) := by simp [World.cell?, hz]
                      have z1 : v231.cell? ⟨d224, 1, none⟩ = some (.int .i64 0) := by simp [World.cell?, hz]
                      have z2 : v231.cell? ⟨d224, 2, none⟩ = some (.int .i64 0) := by simp [World.cell?, hz]
                      have z3 : v231.cell? ⟨d224, 3, none⟩ = some (.string ⟨#[]⟩) := by simp [World.cell?, hz]
                      have z4 : v231.cell? ⟨d224, 4, none⟩ = some (.slice none 0 0) := by simp [World.cell?, hz]
                      have f0 : v231.frozen? ⟨d224, 0, none⟩ = false := by simp [World.frozen?, hz]
                      have f1 : v231.frozen? ⟨d224, 1, none⟩ = false := by simp [World.frozen?, hz]
                      have f2 : v231.frozen? ⟨d224, 2, none⟩ = false := by simp [World.frozen?, hz]
                      have f3 : v231.frozen? ⟨d224, 3, none⟩ = false := by simp [World.frozen?, hz]
                      have f4 : v231.frozen? ⟨d224, 4, none⟩ = false := by simp [World.frozen?, hz]
                      clear hz
                      go_simp
                      have HBE : Hid (Below wC.heap.size wC (((((v231.setCell ⟨d224, 0, none⟩ (.slice ra rn rc)).setCell ⟨d224, 1, none⟩ (.int .i64 rs)).setCell ⟨d224, 2, none⟩ (.int .i64 rq)).setCell ⟨d224, 3, none⟩ (.string rg)).setCell ⟨d224, 4, none⟩ (.slice rma rm rmc))) := below5 HB233.out HA239.out.2 _ _ _ _ _
                      refine hK _ _ (HQ0.out.s3 HBE.out) (fun hHeld => ?_)
                      clear hK K z0 z1 z2 z3 z4 f0 f1 f2 f3 f4
                      refine wpAnyH_done (by kernel_rfl) ?_ _
                      clear hHeld
                      go_wp2_with fail
                      go_meet
                      case rel => exact ⟨d224, ra, rn, rc, rs, rq, rg, rma, rm, rmc, rfl, own5 HA239.out.1 _ _ _ _ _, HT234.out.move (fun _ _ _ => trivial) (besides5 _ _ _ _ _ _ _).size (fun b hne hl => (besides5 _ _ _ _ _ _ _).block b hl hne), HBE.out⟩
                  · go_simp
                    have hb : Below v194.heap.size v194 (v194.alloc (.cells #[.slice none 0 0, .int .i64 0, .int .i64 0, .string ⟨#[]⟩, .slice none 0 0] 35)) := (Below.refl _ _).alloc (Nat.le_refl _) _
                    have HB242 : Hid (Below wC.heap.size wC (v194.alloc (.cells #[.slice none 0 0, .int .i64 0, .int .i64 0, .string ⟨#[]⟩, .slice none 0 0] 35))) := HB196.out.trans (hb.mono HB196.out.size)
                    have HA243 : Hid ((v194.alloc (.cells #[.slice none 0 0, .int .i64 0, .int .i64 0, .string ⟨#[]⟩, .slice none 0 0] 35)).heap[v194.heap.size]? = some (.cells #[.slice none 0 0, .int .i64 0, .int .i64 0, .string ⟨#[]⟩, .slice none 0 0] 35 (0, 0)) ∧ wC.heap.size ≤ v194.heap.size) := ⟨heap_new _ _, HB196.out.size⟩
                    have HT244 := Lib.hid (HT198.out.keep hb)
                    have HT245 := Lib.hid (HT199.out.keep hb)
                    have HT246 := Lib.hid (HT197.out.keep hb)
                    clear hb HB196 HT198 HT199 HT197
                    refine hK _ _ (HQ0.out.s3 HB242.out) (fun hHeld => ?_)
                    clear hK K
                    generalize (v194.alloc (.cells #[.slice none 0 0, .int .i64 0, .int .i64 0, .string ⟨#[]⟩, .slice none 0 0] 35)) = v241 at *
                    generalize hdd : v194.heap.size = d241 at *
                    clear hdd
                    refine wpAnyH_ready (rs := [6]) (by kernel_rfl) (by simp) ?_
                    refine AllReadyH.cons (o := _) rfl (fun K hK => ?_) AllReadyH.nil
                    go_simp
                    refine (mergeT HT245.out HT246.out HG.out.gY HG.out.gZ HG.out.bY HG.out.bZ (by decide)).mono ?_
                    rintro e v247 ⟨t248, rfl, htv, hb⟩
                    have HB249 : Hid (Below wC.heap.size wC v247) := HB242.out.trans (hb.mono HB242.out.size)
                    have HT251 := Lib.hid (HT244.out.keep hb)
                    have HT252 := Lib.hid (HT245.out.keep hb)
                    have HT253 := Lib.hid (HT246.out.keep hb)
                    have hlt := (Array.getElem?_eq_some_iff.1 HA243.out.1).1
                    have HA254 : Hid (v247.heap[d241]? = some (.cells #[.slice none 0 0, .int .i64 0, .int .i64 0, .string ⟨#[]⟩, .slice none 0 0] 35 (0, 0)) ∧ wC.heap.size ≤ d241) := ⟨(hb.block _ hlt).trans HA243.out.1, HA243.out.2⟩
                    have HT250 := Lib.hid htv
                    clear htv hb HB242 HT244 HT245 HT246 HA243 hlt
                    go_wp2_with fail
                    refine hK _ _ (HQ0.out.s3 HB249.out) (fun hHeld => ?_)
                    clear hK K
                    refine wpAnyH_ready (rs := [7]) (by kernel_rfl) (by simp) ?_
                    refine AllReadyH.cons (o := _) rfl (fun K hK => ?_) AllReadyH.nil
                    go_simp
                    refine (mergeT HT251.out HT250.out HG.out.gX (HG.out.gY.mg HG.out.gZ) (HG.out.bX.up (by decide)) (HG.out.bY.mg HG.out.bZ) (by decide)).mono ?_
                    rintro e v255 ⟨t256, rfl, htv, hb⟩
                    have HB257 : Hid (Below wC.heap.size wC v255) := HB249.out.trans (hb.mono HB249.out.size)
                    have HT259 := Lib.hid (HT251.out.keep hb)
                    have HT260 := Lib.hid (HT252.out.keep hb)
                    have HT261 := Lib.hid (HT253.out.keep hb)
                    have HT262 := Lib.hid (HT250.out.keep hb)
                    have hlt := (Array.getElem?_eq_some_iff.1 HA254.out.1).1
                    have HA263 : Hid (v255.heap[d241]? = some (.cells #[.slice none 0 0, .int .i64 0, .int .i64 0, .string ⟨#[]⟩, .slice none 0 0] 35 (0, 0)) ∧ wC.heap.size ≤ d241) := ⟨(hb.block _ hlt).trans HA254.out.1, HA254.out.2⟩
                    have HT258 : Hid (TV (fun b => b ≠ d241) v255 t256 (mgD dX (mgD dY dZ))) := htv.move (fun b h _ => (show b ≠ d241 by have h9 : _ ≤ b := h; omega)) (Nat.le_refl _) (fun _ _ _ => rfl)
                    clear htv hb HB249 HT251 HT252 HT253 HT250 HA254 hlt
                    go_wp2_with fail
                    refine hK _ _ (HQ0.out.s3 HB257.out) (fun hHeld => ?_)
                    clear hK K
                    obtain ⟨ra, rn, rc, rs, rq, rg, rma, rm, rmc, hrf, -⟩ := HT258.out.form2
                    subst hrf
                    refine wpAnyH_ready (rs := [9]) (by kernel_rfl) (by simp) ?_
                    refine AllReadyH.cons (o := _) rfl (fun K hK => ?_) AllReadyH.nil
                    have hz := HA263.out.1
                    have z0 : v255.cell? ⟨d241, 0, none⟩ = some (.slice none 0 0) := by simp [World.cell?, hz]
                    have z1 : v255.cell? ⟨d241, 1, none⟩ = some (.int .i64 0) := by simp [World.cell?, hz]
                    have z2 : v255.cell? ⟨d241, 2, none⟩ = some (.int .i64 0) := by simp [World.cell?, hz]
                    have z3 : v255.cell? ⟨d241, 3, none⟩ = some (.string ⟨#[]⟩) := by simp [World.cell?, hz]
                    have z4 : v255.cell? ⟨d241, 4, none⟩ = some (.slice none 0 0) := by simp [World.cell?, hz]
                    have f0 : v255.frozen? ⟨d241, 0, none⟩ = false := by simp [World.frozen?, hz]
                    have f1 : v255.frozen? ⟨d241, 1, none⟩ = false := by simp [World.frozen?, hz]
                    have f2 : v255.frozen? ⟨d241, 2, none⟩ = false := by simp [World.frozen?, hz]
                    have f3 : v255.frozen? ⟨d241, 3, none⟩ = false := by simp [World.frozen?, hz]
                    have f4 : v255.frozen? ⟨d241, 4, none⟩ = false := by simp [World.frozen?, hz]
                    clear hz
                    go_simp
                    have HBE : Hid (Below wC.heap.size wC (((((v255.setCell ⟨d241, 0, none⟩ (.slice ra rn rc)).setCell ⟨d241, 1, none⟩ (.int .i64 rs)).setCell ⟨d241, 2, none⟩ (.int .i64 rq)).setCell ⟨d241, 3, none⟩ (.string rg)).setCell ⟨d241, 4, none⟩ (.slice rma rm rmc))) := below5 HB257.out HA263.out.2 _ _ _ _ _
                    refine hK _ _ (HQ0.out.s3 HBE.out) (fun hHeld => ?_)
                    clear hK K z0 z1 z2 z3 z4 f0 f1 f2 f3 f4
                    refine wpAnyH_done (by kernel_rfl) ?_ _
                    clear hHeld
                    go_wp2_with fail
                    go_meet
                    case rel => exact ⟨d241, ra, rn, rc, rs, rq, rg, rma, rm, rmc, rfl, own5 HA263.out.1 _ _ _ _ _, HT258.out.move (fun _ _ _ => trivial) (besides5 _ _ _ _ _ _ _).size (fun b hne hl => (besides5 _ _ _ _ _ _ _).block b hl hne), HBE.out⟩
                · go_simp
                  have hb : Below v189.heap.size v189 (v189.alloc (.cells #[.slice none 0 0, .int .i64 0, .int .i64 0, .string ⟨#[]⟩, .slice none 0 0] 35)) := (Below.refl _ _).alloc (Nat.le_refl _) _
                  have HB266 : Hid (Below wC.heap.size wC (v189.alloc (.cells #[.slice none 0 0, .int .i64 0, .int .i64 0, .string ⟨#[]⟩, .slice none 0 0] 35))) := HB191.out.trans (hb.mono HB191.out.size)
                  have HA267 : Hid ((v189.alloc (.cells #[.slice none 0 0, .int .i64 0, .int .i64 0, .string ⟨#[]⟩, .slice none 0 0] 35)).heap[v189.heap.size]? = some (.cells #[.slice none 0 0, .int .i64 0, .int .i64 0, .string ⟨#[]⟩, .slice none 0 0] 35 (0, 0)) ∧ wC.heap.size ≤ v189.heap.size) := ⟨heap_new _ _, HB191.out.size⟩
                  have HT268 := Lib.hid (HT193.out.keep hb)
                  have HT269 := Lib.hid (HT192.out.keep hb)
                  clear hb HB191 HT193 HT192
                  refine hK _ _ (HQ0.out.s3 HB266.out) (fun hHeld => ?_)
                  clear hK K
                  generalize (v189.alloc (.cells #[.slice none 0 0, .int .i64 0, .int .i64 0, .string ⟨#[]⟩, .slice none 0 0] 35)) = v265 at *
                  generalize hdd : v189.heap.size = d265 at *
                  clear hdd
                  refine wpAnyH_ready (rs := [5]) (by kernel_rfl) (by simp) ?_
                  refine AllReadyH.cons (o := _) rfl (fun K hK => ?_) AllReadyH.nil
                  go_simp
                  refine (twinT (HQ0.out.keep HB266.out).tz HG.out.bZ (by decide)).mono ?_
                  rintro e v270 ⟨t271, rfl, htv, hb⟩
                  have HB272 : Hid (Below wC.heap.size wC v270) := HB266.out.trans (hb.mono HB266.out.size)
                  have HT274 := Lib.hid (HT268.out.keep hb)
                  have HT275 := Lib.hid (HT269.out.keep hb)
                  have hlt := (Array.getElem?_eq_some_iff.1 HA267.out.1).1
                  have HA276 : Hid (v270.heap[d265]? = some (.cells #[.slice none 0 0, .int .i64 0, .int .i64 0, .string ⟨#[]⟩, .slice none 0 0] 35 (0, 0)) ∧ wC.heap.size ≤ d265) := ⟨(hb.block _ hlt).trans HA267.out.1, HA267.out.2⟩
                  have HT273 := Lib.hid htv
                  clear htv hb HB266 HT268 HT269 HA267 hlt
                  go_wp2_with fail
                  refine hK _ _ (HQ0.out.s3 HB272.out) (fun hHeld => ?_)
                  clear hK K
                  refine wpAnyH_ready (rs := [6]) (by kernel_rfl) (by simp) ?_
                  refine AllReadyH.cons (o := _) rfl (fun K hK => ?_) AllReadyH.nil
                  go_simp
                  refine (mergeT HT275.out HT273.out HG.out.gY HG.out.gZ HG.out.bY HG.out.bZ (by decide)).mono ?_
                  rintro e v277 ⟨t278, rfl, htv, hb⟩
                  have HB279 : Hid (Below wC.heap.size wC v277) := HB272.out.trans (hb.mono HB272.out.size)
                  have HT281 := Lib.hid (HT274.out.keep hb)
                  have HT282 := Lib.hid (HT275.out.keep hb)
                  have HT283 := Lib.hid (HT273.out.keep hb)
                  have hlt := (Array.getElem?_eq_some_iff.1 HA276.out.1).1
                  have HA284 : Hid (v277.heap[d265]? = some (.cells #[.slice none 0 0, .int .i64 0, .int .i64 0, .string ⟨#[]⟩, .slice none 0 0] 35 (0, 0)) ∧ wC.heap.size ≤ d265) := ⟨(hb.block _ hlt).trans HA276.out.1, HA276.out.2⟩
                  have HT280 := Lib.hid htv
                  clear htv hb HB272 HT274 HT275 HT273 HA276 hlt
                  go_wp2_with fail
                  refine hK _ _ (HQ0.out.s3 HB279.out) (fun hHeld => ?_)
                  clear hK K
                  refine wpAnyH_ready (rs := [7]) (by kernel_rfl) (by simp) ?_
                  refine AllReadyH.cons (o := _) rfl (fun K hK => ?_) AllReadyH.nil
                  go_simp
                  refine (mergeT HT281.out HT280.out HG.out.gX (HG.out.gY.mg HG.out.gZ) (HG.out.bX.up (by decide)) (HG.out.bY.mg HG.out.bZ) (by decide)).mono ?_
                  rintro e v285 ⟨t286, rfl, htv, hb⟩
                  have HB287 : Hid (Below wC.heap.size wC v285) := HB279.out.trans (hb.mono HB279.out.size)
                  have HT289 := Lib.hid (HT281.out.keep hb)
                  have HT290 := Lib.hid (HT282.out.keep hb)
                  have HT291 := Lib.hid (HT283.out.keep hb)
                  have HT292 := Lib.hid (HT280.out.keep hb)
                  have hlt := (Array.getElem?_eq_some_iff.1 HA284.out.1).1
                  have HA293 : Hid (v285.heap[d265]? = some (.cells #[.slice none 0 0, .int .i64 0, .int .i64 0, .string ⟨#[]⟩, .slice none 0 0] 35 (0, 0)) ∧ wC.heap.size ≤ d265) := ⟨(hb.block _ hlt).trans HA284.out.1, HA284.out.2⟩
                  have HT288 : Hid (TV (fun b => b ≠ d265) v285 t286 (mgD dX (mgD dY dZ))) := htv.move (fun b h _ => (show b ≠ d265 by have h9 : _ ≤ b := h; omega)) (Nat.le_refl _) (fun _ _ _ => rfl)
                  clear htv hb HB279 HT281 HT282 HT283 HT280 HA284 hlt
                  go_wp2_with fail
                  refine hK _ _ (HQ0.out.s3 HB287.out) (fun hHeld => ?_)
                  clear hK K
                  obtain ⟨ra, rn, rc, rs, rq, rg, rma, rm, rmc, hrf, -⟩ := HT288.out.form2
                  subst hrf
                  refine wpAnyH_ready (rs := [9]) (by kernel_rfl) (by simp) ?_
                  refine AllReadyH.cons (o := _) rfl (fun K hK => ?_) AllReadyH.nil
                  have hz := HA293.out.1
                  have z0 : v285.cell? ⟨d265, 0, none⟩ = some (.slice none 0 0) := by simp [World.cell?, hz]
                  have z1 : v285.cell? ⟨d265, 1, none⟩ = some (.int .i64 0) := by simp [World.cell?, hz]
                  have z2 : v285.cell? ⟨d265, 2, none⟩ = some (.int .i64 0) := by simp [World.cell?, hz]
                  have z3 : v285.cell? ⟨d265, 3, none⟩ = some (.string ⟨#[]⟩) := by simp [World.cell?, hz]
                  have z4 : v285.cell? ⟨d265, 4, none⟩ = some (.slice none 0 0) := by simp [World.cell?, hz]
                  have f0 : v285.frozen? ⟨d265, 0, none⟩ = false := by simp [World.frozen?, hz]
                  have f1 : v285.frozen? ⟨d265, 1, none⟩ = false := by simp [World.frozen?, hz]
                  have f2 : v285.frozen? ⟨d265, 2, none⟩ = false := by simp [World.frozen?, hz]
                  have f3 : v285.frozen? ⟨d265, 3, none⟩ = false := by simp [World.frozen?, hz]
                  have f4 : v285.frozen? ⟨d265, 4, none⟩ = false := by simp [World.frozen?, hz]
                  clear hz
                  go_simp
                  have HBE : Hid (Below wC.heap.size wC (((((v285.setCell ⟨d265, 0, none⟩ (.slice ra rn rc)).setCell ⟨d265, 1, none⟩ (.int .i64 rs)).setCell ⟨d265, 2, none⟩ (.int .i64 rq)).setCell ⟨d265, 3, none⟩ (.string rg)).setCell ⟨d265, 4, none⟩ (.slice rma rm rmc))) := below5 HB287.out HA293.out.2 _ _ _ _ _
                  refine hK _ _ (HQ0.out.s3 HBE.out) (fun hHeld => ?_)
                  clear hK K z0 z1 z2 z3 z4 f0 f1 f2 f3 f4
                  refine wpAnyH_done (by kernel_rfl) ?_ _
                  clear hHeld
                  go_wp2_with fail
                  go_meet
                  case rel => exact ⟨d265, ra, rn, rc, rs, rq, rg, rma, rm, rmc, rfl, own5 HA293.out.1 _ _ _ _ _, HT288.out.move (fun _ _ _ => trivial) (besides5 _ _ _ _ _ _ _).size (fun b hne hl => (besides5 _ _ _ _ _ _ _).block b hl hne), HBE.out⟩
              · go_simp
                have hb : Below v185.heap.size v185 (v185.alloc (.cells #[.slice none 0 0, .int .i64 0, .int .i64 0, .string ⟨#[]⟩, .slice none 0 0] 35)) := (Below.refl _ _).alloc (Nat.le_refl _) _
                have HB296 : Hid (Below wC.heap.size wC (v185.alloc (.cells #[.slice none 0 0, .int .i64 0, .int .i64 0, .string ⟨#[]⟩, .slice none 0 0] 35))) := HB187.out.trans (hb.mono HB187.out.size)
                have HA297 : Hid ((v185.alloc (.cells #[.slice none 0 0, .int .i64 0, .int .i64 0, .string ⟨#[]⟩, .slice none 0 0] 35)).heap[v185.heap.size]? = some (.cells #[.slice none 0 0, .int .i64 0, .int .i64 0, .string ⟨#[]⟩, .slice none 0 0] 35 (0, 0)) ∧ wC.heap.size ≤ v185.heap.size) := ⟨heap_new _ _, HB187.out.size⟩
                have HT298 := Lib.hid (HT188.out.keep hb)
                clear hb HB187 HT188
                refine hK _ _ (HQ0.out.s3 HB296.out) (fun hHeld => ?_)
                clear hK K
                generalize (v185.alloc (.cells #[.slice none 0 0, .int .i64 0, .int .i64 0, .string ⟨#[]⟩, .slice none 0 0] 35)) = v295 at *
                generalize hdd : v185.heap.size = d295 at *
                clear hdd
                refine wpAnyH_ready (rs := [3]) (by kernel_rfl) (by simp) ?_
                refine AllReadyH.cons (o := _) rfl (fun K hK => ?_) AllReadyH.nil
                go_simp
                refine (twinT (HQ0.out.keep HB296.out).ty HG.out.bY (by decide)).mono ?_
                rintro e v299 ⟨t300, rfl, htv, hb⟩
                have HB301 : Hid (Below wC.heap.size wC v299) := HB296.out.trans (hb.mono HB296.out.size)
                have HT303 := Lib.hid (HT298.out.keep hb)
                have hlt := (Array.getElem?_eq_some_iff.1 HA297.out.1).1
                have HA304 : Hid (v299.heap[d295]? = some (.cells #[.slice none 0 0, .int .i64 0, .int .i64 0, .string ⟨#[]⟩, .slice none 0 0] 35 (0, 0)) ∧ wC.heap.size ≤ d295) := ⟨(hb.block _ hlt).trans HA297.out.1, HA297.out.2⟩
                have HT302 := Lib.hid htv
                clear htv hb HB296 HT298 HA297 hlt
                go_wp2_with fail
                refine hK _ _ (HQ0.out.s3 HB301.out) (fun hHeld => ?_)
                clear hK K
                refine wpAnyH_ready (rs := [5]) (by kernel_rfl) (by simp) ?_
                refine AllReadyH.cons (o := _) rfl (fun K hK => ?_) AllReadyH.nil
                go_simp
                refine (twinT (HQ0.out.keep HB301.out).tz HG.out.bZ (by decide)).mono ?_
                rintro e v305 ⟨t306, rfl, htv, hb⟩
                have HB307 : Hid (Below wC.heap.size wC v305) := HB301.out.trans (hb.mono HB301.out.size)
                have HT309 := Lib.hid (HT303.out.keep hb)
                have HT310 := Lib.hid (HT302.out.keep hb)
                have hlt := (Array.getElem?_eq_some_iff.1 HA304.out.1).1
                have HA311 : Hid (v305.heap[d295]? = some (.cells #[.slice none 0 0, .int .i64 0, .int .i64 0, .string ⟨#[]⟩, .slice none 0 0] 35 (0, 0)) ∧ wC.heap.size ≤ d295) := ⟨(hb.block _ hlt).trans HA304.out.1, HA304.out.2⟩
                have HT308 := Lib.hid htv
                clear htv hb HB301 HT303 HT302 HA304 hlt
                go_wp2_with fail
                refine hK _ _ (HQ0.out.s3 HB307.out) (fun hHeld => ?_)
                clear hK K
                refine wpAnyH_ready (rs := [6]) (by kernel_rfl) (by simp) ?_
                refine AllReadyH.cons (o := _) rfl (fun K hK => ?_) AllReadyH.nil
                go_simp
                refine (mergeT HT310.out HT308.out HG.out.gY HG.out.gZ HG.out.bY HG.out.bZ (by decide)).mono ?_
                rintro e v312 ⟨t313, rfl, htv, hb⟩
                have HB314 : Hid (Below wC.heap.size wC v312) := HB307.out.trans (hb.mono HB307.out.size)
                have HT316 := Lib.hid (HT309.out.keep hb)
                have HT317 := Lib.hid (HT310.out.keep hb)
                have HT318 := Lib.hid (HT308.out.keep hb)
                have hlt := (Array.getElem?_eq_some_iff.1 HA311.out.1).1
                have HA319 : Hid (v312.heap[d295]? = some (.cells #[.slice none 0 0, .int .i64 0, .int .i64 0, .string ⟨#[]⟩, .slice none 0 0] 35 (0, 0)) ∧ wC.heap.size ≤ d295) := ⟨(hb.block _ hlt).trans HA311.out.1, HA311.out.2⟩
                have HT315 := Lib.hid htv
                clear htv hb HB307 HT309 HT310 HT308 HA311 hlt
                go_wp2_with fail
                refine hK _ _ (HQ0.out.s3 HB314.out) (fun hHeld => ?_)
                clear hK K
                refine wpAnyH_ready (rs := [7]) (by kernel_rfl) (by simp) ?_
                refine AllReadyH.cons (o := _) rfl (fun K hK => ?_) AllReadyH.nil
                go_simp
                refine (mergeT HT316.out HT315.out HG.out.gX (HG.out.gY.mg HG.out.gZ) (HG.out.bX.up (by decide)) (HG.out.bY.mg HG.out.bZ) (by decide)).mono ?_
                rintro e v320 ⟨t321, rfl, htv, hb⟩
                have HB322 : Hid (Below wC.heap.size wC v320) := HB314.out.trans (hb.mono HB314.out.size)
                have HT324 := Lib.hid (HT316.out.keep hb)
                have HT325 := Lib.hid (HT317.out.keep hb)
                have HT326 := Lib.hid (HT318.out.keep hb)
                have HT327 := Lib.hid (HT315.out.keep hb)
                have hlt := (Array.getElem?_eq_some_iff.1 HA319.out.1).1
                have HA328 : Hid (v320.heap[d295]? = some (.cells #[.slice none 0 0, .int .i64 0, .int .i64 0, .string ⟨#[]⟩, .slice none 0 0] 35 (0, 0)) ∧ wC.heap.size ≤ d295) := ⟨(hb.block _ hlt).trans HA319.out.1, HA319.out.2⟩
                have HT323 : Hid (TV (fun b => b ≠ d295) v320 t321 (mgD dX (mgD dY dZ))) := htv.move (fun b h _ => (show b ≠ d295 by have h9 : _ ≤ b := h; omega)) (Nat.le_refl _) (fun _ _ _ => rfl)
                clear htv hb HB314 HT316 HT317 HT318 HT315 HA319 hlt
                go_wp2_with fail
                refine hK _ _ (HQ0.out.s3 HB322.out) (fun hHeld => ?_)
                clear hK K
                obtain ⟨ra, rn, rc, rs, rq, rg, rma, rm, rmc, hrf, -⟩ := HT323.out.form2
                subst hrf
                refine wpAnyH_ready (rs := [9]) (by kernel_rfl) (by simp) ?_
                refine AllReadyH.cons (o := _) rfl (fun K hK => ?_) AllReadyH.nil
                have hz := HA328.out.1
                have z0 : v320.cell? ⟨d295, 0, none⟩ = some (.slice none 0 0) := by simp [World.cell?, hz]
                have z1 : v320.cell? ⟨d295, 1, none⟩ = some (.int .i64 0) := by simp [World.cell?, hz]
                have z2 : v320.cell? ⟨d295, 2, none⟩ = some (.int .i64 0) := by simp [World.cell?, hz]
                have z3 : v320.cell? ⟨d295, 3, none⟩ = some (.string ⟨#[]⟩) := by simp [World.cell?, hz]
                have z4 : v320.cell? ⟨d295, 4, none⟩ = some (.slice none 0 0) := by simp [World.cell?, hz]
                have f0 : v320.frozen? ⟨d295, 0, none⟩ = false := by simp [World.frozen?, hz]
                have f1 : v320.frozen? ⟨d295, 1, none⟩ = false := by simp [World.frozen?, hz]
                have f2 : v320.frozen? ⟨d295, 2, none⟩ = false := by simp [World.frozen?, hz]
                have f3 : v320.frozen? ⟨d295, 3, none⟩ = false := by simp [World.frozen?, hz]
                have f4 : v320.frozen? ⟨d295, 4, none⟩ = false := by simp [World.frozen?, hz]
                clear hz
                go_simp
                have HBE : Hid (Below wC.heap.size wC (((((v320.setCell ⟨d295, 0, none⟩ (.slice ra rn rc)).setCell ⟨d295, 1, none⟩ (.int .i64 rs)).setCell ⟨d295, 2, none⟩ (.int .i64 rq)).setCell ⟨d295, 3, none⟩ (.string rg)).setCell ⟨d295, 4, none⟩ (.slice rma rm rmc))) := below5 HB322.out HA328.out.2 _ _ _ _ _
                refine hK _ _ (HQ0.out.s3 HBE.out) (fun hHeld => ?_)
                clear hK K z0 z1 z2 z3 z4 f0 f1 f2 f3 f4
                refine wpAnyH_done (by kernel_rfl) ?_ _
                clear hHeld
                go_wp2_with fail
                go_meet
                case rel => exact ⟨d295, ra, rn, rc, rs, rq, rg, rma, rm, rmc, rfl, own5 HA328.out.1 _ _ _ _ _, HT323.out.move (fun _ _ _ => trivial) (besides5 _ _ _ _ _ _ _).size (fun b hne hl => (besides5 _ _ _ _ _ _ _).block b hl hne), HBE.out⟩
            · go_simp
              have hb : Below v0.heap.size v0 (v0.alloc (.cells #[.slice none 0 0, .int .i64 0, .int .i64 0, .string ⟨#[]⟩, .slice none 0 0] 35)) := (Below.refl _ _).alloc (Nat.le_refl _) _
              have HB331 : Hid (Below wC.heap.size wC (v0.alloc (.cells #[.slice none 0 0, .int .i64 0, .int .i64 0, .string ⟨#[]⟩, .slice none 0 0] 35))) := HB0.out.trans (hb.mono HB0.out.size)
              have HA332 : Hid ((v0.alloc (.cells #[.slice none 0 0, .int .i64 0, .int .i64 0, .string ⟨#[]⟩, .slice none 0 0] 35)).heap[v0.heap.size]? = some (.cells #[.slice none 0 0, .int .i64 0, .int .i64 0, .string ⟨#[]⟩, .slice none 0 0] 35 (0, 0)) ∧ wC.heap.size ≤ v0.heap.size) := ⟨heap_new _ _, HB0.out.size⟩
              clear hb HB0 
              refine hK _ _ (HQ0.out.s3 HB331.out) (fun hHeld => ?_)
              clear hK K
              generalize (v0.alloc (.cells #[.slice none 0 0, .int .i64 0, .int .i64 0, .string ⟨#[]⟩, .slice none 0 0] 35)) = v330 at *
              generalize hdd : v0.heap.size = d330 at *
              clear hdd
              refine wpAnyH_ready (rs := [1]) (by kernel_rfl) (by simp) ?_
              refine AllReadyH.cons (o := _) rfl (fun K hK => ?_) AllReadyH.nil
              go_simp
              refine (twinT (HQ0.out.keep HB331.out).tx HG.out.bX (by decide)).mono ?_
              rintro e v333 ⟨t334, rfl, htv, hb⟩
              have HB335 : Hid (Below wC.heap.size wC v333) := HB331.out.trans (hb.mono HB331.out.size)
              have hlt := (Array.getElem?_eq_some_iff.1 HA332.out.1).1
              have HA337 : Hid (v333.heap[d330]? = some (.cells #[.slice none 0 0, .int .i64 0, .int .i64 0, .string ⟨#[]⟩, .slice none 0 0] 35 (0, 0)) ∧ wC.heap.size ≤ d330) := ⟨(hb.block _ hlt).trans HA332.out.1, HA332.out.2⟩
              have HT336 := Lib.hid htv
              clear htv hb HB331  HA332 hlt
              go_wp2_with fail
              refine hK _ _ (HQ0.out.s3 HB335.out) (fun hHeld => ?_)
              clear hK K
              refine wpAnyH_ready (rs := [3]) (by kernel_rfl) (by simp) ?_
              refine AllReadyH.cons (o := _) rfl (fun K hK => ?_) AllReadyH.nil
              go_simp
              refine (twinT (HQ0.out.keep HB335.out).ty HG.out.bY (by decide)).mono ?_
              rintro e v338 ⟨t339, rfl, htv, hb⟩
              have HB340 : Hid (Below wC.heap.size wC v338) := HB335.out.trans (hb.mono HB335.out.size)
              have HT342 := Lib.hid (HT336.out.keep hb)
              have hlt := (Array.getElem?_eq_some_iff.1 HA337.out.1).1
              have HA343 : Hid (v338.heap[d330]? = some (.cells #[.slice none 0 0, .int .i64 0, .int .i64 0, .string ⟨#[]⟩, .slice none 0 0] 35 (0, 0)) ∧ wC.heap.size ≤ d330) := ⟨(hb.block _ hlt).trans HA337.out.1, HA337.out.2⟩
              have HT341 := Lib.hid htv
              clear htv hb HB335 HT336 HA337 hlt
              go_wp2_with fail
              refine hK _ _ (HQ0.out.s3 HB340.out) (fun hHeld => ?_)
              clear hK K
              refine wpAnyH_ready (rs := [5]) (by kernel_rfl) (by simp) ?_
              refine AllReadyH.cons (o := _) rfl (fun K hK => ?_) AllReadyH.nil
              go_simp
              refine (twinT (HQ0.out.keep HB340.out).tz HG.out.bZ (by decide)).mono ?_
              rintro e v344 ⟨t345, rfl, htv, hb⟩
              have HB346 : Hid (Below wC.heap.size wC v344) := HB340.out.trans (hb.mono HB340.out.size)
              have HT348 := Lib.hid (HT342.out.keep hb)
              have HT349 := Lib.hid (HT341.out.keep hb)
              have hlt := (Array.getElem?_eq_some_iff.1 HA343.out.1).1
              have HA350 : Hid (v344.heap[d330]? = some (.cells #[.slice none 0 0, .int .i64 0, .int .i64 0, .string ⟨#[]⟩, .slice none 0 0] 35 (0, 0)) ∧ wC.heap.size ≤ d330) := ⟨(hb.block _ hlt).trans HA343.out.1, HA343.out.2⟩
              have HT347 := Lib.hid htv
              clear htv hb HB340 HT342 HT341 HA343 hlt
              go_wp2_with fail
              refine hK _ _ (HQ0.out.s3 HB346.out) (fun hHeld => ?_)
              clear hK K
              refine wpAnyH_ready (rs := [6]) (by kernel_rfl) (by simp) ?_
              refine AllReadyH.cons (o := _) rfl (fun K hK => ?_) AllReadyH.nil
              go_simp
              refine (mergeT HT349.out HT347.out HG.out.gY HG.out.gZ HG.out.bY HG.out.bZ (by decide)).mono ?_
              rintro e v351 ⟨t352, rfl, htv, hb⟩
              have HB353 : Hid (Below wC.heap.size wC v351) := HB346.out.trans (hb.mono HB346.out.size)
              have HT355 := Lib.hid (HT348.out.keep hb)
              have HT356 := Lib.hid (HT349.out.keep hb)
              have HT357 := Lib.hid (HT347.out.keep hb)
              have hlt := (Array.getElem?_eq_some_iff.1 HA350.out.1).1
              have HA358 : Hid (v351.heap[d330]? = some (.cells #[.slice none 0 0, .int .i64 0, .int .i64 0, .string ⟨#[]⟩, .slice none 0 0] 35 (0, 0)) ∧ wC.heap.size ≤ d330) := ⟨(hb.block _ hlt).trans HA350.out.1, HA350.out.2⟩
              have HT354 := Lib.hid htv
              clear htv hb HB346 HT348 HT349 HT347 HA350 hlt
              go_wp2_with fail
              refine hK _ _ (HQ0.out.s3 HB353.out) (fun hHeld => ?_)
              clear hK K
              refine wpAnyH_ready (rs := [7]) (by kernel_rfl) (by simp) ?_
              refine AllReadyH.cons (o := _) rfl (fun K hK => ?_) AllReadyH.nil
              go_simp
              refine (mergeT HT355.out HT354.out HG.out.gX (HG.out.gY.mg HG.out.gZ) (HG.out.bX.up (by decide)) (HG.out.bY.mg HG.out.bZ) (by decide)).mono ?_
              rintro e v359 ⟨t360, rfl, htv, hb⟩
              have HB361 : Hid (Below wC.heap.size wC v359) := HB353.out.trans (hb.mono HB353.out.size)
              have HT363 := Lib.hid (HT355.out.keep hb)
              have HT364 := Lib.hid (HT356.out.keep hb)
              have HT365 := Lib.hid (HT357.out.keep hb)
              have HT366 := Lib.hid (HT354.out.keep hb)
              have hlt := (Array.getElem?_eq_some_iff.1 HA358.out.1).1
              have HA367 : Hid (v359.heap[d330]? = some (.cells #[.slice none 0 0, .int .i64 0, .int .i64 0, .string ⟨#[]⟩, .slice none 0 0] 35 (0, 0)) ∧ wC.heap.size ≤ d330) := ⟨(hb.block _ hlt).trans HA358.out.1, HA358.out.2⟩
              have HT362 : Hid (TV (fun b => b ≠ d330) v359 t360 (mgD dX (mgD dY dZ))) := htv.move (fun b h _ => (show b ≠ d330 by have h9 : _ ≤ b := h; omega)) (Nat.le_refl _) (fun _ _ _ => rfl)
              clear htv hb HB353 HT355 HT356 HT357 HT354 HA358 hlt
              go_wp2_with fail
              refine hK _ _ (HQ0.out.s3 HB361.out) (fun hHeld => ?_)
              clear hK K
              obtain ⟨ra, rn, rc, rs, rq, rg, rma, rm, rmc, hrf, -⟩ := HT362.out.form2
              subst hrf
              refine wpAnyH_ready (rs := [9]) (by kernel_rfl) (by simp) ?_
              refine AllReadyH.cons (o := _) rfl (fun K hK => ?_) AllReadyH.nil
              have hz := HA367.out.1
              have z0 : v359.cell? ⟨d330, 0, none⟩ = some (.slice none 0 0) := by simp [World.cell?, hz]
              have z1 : v359.cell? ⟨d330, 1, none⟩ = some (.int .i64 0) := by simp [World.cell?, hz]
              have z2 : v359.cell? ⟨d330, 2, none⟩ = some (.int .i64 0) := by simp [World.cell?, hz]
              have z3 : v359.cell? ⟨d330, 3, none⟩ = some (.string ⟨#[]⟩) := by simp [World.cell?, hz]
              have z4 : v359.cell? ⟨d330, 4, none⟩ = some (.slice none 0 0) := by simp [World.cell?, hz]
              have f0 : v359.frozen? ⟨d330, 0, none⟩ = false := by simp [World.frozen?, hz]
              have f1 : v359.frozen? ⟨d330, 1, none⟩ = false := by simp [World.frozen?, hz]
              have f2 : v359.frozen? ⟨d330, 2, none⟩ = false := by simp [World.frozen?, hz]
              have f3 : v359.frozen? ⟨d330, 3, none⟩ = false := by simp [World.frozen?, hz]
              have f4 : v359.frozen? ⟨d330, 4, none⟩ = false := by simp [World.frozen?, hz]
              clear hz
              go_simp
              have HBE : Hid (Below wC.heap.size wC (((((v359.setCell ⟨d330, 0, none⟩ (.slice ra rn rc)).setCell ⟨d330, 1, none⟩ (.int .i64 rs)).setCell ⟨d330, 2, none⟩ (.int .i64 rq)).setCell ⟨d330, 3, none⟩ (.string rg)).setCell ⟨d330, 4, none⟩ (.slice rma rm rmc))) := below5 HB361.out HA367.out.2 _ _ _ _ _
              refine hK _ _ (HQ0.out.s3 HBE.out) (fun hHeld => ?_)
              clear hK K z0 z1 z2 z3 z4 f0 f1 f2 f3 f4
              refine wpAnyH_done (by kernel_rfl) ?_ _
              clear hHeld
              go_wp2_with fail
              go_meet
              case rel => exact ⟨d330, ra, rn, rc, rs, rq, rg, rma, rm, rmc, rfl, own5 HA367.out.1 _ _ _ _ _, HT362.out.move (fun _ _ _ => trivial) (besides5 _ _ _ _ _ _ _).size (fun b hne hl => (besides5 _ _ _ _ _ _ _).block b hl hne), HBE.out⟩

          case rest =>
            obtain ⟨bR, ra, rn, rc, rs, rq, rg, rma, rm, rmc, rfl, hol, htl, hbl⟩ := hcut
            have HQ1 := Lib.hid (HQ0.out.keep hbl)
            have HLB1 : Hid (ow wc bL (.slice la ln lc) (.int .i64 ls) (.int .i64 lq) (.string lg) (.slice lma lm lmc) ∧ TV (fun _ => True) wc (.agg #[.slice la ln lc, .int .i64 ls, .int .i64 lq, .string lg, .slice lma lm lmc]) (mgD (mgD dX dY) dZ)) := ⟨ow_keep HLB.out.1 hbl, HLB.out.2.keep hbl⟩
            have HRB : Hid (ow wc bR (.slice ra rn rc) (.int .i64 rs) (.int .i64 rq) (.string rg) (.slice rma rm rmc) ∧ TV (fun _ => True) wc (.agg #[.slice ra rn rc, .int .i64 rs, .int .i64 rq, .string rg, .slice rma rm rmc]) (mgD (mgD dX dY) dZ)) := ⟨hol, by rw [mgD_assoc HG.out.gX HG.out.gY HG.out.gZ]; exact htl⟩
            clear HQ0 HLB hol htl hbl
            have HQ0 := HQ1
            have HLB := HLB1
            clear HQ1 HLB1
            generalize wc = wD at *
            go_upto_region 9 with fail
            go_cut [78] from 59 to 77 (fun s78 wx => s78 = .bool false ∧ Below wD.heap.size wD wx)
            case first =>
              have HB0 : Hid (Below wD.heap.size wD wD.drew) := belowDrew1 _
              refine wp_region_held_drew (S := fun s => C5 s bL (.slice la ln lc) (.int .i64 ls) (.int .i64 lq) (.string lg) (.slice lma lm lmc) ∧ C5 s bR (.slice ra rn rc) (.int .i64 rs) (.int .i64 rq) (.string rg) (.slice rma rm rmc) ∧ C5 s bX (.slice xa xn xc) (.int .i64 xs) (.int .i64 xq) (.string xg) (.slice xma xm xmc) ∧ C5 s bN (.slice none 0 0) (.int .i64 0) (.int .i64 0) (.string ⟨#[]⟩) (.slice none 0 0)) (by kernel_rfl) (⟨c5_of (ow_keep HLB.out.1 (belowDrew1 _)), c5_of (ow_keep HRB.out.1 (belowDrew1 _)), c5_of (ow_keep HQ0.out.bx (belowDrew1 _)), c5_of (ow_keep HQ0.out.bn (belowDrew1 _))⟩) (fun hHeld => ?_)
              generalize wD.drew = v0 at *
              refine wpAnyH_take (i := 0) (v := .agg #[.slice la ln lc, .int .i64 ls, .int .i64 lq, .string lg, .slice lma lm lmc]) rfl (by kernel_rfl) (by kernel_rfl) (by kernel_rfl) (fun _ _ _ h => h) (Or.inl ⟨by rfl, fun w hw => by obtain ⟨⟨a0, a1, a2, a3, a4⟩, ⟨b0, b1, b2, b3, b4⟩, ⟨c0, c1, c2, c3, c4⟩, n0, n1, n2, n3, n4⟩ := hw; go_simp⟩) hHeld ?_
              simp only [Act.put, List.getElem_toArray, List.getElem_cons_zero, List.setIfInBounds_toArray, List.set_cons_zero, List.set_cons_succ]
              refine wpAnyH_take (i := 1) (v := .agg #[.slice ra rn rc, .int .i64 rs, .int .i64 rq, .string rg, .slice rma rm rmc]) rfl (by kernel_rfl) (by kernel_rfl) (by kernel_rfl) (fun _ _ _ h => h) (Or.inl ⟨by rfl, fun w hw => by obtain ⟨⟨a0, a1, a2, a3, a4⟩, ⟨b0, b1, b2, b3, b4⟩, ⟨c0, c1, c2, c3, c4⟩, n0, n1, n2, n3, n4⟩ := hw; go_simp⟩) hHeld ?_
              simp only [Act.put, List.getElem_toArray, List.getElem_cons_zero, List.getElem_cons_succ, List.setIfInBounds_toArray, List.set_cons_zero, List.set_cons_succ]
              refine wpAnyH_ready (rs := [2]) (by kernel_rfl) (by simp) ?_
              refine AllReadyH.cons (o := _) rfl (fun K hK => ?_) AllReadyH.nil
              go_simp
              refine (sameT (HLB.out.2.keep HB0.out) (HRB.out.2.keep HB0.out) ((HG.out.bX.mg HG.out.bY).mg HG.out.bZ) (by decide)).mono ?_
              rintro e v1 ⟨rfl, hb⟩
              have HB1 : Hid (Below wD.heap.size wD v1) := HB0.out.trans (hb.mono HB0.out.size)
              clear hb
              go_wp2_with fail
              refine hK _ _ (⟨c5_of (ow_keep HLB.out.1 HB1.out), c5_of (ow_keep HRB.out.1 HB1.out), c5_of (ow_keep HQ0.out.bx HB1.out), c5_of (ow_keep HQ0.out.bn HB1.out)⟩) (fun hHeld => ?_)
              clear hK K
              refine wpAnyH_take (i := 3) (v := .bool false) rfl (by kernel_rfl) (by kernel_rfl) (by kernel_rfl) (fun _ _ _ h => h) (Or.inl ⟨by rfl, fun w hw => by go_simp⟩) hHeld ?_
              simp only [Act.put, List.getElem_toArray, List.getElem_cons_zero, List.getElem_cons_succ, List.setIfInBounds_toArray, List.set_cons_zero, List.set_cons_succ]
              refine wpAnyH_take (i := 4) (v := .bool false) rfl (by kernel_rfl) (by kernel_rfl) (by kernel_rfl) (fun _ _ _ h => h) (Or.inl ⟨by rfl, fun w hw => by go_simp⟩) hHeld ?_
              simp only [Act.put, List.getElem_toArray, List.getElem_cons_zero, List.getElem_cons_succ, List.setIfInBounds_toArray, List.set_cons_zero, List.set_cons_succ]
              refine wpAnyH_take (i := 5) (v := .agg #[.slice xa xn xc, .int .i64 xs, .int .i64 xq, .string xg, .slice xma xm xmc]) rfl (by kernel_rfl) (by kernel_rfl) (by kernel_rfl) (fun _ _ _ h => h) (Or.inl ⟨by rfl, fun w hw => by obtain ⟨⟨a0, a1, a2, a3, a4⟩, ⟨b0, b1, b2, b3, b4⟩, ⟨c0, c1, c2, c3, c4⟩, n0, n1, n2, n3, n4⟩ := hw; go_simp⟩) hHeld ?_
              simp only [Act.put, List.getElem_toArray, List.getElem_cons_zero, List.getElem_cons_succ, List.setIfInBounds_toArray, List.set_cons_zero, List.set_cons_succ]
              refine wpAnyH_take (i := 6) (v := .agg #[.slice none 0 0, .int .i64 0, .int .i64 0, .string ⟨#[]⟩, .slice none 0 0]) rfl (by kernel_rfl) (by kernel_rfl) (by kernel_rfl) (fun _ _ _ h => h) (Or.inl ⟨by rfl, fun w hw => by obtain ⟨⟨a0, a1, a2, a3, a4⟩, ⟨b0, b1, b2, b3, b4⟩, ⟨c0, c1, c2, c3, c4⟩, n0, n1, n2, n3, n4⟩ := hw; go_simp⟩) hHeld ?_
              simp only [Act.put, List.getElem_toArray, List.getElem_cons_zero, List.getElem_cons_succ, List.setIfInBounds_toArray, List.set_cons_zero, List.set_cons_succ]
              refine wpAnyH_take (i := 8) (v := .agg #[.slice xa xn xc, .int .i64 xs, .int .i64 xq, .string xg, .slice xma xm xmc]) rfl (by kernel_rfl) (by kernel_rfl) (by kernel_rfl) (fun _ _ _ h => h) (Or.inl ⟨by rfl, fun w hw => by obtain ⟨⟨a0, a1, a2, a3, a4⟩, ⟨b0, b1, b2, b3, b4⟩, ⟨c0, c1, c2, c3, c4⟩, n0, n1, n2, n3, n4⟩ := hw; go_simp⟩) hHeld ?_
              simp only [Act.put, List.getElem_toArray, List.getElem_cons_zero, List.getElem_cons_succ, List.setIfInBounds_toArray, List.set_cons_zero, List.set_cons_succ]
              refine wpAnyH_ready (rs := [7]) (by kernel_rfl) (by simp) ?_
              refine AllReadyH.cons (o := _) rfl (fun K hK => ?_) AllReadyH.nil
              go_simp
              refine (mergeT (HQ0.out.keep HB1.out).tx (noT v1) HG.out.gX noD_good HG.out.bX (noD_bd.up (by decide)) (by decide)).mono ?_
              rintro e v2 ⟨t1, rfl, htv, hb⟩
              have HB2 : Hid (Below wD.heap.size wD v2) := HB1.out.trans (hb.mono HB1.out.size)
              rw [mgD_none] at htv
              have HT1 := Lib.hid htv
              clear htv
              clear hb
              go_wp2_with fail
              refine hK _ _ (⟨c5_of (ow_keep HLB.out.1 HB2.out), c5_of (ow_keep HRB.out.1 HB2.out), c5_of (ow_keep HQ0.out.bx HB2.out), c5_of (ow_keep HQ0.out.bn HB2.out)⟩) (fun hHeld => ?_)
              clear hK K
              refine wpAnyH_ready (rs := [9]) (by kernel_rfl) (by simp) ?_
              refine AllReadyH.cons (o := _) rfl (fun K hK => ?_) AllReadyH.nil
              go_simp
              refine (sameT HT1.out (HQ0.out.keep HB2.out).tx HG.out.bX (by decide)).mono ?_
              rintro e v3 ⟨rfl, hb⟩
              have HB3 : Hid (Below wD.heap.size wD v3) := HB2.out.trans (hb.mono HB2.out.size)
              clear hb
              go_wp2_with fail
              refine hK _ _ (⟨c5_of (ow_keep HLB.out.1 HB3.out), c5_of (ow_keep HRB.out.1 HB3.out), c5_of (ow_keep HQ0.out.bx HB3.out), c5_of (ow_keep HQ0.out.bn HB3.out)⟩) (fun hHeld => ?_)
              clear hK K
              refine wpAnyH_take (i := 10) (v := .bool false) rfl (by kernel_rfl) (by kernel_rfl) (by kernel_rfl) (fun _ _ _ h => h) (Or.inl ⟨by rfl, fun w hw => by go_simp⟩) hHeld ?_
              simp only [Act.put, List.getElem_toArray, List.getElem_cons_zero, List.getElem_cons_succ, List.setIfInBounds_toArray, List.set_cons_zero, List.set_cons_succ]
              refine wpAnyH_take (i := 11) (v := .bool false) rfl (by kernel_rfl) (by kernel_rfl) (by kernel_rfl) (fun _ _ _ h => h) (Or.inl ⟨by rfl, fun w hw => by go_simp⟩) hHeld ?_
              simp only [Act.put, List.getElem_toArray, List.getElem_cons_zero, List.getElem_cons_succ, List.setIfInBounds_toArray, List.set_cons_zero, List.set_cons_succ]
              refine wpAnyH_take (i := 12) (v := .bool false) rfl (by kernel_rfl) (by kernel_rfl) (by kernel_rfl) (fun _ _ _ h => h) (Or.inl ⟨by rfl, fun w hw => by go_simp⟩) hHeld ?_
              simp only [Act.put, List.getElem_toArray, List.getElem_cons_zero, List.getElem_cons_succ, List.setIfInBounds_toArray, List.set_cons_zero, List.set_cons_succ]
              refine wpAnyH_take (i := 13) (v := .agg #[.slice none 0 0, .int .i64 0, .int .i64 0, .string ⟨#[]⟩, .slice none 0 0]) rfl (by kernel_rfl) (by kernel_rfl) (by kernel_rfl) (fun _ _ _ h => h) (Or.inl ⟨by rfl, fun w hw => by obtain ⟨⟨a0, a1, a2, a3, a4⟩, ⟨b0, b1, b2, b3, b4⟩, ⟨c0, c1, c2, c3, c4⟩, n0, n1, n2, n3, n4⟩ := hw; go_simp⟩) hHeld ?_
              simp only [Act.put, List.getElem_toArray, List.getElem_cons_zero, List.getElem_cons_succ, List.setIfInBounds_toArray, List.set_cons_zero, List.set_cons_succ]
              refine wpAnyH_take (i := 14) (v := .agg #[.slice xa xn xc, .int .i64 xs, .int .i64 xq, .string xg, .slice xma xm xmc]) rfl (by kernel_rfl) (by kernel_rfl) (by kernel_rfl) (fun _ _ _ h => h) (Or.inl ⟨by rfl, fun w hw => by obtain ⟨⟨a0, a1, a2, a3, a4⟩, ⟨b0, b1, b2, b3, b4⟩, ⟨c0, c1, c2, c3, c4⟩, n0, n1, n2, n3, n4⟩ := hw; go_simp⟩) hHeld ?_
              simp only [Act.put, List.getElem_toArray, List.getElem_cons_zero, List.getElem_cons_succ, List.setIfInBounds_toArray, List.set_cons_zero, List.set_cons_succ]
              refine wpAnyH_take (i := 16) (v := .agg #[.slice xa xn xc, .int .i64 xs, .int .i64 xq, .string xg, .slice xma xm xmc]) rfl (by kernel_rfl) (by kernel_rfl) (by kernel_rfl) (fun _ _ _ h => h) (Or.inl ⟨by rfl, fun w hw => by obtain ⟨⟨a0, a1, a2, a3, a4⟩, ⟨b0, b1, b2, b3, b4⟩, ⟨c0, c1, c2, c3, c4⟩, n0, n1, n2, n3, n4⟩ := hw; go_simp⟩) hHeld ?_
              simp only [Act.put, List.getElem_toArray, List.getElem_cons_zero, List.getElem_cons_succ, List.setIfInBounds_toArray, List.set_cons_zero, List.set_cons_succ]
              refine wpAnyH_ready (rs := [15]) (by kernel_rfl) (by simp) ?_
              refine AllReadyH.cons (o := _) rfl (fun K hK => ?_) AllReadyH.nil
              go_simp
              refine (mergeT (noT v3) (HQ0.out.keep HB3.out).tx noD_good HG.out.gX (noD_bd.up (by decide)) HG.out.bX (by decide)).mono ?_
              rintro e v4 ⟨t2, rfl, htv, hb⟩
              have HB4 : Hid (Below wD.heap.size wD v4) := HB3.out.trans (hb.mono HB3.out.size)
              rw [mgD_left] at htv
              have HT2 := Lib.hid htv
              clear htv
              clear hb
              go_wp2_with fail
              refine hK _ _ (⟨c5_of (ow_keep HLB.out.1 HB4.out), c5_of (ow_keep HRB.out.1 HB4.out), c5_of (ow_keep HQ0.out.bx HB4.out), c5_of (ow_keep HQ0.out.bn HB4.out)⟩) (fun hHeld => ?_)
              clear hK K
              refine wpAnyH_ready (rs := [17]) (by kernel_rfl) (by simp) ?_
              refine AllReadyH.cons (o := _) rfl (fun K hK => ?_) AllReadyH.nil
              go_simp
              refine (sameT HT2.out (HQ0.out.keep HB4.out).tx HG.out.bX (by decide)).mono ?_
              rintro e v5 ⟨rfl, hb⟩
              have HB5 : Hid (Below wD.heap.size wD v5) := HB4.out.trans (hb.mono HB4.out.size)
              clear hb
              go_wp2_with fail
              refine hK _ _ (⟨c5_of (ow_keep HLB.out.1 HB5.out), c5_of (ow_keep HRB.out.1 HB5.out), c5_of (ow_keep HQ0.out.bx HB5.out), c5_of (ow_keep HQ0.out.bn HB5.out)⟩) (fun hHeld => ?_)
              clear hK K
              refine wpAnyH_take (i := 18) (v := .bool false) rfl (by kernel_rfl) (by kernel_rfl) (by kernel_rfl) (fun _ _ _ h => h) (Or.inl ⟨by rfl, fun w hw => by go_simp⟩) hHeld ?_
              simp only [Act.put, List.getElem_toArray, List.getElem_cons_zero, List.getElem_cons_succ, List.setIfInBounds_toArray, List.set_cons_zero, List.set_cons_succ]
              refine wpAnyH_take (i := 19) (v := .bool false) rfl (by kernel_rfl) (by kernel_rfl) (by kernel_rfl) (fun _ _ _ h => h) (Or.inl ⟨by rfl, fun w hw => by go_simp⟩) hHeld ?_
              simp only [Act.put, List.getElem_toArray, List.getElem_cons_zero, List.getElem_cons_succ, List.setIfInBounds_toArray, List.set_cons_zero, List.set_cons_succ]
              refine wpAnyH_done (by kernel_rfl) ?_ _
              clear hHeld
              go_wp2_with fail
              go_meet
              case rel => exact ⟨rfl, HB5.out⟩

            case rest =>
              obtain ⟨rfl, hbl⟩ := hcut
              have HQ1 := Lib.hid (HQ0.out.keep hbl)
              clear HQ0 hbl HLB HRB
              have HQ0 := HQ1
              clear HQ1
              generalize wc = wE at *
              obtain ⟨a0, a1, a2, a3, a4⟩ := ow.cells HQ0.out.bx
              obtain ⟨b0, b1, b2, b3, b4⟩ := ow.cells HQ0.out.by'
              have HMG := Lib.hid (mergeT HQ0.out.tx HQ0.out.ty HG.out.gX HG.out.gY HG.out.bX HG.out.bY (by decide))
              go_wp2_with fail
              refine HMG.out.mono ?_
              rintro e wF ⟨v9, rfl, htv, hb⟩
              obtain ⟨ba, bn, bc, bs, bq, bg, bma, bm, bmc, hvf, eb1, eb2, eb3⟩ := htv.form2
              subst hvf
              have bb : Below wF.heap.size wF (wF.alloc (.cells #[.slice ba bn bc, .int .i64 bs, .int .i64 bq, .string bg, .slice bma bm bmc] 35)) := (Below.refl _ _).alloc (Nat.le_refl _) _
              have HQ1 := Lib.hid (HQ0.out.keep (hb.trans (bb.mono hb.size)))
              have HBB : Hid (ow (wF.alloc (.cells #[.slice ba bn bc, .int .i64 bs, .int .i64 bq, .string bg, .slice bma bm bmc] 35)) wF.heap.size (.slice ba bn bc) (.int .i64 bs) (.int .i64 bq) (.string bg) (.slice bma bm bmc) ∧ TV (fun _ => True) (wF.alloc (.cells #[.slice ba bn bc, .int .i64 bs, .int .i64 bq, .string bg, .slice bma bm bmc] 35)) (.agg #[.slice ba bn bc, .int .i64 bs, .int .i64 bq, .string bg, .slice bma bm bmc]) (mgD dX dY)) := ⟨heap_new _ _, htv.keep bb⟩
              have HEB : Hid (bs = (mgD dX dY).sz ∧ bq = (mgD dX dY).qu) := ⟨eb2, eb3⟩
              clear a0 a1 a2 a3 a4 b0 b1 b2 b3 b4 HMG htv hb bb eb1 eb2 eb3 HQ0
              have HQ0 := HQ1
              clear HQ1
              go_upto_region 12 with fail
              generalize wF.alloc (.cells #[.slice ba bn bc, .int .i64 bs, .int .i64 bq, .string bg, .slice bma bm bmc] 35) = wG at *
              generalize wF.heap.size = bB at *
              have HXN : Hid (xn ≤ 1048576 ∧ yn ≤ 1048576) := ⟨by rw [HEx.out.1]; exact HG.out.bX.nl, by rw [HEy.out.1]; exact HG.out.bY.nl⟩
              go_wp2_with fail
              go_loopw [16] (fun ti wr => ∃ i : Int, -1 ≤ i ∧ i ≤ (xn : Int) + (yn : Int) ∧ ti = .int .i64 i ∧ Hid (Below wG.heap.size wG wr)) (fun ti _ => ((xn : Int) + (yn : Int) - intOf ti).toNat)
              case atStart => exact ⟨-1, by omega, by omega, rfl, Below.refl _ _⟩
              case round =>
                obtain ⟨i, hi0, hi1, rfl, HBW⟩ := hrel
                have HQ := Lib.hid (HQ0.out.keep HBW.out)
                have HBR : Hid (ow wr bB (.slice ba bn bc) (.int .i64 bs) (.int .i64 bq) (.string bg) (.slice bma bm bmc) ∧ TV (fun _ => True) wr (.agg #[.slice ba bn bc, .int .i64 bs, .int .i64 bq, .string bg, .slice bma bm bmc]) (mgD dX dY)) := ⟨ow_keep HBB.out.1 HBW.out, HBB.out.2.keep HBW.out⟩
                obtain ⟨a0, a1, a2, a3, a4⟩ := ow.cells HQ.out.bx
                obtain ⟨b0, b1, b2, b3, b4⟩ := ow.cells HQ.out.by'
                obtain ⟨c0, c1, c2, c3, c4⟩ := ow.cells HBR.out.1
                have hxn := HXN.out
                by_cases hlt : i < (xn : Int) + (yn : Int)
                · go_upto_if 98 with fail
                  go_cut [17] from 94 to 116 (fun s17 wx => ∃ s, s17 = .string s ∧ wx = wr)
                  case first =>
                    by_cases h1 : (xn : Int) ≤ i
                    · obtain ⟨k, hk⟩ : ∃ k : Nat, i = (xn : Int) + (k : Int) := ⟨(i - xn).toNat, by omega⟩
                      obtain ⟨q, o, s, rfl, hc⟩ := HQ.out.ty.names k (by omega)
                      have hw : IntKind.i64.wrap (i - (xn : Int)) = (k : Int) := by rw [IntKind.wrap_i64]; omega
                      have k0 : (0 : Int) ≤ (k : Int) := by omega
                      have k1 : (k : Int) < (yn : Int) := by omega
                      have h2 : (0 : Int) ≤ i := by omega
                      clear hk
                      go_wp2_with fail
                      go_meet
                      case rel => exact ⟨_, rfl, rfl⟩
                    · by_cases h2 : (0 : Int) ≤ i
                      · obtain ⟨k, rfl⟩ : ∃ k : Nat, i = (k : Int) := ⟨i.toNat, by omega⟩
                        obtain ⟨q, o, s, rfl, hc⟩ := HQ.out.tx.names k (by omega)
                        have k1 : (k : Int) < (xn : Int) := by omega
                        go_wp2_with fail
                        go_meet
                        case rel => exact ⟨_, rfl, rfl⟩
                      · go_wp2_with fail
                        go_meet
                        case rel => exact ⟨_, rfl, rfl⟩
                  case rest =>
                    obtain ⟨s, rfl, hwc⟩ := hcut
                    obtain rfl : wr = wc := hwc.symm
                    clear hwc
                    have hnm := num_mg HG.out.gX HG.out.gY s
                    have HN1 := Lib.hid (numberT HBR.out.2 (HG.out.bX.mg HG.out.bY) (by decide) s)
                    have HN2 := Lib.hid (fun w' (h : TV (fun _ => True) w' (.agg #[.slice ya yn yc, .int .i64 ys, .int .i64 yq, .string yg, .slice yma ym ymc]) dY) => numberT h HG.out.bY (by decide) s)
                    have HN3 := Lib.hid (fun w' (h : TV (fun _ => True) w' (.agg #[.slice xa xn xc, .int .i64 xs, .int .i64 xq, .string xg, .slice xma xm xmc]) dX) => numberT h HG.out.bX (by decide) s)
                    generalize nuN (mgD dX dY).ns s = p1 at *
                    generalize (nuF (mgD dX dY).ns s).isSome = t1 at *
                    generalize nuN dY.ns s = p2 at *
                    generalize (nuF dY.ns s).isSome = t2 at *
                    generalize nuN dX.ns s = p3 at *
                    generalize (nuF dX.ns s).isSome = t3 at *
                    have HNM := Lib.hid hnm
                    clear hnm
                    go_wp2_with fail
                    refine HN1.out.mono ?_
                    rintro e w1 ⟨rfl, hb⟩
                    have HBW1 : Hid (Below wG.heap.size wG w1) := HBW.out.trans (hb.mono HBW.out.size)
                    have HQ1 := Lib.hid (HQ.out.keep hb)
                    clear HBW HQ HBR HN1 hb a0 a1 a2 a3 a4 b0 b1 b2 b3 b4 c0 c1 c2 c3 c4
                    obtain ⟨b0, b1, b2, b3, b4⟩ := ow.cells HQ1.out.by'
                    go_wp2_with fail
                    refine (HN2.out _ HQ1.out.ty).mono ?_
                    rintro e w2 ⟨rfl, hb⟩
                    have HBW : Hid (Below wG.heap.size wG w2) := HBW1.out.trans (hb.mono HBW1.out.size)
                    have HQ := Lib.hid (HQ1.out.keep hb)
                    clear HBW1 HQ1 HN2 hb b0 b1 b2 b3 b4
                    obtain ⟨a0, a1, a2, a3, a4⟩ := ow.cells HQ.out.bx
                    go_wp2_with fail
                    refine (HN3.out _ HQ.out.tx).mono ?_
                    rintro e w3 ⟨rfl, hb⟩
                    have HBW1 : Hid (Below wG.heap.size wG w3) := HBW.out.trans (hb.mono HBW.out.size)
                    clear HBW HQ HN3 hb a0 a1 a2 a3 a4
                    cases t2 with
                    | true =>
                      obtain ⟨rfl, rfl⟩ := HNM.out.1 rfl
                      clear HNM
                      go_wp2
                      exact ⟨⟨i + 1, by omega, by omega, by go_num, HBW1⟩, by simp [intOf]; omega⟩
                    | false =>
                      obtain ⟨rfl, rfl⟩ := HNM.out.2 rfl
                      clear HNM
                      cases t1 with
                      | true =>
                        go_wp2
                        exact ⟨⟨i + 1, by omega, by omega, by go_num, HBW1⟩, by simp [intOf]; omega⟩
                      | false =>
                        go_wp2
                        exact ⟨⟨i + 1, by omega, by omega, by go_num, HBW1⟩, by simp [intOf]; omega⟩
                · have hq : (bq == laI xq yq) = true := by rw [HEB.out.2, HEx.out.2.2, HEy.out.2.2]; simp [mgD, laI, orI]
                  have hs : (bs == laI xs ys) = true := by rw [HEB.out.1, HEx.out.2.1, HEy.out.2.1]; simp [mgD, laI, orI]
                  have HFIN : Hid (Below w.heap.size w wr) := HQ.out.bel
                  clear HQ HBR HEB
                  go_upto_region 27 with fail
                  go_quiet (first | (go_at_call 23; refine Calls.quiet_of_same (last23 _ _ _)))
                  have HF2 : Hid (Below w.heap.size w (wr.drewN nq)) := HFIN.out.trans ((belowDN wr nq).mono HFIN.out.size)
                  go_wp2
                  go_ret
                  exact ⟨rfl, HF2.out⟩

end Go.Proofs.Ytldkecjfjcnkfaa
