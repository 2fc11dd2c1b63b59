import Derived.Test.YtnjdopdlafcbgaaHk
namespace Go.Proofs.Ytnjdopdlafcbgaa
open Go.RowKit Go.Deep
/-- the names' row, while the others are laid -/
def OTH (H B2 : Nat) (nlF : Value) (ns ns2 : List (ByteArray × Int)) (x : World) : Prop :=
  x.ownsRow (H + 4) 46 2 nlF (mgN ns ns2).length (nsC (mgN ns ns2)) ∧ (∀ g, nlF.ownBlock = some g → g < B2) ∧ B2 ≤ x.heap.size ∧ H + 4 ≤ B2
/-- two pieces of a row are the row of the whole -/
theorem own_castN {w : World} {B n c : Nat} {a : Option Addr} {acc r l : List (ByteArray × Int)} (h : w.ownsRow B 46 2 (.slice a n c) n (nsC acc ++ nsC r)) (e : acc ++ r = l) : n = l.length ∧ w.ownsRow B 46 2 (.slice a n c) n (nsC l) := by
  rw [← nsC_app, e] at h
  have h1 := h.1
  rw [nsC_len] at h1
  exact ⟨by omega, h⟩
theorem own_castP {w : World} {B n c : Nat} {a : Option Addr} {acc r l : List PE} (h : w.ownsRow B 59 6 (.slice a n c) n (gCs acc ++ gCs r)) (e : acc ++ r = l) : n = l.length ∧ w.ownsRow B 59 6 (.slice a n c) n (gCs l) := by
  rw [← gCs_app, e] at h
  have h1 := h.1
  rw [gCs_len] at h1
  exact ⟨by omega, h⟩
theorem besides_set {g j : Nat} {u : Value} {w x : World} (h : Besides g w x) : Besides g w (x.setCell ⟨g, j, none⟩ u) :=
  ⟨h.os, h.tape, h.output, by simpa [World.setCell] using h.size, fun q hq hn => (Below.heap_setCell _ _ _ _ hn).trans (h.block q hq hn)⟩
/-- behind the stores of the numbers and of the answer -/
theorem ref_end {H : Nat} {w x y wE : World} {na ma na2 ma2 : Option Addr} {nc mc nc2 mc2 n1 n2 m1 m2 : Nat} {sz qu sz2 qu2 : Int} {ag ag2 : ByteArray} {nl pl : Value} {a b : Int} {c : ByteArray} {N : List (ByteArray × Int)} {L : List PE} {n yc : Nat} {ya : Option Addr}
    (hm : MR H w y na ma na2 ma2 nc mc nc2 mc2 n1 n2 m1 m2 sz qu sz2 qu2 ag ag2 nl a b c pl) (hr : x.ownsRow (H + 4) 46 2 nl N.length (nsC N)) (hd : RD (fun b => H + 4 ≤ b) x n (kyG L) (dvG L) (.slice ya n yc)) (hB : Besides (H + 1 + 1 + 1) x y) (hE : Besides (H + 1 + 1) y wE) :
    Below H w wE ∧ RNs wE nl N ∧ RD (fun _ => True) wE n (kyG L) (dvG L) (.slice ya n yc) := by
  have hs := hm.2.2.2.2.1
  have hb := hm.2.2.2.2.2
  refine ⟨⟨hE.os.trans hb.os, hE.tape.trans hb.tape, hE.output.trans hb.output, Nat.le_trans hb.size hE.size, fun q hq => (hE.block q (by omega) (by omega)).trans (hb.block q hq)⟩, ?_, RD.keep (fun _ _ => trivial) (Nat.le_trans hB.size hE.size) (fun b h hl => (hE.block b (Nat.lt_of_lt_of_le hl hB.size) (by have h9 : H + 4 ≤ b := h; omega)).trans (hB.block b hl (by have h9 : H + 4 ≤ b := h; omega))) hd⟩
  refine names_of (B := H + 4) ⟨hr.1, ?_⟩
  rcases hr.2 with h2 | ⟨g, cap, cur, e1, e2, e3, e4⟩
  · exact .inl h2
  · have hl := (Array.getElem?_eq_some_iff.1 e3).1
    exact .inr ⟨g, cap, cur, e1, e2, ((hE.block g (Nat.lt_of_lt_of_le hl hB.size) (by omega)).trans (hB.block g hl (by omega))).trans e3, e4⟩
theorem OTH.keep {H B2 : Nat} {nlF : Value} {ns ns2 : List (ByteArray × Int)} {x y : World} (h : OTH H B2 nlF ns ns2 x) (hb : Below x.heap.size x y) : OTH H B2 nlF ns ns2 y := ⟨own_keep h.1 hb, h.2.1, Nat.le_trans h.2.2.1 hb.size, h.2.2.2⟩
theorem OTH.set {H B2 : Nat} {nlF : Value} {ns ns2 : List (ByteArray × Int)} {x : World} {j : Nat} {u : Value} (h : OTH H B2 nlF ns ns2 x) : OTH H B2 nlF ns ns2 (x.setCell ⟨H + 1 + 1 + 1, j, none⟩ u) :=
  ⟨h.1.kept (grown_setCell _ _ _) (owns_ne h.1 (by show H + 1 + 1 + 1 < H + 4; omega)), h.2.1, by simpa [World.setCell] using h.2.2.1, h.2.2.2⟩
theorem OTH.grown {H B2 : Nat} {nlF : Value} {ns ns2 : List (ByteArray × Int)} {x y : World} {pl : Value} {n : Nat} {L : List Value} (h : OTH H B2 nlF ns ns2 x) (hg : x.grownBy y pl.ownBlock) (ho : x.ownsRow B2 59 6 pl n L) : OTH H B2 nlF ns ns2 y := by
  refine ⟨h.1.kept hg ?_, h.2.1, Nat.le_trans h.2.2.1 hg.size, h.2.2.2⟩
  cases hp : nlF.ownBlock with
  | none => exact .inl rfl
  | some q =>
    refine .inr fun e => ?_
    have h1 := (World.ownsRow.lt ho q e.symm).1
    have h2 := h.2.1 q hp
    omega
def STN (H : Nat) (w x : World) (na ma na2 ma2 : Option Addr) (nc mc nc2 mc2 n1 n2 m1 m2 : Nat) (sz qu sz2 qu2 : Int) (ag ag2 : ByteArray) (ns ns2 : List (ByteArray × Int)) (i k : Nat) (nl : Value) : Prop :=
  MR H w x na ma na2 ma2 nc mc nc2 mc2 n1 n2 m1 m2 sz qu sz2 qu2 ag ag2 nl 0 0 ⟨#[]⟩ (.slice none 0 0) ∧ ∃ acc, x.ownsRow (H + 4) 46 2 nl acc.length (nsC acc) ∧ acc ++ mgN (ns.drop i) (ns2.drop k) = mgN ns ns2 ∧ acc.length + (n1 - i) + (n2 - k) ≤ n1 + n2
def STP (H : Nat) (w x : World) (na ma na2 ma2 : Option Addr) (nc mc nc2 mc2 n1 n2 m1 m2 : Nat) (sz qu sz2 qu2 : Int) (ag ag2 : ByteArray) (B2 : Nat) (nlF : Value) (ns ns2 : List (ByteArray × Int)) (es es2 : List PE) (i k : Nat) (pl : Value) : Prop :=
  MR H w x na ma na2 ma2 nc mc nc2 mc2 n1 n2 m1 m2 sz qu sz2 qu2 ag ag2 nlF 0 0 ⟨#[]⟩ pl ∧ OTH H B2 nlF ns ns2 x ∧ ∃ acc, x.ownsRow B2 59 6 pl acc.length (gCs acc) ∧ acc ++ mgP (es.drop i) (es2.drop k) = mgP es es2 ∧ acc.length + (m1 - i) + (m2 - k) ≤ m1 + m2
set_option maxHeartbeats 8000000 in
set_option maxRecDepth 100000 in
theorem Merge24 (na ma na2 ma2 : Option Addr) (nc mc nc2 mc2 : Nat) (ns ns2 : List (ByteArray × Int)) (sz qu sz2 qu2 : Int) (ag ag2 : ByteArray) (es es2 : List PE) (w : World) (h1 : RNs w (.slice na ns.length nc) ns) (h2 : RNs w (.slice na2 ns2.length nc2) ns2) (h3 : RG w.heap.size w (.slice ma es.length mc) es) (h4 : RG w.heap.size w (.slice ma2 es2.length mc2) es2)
 (c1 : capped (.slice na ns.length nc)) (c2 : capped (.slice na2 ns2.length nc2)) (c3 : capped (.slice ma es.length mc)) (c4 : capped (.slice ma2 es2.length mc2))
 (hl : ns.length + es.length ≤ 1073740000) (hl2 : ns2.length + es2.length ≤ 1073740000)
 (hk1 : (∀ x ∈ ns, x.1.size ≤ 140737488351232) ∧ ag.size ≤ 140737488351232 ∧ ∀ e ∈ es, e.key.size ≤ 140737488351232 ∧ e.t.ok) (hk2 : (∀ x ∈ ns2, x.1.size ≤ 140737488351232) ∧ ag2.size ≤ 140737488351232 ∧ ∀ e ∈ es2, e.key.size ≤ 140737488351232 ∧ e.t.ok)
 (hs1 : ∀ e ∈ es, e.t.small) (hs2 : ∀ e ∈ es2, e.t.small) :
 Calls Try.prog 24 #[.agg #[.slice na ns.length nc, .int .i64 sz, .int .i64 qu, .string ag, .slice ma es.length mc], .agg #[.slice na2 ns2.length nc2, .int .i64 sz2, .int .i64 qu2, .string ag2, .slice ma2 es2.length mc2]] w fun e w' => ∃ v, e = .returned v ∧ Below w.heap.size w w' ∧ ((¬ (GW ns sz qu es ∧ GW ns2 sz2 qu2 es2) ∧ v = .agg #[.slice none 0 0, .int .i64 0, .int .i64 0, .string ⟨#[]⟩, .slice none 0 0]) ∨ (GW ns sz qu es ∧ GW ns2 sz2 qu2 es2 ∧ ∃ nv s yv, v = .agg #[nv, .int .i64 (orI sz2 sz), .int .i64 (orI qu2 qu), .string s, yv] ∧ RNs w' nv (mgN ns ns2) ∧ s.toList = (orS ag2 ag).toList ∧ RD (fun _ => True) w' (mgP es es2).length (kyG (mgP es es2)) (dvG (mgP es es2)) yv)) := by
 have HM0 : Hid (MR w.heap.size w ((((w.alloc (.cells #[.slice na ns.length nc, .int .i64 sz, .int .i64 qu, .string ag, .slice ma es.length mc] 35)).alloc (.cells #[.slice na2 ns2.length nc2, .int .i64 sz2, .int .i64 qu2, .string ag2, .slice ma2 es2.length mc2] 35)).alloc (.cells #[.slice none 0 0, .int .i64 0, .int .i64 0, .string ⟨#[]⟩, .slice none 0 0] 35)).alloc (.cells #[.slice none 0 0, .int .i64 0, .int .i64 0, .string ⟨#[]⟩, .slice none 0 0] 35)) na ma na2 ma2 nc mc nc2 mc2 ns.length ns2.length es.length es2.length sz qu sz2 qu2 ag ag2 (.slice none 0 0) 0 0 ⟨#[]⟩ (.slice none 0 0)) := MR.start w
 have HN1 : Hid (RNs w (.slice na ns.length nc) ns ∧ RNs w (.slice na2 ns2.length nc2) ns2 ∧ RG w.heap.size w (.slice ma es.length mc) es ∧ RG w.heap.size w (.slice ma2 es2.length mc2) es2) := ⟨h1, h2, h3, h4⟩
 have HX1 : Hid (ns = [] ∨ ∃ g o, na = some ⟨g, o, none⟩ ∧ g < w.heap.size ∧ ∀ i x, ns[i]? = some x → w.cell? ⟨g, o + i * 2, none⟩ = some (.string x.1) ∧ w.cell? ⟨g, o + i * 2 + 1, none⟩ = some (.int .i64 x.2)) := by
  obtain ⟨a, c, e, hx⟩ := h1
  cases e
  exact hx
 have HX2 : Hid (ns2 = [] ∨ ∃ g o, na2 = some ⟨g, o, none⟩ ∧ g < w.heap.size ∧ ∀ i x, ns2[i]? = some x → w.cell? ⟨g, o + i * 2, none⟩ = some (.string x.1) ∧ w.cell? ⟨g, o + i * 2 + 1, none⟩ = some (.int .i64 x.2)) := by
  obtain ⟨a, c, e, hx⟩ := h2
  cases e
  exact hx
 have HY1 : Hid (es = [] ∨ ∃ g o, ma = some ⟨g, o, none⟩ ∧ g < w.heap.size ∧ ∀ i e, es[i]? = some e → RV (fun b => b < w.heap.size) w e.t e.x e.y ∧ ∀ r, r < 6 → w.cell? ⟨g, o + i * 6 + r, none⟩ = (gC e)[r]?) := by
  obtain ⟨a, c, e, _, hx⟩ := h3
  cases e
  exact hx
 have HY2 : Hid (es2 = [] ∨ ∃ g o, ma2 = some ⟨g, o, none⟩ ∧ g < w.heap.size ∧ ∀ i e, es2[i]? = some e → RV (fun b => b < w.heap.size) w e.t e.x e.y ∧ ∀ r, r < 6 → w.cell? ⟨g, o + i * 6 + r, none⟩ = (gC e)[r]?) := by
  obtain ⟨a, c, e, _, hx⟩ := h4
  cases e
  exact hx
 have HC : Hid (capped (.slice na ns.length nc) ∧ capped (.slice na2 ns2.length nc2) ∧ capped (.slice ma es.length mc) ∧ capped (.slice ma2 es2.length mc2)) := ⟨c1, c2, c3, c4⟩
 have HK : Hid ((∀ x ∈ ns, x.1.size ≤ 140737488351232) ∧ ag.size ≤ 140737488351232 ∧ ∀ e ∈ es, e.key.size ≤ 140737488351232 ∧ e.t.ok) := hk1
 have HK2 : Hid ((∀ x ∈ ns2, x.1.size ≤ 140737488351232) ∧ ag2.size ≤ 140737488351232 ∧ ∀ e ∈ es2, e.key.size ≤ 140737488351232 ∧ e.t.ok) := hk2
 have HSM : Hid ((∀ e ∈ es, e.t.small) ∧ (∀ e ∈ es2, e.t.small) ∧ ns.length + es.length ≤ 1073740000 ∧ ns2.length + es2.length ≤ 1073740000) := ⟨hs1, hs2, hl, hl2⟩
 have HG1 : Hid (∀ x, Below w.heap.size w x → Calls Try.prog 41 #[.agg #[.slice na ns.length nc, .int .i64 sz, .int .i64 qu, .string ag, .slice ma es.length mc]] x fun e w' => ∃ r : Bool, e = .returned (.bool r) ∧ (r = true ↔ GW ns sz qu es) ∧ Below x.heap.size x w') := fun x hb => Good41 na ma nc mc ns sz qu ag es x (h1.keep hb) ((h3.keep hb).mono hb.size) (by omega) hk1.1 hk1.2.1 hk1.2.2
 have HG2 : Hid (∀ x, Below w.heap.size w x → Calls Try.prog 41 #[.agg #[.slice na2 ns2.length nc2, .int .i64 sz2, .int .i64 qu2, .string ag2, .slice ma2 es2.length mc2]] x fun e w' => ∃ r : Bool, e = .returned (.bool r) ∧ (r = true ↔ GW ns2 sz2 qu2 es2) ∧ Below x.heap.size x w') := fun x hb => Good41 na2 ma2 nc2 mc2 ns2 sz2 qu2 ag2 es2 x (h2.keep hb) ((h4.keep hb).mono hb.size) (by omega) hk2.1 hk2.2.1 hk2.2.2
 clear h1 h2 h3 h4 c1 c2 c3 c4 hk1 hk2 hs1 hs2
 generalize hn1 : ns.length = n1 at *
 generalize hn2 : ns2.length = n2 at *
 generalize hm1 : es.length = m1 at *
 generalize hm2 : es2.length = m2 at *
 have HL : Hid (ns.length = n1 ∧ ns2.length = n2 ∧ es.length = m1 ∧ es2.length = m2) := ⟨hn1, hn2, hm1, hm2⟩
 clear hn1 hn2 hm1 hm2
 go_enter Try.func24, Try.ntmps24
 go_upto_region 2 with fail
 generalize ((((w.alloc (.cells #[.slice na n1 nc, .int .i64 sz, .int .i64 qu, .string ag, .slice ma m1 mc] 35)).alloc (.cells #[.slice na2 n2 nc2, .int .i64 sz2, .int .i64 qu2, .string ag2, .slice ma2 m2 mc2] 35)).alloc (.cells #[.slice none 0 0, .int .i64 0, .int .i64 0, .string ⟨#[]⟩, .slice none 0 0] 35)).alloc (.cells #[.slice none 0 0, .int .i64 0, .int .i64 0, .string ⟨#[]⟩, .slice none 0 0] 35)) = w0 at *
 generalize hvb : w.heap.size = H at *
 have HS := Lib.hid hvb
 clear hvb
 have HM := HM0
 clear HM0
 have hcs := HM.out.cells
 obtain ⟨⟨x0, x1, x2, x3, x4⟩, y0, y1, y2, y3, y4⟩ := hcs
 go_wp2_with fail
 refine (HG1.out w0 HM.out.2.2.2.2.2).mono ?_
 rintro e w1 ⟨r, rfl, hg, hb⟩
 have HM1 := Lib.hid (HM.out.keep (hb.mono HM.out.2.2.2.2.1))
 have HR1 : Hid (r = true ↔ GW ns sz qu es) := hg
 clear HG1 HM hg hb x0 x1 x2 x3 x4 y0 y1 y2 y3 y4
 cases r with
 | false =>
  have hz := HM1.out.2.2.1
  have HZ := Lib.hid hz
  have z0 : w1.cell? ⟨H + 1 + 1, 0, none⟩ = some (.slice none 0 0) := by simp [World.cell?, hz]
  have z1 : w1.cell? ⟨H + 1 + 1, 1, none⟩ = some (.int .i64 0) := by simp [World.cell?, hz]
  have z2 : w1.cell? ⟨H + 1 + 1, 2, none⟩ = some (.int .i64 0) := by simp [World.cell?, hz]
  have z3 : w1.cell? ⟨H + 1 + 1, 3, none⟩ = some (.string ⟨#[]⟩) := by simp [World.cell?, hz]
  have z4 : w1.cell? ⟨H + 1 + 1, 4, none⟩ = some (.slice none 0 0) := by simp [World.cell?, hz]
  have f0 : ∀ j, w1.frozen? ⟨H + 1 + 1, j, none⟩ = false := fun j => by simp [World.frozen?, hz]
  have q0 := f0 0
  have q1 := f0 1
  have q2 := f0 2
  have q3 := f0 3
  have q4 := f0 4
  obtain ⟨m0, m1', m2', m3, m4, mf⟩ := HM1.out.wish
  have HNG : Hid (¬ (GW ns sz qu es ∧ GW ns2 sz2 qu2 es2)) := fun h => by have := HR1.out.2 h.1; cases this
  clear hz f0 mf
  go_wp2
  exact bodyPost_ret (v := .agg #[.slice none 0 0, .int .i64 0, .int .i64 0, .string ⟨#[]⟩, .slice none 0 0]) (results_cell_row Try.results24 _ _ (H + 1 + 1) 35 _ (0, 0) _ rfl (ow.set (ow.set (ow.set (ow.set (ow.set HZ.out 0 _) 1 _) 2 _) 3 _) 4 _) Try.underlying35 rfl info35s) rfl ⟨_, rfl, (by rw [HS.out]; exact below5 HM1.out.2.2.2.2.2 (by omega) _ _ _ _ _), .inl ⟨HNG.out, rfl⟩⟩
 | true =>
  obtain ⟨⟨x0, x1, x2, x3, x4⟩, y0, y1, y2, y3, y4⟩ := HM1.out.cells
  go_wp2_with fail
  refine (HG2.out w1 HM1.out.2.2.2.2.2).mono ?_
  rintro e w2 ⟨r, rfl, hg, hb⟩
  have HM2 := Lib.hid (HM1.out.keep (hb.mono HM1.out.2.2.2.2.1))
  have HR2 : Hid (r = true ↔ GW ns2 sz2 qu2 es2) := hg
  clear HG2 HM1 hg hb x0 x1 x2 x3 x4 y0 y1 y2 y3 y4
  cases r with
  | false =>
   have hz := HM2.out.2.2.1
   have HZ := Lib.hid hz
   have z0 : w2.cell? ⟨H + 1 + 1, 0, none⟩ = some (.slice none 0 0) := by simp [World.cell?, hz]
   have z1 : w2.cell? ⟨H + 1 + 1, 1, none⟩ = some (.int .i64 0) := by simp [World.cell?, hz]
   have z2 : w2.cell? ⟨H + 1 + 1, 2, none⟩ = some (.int .i64 0) := by simp [World.cell?, hz]
   have z3 : w2.cell? ⟨H + 1 + 1, 3, none⟩ = some (.string ⟨#[]⟩) := by simp [World.cell?, hz]
   have z4 : w2.cell? ⟨H + 1 + 1, 4, none⟩ = some (.slice none 0 0) := by simp [World.cell?, hz]
   have f0 : ∀ j, w2.frozen? ⟨H + 1 + 1, j, none⟩ = false := fun j => by simp [World.frozen?, hz]
   have q0 := f0 0
   have q1 := f0 1
   have q2 := f0 2
   have q3 := f0 3
   have q4 := f0 4
   obtain ⟨m0, m1', m2', m3, m4, mf⟩ := HM2.out.wish
   have HNG : Hid (¬ (GW ns sz qu es ∧ GW ns2 sz2 qu2 es2)) := fun h => by have := HR2.out.2 h.2; cases this
   clear hz f0 mf
   go_wp2
   exact bodyPost_ret (v := .agg #[.slice none 0 0, .int .i64 0, .int .i64 0, .string ⟨#[]⟩, .slice none 0 0]) (results_cell_row Try.results24 _ _ (H + 1 + 1) 35 _ (0, 0) _ rfl (ow.set (ow.set (ow.set (ow.set (ow.set HZ.out 0 _) 1 _) 2 _) 3 _) 4 _) Try.underlying35 rfl info35s) rfl ⟨_, rfl, (by rw [HS.out]; exact below5 HM2.out.2.2.2.2.2 (by omega) _ _ _ _ _), .inl ⟨HNG.out, rfl⟩⟩
  | true =>
   have HGG : Hid (GW ns sz qu es ∧ GW ns2 sz2 qu2 es2) := ⟨HR1.out.1 (by simp), HR2.out.1 (by simp)⟩
   clear HR1 HR2
   obtain ⟨i0, hi0, hz0, hz1, hz2⟩ := info_parts info46
   have HSN : Hid (STN H w w2 na ma na2 ma2 nc mc nc2 mc2 n1 n2 m1 m2 sz qu sz2 qu2 ag ag2  ns ns2  0 0 (.slice none 0 0)) := ⟨HM2.out, [], World.ownsRow_nil _ _ _ _, rfl, by simp⟩
   clear HM2
   go_wp2_with fail
   go_loopw [6, 7] (fun ti tk wr => ∃ (i k : Nat) (l : Value), i ≤ n1 ∧ k ≤ n2 ∧ ti = .int .i64 i ∧ tk = .int .i64 k ∧ Hid (STN H w wr na ma na2 ma2 nc mc nc2 mc2 n1 n2 m1 m2 sz qu sz2 qu2 ag ag2  ns ns2  i k l)) (fun _ tk _ => n2 - (intOf tk).toNat)
   case atStart => exact ⟨0, 0, _, Nat.zero_le _, Nat.zero_le _, rfl, rfl, HSN.out⟩
   case round =>
    obtain ⟨i, k, l, hi, hk, rfl, rfl, HI⟩ := hrel
    obtain ⟨⟨x0, x1, x2, x3, x4⟩, y0, y1, y2, y3, y4⟩ := HI.out.1.cells
    by_cases hlt : k < n2
    · obtain ⟨x, hx⟩ : ∃ x, ns2[k]? = some x := ⟨_, List.getElem?_eq_getElem (by have := HL.out; omega)⟩
      obtain ⟨g2, o2, had2, hg2, hcc⟩ := HX2.out.resolve_left (fun e => by rw [e] at hx; simp at hx)
      obtain ⟨xs, xi⟩ := x
      have HEL : Hid (∀ x' nl a b c pl, MR H w x' na ma na2 ma2 nc mc nc2 mc2 n1 n2 m1 m2 sz qu sz2 qu2 ag ag2 nl a b c pl → x'.cell? ⟨g2, o2 + k * 2, none⟩ = some (.string xs) ∧ x'.cell? ⟨g2, o2 + k * 2 + 1, none⟩ = some (.int .i64 xi)) := fun x' nl a b c pl hm => ⟨Below.cellS hm.2.2.2.2.2 (Nat.le_of_eq HS.out) (hcc k _ hx).1, Below.cellS hm.2.2.2.2.2 (Nat.le_of_eq HS.out) (hcc k _ hx).2⟩
      have HCL : Hid (∀ x', (∃ nl a b c pl, MR H w x' na ma na2 ma2 nc mc nc2 mc2 n1 n2 m1 m2 sz qu sz2 qu2 ag ag2 nl a b c pl) → x'.cell? ⟨g2, o2 + k * 2, none⟩ = some (.string xs)) := fun x' ⟨nl, a, b, c, pl, hm⟩ => (HEL.out x' nl a b c pl hm).1
      have HDL : Hid (ns2.drop k = (xs, xi) :: ns2.drop (k + 1)) := drop_at hx
      have HEL2 : Hid (∀ x', (∃ nl a b c pl, MR H w x' na ma na2 ma2 nc mc nc2 mc2 n1 n2 m1 m2 sz qu sz2 qu2 ag ag2 nl a b c pl) → x'.cell? ⟨g2, o2 + k * 2, none⟩ = some (.string xs) ∧ x'.cell? ⟨g2, o2 + k * 2 + 1, none⟩ = some (.int .i64 xi)) := fun x' ⟨nl, a, b, c, pl, hm⟩ => HEL.out x' nl a b c pl hm
      clear HEL
      have HEL := HEL2
      clear HEL2 hcc hx hg2
      subst had2
      go_wp2_with fail
      have HI0 := Lib.hid HI.out
      clear HI x0 x1 x2 x3 x4 y0 y1 y2 y3 y4
      go_loopw [6] (fun ti wq => ∃ (i : Nat) (l : Value), i ≤ n1 ∧ ti = .int .i64 i ∧ Hid (STN H w wq na ma (some ⟨g2, o2, none⟩) ma2 nc mc nc2 mc2 n1 n2 m1 m2 sz qu sz2 qu2 ag ag2  ns ns2  i k l)) (fun ti _ => n1 - (intOf ti).toNat)
      case atStart => exact ⟨i, l, hi, rfl, HI0.out⟩
      case round =>
       clear HI0
       obtain ⟨i, l, hi, rfl, HI⟩ := hrel
       obtain ⟨hmr, acc, hown, hmg, hlen⟩ := HI.out
       obtain ⟨la, lc, rfl⟩ := ownForm hown
       have HM := Lib.hid hmr
       have HO := Lib.hid hown
       have HMG := Lib.hid hmg
       have HLN := Lib.hid hlen
       clear HI hmr hown hmg hlen
       generalize hal : acc.length = al at *
       have HAL := Lib.hid hal
       clear hal
       have hln := HLN.out
       by_cases hlo : i < n1
       · obtain ⟨y, hy⟩ : ∃ y, ns[i]? = some y := ⟨_, List.getElem?_eq_getElem (by have := HL.out; omega)⟩
         obtain ⟨g, o, had, hg, hcc⟩ := HX1.out.resolve_left (fun e => by rw [e] at hy; simp at hy)
         obtain ⟨ys, yi⟩ := y
         have HEO : Hid (∀ x', (∃ nl a b c pl, MR H w x' na ma (some ⟨g2, o2, none⟩) ma2 nc mc nc2 mc2 n1 n2 m1 m2 sz qu sz2 qu2 ag ag2 nl a b c pl) → x'.cell? ⟨g, o + i * 2, none⟩ = some (.string ys) ∧ x'.cell? ⟨g, o + i * 2 + 1, none⟩ = some (.int .i64 yi)) := fun x' ⟨nl, a, b, c, pl, hm⟩ => ⟨Below.cellS hm.2.2.2.2.2 (Nat.le_of_eq HS.out) (hcc i _ hy).1, Below.cellS hm.2.2.2.2.2 (Nat.le_of_eq HS.out) (hcc i _ hy).2⟩
         have HCO : Hid (∀ x', (∃ nl a b c pl, MR H w x' na ma (some ⟨g2, o2, none⟩) ma2 nc mc nc2 mc2 n1 n2 m1 m2 sz qu sz2 qu2 ag ag2 nl a b c pl) → x'.cell? ⟨g, o + i * 2, none⟩ = some (.string ys)) := fun x' h => (HEO.out x' h).1
         have HDO : Hid (ns.drop i = (ys, yi) :: ns.drop (i + 1)) := drop_at hy
         clear hcc hy hg
         subst had
         cases hll : Op.bytesLess ys.toList xs.toList with
         | true =>
          have HLT : Hid (ltN (ys, yi) (xs, xi) = true) := hll
          go_upto_region 8 with fail
          refine wp_region_held_drew (S := fun x => MC H (some ⟨g, o, none⟩) ma (some ⟨g2, o2, none⟩) ma2 nc mc nc2 mc2 n1 n2 m1 m2 sz qu sz2 qu2 ag ag2 x ∧ x.cell? ⟨g, o + i * 2, none⟩ = some (.string ys) ∧ x.cell? ⟨g2, o2 + k * 2, none⟩ = some (.string xs)) (by kernel_rfl) (⟨(HM.out.keep (belowDrew1 wr |>.mono HM.out.2.2.2.2.1)).cells, HCO.out _ ⟨_, _, _, _, _, HM.out.keep (belowDrew1 wr |>.mono HM.out.2.2.2.2.1)⟩, HCL.out _ ⟨_, _, _, _, _, HM.out.keep (belowDrew1 wr |>.mono HM.out.2.2.2.2.1)⟩⟩) (fun hHeld => ?_)
          refine tkB (i := 0) (v := .int .i64 (i : Int)) rfl hHeld ?_
          simp only [zq]
          refine tkB (i := 1) (v := .pointer (some ⟨H, 0, none⟩)) rfl hHeld ?_
          simp only [zq]
          refine tkA (i := 2) (v := .slice (some ⟨g, o, none⟩) n1 nc) rfl (Or.inl ⟨by rfl, fun w hw => by obtain ⟨⟨⟨s0, s1, s2, s3, s4⟩, t0, t1, t2, t3, t4⟩, e0, e1⟩ := hw; go_simp⟩) hHeld ?_
          simp only [zq]
          refine tkB (i := 3) (v := .int .i64 (n1 : Int)) rfl hHeld ?_
          simp only [zq]
          refine tkB (i := 4) (v := .bool true) rfl hHeld ?_
          simp only [zq]
          refine tkB (i := 5) (v := .bool true) rfl hHeld ?_
          simp only [zq]
          refine tkB (i := 6) (v := .pointer (some ⟨H, 0, none⟩)) rfl hHeld ?_
          simp only [zq]
          refine tkA (i := 7) (v := .slice (some ⟨g, o, none⟩) n1 nc) rfl (Or.inl ⟨by rfl, fun w hw => by obtain ⟨⟨⟨s0, s1, s2, s3, s4⟩, t0, t1, t2, t3, t4⟩, e0, e1⟩ := hw; go_simp⟩) hHeld ?_
          simp only [zq]
          refine tkB (i := 8) (v := .int .i64 (i : Int)) rfl hHeld ?_
          simp only [zq]
          refine tkB (i := 9) (v := .pointer (some ⟨g, o + i * 2, none⟩)) rfl hHeld ?_
          simp only [zq]
          refine tkB (i := 10) (v := .pointer (some ⟨g, o + i * 2, none⟩)) rfl hHeld ?_
          simp only [zq]
          refine tkA (i := 11) (v := .string ys) rfl (Or.inl ⟨by rfl, fun w hw => by obtain ⟨⟨⟨s0, s1, s2, s3, s4⟩, t0, t1, t2, t3, t4⟩, e0, e1⟩ := hw; go_simp⟩) hHeld ?_
          simp only [zq]
          refine tkB (i := 12) (v := .pointer (some ⟨H + 1, 0, none⟩)) rfl hHeld ?_
          simp only [zq]
          refine tkA (i := 13) (v := .slice (some ⟨g2, o2, none⟩) n2 nc2) rfl (Or.inl ⟨by rfl, fun w hw => by obtain ⟨⟨⟨s0, s1, s2, s3, s4⟩, t0, t1, t2, t3, t4⟩, e0, e1⟩ := hw; go_simp⟩) hHeld ?_
          simp only [zq]
          refine tkB (i := 14) (v := .int .i64 (k : Int)) rfl hHeld ?_
          simp only [zq]
          refine tkB (i := 15) (v := .pointer (some ⟨g2, o2 + k * 2, none⟩)) rfl hHeld ?_
          simp only [zq]
          refine tkB (i := 16) (v := .pointer (some ⟨g2, o2 + k * 2, none⟩)) rfl hHeld ?_
          simp only [zq]
          refine tkA (i := 17) (v := .string xs) rfl (Or.inl ⟨by rfl, fun w hw => by obtain ⟨⟨⟨s0, s1, s2, s3, s4⟩, t0, t1, t2, t3, t4⟩, e0, e1⟩ := hw; go_simp⟩) hHeld ?_
          simp only [zq]
          refine tkB (i := 18) (v := .bool true) rfl hHeld ?_
          simp only [zq]
          refine tkB (i := 19) (v := .bool true) rfl hHeld ?_
          simp only [zq]
          refine wpAnyH_done (by kernel_rfl) ?_ _
          clear hHeld
          have HMc := Lib.hid (HM.out.keep (belowDrew1 wr |>.mono HM.out.2.2.2.2.1))
          have HOc := Lib.hid (own_keep HO.out (belowDrew1 wr))
          clear HM HO hll
          generalize wr.drew = c40 at *
          go_upto_region 9 with fail
          refine wp_region_held_drew (S := fun x => MC H (some ⟨g, o, none⟩) ma (some ⟨g2, o2, none⟩) ma2 nc mc nc2 mc2 n1 n2 m1 m2 sz qu sz2 qu2 ag ag2 x ∧ x.cell? ⟨g, o + i * 2, none⟩ = some (.string ys) ∧ x.cell? ⟨g, o + i * 2 + 1, none⟩ = some (.int .i64 yi)) (by kernel_rfl) (⟨(HMc.out.keep (belowDrew1 c40 |>.mono HMc.out.2.2.2.2.1)).cells, HEO.out _ ⟨_, _, _, _, _, HMc.out.keep (belowDrew1 c40 |>.mono HMc.out.2.2.2.2.1)⟩⟩) (fun hHeld => ?_)
          refine tkB (i := 0) (v := .pointer (some ⟨H + 1 + 1 + 1, 0, none⟩)) rfl hHeld ?_
          simp only [zq]
          refine tkB (i := 2) (v := .pointer (some ⟨H, 0, none⟩)) rfl hHeld ?_
          simp only [zq]
          refine tkA (i := 3) (v := .slice (some ⟨g, o, none⟩) n1 nc) rfl (Or.inl ⟨by rfl, fun w hw => by obtain ⟨⟨⟨s0, s1, s2, s3, s4⟩, t0, t1, t2, t3, t4⟩, e0, e1⟩ := hw; go_simp⟩) hHeld ?_
          simp only [zq]
          refine tkB (i := 4) (v := .int .i64 (i : Int)) rfl hHeld ?_
          simp only [zq]
          refine tkB (i := 5) (v := .pointer (some ⟨g, o + i * 2, none⟩)) rfl hHeld ?_
          simp only [zq]
          refine tkA (i := 6) (v := .agg #[.string ys, .int .i64 yi]) rfl (Or.inl ⟨by rfl, fun w hw => by obtain ⟨⟨⟨s0, s1, s2, s3, s4⟩, t0, t1, t2, t3, t4⟩, e0, e1⟩ := hw; go_simp⟩) hHeld ?_
          simp only [zq]
          have HMa := Lib.hid (HMc.out.keep (belowDrew1 c40 |>.mono HMc.out.2.2.2.2.1))
          have HOa := Lib.hid (own_keep HOc.out (belowDrew1 c40))
          generalize c40.drew = z43 at *
          refine wpAnyH_ready (rs := [1, 7]) (by kernel_rfl) (by simp) ?_
          refine AllReadyH.cons (o := _) rfl (fun K hK => ?_) (AllReadyH.cons (o := _) rfl (fun K hK => ?_) AllReadyH.nil)
          · obtain ⟨m0, m1', m2', m3, m4, mf⟩ := HMa.out.wish
            go_simp
            refine hK _ _ ⟨(HMa.out).cells, HEO.out _ ⟨_, _, _, _, _, HMa.out⟩⟩ (fun hHeld => ?_)
            clear hK K m0 m1' m2' m3 m4 mf
            refine wpAnyH_ready (rs := [7]) (by kernel_rfl) (by simp) ?_
            refine AllReadyH.cons (o := _) rfl (fun K hK => ?_) AllReadyH.nil
            go_simp
            have b : Below z43.heap.size z43 (z43.alloc (.cells #[.string ys, .int .i64 yi] 46)) := (Below.refl _ _).alloc (Nat.le_refl _) _
            have HMb := Lib.hid (HMa.out.keep (b.mono HMa.out.2.2.2.2.1))
            have HOb := Lib.hid (own_keep HOa.out b)
            have HV : Hid ((z43.alloc (.cells #[.string ys, .int .i64 yi] 46)).heap[z43.heap.size]? = some (.cells (nsC [(ys, yi)]).toArray 46 (0, 0))) := heap_new _ _
            clear b
            refine hK _ _ ⟨(HMb.out).cells, HEO.out _ ⟨_, _, _, _, _, HMb.out⟩⟩ (fun hHeld => ?_)
            clear hK K
            generalize z43.alloc (.cells #[.string ys, .int .i64 yi] 46) = v41 at *
            generalize z43.heap.size = vb at *
            refine wpAnyH_ready (rs := [8]) (by kernel_rfl) (by simp) ?_
            refine AllReadyH.cons (o := _) rfl (fun K hK => ?_) AllReadyH.nil
            rw [if_pos (show Region.wanted _ _ = true by kernel_rfl)]
            refine wp_append_gen _ _ 32 rfl (H + 4) 46 i0 _ 2 24 Try.underlying32 hi0 hz0 hz1 hz2 rfl (by omega) (.slice la al lc) al (nsC acc) rfl (by exact HOb.out) (some ⟨vb, 0, none⟩) 1 1 (nsC [(ys, yi)]) rfl rfl (fun h => by cases h) (fun ad had => by cases had; exact World.news_of_block HV.out) (nsC_one _) (by unfold maxLen; omega) (by omega) (by have := HMb.out.2.2.2.2.1; exact this) ?_
            intro a9 c9 w4 hown4 hgrow
            have HB4 : Hid (Below (H + 4) v41 w4) := (Below.refl _ _).grown hgrow HMb.out.2.2.2.2.1 (fun k hk => (World.ownsRow.lt HOb.out k hk).1)
            have HM4 := Lib.hid (HMb.out.keep HB4.out)
            have HM5 : Hid (MR H w (w4.setCell ⟨H + 1 + 1 + 1, 0, none⟩ (.slice a9 (al + 1) c9)) (some ⟨g, o, none⟩) ma (some ⟨g2, o2, none⟩) ma2 nc mc nc2 mc2 n1 n2 m1 m2 sz qu sz2 qu2 ag ag2 (.slice a9 (al + 1) c9) 0 0 ⟨#[]⟩ (.slice none 0 0)) := HM4.out.set 0 _ rfl
            have HO5 : Hid ((w4.setCell ⟨H + 1 + 1 + 1, 0, none⟩ (.slice a9 (al + 1) c9)).ownsRow (H + 4) 46 2 (.slice a9 (al + 1) c9) (al + 1) (nsC acc ++ nsC [(ys, yi)])) := hown4.kept (grown_setCell _ _ _) (owns_ne hown4 (by show H + 1 + 1 + 1 < _; omega))
            clear HMa HOa HMb HOb hown4 hgrow HB4
            simp only [zq]
            refine hK _ _ ⟨(HM4.out).cells, HEO.out _ ⟨_, _, _, _, _, HM4.out⟩⟩ (fun hHeld => ?_)
            clear hK K
            refine tkB (i := 9) (v := .pointer (some ⟨H + 1 + 1 + 1, 0, none⟩)) rfl hHeld ?_
            simp only [zq]
            refine wpAnyH_ready (rs := [10]) (by kernel_rfl) (by simp) ?_
            refine AllReadyH.cons (o := _) rfl (fun K hK => ?_) AllReadyH.nil
            obtain ⟨m0, m1', m2', m3, m4, mf⟩ := HM4.out.wish
            have mf0 := mf 0
            clear mf
            go_simp
            refine hK _ _ ⟨(HM5.out).cells, HEO.out _ ⟨_, _, _, _, _, HM5.out⟩⟩ (fun hHeld => ?_)
            clear hK K m0 m1' m2' m3 m4 mf0 HM4
            refine wpAnyH_done (by kernel_rfl) ?_ _
            clear hHeld
            generalize w4.setCell ⟨H + 1 + 1 + 1, 0, none⟩ (.slice a9 (al + 1) c9) = w5 at *
            have HNX : Hid (STN H w w5 (some ⟨g, o, none⟩) ma (some ⟨g2, o2, none⟩) ma2 nc mc nc2 mc2 n1 n2 m1 m2 sz qu sz2 qu2 ag ag2  ns ns2  (i + 1) k (.slice a9 (al + 1) c9)) := by
             refine ⟨HM5.out, acc ++ [(ys, yi)], by rw [List.length_append, HAL.out, nsC_app]; exact HO5.out, ?_, ?_⟩
             · have h9 := HMG.out
               rw [HDL.out, HDO.out] at h9
               rw [← h9, List.append_assoc, HDL.out]
               exact congrArg (acc ++ ·) (show _ = _ from (show mgN ((ys, yi) :: ns.drop (i + 1)) ((xs, xi) :: ns2.drop (k + 1)) = (ys, yi) :: mgN (ns.drop (i + 1)) ((xs, xi) :: ns2.drop (k + 1)) from mg_lt _ _ HLT.out).symm)
             · rw [List.length_append, HAL.out]; have h8 := HLN.out; simp; omega
            clear HM5 HO5
            go_wp2
            exact ⟨⟨i + 1, _, by omega, by go_num, HNX.out⟩, by simp [intOf]; omega⟩
          · go_simp
            have b : Below z43.heap.size z43 (z43.alloc (.cells #[.string ys, .int .i64 yi] 46)) := (Below.refl _ _).alloc (Nat.le_refl _) _
            have HMb := Lib.hid (HMa.out.keep (b.mono HMa.out.2.2.2.2.1))
            have HOb := Lib.hid (own_keep HOa.out b)
            have HV : Hid ((z43.alloc (.cells #[.string ys, .int .i64 yi] 46)).heap[z43.heap.size]? = some (.cells (nsC [(ys, yi)]).toArray 46 (0, 0))) := heap_new _ _
            clear b
            refine hK _ _ ⟨(HMb.out).cells, HEO.out _ ⟨_, _, _, _, _, HMb.out⟩⟩ (fun hHeld => ?_)
            clear hK K
            generalize z43.alloc (.cells #[.string ys, .int .i64 yi] 46) = v42 at *
            generalize z43.heap.size = vb at *
            refine wpAnyH_ready (rs := [1]) (by kernel_rfl) (by simp) ?_
            refine AllReadyH.cons (o := _) rfl (fun K hK => ?_) AllReadyH.nil
            obtain ⟨m0, m1', m2', m3, m4, mf⟩ := HMb.out.wish
            go_simp
            refine hK _ _ ⟨(HMb.out).cells, HEO.out _ ⟨_, _, _, _, _, HMb.out⟩⟩ (fun hHeld => ?_)
            clear hK K m0 m1' m2' m3 m4 mf
            refine wpAnyH_ready (rs := [8]) (by kernel_rfl) (by simp) ?_
            refine AllReadyH.cons (o := _) rfl (fun K hK => ?_) AllReadyH.nil
            rw [if_pos (show Region.wanted _ _ = true by kernel_rfl)]
            refine wp_append_gen _ _ 32 rfl (H + 4) 46 i0 _ 2 24 Try.underlying32 hi0 hz0 hz1 hz2 rfl (by omega) (.slice la al lc) al (nsC acc) rfl (by exact HOb.out) (some ⟨vb, 0, none⟩) 1 1 (nsC [(ys, yi)]) rfl rfl (fun h => by cases h) (fun ad had => by cases had; exact World.news_of_block HV.out) (nsC_one _) (by unfold maxLen; omega) (by omega) (by have := HMb.out.2.2.2.2.1; exact this) ?_
            intro a9 c9 w4 hown4 hgrow
            have HB4 : Hid (Below (H + 4) v42 w4) := (Below.refl _ _).grown hgrow HMb.out.2.2.2.2.1 (fun k hk => (World.ownsRow.lt HOb.out k hk).1)
            have HM4 := Lib.hid (HMb.out.keep HB4.out)
            have HM5 : Hid (MR H w (w4.setCell ⟨H + 1 + 1 + 1, 0, none⟩ (.slice a9 (al + 1) c9)) (some ⟨g, o, none⟩) ma (some ⟨g2, o2, none⟩) ma2 nc mc nc2 mc2 n1 n2 m1 m2 sz qu sz2 qu2 ag ag2 (.slice a9 (al + 1) c9) 0 0 ⟨#[]⟩ (.slice none 0 0)) := HM4.out.set 0 _ rfl
            have HO5 : Hid ((w4.setCell ⟨H + 1 + 1 + 1, 0, none⟩ (.slice a9 (al + 1) c9)).ownsRow (H + 4) 46 2 (.slice a9 (al + 1) c9) (al + 1) (nsC acc ++ nsC [(ys, yi)])) := hown4.kept (grown_setCell _ _ _) (owns_ne hown4 (by show H + 1 + 1 + 1 < _; omega))
            clear HMa HOa HMb HOb hown4 hgrow HB4
            simp only [zq]
            refine hK _ _ ⟨(HM4.out).cells, HEO.out _ ⟨_, _, _, _, _, HM4.out⟩⟩ (fun hHeld => ?_)
            clear hK K
            refine tkB (i := 9) (v := .pointer (some ⟨H + 1 + 1 + 1, 0, none⟩)) rfl hHeld ?_
            simp only [zq]
            refine wpAnyH_ready (rs := [10]) (by kernel_rfl) (by simp) ?_
            refine AllReadyH.cons (o := _) rfl (fun K hK => ?_) AllReadyH.nil
            obtain ⟨m0, m1', m2', m3, m4, mf⟩ := HM4.out.wish
            have mf0 := mf 0
            clear mf
            go_simp
            refine hK _ _ ⟨(HM5.out).cells, HEO.out _ ⟨_, _, _, _, _, HM5.out⟩⟩ (fun hHeld => ?_)
            clear hK K m0 m1' m2' m3 m4 mf0 HM4
            refine wpAnyH_done (by kernel_rfl) ?_ _
            clear hHeld
            generalize w4.setCell ⟨H + 1 + 1 + 1, 0, none⟩ (.slice a9 (al + 1) c9) = w5 at *
            have HNX : Hid (STN H w w5 (some ⟨g, o, none⟩) ma (some ⟨g2, o2, none⟩) ma2 nc mc nc2 mc2 n1 n2 m1 m2 sz qu sz2 qu2 ag ag2  ns ns2  (i + 1) k (.slice a9 (al + 1) c9)) := by
             refine ⟨HM5.out, acc ++ [(ys, yi)], by rw [List.length_append, HAL.out, nsC_app]; exact HO5.out, ?_, ?_⟩
             · have h9 := HMG.out
               rw [HDL.out, HDO.out] at h9
               rw [← h9, List.append_assoc, HDL.out]
               exact congrArg (acc ++ ·) (show _ = _ from (show mgN ((ys, yi) :: ns.drop (i + 1)) ((xs, xi) :: ns2.drop (k + 1)) = (ys, yi) :: mgN (ns.drop (i + 1)) ((xs, xi) :: ns2.drop (k + 1)) from mg_lt _ _ HLT.out).symm)
             · rw [List.length_append, HAL.out]; have h8 := HLN.out; simp; omega
            clear HM5 HO5
            go_wp2
            exact ⟨⟨i + 1, _, by omega, by go_num, HNX.out⟩, by simp [intOf]; omega⟩
         | false =>
          have HLT : Hid (ltN (ys, yi) (xs, xi) = false) := hll
          go_upto_region 8 with fail
          refine wp_region_held_drew (S := fun x => MC H (some ⟨g, o, none⟩) ma (some ⟨g2, o2, none⟩) ma2 nc mc nc2 mc2 n1 n2 m1 m2 sz qu sz2 qu2 ag ag2 x ∧ x.cell? ⟨g, o + i * 2, none⟩ = some (.string ys) ∧ x.cell? ⟨g2, o2 + k * 2, none⟩ = some (.string xs)) (by kernel_rfl) (⟨(HM.out.keep (belowDrew1 wr |>.mono HM.out.2.2.2.2.1)).cells, HCO.out _ ⟨_, _, _, _, _, HM.out.keep (belowDrew1 wr |>.mono HM.out.2.2.2.2.1)⟩, HCL.out _ ⟨_, _, _, _, _, HM.out.keep (belowDrew1 wr |>.mono HM.out.2.2.2.2.1)⟩⟩) (fun hHeld => ?_)
          refine tkB (i := 0) (v := .int .i64 (i : Int)) rfl hHeld ?_
          simp only [zq]
          refine tkB (i := 1) (v := .pointer (some ⟨H, 0, none⟩)) rfl hHeld ?_
          simp only [zq]
          refine tkA (i := 2) (v := .slice (some ⟨g, o, none⟩) n1 nc) rfl (Or.inl ⟨by rfl, fun w hw => by obtain ⟨⟨⟨s0, s1, s2, s3, s4⟩, t0, t1, t2, t3, t4⟩, e0, e1⟩ := hw; go_simp⟩) hHeld ?_
          simp only [zq]
          refine tkB (i := 3) (v := .int .i64 (n1 : Int)) rfl hHeld ?_
          simp only [zq]
          refine tkB (i := 4) (v := .bool true) rfl hHeld ?_
          simp only [zq]
          refine tkB (i := 5) (v := .bool true) rfl hHeld ?_
          simp only [zq]
          refine tkB (i := 6) (v := .pointer (some ⟨H, 0, none⟩)) rfl hHeld ?_
          simp only [zq]
          refine tkA (i := 7) (v := .slice (some ⟨g, o, none⟩) n1 nc) rfl (Or.inl ⟨by rfl, fun w hw => by obtain ⟨⟨⟨s0, s1, s2, s3, s4⟩, t0, t1, t2, t3, t4⟩, e0, e1⟩ := hw; go_simp⟩) hHeld ?_
          simp only [zq]
          refine tkB (i := 8) (v := .int .i64 (i : Int)) rfl hHeld ?_
          simp only [zq]
          refine tkB (i := 9) (v := .pointer (some ⟨g, o + i * 2, none⟩)) rfl hHeld ?_
          simp only [zq]
          refine tkB (i := 10) (v := .pointer (some ⟨g, o + i * 2, none⟩)) rfl hHeld ?_
          simp only [zq]
          refine tkA (i := 11) (v := .string ys) rfl (Or.inl ⟨by rfl, fun w hw => by obtain ⟨⟨⟨s0, s1, s2, s3, s4⟩, t0, t1, t2, t3, t4⟩, e0, e1⟩ := hw; go_simp⟩) hHeld ?_
          simp only [zq]
          refine tkB (i := 12) (v := .pointer (some ⟨H + 1, 0, none⟩)) rfl hHeld ?_
          simp only [zq]
          refine tkA (i := 13) (v := .slice (some ⟨g2, o2, none⟩) n2 nc2) rfl (Or.inl ⟨by rfl, fun w hw => by obtain ⟨⟨⟨s0, s1, s2, s3, s4⟩, t0, t1, t2, t3, t4⟩, e0, e1⟩ := hw; go_simp⟩) hHeld ?_
          simp only [zq]
          refine tkB (i := 14) (v := .int .i64 (k : Int)) rfl hHeld ?_
          simp only [zq]
          refine tkB (i := 15) (v := .pointer (some ⟨g2, o2 + k * 2, none⟩)) rfl hHeld ?_
          simp only [zq]
          refine tkB (i := 16) (v := .pointer (some ⟨g2, o2 + k * 2, none⟩)) rfl hHeld ?_
          simp only [zq]
          refine tkA (i := 17) (v := .string xs) rfl (Or.inl ⟨by rfl, fun w hw => by obtain ⟨⟨⟨s0, s1, s2, s3, s4⟩, t0, t1, t2, t3, t4⟩, e0, e1⟩ := hw; go_simp⟩) hHeld ?_
          simp only [zq]
          refine tkB (i := 18) (v := .bool false) rfl hHeld ?_
          simp only [zq]
          refine tkB (i := 19) (v := .bool false) rfl hHeld ?_
          simp only [zq]
          refine wpAnyH_done (by kernel_rfl) ?_ _
          clear hHeld
          have HMd := Lib.hid (HM.out.keep (belowDrew1 wr |>.mono HM.out.2.2.2.2.1))
          have HO2 := Lib.hid (own_keep HO.out (belowDrew1 wr))
          clear HM HO
          have HO := HO2
          clear HO2
          generalize wr.drew = c45 at *
          clear hll
          cases hee : (ys.toList == xs.toList) with
          | true =>
           have HEQ : Hid (eqN (ys, yi) (xs, xi) = true) := hee
           go_upto_region 11 with fail
           refine wp_region_held_drew (S := fun x => MC H (some ⟨g, o, none⟩) ma (some ⟨g2, o2, none⟩) ma2 nc mc nc2 mc2 n1 n2 m1 m2 sz qu sz2 qu2 ag ag2 x ∧ x.cell? ⟨g, o + i * 2, none⟩ = some (.string ys) ∧ x.cell? ⟨g2, o2 + k * 2, none⟩ = some (.string xs)) (by kernel_rfl) (⟨(HMd.out.keep (belowDrew1 c45 |>.mono HMd.out.2.2.2.2.1)).cells, HCO.out _ ⟨_, _, _, _, _, HMd.out.keep (belowDrew1 c45 |>.mono HMd.out.2.2.2.2.1)⟩, HCL.out _ ⟨_, _, _, _, _, HMd.out.keep (belowDrew1 c45 |>.mono HMd.out.2.2.2.2.1)⟩⟩) (fun hHeld => ?_)
           refine tkB (i := 0) (v := .int .i64 (i : Int)) rfl hHeld ?_
           simp only [zq]
           refine tkB (i := 1) (v := .pointer (some ⟨H, 0, none⟩)) rfl hHeld ?_
           simp only [zq]
           refine tkA (i := 2) (v := .slice (some ⟨g, o, none⟩) n1 nc) rfl (Or.inl ⟨by rfl, fun w hw => by obtain ⟨⟨⟨s0, s1, s2, s3, s4⟩, t0, t1, t2, t3, t4⟩, e0, e1⟩ := hw; go_simp⟩) hHeld ?_
           simp only [zq]
           refine tkB (i := 3) (v := .int .i64 (n1 : Int)) rfl hHeld ?_
           simp only [zq]
           refine tkB (i := 4) (v := .bool true) rfl hHeld ?_
           simp only [zq]
           refine tkB (i := 5) (v := .bool true) rfl hHeld ?_
           simp only [zq]
           refine tkB (i := 6) (v := .pointer (some ⟨H, 0, none⟩)) rfl hHeld ?_
           simp only [zq]
           refine tkA (i := 7) (v := .slice (some ⟨g, o, none⟩) n1 nc) rfl (Or.inl ⟨by rfl, fun w hw => by obtain ⟨⟨⟨s0, s1, s2, s3, s4⟩, t0, t1, t2, t3, t4⟩, e0, e1⟩ := hw; go_simp⟩) hHeld ?_
           simp only [zq]
           refine tkB (i := 8) (v := .int .i64 (i : Int)) rfl hHeld ?_
           simp only [zq]
           refine tkB (i := 9) (v := .pointer (some ⟨g, o + i * 2, none⟩)) rfl hHeld ?_
           simp only [zq]
           refine tkB (i := 10) (v := .pointer (some ⟨g, o + i * 2, none⟩)) rfl hHeld ?_
           simp only [zq]
           refine tkA (i := 11) (v := .string ys) rfl (Or.inl ⟨by rfl, fun w hw => by obtain ⟨⟨⟨s0, s1, s2, s3, s4⟩, t0, t1, t2, t3, t4⟩, e0, e1⟩ := hw; go_simp⟩) hHeld ?_
           simp only [zq]
           refine tkB (i := 12) (v := .pointer (some ⟨H + 1, 0, none⟩)) rfl hHeld ?_
           simp only [zq]
           refine tkA (i := 13) (v := .slice (some ⟨g2, o2, none⟩) n2 nc2) rfl (Or.inl ⟨by rfl, fun w hw => by obtain ⟨⟨⟨s0, s1, s2, s3, s4⟩, t0, t1, t2, t3, t4⟩, e0, e1⟩ := hw; go_simp⟩) hHeld ?_
           simp only [zq]
           refine tkB (i := 14) (v := .int .i64 (k : Int)) rfl hHeld ?_
           simp only [zq]
           refine tkB (i := 15) (v := .pointer (some ⟨g2, o2 + k * 2, none⟩)) rfl hHeld ?_
           simp only [zq]
           refine tkB (i := 16) (v := .pointer (some ⟨g2, o2 + k * 2, none⟩)) rfl hHeld ?_
           simp only [zq]
           refine tkA (i := 17) (v := .string xs) rfl (Or.inl ⟨by rfl, fun w hw => by obtain ⟨⟨⟨s0, s1, s2, s3, s4⟩, t0, t1, t2, t3, t4⟩, e0, e1⟩ := hw; go_simp⟩) hHeld ?_
           simp only [zq]
           refine tkB (i := 18) (v := .bool true) rfl hHeld ?_
           simp only [zq]
           refine tkB (i := 19) (v := .bool true) rfl hHeld ?_
           simp only [zq]
           refine wpAnyH_done (by kernel_rfl) ?_ _
           clear hHeld
           have HMc := Lib.hid (HMd.out.keep (belowDrew1 c45 |>.mono HMd.out.2.2.2.2.1))
           have HOc := Lib.hid (own_keep HO.out (belowDrew1 c45))
           clear HMd HO
           generalize c45.drew = c46 at *
           go_upto_region 13 with fail
           refine wp_region_held_drew (S := fun x => MC H (some ⟨g, o, none⟩) ma (some ⟨g2, o2, none⟩) ma2 nc mc nc2 mc2 n1 n2 m1 m2 sz qu sz2 qu2 ag ag2 x ∧ x.cell? ⟨g2, o2 + k * 2, none⟩ = some (.string xs) ∧ x.cell? ⟨g2, o2 + k * 2 + 1, none⟩ = some (.int .i64 xi)) (by kernel_rfl) (⟨(HMc.out.keep (belowDrew1 c46 |>.mono HMc.out.2.2.2.2.1)).cells, HEL.out _ ⟨_, _, _, _, _, HMc.out.keep (belowDrew1 c46 |>.mono HMc.out.2.2.2.2.1)⟩⟩) (fun hHeld => ?_)
           refine tkB (i := 0) (v := .pointer (some ⟨H + 1 + 1 + 1, 0, none⟩)) rfl hHeld ?_
           simp only [zq]
           refine tkB (i := 2) (v := .pointer (some ⟨H + 1, 0, none⟩)) rfl hHeld ?_
           simp only [zq]
           refine tkA (i := 3) (v := .slice (some ⟨g2, o2, none⟩) n2 nc2) rfl (Or.inl ⟨by rfl, fun w hw => by obtain ⟨⟨⟨s0, s1, s2, s3, s4⟩, t0, t1, t2, t3, t4⟩, e0, e1⟩ := hw; go_simp⟩) hHeld ?_
           simp only [zq]
           refine tkB (i := 4) (v := .int .i64 (k : Int)) rfl hHeld ?_
           simp only [zq]
           refine tkB (i := 5) (v := .pointer (some ⟨g2, o2 + k * 2, none⟩)) rfl hHeld ?_
           simp only [zq]
           refine tkA (i := 6) (v := .agg #[.string xs, .int .i64 xi]) rfl (Or.inl ⟨by rfl, fun w hw => by obtain ⟨⟨⟨s0, s1, s2, s3, s4⟩, t0, t1, t2, t3, t4⟩, e0, e1⟩ := hw; go_simp⟩) hHeld ?_
           simp only [zq]
           have HMa := Lib.hid (HMc.out.keep (belowDrew1 c46 |>.mono HMc.out.2.2.2.2.1))
           have HOa := Lib.hid (own_keep HOc.out (belowDrew1 c46))
           generalize c46.drew = z49 at *
           refine wpAnyH_ready (rs := [1, 7]) (by kernel_rfl) (by simp) ?_
           refine AllReadyH.cons (o := _) rfl (fun K hK => ?_) (AllReadyH.cons (o := _) rfl (fun K hK => ?_) AllReadyH.nil)
           · obtain ⟨m0, m1', m2', m3, m4, mf⟩ := HMa.out.wish
             go_simp
             refine hK _ _ ⟨(HMa.out).cells, HEL.out _ ⟨_, _, _, _, _, HMa.out⟩⟩ (fun hHeld => ?_)
             clear hK K m0 m1' m2' m3 m4 mf
             refine wpAnyH_ready (rs := [7]) (by kernel_rfl) (by simp) ?_
             refine AllReadyH.cons (o := _) rfl (fun K hK => ?_) AllReadyH.nil
             go_simp
             have b : Below z49.heap.size z49 (z49.alloc (.cells #[.string xs, .int .i64 xi] 46)) := (Below.refl _ _).alloc (Nat.le_refl _) _
             have HMb := Lib.hid (HMa.out.keep (b.mono HMa.out.2.2.2.2.1))
             have HOb := Lib.hid (own_keep HOa.out b)
             have HV : Hid ((z49.alloc (.cells #[.string xs, .int .i64 xi] 46)).heap[z49.heap.size]? = some (.cells (nsC [(xs, xi)]).toArray 46 (0, 0))) := heap_new _ _
             clear b
             refine hK _ _ ⟨(HMb.out).cells, HEL.out _ ⟨_, _, _, _, _, HMb.out⟩⟩ (fun hHeld => ?_)
             clear hK K
             generalize z49.alloc (.cells #[.string xs, .int .i64 xi] 46) = v47 at *
             generalize z49.heap.size = vb at *
             refine wpAnyH_ready (rs := [8]) (by kernel_rfl) (by simp) ?_
             refine AllReadyH.cons (o := _) rfl (fun K hK => ?_) AllReadyH.nil
             rw [if_pos (show Region.wanted _ _ = true by kernel_rfl)]
             refine wp_append_gen _ _ 32 rfl (H + 4) 46 i0 _ 2 24 Try.underlying32 hi0 hz0 hz1 hz2 rfl (by omega) (.slice la al lc) al (nsC acc) rfl (by exact HOb.out) (some ⟨vb, 0, none⟩) 1 1 (nsC [(xs, xi)]) rfl rfl (fun h => by cases h) (fun ad had => by cases had; exact World.news_of_block HV.out) (nsC_one _) (by unfold maxLen; omega) (by omega) (by have := HMb.out.2.2.2.2.1; exact this) ?_
             intro a9 c9 w4 hown4 hgrow
             have HB4 : Hid (Below (H + 4) v47 w4) := (Below.refl _ _).grown hgrow HMb.out.2.2.2.2.1 (fun k hk => (World.ownsRow.lt HOb.out k hk).1)
             have HM4 := Lib.hid (HMb.out.keep HB4.out)
             have HM5 : Hid (MR H w (w4.setCell ⟨H + 1 + 1 + 1, 0, none⟩ (.slice a9 (al + 1) c9)) (some ⟨g, o, none⟩) ma (some ⟨g2, o2, none⟩) ma2 nc mc nc2 mc2 n1 n2 m1 m2 sz qu sz2 qu2 ag ag2 (.slice a9 (al + 1) c9) 0 0 ⟨#[]⟩ (.slice none 0 0)) := HM4.out.set 0 _ rfl
             have HO5 : Hid ((w4.setCell ⟨H + 1 + 1 + 1, 0, none⟩ (.slice a9 (al + 1) c9)).ownsRow (H + 4) 46 2 (.slice a9 (al + 1) c9) (al + 1) (nsC acc ++ nsC [(xs, xi)])) := hown4.kept (grown_setCell _ _ _) (owns_ne hown4 (by show H + 1 + 1 + 1 < _; omega))
             clear HMa HOa HMb HOb hown4 hgrow HB4
             simp only [zq]
             refine hK _ _ ⟨(HM4.out).cells, HEL.out _ ⟨_, _, _, _, _, HM4.out⟩⟩ (fun hHeld => ?_)
             clear hK K
             refine tkB (i := 9) (v := .pointer (some ⟨H + 1 + 1 + 1, 0, none⟩)) rfl hHeld ?_
             simp only [zq]
             refine wpAnyH_ready (rs := [10]) (by kernel_rfl) (by simp) ?_
             refine AllReadyH.cons (o := _) rfl (fun K hK => ?_) AllReadyH.nil
             obtain ⟨m0, m1', m2', m3, m4, mf⟩ := HM4.out.wish
             have mf0 := mf 0
             clear mf
             go_simp
             refine hK _ _ ⟨(HM5.out).cells, HEL.out _ ⟨_, _, _, _, _, HM5.out⟩⟩ (fun hHeld => ?_)
             clear hK K m0 m1' m2' m3 m4 mf0 HM4
             refine wpAnyH_done (by kernel_rfl) ?_ _
             clear hHeld
             generalize w4.setCell ⟨H + 1 + 1 + 1, 0, none⟩ (.slice a9 (al + 1) c9) = w5 at *
             have HNX : Hid (STN H w w5 (some ⟨g, o, none⟩) ma (some ⟨g2, o2, none⟩) ma2 nc mc nc2 mc2 n1 n2 m1 m2 sz qu sz2 qu2 ag ag2  ns ns2  (i + 1) (k + 1) (.slice a9 (al + 1) c9)) := by
              refine ⟨HM5.out, acc ++ [(xs, xi)], by rw [List.length_append, HAL.out, nsC_app]; exact HO5.out, ?_, ?_⟩
              · have h9 := HMG.out
                rw [HDL.out] at h9
                rw [← h9, List.append_assoc]
                exact congrArg (acc ++ ·) (show _ = _ from (show mgN (ns.drop i) ((xs, xi) :: ns2.drop (k + 1)) = (xs, xi) :: mgN (ns.drop (i + 1)) (ns2.drop (k + 1)) from by rw [HDO.out]; exact mg_eq _ _ HLT.out HEQ.out).symm)
              · rw [List.length_append, HAL.out]; have h8 := HLN.out; simp; omega
             clear HM5 HO5
             go_wp2
             exact ⟨⟨(i + 1), k + 1, _, by omega, by omega, by go_num, by go_num, HNX.out⟩, by simp [intOf]; omega⟩
           · go_simp
             have b : Below z49.heap.size z49 (z49.alloc (.cells #[.string xs, .int .i64 xi] 46)) := (Below.refl _ _).alloc (Nat.le_refl _) _
             have HMb := Lib.hid (HMa.out.keep (b.mono HMa.out.2.2.2.2.1))
             have HOb := Lib.hid (own_keep HOa.out b)
             have HV : Hid ((z49.alloc (.cells #[.string xs, .int .i64 xi] 46)).heap[z49.heap.size]? = some (.cells (nsC [(xs, xi)]).toArray 46 (0, 0))) := heap_new _ _
             clear b
             refine hK _ _ ⟨(HMb.out).cells, HEL.out _ ⟨_, _, _, _, _, HMb.out⟩⟩ (fun hHeld => ?_)
             clear hK K
             generalize z49.alloc (.cells #[.string xs, .int .i64 xi] 46) = v48 at *
             generalize z49.heap.size = vb at *
             refine wpAnyH_ready (rs := [1]) (by kernel_rfl) (by simp) ?_
             refine AllReadyH.cons (o := _) rfl (fun K hK => ?_) AllReadyH.nil
             obtain ⟨m0, m1', m2', m3, m4, mf⟩ := HMb.out.wish
             go_simp
             refine hK _ _ ⟨(HMb.out).cells, HEL.out _ ⟨_, _, _, _, _, HMb.out⟩⟩ (fun hHeld => ?_)
             clear hK K m0 m1' m2' m3 m4 mf
             refine wpAnyH_ready (rs := [8]) (by kernel_rfl) (by simp) ?_
             refine AllReadyH.cons (o := _) rfl (fun K hK => ?_) AllReadyH.nil
             rw [if_pos (show Region.wanted _ _ = true by kernel_rfl)]
             refine wp_append_gen _ _ 32 rfl (H + 4) 46 i0 _ 2 24 Try.underlying32 hi0 hz0 hz1 hz2 rfl (by omega) (.slice la al lc) al (nsC acc) rfl (by exact HOb.out) (some ⟨vb, 0, none⟩) 1 1 (nsC [(xs, xi)]) rfl rfl (fun h => by cases h) (fun ad had => by cases had; exact World.news_of_block HV.out) (nsC_one _) (by unfold maxLen; omega) (by omega) (by have := HMb.out.2.2.2.2.1; exact this) ?_
             intro a9 c9 w4 hown4 hgrow
             have HB4 : Hid (Below (H + 4) v48 w4) := (Below.refl _ _).grown hgrow HMb.out.2.2.2.2.1 (fun k hk => (World.ownsRow.lt HOb.out k hk).1)
             have HM4 := Lib.hid (HMb.out.keep HB4.out)
             have HM5 : Hid (MR H w (w4.setCell ⟨H + 1 + 1 + 1, 0, none⟩ (.slice a9 (al + 1) c9)) (some ⟨g, o, none⟩) ma (some ⟨g2, o2, none⟩) ma2 nc mc nc2 mc2 n1 n2 m1 m2 sz qu sz2 qu2 ag ag2 (.slice a9 (al + 1) c9) 0 0 ⟨#[]⟩ (.slice none 0 0)) := HM4.out.set 0 _ rfl
             have HO5 : Hid ((w4.setCell ⟨H + 1 + 1 + 1, 0, none⟩ (.slice a9 (al + 1) c9)).ownsRow (H + 4) 46 2 (.slice a9 (al + 1) c9) (al + 1) (nsC acc ++ nsC [(xs, xi)])) := hown4.kept (grown_setCell _ _ _) (owns_ne hown4 (by show H + 1 + 1 + 1 < _; omega))
             clear HMa HOa HMb HOb hown4 hgrow HB4
             simp only [zq]
             refine hK _ _ ⟨(HM4.out).cells, HEL.out _ ⟨_, _, _, _, _, HM4.out⟩⟩ (fun hHeld => ?_)
             clear hK K
             refine tkB (i := 9) (v := .pointer (some ⟨H + 1 + 1 + 1, 0, none⟩)) rfl hHeld ?_
             simp only [zq]
             refine wpAnyH_ready (rs := [10]) (by kernel_rfl) (by simp) ?_
             refine AllReadyH.cons (o := _) rfl (fun K hK => ?_) AllReadyH.nil
             obtain ⟨m0, m1', m2', m3, m4, mf⟩ := HM4.out.wish
             have mf0 := mf 0
             clear mf
             go_simp
             refine hK _ _ ⟨(HM5.out).cells, HEL.out _ ⟨_, _, _, _, _, HM5.out⟩⟩ (fun hHeld => ?_)
             clear hK K m0 m1' m2' m3 m4 mf0 HM4
             refine wpAnyH_done (by kernel_rfl) ?_ _
             clear hHeld
             generalize w4.setCell ⟨H + 1 + 1 + 1, 0, none⟩ (.slice a9 (al + 1) c9) = w5 at *
             have HNX : Hid (STN H w w5 (some ⟨g, o, none⟩) ma (some ⟨g2, o2, none⟩) ma2 nc mc nc2 mc2 n1 n2 m1 m2 sz qu sz2 qu2 ag ag2  ns ns2  (i + 1) (k + 1) (.slice a9 (al + 1) c9)) := by
              refine ⟨HM5.out, acc ++ [(xs, xi)], by rw [List.length_append, HAL.out, nsC_app]; exact HO5.out, ?_, ?_⟩
              · have h9 := HMG.out
                rw [HDL.out] at h9
                rw [← h9, List.append_assoc]
                exact congrArg (acc ++ ·) (show _ = _ from (show mgN (ns.drop i) ((xs, xi) :: ns2.drop (k + 1)) = (xs, xi) :: mgN (ns.drop (i + 1)) (ns2.drop (k + 1)) from by rw [HDO.out]; exact mg_eq _ _ HLT.out HEQ.out).symm)
              · rw [List.length_append, HAL.out]; have h8 := HLN.out; simp; omega
             clear HM5 HO5
             go_wp2
             exact ⟨⟨(i + 1), k + 1, _, by omega, by omega, by go_num, by go_num, HNX.out⟩, by simp [intOf]; omega⟩
          | false =>
           have HEQ : Hid (eqN (ys, yi) (xs, xi) = false) := hee
           go_upto_region 11 with fail
           refine wp_region_held_drew (S := fun x => MC H (some ⟨g, o, none⟩) ma (some ⟨g2, o2, none⟩) ma2 nc mc nc2 mc2 n1 n2 m1 m2 sz qu sz2 qu2 ag ag2 x ∧ x.cell? ⟨g, o + i * 2, none⟩ = some (.string ys) ∧ x.cell? ⟨g2, o2 + k * 2, none⟩ = some (.string xs)) (by kernel_rfl) (⟨(HMd.out.keep (belowDrew1 c45 |>.mono HMd.out.2.2.2.2.1)).cells, HCO.out _ ⟨_, _, _, _, _, HMd.out.keep (belowDrew1 c45 |>.mono HMd.out.2.2.2.2.1)⟩, HCL.out _ ⟨_, _, _, _, _, HMd.out.keep (belowDrew1 c45 |>.mono HMd.out.2.2.2.2.1)⟩⟩) (fun hHeld => ?_)
           refine tkB (i := 0) (v := .int .i64 (i : Int)) rfl hHeld ?_
           simp only [zq]
           refine tkB (i := 1) (v := .pointer (some ⟨H, 0, none⟩)) rfl hHeld ?_
           simp only [zq]
           refine tkA (i := 2) (v := .slice (some ⟨g, o, none⟩) n1 nc) rfl (Or.inl ⟨by rfl, fun w hw => by obtain ⟨⟨⟨s0, s1, s2, s3, s4⟩, t0, t1, t2, t3, t4⟩, e0, e1⟩ := hw; go_simp⟩) hHeld ?_
           simp only [zq]
           refine tkB (i := 3) (v := .int .i64 (n1 : Int)) rfl hHeld ?_
           simp only [zq]
           refine tkB (i := 4) (v := .bool true) rfl hHeld ?_
           simp only [zq]
           refine tkB (i := 5) (v := .bool true) rfl hHeld ?_
           simp only [zq]
           refine tkB (i := 6) (v := .pointer (some ⟨H, 0, none⟩)) rfl hHeld ?_
           simp only [zq]
           refine tkA (i := 7) (v := .slice (some ⟨g, o, none⟩) n1 nc) rfl (Or.inl ⟨by rfl, fun w hw => by obtain ⟨⟨⟨s0, s1, s2, s3, s4⟩, t0, t1, t2, t3, t4⟩, e0, e1⟩ := hw; go_simp⟩) hHeld ?_
           simp only [zq]
           refine tkB (i := 8) (v := .int .i64 (i : Int)) rfl hHeld ?_
           simp only [zq]
           refine tkB (i := 9) (v := .pointer (some ⟨g, o + i * 2, none⟩)) rfl hHeld ?_
           simp only [zq]
           refine tkB (i := 10) (v := .pointer (some ⟨g, o + i * 2, none⟩)) rfl hHeld ?_
           simp only [zq]
           refine tkA (i := 11) (v := .string ys) rfl (Or.inl ⟨by rfl, fun w hw => by obtain ⟨⟨⟨s0, s1, s2, s3, s4⟩, t0, t1, t2, t3, t4⟩, e0, e1⟩ := hw; go_simp⟩) hHeld ?_
           simp only [zq]
           refine tkB (i := 12) (v := .pointer (some ⟨H + 1, 0, none⟩)) rfl hHeld ?_
           simp only [zq]
           refine tkA (i := 13) (v := .slice (some ⟨g2, o2, none⟩) n2 nc2) rfl (Or.inl ⟨by rfl, fun w hw => by obtain ⟨⟨⟨s0, s1, s2, s3, s4⟩, t0, t1, t2, t3, t4⟩, e0, e1⟩ := hw; go_simp⟩) hHeld ?_
           simp only [zq]
           refine tkB (i := 14) (v := .int .i64 (k : Int)) rfl hHeld ?_
           simp only [zq]
           refine tkB (i := 15) (v := .pointer (some ⟨g2, o2 + k * 2, none⟩)) rfl hHeld ?_
           simp only [zq]
           refine tkB (i := 16) (v := .pointer (some ⟨g2, o2 + k * 2, none⟩)) rfl hHeld ?_
           simp only [zq]
           refine tkA (i := 17) (v := .string xs) rfl (Or.inl ⟨by rfl, fun w hw => by obtain ⟨⟨⟨s0, s1, s2, s3, s4⟩, t0, t1, t2, t3, t4⟩, e0, e1⟩ := hw; go_simp⟩) hHeld ?_
           simp only [zq]
           refine tkB (i := 18) (v := .bool false) rfl hHeld ?_
           simp only [zq]
           refine tkB (i := 19) (v := .bool false) rfl hHeld ?_
           simp only [zq]
           refine wpAnyH_done (by kernel_rfl) ?_ _
           clear hHeld
           have HMc := Lib.hid (HMd.out.keep (belowDrew1 c45 |>.mono HMd.out.2.2.2.2.1))
           have HOc := Lib.hid (own_keep HO.out (belowDrew1 c45))
           clear HMd HO
           generalize c45.drew = c50 at *
           go_upto_region 13 with fail
           refine wp_region_held_drew (S := fun x => MC H (some ⟨g, o, none⟩) ma (some ⟨g2, o2, none⟩) ma2 nc mc nc2 mc2 n1 n2 m1 m2 sz qu sz2 qu2 ag ag2 x ∧ x.cell? ⟨g2, o2 + k * 2, none⟩ = some (.string xs) ∧ x.cell? ⟨g2, o2 + k * 2 + 1, none⟩ = some (.int .i64 xi)) (by kernel_rfl) (⟨(HMc.out.keep (belowDrew1 c50 |>.mono HMc.out.2.2.2.2.1)).cells, HEL.out _ ⟨_, _, _, _, _, HMc.out.keep (belowDrew1 c50 |>.mono HMc.out.2.2.2.2.1)⟩⟩) (fun hHeld => ?_)
           refine tkB (i := 0) (v := .pointer (some ⟨H + 1 + 1 + 1, 0, none⟩)) rfl hHeld ?_
           simp only [zq]
           refine tkB (i := 2) (v := .pointer (some ⟨H + 1, 0, none⟩)) rfl hHeld ?_
           simp only [zq]
           refine tkA (i := 3) (v := .slice (some ⟨g2, o2, none⟩) n2 nc2) rfl (Or.inl ⟨by rfl, fun w hw => by obtain ⟨⟨⟨s0, s1, s2, s3, s4⟩, t0, t1, t2, t3, t4⟩, e0, e1⟩ := hw; go_simp⟩) hHeld ?_
           simp only [zq]
           refine tkB (i := 4) (v := .int .i64 (k : Int)) rfl hHeld ?_
           simp only [zq]
           refine tkB (i := 5) (v := .pointer (some ⟨g2, o2 + k * 2, none⟩)) rfl hHeld ?_
           simp only [zq]
           refine tkA (i := 6) (v := .agg #[.string xs, .int .i64 xi]) rfl (Or.inl ⟨by rfl, fun w hw => by obtain ⟨⟨⟨s0, s1, s2, s3, s4⟩, t0, t1, t2, t3, t4⟩, e0, e1⟩ := hw; go_simp⟩) hHeld ?_
           simp only [zq]
           have HMa := Lib.hid (HMc.out.keep (belowDrew1 c50 |>.mono HMc.out.2.2.2.2.1))
           have HOa := Lib.hid (own_keep HOc.out (belowDrew1 c50))
           generalize c50.drew = z53 at *
           refine wpAnyH_ready (rs := [1, 7]) (by kernel_rfl) (by simp) ?_
           refine AllReadyH.cons (o := _) rfl (fun K hK => ?_) (AllReadyH.cons (o := _) rfl (fun K hK => ?_) AllReadyH.nil)
           · obtain ⟨m0, m1', m2', m3, m4, mf⟩ := HMa.out.wish
             go_simp
             refine hK _ _ ⟨(HMa.out).cells, HEL.out _ ⟨_, _, _, _, _, HMa.out⟩⟩ (fun hHeld => ?_)
             clear hK K m0 m1' m2' m3 m4 mf
             refine wpAnyH_ready (rs := [7]) (by kernel_rfl) (by simp) ?_
             refine AllReadyH.cons (o := _) rfl (fun K hK => ?_) AllReadyH.nil
             go_simp
             have b : Below z53.heap.size z53 (z53.alloc (.cells #[.string xs, .int .i64 xi] 46)) := (Below.refl _ _).alloc (Nat.le_refl _) _
             have HMb := Lib.hid (HMa.out.keep (b.mono HMa.out.2.2.2.2.1))
             have HOb := Lib.hid (own_keep HOa.out b)
             have HV : Hid ((z53.alloc (.cells #[.string xs, .int .i64 xi] 46)).heap[z53.heap.size]? = some (.cells (nsC [(xs, xi)]).toArray 46 (0, 0))) := heap_new _ _
             clear b
             refine hK _ _ ⟨(HMb.out).cells, HEL.out _ ⟨_, _, _, _, _, HMb.out⟩⟩ (fun hHeld => ?_)
             clear hK K
             generalize z53.alloc (.cells #[.string xs, .int .i64 xi] 46) = v51 at *
             generalize z53.heap.size = vb at *
             refine wpAnyH_ready (rs := [8]) (by kernel_rfl) (by simp) ?_
             refine AllReadyH.cons (o := _) rfl (fun K hK => ?_) AllReadyH.nil
             rw [if_pos (show Region.wanted _ _ = true by kernel_rfl)]
             refine wp_append_gen _ _ 32 rfl (H + 4) 46 i0 _ 2 24 Try.underlying32 hi0 hz0 hz1 hz2 rfl (by omega) (.slice la al lc) al (nsC acc) rfl (by exact HOb.out) (some ⟨vb, 0, none⟩) 1 1 (nsC [(xs, xi)]) rfl rfl (fun h => by cases h) (fun ad had => by cases had; exact World.news_of_block HV.out) (nsC_one _) (by unfold maxLen; omega) (by omega) (by have := HMb.out.2.2.2.2.1; exact this) ?_
             intro a9 c9 w4 hown4 hgrow
             have HB4 : Hid (Below (H + 4) v51 w4) := (Below.refl _ _).grown hgrow HMb.out.2.2.2.2.1 (fun k hk => (World.ownsRow.lt HOb.out k hk).1)
             have HM4 := Lib.hid (HMb.out.keep HB4.out)
             have HM5 : Hid (MR H w (w4.setCell ⟨H + 1 + 1 + 1, 0, none⟩ (.slice a9 (al + 1) c9)) (some ⟨g, o, none⟩) ma (some ⟨g2, o2, none⟩) ma2 nc mc nc2 mc2 n1 n2 m1 m2 sz qu sz2 qu2 ag ag2 (.slice a9 (al + 1) c9) 0 0 ⟨#[]⟩ (.slice none 0 0)) := HM4.out.set 0 _ rfl
             have HO5 : Hid ((w4.setCell ⟨H + 1 + 1 + 1, 0, none⟩ (.slice a9 (al + 1) c9)).ownsRow (H + 4) 46 2 (.slice a9 (al + 1) c9) (al + 1) (nsC acc ++ nsC [(xs, xi)])) := hown4.kept (grown_setCell _ _ _) (owns_ne hown4 (by show H + 1 + 1 + 1 < _; omega))
             clear HMa HOa HMb HOb hown4 hgrow HB4
             simp only [zq]
             refine hK _ _ ⟨(HM4.out).cells, HEL.out _ ⟨_, _, _, _, _, HM4.out⟩⟩ (fun hHeld => ?_)
             clear hK K
             refine tkB (i := 9) (v := .pointer (some ⟨H + 1 + 1 + 1, 0, none⟩)) rfl hHeld ?_
             simp only [zq]
             refine wpAnyH_ready (rs := [10]) (by kernel_rfl) (by simp) ?_
             refine AllReadyH.cons (o := _) rfl (fun K hK => ?_) AllReadyH.nil
             obtain ⟨m0, m1', m2', m3, m4, mf⟩ := HM4.out.wish
             have mf0 := mf 0
             clear mf
             go_simp
             refine hK _ _ ⟨(HM5.out).cells, HEL.out _ ⟨_, _, _, _, _, HM5.out⟩⟩ (fun hHeld => ?_)
             clear hK K m0 m1' m2' m3 m4 mf0 HM4
             refine wpAnyH_done (by kernel_rfl) ?_ _
             clear hHeld
             generalize w4.setCell ⟨H + 1 + 1 + 1, 0, none⟩ (.slice a9 (al + 1) c9) = w5 at *
             have HNX : Hid (STN H w w5 (some ⟨g, o, none⟩) ma (some ⟨g2, o2, none⟩) ma2 nc mc nc2 mc2 n1 n2 m1 m2 sz qu sz2 qu2 ag ag2  ns ns2  i (k + 1) (.slice a9 (al + 1) c9)) := by
              refine ⟨HM5.out, acc ++ [(xs, xi)], by rw [List.length_append, HAL.out, nsC_app]; exact HO5.out, ?_, ?_⟩
              · have h9 := HMG.out
                rw [HDL.out] at h9
                rw [← h9, List.append_assoc]
                exact congrArg (acc ++ ·) (show _ = _ from (show mgN (ns.drop i) ((xs, xi) :: ns2.drop (k + 1)) = (xs, xi) :: mgN (ns.drop i) (ns2.drop (k + 1)) from by rw [HDO.out]; exact mg_gt _ _ HLT.out HEQ.out).symm)
              · rw [List.length_append, HAL.out]; have h8 := HLN.out; simp; omega
             clear HM5 HO5
             go_wp2
             exact ⟨⟨i, k + 1, _, by omega, by omega, by go_num, by go_num, HNX.out⟩, by simp [intOf]; omega⟩
           · go_simp
             have b : Below z53.heap.size z53 (z53.alloc (.cells #[.string xs, .int .i64 xi] 46)) := (Below.refl _ _).alloc (Nat.le_refl _) _
             have HMb := Lib.hid (HMa.out.keep (b.mono HMa.out.2.2.2.2.1))
             have HOb := Lib.hid (own_keep HOa.out b)
             have HV : Hid ((z53.alloc (.cells #[.string xs, .int .i64 xi] 46)).heap[z53.heap.size]? = some (.cells (nsC [(xs, xi)]).toArray 46 (0, 0))) := heap_new _ _
             clear b
             refine hK _ _ ⟨(HMb.out).cells, HEL.out _ ⟨_, _, _, _, _, HMb.out⟩⟩ (fun hHeld => ?_)
             clear hK K
             generalize z53.alloc (.cells #[.string xs, .int .i64 xi] 46) = v52 at *
             generalize z53.heap.size = vb at *
             refine wpAnyH_ready (rs := [1]) (by kernel_rfl) (by simp) ?_
             refine AllReadyH.cons (o := _) rfl (fun K hK => ?_) AllReadyH.nil
             obtain ⟨m0, m1', m2', m3, m4, mf⟩ := HMb.out.wish
             go_simp
             refine hK _ _ ⟨(HMb.out).cells, HEL.out _ ⟨_, _, _, _, _, HMb.out⟩⟩ (fun hHeld => ?_)
             clear hK K m0 m1' m2' m3 m4 mf
             refine wpAnyH_ready (rs := [8]) (by kernel_rfl) (by simp) ?_
             refine AllReadyH.cons (o := _) rfl (fun K hK => ?_) AllReadyH.nil
             rw [if_pos (show Region.wanted _ _ = true by kernel_rfl)]
             refine wp_append_gen _ _ 32 rfl (H + 4) 46 i0 _ 2 24 Try.underlying32 hi0 hz0 hz1 hz2 rfl (by omega) (.slice la al lc) al (nsC acc) rfl (by exact HOb.out) (some ⟨vb, 0, none⟩) 1 1 (nsC [(xs, xi)]) rfl rfl (fun h => by cases h) (fun ad had => by cases had; exact World.news_of_block HV.out) (nsC_one _) (by unfold maxLen; omega) (by omega) (by have := HMb.out.2.2.2.2.1; exact this) ?_
             intro a9 c9 w4 hown4 hgrow
             have HB4 : Hid (Below (H + 4) v52 w4) := (Below.refl _ _).grown hgrow HMb.out.2.2.2.2.1 (fun k hk => (World.ownsRow.lt HOb.out k hk).1)
             have HM4 := Lib.hid (HMb.out.keep HB4.out)
             have HM5 : Hid (MR H w (w4.setCell ⟨H + 1 + 1 + 1, 0, none⟩ (.slice a9 (al + 1) c9)) (some ⟨g, o, none⟩) ma (some ⟨g2, o2, none⟩) ma2 nc mc nc2 mc2 n1 n2 m1 m2 sz qu sz2 qu2 ag ag2 (.slice a9 (al + 1) c9) 0 0 ⟨#[]⟩ (.slice none 0 0)) := HM4.out.set 0 _ rfl
             have HO5 : Hid ((w4.setCell ⟨H + 1 + 1 + 1, 0, none⟩ (.slice a9 (al + 1) c9)).ownsRow (H + 4) 46 2 (.slice a9 (al + 1) c9) (al + 1) (nsC acc ++ nsC [(xs, xi)])) := hown4.kept (grown_setCell _ _ _) (owns_ne hown4 (by show H + 1 + 1 + 1 < _; omega))
             clear HMa HOa HMb HOb hown4 hgrow HB4
             simp only [zq]
             refine hK _ _ ⟨(HM4.out).cells, HEL.out _ ⟨_, _, _, _, _, HM4.out⟩⟩ (fun hHeld => ?_)
             clear hK K
             refine tkB (i := 9) (v := .pointer (some ⟨H + 1 + 1 + 1, 0, none⟩)) rfl hHeld ?_
             simp only [zq]
             refine wpAnyH_ready (rs := [10]) (by kernel_rfl) (by simp) ?_
             refine AllReadyH.cons (o := _) rfl (fun K hK => ?_) AllReadyH.nil
             obtain ⟨m0, m1', m2', m3, m4, mf⟩ := HM4.out.wish
             have mf0 := mf 0
             clear mf
             go_simp
             refine hK _ _ ⟨(HM5.out).cells, HEL.out _ ⟨_, _, _, _, _, HM5.out⟩⟩ (fun hHeld => ?_)
             clear hK K m0 m1' m2' m3 m4 mf0 HM4
             refine wpAnyH_done (by kernel_rfl) ?_ _
             clear hHeld
             generalize w4.setCell ⟨H + 1 + 1 + 1, 0, none⟩ (.slice a9 (al + 1) c9) = w5 at *
             have HNX : Hid (STN H w w5 (some ⟨g, o, none⟩) ma (some ⟨g2, o2, none⟩) ma2 nc mc nc2 mc2 n1 n2 m1 m2 sz qu sz2 qu2 ag ag2  ns ns2  i (k + 1) (.slice a9 (al + 1) c9)) := by
              refine ⟨HM5.out, acc ++ [(xs, xi)], by rw [List.length_append, HAL.out, nsC_app]; exact HO5.out, ?_, ?_⟩
              · have h9 := HMG.out
                rw [HDL.out] at h9
                rw [← h9, List.append_assoc]
                exact congrArg (acc ++ ·) (show _ = _ from (show mgN (ns.drop i) ((xs, xi) :: ns2.drop (k + 1)) = (xs, xi) :: mgN (ns.drop i) (ns2.drop (k + 1)) from by rw [HDO.out]; exact mg_gt _ _ HLT.out HEQ.out).symm)
              · rw [List.length_append, HAL.out]; have h8 := HLN.out; simp; omega
             clear HM5 HO5
             go_wp2
             exact ⟨⟨i, k + 1, _, by omega, by omega, by go_num, by go_num, HNX.out⟩, by simp [intOf]; omega⟩
       · obtain rfl : i = n1 := by omega
         go_upto_region 8 with fail
         refine wp_region_held_drew (S := MC H na ma (some ⟨g2, o2, none⟩) ma2 nc mc nc2 mc2 i n2 m1 m2 sz qu sz2 qu2 ag ag2) (by kernel_rfl) ((HM.out.keep (belowDrew1 wr |>.mono HM.out.2.2.2.2.1)).cells) (fun hHeld => ?_)
         refine tkB (i := 0) (v := .int .i64 (i : Int)) rfl hHeld ?_
         simp only [zq]
         refine tkB (i := 1) (v := .pointer (some ⟨H, 0, none⟩)) rfl hHeld ?_
         simp only [zq]
         refine tkA (i := 2) (v := .slice na i nc) rfl (Or.inl ⟨by rfl, fun w hw => by obtain ⟨⟨s0, s1, s2, s3, s4⟩, t0, t1, t2, t3, t4⟩ := hw; go_simp⟩) hHeld ?_
         simp only [zq]
         refine tkB (i := 3) (v := .int .i64 (i : Int)) rfl hHeld ?_
         simp only [zq]
         refine tkB (i := 4) (v := .bool false) rfl hHeld ?_
         simp only [zq]
         refine tkB (i := 5) (v := .bool false) rfl hHeld ?_
         simp only [zq]
         refine tkA (i := 6) (v := undef) rfl (Or.inr ⟨by rfl, rfl⟩) hHeld ?_
         simp only [zq]
         refine tkA (i := 7) (v := undef) rfl (Or.inr ⟨by rfl, rfl⟩) hHeld ?_
         simp only [zq]
         refine tkA (i := 8) (v := undef) rfl (Or.inr ⟨by rfl, rfl⟩) hHeld ?_
         simp only [zq]
         refine tkA (i := 9) (v := undef) rfl (Or.inr ⟨by rfl, rfl⟩) hHeld ?_
         simp only [zq]
         refine tkA (i := 10) (v := undef) rfl (Or.inr ⟨by rfl, rfl⟩) hHeld ?_
         simp only [zq]
         refine tkA (i := 11) (v := undef) rfl (Or.inr ⟨by rfl, rfl⟩) hHeld ?_
         simp only [zq]
         refine tkA (i := 12) (v := undef) rfl (Or.inr ⟨by rfl, rfl⟩) hHeld ?_
         simp only [zq]
         refine tkA (i := 13) (v := undef) rfl (Or.inr ⟨by rfl, rfl⟩) hHeld ?_
         simp only [zq]
         refine tkA (i := 14) (v := undef) rfl (Or.inr ⟨by rfl, rfl⟩) hHeld ?_
         simp only [zq]
         refine tkA (i := 15) (v := undef) rfl (Or.inr ⟨by rfl, rfl⟩) hHeld ?_
         simp only [zq]
         refine tkA (i := 16) (v := undef) rfl (Or.inr ⟨by rfl, rfl⟩) hHeld ?_
         simp only [zq]
         refine tkA (i := 17) (v := undef) rfl (Or.inr ⟨by rfl, rfl⟩) hHeld ?_
         simp only [zq]
         refine tkA (i := 18) (v := undef) rfl (Or.inr ⟨by rfl, rfl⟩) hHeld ?_
         simp only [zq]
         refine tkB (i := 19) (v := .bool false) rfl hHeld ?_
         simp only [zq]
         refine wpAnyH_done (by kernel_rfl) ?_ _
         clear hHeld
         have HMd := Lib.hid (HM.out.keep (belowDrew1 wr |>.mono HM.out.2.2.2.2.1))
         have HO2 := Lib.hid (own_keep HO.out (belowDrew1 wr))
         clear HM HO
         have HO := HO2
         clear HO2
         generalize wr.drew = c54 at *
         go_upto_region 11 with fail
         refine wp_region_held_drew (S := MC H na ma (some ⟨g2, o2, none⟩) ma2 nc mc nc2 mc2 i n2 m1 m2 sz qu sz2 qu2 ag ag2) (by kernel_rfl) ((HMd.out.keep (belowDrew1 c54 |>.mono HMd.out.2.2.2.2.1)).cells) (fun hHeld => ?_)
         refine tkB (i := 0) (v := .int .i64 (i : Int)) rfl hHeld ?_
         simp only [zq]
         refine tkB (i := 1) (v := .pointer (some ⟨H, 0, none⟩)) rfl hHeld ?_
         simp only [zq]
         refine tkA (i := 2) (v := .slice na i nc) rfl (Or.inl ⟨by rfl, fun w hw => by obtain ⟨⟨s0, s1, s2, s3, s4⟩, t0, t1, t2, t3, t4⟩ := hw; go_simp⟩) hHeld ?_
         simp only [zq]
         refine tkB (i := 3) (v := .int .i64 (i : Int)) rfl hHeld ?_
         simp only [zq]
         refine tkB (i := 4) (v := .bool false) rfl hHeld ?_
         simp only [zq]
         refine tkB (i := 5) (v := .bool false) rfl hHeld ?_
         simp only [zq]
         refine tkA (i := 6) (v := undef) rfl (Or.inr ⟨by rfl, rfl⟩) hHeld ?_
         simp only [zq]
         refine tkA (i := 7) (v := undef) rfl (Or.inr ⟨by rfl, rfl⟩) hHeld ?_
         simp only [zq]
         refine tkA (i := 8) (v := undef) rfl (Or.inr ⟨by rfl, rfl⟩) hHeld ?_
         simp only [zq]
         refine tkA (i := 9) (v := undef) rfl (Or.inr ⟨by rfl, rfl⟩) hHeld ?_
         simp only [zq]
         refine tkA (i := 10) (v := undef) rfl (Or.inr ⟨by rfl, rfl⟩) hHeld ?_
         simp only [zq]
         refine tkA (i := 11) (v := undef) rfl (Or.inr ⟨by rfl, rfl⟩) hHeld ?_
         simp only [zq]
         refine tkA (i := 12) (v := undef) rfl (Or.inr ⟨by rfl, rfl⟩) hHeld ?_
         simp only [zq]
         refine tkA (i := 13) (v := undef) rfl (Or.inr ⟨by rfl, rfl⟩) hHeld ?_
         simp only [zq]
         refine tkA (i := 14) (v := undef) rfl (Or.inr ⟨by rfl, rfl⟩) hHeld ?_
         simp only [zq]
         refine tkA (i := 15) (v := undef) rfl (Or.inr ⟨by rfl, rfl⟩) hHeld ?_
         simp only [zq]
         refine tkA (i := 16) (v := undef) rfl (Or.inr ⟨by rfl, rfl⟩) hHeld ?_
         simp only [zq]
         refine tkA (i := 17) (v := undef) rfl (Or.inr ⟨by rfl, rfl⟩) hHeld ?_
         simp only [zq]
         refine tkA (i := 18) (v := undef) rfl (Or.inr ⟨by rfl, rfl⟩) hHeld ?_
         simp only [zq]
         refine tkB (i := 19) (v := .bool false) rfl hHeld ?_
         simp only [zq]
         refine wpAnyH_done (by kernel_rfl) ?_ _
         clear hHeld
         have HMc := Lib.hid (HMd.out.keep (belowDrew1 c54 |>.mono HMd.out.2.2.2.2.1))
         have HOc := Lib.hid (own_keep HO.out (belowDrew1 c54))
         clear HMd HO
         generalize c54.drew = c55 at *
         go_upto_region 13 with fail
         refine wp_region_held_drew (S := fun x => MC H na ma (some ⟨g2, o2, none⟩) ma2 nc mc nc2 mc2 i n2 m1 m2 sz qu sz2 qu2 ag ag2 x ∧ x.cell? ⟨g2, o2 + k * 2, none⟩ = some (.string xs) ∧ x.cell? ⟨g2, o2 + k * 2 + 1, none⟩ = some (.int .i64 xi)) (by kernel_rfl) (⟨(HMc.out.keep (belowDrew1 c55 |>.mono HMc.out.2.2.2.2.1)).cells, HEL.out _ ⟨_, _, _, _, _, HMc.out.keep (belowDrew1 c55 |>.mono HMc.out.2.2.2.2.1)⟩⟩) (fun hHeld => ?_)
         refine tkB (i := 0) (v := .pointer (some ⟨H + 1 + 1 + 1, 0, none⟩)) rfl hHeld ?_
         simp only [zq]
         refine tkB (i := 2) (v := .pointer (some ⟨H + 1, 0, none⟩)) rfl hHeld ?_
         simp only [zq]
         refine tkA (i := 3) (v := .slice (some ⟨g2, o2, none⟩) n2 nc2) rfl (Or.inl ⟨by rfl, fun w hw => by obtain ⟨⟨⟨s0, s1, s2, s3, s4⟩, t0, t1, t2, t3, t4⟩, e0, e1⟩ := hw; go_simp⟩) hHeld ?_
         simp only [zq]
         refine tkB (i := 4) (v := .int .i64 (k : Int)) rfl hHeld ?_
         simp only [zq]
         refine tkB (i := 5) (v := .pointer (some ⟨g2, o2 + k * 2, none⟩)) rfl hHeld ?_
         simp only [zq]
         refine tkA (i := 6) (v := .agg #[.string xs, .int .i64 xi]) rfl (Or.inl ⟨by rfl, fun w hw => by obtain ⟨⟨⟨s0, s1, s2, s3, s4⟩, t0, t1, t2, t3, t4⟩, e0, e1⟩ := hw; go_simp⟩) hHeld ?_
         simp only [zq]
         have HMa := Lib.hid (HMc.out.keep (belowDrew1 c55 |>.mono HMc.out.2.2.2.2.1))
         have HOa := Lib.hid (own_keep HOc.out (belowDrew1 c55))
         generalize c55.drew = z58 at *
         refine wpAnyH_ready (rs := [1, 7]) (by kernel_rfl) (by simp) ?_
         refine AllReadyH.cons (o := _) rfl (fun K hK => ?_) (AllReadyH.cons (o := _) rfl (fun K hK => ?_) AllReadyH.nil)
         · obtain ⟨m0, m1', m2', m3, m4, mf⟩ := HMa.out.wish
           go_simp
           refine hK _ _ ⟨(HMa.out).cells, HEL.out _ ⟨_, _, _, _, _, HMa.out⟩⟩ (fun hHeld => ?_)
           clear hK K m0 m1' m2' m3 m4 mf
           refine wpAnyH_ready (rs := [7]) (by kernel_rfl) (by simp) ?_
           refine AllReadyH.cons (o := _) rfl (fun K hK => ?_) AllReadyH.nil
           go_simp
           have b : Below z58.heap.size z58 (z58.alloc (.cells #[.string xs, .int .i64 xi] 46)) := (Below.refl _ _).alloc (Nat.le_refl _) _
           have HMb := Lib.hid (HMa.out.keep (b.mono HMa.out.2.2.2.2.1))
           have HOb := Lib.hid (own_keep HOa.out b)
           have HV : Hid ((z58.alloc (.cells #[.string xs, .int .i64 xi] 46)).heap[z58.heap.size]? = some (.cells (nsC [(xs, xi)]).toArray 46 (0, 0))) := heap_new _ _
           clear b
           refine hK _ _ ⟨(HMb.out).cells, HEL.out _ ⟨_, _, _, _, _, HMb.out⟩⟩ (fun hHeld => ?_)
           clear hK K
           generalize z58.alloc (.cells #[.string xs, .int .i64 xi] 46) = v56 at *
           generalize z58.heap.size = vb at *
           refine wpAnyH_ready (rs := [8]) (by kernel_rfl) (by simp) ?_
           refine AllReadyH.cons (o := _) rfl (fun K hK => ?_) AllReadyH.nil
           rw [if_pos (show Region.wanted _ _ = true by kernel_rfl)]
           refine wp_append_gen _ _ 32 rfl (H + 4) 46 i0 _ 2 24 Try.underlying32 hi0 hz0 hz1 hz2 rfl (by omega) (.slice la al lc) al (nsC acc) rfl (by exact HOb.out) (some ⟨vb, 0, none⟩) 1 1 (nsC [(xs, xi)]) rfl rfl (fun h => by cases h) (fun ad had => by cases had; exact World.news_of_block HV.out) (nsC_one _) (by unfold maxLen; omega) (by omega) (by have := HMb.out.2.2.2.2.1; exact this) ?_
           intro a9 c9 w4 hown4 hgrow
           have HB4 : Hid (Below (H + 4) v56 w4) := (Below.refl _ _).grown hgrow HMb.out.2.2.2.2.1 (fun k hk => (World.ownsRow.lt HOb.out k hk).1)
           have HM4 := Lib.hid (HMb.out.keep HB4.out)
           have HM5 : Hid (MR H w (w4.setCell ⟨H + 1 + 1 + 1, 0, none⟩ (.slice a9 (al + 1) c9)) na ma (some ⟨g2, o2, none⟩) ma2 nc mc nc2 mc2 i n2 m1 m2 sz qu sz2 qu2 ag ag2 (.slice a9 (al + 1) c9) 0 0 ⟨#[]⟩ (.slice none 0 0)) := HM4.out.set 0 _ rfl
           have HO5 : Hid ((w4.setCell ⟨H + 1 + 1 + 1, 0, none⟩ (.slice a9 (al + 1) c9)).ownsRow (H + 4) 46 2 (.slice a9 (al + 1) c9) (al + 1) (nsC acc ++ nsC [(xs, xi)])) := hown4.kept (grown_setCell _ _ _) (owns_ne hown4 (by show H + 1 + 1 + 1 < _; omega))
           clear HMa HOa HMb HOb hown4 hgrow HB4
           simp only [zq]
           refine hK _ _ ⟨(HM4.out).cells, HEL.out _ ⟨_, _, _, _, _, HM4.out⟩⟩ (fun hHeld => ?_)
           clear hK K
           refine tkB (i := 9) (v := .pointer (some ⟨H + 1 + 1 + 1, 0, none⟩)) rfl hHeld ?_
           simp only [zq]
           refine wpAnyH_ready (rs := [10]) (by kernel_rfl) (by simp) ?_
           refine AllReadyH.cons (o := _) rfl (fun K hK => ?_) AllReadyH.nil
           obtain ⟨m0, m1', m2', m3, m4, mf⟩ := HM4.out.wish
           have mf0 := mf 0
           clear mf
           go_simp
           refine hK _ _ ⟨(HM5.out).cells, HEL.out _ ⟨_, _, _, _, _, HM5.out⟩⟩ (fun hHeld => ?_)
           clear hK K m0 m1' m2' m3 m4 mf0 HM4
           refine wpAnyH_done (by kernel_rfl) ?_ _
           clear hHeld
           generalize w4.setCell ⟨H + 1 + 1 + 1, 0, none⟩ (.slice a9 (al + 1) c9) = w5 at *
           have HNX : Hid (STN H w w5 na ma (some ⟨g2, o2, none⟩) ma2 nc mc nc2 mc2 i n2 m1 m2 sz qu sz2 qu2 ag ag2  ns ns2  i (k + 1) (.slice a9 (al + 1) c9)) := by
            refine ⟨HM5.out, acc ++ [(xs, xi)], by rw [List.length_append, HAL.out, nsC_app]; exact HO5.out, ?_, ?_⟩
            · have h9 := HMG.out
              rw [HDL.out] at h9
              rw [← h9, List.append_assoc]
              exact congrArg (acc ++ ·) (show _ = _ from (show mgN (ns.drop i) ((xs, xi) :: ns2.drop (k + 1)) = (xs, xi) :: mgN (ns.drop i) (ns2.drop (k + 1)) from by rw [mgN, mgN, List.drop_eq_nil_of_le (by have := HL.out; omega), mg_none, mg_none]).symm)
            · rw [List.length_append, HAL.out]; have h8 := HLN.out; simp; omega
           clear HM5 HO5
           go_wp2
           exact ⟨⟨i, k + 1, _, by omega, by omega, by go_num, by go_num, HNX.out⟩, by simp [intOf]; omega⟩
         · go_simp
           have b : Below z58.heap.size z58 (z58.alloc (.cells #[.string xs, .int .i64 xi] 46)) := (Below.refl _ _).alloc (Nat.le_refl _) _
           have HMb := Lib.hid (HMa.out.keep (b.mono HMa.out.2.2.2.2.1))
           have HOb := Lib.hid (own_keep HOa.out b)
           have HV : Hid ((z58.alloc (.cells #[.string xs, .int .i64 xi] 46)).heap[z58.heap.size]? = some (.cells (nsC [(xs, xi)]).toArray 46 (0, 0))) := heap_new _ _
           clear b
           refine hK _ _ ⟨(HMb.out).cells, HEL.out _ ⟨_, _, _, _, _, HMb.out⟩⟩ (fun hHeld => ?_)
           clear hK K
           generalize z58.alloc (.cells #[.string xs, .int .i64 xi] 46) = v57 at *
           generalize z58.heap.size = vb at *
           refine wpAnyH_ready (rs := [1]) (by kernel_rfl) (by simp) ?_
           refine AllReadyH.cons (o := _) rfl (fun K hK => ?_) AllReadyH.nil
           obtain ⟨m0, m1', m2', m3, m4, mf⟩ := HMb.out.wish
           go_simp
           refine hK _ _ ⟨(HMb.out).cells, HEL.out _ ⟨_, _, _, _, _, HMb.out⟩⟩ (fun hHeld => ?_)
           clear hK K m0 m1' m2' m3 m4 mf
           refine wpAnyH_ready (rs := [8]) (by kernel_rfl) (by simp) ?_
           refine AllReadyH.cons (o := _) rfl (fun K hK => ?_) AllReadyH.nil
           rw [if_pos (show Region.wanted _ _ = true by kernel_rfl)]
           refine wp_append_gen _ _ 32 rfl (H + 4) 46 i0 _ 2 24 Try.underlying32 hi0 hz0 hz1 hz2 rfl (by omega) (.slice la al lc) al (nsC acc) rfl (by exact HOb.out) (some ⟨vb, 0, none⟩) 1 1 (nsC [(xs, xi)]) rfl rfl (fun h => by cases h) (fun ad had => by cases had; exact World.news_of_block HV.out) (nsC_one _) (by unfold maxLen; omega) (by omega) (by have := HMb.out.2.2.2.2.1; exact this) ?_
           intro a9 c9 w4 hown4 hgrow
           have HB4 : Hid (Below (H + 4) v57 w4) := (Below.refl _ _).grown hgrow HMb.out.2.2.2.2.1 (fun k hk => (World.ownsRow.lt HOb.out k hk).1)
           have HM4 := Lib.hid (HMb.out.keep HB4.out)
           have HM5 : Hid (MR H w (w4.setCell ⟨H + 1 + 1 + 1, 0, none⟩ (.slice a9 (al + 1) c9)) na ma (some ⟨g2, o2, none⟩) ma2 nc mc nc2 mc2 i n2 m1 m2 sz qu sz2 qu2 ag ag2 (.slice a9 (al + 1) c9) 0 0 ⟨#[]⟩ (.slice none 0 0)) := HM4.out.set 0 _ rfl
           have HO5 : Hid ((w4.setCell ⟨H + 1 + 1 + 1, 0, none⟩ (.slice a9 (al + 1) c9)).ownsRow (H + 4) 46 2 (.slice a9 (al + 1) c9) (al + 1) (nsC acc ++ nsC [(xs, xi)])) := hown4.kept (grown_setCell _ _ _) (owns_ne hown4 (by show H + 1 + 1 + 1 < _; omega))
           clear HMa HOa HMb HOb hown4 hgrow HB4
           simp only [zq]
           refine hK _ _ ⟨(HM4.out).cells, HEL.out _ ⟨_, _, _, _, _, HM4.out⟩⟩ (fun hHeld => ?_)
           clear hK K
           refine tkB (i := 9) (v := .pointer (some ⟨H + 1 + 1 + 1, 0, none⟩)) rfl hHeld ?_
           simp only [zq]
           refine wpAnyH_ready (rs := [10]) (by kernel_rfl) (by simp) ?_
           refine AllReadyH.cons (o := _) rfl (fun K hK => ?_) AllReadyH.nil
           obtain ⟨m0, m1', m2', m3, m4, mf⟩ := HM4.out.wish
           have mf0 := mf 0
           clear mf
           go_simp
           refine hK _ _ ⟨(HM5.out).cells, HEL.out _ ⟨_, _, _, _, _, HM5.out⟩⟩ (fun hHeld => ?_)
           clear hK K m0 m1' m2' m3 m4 mf0 HM4
           refine wpAnyH_done (by kernel_rfl) ?_ _
           clear hHeld
           generalize w4.setCell ⟨H + 1 + 1 + 1, 0, none⟩ (.slice a9 (al + 1) c9) = w5 at *
           have HNX : Hid (STN H w w5 na ma (some ⟨g2, o2, none⟩) ma2 nc mc nc2 mc2 i n2 m1 m2 sz qu sz2 qu2 ag ag2  ns ns2  i (k + 1) (.slice a9 (al + 1) c9)) := by
            refine ⟨HM5.out, acc ++ [(xs, xi)], by rw [List.length_append, HAL.out, nsC_app]; exact HO5.out, ?_, ?_⟩
            · have h9 := HMG.out
              rw [HDL.out] at h9
              rw [← h9, List.append_assoc]
              exact congrArg (acc ++ ·) (show _ = _ from (show mgN (ns.drop i) ((xs, xi) :: ns2.drop (k + 1)) = (xs, xi) :: mgN (ns.drop i) (ns2.drop (k + 1)) from by rw [mgN, mgN, List.drop_eq_nil_of_le (by have := HL.out; omega), mg_none, mg_none]).symm)
            · rw [List.length_append, HAL.out]; have h8 := HLN.out; simp; omega
           clear HM5 HO5
           go_wp2
           exact ⟨⟨i, k + 1, _, by omega, by omega, by go_num, by go_num, HNX.out⟩, by simp [intOf]; omega⟩
    · obtain rfl : n2 = k := by omega
      obtain ⟨hmr, acc, hown, hmg, hlen⟩ := HI.out
      obtain ⟨la, lc, rfl⟩ := ownForm hown
      have HF : Hid (acc ++ ns.drop i = mgN ns ns2) := by
       rw [show ns2.drop n2 = [] from List.drop_eq_nil_of_le (by have := HL.out; omega), show mgN (ns.drop i) [] = ns.drop i from mg_nil _ _ _] at hmg
       exact hmg
      have HM := Lib.hid hmr
      have HO := Lib.hid hown
      clear HI hmr hown hmg
      generalize hal : acc.length = al at *
      have HAL := Lib.hid hal
      clear hal
      have hcp := HC.out.1 _ _ _ rfl
      have hsm := HSM.out.2.2
      have HONE : Hid (∀ u ∈ nsC (ns.drop i), u.oneCell' = true) := nsC_one _
      go_upto_region 14 with fail
      clear x0 x1 x2 x3 x4 y0 y1 y2 y3 y4
      refine share_reg (fun OPS QQ hO hQ => ?_)
      have HEND0 : Hid (∀ (t : Nat → Value) (x : World) (a9 : Option Addr) (c9 : Nat), Hid (MR H w x na ma na2 ma2 nc mc nc2 mc2 n1 n2 m1 m2 sz qu sz2 qu2 ag ag2 (.slice a9 (mgN ns ns2).length c9) 0 0 ⟨#[]⟩ (.slice none 0 0) ∧ x.ownsRow (H + 4) 46 2 (.slice a9 (mgN ns ns2).length c9) (mgN ns ns2).length (nsC (mgN ns ns2))) → QQ .normal { tmps := #[.agg #[.slice na n1 nc, .int .i64 sz, .int .i64 qu, .string ag, .slice ma m1 mc], .agg #[.slice na2 n2 nc2, .int .i64 sz2, .int .i64 qu2, .string ag2, .slice ma2 m2 mc2], .pointer (some ⟨H, 0, none⟩), .pointer (some ⟨H + 1, 0, none⟩), .pointer (some ⟨H + 1 + 1, 0, none⟩), .pointer (some ⟨H + 1 + 1 + 1, 0, none⟩), t 6, t 7, t 8, t 9, t 10, t 11, t 12, t 13, t 14, t 15, t 16, t 17, t 18, t 19, t 20, t 21, t 22, t 23, t 24, t 25, t 26, t 27, t 28, t 29, t 30, t 31, t 32, t 33, t 34, t 35, t 36, t 37, t 38, t 39, t 40, t 41, t 42, t 43, t 44, t 45, t 46, t 47, t 48, t 49, t 50, t 51, t 52, t 53, t 54, t 55, t 56, t 57, t 58, t 59, t 60, t 61, t 62, t 63, t 64, t 65, t 66, t 67, t 68, t 69, t 70, t 71, t 72, t 73, t 74, t 75, t 76, t 77, t 78, t 79, t 80, t 81, t 82, t 83, t 84, t 85, t 86, t 87, t 88, t 89, t 90, t 91, t 92, t 93, t 94, t 95, t 96, t 97, t 98, t 99, t 100, t 101, t 102, t 103, t 104, t 105, t 106, t 107, t 108, t 109, t 110, t 111, t 112, t 113, t 114, t 115, t 116, t 117, t 118, t 119, t 120, t 121, t 122, t 123, t 124, t 125, t 126, t 127, t 128, t 129, t 130, t 131, t 132, t 133, t 134, t 135, t 136, t 137, t 138, t 139, t 140, t 141, t 142, t 143, t 144, t 145, t 146, t 147, t 148, t 149, t 150, t 151, t 152, t 153, t 154, t 155, t 156, t 157, t 158, t 159, t 160, t 161, t 162, t 163, t 164, t 165, t 166, t 167, t 168, t 169, t 170, t 171, t 172, t 173, t 174, t 175, t 176, t 177, t 178, t 179, t 180, t 181, t 182, t 183, t 184, t 185, t 186, t 187, t 188, t 189, t 190, t 191, t 192, t 193, t 194, t 195, t 196, t 197, t 198, t 199, t 200, t 201, t 202, t 203, t 204, t 205, t 206, t 207], defers := [] } x) := by
       intro t x a9 c9 HF2
       subst hQ
       clear hO HO HM HF HAL HONE hcp hsm la lc HX1 HX2
       have HO9 := Lib.hid HF2.out.2
       have HM9 := Lib.hid HF2.out.1
       clear HF2
       clear hi0 hz0 hz1 hz2
       obtain ⟨i0, hi0, hz0, hz1, hz2⟩ := info_parts info59s
       generalize Value.slice a9 (mgN ns ns2).length c9 = nlF at *
       have HOT0 : Hid (OTH H x.heap.size nlF ns ns2 x) := ⟨HO9.out, fun g hg => (World.ownsRow.lt HO9.out g hg).2, Nat.le_refl _, HM9.out.2.2.2.2.1⟩
       generalize hb2 : x.heap.size = B2 at HOT0
       clear hb2
       have HB2 : Hid (H + 4 ≤ B2 ∧ ∀ y, OTH H B2 nlF ns ns2 y → B2 ≤ y.heap.size) := ⟨HOT0.out.2.2.2, fun y h => h.2.2.1⟩
       have HSP : Hid (STP H w x na ma na2 ma2 nc mc nc2 mc2 n1 n2 m1 m2 sz qu sz2 qu2 ag ag2 B2 nlF ns ns2 es es2 0 0 (.slice none 0 0)) := ⟨HM9.out, HOT0.out, [], World.ownsRow_nil _ _ _ _, rfl, by simp⟩
       clear HO9 HM9 HOT0
       go_wp2_with fail
       go_loopw [6, 8] (fun ti tk wr => ∃ (i k : Nat) (l : Value), i ≤ m1 ∧ k ≤ m2 ∧ ti = .int .i64 i ∧ tk = .int .i64 k ∧ Hid (STP H w wr na ma na2 ma2 nc mc nc2 mc2 n1 n2 m1 m2 sz qu sz2 qu2 ag ag2 B2 nlF ns ns2 es es2 i k l)) (fun _ tk _ => m2 - (intOf tk).toNat)
       case atStart => exact ⟨0, 0, _, Nat.zero_le _, Nat.zero_le _, rfl, rfl, HSP.out⟩
       case round =>
        obtain ⟨i, k, l, hi, hk, rfl, rfl, HI⟩ := hrel
        obtain ⟨⟨x0, x1, x2, x3, x4⟩, y0, y1, y2, y3, y4⟩ := HI.out.1.cells
        by_cases hlt : k < m2
        · obtain ⟨x, hx⟩ : ∃ x, es2[k]? = some x := ⟨_, List.getElem?_eq_getElem (by have := HL.out; omega)⟩
          obtain ⟨g2, o2, had2, hg2, hcc⟩ := HY2.out.resolve_left (fun e => by rw [e] at hx; simp at hx)
          obtain ⟨xs, xt, xx, xy⟩ := x
          obtain ⟨hrv, hc6⟩ := hcc k _ hx
          obtain ⟨⟨xa2, xn2, xc2, hex⟩, ⟨ya2, yn2, yc2, hey⟩⟩ := hrv.slices
          simp only at hex hey
          subst hex hey
          have HEL : Hid (∀ x' nl a b c pl, MR H w x' na ma na2 ma2 nc mc nc2 mc2 n1 n2 m1 m2 sz qu sz2 qu2 ag ag2 nl a b c pl → x'.cell? ⟨g2, o2 + k * 6, none⟩ = some (.string xs) ∧ x'.cell? ⟨g2, o2 + k * 6 + 1, none⟩ = some (.int .i64 xt.k) ∧ x'.cell? ⟨g2, o2 + k * 6 + 2, none⟩ = some (.int .i64 xt.n) ∧ x'.cell? ⟨g2, o2 + k * 6 + 3, none⟩ = some (.string xt.s) ∧ x'.cell? ⟨g2, o2 + k * 6 + 4, none⟩ = some (.slice xa2 xn2 xc2) ∧ x'.cell? ⟨g2, o2 + k * 6 + 5, none⟩ = some (.slice ya2 yn2 yc2)) := fun x' nl a b c pl hm => by
           have cw : ∀ r v, r < 6 → (gC (⟨xs, xt, .slice xa2 xn2 xc2, .slice ya2 yn2 yc2⟩ : PE))[r]? = some v → x'.cell? ⟨g2, o2 + k * 6 + r, none⟩ = some v := fun r v hr hv => Below.cellS hm.2.2.2.2.2 (Nat.le_of_eq HS.out) ((hc6 r hr).trans hv)
           exact ⟨cw 0 _ (by omega) rfl, cw 1 _ (by omega) rfl, cw 2 _ (by omega) rfl, cw 3 _ (by omega) rfl, cw 4 _ (by omega) rfl, cw 5 _ (by omega) rfl⟩
          clear hrv hc6
          have HCL : Hid (∀ x', (∃ nl a b c pl, MR H w x' na ma na2 ma2 nc mc nc2 mc2 n1 n2 m1 m2 sz qu sz2 qu2 ag ag2 nl a b c pl) → x'.cell? ⟨g2, o2 + k * 6, none⟩ = some (.string xs)) := fun x' ⟨nl, a, b, c, pl, hm⟩ => (HEL.out x' nl a b c pl hm).1
          have HDL : Hid (es2.drop k = (⟨xs, xt, .slice xa2 xn2 xc2, .slice ya2 yn2 yc2⟩ : PE) :: es2.drop (k + 1)) := drop_at hx
          have HEL2 : Hid (∀ x', (∃ nl a b c pl, MR H w x' na ma na2 ma2 nc mc nc2 mc2 n1 n2 m1 m2 sz qu sz2 qu2 ag ag2 nl a b c pl) → x'.cell? ⟨g2, o2 + k * 6, none⟩ = some (.string xs) ∧ x'.cell? ⟨g2, o2 + k * 6 + 1, none⟩ = some (.int .i64 xt.k) ∧ x'.cell? ⟨g2, o2 + k * 6 + 2, none⟩ = some (.int .i64 xt.n) ∧ x'.cell? ⟨g2, o2 + k * 6 + 3, none⟩ = some (.string xt.s) ∧ x'.cell? ⟨g2, o2 + k * 6 + 4, none⟩ = some (.slice xa2 xn2 xc2) ∧ x'.cell? ⟨g2, o2 + k * 6 + 5, none⟩ = some (.slice ya2 yn2 yc2)) := fun x' ⟨nl, a, b, c, pl, hm⟩ => HEL.out x' nl a b c pl hm
          clear HEL
          have HEL := HEL2
          clear HEL2 hcc hx hg2
          subst had2
          go_wp2_with fail
          have HI0 := Lib.hid HI.out
          clear HI x0 x1 x2 x3 x4 y0 y1 y2 y3 y4
          go_loopw [6] (fun ti wq => ∃ (i : Nat) (l : Value), i ≤ m1 ∧ ti = .int .i64 i ∧ Hid (STP H w wq na ma na2 (some ⟨g2, o2, none⟩) nc mc nc2 mc2 n1 n2 m1 m2 sz qu sz2 qu2 ag ag2 B2 nlF ns ns2 es es2 i k l)) (fun ti _ => m1 - (intOf ti).toNat)
          case atStart => exact ⟨i, l, hi, rfl, HI0.out⟩
          case round =>
           clear HI0
           obtain ⟨i, l, hi, rfl, HI⟩ := hrel
           obtain ⟨hmr, hot, acc, hown, hmg, hlen⟩ := HI.out
           obtain ⟨la, lc, rfl⟩ := ownForm hown
           have HM := Lib.hid hmr
           have HO := Lib.hid hown
           have HMG := Lib.hid hmg
           have HLN := Lib.hid hlen
           have HOT := Lib.hid hot
           clear hot
           clear HI hmr hown hmg hlen
           generalize hal : acc.length = al at *
           have HAL := Lib.hid hal
           clear hal
           have hln := HLN.out
           by_cases hlo : i < m1
           · obtain ⟨y, hy⟩ : ∃ y, es[i]? = some y := ⟨_, List.getElem?_eq_getElem (by have := HL.out; omega)⟩
             obtain ⟨g, o, had, hg, hcc⟩ := HY1.out.resolve_left (fun e => by rw [e] at hy; simp at hy)
             obtain ⟨ys, yt, yx, yy⟩ := y
             obtain ⟨hrv, hc6⟩ := hcc i _ hy
             obtain ⟨⟨xa, xn, xc, hex⟩, ⟨ya, yn, yc, hey⟩⟩ := hrv.slices
             simp only at hex hey
             subst hex hey
             have HEO : Hid (∀ x', (∃ nl a b c pl, MR H w x' na ma na2 (some ⟨g2, o2, none⟩) nc mc nc2 mc2 n1 n2 m1 m2 sz qu sz2 qu2 ag ag2 nl a b c pl) → x'.cell? ⟨g, o + i * 6, none⟩ = some (.string ys) ∧ x'.cell? ⟨g, o + i * 6 + 1, none⟩ = some (.int .i64 yt.k) ∧ x'.cell? ⟨g, o + i * 6 + 2, none⟩ = some (.int .i64 yt.n) ∧ x'.cell? ⟨g, o + i * 6 + 3, none⟩ = some (.string yt.s) ∧ x'.cell? ⟨g, o + i * 6 + 4, none⟩ = some (.slice xa xn xc) ∧ x'.cell? ⟨g, o + i * 6 + 5, none⟩ = some (.slice ya yn yc)) := fun x' ⟨nl, a, b, c, pl, hm⟩ => by
              have cw : ∀ r v, r < 6 → (gC (⟨ys, yt, .slice xa xn xc, .slice ya yn yc⟩ : PE))[r]? = some v → x'.cell? ⟨g, o + i * 6 + r, none⟩ = some v := fun r v hr hv => Below.cellS hm.2.2.2.2.2 (Nat.le_of_eq HS.out) ((hc6 r hr).trans hv)
              exact ⟨cw 0 _ (by omega) rfl, cw 1 _ (by omega) rfl, cw 2 _ (by omega) rfl, cw 3 _ (by omega) rfl, cw 4 _ (by omega) rfl, cw 5 _ (by omega) rfl⟩
             clear hrv hc6
             have HCO : Hid (∀ x', (∃ nl a b c pl, MR H w x' na ma na2 (some ⟨g2, o2, none⟩) nc mc nc2 mc2 n1 n2 m1 m2 sz qu sz2 qu2 ag ag2 nl a b c pl) → x'.cell? ⟨g, o + i * 6, none⟩ = some (.string ys)) := fun x' h => (HEO.out x' h).1
             have HDO : Hid (es.drop i = (⟨ys, yt, .slice xa xn xc, .slice ya yn yc⟩ : PE) :: es.drop (i + 1)) := drop_at hy
             clear hcc hy hg
             subst had
             cases hll : Op.bytesLess ys.toList xs.toList with
             | true =>
              have HLT : Hid (ltP (⟨ys, yt, .slice xa xn xc, .slice ya yn yc⟩ : PE) (⟨xs, xt, .slice xa2 xn2 xc2, .slice ya2 yn2 yc2⟩ : PE) = true) := hll
              go_upto_region 19 with fail
              refine wp_region_held_drew (S := fun x => MC H na (some ⟨g, o, none⟩) na2 (some ⟨g2, o2, none⟩) nc mc nc2 mc2 n1 n2 m1 m2 sz qu sz2 qu2 ag ag2 x ∧ x.cell? ⟨g, o + i * 6, none⟩ = some (.string ys) ∧ x.cell? ⟨g2, o2 + k * 6, none⟩ = some (.string xs)) (by kernel_rfl) (⟨(HM.out.keep (belowDrew1 wr |>.mono HM.out.2.2.2.2.1)).cells, HCO.out _ ⟨_, _, _, _, _, HM.out.keep (belowDrew1 wr |>.mono HM.out.2.2.2.2.1)⟩, HCL.out _ ⟨_, _, _, _, _, HM.out.keep (belowDrew1 wr |>.mono HM.out.2.2.2.2.1)⟩⟩) (fun hHeld => ?_)
              refine tkB (i := 0) (v := .int .i64 (i : Int)) rfl hHeld ?_
              simp only [zq]
              refine tkB (i := 1) (v := .pointer (some ⟨H, 4, none⟩)) rfl hHeld ?_
              simp only [zq]
              refine tkA (i := 2) (v := .slice (some ⟨g, o, none⟩) m1 mc) rfl (Or.inl ⟨by rfl, fun w hw => by obtain ⟨⟨⟨s0, s1, s2, s3, s4⟩, t0, t1, t2, t3, t4⟩, e0, e1⟩ := hw; go_simp⟩) hHeld ?_
              simp only [zq]
              refine tkB (i := 3) (v := .int .i64 (m1 : Int)) rfl hHeld ?_
              simp only [zq]
              refine tkB (i := 4) (v := .bool true) rfl hHeld ?_
              simp only [zq]
              refine tkB (i := 5) (v := .bool true) rfl hHeld ?_
              simp only [zq]
              refine tkB (i := 6) (v := .pointer (some ⟨H, 4, none⟩)) rfl hHeld ?_
              simp only [zq]
              refine tkA (i := 7) (v := .slice (some ⟨g, o, none⟩) m1 mc) rfl (Or.inl ⟨by rfl, fun w hw => by obtain ⟨⟨⟨s0, s1, s2, s3, s4⟩, t0, t1, t2, t3, t4⟩, e0, e1⟩ := hw; go_simp⟩) hHeld ?_
              simp only [zq]
              refine tkB (i := 8) (v := .int .i64 (i : Int)) rfl hHeld ?_
              simp only [zq]
              refine tkB (i := 9) (v := .pointer (some ⟨g, o + i * 6, none⟩)) rfl hHeld ?_
              simp only [zq]
              refine tkB (i := 10) (v := .pointer (some ⟨g, o + i * 6, none⟩)) rfl hHeld ?_
              simp only [zq]
              refine tkA (i := 11) (v := .string ys) rfl (Or.inl ⟨by rfl, fun w hw => by obtain ⟨⟨⟨s0, s1, s2, s3, s4⟩, t0, t1, t2, t3, t4⟩, e0, e1⟩ := hw; go_simp⟩) hHeld ?_
              simp only [zq]
              refine tkB (i := 12) (v := .pointer (some ⟨H + 1, 4, none⟩)) rfl hHeld ?_
              simp only [zq]
              refine tkA (i := 13) (v := .slice (some ⟨g2, o2, none⟩) m2 mc2) rfl (Or.inl ⟨by rfl, fun w hw => by obtain ⟨⟨⟨s0, s1, s2, s3, s4⟩, t0, t1, t2, t3, t4⟩, e0, e1⟩ := hw; go_simp⟩) hHeld ?_
              simp only [zq]
              refine tkB (i := 14) (v := .int .i64 (k : Int)) rfl hHeld ?_
              simp only [zq]
              refine tkB (i := 15) (v := .pointer (some ⟨g2, o2 + k * 6, none⟩)) rfl hHeld ?_
              simp only [zq]
              refine tkB (i := 16) (v := .pointer (some ⟨g2, o2 + k * 6, none⟩)) rfl hHeld ?_
              simp only [zq]
              refine tkA (i := 17) (v := .string xs) rfl (Or.inl ⟨by rfl, fun w hw => by obtain ⟨⟨⟨s0, s1, s2, s3, s4⟩, t0, t1, t2, t3, t4⟩, e0, e1⟩ := hw; go_simp⟩) hHeld ?_
              simp only [zq]
              refine tkB (i := 18) (v := .bool true) rfl hHeld ?_
              simp only [zq]
              refine tkB (i := 19) (v := .bool true) rfl hHeld ?_
              simp only [zq]
              refine wpAnyH_done (by kernel_rfl) ?_ _
              clear hHeld
              have HMc := Lib.hid (HM.out.keep (belowDrew1 wr |>.mono HM.out.2.2.2.2.1))
              have HOc := Lib.hid (own_keep HO.out (belowDrew1 wr))
              have HOT2 := Lib.hid (HOT.out.keep (belowDrew1 wr))
              clear HOT
              have HOT := HOT2
              clear HOT2
              clear HM HO hll
              generalize wr.drew = c18 at *
              go_upto_region 20 with fail
              refine wp_region_held_drew (S := fun x => MC H na (some ⟨g, o, none⟩) na2 (some ⟨g2, o2, none⟩) nc mc nc2 mc2 n1 n2 m1 m2 sz qu sz2 qu2 ag ag2 x ∧ x.cell? ⟨g, o + i * 6, none⟩ = some (.string ys) ∧ x.cell? ⟨g, o + i * 6 + 1, none⟩ = some (.int .i64 yt.k) ∧ x.cell? ⟨g, o + i * 6 + 2, none⟩ = some (.int .i64 yt.n) ∧ x.cell? ⟨g, o + i * 6 + 3, none⟩ = some (.string yt.s) ∧ x.cell? ⟨g, o + i * 6 + 4, none⟩ = some (.slice xa xn xc) ∧ x.cell? ⟨g, o + i * 6 + 5, none⟩ = some (.slice ya yn yc)) (by kernel_rfl) (⟨(HMc.out.keep (belowDrew1 c18 |>.mono HMc.out.2.2.2.2.1)).cells, HEO.out _ ⟨_, _, _, _, _, HMc.out.keep (belowDrew1 c18 |>.mono HMc.out.2.2.2.2.1)⟩⟩) (fun hHeld => ?_)
              refine tkB (i := 0) (v := .pointer (some ⟨H + 1 + 1 + 1, 4, none⟩)) rfl hHeld ?_
              simp only [zq]
              refine tkB (i := 2) (v := .pointer (some ⟨H, 4, none⟩)) rfl hHeld ?_
              simp only [zq]
              refine tkA (i := 3) (v := .slice (some ⟨g, o, none⟩) m1 mc) rfl (Or.inl ⟨by rfl, fun w hw => by obtain ⟨⟨⟨s0, s1, s2, s3, s4⟩, t0, t1, t2, t3, t4⟩, e0, e1, e2, e3, e4, e5⟩ := hw; go_simp⟩) hHeld ?_
              simp only [zq]
              refine tkB (i := 4) (v := .int .i64 (i : Int)) rfl hHeld ?_
              simp only [zq]
              refine tkB (i := 5) (v := .pointer (some ⟨g, o + i * 6, none⟩)) rfl hHeld ?_
              simp only [zq]
              refine tkA (i := 6) (v := .agg #[.string ys, .int .i64 yt.k, .int .i64 yt.n, .string yt.s, .slice xa xn xc, .slice ya yn yc]) rfl (Or.inl ⟨by rfl, fun w hw => by obtain ⟨⟨⟨s0, s1, s2, s3, s4⟩, t0, t1, t2, t3, t4⟩, e0, e1, e2, e3, e4, e5⟩ := hw; go_simp⟩) hHeld ?_
              simp only [zq]
              have HMa := Lib.hid (HMc.out.keep (belowDrew1 c18 |>.mono HMc.out.2.2.2.2.1))
              have HOa := Lib.hid (own_keep HOc.out (belowDrew1 c18))
              have HOT2 := Lib.hid (HOT.out.keep (belowDrew1 c18))
              clear HOT
              have HOT := HOT2
              clear HOT2
              generalize c18.drew = z21 at *
              refine wpAnyH_ready (rs := [1, 7]) (by kernel_rfl) (by simp) ?_
              refine AllReadyH.cons (o := _) rfl (fun K hK => ?_) (AllReadyH.cons (o := _) rfl (fun K hK => ?_) AllReadyH.nil)
              · obtain ⟨m0, m1', m2', m3, m4, mf⟩ := HMa.out.wish
                go_simp
                refine hK _ _ ⟨(HMa.out).cells, HEO.out _ ⟨_, _, _, _, _, HMa.out⟩⟩ (fun hHeld => ?_)
                clear hK K m0 m1' m2' m3 m4 mf
                refine wpAnyH_ready (rs := [7]) (by kernel_rfl) (by simp) ?_
                refine AllReadyH.cons (o := _) rfl (fun K hK => ?_) AllReadyH.nil
                have HOT2 : Hid (OTH H B2 nlF ns ns2 (z21.alloc (.cells #[.string ys, .int .i64 yt.k, .int .i64 yt.n, .string yt.s, .slice xa xn xc, .slice ya yn yc] 59))) := HOT.out.keep ((Below.refl _ _).alloc (Nat.le_refl _) _)
                clear HOT
                have HOT := HOT2
                clear HOT2
                go_simp
                have b : Below z21.heap.size z21 (z21.alloc (.cells #[.string ys, .int .i64 yt.k, .int .i64 yt.n, .string yt.s, .slice xa xn xc, .slice ya yn yc] 59)) := (Below.refl _ _).alloc (Nat.le_refl _) _
                have HMb := Lib.hid (HMa.out.keep (b.mono HMa.out.2.2.2.2.1))
                have HOb := Lib.hid (own_keep HOa.out b)
                have HV : Hid ((z21.alloc (.cells #[.string ys, .int .i64 yt.k, .int .i64 yt.n, .string yt.s, .slice xa xn xc, .slice ya yn yc] 59)).heap[z21.heap.size]? = some (.cells (gCs [(⟨ys, yt, .slice xa xn xc, .slice ya yn yc⟩ : PE)]).toArray 59 (0, 0))) := heap_new _ _
                clear b
                refine hK _ _ ⟨(HMb.out).cells, HEO.out _ ⟨_, _, _, _, _, HMb.out⟩⟩ (fun hHeld => ?_)
                clear hK K
                generalize z21.alloc (.cells #[.string ys, .int .i64 yt.k, .int .i64 yt.n, .string yt.s, .slice xa xn xc, .slice ya yn yc] 59) = v19 at *
                generalize z21.heap.size = vb at *
                refine wpAnyH_ready (rs := [8]) (by kernel_rfl) (by simp) ?_
                refine AllReadyH.cons (o := _) rfl (fun K hK => ?_) AllReadyH.nil
                rw [if_pos (show Region.wanted _ _ = true by kernel_rfl)]
                refine wp_append_gen _ _ 33 rfl (B2) 59 i0 _ 6 96 Try.underlying33 hi0 hz0 hz1 hz2 rfl (by omega) (.slice la al lc) al (gCs acc) rfl (by exact HOb.out) (some ⟨vb, 0, none⟩) 1 1 (gCs [(⟨ys, yt, .slice xa xn xc, .slice ya yn yc⟩ : PE)]) rfl rfl (fun h => by cases h) (fun ad had => by cases had; exact World.news_of_block HV.out) (gCs_one (by intro e he; simp at he; subst he; exact ⟨⟨_, _, _, rfl⟩, ⟨_, _, _, rfl⟩⟩)) (by unfold maxLen; omega) (by omega) (by have := HMb.out.2.2.2.2.1; exact HB2.out.2 _ HOT.out) ?_
                intro a9 c9 w4 hown4 hgrow
                have HB4 : Hid (Below (B2) v19 w4) := (Below.refl _ _).grown hgrow (HB2.out.2 _ HOT.out) (fun k hk => (World.ownsRow.lt HOb.out k hk).1)
                have HM4 := Lib.hid (HMb.out.keep (HB4.out.mono HB2.out.1))
                have HM5 : Hid (MR H w (w4.setCell ⟨H + 1 + 1 + 1, 4, none⟩ (.slice a9 (al + 1) c9)) na (some ⟨g, o, none⟩) na2 (some ⟨g2, o2, none⟩) nc mc nc2 mc2 n1 n2 m1 m2 sz qu sz2 qu2 ag ag2 nlF 0 0 ⟨#[]⟩ (.slice a9 (al + 1) c9)) := HM4.out.set 4 _ rfl
                have HO5 : Hid ((w4.setCell ⟨H + 1 + 1 + 1, 4, none⟩ (.slice a9 (al + 1) c9)).ownsRow (B2) 59 6 (.slice a9 (al + 1) c9) (al + 1) (gCs acc ++ gCs [(⟨ys, yt, .slice xa xn xc, .slice ya yn yc⟩ : PE)])) := hown4.kept (grown_setCell _ _ _) (owns_ne hown4 (by show H + 1 + 1 + 1 < _; have := HB2.out.1; omega))
                have HOT5 : Hid (OTH H B2 nlF ns ns2 (w4.setCell ⟨H + 1 + 1 + 1, 4, none⟩ (.slice a9 (al + 1) c9))) := (HOT.out.grown hgrow HOb.out).set
                clear HMa HOa HMb HOb hown4 hgrow HB4
                simp only [zq]
                refine hK _ _ ⟨(HM4.out).cells, HEO.out _ ⟨_, _, _, _, _, HM4.out⟩⟩ (fun hHeld => ?_)
                clear hK K
                refine tkB (i := 9) (v := .pointer (some ⟨H + 1 + 1 + 1, 4, none⟩)) rfl hHeld ?_
                simp only [zq]
                refine wpAnyH_ready (rs := [10]) (by kernel_rfl) (by simp) ?_
                refine AllReadyH.cons (o := _) rfl (fun K hK => ?_) AllReadyH.nil
                obtain ⟨m0, m1', m2', m3, m4, mf⟩ := HM4.out.wish
                have mf0 := mf 4
                clear mf
                go_simp
                refine hK _ _ ⟨(HM5.out).cells, HEO.out _ ⟨_, _, _, _, _, HM5.out⟩⟩ (fun hHeld => ?_)
                clear hK K m0 m1' m2' m3 m4 mf0 HM4
                refine wpAnyH_done (by kernel_rfl) ?_ _
                clear hHeld
                generalize w4.setCell ⟨H + 1 + 1 + 1, 4, none⟩ (.slice a9 (al + 1) c9) = w5 at *
                have HNX : Hid (STP H w w5 na (some ⟨g, o, none⟩) na2 (some ⟨g2, o2, none⟩) nc mc nc2 mc2 n1 n2 m1 m2 sz qu sz2 qu2 ag ag2 B2 nlF ns ns2 es es2 (i + 1) k (.slice a9 (al + 1) c9)) := by
                 refine ⟨HM5.out, HOT5.out, acc ++ [(⟨ys, yt, .slice xa xn xc, .slice ya yn yc⟩ : PE)], by rw [List.length_append, HAL.out, gCs_app]; exact HO5.out, ?_, ?_⟩
                 · have h9 := HMG.out
                   rw [HDL.out, HDO.out] at h9
                   rw [← h9, List.append_assoc, HDL.out]
                   exact congrArg (acc ++ ·) (show _ = _ from (show mgP ((⟨ys, yt, .slice xa xn xc, .slice ya yn yc⟩ : PE) :: es.drop (i + 1)) ((⟨xs, xt, .slice xa2 xn2 xc2, .slice ya2 yn2 yc2⟩ : PE) :: es2.drop (k + 1)) = (⟨ys, yt, .slice xa xn xc, .slice ya yn yc⟩ : PE) :: mgP (es.drop (i + 1)) ((⟨xs, xt, .slice xa2 xn2 xc2, .slice ya2 yn2 yc2⟩ : PE) :: es2.drop (k + 1)) from mg_lt _ _ HLT.out).symm)
                 · rw [List.length_append, HAL.out]; have h8 := HLN.out; simp; omega
                clear HM5 HO5 HOT5 HOT
                go_wp2
                exact ⟨⟨i + 1, _, by omega, by go_num, HNX.out⟩, by simp [intOf]; omega⟩
              · have HOT2 : Hid (OTH H B2 nlF ns ns2 (z21.alloc (.cells #[.string ys, .int .i64 yt.k, .int .i64 yt.n, .string yt.s, .slice xa xn xc, .slice ya yn yc] 59))) := HOT.out.keep ((Below.refl _ _).alloc (Nat.le_refl _) _)
                clear HOT
                have HOT := HOT2
                clear HOT2
                go_simp
                have b : Below z21.heap.size z21 (z21.alloc (.cells #[.string ys, .int .i64 yt.k, .int .i64 yt.n, .string yt.s, .slice xa xn xc, .slice ya yn yc] 59)) := (Below.refl _ _).alloc (Nat.le_refl _) _
                have HMb := Lib.hid (HMa.out.keep (b.mono HMa.out.2.2.2.2.1))
                have HOb := Lib.hid (own_keep HOa.out b)
                have HV : Hid ((z21.alloc (.cells #[.string ys, .int .i64 yt.k, .int .i64 yt.n, .string yt.s, .slice xa xn xc, .slice ya yn yc] 59)).heap[z21.heap.size]? = some (.cells (gCs [(⟨ys, yt, .slice xa xn xc, .slice ya yn yc⟩ : PE)]).toArray 59 (0, 0))) := heap_new _ _
                clear b
                refine hK _ _ ⟨(HMb.out).cells, HEO.out _ ⟨_, _, _, _, _, HMb.out⟩⟩ (fun hHeld => ?_)
                clear hK K
                generalize z21.alloc (.cells #[.string ys, .int .i64 yt.k, .int .i64 yt.n, .string yt.s, .slice xa xn xc, .slice ya yn yc] 59) = v20 at *
                generalize z21.heap.size = vb at *
                refine wpAnyH_ready (rs := [1]) (by kernel_rfl) (by simp) ?_
                refine AllReadyH.cons (o := _) rfl (fun K hK => ?_) AllReadyH.nil
                obtain ⟨m0, m1', m2', m3, m4, mf⟩ := HMb.out.wish
                go_simp
                refine hK _ _ ⟨(HMb.out).cells, HEO.out _ ⟨_, _, _, _, _, HMb.out⟩⟩ (fun hHeld => ?_)
                clear hK K m0 m1' m2' m3 m4 mf
                refine wpAnyH_ready (rs := [8]) (by kernel_rfl) (by simp) ?_
                refine AllReadyH.cons (o := _) rfl (fun K hK => ?_) AllReadyH.nil
                rw [if_pos (show Region.wanted _ _ = true by kernel_rfl)]
                refine wp_append_gen _ _ 33 rfl (B2) 59 i0 _ 6 96 Try.underlying33 hi0 hz0 hz1 hz2 rfl (by omega) (.slice la al lc) al (gCs acc) rfl (by exact HOb.out) (some ⟨vb, 0, none⟩) 1 1 (gCs [(⟨ys, yt, .slice xa xn xc, .slice ya yn yc⟩ : PE)]) rfl rfl (fun h => by cases h) (fun ad had => by cases had; exact World.news_of_block HV.out) (gCs_one (by intro e he; simp at he; subst he; exact ⟨⟨_, _, _, rfl⟩, ⟨_, _, _, rfl⟩⟩)) (by unfold maxLen; omega) (by omega) (by have := HMb.out.2.2.2.2.1; exact HB2.out.2 _ HOT.out) ?_
                intro a9 c9 w4 hown4 hgrow
                have HB4 : Hid (Below (B2) v20 w4) := (Below.refl _ _).grown hgrow (HB2.out.2 _ HOT.out) (fun k hk => (World.ownsRow.lt HOb.out k hk).1)
                have HM4 := Lib.hid (HMb.out.keep (HB4.out.mono HB2.out.1))
                have HM5 : Hid (MR H w (w4.setCell ⟨H + 1 + 1 + 1, 4, none⟩ (.slice a9 (al + 1) c9)) na (some ⟨g, o, none⟩) na2 (some ⟨g2, o2, none⟩) nc mc nc2 mc2 n1 n2 m1 m2 sz qu sz2 qu2 ag ag2 nlF 0 0 ⟨#[]⟩ (.slice a9 (al + 1) c9)) := HM4.out.set 4 _ rfl
                have HO5 : Hid ((w4.setCell ⟨H + 1 + 1 + 1, 4, none⟩ (.slice a9 (al + 1) c9)).ownsRow (B2) 59 6 (.slice a9 (al + 1) c9) (al + 1) (gCs acc ++ gCs [(⟨ys, yt, .slice xa xn xc, .slice ya yn yc⟩ : PE)])) := hown4.kept (grown_setCell _ _ _) (owns_ne hown4 (by show H + 1 + 1 + 1 < _; have := HB2.out.1; omega))
                have HOT5 : Hid (OTH H B2 nlF ns ns2 (w4.setCell ⟨H + 1 + 1 + 1, 4, none⟩ (.slice a9 (al + 1) c9))) := (HOT.out.grown hgrow HOb.out).set
                clear HMa HOa HMb HOb hown4 hgrow HB4
                simp only [zq]
                refine hK _ _ ⟨(HM4.out).cells, HEO.out _ ⟨_, _, _, _, _, HM4.out⟩⟩ (fun hHeld => ?_)
                clear hK K
                refine tkB (i := 9) (v := .pointer (some ⟨H + 1 + 1 + 1, 4, none⟩)) rfl hHeld ?_
                simp only [zq]
                refine wpAnyH_ready (rs := [10]) (by kernel_rfl) (by simp) ?_
                refine AllReadyH.cons (o := _) rfl (fun K hK => ?_) AllReadyH.nil
                obtain ⟨m0, m1', m2', m3, m4, mf⟩ := HM4.out.wish
                have mf0 := mf 4
                clear mf
                go_simp
                refine hK _ _ ⟨(HM5.out).cells, HEO.out _ ⟨_, _, _, _, _, HM5.out⟩⟩ (fun hHeld => ?_)
                clear hK K m0 m1' m2' m3 m4 mf0 HM4
                refine wpAnyH_done (by kernel_rfl) ?_ _
                clear hHeld
                generalize w4.setCell ⟨H + 1 + 1 + 1, 4, none⟩ (.slice a9 (al + 1) c9) = w5 at *
                have HNX : Hid (STP H w w5 na (some ⟨g, o, none⟩) na2 (some ⟨g2, o2, none⟩) nc mc nc2 mc2 n1 n2 m1 m2 sz qu sz2 qu2 ag ag2 B2 nlF ns ns2 es es2 (i + 1) k (.slice a9 (al + 1) c9)) := by
                 refine ⟨HM5.out, HOT5.out, acc ++ [(⟨ys, yt, .slice xa xn xc, .slice ya yn yc⟩ : PE)], by rw [List.length_append, HAL.out, gCs_app]; exact HO5.out, ?_, ?_⟩
                 · have h9 := HMG.out
                   rw [HDL.out, HDO.out] at h9
                   rw [← h9, List.append_assoc, HDL.out]
                   exact congrArg (acc ++ ·) (show _ = _ from (show mgP ((⟨ys, yt, .slice xa xn xc, .slice ya yn yc⟩ : PE) :: es.drop (i + 1)) ((⟨xs, xt, .slice xa2 xn2 xc2, .slice ya2 yn2 yc2⟩ : PE) :: es2.drop (k + 1)) = (⟨ys, yt, .slice xa xn xc, .slice ya yn yc⟩ : PE) :: mgP (es.drop (i + 1)) ((⟨xs, xt, .slice xa2 xn2 xc2, .slice ya2 yn2 yc2⟩ : PE) :: es2.drop (k + 1)) from mg_lt _ _ HLT.out).symm)
                 · rw [List.length_append, HAL.out]; have h8 := HLN.out; simp; omega
                clear HM5 HO5 HOT5 HOT
                go_wp2
                exact ⟨⟨i + 1, _, by omega, by go_num, HNX.out⟩, by simp [intOf]; omega⟩
             | false =>
              have HLT : Hid (ltP (⟨ys, yt, .slice xa xn xc, .slice ya yn yc⟩ : PE) (⟨xs, xt, .slice xa2 xn2 xc2, .slice ya2 yn2 yc2⟩ : PE) = false) := hll
              go_upto_region 19 with fail
              refine wp_region_held_drew (S := fun x => MC H na (some ⟨g, o, none⟩) na2 (some ⟨g2, o2, none⟩) nc mc nc2 mc2 n1 n2 m1 m2 sz qu sz2 qu2 ag ag2 x ∧ x.cell? ⟨g, o + i * 6, none⟩ = some (.string ys) ∧ x.cell? ⟨g2, o2 + k * 6, none⟩ = some (.string xs)) (by kernel_rfl) (⟨(HM.out.keep (belowDrew1 wr |>.mono HM.out.2.2.2.2.1)).cells, HCO.out _ ⟨_, _, _, _, _, HM.out.keep (belowDrew1 wr |>.mono HM.out.2.2.2.2.1)⟩, HCL.out _ ⟨_, _, _, _, _, HM.out.keep (belowDrew1 wr |>.mono HM.out.2.2.2.2.1)⟩⟩) (fun hHeld => ?_)
              refine tkB (i := 0) (v := .int .i64 (i : Int)) rfl hHeld ?_
              simp only [zq]
              refine tkB (i := 1) (v := .pointer (some ⟨H, 4, none⟩)) rfl hHeld ?_
              simp only [zq]
              refine tkA (i := 2) (v := .slice (some ⟨g, o, none⟩) m1 mc) rfl (Or.inl ⟨by rfl, fun w hw => by obtain ⟨⟨⟨s0, s1, s2, s3, s4⟩, t0, t1, t2, t3, t4⟩, e0, e1⟩ := hw; go_simp⟩) hHeld ?_
              simp only [zq]
              refine tkB (i := 3) (v := .int .i64 (m1 : Int)) rfl hHeld ?_
              simp only [zq]
              refine tkB (i := 4) (v := .bool true) rfl hHeld ?_
              simp only [zq]
              refine tkB (i := 5) (v := .bool true) rfl hHeld ?_
              simp only [zq]
              refine tkB (i := 6) (v := .pointer (some ⟨H, 4, none⟩)) rfl hHeld ?_
              simp only [zq]
              refine tkA (i := 7) (v := .slice (some ⟨g, o, none⟩) m1 mc) rfl (Or.inl ⟨by rfl, fun w hw => by obtain ⟨⟨⟨s0, s1, s2, s3, s4⟩, t0, t1, t2, t3, t4⟩, e0, e1⟩ := hw; go_simp⟩) hHeld ?_
              simp only [zq]
              refine tkB (i := 8) (v := .int .i64 (i : Int)) rfl hHeld ?_
              simp only [zq]
              refine tkB (i := 9) (v := .pointer (some ⟨g, o + i * 6, none⟩)) rfl hHeld ?_
              simp only [zq]
              refine tkB (i := 10) (v := .pointer (some ⟨g, o + i * 6, none⟩)) rfl hHeld ?_
              simp only [zq]
              refine tkA (i := 11) (v := .string ys) rfl (Or.inl ⟨by rfl, fun w hw => by obtain ⟨⟨⟨s0, s1, s2, s3, s4⟩, t0, t1, t2, t3, t4⟩, e0, e1⟩ := hw; go_simp⟩) hHeld ?_
              simp only [zq]
              refine tkB (i := 12) (v := .pointer (some ⟨H + 1, 4, none⟩)) rfl hHeld ?_
              simp only [zq]
              refine tkA (i := 13) (v := .slice (some ⟨g2, o2, none⟩) m2 mc2) rfl (Or.inl ⟨by rfl, fun w hw => by obtain ⟨⟨⟨s0, s1, s2, s3, s4⟩, t0, t1, t2, t3, t4⟩, e0, e1⟩ := hw; go_simp⟩) hHeld ?_
              simp only [zq]
              refine tkB (i := 14) (v := .int .i64 (k : Int)) rfl hHeld ?_
              simp only [zq]
              refine tkB (i := 15) (v := .pointer (some ⟨g2, o2 + k * 6, none⟩)) rfl hHeld ?_
              simp only [zq]
              refine tkB (i := 16) (v := .pointer (some ⟨g2, o2 + k * 6, none⟩)) rfl hHeld ?_
              simp only [zq]
              refine tkA (i := 17) (v := .string xs) rfl (Or.inl ⟨by rfl, fun w hw => by obtain ⟨⟨⟨s0, s1, s2, s3, s4⟩, t0, t1, t2, t3, t4⟩, e0, e1⟩ := hw; go_simp⟩) hHeld ?_
              simp only [zq]
              refine tkB (i := 18) (v := .bool false) rfl hHeld ?_
              simp only [zq]
              refine tkB (i := 19) (v := .bool false) rfl hHeld ?_
              simp only [zq]
              refine wpAnyH_done (by kernel_rfl) ?_ _
              clear hHeld
              have HMd := Lib.hid (HM.out.keep (belowDrew1 wr |>.mono HM.out.2.2.2.2.1))
              have HO2 := Lib.hid (own_keep HO.out (belowDrew1 wr))
              have HOT2 := Lib.hid (HOT.out.keep (belowDrew1 wr))
              clear HOT
              have HOT := HOT2
              clear HOT2
              clear HM HO
              have HO := HO2
              clear HO2
              generalize wr.drew = c23 at *
              clear hll
              cases hee : (ys.toList == xs.toList) with
              | true =>
               have HEQ : Hid (eqP (⟨ys, yt, .slice xa xn xc, .slice ya yn yc⟩ : PE) (⟨xs, xt, .slice xa2 xn2 xc2, .slice ya2 yn2 yc2⟩ : PE) = true) := hee
               go_upto_region 22 with fail
               refine wp_region_held_drew (S := fun x => MC H na (some ⟨g, o, none⟩) na2 (some ⟨g2, o2, none⟩) nc mc nc2 mc2 n1 n2 m1 m2 sz qu sz2 qu2 ag ag2 x ∧ x.cell? ⟨g, o + i * 6, none⟩ = some (.string ys) ∧ x.cell? ⟨g2, o2 + k * 6, none⟩ = some (.string xs)) (by kernel_rfl) (⟨(HMd.out.keep (belowDrew1 c23 |>.mono HMd.out.2.2.2.2.1)).cells, HCO.out _ ⟨_, _, _, _, _, HMd.out.keep (belowDrew1 c23 |>.mono HMd.out.2.2.2.2.1)⟩, HCL.out _ ⟨_, _, _, _, _, HMd.out.keep (belowDrew1 c23 |>.mono HMd.out.2.2.2.2.1)⟩⟩) (fun hHeld => ?_)
               refine tkB (i := 0) (v := .int .i64 (i : Int)) rfl hHeld ?_
               simp only [zq]
               refine tkB (i := 1) (v := .pointer (some ⟨H, 4, none⟩)) rfl hHeld ?_
               simp only [zq]
               refine tkA (i := 2) (v := .slice (some ⟨g, o, none⟩) m1 mc) rfl (Or.inl ⟨by rfl, fun w hw => by obtain ⟨⟨⟨s0, s1, s2, s3, s4⟩, t0, t1, t2, t3, t4⟩, e0, e1⟩ := hw; go_simp⟩) hHeld ?_
               simp only [zq]
               refine tkB (i := 3) (v := .int .i64 (m1 : Int)) rfl hHeld ?_
               simp only [zq]
               refine tkB (i := 4) (v := .bool true) rfl hHeld ?_
               simp only [zq]
               refine tkB (i := 5) (v := .bool true) rfl hHeld ?_
               simp only [zq]
               refine tkB (i := 6) (v := .pointer (some ⟨H, 4, none⟩)) rfl hHeld ?_
               simp only [zq]
               refine tkA (i := 7) (v := .slice (some ⟨g, o, none⟩) m1 mc) rfl (Or.inl ⟨by rfl, fun w hw => by obtain ⟨⟨⟨s0, s1, s2, s3, s4⟩, t0, t1, t2, t3, t4⟩, e0, e1⟩ := hw; go_simp⟩) hHeld ?_
               simp only [zq]
               refine tkB (i := 8) (v := .int .i64 (i : Int)) rfl hHeld ?_
               simp only [zq]
               refine tkB (i := 9) (v := .pointer (some ⟨g, o + i * 6, none⟩)) rfl hHeld ?_
               simp only [zq]
               refine tkB (i := 10) (v := .pointer (some ⟨g, o + i * 6, none⟩)) rfl hHeld ?_
               simp only [zq]
               refine tkA (i := 11) (v := .string ys) rfl (Or.inl ⟨by rfl, fun w hw => by obtain ⟨⟨⟨s0, s1, s2, s3, s4⟩, t0, t1, t2, t3, t4⟩, e0, e1⟩ := hw; go_simp⟩) hHeld ?_
               simp only [zq]
               refine tkB (i := 12) (v := .pointer (some ⟨H + 1, 4, none⟩)) rfl hHeld ?_
               simp only [zq]
               refine tkA (i := 13) (v := .slice (some ⟨g2, o2, none⟩) m2 mc2) rfl (Or.inl ⟨by rfl, fun w hw => by obtain ⟨⟨⟨s0, s1, s2, s3, s4⟩, t0, t1, t2, t3, t4⟩, e0, e1⟩ := hw; go_simp⟩) hHeld ?_
               simp only [zq]
               refine tkB (i := 14) (v := .int .i64 (k : Int)) rfl hHeld ?_
               simp only [zq]
               refine tkB (i := 15) (v := .pointer (some ⟨g2, o2 + k * 6, none⟩)) rfl hHeld ?_
               simp only [zq]
               refine tkB (i := 16) (v := .pointer (some ⟨g2, o2 + k * 6, none⟩)) rfl hHeld ?_
               simp only [zq]
               refine tkA (i := 17) (v := .string xs) rfl (Or.inl ⟨by rfl, fun w hw => by obtain ⟨⟨⟨s0, s1, s2, s3, s4⟩, t0, t1, t2, t3, t4⟩, e0, e1⟩ := hw; go_simp⟩) hHeld ?_
               simp only [zq]
               refine tkB (i := 18) (v := .bool true) rfl hHeld ?_
               simp only [zq]
               refine tkB (i := 19) (v := .bool true) rfl hHeld ?_
               simp only [zq]
               refine wpAnyH_done (by kernel_rfl) ?_ _
               clear hHeld
               have HMc := Lib.hid (HMd.out.keep (belowDrew1 c23 |>.mono HMd.out.2.2.2.2.1))
               have HOc := Lib.hid (own_keep HO.out (belowDrew1 c23))
               have HOT2 := Lib.hid (HOT.out.keep (belowDrew1 c23))
               clear HOT
               have HOT := HOT2
               clear HOT2
               clear HMd HO
               generalize c23.drew = c24 at *
               go_upto_region 24 with fail
               refine wp_region_held_drew (S := fun x => MC H na (some ⟨g, o, none⟩) na2 (some ⟨g2, o2, none⟩) nc mc nc2 mc2 n1 n2 m1 m2 sz qu sz2 qu2 ag ag2 x ∧ x.cell? ⟨g2, o2 + k * 6, none⟩ = some (.string xs) ∧ x.cell? ⟨g2, o2 + k * 6 + 1, none⟩ = some (.int .i64 xt.k) ∧ x.cell? ⟨g2, o2 + k * 6 + 2, none⟩ = some (.int .i64 xt.n) ∧ x.cell? ⟨g2, o2 + k * 6 + 3, none⟩ = some (.string xt.s) ∧ x.cell? ⟨g2, o2 + k * 6 + 4, none⟩ = some (.slice xa2 xn2 xc2) ∧ x.cell? ⟨g2, o2 + k * 6 + 5, none⟩ = some (.slice ya2 yn2 yc2)) (by kernel_rfl) (⟨(HMc.out.keep (belowDrew1 c24 |>.mono HMc.out.2.2.2.2.1)).cells, HEL.out _ ⟨_, _, _, _, _, HMc.out.keep (belowDrew1 c24 |>.mono HMc.out.2.2.2.2.1)⟩⟩) (fun hHeld => ?_)
               refine tkB (i := 0) (v := .pointer (some ⟨H + 1 + 1 + 1, 4, none⟩)) rfl hHeld ?_
               simp only [zq]
               refine tkB (i := 2) (v := .pointer (some ⟨H + 1, 4, none⟩)) rfl hHeld ?_
               simp only [zq]
               refine tkA (i := 3) (v := .slice (some ⟨g2, o2, none⟩) m2 mc2) rfl (Or.inl ⟨by rfl, fun w hw => by obtain ⟨⟨⟨s0, s1, s2, s3, s4⟩, t0, t1, t2, t3, t4⟩, e0, e1, e2, e3, e4, e5⟩ := hw; go_simp⟩) hHeld ?_
               simp only [zq]
               refine tkB (i := 4) (v := .int .i64 (k : Int)) rfl hHeld ?_
               simp only [zq]
               refine tkB (i := 5) (v := .pointer (some ⟨g2, o2 + k * 6, none⟩)) rfl hHeld ?_
               simp only [zq]
               refine tkA (i := 6) (v := .agg #[.string xs, .int .i64 xt.k, .int .i64 xt.n, .string xt.s, .slice xa2 xn2 xc2, .slice ya2 yn2 yc2]) rfl (Or.inl ⟨by rfl, fun w hw => by obtain ⟨⟨⟨s0, s1, s2, s3, s4⟩, t0, t1, t2, t3, t4⟩, e0, e1, e2, e3, e4, e5⟩ := hw; go_simp⟩) hHeld ?_
               simp only [zq]
               have HMa := Lib.hid (HMc.out.keep (belowDrew1 c24 |>.mono HMc.out.2.2.2.2.1))
               have HOa := Lib.hid (own_keep HOc.out (belowDrew1 c24))
               have HOT2 := Lib.hid (HOT.out.keep (belowDrew1 c24))
               clear HOT
               have HOT := HOT2
               clear HOT2
               generalize c24.drew = z27 at *
               refine wpAnyH_ready (rs := [1, 7]) (by kernel_rfl) (by simp) ?_
               refine AllReadyH.cons (o := _) rfl (fun K hK => ?_) (AllReadyH.cons (o := _) rfl (fun K hK => ?_) AllReadyH.nil)
               · obtain ⟨m0, m1', m2', m3, m4, mf⟩ := HMa.out.wish
                 go_simp
                 refine hK _ _ ⟨(HMa.out).cells, HEL.out _ ⟨_, _, _, _, _, HMa.out⟩⟩ (fun hHeld => ?_)
                 clear hK K m0 m1' m2' m3 m4 mf
                 refine wpAnyH_ready (rs := [7]) (by kernel_rfl) (by simp) ?_
                 refine AllReadyH.cons (o := _) rfl (fun K hK => ?_) AllReadyH.nil
                 have HOT2 : Hid (OTH H B2 nlF ns ns2 (z27.alloc (.cells #[.string xs, .int .i64 xt.k, .int .i64 xt.n, .string xt.s, .slice xa2 xn2 xc2, .slice ya2 yn2 yc2] 59))) := HOT.out.keep ((Below.refl _ _).alloc (Nat.le_refl _) _)
                 clear HOT
                 have HOT := HOT2
                 clear HOT2
                 go_simp
                 have b : Below z27.heap.size z27 (z27.alloc (.cells #[.string xs, .int .i64 xt.k, .int .i64 xt.n, .string xt.s, .slice xa2 xn2 xc2, .slice ya2 yn2 yc2] 59)) := (Below.refl _ _).alloc (Nat.le_refl _) _
                 have HMb := Lib.hid (HMa.out.keep (b.mono HMa.out.2.2.2.2.1))
                 have HOb := Lib.hid (own_keep HOa.out b)
                 have HV : Hid ((z27.alloc (.cells #[.string xs, .int .i64 xt.k, .int .i64 xt.n, .string xt.s, .slice xa2 xn2 xc2, .slice ya2 yn2 yc2] 59)).heap[z27.heap.size]? = some (.cells (gCs [(⟨xs, xt, .slice xa2 xn2 xc2, .slice ya2 yn2 yc2⟩ : PE)]).toArray 59 (0, 0))) := heap_new _ _
                 clear b
                 refine hK _ _ ⟨(HMb.out).cells, HEL.out _ ⟨_, _, _, _, _, HMb.out⟩⟩ (fun hHeld => ?_)
                 clear hK K
                 generalize z27.alloc (.cells #[.string xs, .int .i64 xt.k, .int .i64 xt.n, .string xt.s, .slice xa2 xn2 xc2, .slice ya2 yn2 yc2] 59) = v25 at *
                 generalize z27.heap.size = vb at *
                 refine wpAnyH_ready (rs := [8]) (by kernel_rfl) (by simp) ?_
                 refine AllReadyH.cons (o := _) rfl (fun K hK => ?_) AllReadyH.nil
                 rw [if_pos (show Region.wanted _ _ = true by kernel_rfl)]
                 refine wp_append_gen _ _ 33 rfl (B2) 59 i0 _ 6 96 Try.underlying33 hi0 hz0 hz1 hz2 rfl (by omega) (.slice la al lc) al (gCs acc) rfl (by exact HOb.out) (some ⟨vb, 0, none⟩) 1 1 (gCs [(⟨xs, xt, .slice xa2 xn2 xc2, .slice ya2 yn2 yc2⟩ : PE)]) rfl rfl (fun h => by cases h) (fun ad had => by cases had; exact World.news_of_block HV.out) (gCs_one (by intro e he; simp at he; subst he; exact ⟨⟨_, _, _, rfl⟩, ⟨_, _, _, rfl⟩⟩)) (by unfold maxLen; omega) (by omega) (by have := HMb.out.2.2.2.2.1; exact HB2.out.2 _ HOT.out) ?_
                 intro a9 c9 w4 hown4 hgrow
                 have HB4 : Hid (Below (B2) v25 w4) := (Below.refl _ _).grown hgrow (HB2.out.2 _ HOT.out) (fun k hk => (World.ownsRow.lt HOb.out k hk).1)
                 have HM4 := Lib.hid (HMb.out.keep (HB4.out.mono HB2.out.1))
                 have HM5 : Hid (MR H w (w4.setCell ⟨H + 1 + 1 + 1, 4, none⟩ (.slice a9 (al + 1) c9)) na (some ⟨g, o, none⟩) na2 (some ⟨g2, o2, none⟩) nc mc nc2 mc2 n1 n2 m1 m2 sz qu sz2 qu2 ag ag2 nlF 0 0 ⟨#[]⟩ (.slice a9 (al + 1) c9)) := HM4.out.set 4 _ rfl
                 have HO5 : Hid ((w4.setCell ⟨H + 1 + 1 + 1, 4, none⟩ (.slice a9 (al + 1) c9)).ownsRow (B2) 59 6 (.slice a9 (al + 1) c9) (al + 1) (gCs acc ++ gCs [(⟨xs, xt, .slice xa2 xn2 xc2, .slice ya2 yn2 yc2⟩ : PE)])) := hown4.kept (grown_setCell _ _ _) (owns_ne hown4 (by show H + 1 + 1 + 1 < _; have := HB2.out.1; omega))
                 have HOT5 : Hid (OTH H B2 nlF ns ns2 (w4.setCell ⟨H + 1 + 1 + 1, 4, none⟩ (.slice a9 (al + 1) c9))) := (HOT.out.grown hgrow HOb.out).set
                 clear HMa HOa HMb HOb hown4 hgrow HB4
                 simp only [zq]
                 refine hK _ _ ⟨(HM4.out).cells, HEL.out _ ⟨_, _, _, _, _, HM4.out⟩⟩ (fun hHeld => ?_)
                 clear hK K
                 refine tkB (i := 9) (v := .pointer (some ⟨H + 1 + 1 + 1, 4, none⟩)) rfl hHeld ?_
                 simp only [zq]
                 refine wpAnyH_ready (rs := [10]) (by kernel_rfl) (by simp) ?_
                 refine AllReadyH.cons (o := _) rfl (fun K hK => ?_) AllReadyH.nil
                 obtain ⟨m0, m1', m2', m3, m4, mf⟩ := HM4.out.wish
                 have mf0 := mf 4
                 clear mf
                 go_simp
                 refine hK _ _ ⟨(HM5.out).cells, HEL.out _ ⟨_, _, _, _, _, HM5.out⟩⟩ (fun hHeld => ?_)
                 clear hK K m0 m1' m2' m3 m4 mf0 HM4
                 refine wpAnyH_done (by kernel_rfl) ?_ _
                 clear hHeld
                 generalize w4.setCell ⟨H + 1 + 1 + 1, 4, none⟩ (.slice a9 (al + 1) c9) = w5 at *
                 have HNX : Hid (STP H w w5 na (some ⟨g, o, none⟩) na2 (some ⟨g2, o2, none⟩) nc mc nc2 mc2 n1 n2 m1 m2 sz qu sz2 qu2 ag ag2 B2 nlF ns ns2 es es2 (i + 1) (k + 1) (.slice a9 (al + 1) c9)) := by
                  refine ⟨HM5.out, HOT5.out, acc ++ [(⟨xs, xt, .slice xa2 xn2 xc2, .slice ya2 yn2 yc2⟩ : PE)], by rw [List.length_append, HAL.out, gCs_app]; exact HO5.out, ?_, ?_⟩
                  · have h9 := HMG.out
                    rw [HDL.out] at h9
                    rw [← h9, List.append_assoc]
                    exact congrArg (acc ++ ·) (show _ = _ from (show mgP (es.drop i) ((⟨xs, xt, .slice xa2 xn2 xc2, .slice ya2 yn2 yc2⟩ : PE) :: es2.drop (k + 1)) = (⟨xs, xt, .slice xa2 xn2 xc2, .slice ya2 yn2 yc2⟩ : PE) :: mgP (es.drop (i + 1)) (es2.drop (k + 1)) from by rw [HDO.out]; exact mg_eq _ _ HLT.out HEQ.out).symm)
                  · rw [List.length_append, HAL.out]; have h8 := HLN.out; simp; omega
                 clear HM5 HO5 HOT5 HOT
                 go_wp2
                 exact ⟨⟨(i + 1), k + 1, _, by omega, by omega, by go_num, by go_num, HNX.out⟩, by simp [intOf]; omega⟩
               · have HOT2 : Hid (OTH H B2 nlF ns ns2 (z27.alloc (.cells #[.string xs, .int .i64 xt.k, .int .i64 xt.n, .string xt.s, .slice xa2 xn2 xc2, .slice ya2 yn2 yc2] 59))) := HOT.out.keep ((Below.refl _ _).alloc (Nat.le_refl _) _)
                 clear HOT
                 have HOT := HOT2
                 clear HOT2
                 go_simp
                 have b : Below z27.heap.size z27 (z27.alloc (.cells #[.string xs, .int .i64 xt.k, .int .i64 xt.n, .string xt.s, .slice xa2 xn2 xc2, .slice ya2 yn2 yc2] 59)) := (Below.refl _ _).alloc (Nat.le_refl _) _
                 have HMb := Lib.hid (HMa.out.keep (b.mono HMa.out.2.2.2.2.1))
                 have HOb := Lib.hid (own_keep HOa.out b)
                 have HV : Hid ((z27.alloc (.cells #[.string xs, .int .i64 xt.k, .int .i64 xt.n, .string xt.s, .slice xa2 xn2 xc2, .slice ya2 yn2 yc2] 59)).heap[z27.heap.size]? = some (.cells (gCs [(⟨xs, xt, .slice xa2 xn2 xc2, .slice ya2 yn2 yc2⟩ : PE)]).toArray 59 (0, 0))) := heap_new _ _
                 clear b
                 refine hK _ _ ⟨(HMb.out).cells, HEL.out _ ⟨_, _, _, _, _, HMb.out⟩⟩ (fun hHeld => ?_)
                 clear hK K
                 generalize z27.alloc (.cells #[.string xs, .int .i64 xt.k, .int .i64 xt.n, .string xt.s, .slice xa2 xn2 xc2, .slice ya2 yn2 yc2] 59) = v26 at *
                 generalize z27.heap.size = vb at *
                 refine wpAnyH_ready (rs := [1]) (by kernel_rfl) (by simp) ?_
                 refine AllReadyH.cons (o := _) rfl (fun K hK => ?_) AllReadyH.nil
                 obtain ⟨m0, m1', m2', m3, m4, mf⟩ := HMb.out.wish
                 go_simp
                 refine hK _ _ ⟨(HMb.out).cells, HEL.out _ ⟨_, _, _, _, _, HMb.out⟩⟩ (fun hHeld => ?_)
                 clear hK K m0 m1' m2' m3 m4 mf
                 refine wpAnyH_ready (rs := [8]) (by kernel_rfl) (by simp) ?_
                 refine AllReadyH.cons (o := _) rfl (fun K hK => ?_) AllReadyH.nil
                 rw [if_pos (show Region.wanted _ _ = true by kernel_rfl)]
                 refine wp_append_gen _ _ 33 rfl (B2) 59 i0 _ 6 96 Try.underlying33 hi0 hz0 hz1 hz2 rfl (by omega) (.slice la al lc) al (gCs acc) rfl (by exact HOb.out) (some ⟨vb, 0, none⟩) 1 1 (gCs [(⟨xs, xt, .slice xa2 xn2 xc2, .slice ya2 yn2 yc2⟩ : PE)]) rfl rfl (fun h => by cases h) (fun ad had => by cases had; exact World.news_of_block HV.out) (gCs_one (by intro e he; simp at he; subst he; exact ⟨⟨_, _, _, rfl⟩, ⟨_, _, _, rfl⟩⟩)) (by unfold maxLen; omega) (by omega) (by have := HMb.out.2.2.2.2.1; exact HB2.out.2 _ HOT.out) ?_
                 intro a9 c9 w4 hown4 hgrow
                 have HB4 : Hid (Below (B2) v26 w4) := (Below.refl _ _).grown hgrow (HB2.out.2 _ HOT.out) (fun k hk => (World.ownsRow.lt HOb.out k hk).1)
                 have HM4 := Lib.hid (HMb.out.keep (HB4.out.mono HB2.out.1))
                 have HM5 : Hid (MR H w (w4.setCell ⟨H + 1 + 1 + 1, 4, none⟩ (.slice a9 (al + 1) c9)) na (some ⟨g, o, none⟩) na2 (some ⟨g2, o2, none⟩) nc mc nc2 mc2 n1 n2 m1 m2 sz qu sz2 qu2 ag ag2 nlF 0 0 ⟨#[]⟩ (.slice a9 (al + 1) c9)) := HM4.out.set 4 _ rfl
                 have HO5 : Hid ((w4.setCell ⟨H + 1 + 1 + 1, 4, none⟩ (.slice a9 (al + 1) c9)).ownsRow (B2) 59 6 (.slice a9 (al + 1) c9) (al + 1) (gCs acc ++ gCs [(⟨xs, xt, .slice xa2 xn2 xc2, .slice ya2 yn2 yc2⟩ : PE)])) := hown4.kept (grown_setCell _ _ _) (owns_ne hown4 (by show H + 1 + 1 + 1 < _; have := HB2.out.1; omega))
                 have HOT5 : Hid (OTH H B2 nlF ns ns2 (w4.setCell ⟨H + 1 + 1 + 1, 4, none⟩ (.slice a9 (al + 1) c9))) := (HOT.out.grown hgrow HOb.out).set
                 clear HMa HOa HMb HOb hown4 hgrow HB4
                 simp only [zq]
                 refine hK _ _ ⟨(HM4.out).cells, HEL.out _ ⟨_, _, _, _, _, HM4.out⟩⟩ (fun hHeld => ?_)
                 clear hK K
                 refine tkB (i := 9) (v := .pointer (some ⟨H + 1 + 1 + 1, 4, none⟩)) rfl hHeld ?_
                 simp only [zq]
                 refine wpAnyH_ready (rs := [10]) (by kernel_rfl) (by simp) ?_
                 refine AllReadyH.cons (o := _) rfl (fun K hK => ?_) AllReadyH.nil
                 obtain ⟨m0, m1', m2', m3, m4, mf⟩ := HM4.out.wish
                 have mf0 := mf 4
                 clear mf
                 go_simp
                 refine hK _ _ ⟨(HM5.out).cells, HEL.out _ ⟨_, _, _, _, _, HM5.out⟩⟩ (fun hHeld => ?_)
                 clear hK K m0 m1' m2' m3 m4 mf0 HM4
                 refine wpAnyH_done (by kernel_rfl) ?_ _
                 clear hHeld
                 generalize w4.setCell ⟨H + 1 + 1 + 1, 4, none⟩ (.slice a9 (al + 1) c9) = w5 at *
                 have HNX : Hid (STP H w w5 na (some ⟨g, o, none⟩) na2 (some ⟨g2, o2, none⟩) nc mc nc2 mc2 n1 n2 m1 m2 sz qu sz2 qu2 ag ag2 B2 nlF ns ns2 es es2 (i + 1) (k + 1) (.slice a9 (al + 1) c9)) := by
                  refine ⟨HM5.out, HOT5.out, acc ++ [(⟨xs, xt, .slice xa2 xn2 xc2, .slice ya2 yn2 yc2⟩ : PE)], by rw [List.length_append, HAL.out, gCs_app]; exact HO5.out, ?_, ?_⟩
                  · have h9 := HMG.out
                    rw [HDL.out] at h9
                    rw [← h9, List.append_assoc]
                    exact congrArg (acc ++ ·) (show _ = _ from (show mgP (es.drop i) ((⟨xs, xt, .slice xa2 xn2 xc2, .slice ya2 yn2 yc2⟩ : PE) :: es2.drop (k + 1)) = (⟨xs, xt, .slice xa2 xn2 xc2, .slice ya2 yn2 yc2⟩ : PE) :: mgP (es.drop (i + 1)) (es2.drop (k + 1)) from by rw [HDO.out]; exact mg_eq _ _ HLT.out HEQ.out).symm)
                  · rw [List.length_append, HAL.out]; have h8 := HLN.out; simp; omega
                 clear HM5 HO5 HOT5 HOT
                 go_wp2
                 exact ⟨⟨(i + 1), k + 1, _, by omega, by omega, by go_num, by go_num, HNX.out⟩, by simp [intOf]; omega⟩
              | false =>
               have HEQ : Hid (eqP (⟨ys, yt, .slice xa xn xc, .slice ya yn yc⟩ : PE) (⟨xs, xt, .slice xa2 xn2 xc2, .slice ya2 yn2 yc2⟩ : PE) = false) := hee
               go_upto_region 22 with fail
               refine wp_region_held_drew (S := fun x => MC H na (some ⟨g, o, none⟩) na2 (some ⟨g2, o2, none⟩) nc mc nc2 mc2 n1 n2 m1 m2 sz qu sz2 qu2 ag ag2 x ∧ x.cell? ⟨g, o + i * 6, none⟩ = some (.string ys) ∧ x.cell? ⟨g2, o2 + k * 6, none⟩ = some (.string xs)) (by kernel_rfl) (⟨(HMd.out.keep (belowDrew1 c23 |>.mono HMd.out.2.2.2.2.1)).cells, HCO.out _ ⟨_, _, _, _, _, HMd.out.keep (belowDrew1 c23 |>.mono HMd.out.2.2.2.2.1)⟩, HCL.out _ ⟨_, _, _, _, _, HMd.out.keep (belowDrew1 c23 |>.mono HMd.out.2.2.2.2.1)⟩⟩) (fun hHeld => ?_)
               refine tkB (i := 0) (v := .int .i64 (i : Int)) rfl hHeld ?_
               simp only [zq]
               refine tkB (i := 1) (v := .pointer (some ⟨H, 4, none⟩)) rfl hHeld ?_
               simp only [zq]
               refine tkA (i := 2) (v := .slice (some ⟨g, o, none⟩) m1 mc) rfl (Or.inl ⟨by rfl, fun w hw => by obtain ⟨⟨⟨s0, s1, s2, s3, s4⟩, t0, t1, t2, t3, t4⟩, e0, e1⟩ := hw; go_simp⟩) hHeld ?_
               simp only [zq]
               refine tkB (i := 3) (v := .int .i64 (m1 : Int)) rfl hHeld ?_
               simp only [zq]
               refine tkB (i := 4) (v := .bool true) rfl hHeld ?_
               simp only [zq]
               refine tkB (i := 5) (v := .bool true) rfl hHeld ?_
               simp only [zq]
               refine tkB (i := 6) (v := .pointer (some ⟨H, 4, none⟩)) rfl hHeld ?_
               simp only [zq]
               refine tkA (i := 7) (v := .slice (some ⟨g, o, none⟩) m1 mc) rfl (Or.inl ⟨by rfl, fun w hw => by obtain ⟨⟨⟨s0, s1, s2, s3, s4⟩, t0, t1, t2, t3, t4⟩, e0, e1⟩ := hw; go_simp⟩) hHeld ?_
               simp only [zq]
               refine tkB (i := 8) (v := .int .i64 (i : Int)) rfl hHeld ?_
               simp only [zq]
               refine tkB (i := 9) (v := .pointer (some ⟨g, o + i * 6, none⟩)) rfl hHeld ?_
               simp only [zq]
               refine tkB (i := 10) (v := .pointer (some ⟨g, o + i * 6, none⟩)) rfl hHeld ?_
               simp only [zq]
               refine tkA (i := 11) (v := .string ys) rfl (Or.inl ⟨by rfl, fun w hw => by obtain ⟨⟨⟨s0, s1, s2, s3, s4⟩, t0, t1, t2, t3, t4⟩, e0, e1⟩ := hw; go_simp⟩) hHeld ?_
               simp only [zq]
               refine tkB (i := 12) (v := .pointer (some ⟨H + 1, 4, none⟩)) rfl hHeld ?_
               simp only [zq]
               refine tkA (i := 13) (v := .slice (some ⟨g2, o2, none⟩) m2 mc2) rfl (Or.inl ⟨by rfl, fun w hw => by obtain ⟨⟨⟨s0, s1, s2, s3, s4⟩, t0, t1, t2, t3, t4⟩, e0, e1⟩ := hw; go_simp⟩) hHeld ?_
               simp only [zq]
               refine tkB (i := 14) (v := .int .i64 (k : Int)) rfl hHeld ?_
               simp only [zq]
               refine tkB (i := 15) (v := .pointer (some ⟨g2, o2 + k * 6, none⟩)) rfl hHeld ?_
               simp only [zq]
               refine tkB (i := 16) (v := .pointer (some ⟨g2, o2 + k * 6, none⟩)) rfl hHeld ?_
               simp only [zq]
               refine tkA (i := 17) (v := .string xs) rfl (Or.inl ⟨by rfl, fun w hw => by obtain ⟨⟨⟨s0, s1, s2, s3, s4⟩, t0, t1, t2, t3, t4⟩, e0, e1⟩ := hw; go_simp⟩) hHeld ?_
               simp only [zq]
               refine tkB (i := 18) (v := .bool false) rfl hHeld ?_
               simp only [zq]
               refine tkB (i := 19) (v := .bool false) rfl hHeld ?_
               simp only [zq]
               refine wpAnyH_done (by kernel_rfl) ?_ _
               clear hHeld
               have HMc := Lib.hid (HMd.out.keep (belowDrew1 c23 |>.mono HMd.out.2.2.2.2.1))
               have HOc := Lib.hid (own_keep HO.out (belowDrew1 c23))
               have HOT2 := Lib.hid (HOT.out.keep (belowDrew1 c23))
               clear HOT
               have HOT := HOT2
               clear HOT2
               clear HMd HO
               generalize c23.drew = c28 at *
               go_upto_region 24 with fail
               refine wp_region_held_drew (S := fun x => MC H na (some ⟨g, o, none⟩) na2 (some ⟨g2, o2, none⟩) nc mc nc2 mc2 n1 n2 m1 m2 sz qu sz2 qu2 ag ag2 x ∧ x.cell? ⟨g2, o2 + k * 6, none⟩ = some (.string xs) ∧ x.cell? ⟨g2, o2 + k * 6 + 1, none⟩ = some (.int .i64 xt.k) ∧ x.cell? ⟨g2, o2 + k * 6 + 2, none⟩ = some (.int .i64 xt.n) ∧ x.cell? ⟨g2, o2 + k * 6 + 3, none⟩ = some (.string xt.s) ∧ x.cell? ⟨g2, o2 + k * 6 + 4, none⟩ = some (.slice xa2 xn2 xc2) ∧ x.cell? ⟨g2, o2 + k * 6 + 5, none⟩ = some (.slice ya2 yn2 yc2)) (by kernel_rfl) (⟨(HMc.out.keep (belowDrew1 c28 |>.mono HMc.out.2.2.2.2.1)).cells, HEL.out _ ⟨_, _, _, _, _, HMc.out.keep (belowDrew1 c28 |>.mono HMc.out.2.2.2.2.1)⟩⟩) (fun hHeld => ?_)
               refine tkB (i := 0) (v := .pointer (some ⟨H + 1 + 1 + 1, 4, none⟩)) rfl hHeld ?_
               simp only [zq]
               refine tkB (i := 2) (v := .pointer (some ⟨H + 1, 4, none⟩)) rfl hHeld ?_
               simp only [zq]
               refine tkA (i := 3) (v := .slice (some ⟨g2, o2, none⟩) m2 mc2) rfl (Or.inl ⟨by rfl, fun w hw => by obtain ⟨⟨⟨s0, s1, s2, s3, s4⟩, t0, t1, t2, t3, t4⟩, e0, e1, e2, e3, e4, e5⟩ := hw; go_simp⟩) hHeld ?_
               simp only [zq]
               refine tkB (i := 4) (v := .int .i64 (k : Int)) rfl hHeld ?_
               simp only [zq]
               refine tkB (i := 5) (v := .pointer (some ⟨g2, o2 + k * 6, none⟩)) rfl hHeld ?_
               simp only [zq]
               refine tkA (i := 6) (v := .agg #[.string xs, .int .i64 xt.k, .int .i64 xt.n, .string xt.s, .slice xa2 xn2 xc2, .slice ya2 yn2 yc2]) rfl (Or.inl ⟨by rfl, fun w hw => by obtain ⟨⟨⟨s0, s1, s2, s3, s4⟩, t0, t1, t2, t3, t4⟩, e0, e1, e2, e3, e4, e5⟩ := hw; go_simp⟩) hHeld ?_
               simp only [zq]
               have HMa := Lib.hid (HMc.out.keep (belowDrew1 c28 |>.mono HMc.out.2.2.2.2.1))
               have HOa := Lib.hid (own_keep HOc.out (belowDrew1 c28))
               have HOT2 := Lib.hid (HOT.out.keep (belowDrew1 c28))
               clear HOT
               have HOT := HOT2
               clear HOT2
               generalize c28.drew = z31 at *
               refine wpAnyH_ready (rs := [1, 7]) (by kernel_rfl) (by simp) ?_
               refine AllReadyH.cons (o := _) rfl (fun K hK => ?_) (AllReadyH.cons (o := _) rfl (fun K hK => ?_) AllReadyH.nil)
               · obtain ⟨m0, m1', m2', m3, m4, mf⟩ := HMa.out.wish
                 go_simp
                 refine hK _ _ ⟨(HMa.out).cells, HEL.out _ ⟨_, _, _, _, _, HMa.out⟩⟩ (fun hHeld => ?_)
                 clear hK K m0 m1' m2' m3 m4 mf
                 refine wpAnyH_ready (rs := [7]) (by kernel_rfl) (by simp) ?_
                 refine AllReadyH.cons (o := _) rfl (fun K hK => ?_) AllReadyH.nil
                 have HOT2 : Hid (OTH H B2 nlF ns ns2 (z31.alloc (.cells #[.string xs, .int .i64 xt.k, .int .i64 xt.n, .string xt.s, .slice xa2 xn2 xc2, .slice ya2 yn2 yc2] 59))) := HOT.out.keep ((Below.refl _ _).alloc (Nat.le_refl _) _)
                 clear HOT
                 have HOT := HOT2
                 clear HOT2
                 go_simp
                 have b : Below z31.heap.size z31 (z31.alloc (.cells #[.string xs, .int .i64 xt.k, .int .i64 xt.n, .string xt.s, .slice xa2 xn2 xc2, .slice ya2 yn2 yc2] 59)) := (Below.refl _ _).alloc (Nat.le_refl _) _
                 have HMb := Lib.hid (HMa.out.keep (b.mono HMa.out.2.2.2.2.1))
                 have HOb := Lib.hid (own_keep HOa.out b)
                 have HV : Hid ((z31.alloc (.cells #[.string xs, .int .i64 xt.k, .int .i64 xt.n, .string xt.s, .slice xa2 xn2 xc2, .slice ya2 yn2 yc2] 59)).heap[z31.heap.size]? = some (.cells (gCs [(⟨xs, xt, .slice xa2 xn2 xc2, .slice ya2 yn2 yc2⟩ : PE)]).toArray 59 (0, 0))) := heap_new _ _
                 clear b
                 refine hK _ _ ⟨(HMb.out).cells, HEL.out _ ⟨_, _, _, _, _, HMb.out⟩⟩ (fun hHeld => ?_)
                 clear hK K
                 generalize z31.alloc (.cells #[.string xs, .int .i64 xt.k, .int .i64 xt.n, .string xt.s, .slice xa2 xn2 xc2, .slice ya2 yn2 yc2] 59) = v29 at *
                 generalize z31.heap.size = vb at *
                 refine wpAnyH_ready (rs := [8]) (by kernel_rfl) (by simp) ?_
                 refine AllReadyH.cons (o := _) rfl (fun K hK => ?_) AllReadyH.nil
                 rw [if_pos (show Region.wanted _ _ = true by kernel_rfl)]
                 refine wp_append_gen _ _ 33 rfl (B2) 59 i0 _ 6 96 Try.underlying33 hi0 hz0 hz1 hz2 rfl (by omega) (.slice la al lc) al (gCs acc) rfl (by exact HOb.out) (some ⟨vb, 0, none⟩) 1 1 (gCs [(⟨xs, xt, .slice xa2 xn2 xc2, .slice ya2 yn2 yc2⟩ : PE)]) rfl rfl (fun h => by cases h) (fun ad had => by cases had; exact World.news_of_block HV.out) (gCs_one (by intro e he; simp at he; subst he; exact ⟨⟨_, _, _, rfl⟩, ⟨_, _, _, rfl⟩⟩)) (by unfold maxLen; omega) (by omega) (by have := HMb.out.2.2.2.2.1; exact HB2.out.2 _ HOT.out) ?_
                 intro a9 c9 w4 hown4 hgrow
                 have HB4 : Hid (Below (B2) v29 w4) := (Below.refl _ _).grown hgrow (HB2.out.2 _ HOT.out) (fun k hk => (World.ownsRow.lt HOb.out k hk).1)
                 have HM4 := Lib.hid (HMb.out.keep (HB4.out.mono HB2.out.1))
                 have HM5 : Hid (MR H w (w4.setCell ⟨H + 1 + 1 + 1, 4, none⟩ (.slice a9 (al + 1) c9)) na (some ⟨g, o, none⟩) na2 (some ⟨g2, o2, none⟩) nc mc nc2 mc2 n1 n2 m1 m2 sz qu sz2 qu2 ag ag2 nlF 0 0 ⟨#[]⟩ (.slice a9 (al + 1) c9)) := HM4.out.set 4 _ rfl
                 have HO5 : Hid ((w4.setCell ⟨H + 1 + 1 + 1, 4, none⟩ (.slice a9 (al + 1) c9)).ownsRow (B2) 59 6 (.slice a9 (al + 1) c9) (al + 1) (gCs acc ++ gCs [(⟨xs, xt, .slice xa2 xn2 xc2, .slice ya2 yn2 yc2⟩ : PE)])) := hown4.kept (grown_setCell _ _ _) (owns_ne hown4 (by show H + 1 + 1 + 1 < _; have := HB2.out.1; omega))
                 have HOT5 : Hid (OTH H B2 nlF ns ns2 (w4.setCell ⟨H + 1 + 1 + 1, 4, none⟩ (.slice a9 (al + 1) c9))) := (HOT.out.grown hgrow HOb.out).set
                 clear HMa HOa HMb HOb hown4 hgrow HB4
                 simp only [zq]
                 refine hK _ _ ⟨(HM4.out).cells, HEL.out _ ⟨_, _, _, _, _, HM4.out⟩⟩ (fun hHeld => ?_)
                 clear hK K
                 refine tkB (i := 9) (v := .pointer (some ⟨H + 1 + 1 + 1, 4, none⟩)) rfl hHeld ?_
                 simp only [zq]
                 refine wpAnyH_ready (rs := [10]) (by kernel_rfl) (by simp) ?_
                 refine AllReadyH.cons (o := _) rfl (fun K hK => ?_) AllReadyH.nil
                 obtain ⟨m0, m1', m2', m3, m4, mf⟩ := HM4.out.wish
                 have mf0 := mf 4
                 clear mf
                 go_simp
                 refine hK _ _ ⟨(HM5.out).cells, HEL.out _ ⟨_, _, _, _, _, HM5.out⟩⟩ (fun hHeld => ?_)
                 clear hK K m0 m1' m2' m3 m4 mf0 HM4
                 refine wpAnyH_done (by kernel_rfl) ?_ _
                 clear hHeld
                 generalize w4.setCell ⟨H + 1 + 1 + 1, 4, none⟩ (.slice a9 (al + 1) c9) = w5 at *
                 have HNX : Hid (STP H w w5 na (some ⟨g, o, none⟩) na2 (some ⟨g2, o2, none⟩) nc mc nc2 mc2 n1 n2 m1 m2 sz qu sz2 qu2 ag ag2 B2 nlF ns ns2 es es2 i (k + 1) (.slice a9 (al + 1) c9)) := by
                  refine ⟨HM5.out, HOT5.out, acc ++ [(⟨xs, xt, .slice xa2 xn2 xc2, .slice ya2 yn2 yc2⟩ : PE)], by rw [List.length_append, HAL.out, gCs_app]; exact HO5.out, ?_, ?_⟩
                  · have h9 := HMG.out
                    rw [HDL.out] at h9
                    rw [← h9, List.append_assoc]
                    exact congrArg (acc ++ ·) (show _ = _ from (show mgP (es.drop i) ((⟨xs, xt, .slice xa2 xn2 xc2, .slice ya2 yn2 yc2⟩ : PE) :: es2.drop (k + 1)) = (⟨xs, xt, .slice xa2 xn2 xc2, .slice ya2 yn2 yc2⟩ : PE) :: mgP (es.drop i) (es2.drop (k + 1)) from by rw [HDO.out]; exact mg_gt _ _ HLT.out HEQ.out).symm)
                  · rw [List.length_append, HAL.out]; have h8 := HLN.out; simp; omega
                 clear HM5 HO5 HOT5 HOT
                 go_wp2
                 exact ⟨⟨i, k + 1, _, by omega, by omega, by go_num, by go_num, HNX.out⟩, by simp [intOf]; omega⟩
               · have HOT2 : Hid (OTH H B2 nlF ns ns2 (z31.alloc (.cells #[.string xs, .int .i64 xt.k, .int .i64 xt.n, .string xt.s, .slice xa2 xn2 xc2, .slice ya2 yn2 yc2] 59))) := HOT.out.keep ((Below.refl _ _).alloc (Nat.le_refl _) _)
                 clear HOT
                 have HOT := HOT2
                 clear HOT2
                 go_simp
                 have b : Below z31.heap.size z31 (z31.alloc (.cells #[.string xs, .int .i64 xt.k, .int .i64 xt.n, .string xt.s, .slice xa2 xn2 xc2, .slice ya2 yn2 yc2] 59)) := (Below.refl _ _).alloc (Nat.le_refl _) _
                 have HMb := Lib.hid (HMa.out.keep (b.mono HMa.out.2.2.2.2.1))
                 have HOb := Lib.hid (own_keep HOa.out b)
                 have HV : Hid ((z31.alloc (.cells #[.string xs, .int .i64 xt.k, .int .i64 xt.n, .string xt.s, .slice xa2 xn2 xc2, .slice ya2 yn2 yc2] 59)).heap[z31.heap.size]? = some (.cells (gCs [(⟨xs, xt, .slice xa2 xn2 xc2, .slice ya2 yn2 yc2⟩ : PE)]).toArray 59 (0, 0))) := heap_new _ _
                 clear b
                 refine hK _ _ ⟨(HMb.out).cells, HEL.out _ ⟨_, _, _, _, _, HMb.out⟩⟩ (fun hHeld => ?_)
                 clear hK K
                 generalize z31.alloc (.cells #[.string xs, .int .i64 xt.k, .int .i64 xt.n, .string xt.s, .slice xa2 xn2 xc2, .slice ya2 yn2 yc2] 59) = v30 at *
                 generalize z31.heap.size = vb at *
                 refine wpAnyH_ready (rs := [1]) (by kernel_rfl) (by simp) ?_
                 refine AllReadyH.cons (o := _) rfl (fun K hK => ?_) AllReadyH.nil
                 obtain ⟨m0, m1', m2', m3, m4, mf⟩ := HMb.out.wish
                 go_simp
                 refine hK _ _ ⟨(HMb.out).cells, HEL.out _ ⟨_, _, _, _, _, HMb.out⟩⟩ (fun hHeld => ?_)
                 clear hK K m0 m1' m2' m3 m4 mf
                 refine wpAnyH_ready (rs := [8]) (by kernel_rfl) (by simp) ?_
                 refine AllReadyH.cons (o := _) rfl (fun K hK => ?_) AllReadyH.nil
                 rw [if_pos (show Region.wanted _ _ = true by kernel_rfl)]
                 refine wp_append_gen _ _ 33 rfl (B2) 59 i0 _ 6 96 Try.underlying33 hi0 hz0 hz1 hz2 rfl (by omega) (.slice la al lc) al (gCs acc) rfl (by exact HOb.out) (some ⟨vb, 0, none⟩) 1 1 (gCs [(⟨xs, xt, .slice xa2 xn2 xc2, .slice ya2 yn2 yc2⟩ : PE)]) rfl rfl (fun h => by cases h) (fun ad had => by cases had; exact World.news_of_block HV.out) (gCs_one (by intro e he; simp at he; subst he; exact ⟨⟨_, _, _, rfl⟩, ⟨_, _, _, rfl⟩⟩)) (by unfold maxLen; omega) (by omega) (by have := HMb.out.2.2.2.2.1; exact HB2.out.2 _ HOT.out) ?_
                 intro a9 c9 w4 hown4 hgrow
                 have HB4 : Hid (Below (B2) v30 w4) := (Below.refl _ _).grown hgrow (HB2.out.2 _ HOT.out) (fun k hk => (World.ownsRow.lt HOb.out k hk).1)
                 have HM4 := Lib.hid (HMb.out.keep (HB4.out.mono HB2.out.1))
                 have HM5 : Hid (MR H w (w4.setCell ⟨H + 1 + 1 + 1, 4, none⟩ (.slice a9 (al + 1) c9)) na (some ⟨g, o, none⟩) na2 (some ⟨g2, o2, none⟩) nc mc nc2 mc2 n1 n2 m1 m2 sz qu sz2 qu2 ag ag2 nlF 0 0 ⟨#[]⟩ (.slice a9 (al + 1) c9)) := HM4.out.set 4 _ rfl
                 have HO5 : Hid ((w4.setCell ⟨H + 1 + 1 + 1, 4, none⟩ (.slice a9 (al + 1) c9)).ownsRow (B2) 59 6 (.slice a9 (al + 1) c9) (al + 1) (gCs acc ++ gCs [(⟨xs, xt, .slice xa2 xn2 xc2, .slice ya2 yn2 yc2⟩ : PE)])) := hown4.kept (grown_setCell _ _ _) (owns_ne hown4 (by show H + 1 + 1 + 1 < _; have := HB2.out.1; omega))
                 have HOT5 : Hid (OTH H B2 nlF ns ns2 (w4.setCell ⟨H + 1 + 1 + 1, 4, none⟩ (.slice a9 (al + 1) c9))) := (HOT.out.grown hgrow HOb.out).set
                 clear HMa HOa HMb HOb hown4 hgrow HB4
                 simp only [zq]
                 refine hK _ _ ⟨(HM4.out).cells, HEL.out _ ⟨_, _, _, _, _, HM4.out⟩⟩ (fun hHeld => ?_)
                 clear hK K
                 refine tkB (i := 9) (v := .pointer (some ⟨H + 1 + 1 + 1, 4, none⟩)) rfl hHeld ?_
                 simp only [zq]
                 refine wpAnyH_ready (rs := [10]) (by kernel_rfl) (by simp) ?_
                 refine AllReadyH.cons (o := _) rfl (fun K hK => ?_) AllReadyH.nil
                 obtain ⟨m0, m1', m2', m3, m4, mf⟩ := HM4.out.wish
                 have mf0 := mf 4
                 clear mf
                 go_simp
                 refine hK _ _ ⟨(HM5.out).cells, HEL.out _ ⟨_, _, _, _, _, HM5.out⟩⟩ (fun hHeld => ?_)
                 clear hK K m0 m1' m2' m3 m4 mf0 HM4
                 refine wpAnyH_done (by kernel_rfl) ?_ _
                 clear hHeld
                 generalize w4.setCell ⟨H + 1 + 1 + 1, 4, none⟩ (.slice a9 (al + 1) c9) = w5 at *
                 have HNX : Hid (STP H w w5 na (some ⟨g, o, none⟩) na2 (some ⟨g2, o2, none⟩) nc mc nc2 mc2 n1 n2 m1 m2 sz qu sz2 qu2 ag ag2 B2 nlF ns ns2 es es2 i (k + 1) (.slice a9 (al + 1) c9)) := by
                  refine ⟨HM5.out, HOT5.out, acc ++ [(⟨xs, xt, .slice xa2 xn2 xc2, .slice ya2 yn2 yc2⟩ : PE)], by rw [List.length_append, HAL.out, gCs_app]; exact HO5.out, ?_, ?_⟩
                  · have h9 := HMG.out
                    rw [HDL.out] at h9
                    rw [← h9, List.append_assoc]
                    exact congrArg (acc ++ ·) (show _ = _ from (show mgP (es.drop i) ((⟨xs, xt, .slice xa2 xn2 xc2, .slice ya2 yn2 yc2⟩ : PE) :: es2.drop (k + 1)) = (⟨xs, xt, .slice xa2 xn2 xc2, .slice ya2 yn2 yc2⟩ : PE) :: mgP (es.drop i) (es2.drop (k + 1)) from by rw [HDO.out]; exact mg_gt _ _ HLT.out HEQ.out).symm)
                  · rw [List.length_append, HAL.out]; have h8 := HLN.out; simp; omega
                 clear HM5 HO5 HOT5 HOT
                 go_wp2
                 exact ⟨⟨i, k + 1, _, by omega, by omega, by go_num, by go_num, HNX.out⟩, by simp [intOf]; omega⟩
           · obtain rfl : i = m1 := by omega
             go_upto_region 19 with fail
             refine wp_region_held_drew (S := MC H na ma na2 (some ⟨g2, o2, none⟩) nc mc nc2 mc2 n1 n2 i m2 sz qu sz2 qu2 ag ag2) (by kernel_rfl) ((HM.out.keep (belowDrew1 wr |>.mono HM.out.2.2.2.2.1)).cells) (fun hHeld => ?_)
             refine tkB (i := 0) (v := .int .i64 (i : Int)) rfl hHeld ?_
             simp only [zq]
             refine tkB (i := 1) (v := .pointer (some ⟨H, 4, none⟩)) rfl hHeld ?_
             simp only [zq]
             refine tkA (i := 2) (v := .slice ma i mc) rfl (Or.inl ⟨by rfl, fun w hw => by obtain ⟨⟨s0, s1, s2, s3, s4⟩, t0, t1, t2, t3, t4⟩ := hw; go_simp⟩) hHeld ?_
             simp only [zq]
             refine tkB (i := 3) (v := .int .i64 (i : Int)) rfl hHeld ?_
             simp only [zq]
             refine tkB (i := 4) (v := .bool false) rfl hHeld ?_
             simp only [zq]
             refine tkB (i := 5) (v := .bool false) rfl hHeld ?_
             simp only [zq]
             refine tkA (i := 6) (v := undef) rfl (Or.inr ⟨by rfl, rfl⟩) hHeld ?_
             simp only [zq]
             refine tkA (i := 7) (v := undef) rfl (Or.inr ⟨by rfl, rfl⟩) hHeld ?_
             simp only [zq]
             refine tkA (i := 8) (v := undef) rfl (Or.inr ⟨by rfl, rfl⟩) hHeld ?_
             simp only [zq]
             refine tkA (i := 9) (v := undef) rfl (Or.inr ⟨by rfl, rfl⟩) hHeld ?_
             simp only [zq]
             refine tkA (i := 10) (v := undef) rfl (Or.inr ⟨by rfl, rfl⟩) hHeld ?_
             simp only [zq]
             refine tkA (i := 11) (v := undef) rfl (Or.inr ⟨by rfl, rfl⟩) hHeld ?_
             simp only [zq]
             refine tkA (i := 12) (v := undef) rfl (Or.inr ⟨by rfl, rfl⟩) hHeld ?_
             simp only [zq]
             refine tkA (i := 13) (v := undef) rfl (Or.inr ⟨by rfl, rfl⟩) hHeld ?_
             simp only [zq]
             refine tkA (i := 14) (v := undef) rfl (Or.inr ⟨by rfl, rfl⟩) hHeld ?_
             simp only [zq]
             refine tkA (i := 15) (v := undef) rfl (Or.inr ⟨by rfl, rfl⟩) hHeld ?_
             simp only [zq]
             refine tkA (i := 16) (v := undef) rfl (Or.inr ⟨by rfl, rfl⟩) hHeld ?_
             simp only [zq]
             refine tkA (i := 17) (v := undef) rfl (Or.inr ⟨by rfl, rfl⟩) hHeld ?_
             simp only [zq]
             refine tkA (i := 18) (v := undef) rfl (Or.inr ⟨by rfl, rfl⟩) hHeld ?_
             simp only [zq]
             refine tkB (i := 19) (v := .bool false) rfl hHeld ?_
             simp only [zq]
             refine wpAnyH_done (by kernel_rfl) ?_ _
             clear hHeld
             have HMd := Lib.hid (HM.out.keep (belowDrew1 wr |>.mono HM.out.2.2.2.2.1))
             have HO2 := Lib.hid (own_keep HO.out (belowDrew1 wr))
             have HOT2 := Lib.hid (HOT.out.keep (belowDrew1 wr))
             clear HOT
             have HOT := HOT2
             clear HOT2
             clear HM HO
             have HO := HO2
             clear HO2
             generalize wr.drew = c32 at *
             go_upto_region 22 with fail
             refine wp_region_held_drew (S := MC H na ma na2 (some ⟨g2, o2, none⟩) nc mc nc2 mc2 n1 n2 i m2 sz qu sz2 qu2 ag ag2) (by kernel_rfl) ((HMd.out.keep (belowDrew1 c32 |>.mono HMd.out.2.2.2.2.1)).cells) (fun hHeld => ?_)
             refine tkB (i := 0) (v := .int .i64 (i : Int)) rfl hHeld ?_
             simp only [zq]
             refine tkB (i := 1) (v := .pointer (some ⟨H, 4, none⟩)) rfl hHeld ?_
             simp only [zq]
             refine tkA (i := 2) (v := .slice ma i mc) rfl (Or.inl ⟨by rfl, fun w hw => by obtain ⟨⟨s0, s1, s2, s3, s4⟩, t0, t1, t2, t3, t4⟩ := hw; go_simp⟩) hHeld ?_
             simp only [zq]
             refine tkB (i := 3) (v := .int .i64 (i : Int)) rfl hHeld ?_
             simp only [zq]
             refine tkB (i := 4) (v := .bool false) rfl hHeld ?_
             simp only [zq]
             refine tkB (i := 5) (v := .bool false) rfl hHeld ?_
             simp only [zq]
             refine tkA (i := 6) (v := undef) rfl (Or.inr ⟨by rfl, rfl⟩) hHeld ?_
             simp only [zq]
             refine tkA (i := 7) (v := undef) rfl (Or.inr ⟨by rfl, rfl⟩) hHeld ?_
             simp only [zq]
             refine tkA (i := 8) (v := undef) rfl (Or.inr ⟨by rfl, rfl⟩) hHeld ?_
             simp only [zq]
             refine tkA (i := 9) (v := undef) rfl (Or.inr ⟨by rfl, rfl⟩) hHeld ?_
             simp only [zq]
             refine tkA (i := 10) (v := undef) rfl (Or.inr ⟨by rfl, rfl⟩) hHeld ?_
             simp only [zq]
             refine tkA (i := 11) (v := undef) rfl (Or.inr ⟨by rfl, rfl⟩) hHeld ?_
             simp only [zq]
             refine tkA (i := 12) (v := undef) rfl (Or.inr ⟨by rfl, rfl⟩) hHeld ?_
             simp only [zq]
             refine tkA (i := 13) (v := undef) rfl (Or.inr ⟨by rfl, rfl⟩) hHeld ?_
             simp only [zq]
             refine tkA (i := 14) (v := undef) rfl (Or.inr ⟨by rfl, rfl⟩) hHeld ?_
             simp only [zq]
             refine tkA (i := 15) (v := undef) rfl (Or.inr ⟨by rfl, rfl⟩) hHeld ?_
             simp only [zq]
             refine tkA (i := 16) (v := undef) rfl (Or.inr ⟨by rfl, rfl⟩) hHeld ?_
             simp only [zq]
             refine tkA (i := 17) (v := undef) rfl (Or.inr ⟨by rfl, rfl⟩) hHeld ?_
             simp only [zq]
             refine tkA (i := 18) (v := undef) rfl (Or.inr ⟨by rfl, rfl⟩) hHeld ?_
             simp only [zq]
             refine tkB (i := 19) (v := .bool false) rfl hHeld ?_
             simp only [zq]
             refine wpAnyH_done (by kernel_rfl) ?_ _
             clear hHeld
             have HMc := Lib.hid (HMd.out.keep (belowDrew1 c32 |>.mono HMd.out.2.2.2.2.1))
             have HOc := Lib.hid (own_keep HO.out (belowDrew1 c32))
             have HOT2 := Lib.hid (HOT.out.keep (belowDrew1 c32))
             clear HOT
             have HOT := HOT2
             clear HOT2
             clear HMd HO
             generalize c32.drew = c33 at *
             go_upto_region 24 with fail
             refine wp_region_held_drew (S := fun x => MC H na ma na2 (some ⟨g2, o2, none⟩) nc mc nc2 mc2 n1 n2 i m2 sz qu sz2 qu2 ag ag2 x ∧ x.cell? ⟨g2, o2 + k * 6, none⟩ = some (.string xs) ∧ x.cell? ⟨g2, o2 + k * 6 + 1, none⟩ = some (.int .i64 xt.k) ∧ x.cell? ⟨g2, o2 + k * 6 + 2, none⟩ = some (.int .i64 xt.n) ∧ x.cell? ⟨g2, o2 + k * 6 + 3, none⟩ = some (.string xt.s) ∧ x.cell? ⟨g2, o2 + k * 6 + 4, none⟩ = some (.slice xa2 xn2 xc2) ∧ x.cell? ⟨g2, o2 + k * 6 + 5, none⟩ = some (.slice ya2 yn2 yc2)) (by kernel_rfl) (⟨(HMc.out.keep (belowDrew1 c33 |>.mono HMc.out.2.2.2.2.1)).cells, HEL.out _ ⟨_, _, _, _, _, HMc.out.keep (belowDrew1 c33 |>.mono HMc.out.2.2.2.2.1)⟩⟩) (fun hHeld => ?_)
             refine tkB (i := 0) (v := .pointer (some ⟨H + 1 + 1 + 1, 4, none⟩)) rfl hHeld ?_
             simp only [zq]
             refine tkB (i := 2) (v := .pointer (some ⟨H + 1, 4, none⟩)) rfl hHeld ?_
             simp only [zq]
             refine tkA (i := 3) (v := .slice (some ⟨g2, o2, none⟩) m2 mc2) rfl (Or.inl ⟨by rfl, fun w hw => by obtain ⟨⟨⟨s0, s1, s2, s3, s4⟩, t0, t1, t2, t3, t4⟩, e0, e1, e2, e3, e4, e5⟩ := hw; go_simp⟩) hHeld ?_
             simp only [zq]
             refine tkB (i := 4) (v := .int .i64 (k : Int)) rfl hHeld ?_
             simp only [zq]
             refine tkB (i := 5) (v := .pointer (some ⟨g2, o2 + k * 6, none⟩)) rfl hHeld ?_
             simp only [zq]
             refine tkA (i := 6) (v := .agg #[.string xs, .int .i64 xt.k, .int .i64 xt.n, .string xt.s, .slice xa2 xn2 xc2, .slice ya2 yn2 yc2]) rfl (Or.inl ⟨by rfl, fun w hw => by obtain ⟨⟨⟨s0, s1, s2, s3, s4⟩, t0, t1, t2, t3, t4⟩, e0, e1, e2, e3, e4, e5⟩ := hw; go_simp⟩) hHeld ?_
             simp only [zq]
             have HMa := Lib.hid (HMc.out.keep (belowDrew1 c33 |>.mono HMc.out.2.2.2.2.1))
             have HOa := Lib.hid (own_keep HOc.out (belowDrew1 c33))
             have HOT2 := Lib.hid (HOT.out.keep (belowDrew1 c33))
             clear HOT
             have HOT := HOT2
             clear HOT2
             generalize c33.drew = z36 at *
             refine wpAnyH_ready (rs := [1, 7]) (by kernel_rfl) (by simp) ?_
             refine AllReadyH.cons (o := _) rfl (fun K hK => ?_) (AllReadyH.cons (o := _) rfl (fun K hK => ?_) AllReadyH.nil)
             · obtain ⟨m0, m1', m2', m3, m4, mf⟩ := HMa.out.wish
               go_simp
               refine hK _ _ ⟨(HMa.out).cells, HEL.out _ ⟨_, _, _, _, _, HMa.out⟩⟩ (fun hHeld => ?_)
               clear hK K m0 m1' m2' m3 m4 mf
               refine wpAnyH_ready (rs := [7]) (by kernel_rfl) (by simp) ?_
               refine AllReadyH.cons (o := _) rfl (fun K hK => ?_) AllReadyH.nil
               have HOT2 : Hid (OTH H B2 nlF ns ns2 (z36.alloc (.cells #[.string xs, .int .i64 xt.k, .int .i64 xt.n, .string xt.s, .slice xa2 xn2 xc2, .slice ya2 yn2 yc2] 59))) := HOT.out.keep ((Below.refl _ _).alloc (Nat.le_refl _) _)
               clear HOT
               have HOT := HOT2
               clear HOT2
               go_simp
               have b : Below z36.heap.size z36 (z36.alloc (.cells #[.string xs, .int .i64 xt.k, .int .i64 xt.n, .string xt.s, .slice xa2 xn2 xc2, .slice ya2 yn2 yc2] 59)) := (Below.refl _ _).alloc (Nat.le_refl _) _
               have HMb := Lib.hid (HMa.out.keep (b.mono HMa.out.2.2.2.2.1))
               have HOb := Lib.hid (own_keep HOa.out b)
               have HV : Hid ((z36.alloc (.cells #[.string xs, .int .i64 xt.k, .int .i64 xt.n, .string xt.s, .slice xa2 xn2 xc2, .slice ya2 yn2 yc2] 59)).heap[z36.heap.size]? = some (.cells (gCs [(⟨xs, xt, .slice xa2 xn2 xc2, .slice ya2 yn2 yc2⟩ : PE)]).toArray 59 (0, 0))) := heap_new _ _
               clear b
               refine hK _ _ ⟨(HMb.out).cells, HEL.out _ ⟨_, _, _, _, _, HMb.out⟩⟩ (fun hHeld => ?_)
               clear hK K
               generalize z36.alloc (.cells #[.string xs, .int .i64 xt.k, .int .i64 xt.n, .string xt.s, .slice xa2 xn2 xc2, .slice ya2 yn2 yc2] 59) = v34 at *
               generalize z36.heap.size = vb at *
               refine wpAnyH_ready (rs := [8]) (by kernel_rfl) (by simp) ?_
               refine AllReadyH.cons (o := _) rfl (fun K hK => ?_) AllReadyH.nil
               rw [if_pos (show Region.wanted _ _ = true by kernel_rfl)]
               refine wp_append_gen _ _ 33 rfl (B2) 59 i0 _ 6 96 Try.underlying33 hi0 hz0 hz1 hz2 rfl (by omega) (.slice la al lc) al (gCs acc) rfl (by exact HOb.out) (some ⟨vb, 0, none⟩) 1 1 (gCs [(⟨xs, xt, .slice xa2 xn2 xc2, .slice ya2 yn2 yc2⟩ : PE)]) rfl rfl (fun h => by cases h) (fun ad had => by cases had; exact World.news_of_block HV.out) (gCs_one (by intro e he; simp at he; subst he; exact ⟨⟨_, _, _, rfl⟩, ⟨_, _, _, rfl⟩⟩)) (by unfold maxLen; omega) (by omega) (by have := HMb.out.2.2.2.2.1; exact HB2.out.2 _ HOT.out) ?_
               intro a9 c9 w4 hown4 hgrow
               have HB4 : Hid (Below (B2) v34 w4) := (Below.refl _ _).grown hgrow (HB2.out.2 _ HOT.out) (fun k hk => (World.ownsRow.lt HOb.out k hk).1)
               have HM4 := Lib.hid (HMb.out.keep (HB4.out.mono HB2.out.1))
               have HM5 : Hid (MR H w (w4.setCell ⟨H + 1 + 1 + 1, 4, none⟩ (.slice a9 (al + 1) c9)) na ma na2 (some ⟨g2, o2, none⟩) nc mc nc2 mc2 n1 n2 i m2 sz qu sz2 qu2 ag ag2 nlF 0 0 ⟨#[]⟩ (.slice a9 (al + 1) c9)) := HM4.out.set 4 _ rfl
               have HO5 : Hid ((w4.setCell ⟨H + 1 + 1 + 1, 4, none⟩ (.slice a9 (al + 1) c9)).ownsRow (B2) 59 6 (.slice a9 (al + 1) c9) (al + 1) (gCs acc ++ gCs [(⟨xs, xt, .slice xa2 xn2 xc2, .slice ya2 yn2 yc2⟩ : PE)])) := hown4.kept (grown_setCell _ _ _) (owns_ne hown4 (by show H + 1 + 1 + 1 < _; have := HB2.out.1; omega))
               have HOT5 : Hid (OTH H B2 nlF ns ns2 (w4.setCell ⟨H + 1 + 1 + 1, 4, none⟩ (.slice a9 (al + 1) c9))) := (HOT.out.grown hgrow HOb.out).set
               clear HMa HOa HMb HOb hown4 hgrow HB4
               simp only [zq]
               refine hK _ _ ⟨(HM4.out).cells, HEL.out _ ⟨_, _, _, _, _, HM4.out⟩⟩ (fun hHeld => ?_)
               clear hK K
               refine tkB (i := 9) (v := .pointer (some ⟨H + 1 + 1 + 1, 4, none⟩)) rfl hHeld ?_
               simp only [zq]
               refine wpAnyH_ready (rs := [10]) (by kernel_rfl) (by simp) ?_
               refine AllReadyH.cons (o := _) rfl (fun K hK => ?_) AllReadyH.nil
               obtain ⟨m0, m1', m2', m3, m4, mf⟩ := HM4.out.wish
               have mf0 := mf 4
               clear mf
               go_simp
               refine hK _ _ ⟨(HM5.out).cells, HEL.out _ ⟨_, _, _, _, _, HM5.out⟩⟩ (fun hHeld => ?_)
               clear hK K m0 m1' m2' m3 m4 mf0 HM4
               refine wpAnyH_done (by kernel_rfl) ?_ _
               clear hHeld
               generalize w4.setCell ⟨H + 1 + 1 + 1, 4, none⟩ (.slice a9 (al + 1) c9) = w5 at *
               have HNX : Hid (STP H w w5 na ma na2 (some ⟨g2, o2, none⟩) nc mc nc2 mc2 n1 n2 i m2 sz qu sz2 qu2 ag ag2 B2 nlF ns ns2 es es2 i (k + 1) (.slice a9 (al + 1) c9)) := by
                refine ⟨HM5.out, HOT5.out, acc ++ [(⟨xs, xt, .slice xa2 xn2 xc2, .slice ya2 yn2 yc2⟩ : PE)], by rw [List.length_append, HAL.out, gCs_app]; exact HO5.out, ?_, ?_⟩
                · have h9 := HMG.out
                  rw [HDL.out] at h9
                  rw [← h9, List.append_assoc]
                  exact congrArg (acc ++ ·) (show _ = _ from (show mgP (es.drop i) ((⟨xs, xt, .slice xa2 xn2 xc2, .slice ya2 yn2 yc2⟩ : PE) :: es2.drop (k + 1)) = (⟨xs, xt, .slice xa2 xn2 xc2, .slice ya2 yn2 yc2⟩ : PE) :: mgP (es.drop i) (es2.drop (k + 1)) from by rw [mgP, mgP, List.drop_eq_nil_of_le (by have := HL.out; omega), mg_none, mg_none]).symm)
                · rw [List.length_append, HAL.out]; have h8 := HLN.out; simp; omega
               clear HM5 HO5 HOT5 HOT
               go_wp2
               exact ⟨⟨i, k + 1, _, by omega, by omega, by go_num, by go_num, HNX.out⟩, by simp [intOf]; omega⟩
             · have HOT2 : Hid (OTH H B2 nlF ns ns2 (z36.alloc (.cells #[.string xs, .int .i64 xt.k, .int .i64 xt.n, .string xt.s, .slice xa2 xn2 xc2, .slice ya2 yn2 yc2] 59))) := HOT.out.keep ((Below.refl _ _).alloc (Nat.le_refl _) _)
               clear HOT
               have HOT := HOT2
               clear HOT2
               go_simp
               have b : Below z36.heap.size z36 (z36.alloc (.cells #[.string xs, .int .i64 xt.k, .int .i64 xt.n, .string xt.s, .slice xa2 xn2 xc2, .slice ya2 yn2 yc2] 59)) := (Below.refl _ _).alloc (Nat.le_refl _) _
               have HMb := Lib.hid (HMa.out.keep (b.mono HMa.out.2.2.2.2.1))
               have HOb := Lib.hid (own_keep HOa.out b)
               have HV : Hid ((z36.alloc (.cells #[.string xs, .int .i64 xt.k, .int .i64 xt.n, .string xt.s, .slice xa2 xn2 xc2, .slice ya2 yn2 yc2] 59)).heap[z36.heap.size]? = some (.cells (gCs [(⟨xs, xt, .slice xa2 xn2 xc2, .slice ya2 yn2 yc2⟩ : PE)]).toArray 59 (0, 0))) := heap_new _ _
               clear b
               refine hK _ _ ⟨(HMb.out).cells, HEL.out _ ⟨_, _, _, _, _, HMb.out⟩⟩ (fun hHeld => ?_)
               clear hK K
               generalize z36.alloc (.cells #[.string xs, .int .i64 xt.k, .int .i64 xt.n, .string xt.s, .slice xa2 xn2 xc2, .slice ya2 yn2 yc2] 59) = v35 at *
               generalize z36.heap.size = vb at *
               refine wpAnyH_ready (rs := [1]) (by kernel_rfl) (by simp) ?_
               refine AllReadyH.cons (o := _) rfl (fun K hK => ?_) AllReadyH.nil
               obtain ⟨m0, m1', m2', m3, m4, mf⟩ := HMb.out.wish
               go_simp
               refine hK _ _ ⟨(HMb.out).cells, HEL.out _ ⟨_, _, _, _, _, HMb.out⟩⟩ (fun hHeld => ?_)
               clear hK K m0 m1' m2' m3 m4 mf
               refine wpAnyH_ready (rs := [8]) (by kernel_rfl) (by simp) ?_
               refine AllReadyH.cons (o := _) rfl (fun K hK => ?_) AllReadyH.nil
               rw [if_pos (show Region.wanted _ _ = true by kernel_rfl)]
               refine wp_append_gen _ _ 33 rfl (B2) 59 i0 _ 6 96 Try.underlying33 hi0 hz0 hz1 hz2 rfl (by omega) (.slice la al lc) al (gCs acc) rfl (by exact HOb.out) (some ⟨vb, 0, none⟩) 1 1 (gCs [(⟨xs, xt, .slice xa2 xn2 xc2, .slice ya2 yn2 yc2⟩ : PE)]) rfl rfl (fun h => by cases h) (fun ad had => by cases had; exact World.news_of_block HV.out) (gCs_one (by intro e he; simp at he; subst he; exact ⟨⟨_, _, _, rfl⟩, ⟨_, _, _, rfl⟩⟩)) (by unfold maxLen; omega) (by omega) (by have := HMb.out.2.2.2.2.1; exact HB2.out.2 _ HOT.out) ?_
               intro a9 c9 w4 hown4 hgrow
               have HB4 : Hid (Below (B2) v35 w4) := (Below.refl _ _).grown hgrow (HB2.out.2 _ HOT.out) (fun k hk => (World.ownsRow.lt HOb.out k hk).1)
               have HM4 := Lib.hid (HMb.out.keep (HB4.out.mono HB2.out.1))
               have HM5 : Hid (MR H w (w4.setCell ⟨H + 1 + 1 + 1, 4, none⟩ (.slice a9 (al + 1) c9)) na ma na2 (some ⟨g2, o2, none⟩) nc mc nc2 mc2 n1 n2 i m2 sz qu sz2 qu2 ag ag2 nlF 0 0 ⟨#[]⟩ (.slice a9 (al + 1) c9)) := HM4.out.set 4 _ rfl
               have HO5 : Hid ((w4.setCell ⟨H + 1 + 1 + 1, 4, none⟩ (.slice a9 (al + 1) c9)).ownsRow (B2) 59 6 (.slice a9 (al + 1) c9) (al + 1) (gCs acc ++ gCs [(⟨xs, xt, .slice xa2 xn2 xc2, .slice ya2 yn2 yc2⟩ : PE)])) := hown4.kept (grown_setCell _ _ _) (owns_ne hown4 (by show H + 1 + 1 + 1 < _; have := HB2.out.1; omega))
               have HOT5 : Hid (OTH H B2 nlF ns ns2 (w4.setCell ⟨H + 1 + 1 + 1, 4, none⟩ (.slice a9 (al + 1) c9))) := (HOT.out.grown hgrow HOb.out).set
               clear HMa HOa HMb HOb hown4 hgrow HB4
               simp only [zq]
               refine hK _ _ ⟨(HM4.out).cells, HEL.out _ ⟨_, _, _, _, _, HM4.out⟩⟩ (fun hHeld => ?_)
               clear hK K
               refine tkB (i := 9) (v := .pointer (some ⟨H + 1 + 1 + 1, 4, none⟩)) rfl hHeld ?_
               simp only [zq]
               refine wpAnyH_ready (rs := [10]) (by kernel_rfl) (by simp) ?_
               refine AllReadyH.cons (o := _) rfl (fun K hK => ?_) AllReadyH.nil
               obtain ⟨m0, m1', m2', m3, m4, mf⟩ := HM4.out.wish
               have mf0 := mf 4
               clear mf
               go_simp
               refine hK _ _ ⟨(HM5.out).cells, HEL.out _ ⟨_, _, _, _, _, HM5.out⟩⟩ (fun hHeld => ?_)
               clear hK K m0 m1' m2' m3 m4 mf0 HM4
               refine wpAnyH_done (by kernel_rfl) ?_ _
               clear hHeld
               generalize w4.setCell ⟨H + 1 + 1 + 1, 4, none⟩ (.slice a9 (al + 1) c9) = w5 at *
               have HNX : Hid (STP H w w5 na ma na2 (some ⟨g2, o2, none⟩) nc mc nc2 mc2 n1 n2 i m2 sz qu sz2 qu2 ag ag2 B2 nlF ns ns2 es es2 i (k + 1) (.slice a9 (al + 1) c9)) := by
                refine ⟨HM5.out, HOT5.out, acc ++ [(⟨xs, xt, .slice xa2 xn2 xc2, .slice ya2 yn2 yc2⟩ : PE)], by rw [List.length_append, HAL.out, gCs_app]; exact HO5.out, ?_, ?_⟩
                · have h9 := HMG.out
                  rw [HDL.out] at h9
                  rw [← h9, List.append_assoc]
                  exact congrArg (acc ++ ·) (show _ = _ from (show mgP (es.drop i) ((⟨xs, xt, .slice xa2 xn2 xc2, .slice ya2 yn2 yc2⟩ : PE) :: es2.drop (k + 1)) = (⟨xs, xt, .slice xa2 xn2 xc2, .slice ya2 yn2 yc2⟩ : PE) :: mgP (es.drop i) (es2.drop (k + 1)) from by rw [mgP, mgP, List.drop_eq_nil_of_le (by have := HL.out; omega), mg_none, mg_none]).symm)
                · rw [List.length_append, HAL.out]; have h8 := HLN.out; simp; omega
               clear HM5 HO5 HOT5 HOT
               go_wp2
               exact ⟨⟨i, k + 1, _, by omega, by omega, by go_num, by go_num, HNX.out⟩, by simp [intOf]; omega⟩
        · obtain rfl : m2 = k := by omega
          obtain ⟨hmr, hot, acc, hown, hmg, hlen⟩ := HI.out
          obtain ⟨la, lc, rfl⟩ := ownForm hown
          have HF : Hid (acc ++ es.drop i = mgP es es2) := by
           rw [show es2.drop m2 = [] from List.drop_eq_nil_of_le (by have := HL.out; omega), show mgP (es.drop i) [] = es.drop i from mg_nil _ _ _] at hmg
           exact hmg
          have HM := Lib.hid hmr
          have HO := Lib.hid hown
          have HOT := Lib.hid hot
          clear hot
          clear HI hmr hown hmg
          generalize hal : acc.length = al at *
          have HAL := Lib.hid hal
          clear hal
          have hcp := HC.out.2.2.1 _ _ _ rfl
          have hsm := HSM.out.2.2
          have HONE : Hid (∀ u ∈ gCs (es.drop i), u.oneCell' = true) := gCs_one (fun e he => ((HN1.out.2.2.1.rv e (List.mem_of_mem_drop he)).slices))
          go_upto_region 25 with fail
          clear x0 x1 x2 x3 x4 y0 y1 y2 y3 y4
          refine share_reg (fun OPS QQ hO hQ => ?_)
          have HEND0 : Hid (∀ (t' : Nat → Value) (x : World) (a9 : Option Addr) (c9 : Nat), Hid (MR H w x na ma na2 ma2 nc mc nc2 mc2 n1 n2 m1 m2 sz qu sz2 qu2 ag ag2 nlF 0 0 ⟨#[]⟩ (.slice a9 (mgP es es2).length c9) ∧ x.ownsRow (B2) 59 6 (.slice a9 (mgP es es2).length c9) (mgP es es2).length (gCs (mgP es es2)) ∧ OTH H B2 nlF ns ns2 x) → QQ .normal { tmps := #[.agg #[.slice na n1 nc, .int .i64 sz, .int .i64 qu, .string ag, .slice ma m1 mc], .agg #[.slice na2 n2 nc2, .int .i64 sz2, .int .i64 qu2, .string ag2, .slice ma2 m2 mc2], .pointer (some ⟨H, 0, none⟩), .pointer (some ⟨H + 1, 0, none⟩), .pointer (some ⟨H + 1 + 1, 0, none⟩), .pointer (some ⟨H + 1 + 1 + 1, 0, none⟩), t' 6, t' 7, t' 8, t' 9, t' 10, t' 11, t' 12, t' 13, t' 14, t' 15, t' 16, t' 17, t' 18, t' 19, t' 20, t' 21, t' 22, t' 23, t' 24, t' 25, t' 26, t' 27, t' 28, t' 29, t' 30, t' 31, t' 32, t' 33, t' 34, t' 35, t' 36, t' 37, t' 38, t' 39, t' 40, t' 41, t' 42, t' 43, t' 44, t' 45, t' 46, t' 47, t' 48, t' 49, t' 50, t' 51, t' 52, t' 53, t' 54, t' 55, t' 56, t' 57, t' 58, t' 59, t' 60, t' 61, t' 62, t' 63, t' 64, t' 65, t' 66, t' 67, t' 68, t' 69, t' 70, t' 71, t' 72, t' 73, t' 74, t' 75, t' 76, t' 77, t' 78, t' 79, t' 80, t' 81, t' 82, t' 83, t' 84, t' 85, t' 86, t' 87, t' 88, t' 89, t' 90, t' 91, t' 92, t' 93, t' 94, t' 95, t' 96, t' 97, t' 98, t' 99, t' 100, t' 101, t' 102, t' 103, t' 104, t' 105, t' 106, t' 107, t' 108, t' 109, t' 110, t' 111, t' 112, t' 113, t' 114, t' 115, t' 116, t' 117, t' 118, t' 119, t' 120, t' 121, t' 122, t' 123, t' 124, t' 125, t' 126, t' 127, t' 128, t' 129, t' 130, t' 131, t' 132, t' 133, t' 134, t' 135, t' 136, t' 137, t' 138, t' 139, t' 140, t' 141, t' 142, t' 143, t' 144, t' 145, t' 146, t' 147, t' 148, t' 149, t' 150, t' 151, t' 152, t' 153, t' 154, t' 155, t' 156, t' 157, t' 158, t' 159, t' 160, t' 161, t' 162, t' 163, t' 164, t' 165, t' 166, t' 167, t' 168, t' 169, t' 170, t' 171, t' 172, t' 173, t' 174, t' 175, t' 176, t' 177, t' 178, t' 179, t' 180, t' 181, t' 182, t' 183, t' 184, t' 185, t' 186, t' 187, t' 188, t' 189, t' 190, t' 191, t' 192, t' 193, t' 194, t' 195, t' 196, t' 197, t' 198, t' 199, t' 200, t' 201, t' 202, t' 203, t' 204, t' 205, t' 206, t' 207], defers := [] } x) := by
           intro t' x a9 c9 HF2
           subst hQ
           clear hO HO HM HF HAL HONE hcp hsm la lc HOT HY1 HY2
           obtain ⟨fa, fc, hfn⟩ := ownForm HF2.out.2.2.1
           subst hfn
           have hlen := mg_len ltP eqP es es2
           have hsm2 := HSM.out.2.2
           have hll := HL.out
           have hrv : ∀ e ∈ mgP es es2, RV (fun b => b < H) x e.t e.x e.y := fun e he => by
            have hb := HF2.out.1.2.2.2.2.2
            have hrw : RV (fun b => b < H) w e.t e.x e.y := (mg_mem _ _ _ _ e he).elim (HN1.out.2.2.1.rv e) (HN1.out.2.2.2.rv e)
            exact RV.keep (fun _ h => h) (by have h5 := hb.size; have h6 := HF2.out.1.2.2.2.2.2.size; exact h5) (fun q hq _ => hb.block q hq) _ _ _ hrw
           have hq := copied42 (mgP es es2).length (kyG (mgP es es2)) (dvG (mgP es es2)) (.slice a9 (mgP es es2).length c9) x (fun i hi => by
            rw [dvG_at hi]
            exact ⟨(mg_mem _ _ _ _ _ (List.getElem_mem hi)).elim (fun h => (HK.out.2.2 _ h).2) (fun h => (HK2.out.2.2 _ h).2), (mg_mem _ _ _ _ _ (List.getElem_mem hi)).elim (HSM.out.1 _) (HSM.out.2.1 _)⟩) (by unfold mgP; omega) (show GR B2 H x (.slice a9 (mgP es es2).length c9) (mgP es es2) from ⟨HF2.out.2.1, hrv⟩).rd
           have HQ := Lib.hid hq
           have HOT := Lib.hid HF2.out.2.2
           have HM := Lib.hid HF2.out.1
           clear hq hrv HF2 hlen hsm2 hll
           obtain ⟨m0, m1', m2', m3, m4, mf⟩ := HM.out.wish
           have mf4 := mf 4
           clear mf
           go_wp2_with fail
           refine HQ.out.mono ?_
           rintro e x2 ⟨y', rfl, hrd, hb⟩
           have HM2 := Lib.hid (HM.out.keep (hb.mono HM.out.2.2.2.2.1))
           have HO2 := Lib.hid (own_keep HOT.out.1 hb)
           have HR : Hid (RD (fun b => H + 4 ≤ b) x2 (mgP es es2).length (kyG (mgP es es2)) (dvG (mgP es es2)) y') := RD.keep (fun q h => Nat.le_trans HM.out.2.2.2.2.1 h) (Nat.le_refl _) (fun _ _ _ => rfl) hrd
           obtain ⟨ya, yc, rfl, -⟩ := hrd
           clear HQ HOT HM hb m0 m1' m2' m3 m4 mf4
           obtain ⟨m0, m1', m2', m3, m4, mf⟩ := HM2.out.wish
           have mf4 := mf 4
           clear mf
           go_upto_region 27 with fail
           have HM : Hid (MR H w (x2.setCell ⟨H + 1 + 1 + 1, 4, none⟩ (.slice ya (mgP es es2).length yc)) na ma na2 ma2 nc mc nc2 mc2 n1 n2 m1 m2 sz qu sz2 qu2 ag ag2 (.slice fa (mgN ns ns2).length fc) 0 0 ⟨#[]⟩ (.slice ya (mgP es es2).length yc)) := HM2.out.set 4 _ rfl
           have HBS : Hid (Besides (H + 1 + 1 + 1) x2 (x2.setCell ⟨H + 1 + 1 + 1, 4, none⟩ (.slice ya (mgP es es2).length yc))) := besides_set (Besides.refl _ _)
           clear HM2 m0 m1' m2' m3 m4 mf4
           generalize x2.setCell ⟨H + 1 + 1 + 1, 4, none⟩ (.slice ya (mgP es es2).length yc) = x3 at *
           by_cases h0 : sz2 = 0
           · obtain ⟨⟨x0, x1, x2', x3', x4⟩, y0, y1, y2, y3, y4⟩ := HM.out.cells
             obtain ⟨m0, m1', m2', m3, m4, mf⟩ := HM.out.wish
             have mfk := mf 1
             clear mf
             have ho : (orI sz2 sz) = sz := by unfold orI; rw [if_pos h0]
             go_upto_region 30 with fail
             have HM' : Hid (MR H w (x3.setCell ⟨H + 1 + 1 + 1, 1, none⟩ (.int .i64 sz)) na ma na2 ma2 nc mc nc2 mc2 n1 n2 m1 m2 sz qu sz2 qu2 ag ag2 (.slice fa (mgN ns ns2).length fc) (orI sz2 sz) 0 ⟨#[]⟩ (.slice ya (mgP es es2).length yc)) := by rw [ho]; exact HM.out.set 1 (.int .i64 sz) rfl
             have HBS' : Hid (Besides (H + 1 + 1 + 1) x2 (x3.setCell ⟨H + 1 + 1 + 1, 1, none⟩ (.int .i64 sz))) := besides_set HBS.out
             clear HM HBS x0 x1 x2' x3' x4 y0 y1 y2 y3 y4 m0 m1' m2' m3 m4 mfk ho
             generalize (x3.setCell ⟨H + 1 + 1 + 1, 1, none⟩ (.int .i64 sz)) = wy1 at *
             have HM := HM'
             have HBS := HBS'
             clear HM' HBS'
             by_cases h1 : qu2 = 0
             · obtain ⟨⟨x0, x1, x2', x3', x4⟩, y0, y1, y2, y3, y4⟩ := HM.out.cells
               obtain ⟨m0, m1', m2', m3, m4, mf⟩ := HM.out.wish
               have mfk := mf 2
               clear mf
               have ho : (orI qu2 qu) = qu := by unfold orI; rw [if_pos h1]
               go_upto_region 33 with fail
               have HM' : Hid (MR H w (wy1.setCell ⟨H + 1 + 1 + 1, 2, none⟩ (.int .i64 qu)) na ma na2 ma2 nc mc nc2 mc2 n1 n2 m1 m2 sz qu sz2 qu2 ag ag2 (.slice fa (mgN ns ns2).length fc) (orI sz2 sz) (orI qu2 qu) ⟨#[]⟩ (.slice ya (mgP es es2).length yc)) := by rw [ho]; exact HM.out.set 2 (.int .i64 qu) rfl
               have HBS' : Hid (Besides (H + 1 + 1 + 1) x2 (wy1.setCell ⟨H + 1 + 1 + 1, 2, none⟩ (.int .i64 qu))) := besides_set HBS.out
               clear HM HBS x0 x1 x2' x3' x4 y0 y1 y2 y3 y4 m0 m1' m2' m3 m4 mfk ho
               generalize (wy1.setCell ⟨H + 1 + 1 + 1, 2, none⟩ (.int .i64 qu)) = wy2 at *
               have HM := HM'
               have HBS := HBS'
               clear HM' HBS'
               by_cases h2 : ag2.toList = []
               · obtain ⟨⟨x0, x1, x2', x3', x4⟩, y0, y1, y2, y3, y4⟩ := HM.out.cells
                 obtain ⟨m0, m1', m2', m3, m4, mf⟩ := HM.out.wish
                 have mfk := mf 3
                 clear mf
                 have hq : ag2.toList.isEmpty = true := by rw [h2]; rfl
                 go_upto_region 36 with fail
                 have HM' : Hid (MR H w (wy2.setCell ⟨H + 1 + 1 + 1, 3, none⟩ (.string ag)) na ma na2 ma2 nc mc nc2 mc2 n1 n2 m1 m2 sz qu sz2 qu2 ag ag2 (.slice fa (mgN ns ns2).length fc) (orI sz2 sz) (orI qu2 qu) ag (.slice ya (mgP es es2).length yc)) := HM.out.set 3 (.string ag) rfl
                 have HBS' : Hid (Besides (H + 1 + 1 + 1) x2 (wy2.setCell ⟨H + 1 + 1 + 1, 3, none⟩ (.string ag))) := besides_set HBS.out
                 clear HM HBS x0 x1 x2' x3' x4 y0 y1 y2 y3 y4 m0 m1' m2' m3 m4 mfk hq
                 generalize (wy2.setCell ⟨H + 1 + 1 + 1, 3, none⟩ (.string ag)) = wy3 at *
                 have HM := HM'
                 have HBS := HBS'
                 clear HM' HBS'
                 have hz := HM.out.2.2.1
                 have HZ := Lib.hid hz
                 have z0 : wy3.cell? ⟨H + 1 + 1, 0, none⟩ = some (.slice none 0 0) := by simp [World.cell?, hz]
                 have z1 : wy3.cell? ⟨H + 1 + 1, 1, none⟩ = some (.int .i64 0) := by simp [World.cell?, hz]
                 have z2 : wy3.cell? ⟨H + 1 + 1, 2, none⟩ = some (.int .i64 0) := by simp [World.cell?, hz]
                 have z3 : wy3.cell? ⟨H + 1 + 1, 3, none⟩ = some (.string ⟨#[]⟩) := by simp [World.cell?, hz]
                 have z4 : wy3.cell? ⟨H + 1 + 1, 4, none⟩ = some (.slice none 0 0) := by simp [World.cell?, hz]
                 have f0 : ∀ j, wy3.frozen? ⟨H + 1 + 1, j, none⟩ = false := fun j => by simp [World.frozen?, hz]
                 have q0 := f0 0
                 have q1 := f0 1
                 have q2 := f0 2
                 have q3 := f0 3
                 have q4 := f0 4
                 obtain ⟨m0, m1', m2', m3, m4, mf⟩ := HM.out.wish
                 have HE : Hid (∀ wE, Besides (H + 1 + 1) wy3 wE → Below H w wE ∧ RNs wE (.slice fa (mgN ns ns2).length fc) (mgN ns ns2) ∧ RD (fun _ => True) wE (mgP es es2).length (kyG (mgP es es2)) (dvG (mgP es es2)) (.slice ya (mgP es es2).length yc)) := fun wE hE => ref_end HM.out HO2.out HR.out HBS.out hE
                 have HST : Hid ((ag).toList = (orS ag2 ag).toList) := by unfold orS; rw [if_pos h2]; exact rfl
                 clear hz f0 mf h0 h1 h2
                 go_wp2
                 refine bodyPost_ret (v := .agg #[(.slice fa (mgN ns ns2).length fc), .int .i64 (orI sz2 sz), .int .i64 (orI qu2 qu), .string ag, .slice ya (mgP es es2).length yc]) (results_cell_row Try.results24 _ _ (H + 1 + 1) 35 _ (0, 0) _ rfl (ow.set (ow.set (ow.set (ow.set (ow.set HZ.out 0 _) 1 _) 2 _) 3 _) 4 _) Try.underlying35 rfl info35s) rfl ?_
                 have h9 := HE.out _ (besides5 wy3 (H + 1 + 1) (.slice fa (mgN ns ns2).length fc) (.int .i64 (orI sz2 sz)) (.int .i64 (orI qu2 qu)) (.string ag) (.slice ya (mgP es es2).length yc))
                 exact ⟨_, rfl, (by rw [HS.out]; exact h9.1), .inr ⟨HGG.out.1, HGG.out.2, _, ag, _, rfl, h9.2.1, HST.out, h9.2.2⟩⟩
               · obtain ⟨⟨x0, x1, x2', x3', x4⟩, y0, y1, y2, y3, y4⟩ := HM.out.cells
                 obtain ⟨m0, m1', m2', m3, m4, mf⟩ := HM.out.wish
                 have mfk := mf 3
                 clear mf
                 have hq : ag2.toList.isEmpty = false := by rw [List.isEmpty_eq_false_iff]; exact h2
                 go_upto_region 36 with fail
                 have HM' : Hid (MR H w ((wy2.setCell ⟨H + 1 + 1 + 1, 3, none⟩ (.string ag)).setCell ⟨H + 1 + 1 + 1, 3, none⟩ (.string ag2)) na ma na2 ma2 nc mc nc2 mc2 n1 n2 m1 m2 sz qu sz2 qu2 ag ag2 (.slice fa (mgN ns ns2).length fc) (orI sz2 sz) (orI qu2 qu) ag2 (.slice ya (mgP es es2).length yc)) := (HM.out.set 3 (.string ag) rfl).set 3 (.string ag2) rfl
                 have HBS' : Hid (Besides (H + 1 + 1 + 1) x2 ((wy2.setCell ⟨H + 1 + 1 + 1, 3, none⟩ (.string ag)).setCell ⟨H + 1 + 1 + 1, 3, none⟩ (.string ag2))) := besides_set (besides_set HBS.out)
                 clear HM HBS x0 x1 x2' x3' x4 y0 y1 y2 y3 y4 m0 m1' m2' m3 m4 mfk hq
                 generalize ((wy2.setCell ⟨H + 1 + 1 + 1, 3, none⟩ (.string ag)).setCell ⟨H + 1 + 1 + 1, 3, none⟩ (.string ag2)) = wy4 at *
                 have HM := HM'
                 have HBS := HBS'
                 clear HM' HBS'
                 have hz := HM.out.2.2.1
                 have HZ := Lib.hid hz
                 have z0 : wy4.cell? ⟨H + 1 + 1, 0, none⟩ = some (.slice none 0 0) := by simp [World.cell?, hz]
                 have z1 : wy4.cell? ⟨H + 1 + 1, 1, none⟩ = some (.int .i64 0) := by simp [World.cell?, hz]
                 have z2 : wy4.cell? ⟨H + 1 + 1, 2, none⟩ = some (.int .i64 0) := by simp [World.cell?, hz]
                 have z3 : wy4.cell? ⟨H + 1 + 1, 3, none⟩ = some (.string ⟨#[]⟩) := by simp [World.cell?, hz]
                 have z4 : wy4.cell? ⟨H + 1 + 1, 4, none⟩ = some (.slice none 0 0) := by simp [World.cell?, hz]
                 have f0 : ∀ j, wy4.frozen? ⟨H + 1 + 1, j, none⟩ = false := fun j => by simp [World.frozen?, hz]
                 have q0 := f0 0
                 have q1 := f0 1
                 have q2 := f0 2
                 have q3 := f0 3
                 have q4 := f0 4
                 obtain ⟨m0, m1', m2', m3, m4, mf⟩ := HM.out.wish
                 have HE : Hid (∀ wE, Besides (H + 1 + 1) wy4 wE → Below H w wE ∧ RNs wE (.slice fa (mgN ns ns2).length fc) (mgN ns ns2) ∧ RD (fun _ => True) wE (mgP es es2).length (kyG (mgP es es2)) (dvG (mgP es es2)) (.slice ya (mgP es es2).length yc)) := fun wE hE => ref_end HM.out HO2.out HR.out HBS.out hE
                 have HST : Hid ((ag2).toList = (orS ag2 ag).toList) := by unfold orS; rw [if_neg h2]; exact rfl
                 clear hz f0 mf h0 h1 h2
                 go_wp2
                 refine bodyPost_ret (v := .agg #[(.slice fa (mgN ns ns2).length fc), .int .i64 (orI sz2 sz), .int .i64 (orI qu2 qu), .string ag2, .slice ya (mgP es es2).length yc]) (results_cell_row Try.results24 _ _ (H + 1 + 1) 35 _ (0, 0) _ rfl (ow.set (ow.set (ow.set (ow.set (ow.set HZ.out 0 _) 1 _) 2 _) 3 _) 4 _) Try.underlying35 rfl info35s) rfl ?_
                 have h9 := HE.out _ (besides5 wy4 (H + 1 + 1) (.slice fa (mgN ns ns2).length fc) (.int .i64 (orI sz2 sz)) (.int .i64 (orI qu2 qu)) (.string ag2) (.slice ya (mgP es es2).length yc))
                 exact ⟨_, rfl, (by rw [HS.out]; exact h9.1), .inr ⟨HGG.out.1, HGG.out.2, _, ag2, _, rfl, h9.2.1, HST.out, h9.2.2⟩⟩
             · obtain ⟨⟨x0, x1, x2', x3', x4⟩, y0, y1, y2, y3, y4⟩ := HM.out.cells
               obtain ⟨m0, m1', m2', m3, m4, mf⟩ := HM.out.wish
               have mfk := mf 2
               clear mf
               have ho : (orI qu2 qu) = qu2 := by unfold orI; rw [if_neg h1]
               go_upto_region 33 with fail
               have HM' : Hid (MR H w ((wy1.setCell ⟨H + 1 + 1 + 1, 2, none⟩ (.int .i64 qu)).setCell ⟨H + 1 + 1 + 1, 2, none⟩ (.int .i64 qu2)) na ma na2 ma2 nc mc nc2 mc2 n1 n2 m1 m2 sz qu sz2 qu2 ag ag2 (.slice fa (mgN ns ns2).length fc) (orI sz2 sz) (orI qu2 qu) ⟨#[]⟩ (.slice ya (mgP es es2).length yc)) := by rw [ho]; exact (HM.out.set 2 (.int .i64 qu) rfl).set 2 (.int .i64 qu2) rfl
               have HBS' : Hid (Besides (H + 1 + 1 + 1) x2 ((wy1.setCell ⟨H + 1 + 1 + 1, 2, none⟩ (.int .i64 qu)).setCell ⟨H + 1 + 1 + 1, 2, none⟩ (.int .i64 qu2))) := besides_set (besides_set HBS.out)
               clear HM HBS x0 x1 x2' x3' x4 y0 y1 y2 y3 y4 m0 m1' m2' m3 m4 mfk ho
               generalize ((wy1.setCell ⟨H + 1 + 1 + 1, 2, none⟩ (.int .i64 qu)).setCell ⟨H + 1 + 1 + 1, 2, none⟩ (.int .i64 qu2)) = wy5 at *
               have HM := HM'
               have HBS := HBS'
               clear HM' HBS'
               by_cases h2 : ag2.toList = []
               · obtain ⟨⟨x0, x1, x2', x3', x4⟩, y0, y1, y2, y3, y4⟩ := HM.out.cells
                 obtain ⟨m0, m1', m2', m3, m4, mf⟩ := HM.out.wish
                 have mfk := mf 3
                 clear mf
                 have hq : ag2.toList.isEmpty = true := by rw [h2]; rfl
                 go_upto_region 36 with fail
                 have HM' : Hid (MR H w (wy5.setCell ⟨H + 1 + 1 + 1, 3, none⟩ (.string ag)) na ma na2 ma2 nc mc nc2 mc2 n1 n2 m1 m2 sz qu sz2 qu2 ag ag2 (.slice fa (mgN ns ns2).length fc) (orI sz2 sz) (orI qu2 qu) ag (.slice ya (mgP es es2).length yc)) := HM.out.set 3 (.string ag) rfl
                 have HBS' : Hid (Besides (H + 1 + 1 + 1) x2 (wy5.setCell ⟨H + 1 + 1 + 1, 3, none⟩ (.string ag))) := besides_set HBS.out
                 clear HM HBS x0 x1 x2' x3' x4 y0 y1 y2 y3 y4 m0 m1' m2' m3 m4 mfk hq
                 generalize (wy5.setCell ⟨H + 1 + 1 + 1, 3, none⟩ (.string ag)) = wy6 at *
                 have HM := HM'
                 have HBS := HBS'
                 clear HM' HBS'
                 have hz := HM.out.2.2.1
                 have HZ := Lib.hid hz
                 have z0 : wy6.cell? ⟨H + 1 + 1, 0, none⟩ = some (.slice none 0 0) := by simp [World.cell?, hz]
                 have z1 : wy6.cell? ⟨H + 1 + 1, 1, none⟩ = some (.int .i64 0) := by simp [World.cell?, hz]
                 have z2 : wy6.cell? ⟨H + 1 + 1, 2, none⟩ = some (.int .i64 0) := by simp [World.cell?, hz]
                 have z3 : wy6.cell? ⟨H + 1 + 1, 3, none⟩ = some (.string ⟨#[]⟩) := by simp [World.cell?, hz]
                 have z4 : wy6.cell? ⟨H + 1 + 1, 4, none⟩ = some (.slice none 0 0) := by simp [World.cell?, hz]
                 have f0 : ∀ j, wy6.frozen? ⟨H + 1 + 1, j, none⟩ = false := fun j => by simp [World.frozen?, hz]
                 have q0 := f0 0
                 have q1 := f0 1
                 have q2 := f0 2
                 have q3 := f0 3
                 have q4 := f0 4
                 obtain ⟨m0, m1', m2', m3, m4, mf⟩ := HM.out.wish
                 have HE : Hid (∀ wE, Besides (H + 1 + 1) wy6 wE → Below H w wE ∧ RNs wE (.slice fa (mgN ns ns2).length fc) (mgN ns ns2) ∧ RD (fun _ => True) wE (mgP es es2).length (kyG (mgP es es2)) (dvG (mgP es es2)) (.slice ya (mgP es es2).length yc)) := fun wE hE => ref_end HM.out HO2.out HR.out HBS.out hE
                 have HST : Hid ((ag).toList = (orS ag2 ag).toList) := by unfold orS; rw [if_pos h2]; exact rfl
                 clear hz f0 mf h0 h1 h2
                 go_wp2
                 refine bodyPost_ret (v := .agg #[(.slice fa (mgN ns ns2).length fc), .int .i64 (orI sz2 sz), .int .i64 (orI qu2 qu), .string ag, .slice ya (mgP es es2).length yc]) (results_cell_row Try.results24 _ _ (H + 1 + 1) 35 _ (0, 0) _ rfl (ow.set (ow.set (ow.set (ow.set (ow.set HZ.out 0 _) 1 _) 2 _) 3 _) 4 _) Try.underlying35 rfl info35s) rfl ?_
                 have h9 := HE.out _ (besides5 wy6 (H + 1 + 1) (.slice fa (mgN ns ns2).length fc) (.int .i64 (orI sz2 sz)) (.int .i64 (orI qu2 qu)) (.string ag) (.slice ya (mgP es es2).length yc))
                 exact ⟨_, rfl, (by rw [HS.out]; exact h9.1), .inr ⟨HGG.out.1, HGG.out.2, _, ag, _, rfl, h9.2.1, HST.out, h9.2.2⟩⟩
               · obtain ⟨⟨x0, x1, x2', x3', x4⟩, y0, y1, y2, y3, y4⟩ := HM.out.cells
                 obtain ⟨m0, m1', m2', m3, m4, mf⟩ := HM.out.wish
                 have mfk := mf 3
                 clear mf
                 have hq : ag2.toList.isEmpty = false := by rw [List.isEmpty_eq_false_iff]; exact h2
                 go_upto_region 36 with fail
                 have HM' : Hid (MR H w ((wy5.setCell ⟨H + 1 + 1 + 1, 3, none⟩ (.string ag)).setCell ⟨H + 1 + 1 + 1, 3, none⟩ (.string ag2)) na ma na2 ma2 nc mc nc2 mc2 n1 n2 m1 m2 sz qu sz2 qu2 ag ag2 (.slice fa (mgN ns ns2).length fc) (orI sz2 sz) (orI qu2 qu) ag2 (.slice ya (mgP es es2).length yc)) := (HM.out.set 3 (.string ag) rfl).set 3 (.string ag2) rfl
                 have HBS' : Hid (Besides (H + 1 + 1 + 1) x2 ((wy5.setCell ⟨H + 1 + 1 + 1, 3, none⟩ (.string ag)).setCell ⟨H + 1 + 1 + 1, 3, none⟩ (.string ag2))) := besides_set (besides_set HBS.out)
                 clear HM HBS x0 x1 x2' x3' x4 y0 y1 y2 y3 y4 m0 m1' m2' m3 m4 mfk hq
                 generalize ((wy5.setCell ⟨H + 1 + 1 + 1, 3, none⟩ (.string ag)).setCell ⟨H + 1 + 1 + 1, 3, none⟩ (.string ag2)) = wy7 at *
                 have HM := HM'
                 have HBS := HBS'
                 clear HM' HBS'
                 have hz := HM.out.2.2.1
                 have HZ := Lib.hid hz
                 have z0 : wy7.cell? ⟨H + 1 + 1, 0, none⟩ = some (.slice none 0 0) := by simp [World.cell?, hz]
                 have z1 : wy7.cell? ⟨H + 1 + 1, 1, none⟩ = some (.int .i64 0) := by simp [World.cell?, hz]
                 have z2 : wy7.cell? ⟨H + 1 + 1, 2, none⟩ = some (.int .i64 0) := by simp [World.cell?, hz]
                 have z3 : wy7.cell? ⟨H + 1 + 1, 3, none⟩ = some (.string ⟨#[]⟩) := by simp [World.cell?, hz]
                 have z4 : wy7.cell? ⟨H + 1 + 1, 4, none⟩ = some (.slice none 0 0) := by simp [World.cell?, hz]
                 have f0 : ∀ j, wy7.frozen? ⟨H + 1 + 1, j, none⟩ = false := fun j => by simp [World.frozen?, hz]
                 have q0 := f0 0
                 have q1 := f0 1
                 have q2 := f0 2
                 have q3 := f0 3
                 have q4 := f0 4
                 obtain ⟨m0, m1', m2', m3, m4, mf⟩ := HM.out.wish
                 have HE : Hid (∀ wE, Besides (H + 1 + 1) wy7 wE → Below H w wE ∧ RNs wE (.slice fa (mgN ns ns2).length fc) (mgN ns ns2) ∧ RD (fun _ => True) wE (mgP es es2).length (kyG (mgP es es2)) (dvG (mgP es es2)) (.slice ya (mgP es es2).length yc)) := fun wE hE => ref_end HM.out HO2.out HR.out HBS.out hE
                 have HST : Hid ((ag2).toList = (orS ag2 ag).toList) := by unfold orS; rw [if_neg h2]; exact rfl
                 clear hz f0 mf h0 h1 h2
                 go_wp2
                 refine bodyPost_ret (v := .agg #[(.slice fa (mgN ns ns2).length fc), .int .i64 (orI sz2 sz), .int .i64 (orI qu2 qu), .string ag2, .slice ya (mgP es es2).length yc]) (results_cell_row Try.results24 _ _ (H + 1 + 1) 35 _ (0, 0) _ rfl (ow.set (ow.set (ow.set (ow.set (ow.set HZ.out 0 _) 1 _) 2 _) 3 _) 4 _) Try.underlying35 rfl info35s) rfl ?_
                 have h9 := HE.out _ (besides5 wy7 (H + 1 + 1) (.slice fa (mgN ns ns2).length fc) (.int .i64 (orI sz2 sz)) (.int .i64 (orI qu2 qu)) (.string ag2) (.slice ya (mgP es es2).length yc))
                 exact ⟨_, rfl, (by rw [HS.out]; exact h9.1), .inr ⟨HGG.out.1, HGG.out.2, _, ag2, _, rfl, h9.2.1, HST.out, h9.2.2⟩⟩
           · obtain ⟨⟨x0, x1, x2', x3', x4⟩, y0, y1, y2, y3, y4⟩ := HM.out.cells
             obtain ⟨m0, m1', m2', m3, m4, mf⟩ := HM.out.wish
             have mfk := mf 1
             clear mf
             have ho : (orI sz2 sz) = sz2 := by unfold orI; rw [if_neg h0]
             go_upto_region 30 with fail
             have HM' : Hid (MR H w ((x3.setCell ⟨H + 1 + 1 + 1, 1, none⟩ (.int .i64 sz)).setCell ⟨H + 1 + 1 + 1, 1, none⟩ (.int .i64 sz2)) na ma na2 ma2 nc mc nc2 mc2 n1 n2 m1 m2 sz qu sz2 qu2 ag ag2 (.slice fa (mgN ns ns2).length fc) (orI sz2 sz) 0 ⟨#[]⟩ (.slice ya (mgP es es2).length yc)) := by rw [ho]; exact (HM.out.set 1 (.int .i64 sz) rfl).set 1 (.int .i64 sz2) rfl
             have HBS' : Hid (Besides (H + 1 + 1 + 1) x2 ((x3.setCell ⟨H + 1 + 1 + 1, 1, none⟩ (.int .i64 sz)).setCell ⟨H + 1 + 1 + 1, 1, none⟩ (.int .i64 sz2))) := besides_set (besides_set HBS.out)
             clear HM HBS x0 x1 x2' x3' x4 y0 y1 y2 y3 y4 m0 m1' m2' m3 m4 mfk ho
             generalize ((x3.setCell ⟨H + 1 + 1 + 1, 1, none⟩ (.int .i64 sz)).setCell ⟨H + 1 + 1 + 1, 1, none⟩ (.int .i64 sz2)) = wy8 at *
             have HM := HM'
             have HBS := HBS'
             clear HM' HBS'
             by_cases h1 : qu2 = 0
             · obtain ⟨⟨x0, x1, x2', x3', x4⟩, y0, y1, y2, y3, y4⟩ := HM.out.cells
               obtain ⟨m0, m1', m2', m3, m4, mf⟩ := HM.out.wish
               have mfk := mf 2
               clear mf
               have ho : (orI qu2 qu) = qu := by unfold orI; rw [if_pos h1]
               go_upto_region 33 with fail
               have HM' : Hid (MR H w (wy8.setCell ⟨H + 1 + 1 + 1, 2, none⟩ (.int .i64 qu)) na ma na2 ma2 nc mc nc2 mc2 n1 n2 m1 m2 sz qu sz2 qu2 ag ag2 (.slice fa (mgN ns ns2).length fc) (orI sz2 sz) (orI qu2 qu) ⟨#[]⟩ (.slice ya (mgP es es2).length yc)) := by rw [ho]; exact HM.out.set 2 (.int .i64 qu) rfl
               have HBS' : Hid (Besides (H + 1 + 1 + 1) x2 (wy8.setCell ⟨H + 1 + 1 + 1, 2, none⟩ (.int .i64 qu))) := besides_set HBS.out
               clear HM HBS x0 x1 x2' x3' x4 y0 y1 y2 y3 y4 m0 m1' m2' m3 m4 mfk ho
               generalize (wy8.setCell ⟨H + 1 + 1 + 1, 2, none⟩ (.int .i64 qu)) = wy9 at *
               have HM := HM'
               have HBS := HBS'
               clear HM' HBS'
               by_cases h2 : ag2.toList = []
               · obtain ⟨⟨x0, x1, x2', x3', x4⟩, y0, y1, y2, y3, y4⟩ := HM.out.cells
                 obtain ⟨m0, m1', m2', m3, m4, mf⟩ := HM.out.wish
                 have mfk := mf 3
                 clear mf
                 have hq : ag2.toList.isEmpty = true := by rw [h2]; rfl
                 go_upto_region 36 with fail
                 have HM' : Hid (MR H w (wy9.setCell ⟨H + 1 + 1 + 1, 3, none⟩ (.string ag)) na ma na2 ma2 nc mc nc2 mc2 n1 n2 m1 m2 sz qu sz2 qu2 ag ag2 (.slice fa (mgN ns ns2).length fc) (orI sz2 sz) (orI qu2 qu) ag (.slice ya (mgP es es2).length yc)) := HM.out.set 3 (.string ag) rfl
                 have HBS' : Hid (Besides (H + 1 + 1 + 1) x2 (wy9.setCell ⟨H + 1 + 1 + 1, 3, none⟩ (.string ag))) := besides_set HBS.out
                 clear HM HBS x0 x1 x2' x3' x4 y0 y1 y2 y3 y4 m0 m1' m2' m3 m4 mfk hq
                 generalize (wy9.setCell ⟨H + 1 + 1 + 1, 3, none⟩ (.string ag)) = wy10 at *
                 have HM := HM'
                 have HBS := HBS'
                 clear HM' HBS'
                 have hz := HM.out.2.2.1
                 have HZ := Lib.hid hz
                 have z0 : wy10.cell? ⟨H + 1 + 1, 0, none⟩ = some (.slice none 0 0) := by simp [World.cell?, hz]
                 have z1 : wy10.cell? ⟨H + 1 + 1, 1, none⟩ = some (.int .i64 0) := by simp [World.cell?, hz]
                 have z2 : wy10.cell? ⟨H + 1 + 1, 2, none⟩ = some (.int .i64 0) := by simp [World.cell?, hz]
                 have z3 : wy10.cell? ⟨H + 1 + 1, 3, none⟩ = some (.string ⟨#[]⟩) := by simp [World.cell?, hz]
                 have z4 : wy10.cell? ⟨H + 1 + 1, 4, none⟩ = some (.slice none 0 0) := by simp [World.cell?, hz]
                 have f0 : ∀ j, wy10.frozen? ⟨H + 1 + 1, j, none⟩ = false := fun j => by simp [World.frozen?, hz]
                 have q0 := f0 0
                 have q1 := f0 1
                 have q2 := f0 2
                 have q3 := f0 3
                 have q4 := f0 4
                 obtain ⟨m0, m1', m2', m3, m4, mf⟩ := HM.out.wish
                 have HE : Hid (∀ wE, Besides (H + 1 + 1) wy10 wE → Below H w wE ∧ RNs wE (.slice fa (mgN ns ns2).length fc) (mgN ns ns2) ∧ RD (fun _ => True) wE (mgP es es2).length (kyG (mgP es es2)) (dvG (mgP es es2)) (.slice ya (mgP es es2).length yc)) := fun wE hE => ref_end HM.out HO2.out HR.out HBS.out hE
                 have HST : Hid ((ag).toList = (orS ag2 ag).toList) := by unfold orS; rw [if_pos h2]; exact rfl
                 clear hz f0 mf h0 h1 h2
                 go_wp2
                 refine bodyPost_ret (v := .agg #[(.slice fa (mgN ns ns2).length fc), .int .i64 (orI sz2 sz), .int .i64 (orI qu2 qu), .string ag, .slice ya (mgP es es2).length yc]) (results_cell_row Try.results24 _ _ (H + 1 + 1) 35 _ (0, 0) _ rfl (ow.set (ow.set (ow.set (ow.set (ow.set HZ.out 0 _) 1 _) 2 _) 3 _) 4 _) Try.underlying35 rfl info35s) rfl ?_
                 have h9 := HE.out _ (besides5 wy10 (H + 1 + 1) (.slice fa (mgN ns ns2).length fc) (.int .i64 (orI sz2 sz)) (.int .i64 (orI qu2 qu)) (.string ag) (.slice ya (mgP es es2).length yc))
                 exact ⟨_, rfl, (by rw [HS.out]; exact h9.1), .inr ⟨HGG.out.1, HGG.out.2, _, ag, _, rfl, h9.2.1, HST.out, h9.2.2⟩⟩
               · obtain ⟨⟨x0, x1, x2', x3', x4⟩, y0, y1, y2, y3, y4⟩ := HM.out.cells
                 obtain ⟨m0, m1', m2', m3, m4, mf⟩ := HM.out.wish
                 have mfk := mf 3
                 clear mf
                 have hq : ag2.toList.isEmpty = false := by rw [List.isEmpty_eq_false_iff]; exact h2
                 go_upto_region 36 with fail
                 have HM' : Hid (MR H w ((wy9.setCell ⟨H + 1 + 1 + 1, 3, none⟩ (.string ag)).setCell ⟨H + 1 + 1 + 1, 3, none⟩ (.string ag2)) na ma na2 ma2 nc mc nc2 mc2 n1 n2 m1 m2 sz qu sz2 qu2 ag ag2 (.slice fa (mgN ns ns2).length fc) (orI sz2 sz) (orI qu2 qu) ag2 (.slice ya (mgP es es2).length yc)) := (HM.out.set 3 (.string ag) rfl).set 3 (.string ag2) rfl
                 have HBS' : Hid (Besides (H + 1 + 1 + 1) x2 ((wy9.setCell ⟨H + 1 + 1 + 1, 3, none⟩ (.string ag)).setCell ⟨H + 1 + 1 + 1, 3, none⟩ (.string ag2))) := besides_set (besides_set HBS.out)
                 clear HM HBS x0 x1 x2' x3' x4 y0 y1 y2 y3 y4 m0 m1' m2' m3 m4 mfk hq
                 generalize ((wy9.setCell ⟨H + 1 + 1 + 1, 3, none⟩ (.string ag)).setCell ⟨H + 1 + 1 + 1, 3, none⟩ (.string ag2)) = wy11 at *
                 have HM := HM'
                 have HBS := HBS'
                 clear HM' HBS'
                 have hz := HM.out.2.2.1
                 have HZ := Lib.hid hz
                 have z0 : wy11.cell? ⟨H + 1 + 1, 0, none⟩ = some (.slice none 0 0) := by simp [World.cell?, hz]
                 have z1 : wy11.cell? ⟨H + 1 + 1, 1, none⟩ = some (.int .i64 0) := by simp [World.cell?, hz]
                 have z2 : wy11.cell? ⟨H + 1 + 1, 2, none⟩ = some (.int .i64 0) := by simp [World.cell?, hz]
                 have z3 : wy11.cell? ⟨H + 1 + 1, 3, none⟩ = some (.string ⟨#[]⟩) := by simp [World.cell?, hz]
                 have z4 : wy11.cell? ⟨H + 1 + 1, 4, none⟩ = some (.slice none 0 0) := by simp [World.cell?, hz]
                 have f0 : ∀ j, wy11.frozen? ⟨H + 1 + 1, j, none⟩ = false := fun j => by simp [World.frozen?, hz]
                 have q0 := f0 0
                 have q1 := f0 1
                 have q2 := f0 2
                 have q3 := f0 3
                 have q4 := f0 4
                 obtain ⟨m0, m1', m2', m3, m4, mf⟩ := HM.out.wish
                 have HE : Hid (∀ wE, Besides (H + 1 + 1) wy11 wE → Below H w wE ∧ RNs wE (.slice fa (mgN ns ns2).length fc) (mgN ns ns2) ∧ RD (fun _ => True) wE (mgP es es2).length (kyG (mgP es es2)) (dvG (mgP es es2)) (.slice ya (mgP es es2).length yc)) := fun wE hE => ref_end HM.out HO2.out HR.out HBS.out hE
                 have HST : Hid ((ag2).toList = (orS ag2 ag).toList) := by unfold orS; rw [if_neg h2]; exact rfl
                 clear hz f0 mf h0 h1 h2
                 go_wp2
                 refine bodyPost_ret (v := .agg #[(.slice fa (mgN ns ns2).length fc), .int .i64 (orI sz2 sz), .int .i64 (orI qu2 qu), .string ag2, .slice ya (mgP es es2).length yc]) (results_cell_row Try.results24 _ _ (H + 1 + 1) 35 _ (0, 0) _ rfl (ow.set (ow.set (ow.set (ow.set (ow.set HZ.out 0 _) 1 _) 2 _) 3 _) 4 _) Try.underlying35 rfl info35s) rfl ?_
                 have h9 := HE.out _ (besides5 wy11 (H + 1 + 1) (.slice fa (mgN ns ns2).length fc) (.int .i64 (orI sz2 sz)) (.int .i64 (orI qu2 qu)) (.string ag2) (.slice ya (mgP es es2).length yc))
                 exact ⟨_, rfl, (by rw [HS.out]; exact h9.1), .inr ⟨HGG.out.1, HGG.out.2, _, ag2, _, rfl, h9.2.1, HST.out, h9.2.2⟩⟩
             · obtain ⟨⟨x0, x1, x2', x3', x4⟩, y0, y1, y2, y3, y4⟩ := HM.out.cells
               obtain ⟨m0, m1', m2', m3, m4, mf⟩ := HM.out.wish
               have mfk := mf 2
               clear mf
               have ho : (orI qu2 qu) = qu2 := by unfold orI; rw [if_neg h1]
               go_upto_region 33 with fail
               have HM' : Hid (MR H w ((wy8.setCell ⟨H + 1 + 1 + 1, 2, none⟩ (.int .i64 qu)).setCell ⟨H + 1 + 1 + 1, 2, none⟩ (.int .i64 qu2)) na ma na2 ma2 nc mc nc2 mc2 n1 n2 m1 m2 sz qu sz2 qu2 ag ag2 (.slice fa (mgN ns ns2).length fc) (orI sz2 sz) (orI qu2 qu) ⟨#[]⟩ (.slice ya (mgP es es2).length yc)) := by rw [ho]; exact (HM.out.set 2 (.int .i64 qu) rfl).set 2 (.int .i64 qu2) rfl
               have HBS' : Hid (Besides (H + 1 + 1 + 1) x2 ((wy8.setCell ⟨H + 1 + 1 + 1, 2, none⟩ (.int .i64 qu)).setCell ⟨H + 1 + 1 + 1, 2, none⟩ (.int .i64 qu2))) := besides_set (besides_set HBS.out)
               clear HM HBS x0 x1 x2' x3' x4 y0 y1 y2 y3 y4 m0 m1' m2' m3 m4 mfk ho
               generalize ((wy8.setCell ⟨H + 1 + 1 + 1, 2, none⟩ (.int .i64 qu)).setCell ⟨H + 1 + 1 + 1, 2, none⟩ (.int .i64 qu2)) = wy12 at *
               have HM := HM'
               have HBS := HBS'
               clear HM' HBS'
               by_cases h2 : ag2.toList = []
               · obtain ⟨⟨x0, x1, x2', x3', x4⟩, y0, y1, y2, y3, y4⟩ := HM.out.cells
                 obtain ⟨m0, m1', m2', m3, m4, mf⟩ := HM.out.wish
                 have mfk := mf 3
                 clear mf
                 have hq : ag2.toList.isEmpty = true := by rw [h2]; rfl
                 go_upto_region 36 with fail
                 have HM' : Hid (MR H w (wy12.setCell ⟨H + 1 + 1 + 1, 3, none⟩ (.string ag)) na ma na2 ma2 nc mc nc2 mc2 n1 n2 m1 m2 sz qu sz2 qu2 ag ag2 (.slice fa (mgN ns ns2).length fc) (orI sz2 sz) (orI qu2 qu) ag (.slice ya (mgP es es2).length yc)) := HM.out.set 3 (.string ag) rfl
                 have HBS' : Hid (Besides (H + 1 + 1 + 1) x2 (wy12.setCell ⟨H + 1 + 1 + 1, 3, none⟩ (.string ag))) := besides_set HBS.out
                 clear HM HBS x0 x1 x2' x3' x4 y0 y1 y2 y3 y4 m0 m1' m2' m3 m4 mfk hq
                 generalize (wy12.setCell ⟨H + 1 + 1 + 1, 3, none⟩ (.string ag)) = wy13 at *
                 have HM := HM'
                 have HBS := HBS'
                 clear HM' HBS'
                 have hz := HM.out.2.2.1
                 have HZ := Lib.hid hz
                 have z0 : wy13.cell? ⟨H + 1 + 1, 0, none⟩ = some (.slice none 0 0) := by simp [World.cell?, hz]
                 have z1 : wy13.cell? ⟨H + 1 + 1, 1, none⟩ = some (.int .i64 0) := by simp [World.cell?, hz]
                 have z2 : wy13.cell? ⟨H + 1 + 1, 2, none⟩ = some (.int .i64 0) := by simp [World.cell?, hz]
                 have z3 : wy13.cell? ⟨H + 1 + 1, 3, none⟩ = some (.string ⟨#[]⟩) := by simp [World.cell?, hz]
                 have z4 : wy13.cell? ⟨H + 1 + 1, 4, none⟩ = some (.slice none 0 0) := by simp [World.cell?, hz]
                 have f0 : ∀ j, wy13.frozen? ⟨H + 1 + 1, j, none⟩ = false := fun j => by simp [World.frozen?, hz]
                 have q0 := f0 0
                 have q1 := f0 1
                 have q2 := f0 2
                 have q3 := f0 3
                 have q4 := f0 4
                 obtain ⟨m0, m1', m2', m3, m4, mf⟩ := HM.out.wish
                 have HE : Hid (∀ wE, Besides (H + 1 + 1) wy13 wE → Below H w wE ∧ RNs wE (.slice fa (mgN ns ns2).length fc) (mgN ns ns2) ∧ RD (fun _ => True) wE (mgP es es2).length (kyG (mgP es es2)) (dvG (mgP es es2)) (.slice ya (mgP es es2).length yc)) := fun wE hE => ref_end HM.out HO2.out HR.out HBS.out hE
                 have HST : Hid ((ag).toList = (orS ag2 ag).toList) := by unfold orS; rw [if_pos h2]; exact rfl
                 clear hz f0 mf h0 h1 h2
                 go_wp2
                 refine bodyPost_ret (v := .agg #[(.slice fa (mgN ns ns2).length fc), .int .i64 (orI sz2 sz), .int .i64 (orI qu2 qu), .string ag, .slice ya (mgP es es2).length yc]) (results_cell_row Try.results24 _ _ (H + 1 + 1) 35 _ (0, 0) _ rfl (ow.set (ow.set (ow.set (ow.set (ow.set HZ.out 0 _) 1 _) 2 _) 3 _) 4 _) Try.underlying35 rfl info35s) rfl ?_
                 have h9 := HE.out _ (besides5 wy13 (H + 1 + 1) (.slice fa (mgN ns ns2).length fc) (.int .i64 (orI sz2 sz)) (.int .i64 (orI qu2 qu)) (.string ag) (.slice ya (mgP es es2).length yc))
                 exact ⟨_, rfl, (by rw [HS.out]; exact h9.1), .inr ⟨HGG.out.1, HGG.out.2, _, ag, _, rfl, h9.2.1, HST.out, h9.2.2⟩⟩
               · obtain ⟨⟨x0, x1, x2', x3', x4⟩, y0, y1, y2, y3, y4⟩ := HM.out.cells
                 obtain ⟨m0, m1', m2', m3, m4, mf⟩ := HM.out.wish
                 have mfk := mf 3
                 clear mf
                 have hq : ag2.toList.isEmpty = false := by rw [List.isEmpty_eq_false_iff]; exact h2
                 go_upto_region 36 with fail
                 have HM' : Hid (MR H w ((wy12.setCell ⟨H + 1 + 1 + 1, 3, none⟩ (.string ag)).setCell ⟨H + 1 + 1 + 1, 3, none⟩ (.string ag2)) na ma na2 ma2 nc mc nc2 mc2 n1 n2 m1 m2 sz qu sz2 qu2 ag ag2 (.slice fa (mgN ns ns2).length fc) (orI sz2 sz) (orI qu2 qu) ag2 (.slice ya (mgP es es2).length yc)) := (HM.out.set 3 (.string ag) rfl).set 3 (.string ag2) rfl
                 have HBS' : Hid (Besides (H + 1 + 1 + 1) x2 ((wy12.setCell ⟨H + 1 + 1 + 1, 3, none⟩ (.string ag)).setCell ⟨H + 1 + 1 + 1, 3, none⟩ (.string ag2))) := besides_set (besides_set HBS.out)
                 clear HM HBS x0 x1 x2' x3' x4 y0 y1 y2 y3 y4 m0 m1' m2' m3 m4 mfk hq
                 generalize ((wy12.setCell ⟨H + 1 + 1 + 1, 3, none⟩ (.string ag)).setCell ⟨H + 1 + 1 + 1, 3, none⟩ (.string ag2)) = wy14 at *
                 have HM := HM'
                 have HBS := HBS'
                 clear HM' HBS'
                 have hz := HM.out.2.2.1
                 have HZ := Lib.hid hz
                 have z0 : wy14.cell? ⟨H + 1 + 1, 0, none⟩ = some (.slice none 0 0) := by simp [World.cell?, hz]
                 have z1 : wy14.cell? ⟨H + 1 + 1, 1, none⟩ = some (.int .i64 0) := by simp [World.cell?, hz]
                 have z2 : wy14.cell? ⟨H + 1 + 1, 2, none⟩ = some (.int .i64 0) := by simp [World.cell?, hz]
                 have z3 : wy14.cell? ⟨H + 1 + 1, 3, none⟩ = some (.string ⟨#[]⟩) := by simp [World.cell?, hz]
                 have z4 : wy14.cell? ⟨H + 1 + 1, 4, none⟩ = some (.slice none 0 0) := by simp [World.cell?, hz]
                 have f0 : ∀ j, wy14.frozen? ⟨H + 1 + 1, j, none⟩ = false := fun j => by simp [World.frozen?, hz]
                 have q0 := f0 0
                 have q1 := f0 1
                 have q2 := f0 2
                 have q3 := f0 3
                 have q4 := f0 4
                 obtain ⟨m0, m1', m2', m3, m4, mf⟩ := HM.out.wish
                 have HE : Hid (∀ wE, Besides (H + 1 + 1) wy14 wE → Below H w wE ∧ RNs wE (.slice fa (mgN ns ns2).length fc) (mgN ns ns2) ∧ RD (fun _ => True) wE (mgP es es2).length (kyG (mgP es es2)) (dvG (mgP es es2)) (.slice ya (mgP es es2).length yc)) := fun wE hE => ref_end HM.out HO2.out HR.out HBS.out hE
                 have HST : Hid ((ag2).toList = (orS ag2 ag).toList) := by unfold orS; rw [if_neg h2]; exact rfl
                 clear hz f0 mf h0 h1 h2
                 go_wp2
                 refine bodyPost_ret (v := .agg #[(.slice fa (mgN ns ns2).length fc), .int .i64 (orI sz2 sz), .int .i64 (orI qu2 qu), .string ag2, .slice ya (mgP es es2).length yc]) (results_cell_row Try.results24 _ _ (H + 1 + 1) 35 _ (0, 0) _ rfl (ow.set (ow.set (ow.set (ow.set (ow.set HZ.out 0 _) 1 _) 2 _) 3 _) 4 _) Try.underlying35 rfl info35s) rfl ?_
                 have h9 := HE.out _ (besides5 wy14 (H + 1 + 1) (.slice fa (mgN ns ns2).length fc) (.int .i64 (orI sz2 sz)) (.int .i64 (orI qu2 qu)) (.string ag2) (.slice ya (mgP es es2).length yc))
                 exact ⟨_, rfl, (by rw [HS.out]; exact h9.1), .inr ⟨HGG.out.1, HGG.out.2, _, ag2, _, rfl, h9.2.1, HST.out, h9.2.2⟩⟩
          have HEND : Hid (∀ (t6 t7 t8 t9 t10 t11 t12 t13 t14 t15 t16 t17 t18 t19 t20 t21 t22 t23 t24 t25 t26 t27 t28 t29 t30 t31 t32 t33 t34 t35 t36 t37 t38 t39 t40 t41 t42 t43 t44 t45 t46 t47 t48 t49 t50 t51 t52 t53 t54 t55 t56 t57 t58 t59 t60 t61 t62 t63 t64 t65 t66 t67 t68 t69 t70 t71 t72 t73 t74 t75 t76 t77 t78 t79 t80 t81 t82 t83 t84 t85 t86 t87 t88 t89 t90 t91 t92 t93 t94 t95 t96 t97 t98 t99 t100 t101 t102 t103 t104 t105 t106 t107 t108 t109 t110 t111 t112 t113 t114 t115 t116 t117 t118 t119 t120 t121 t122 t123 t124 t125 t126 t127 t128 t129 t130 t131 t132 t133 t134 t135 t136 t137 t138 t139 t140 t141 t142 t143 t144 t145 t146 t147 t148 t149 t150 t151 t152 t153 t154 t155 t156 t157 t158 t159 t160 t161 t162 t163 t164 t165 t166 t167 t168 t169 t170 t171 t172 t173 t174 t175 t176 t177 t178 t179 t180 t181 t182 t183 t184 t185 t186 t187 t188 t189 t190 t191 t192 t193 t194 t195 t196 t197 t198 t199 t200 t201 t202 t203 t204 t205 t206 t207 : Value) (x : World) (a9 : Option Addr) (c9 : Nat), Hid (MR H w x na ma na2 ma2 nc mc nc2 mc2 n1 n2 m1 m2 sz qu sz2 qu2 ag ag2 nlF 0 0 ⟨#[]⟩ (.slice a9 (mgP es es2).length c9) ∧ x.ownsRow (B2) 59 6 (.slice a9 (mgP es es2).length c9) (mgP es es2).length (gCs (mgP es es2)) ∧ OTH H B2 nlF ns ns2 x) → QQ .normal { tmps := #[.agg #[.slice na n1 nc, .int .i64 sz, .int .i64 qu, .string ag, .slice ma m1 mc], .agg #[.slice na2 n2 nc2, .int .i64 sz2, .int .i64 qu2, .string ag2, .slice ma2 m2 mc2], .pointer (some ⟨H, 0, none⟩), .pointer (some ⟨H + 1, 0, none⟩), .pointer (some ⟨H + 1 + 1, 0, none⟩), .pointer (some ⟨H + 1 + 1 + 1, 0, none⟩), t6, t7, t8, t9, t10, t11, t12, t13, t14, t15, t16, t17, t18, t19, t20, t21, t22, t23, t24, t25, t26, t27, t28, t29, t30, t31, t32, t33, t34, t35, t36, t37, t38, t39, t40, t41, t42, t43, t44, t45, t46, t47, t48, t49, t50, t51, t52, t53, t54, t55, t56, t57, t58, t59, t60, t61, t62, t63, t64, t65, t66, t67, t68, t69, t70, t71, t72, t73, t74, t75, t76, t77, t78, t79, t80, t81, t82, t83, t84, t85, t86, t87, t88, t89, t90, t91, t92, t93, t94, t95, t96, t97, t98, t99, t100, t101, t102, t103, t104, t105, t106, t107, t108, t109, t110, t111, t112, t113, t114, t115, t116, t117, t118, t119, t120, t121, t122, t123, t124, t125, t126, t127, t128, t129, t130, t131, t132, t133, t134, t135, t136, t137, t138, t139, t140, t141, t142, t143, t144, t145, t146, t147, t148, t149, t150, t151, t152, t153, t154, t155, t156, t157, t158, t159, t160, t161, t162, t163, t164, t165, t166, t167, t168, t169, t170, t171, t172, t173, t174, t175, t176, t177, t178, t179, t180, t181, t182, t183, t184, t185, t186, t187, t188, t189, t190, t191, t192, t193, t194, t195, t196, t197, t198, t199, t200, t201, t202, t203, t204, t205, t206, t207], defers := [] } x) := fun t6 t7 t8 t9 t10 t11 t12 t13 t14 t15 t16 t17 t18 t19 t20 t21 t22 t23 t24 t25 t26 t27 t28 t29 t30 t31 t32 t33 t34 t35 t36 t37 t38 t39 t40 t41 t42 t43 t44 t45 t46 t47 t48 t49 t50 t51 t52 t53 t54 t55 t56 t57 t58 t59 t60 t61 t62 t63 t64 t65 t66 t67 t68 t69 t70 t71 t72 t73 t74 t75 t76 t77 t78 t79 t80 t81 t82 t83 t84 t85 t86 t87 t88 t89 t90 t91 t92 t93 t94 t95 t96 t97 t98 t99 t100 t101 t102 t103 t104 t105 t106 t107 t108 t109 t110 t111 t112 t113 t114 t115 t116 t117 t118 t119 t120 t121 t122 t123 t124 t125 t126 t127 t128 t129 t130 t131 t132 t133 t134 t135 t136 t137 t138 t139 t140 t141 t142 t143 t144 t145 t146 t147 t148 t149 t150 t151 t152 t153 t154 t155 t156 t157 t158 t159 t160 t161 t162 t163 t164 t165 t166 t167 t168 t169 t170 t171 t172 t173 t174 t175 t176 t177 t178 t179 t180 t181 t182 t183 t184 t185 t186 t187 t188 t189 t190 t191 t192 t193 t194 t195 t196 t197 t198 t199 t200 t201 t202 t203 t204 t205 t206 t207 x a9 c9 h => HEND0.out (fun i => ([t6, t7, t8, t9, t10, t11, t12, t13, t14, t15, t16, t17, t18, t19, t20, t21, t22, t23, t24, t25, t26, t27, t28, t29, t30, t31, t32, t33, t34, t35, t36, t37, t38, t39, t40, t41, t42, t43, t44, t45, t46, t47, t48, t49, t50, t51, t52, t53, t54, t55, t56, t57, t58, t59, t60, t61, t62, t63, t64, t65, t66, t67, t68, t69, t70, t71, t72, t73, t74, t75, t76, t77, t78, t79, t80, t81, t82, t83, t84, t85, t86, t87, t88, t89, t90, t91, t92, t93, t94, t95, t96, t97, t98, t99, t100, t101, t102, t103, t104, t105, t106, t107, t108, t109, t110, t111, t112, t113, t114, t115, t116, t117, t118, t119, t120, t121, t122, t123, t124, t125, t126, t127, t128, t129, t130, t131, t132, t133, t134, t135, t136, t137, t138, t139, t140, t141, t142, t143, t144, t145, t146, t147, t148, t149, t150, t151, t152, t153, t154, t155, t156, t157, t158, t159, t160, t161, t162, t163, t164, t165, t166, t167, t168, t169, t170, t171, t172, t173, t174, t175, t176, t177, t178, t179, t180, t181, t182, t183, t184, t185, t186, t187, t188, t189, t190, t191, t192, t193, t194, t195, t196, t197, t198, t199, t200, t201, t202, t203, t204, t205, t206, t207] : List Value).getD (i - 6) undef) x a9 c9 h
          clear HEND0
          by_cases hlo : i < m1
          · obtain ⟨g, o, had, hg, hcc⟩ := HY1.out.resolve_left (fun e => by have h9 := HL.out; rw [e] at h9; simp at h9; omega)
            have hnc : ¬ mc = i := by omega
            have HCT : Hid (∀ j u, (gCs (es.drop i))[j]? = some u → wr.drew.cell? ((⟨g, o + i * 6, none⟩ : Addr).add j) = some u) := fun j u hu => by
             have hj := (List.getElem?_eq_some_iff.1 hu).1
             rw [gCs_len, List.length_drop] at hj
             obtain ⟨x, hx⟩ : ∃ x, (es.drop i)[j / 6]? = some x := ⟨_, List.getElem?_eq_getElem (by rw [List.length_drop]; omega)⟩
             have hx2 := hx
             rw [List.getElem?_drop] at hx2
             have h1 := (hcc _ x hx2).2 (j % 6) (by omega)
             have h2 := gCs_get (es.drop i) _ x (j % 6) (by omega) hx
             have hb := (HM.out.keep (belowDrew1 wr |>.mono HM.out.2.2.2.2.1)).2.2.2.2.2
             have hbs := Nat.le_of_eq HS.out
             rw [add_none]
             rw [show j / 6 * 6 + j % 6 = j by omega] at h2
             rw [show o + (i + j / 6) * 6 + j % 6 = o + i * 6 + j by omega] at h1
             exact Below.cellS hb hbs (h1.trans (h2.symm.trans hu))
            clear hcc hg
            subst had
            subst hO hQ
            refine wp_region_held_drew (S := MC H na (some ⟨g, o, none⟩) na2 ma2 nc mc nc2 mc2 n1 n2 m1 m2 sz qu sz2 qu2 ag ag2) (by kernel_rfl) ((HM.out.keep (belowDrew1 wr |>.mono HM.out.2.2.2.2.1)).cells) (fun hHeld => ?_)
            refine tkB (i := 0) (v := .pointer (some ⟨H + 1 + 1 + 1, 4, none⟩)) rfl hHeld ?_
            simp only [zq]
            refine tkB (i := 2) (v := .pointer (some ⟨H, 4, none⟩)) rfl hHeld ?_
            simp only [zq]
            refine tkA (i := 3) (v := .slice (some ⟨g, o, none⟩) m1 mc) rfl (Or.inl ⟨by rfl, fun w hw => by obtain ⟨⟨s0, s1, s2, s3, s4⟩, t0, t1, t2, t3, t4⟩ := hw; go_simp⟩) hHeld ?_
            simp only [zq]
            refine tkB (i := 4) (v := .int .i64 (i : Int)) rfl hHeld ?_
            simp only [zq]
            have HMa := Lib.hid (HM.out.keep (belowDrew1 wr |>.mono HM.out.2.2.2.2.1))
            have HOa := Lib.hid (own_keep HO.out (belowDrew1 wr))
            have HOTa := Lib.hid (HOT.out.keep (belowDrew1 wr))
            generalize wr.drew = z15 at *
            refine wpAnyH_ready (rs := [1, 5]) (by kernel_rfl) (by simp) ?_
            refine AllReadyH.cons (o := _) rfl (fun K hK => ?_) (AllReadyH.cons (o := _) rfl (fun K hK => ?_) AllReadyH.nil)
            · obtain ⟨m0, m1', m2', m3, m4, mf⟩ := HMa.out.wish
              go_simp
              refine hK _ _ HMa.out.cells (fun hHeld => ?_)
              clear hK K m0 m1' m2' m3 m4 mf
              refine wpAnyH_ready (rs := [5]) (by kernel_rfl) (by simp) ?_
              refine AllReadyH.cons (o := _) rfl (fun K hK => ?_) AllReadyH.nil
              go_simp
              refine hK _ _ HMa.out.cells (fun hHeld => ?_)
              clear hK K
              refine wpAnyH_ready (rs := [6]) (by kernel_rfl) (by simp) ?_
              refine AllReadyH.cons (o := _) rfl (fun K hK => ?_) AllReadyH.nil
              rw [if_pos (show Region.wanted _ _ = true by kernel_rfl)]
              refine wp_append_gen _ _ 33 rfl (B2) 59 i0 _ 6 96 Try.underlying33 hi0 hz0 hz1 hz2 rfl (by omega) (.slice la al lc) al (gCs acc) rfl (by exact HOa.out) _ _ _ (gCs (es.drop i)) rfl (by rw [gCs_len, List.length_drop]; have := HL.out; omega) (by intro h; first | (cases h; done) | omega) (fun ad had j u hu => by cases had; exact HCT.out j u hu) HONE.out (by unfold maxLen; omega) (by omega) (by have := HMa.out.2.2.2.2.1; exact HB2.out.2 _ HOTa.out) ?_
              intro a9 c9 w4 hown4 hgrow
              obtain ⟨e9, ho9⟩ := own_castP hown4 HF.out
              rw [e9] at ho9 ⊢
              clear hown4
              have HB4 : Hid (Below (B2) z15 w4) := (Below.refl _ _).grown hgrow (HB2.out.2 _ HOTa.out) (fun k hk => (World.ownsRow.lt HOa.out k hk).1)
              have HM4 := Lib.hid (HMa.out.keep (HB4.out.mono HB2.out.1))
              have HM5 : Hid (MR H w (w4.setCell ⟨H + 1 + 1 + 1, 4, none⟩ (.slice a9 (mgP es es2).length c9)) na (some ⟨g, o, none⟩) na2 ma2 nc mc nc2 mc2 n1 n2 m1 m2 sz qu sz2 qu2 ag ag2 nlF 0 0 ⟨#[]⟩ (.slice a9 (mgP es es2).length c9)) := HM4.out.set 4 _ rfl
              have HO5 : Hid ((w4.setCell ⟨H + 1 + 1 + 1, 4, none⟩ (.slice a9 (mgP es es2).length c9)).ownsRow (B2) 59 6 (.slice a9 (mgP es es2).length c9) (mgP es es2).length (gCs (mgP es es2))) := ho9.kept (grown_setCell _ _ _) (owns_ne ho9 (by show H + 1 + 1 + 1 < _; have := HB2.out.1; omega))
              have HOT5 : Hid (OTH H B2 nlF ns ns2 (w4.setCell ⟨H + 1 + 1 + 1, 4, none⟩ (.slice a9 (mgP es es2).length c9))) := (HOTa.out.grown hgrow HOa.out).set
              clear HMa HOa hgrow HB4 ho9 e9
              simp only [zq]
              refine hK _ _ HM4.out.cells (fun hHeld => ?_)
              clear hK K
              refine tkB (i := 7) (v := .pointer (some ⟨H + 1 + 1 + 1, 4, none⟩)) rfl hHeld ?_
              simp only [zq]
              refine wpAnyH_ready (rs := [8]) (by kernel_rfl) (by simp) ?_
              refine AllReadyH.cons (o := _) rfl (fun K hK => ?_) AllReadyH.nil
              obtain ⟨m0, m1', m2', m3, m4, mf⟩ := HM4.out.wish
              have mf0 := mf 4
              clear mf
              go_simp
              refine hK _ _ HM5.out.cells (fun hHeld => ?_)
              clear hK K m0 m1' m2' m3 m4 mf0 HM4
              refine wpAnyH_done (by kernel_rfl) ?_ _
              clear hHeld
              generalize w4.setCell ⟨H + 1 + 1 + 1, 4, none⟩ (.slice a9 (mgP es es2).length c9) = w5 at *
              exact HEND.out _ _ _ _ _ _ _ _ _ _ _ _ _ _ _ _ _ _ _ _ _ _ _ _ _ _ _ _ _ _ _ _ _ _ _ _ _ _ _ _ _ _ _ _ _ _ _ _ _ _ _ _ _ _ _ _ _ _ _ _ _ _ _ _ _ _ _ _ _ _ _ _ _ _ _ _ _ _ _ _ _ _ _ _ _ _ _ _ _ _ _ _ _ _ _ _ _ _ _ _ _ _ _ _ _ _ _ _ _ _ _ _ _ _ _ _ _ _ _ _ _ _ _ _ _ _ _ _ _ _ _ _ _ _ _ _ _ _ _ _ _ _ _ _ _ _ _ _ _ _ _ _ _ _ _ _ _ _ _ _ _ _ _ _ _ _ _ _ _ _ _ _ _ _ _ _ _ _ _ _ _ _ _ _ _ _ _ _ _ _ _ _ _ _ _ _ _ _ _ _ _ _ w5 a9 c9 ⟨HM5.out, HO5.out, HOT5.out⟩
            · go_simp
              refine hK _ _ HMa.out.cells (fun hHeld => ?_)
              clear hK K
              refine wpAnyH_ready (rs := [1]) (by kernel_rfl) (by simp) ?_
              refine AllReadyH.cons (o := _) rfl (fun K hK => ?_) AllReadyH.nil
              obtain ⟨m0, m1', m2', m3, m4, mf⟩ := HMa.out.wish
              go_simp
              refine hK _ _ HMa.out.cells (fun hHeld => ?_)
              clear hK K m0 m1' m2' m3 m4 mf
              refine wpAnyH_ready (rs := [6]) (by kernel_rfl) (by simp) ?_
              refine AllReadyH.cons (o := _) rfl (fun K hK => ?_) AllReadyH.nil
              rw [if_pos (show Region.wanted _ _ = true by kernel_rfl)]
              refine wp_append_gen _ _ 33 rfl (B2) 59 i0 _ 6 96 Try.underlying33 hi0 hz0 hz1 hz2 rfl (by omega) (.slice la al lc) al (gCs acc) rfl (by exact HOa.out) _ _ _ (gCs (es.drop i)) rfl (by rw [gCs_len, List.length_drop]; have := HL.out; omega) (by intro h; first | (cases h; done) | omega) (fun ad had j u hu => by cases had; exact HCT.out j u hu) HONE.out (by unfold maxLen; omega) (by omega) (by have := HMa.out.2.2.2.2.1; exact HB2.out.2 _ HOTa.out) ?_
              intro a9 c9 w4 hown4 hgrow
              obtain ⟨e9, ho9⟩ := own_castP hown4 HF.out
              rw [e9] at ho9 ⊢
              clear hown4
              have HB4 : Hid (Below (B2) z15 w4) := (Below.refl _ _).grown hgrow (HB2.out.2 _ HOTa.out) (fun k hk => (World.ownsRow.lt HOa.out k hk).1)
              have HM4 := Lib.hid (HMa.out.keep (HB4.out.mono HB2.out.1))
              have HM5 : Hid (MR H w (w4.setCell ⟨H + 1 + 1 + 1, 4, none⟩ (.slice a9 (mgP es es2).length c9)) na (some ⟨g, o, none⟩) na2 ma2 nc mc nc2 mc2 n1 n2 m1 m2 sz qu sz2 qu2 ag ag2 nlF 0 0 ⟨#[]⟩ (.slice a9 (mgP es es2).length c9)) := HM4.out.set 4 _ rfl
              have HO5 : Hid ((w4.setCell ⟨H + 1 + 1 + 1, 4, none⟩ (.slice a9 (mgP es es2).length c9)).ownsRow (B2) 59 6 (.slice a9 (mgP es es2).length c9) (mgP es es2).length (gCs (mgP es es2))) := ho9.kept (grown_setCell _ _ _) (owns_ne ho9 (by show H + 1 + 1 + 1 < _; have := HB2.out.1; omega))
              have HOT5 : Hid (OTH H B2 nlF ns ns2 (w4.setCell ⟨H + 1 + 1 + 1, 4, none⟩ (.slice a9 (mgP es es2).length c9))) := (HOTa.out.grown hgrow HOa.out).set
              clear HMa HOa hgrow HB4 ho9 e9
              simp only [zq]
              refine hK _ _ HM4.out.cells (fun hHeld => ?_)
              clear hK K
              refine tkB (i := 7) (v := .pointer (some ⟨H + 1 + 1 + 1, 4, none⟩)) rfl hHeld ?_
              simp only [zq]
              refine wpAnyH_ready (rs := [8]) (by kernel_rfl) (by simp) ?_
              refine AllReadyH.cons (o := _) rfl (fun K hK => ?_) AllReadyH.nil
              obtain ⟨m0, m1', m2', m3, m4, mf⟩ := HM4.out.wish
              have mf0 := mf 4
              clear mf
              go_simp
              refine hK _ _ HM5.out.cells (fun hHeld => ?_)
              clear hK K m0 m1' m2' m3 m4 mf0 HM4
              refine wpAnyH_done (by kernel_rfl) ?_ _
              clear hHeld
              generalize w4.setCell ⟨H + 1 + 1 + 1, 4, none⟩ (.slice a9 (mgP es es2).length c9) = w5 at *
              exact HEND.out _ _ _ _ _ _ _ _ _ _ _ _ _ _ _ _ _ _ _ _ _ _ _ _ _ _ _ _ _ _ _ _ _ _ _ _ _ _ _ _ _ _ _ _ _ _ _ _ _ _ _ _ _ _ _ _ _ _ _ _ _ _ _ _ _ _ _ _ _ _ _ _ _ _ _ _ _ _ _ _ _ _ _ _ _ _ _ _ _ _ _ _ _ _ _ _ _ _ _ _ _ _ _ _ _ _ _ _ _ _ _ _ _ _ _ _ _ _ _ _ _ _ _ _ _ _ _ _ _ _ _ _ _ _ _ _ _ _ _ _ _ _ _ _ _ _ _ _ _ _ _ _ _ _ _ _ _ _ _ _ _ _ _ _ _ _ _ _ _ _ _ _ _ _ _ _ _ _ _ _ _ _ _ _ _ _ _ _ _ _ _ _ _ _ _ _ _ _ _ _ _ _ w5 a9 c9 ⟨HM5.out, HO5.out, HOT5.out⟩
          · obtain rfl : i = m1 := by omega
            have HDR : Hid (es.drop i = []) := List.drop_eq_nil_of_le (by have := HL.out; omega)
            cases hna : ma with
            | none =>
             subst hna
             obtain rfl : mc = 0 := hcp.2 rfl
             obtain rfl : i = 0 := by omega
             subst hO hQ
             refine wp_region_held_drew (S := MC H na none na2 ma2 nc 0 nc2 mc2 n1 n2 0 m2 sz qu sz2 qu2 ag ag2) (by kernel_rfl) ((HM.out.keep (belowDrew1 wr |>.mono HM.out.2.2.2.2.1)).cells) (fun hHeld => ?_)
             refine tkB (i := 0) (v := .pointer (some ⟨H + 1 + 1 + 1, 4, none⟩)) rfl hHeld ?_
             simp only [zq]
             refine tkB (i := 2) (v := .pointer (some ⟨H, 4, none⟩)) rfl hHeld ?_
             simp only [zq]
             refine tkA (i := 3) (v := .slice none 0 0) rfl (Or.inl ⟨by rfl, fun w hw => by obtain ⟨⟨s0, s1, s2, s3, s4⟩, t0, t1, t2, t3, t4⟩ := hw; go_simp⟩) hHeld ?_
             simp only [zq]
             refine tkB (i := 4) (v := .int .i64 0) rfl hHeld ?_
             simp only [zq]
             have HMa := Lib.hid (HM.out.keep (belowDrew1 wr |>.mono HM.out.2.2.2.2.1))
             have HOa := Lib.hid (own_keep HO.out (belowDrew1 wr))
             have HOTa := Lib.hid (HOT.out.keep (belowDrew1 wr))
             generalize wr.drew = z16 at *
             refine wpAnyH_ready (rs := [1, 5]) (by kernel_rfl) (by simp) ?_
             refine AllReadyH.cons (o := _) rfl (fun K hK => ?_) (AllReadyH.cons (o := _) rfl (fun K hK => ?_) AllReadyH.nil)
             · obtain ⟨m0, m1', m2', m3, m4, mf⟩ := HMa.out.wish
               go_simp
               refine hK _ _ HMa.out.cells (fun hHeld => ?_)
               clear hK K m0 m1' m2' m3 m4 mf
               refine wpAnyH_ready (rs := [5]) (by kernel_rfl) (by simp) ?_
               refine AllReadyH.cons (o := _) rfl (fun K hK => ?_) AllReadyH.nil
               go_simp
               refine hK _ _ HMa.out.cells (fun hHeld => ?_)
               clear hK K
               refine wpAnyH_ready (rs := [6]) (by kernel_rfl) (by simp) ?_
               refine AllReadyH.cons (o := _) rfl (fun K hK => ?_) AllReadyH.nil
               rw [if_pos (show Region.wanted _ _ = true by kernel_rfl)]
               refine wp_append_gen _ _ 33 rfl (B2) 59 i0 _ 6 96 Try.underlying33 hi0 hz0 hz1 hz2 rfl (by omega) (.slice la al lc) al (gCs acc) rfl (by exact HOa.out) _ _ _ (gCs (es.drop 0)) rfl (by rw [gCs_len, List.length_drop]; have := HL.out; omega) (by intro h; first | (cases h; done) | omega) (fun ad had => by cases had) HONE.out (by unfold maxLen; omega) (by omega) (by have := HMa.out.2.2.2.2.1; exact HB2.out.2 _ HOTa.out) ?_
               intro a9 c9 w4 hown4 hgrow
               obtain ⟨e9, ho9⟩ := own_castP hown4 HF.out
               rw [e9] at ho9 ⊢
               clear hown4
               have HB4 : Hid (Below (B2) z16 w4) := (Below.refl _ _).grown hgrow (HB2.out.2 _ HOTa.out) (fun k hk => (World.ownsRow.lt HOa.out k hk).1)
               have HM4 := Lib.hid (HMa.out.keep (HB4.out.mono HB2.out.1))
               have HM5 : Hid (MR H w (w4.setCell ⟨H + 1 + 1 + 1, 4, none⟩ (.slice a9 (mgP es es2).length c9)) na none na2 ma2 nc 0 nc2 mc2 n1 n2 0 m2 sz qu sz2 qu2 ag ag2 nlF 0 0 ⟨#[]⟩ (.slice a9 (mgP es es2).length c9)) := HM4.out.set 4 _ rfl
               have HO5 : Hid ((w4.setCell ⟨H + 1 + 1 + 1, 4, none⟩ (.slice a9 (mgP es es2).length c9)).ownsRow (B2) 59 6 (.slice a9 (mgP es es2).length c9) (mgP es es2).length (gCs (mgP es es2))) := ho9.kept (grown_setCell _ _ _) (owns_ne ho9 (by show H + 1 + 1 + 1 < _; have := HB2.out.1; omega))
               have HOT5 : Hid (OTH H B2 nlF ns ns2 (w4.setCell ⟨H + 1 + 1 + 1, 4, none⟩ (.slice a9 (mgP es es2).length c9))) := (HOTa.out.grown hgrow HOa.out).set
               clear HMa HOa hgrow HB4 ho9 e9
               simp only [zq]
               refine hK _ _ HM4.out.cells (fun hHeld => ?_)
               clear hK K
               refine tkB (i := 7) (v := .pointer (some ⟨H + 1 + 1 + 1, 4, none⟩)) rfl hHeld ?_
               simp only [zq]
               refine wpAnyH_ready (rs := [8]) (by kernel_rfl) (by simp) ?_
               refine AllReadyH.cons (o := _) rfl (fun K hK => ?_) AllReadyH.nil
               obtain ⟨m0, m1', m2', m3, m4, mf⟩ := HM4.out.wish
               have mf0 := mf 4
               clear mf
               go_simp
               refine hK _ _ HM5.out.cells (fun hHeld => ?_)
               clear hK K m0 m1' m2' m3 m4 mf0 HM4
               refine wpAnyH_done (by kernel_rfl) ?_ _
               clear hHeld
               generalize w4.setCell ⟨H + 1 + 1 + 1, 4, none⟩ (.slice a9 (mgP es es2).length c9) = w5 at *
               exact HEND.out _ _ _ _ _ _ _ _ _ _ _ _ _ _ _ _ _ _ _ _ _ _ _ _ _ _ _ _ _ _ _ _ _ _ _ _ _ _ _ _ _ _ _ _ _ _ _ _ _ _ _ _ _ _ _ _ _ _ _ _ _ _ _ _ _ _ _ _ _ _ _ _ _ _ _ _ _ _ _ _ _ _ _ _ _ _ _ _ _ _ _ _ _ _ _ _ _ _ _ _ _ _ _ _ _ _ _ _ _ _ _ _ _ _ _ _ _ _ _ _ _ _ _ _ _ _ _ _ _ _ _ _ _ _ _ _ _ _ _ _ _ _ _ _ _ _ _ _ _ _ _ _ _ _ _ _ _ _ _ _ _ _ _ _ _ _ _ _ _ _ _ _ _ _ _ _ _ _ _ _ _ _ _ _ _ _ _ _ _ _ _ _ _ _ _ _ _ _ _ _ _ _ w5 a9 c9 ⟨HM5.out, HO5.out, HOT5.out⟩
             · go_simp
               refine hK _ _ HMa.out.cells (fun hHeld => ?_)
               clear hK K
               refine wpAnyH_ready (rs := [1]) (by kernel_rfl) (by simp) ?_
               refine AllReadyH.cons (o := _) rfl (fun K hK => ?_) AllReadyH.nil
               obtain ⟨m0, m1', m2', m3, m4, mf⟩ := HMa.out.wish
               go_simp
               refine hK _ _ HMa.out.cells (fun hHeld => ?_)
               clear hK K m0 m1' m2' m3 m4 mf
               refine wpAnyH_ready (rs := [6]) (by kernel_rfl) (by simp) ?_
               refine AllReadyH.cons (o := _) rfl (fun K hK => ?_) AllReadyH.nil
               rw [if_pos (show Region.wanted _ _ = true by kernel_rfl)]
               refine wp_append_gen _ _ 33 rfl (B2) 59 i0 _ 6 96 Try.underlying33 hi0 hz0 hz1 hz2 rfl (by omega) (.slice la al lc) al (gCs acc) rfl (by exact HOa.out) _ _ _ (gCs (es.drop 0)) rfl (by rw [gCs_len, List.length_drop]; have := HL.out; omega) (by intro h; first | (cases h; done) | omega) (fun ad had => by cases had) HONE.out (by unfold maxLen; omega) (by omega) (by have := HMa.out.2.2.2.2.1; exact HB2.out.2 _ HOTa.out) ?_
               intro a9 c9 w4 hown4 hgrow
               obtain ⟨e9, ho9⟩ := own_castP hown4 HF.out
               rw [e9] at ho9 ⊢
               clear hown4
               have HB4 : Hid (Below (B2) z16 w4) := (Below.refl _ _).grown hgrow (HB2.out.2 _ HOTa.out) (fun k hk => (World.ownsRow.lt HOa.out k hk).1)
               have HM4 := Lib.hid (HMa.out.keep (HB4.out.mono HB2.out.1))
               have HM5 : Hid (MR H w (w4.setCell ⟨H + 1 + 1 + 1, 4, none⟩ (.slice a9 (mgP es es2).length c9)) na none na2 ma2 nc 0 nc2 mc2 n1 n2 0 m2 sz qu sz2 qu2 ag ag2 nlF 0 0 ⟨#[]⟩ (.slice a9 (mgP es es2).length c9)) := HM4.out.set 4 _ rfl
               have HO5 : Hid ((w4.setCell ⟨H + 1 + 1 + 1, 4, none⟩ (.slice a9 (mgP es es2).length c9)).ownsRow (B2) 59 6 (.slice a9 (mgP es es2).length c9) (mgP es es2).length (gCs (mgP es es2))) := ho9.kept (grown_setCell _ _ _) (owns_ne ho9 (by show H + 1 + 1 + 1 < _; have := HB2.out.1; omega))
               have HOT5 : Hid (OTH H B2 nlF ns ns2 (w4.setCell ⟨H + 1 + 1 + 1, 4, none⟩ (.slice a9 (mgP es es2).length c9))) := (HOTa.out.grown hgrow HOa.out).set
               clear HMa HOa hgrow HB4 ho9 e9
               simp only [zq]
               refine hK _ _ HM4.out.cells (fun hHeld => ?_)
               clear hK K
               refine tkB (i := 7) (v := .pointer (some ⟨H + 1 + 1 + 1, 4, none⟩)) rfl hHeld ?_
               simp only [zq]
               refine wpAnyH_ready (rs := [8]) (by kernel_rfl) (by simp) ?_
               refine AllReadyH.cons (o := _) rfl (fun K hK => ?_) AllReadyH.nil
               obtain ⟨m0, m1', m2', m3, m4, mf⟩ := HM4.out.wish
               have mf0 := mf 4
               clear mf
               go_simp
               refine hK _ _ HM5.out.cells (fun hHeld => ?_)
               clear hK K m0 m1' m2' m3 m4 mf0 HM4
               refine wpAnyH_done (by kernel_rfl) ?_ _
               clear hHeld
               generalize w4.setCell ⟨H + 1 + 1 + 1, 4, none⟩ (.slice a9 (mgP es es2).length c9) = w5 at *
               exact HEND.out _ _ _ _ _ _ _ _ _ _ _ _ _ _ _ _ _ _ _ _ _ _ _ _ _ _ _ _ _ _ _ _ _ _ _ _ _ _ _ _ _ _ _ _ _ _ _ _ _ _ _ _ _ _ _ _ _ _ _ _ _ _ _ _ _ _ _ _ _ _ _ _ _ _ _ _ _ _ _ _ _ _ _ _ _ _ _ _ _ _ _ _ _ _ _ _ _ _ _ _ _ _ _ _ _ _ _ _ _ _ _ _ _ _ _ _ _ _ _ _ _ _ _ _ _ _ _ _ _ _ _ _ _ _ _ _ _ _ _ _ _ _ _ _ _ _ _ _ _ _ _ _ _ _ _ _ _ _ _ _ _ _ _ _ _ _ _ _ _ _ _ _ _ _ _ _ _ _ _ _ _ _ _ _ _ _ _ _ _ _ _ _ _ _ _ _ _ _ _ _ _ _ w5 a9 c9 ⟨HM5.out, HO5.out, HOT5.out⟩
            | some ad =>
             subst hna
             subst hO hQ
             refine wp_region_held_drew (S := MC H na (some ad) na2 ma2 nc mc nc2 mc2 n1 n2 i m2 sz qu sz2 qu2 ag ag2) (by kernel_rfl) ((HM.out.keep (belowDrew1 wr |>.mono HM.out.2.2.2.2.1)).cells) (fun hHeld => ?_)
             refine tkB (i := 0) (v := .pointer (some ⟨H + 1 + 1 + 1, 4, none⟩)) rfl hHeld ?_
             simp only [zq]
             refine tkB (i := 2) (v := .pointer (some ⟨H, 4, none⟩)) rfl hHeld ?_
             simp only [zq]
             refine tkA (i := 3) (v := .slice (some ad) i mc) rfl (Or.inl ⟨by rfl, fun w hw => by obtain ⟨⟨s0, s1, s2, s3, s4⟩, t0, t1, t2, t3, t4⟩ := hw; go_simp⟩) hHeld ?_
             simp only [zq]
             refine tkB (i := 4) (v := .int .i64 (i : Int)) rfl hHeld ?_
             simp only [zq]
             have HMa := Lib.hid (HM.out.keep (belowDrew1 wr |>.mono HM.out.2.2.2.2.1))
             have HOa := Lib.hid (own_keep HO.out (belowDrew1 wr))
             have HOTa := Lib.hid (HOT.out.keep (belowDrew1 wr))
             generalize wr.drew = z17 at *
             refine wpAnyH_ready (rs := [1, 5]) (by kernel_rfl) (by simp) ?_
             refine AllReadyH.cons (o := _) rfl (fun K hK => ?_) (AllReadyH.cons (o := _) rfl (fun K hK => ?_) AllReadyH.nil)
             · obtain ⟨m0, m1', m2', m3, m4, mf⟩ := HMa.out.wish
               go_simp
               refine hK _ _ HMa.out.cells (fun hHeld => ?_)
               clear hK K m0 m1' m2' m3 m4 mf
               refine wpAnyH_ready (rs := [5]) (by kernel_rfl) (by simp) ?_
               refine AllReadyH.cons (o := _) rfl (fun K hK => ?_) AllReadyH.nil
               go_simp
               refine hK _ _ HMa.out.cells (fun hHeld => ?_)
               clear hK K
               refine wpAnyH_ready (rs := [6]) (by kernel_rfl) (by simp) ?_
               refine AllReadyH.cons (o := _) rfl (fun K hK => ?_) AllReadyH.nil
               rw [if_pos (show Region.wanted _ _ = true by kernel_rfl)]
               refine wp_append_gen _ _ 33 rfl (B2) 59 i0 _ 6 96 Try.underlying33 hi0 hz0 hz1 hz2 rfl (by omega) (.slice la al lc) al (gCs acc) rfl (by exact HOa.out) _ _ _ (gCs (es.drop i)) rfl (by rw [gCs_len, List.length_drop]; have := HL.out; omega) (by intro h; first | (cases h; done) | omega) (fun ad had j u hu => by rw [HDR.out] at hu; simp [gCs] at hu) HONE.out (by unfold maxLen; omega) (by omega) (by have := HMa.out.2.2.2.2.1; exact HB2.out.2 _ HOTa.out) ?_
               intro a9 c9 w4 hown4 hgrow
               obtain ⟨e9, ho9⟩ := own_castP hown4 HF.out
               rw [e9] at ho9 ⊢
               clear hown4
               have HB4 : Hid (Below (B2) z17 w4) := (Below.refl _ _).grown hgrow (HB2.out.2 _ HOTa.out) (fun k hk => (World.ownsRow.lt HOa.out k hk).1)
               have HM4 := Lib.hid (HMa.out.keep (HB4.out.mono HB2.out.1))
               have HM5 : Hid (MR H w (w4.setCell ⟨H + 1 + 1 + 1, 4, none⟩ (.slice a9 (mgP es es2).length c9)) na (some ad) na2 ma2 nc mc nc2 mc2 n1 n2 i m2 sz qu sz2 qu2 ag ag2 nlF 0 0 ⟨#[]⟩ (.slice a9 (mgP es es2).length c9)) := HM4.out.set 4 _ rfl
               have HO5 : Hid ((w4.setCell ⟨H + 1 + 1 + 1, 4, none⟩ (.slice a9 (mgP es es2).length c9)).ownsRow (B2) 59 6 (.slice a9 (mgP es es2).length c9) (mgP es es2).length (gCs (mgP es es2))) := ho9.kept (grown_setCell _ _ _) (owns_ne ho9 (by show H + 1 + 1 + 1 < _; have := HB2.out.1; omega))
               have HOT5 : Hid (OTH H B2 nlF ns ns2 (w4.setCell ⟨H + 1 + 1 + 1, 4, none⟩ (.slice a9 (mgP es es2).length c9))) := (HOTa.out.grown hgrow HOa.out).set
               clear HMa HOa hgrow HB4 ho9 e9
               simp only [zq]
               refine hK _ _ HM4.out.cells (fun hHeld => ?_)
               clear hK K
               refine tkB (i := 7) (v := .pointer (some ⟨H + 1 + 1 + 1, 4, none⟩)) rfl hHeld ?_
               simp only [zq]
               refine wpAnyH_ready (rs := [8]) (by kernel_rfl) (by simp) ?_
               refine AllReadyH.cons (o := _) rfl (fun K hK => ?_) AllReadyH.nil
               obtain ⟨m0, m1', m2', m3, m4, mf⟩ := HM4.out.wish
               have mf0 := mf 4
               clear mf
               go_simp
               refine hK _ _ HM5.out.cells (fun hHeld => ?_)
               clear hK K m0 m1' m2' m3 m4 mf0 HM4
               refine wpAnyH_done (by kernel_rfl) ?_ _
               clear hHeld
               generalize w4.setCell ⟨H + 1 + 1 + 1, 4, none⟩ (.slice a9 (mgP es es2).length c9) = w5 at *
               exact HEND.out _ _ _ _ _ _ _ _ _ _ _ _ _ _ _ _ _ _ _ _ _ _ _ _ _ _ _ _ _ _ _ _ _ _ _ _ _ _ _ _ _ _ _ _ _ _ _ _ _ _ _ _ _ _ _ _ _ _ _ _ _ _ _ _ _ _ _ _ _ _ _ _ _ _ _ _ _ _ _ _ _ _ _ _ _ _ _ _ _ _ _ _ _ _ _ _ _ _ _ _ _ _ _ _ _ _ _ _ _ _ _ _ _ _ _ _ _ _ _ _ _ _ _ _ _ _ _ _ _ _ _ _ _ _ _ _ _ _ _ _ _ _ _ _ _ _ _ _ _ _ _ _ _ _ _ _ _ _ _ _ _ _ _ _ _ _ _ _ _ _ _ _ _ _ _ _ _ _ _ _ _ _ _ _ _ _ _ _ _ _ _ _ _ _ _ _ _ _ _ _ _ _ w5 a9 c9 ⟨HM5.out, HO5.out, HOT5.out⟩
             · go_simp
               refine hK _ _ HMa.out.cells (fun hHeld => ?_)
               clear hK K
               refine wpAnyH_ready (rs := [1]) (by kernel_rfl) (by simp) ?_
               refine AllReadyH.cons (o := _) rfl (fun K hK => ?_) AllReadyH.nil
               obtain ⟨m0, m1', m2', m3, m4, mf⟩ := HMa.out.wish
               go_simp
               refine hK _ _ HMa.out.cells (fun hHeld => ?_)
               clear hK K m0 m1' m2' m3 m4 mf
               refine wpAnyH_ready (rs := [6]) (by kernel_rfl) (by simp) ?_
               refine AllReadyH.cons (o := _) rfl (fun K hK => ?_) AllReadyH.nil
               rw [if_pos (show Region.wanted _ _ = true by kernel_rfl)]
               refine wp_append_gen _ _ 33 rfl (B2) 59 i0 _ 6 96 Try.underlying33 hi0 hz0 hz1 hz2 rfl (by omega) (.slice la al lc) al (gCs acc) rfl (by exact HOa.out) _ _ _ (gCs (es.drop i)) rfl (by rw [gCs_len, List.length_drop]; have := HL.out; omega) (by intro h; first | (cases h; done) | omega) (fun ad had j u hu => by rw [HDR.out] at hu; simp [gCs] at hu) HONE.out (by unfold maxLen; omega) (by omega) (by have := HMa.out.2.2.2.2.1; exact HB2.out.2 _ HOTa.out) ?_
               intro a9 c9 w4 hown4 hgrow
               obtain ⟨e9, ho9⟩ := own_castP hown4 HF.out
               rw [e9] at ho9 ⊢
               clear hown4
               have HB4 : Hid (Below (B2) z17 w4) := (Below.refl _ _).grown hgrow (HB2.out.2 _ HOTa.out) (fun k hk => (World.ownsRow.lt HOa.out k hk).1)
               have HM4 := Lib.hid (HMa.out.keep (HB4.out.mono HB2.out.1))
               have HM5 : Hid (MR H w (w4.setCell ⟨H + 1 + 1 + 1, 4, none⟩ (.slice a9 (mgP es es2).length c9)) na (some ad) na2 ma2 nc mc nc2 mc2 n1 n2 i m2 sz qu sz2 qu2 ag ag2 nlF 0 0 ⟨#[]⟩ (.slice a9 (mgP es es2).length c9)) := HM4.out.set 4 _ rfl
               have HO5 : Hid ((w4.setCell ⟨H + 1 + 1 + 1, 4, none⟩ (.slice a9 (mgP es es2).length c9)).ownsRow (B2) 59 6 (.slice a9 (mgP es es2).length c9) (mgP es es2).length (gCs (mgP es es2))) := ho9.kept (grown_setCell _ _ _) (owns_ne ho9 (by show H + 1 + 1 + 1 < _; have := HB2.out.1; omega))
               have HOT5 : Hid (OTH H B2 nlF ns ns2 (w4.setCell ⟨H + 1 + 1 + 1, 4, none⟩ (.slice a9 (mgP es es2).length c9))) := (HOTa.out.grown hgrow HOa.out).set
               clear HMa HOa hgrow HB4 ho9 e9
               simp only [zq]
               refine hK _ _ HM4.out.cells (fun hHeld => ?_)
               clear hK K
               refine tkB (i := 7) (v := .pointer (some ⟨H + 1 + 1 + 1, 4, none⟩)) rfl hHeld ?_
               simp only [zq]
               refine wpAnyH_ready (rs := [8]) (by kernel_rfl) (by simp) ?_
               refine AllReadyH.cons (o := _) rfl (fun K hK => ?_) AllReadyH.nil
               obtain ⟨m0, m1', m2', m3, m4, mf⟩ := HM4.out.wish
               have mf0 := mf 4
               clear mf
               go_simp
               refine hK _ _ HM5.out.cells (fun hHeld => ?_)
               clear hK K m0 m1' m2' m3 m4 mf0 HM4
               refine wpAnyH_done (by kernel_rfl) ?_ _
               clear hHeld
               generalize w4.setCell ⟨H + 1 + 1 + 1, 4, none⟩ (.slice a9 (mgP es es2).length c9) = w5 at *
               exact HEND.out _ _ _ _ _ _ _ _ _ _ _ _ _ _ _ _ _ _ _ _ _ _ _ _ _ _ _ _ _ _ _ _ _ _ _ _ _ _ _ _ _ _ _ _ _ _ _ _ _ _ _ _ _ _ _ _ _ _ _ _ _ _ _ _ _ _ _ _ _ _ _ _ _ _ _ _ _ _ _ _ _ _ _ _ _ _ _ _ _ _ _ _ _ _ _ _ _ _ _ _ _ _ _ _ _ _ _ _ _ _ _ _ _ _ _ _ _ _ _ _ _ _ _ _ _ _ _ _ _ _ _ _ _ _ _ _ _ _ _ _ _ _ _ _ _ _ _ _ _ _ _ _ _ _ _ _ _ _ _ _ _ _ _ _ _ _ _ _ _ _ _ _ _ _ _ _ _ _ _ _ _ _ _ _ _ _ _ _ _ _ _ _ _ _ _ _ _ _ _ _ _ _ w5 a9 c9 ⟨HM5.out, HO5.out, HOT5.out⟩
      have HEND : Hid (∀ (t6 t7 t8 t9 t10 t11 t12 t13 t14 t15 t16 t17 t18 t19 t20 t21 t22 t23 t24 t25 t26 t27 t28 t29 t30 t31 t32 t33 t34 t35 t36 t37 t38 t39 t40 t41 t42 t43 t44 t45 t46 t47 t48 t49 t50 t51 t52 t53 t54 t55 t56 t57 t58 t59 t60 t61 t62 t63 t64 t65 t66 t67 t68 t69 t70 t71 t72 t73 t74 t75 t76 t77 t78 t79 t80 t81 t82 t83 t84 t85 t86 t87 t88 t89 t90 t91 t92 t93 t94 t95 t96 t97 t98 t99 t100 t101 t102 t103 t104 t105 t106 t107 t108 t109 t110 t111 t112 t113 t114 t115 t116 t117 t118 t119 t120 t121 t122 t123 t124 t125 t126 t127 t128 t129 t130 t131 t132 t133 t134 t135 t136 t137 t138 t139 t140 t141 t142 t143 t144 t145 t146 t147 t148 t149 t150 t151 t152 t153 t154 t155 t156 t157 t158 t159 t160 t161 t162 t163 t164 t165 t166 t167 t168 t169 t170 t171 t172 t173 t174 t175 t176 t177 t178 t179 t180 t181 t182 t183 t184 t185 t186 t187 t188 t189 t190 t191 t192 t193 t194 t195 t196 t197 t198 t199 t200 t201 t202 t203 t204 t205 t206 t207 : Value) (x : World) (a9 : Option Addr) (c9 : Nat), Hid (MR H w x na ma na2 ma2 nc mc nc2 mc2 n1 n2 m1 m2 sz qu sz2 qu2 ag ag2 (.slice a9 (mgN ns ns2).length c9) 0 0 ⟨#[]⟩ (.slice none 0 0) ∧ x.ownsRow (H + 4) 46 2 (.slice a9 (mgN ns ns2).length c9) (mgN ns ns2).length (nsC (mgN ns ns2))) → QQ .normal { tmps := #[.agg #[.slice na n1 nc, .int .i64 sz, .int .i64 qu, .string ag, .slice ma m1 mc], .agg #[.slice na2 n2 nc2, .int .i64 sz2, .int .i64 qu2, .string ag2, .slice ma2 m2 mc2], .pointer (some ⟨H, 0, none⟩), .pointer (some ⟨H + 1, 0, none⟩), .pointer (some ⟨H + 1 + 1, 0, none⟩), .pointer (some ⟨H + 1 + 1 + 1, 0, none⟩), t6, t7, t8, t9, t10, t11, t12, t13, t14, t15, t16, t17, t18, t19, t20, t21, t22, t23, t24, t25, t26, t27, t28, t29, t30, t31, t32, t33, t34, t35, t36, t37, t38, t39, t40, t41, t42, t43, t44, t45, t46, t47, t48, t49, t50, t51, t52, t53, t54, t55, t56, t57, t58, t59, t60, t61, t62, t63, t64, t65, t66, t67, t68, t69, t70, t71, t72, t73, t74, t75, t76, t77, t78, t79, t80, t81, t82, t83, t84, t85, t86, t87, t88, t89, t90, t91, t92, t93, t94, t95, t96, t97, t98, t99, t100, t101, t102, t103, t104, t105, t106, t107, t108, t109, t110, t111, t112, t113, t114, t115, t116, t117, t118, t119, t120, t121, t122, t123, t124, t125, t126, t127, t128, t129, t130, t131, t132, t133, t134, t135, t136, t137, t138, t139, t140, t141, t142, t143, t144, t145, t146, t147, t148, t149, t150, t151, t152, t153, t154, t155, t156, t157, t158, t159, t160, t161, t162, t163, t164, t165, t166, t167, t168, t169, t170, t171, t172, t173, t174, t175, t176, t177, t178, t179, t180, t181, t182, t183, t184, t185, t186, t187, t188, t189, t190, t191, t192, t193, t194, t195, t196, t197, t198, t199, t200, t201, t202, t203, t204, t205, t206, t207], defers := [] } x) := fun t6 t7 t8 t9 t10 t11 t12 t13 t14 t15 t16 t17 t18 t19 t20 t21 t22 t23 t24 t25 t26 t27 t28 t29 t30 t31 t32 t33 t34 t35 t36 t37 t38 t39 t40 t41 t42 t43 t44 t45 t46 t47 t48 t49 t50 t51 t52 t53 t54 t55 t56 t57 t58 t59 t60 t61 t62 t63 t64 t65 t66 t67 t68 t69 t70 t71 t72 t73 t74 t75 t76 t77 t78 t79 t80 t81 t82 t83 t84 t85 t86 t87 t88 t89 t90 t91 t92 t93 t94 t95 t96 t97 t98 t99 t100 t101 t102 t103 t104 t105 t106 t107 t108 t109 t110 t111 t112 t113 t114 t115 t116 t117 t118 t119 t120 t121 t122 t123 t124 t125 t126 t127 t128 t129 t130 t131 t132 t133 t134 t135 t136 t137 t138 t139 t140 t141 t142 t143 t144 t145 t146 t147 t148 t149 t150 t151 t152 t153 t154 t155 t156 t157 t158 t159 t160 t161 t162 t163 t164 t165 t166 t167 t168 t169 t170 t171 t172 t173 t174 t175 t176 t177 t178 t179 t180 t181 t182 t183 t184 t185 t186 t187 t188 t189 t190 t191 t192 t193 t194 t195 t196 t197 t198 t199 t200 t201 t202 t203 t204 t205 t206 t207 x a9 c9 h => HEND0.out (fun i => ([t6, t7, t8, t9, t10, t11, t12, t13, t14, t15, t16, t17, t18, t19, t20, t21, t22, t23, t24, t25, t26, t27, t28, t29, t30, t31, t32, t33, t34, t35, t36, t37, t38, t39, t40, t41, t42, t43, t44, t45, t46, t47, t48, t49, t50, t51, t52, t53, t54, t55, t56, t57, t58, t59, t60, t61, t62, t63, t64, t65, t66, t67, t68, t69, t70, t71, t72, t73, t74, t75, t76, t77, t78, t79, t80, t81, t82, t83, t84, t85, t86, t87, t88, t89, t90, t91, t92, t93, t94, t95, t96, t97, t98, t99, t100, t101, t102, t103, t104, t105, t106, t107, t108, t109, t110, t111, t112, t113, t114, t115, t116, t117, t118, t119, t120, t121, t122, t123, t124, t125, t126, t127, t128, t129, t130, t131, t132, t133, t134, t135, t136, t137, t138, t139, t140, t141, t142, t143, t144, t145, t146, t147, t148, t149, t150, t151, t152, t153, t154, t155, t156, t157, t158, t159, t160, t161, t162, t163, t164, t165, t166, t167, t168, t169, t170, t171, t172, t173, t174, t175, t176, t177, t178, t179, t180, t181, t182, t183, t184, t185, t186, t187, t188, t189, t190, t191, t192, t193, t194, t195, t196, t197, t198, t199, t200, t201, t202, t203, t204, t205, t206, t207] : List Value).getD (i - 6) undef) x a9 c9 h
      clear HEND0
      by_cases hlo : i < n1
      · obtain ⟨g, o, had, hg, hcc⟩ := HX1.out.resolve_left (fun e => by have h9 := HL.out; rw [e] at h9; simp at h9; omega)
        have hnc : ¬ nc = i := by omega
        have HCT : Hid (∀ j u, (nsC (ns.drop i))[j]? = some u → wr.drew.cell? ((⟨g, o + i * 2, none⟩ : Addr).add j) = some u) := fun j u hu => by
         have hj := (List.getElem?_eq_some_iff.1 hu).1
         rw [nsC_len, List.length_drop] at hj
         obtain ⟨x, hx⟩ : ∃ x, (ns.drop i)[j / 2]? = some x := ⟨_, List.getElem?_eq_getElem (by rw [List.length_drop]; omega)⟩
         have hx2 := hx
         rw [List.getElem?_drop] at hx2
         have h1 := hcc _ x hx2
         have h2 := nsC_get (ns.drop i) _ x hx
         have hb := (HM.out.keep (belowDrew1 wr |>.mono HM.out.2.2.2.2.1)).2.2.2.2.2
         have hbs := Nat.le_of_eq HS.out
         rw [add_none]
         rcases Nat.mod_two_eq_zero_or_one j with e | e
         · rw [show o + (i + j / 2) * 2 = o + i * 2 + j by omega] at h1
           rw [show j / 2 * 2 = j by omega] at h2
           rw [Below.cellS hb hbs h1.1, ← h2.1]; exact hu
         · rw [show o + (i + j / 2) * 2 + 1 = o + i * 2 + j by omega] at h1
           rw [show j / 2 * 2 + 1 = j by omega] at h2
           rw [Below.cellS hb hbs h1.2, ← h2.2]; exact hu
        clear hcc hg
        subst had
        subst hO hQ
        refine wp_region_held_drew (S := MC H (some ⟨g, o, none⟩) ma na2 ma2 nc mc nc2 mc2 n1 n2 m1 m2 sz qu sz2 qu2 ag ag2) (by kernel_rfl) ((HM.out.keep (belowDrew1 wr |>.mono HM.out.2.2.2.2.1)).cells) (fun hHeld => ?_)
        refine tkB (i := 0) (v := .pointer (some ⟨H + 1 + 1 + 1, 0, none⟩)) rfl hHeld ?_
        simp only [zq]
        refine tkB (i := 2) (v := .pointer (some ⟨H, 0, none⟩)) rfl hHeld ?_
        simp only [zq]
        refine tkA (i := 3) (v := .slice (some ⟨g, o, none⟩) n1 nc) rfl (Or.inl ⟨by rfl, fun w hw => by obtain ⟨⟨s0, s1, s2, s3, s4⟩, t0, t1, t2, t3, t4⟩ := hw; go_simp⟩) hHeld ?_
        simp only [zq]
        refine tkB (i := 4) (v := .int .i64 (i : Int)) rfl hHeld ?_
        simp only [zq]
        have HMa := Lib.hid (HM.out.keep (belowDrew1 wr |>.mono HM.out.2.2.2.2.1))
        have HOa := Lib.hid (own_keep HO.out (belowDrew1 wr))
        generalize wr.drew = z37 at *
        refine wpAnyH_ready (rs := [1, 5]) (by kernel_rfl) (by simp) ?_
        refine AllReadyH.cons (o := _) rfl (fun K hK => ?_) (AllReadyH.cons (o := _) rfl (fun K hK => ?_) AllReadyH.nil)
        · obtain ⟨m0, m1', m2', m3, m4, mf⟩ := HMa.out.wish
          go_simp
          refine hK _ _ HMa.out.cells (fun hHeld => ?_)
          clear hK K m0 m1' m2' m3 m4 mf
          refine wpAnyH_ready (rs := [5]) (by kernel_rfl) (by simp) ?_
          refine AllReadyH.cons (o := _) rfl (fun K hK => ?_) AllReadyH.nil
          go_simp
          refine hK _ _ HMa.out.cells (fun hHeld => ?_)
          clear hK K
          refine wpAnyH_ready (rs := [6]) (by kernel_rfl) (by simp) ?_
          refine AllReadyH.cons (o := _) rfl (fun K hK => ?_) AllReadyH.nil
          rw [if_pos (show Region.wanted _ _ = true by kernel_rfl)]
          refine wp_append_gen _ _ 32 rfl (H + 4) 46 i0 _ 2 24 Try.underlying32 hi0 hz0 hz1 hz2 rfl (by omega) (.slice la al lc) al (nsC acc) rfl (by exact HOa.out) _ _ _ (nsC (ns.drop i)) rfl (by rw [nsC_len, List.length_drop]; have := HL.out; omega) (by intro h; first | (cases h; done) | omega) (fun ad had j u hu => by cases had; exact HCT.out j u hu) HONE.out (by unfold maxLen; omega) (by omega) (by have := HMa.out.2.2.2.2.1; exact this) ?_
          intro a9 c9 w4 hown4 hgrow
          obtain ⟨e9, ho9⟩ := own_castN hown4 HF.out
          rw [e9] at ho9 ⊢
          clear hown4
          have HB4 : Hid (Below (H + 4) z37 w4) := (Below.refl _ _).grown hgrow HMa.out.2.2.2.2.1 (fun k hk => (World.ownsRow.lt HOa.out k hk).1)
          have HM4 := Lib.hid (HMa.out.keep HB4.out)
          have HM5 : Hid (MR H w (w4.setCell ⟨H + 1 + 1 + 1, 0, none⟩ (.slice a9 (mgN ns ns2).length c9)) (some ⟨g, o, none⟩) ma na2 ma2 nc mc nc2 mc2 n1 n2 m1 m2 sz qu sz2 qu2 ag ag2 (.slice a9 (mgN ns ns2).length c9) 0 0 ⟨#[]⟩ (.slice none 0 0)) := HM4.out.set 0 _ rfl
          have HO5 : Hid ((w4.setCell ⟨H + 1 + 1 + 1, 0, none⟩ (.slice a9 (mgN ns ns2).length c9)).ownsRow (H + 4) 46 2 (.slice a9 (mgN ns ns2).length c9) (mgN ns ns2).length (nsC (mgN ns ns2))) := ho9.kept (grown_setCell _ _ _) (owns_ne ho9 (by show H + 1 + 1 + 1 < _; omega))
          clear HMa HOa hgrow HB4 ho9 e9
          simp only [zq]
          refine hK _ _ HM4.out.cells (fun hHeld => ?_)
          clear hK K
          refine tkB (i := 7) (v := .pointer (some ⟨H + 1 + 1 + 1, 0, none⟩)) rfl hHeld ?_
          simp only [zq]
          refine wpAnyH_ready (rs := [8]) (by kernel_rfl) (by simp) ?_
          refine AllReadyH.cons (o := _) rfl (fun K hK => ?_) AllReadyH.nil
          obtain ⟨m0, m1', m2', m3, m4, mf⟩ := HM4.out.wish
          have mf0 := mf 0
          clear mf
          go_simp
          refine hK _ _ HM5.out.cells (fun hHeld => ?_)
          clear hK K m0 m1' m2' m3 m4 mf0 HM4
          refine wpAnyH_done (by kernel_rfl) ?_ _
          clear hHeld
          generalize w4.setCell ⟨H + 1 + 1 + 1, 0, none⟩ (.slice a9 (mgN ns ns2).length c9) = w5 at *
          exact HEND.out _ _ _ _ _ _ _ _ _ _ _ _ _ _ _ _ _ _ _ _ _ _ _ _ _ _ _ _ _ _ _ _ _ _ _ _ _ _ _ _ _ _ _ _ _ _ _ _ _ _ _ _ _ _ _ _ _ _ _ _ _ _ _ _ _ _ _ _ _ _ _ _ _ _ _ _ _ _ _ _ _ _ _ _ _ _ _ _ _ _ _ _ _ _ _ _ _ _ _ _ _ _ _ _ _ _ _ _ _ _ _ _ _ _ _ _ _ _ _ _ _ _ _ _ _ _ _ _ _ _ _ _ _ _ _ _ _ _ _ _ _ _ _ _ _ _ _ _ _ _ _ _ _ _ _ _ _ _ _ _ _ _ _ _ _ _ _ _ _ _ _ _ _ _ _ _ _ _ _ _ _ _ _ _ _ _ _ _ _ _ _ _ _ _ _ _ _ _ _ _ _ _ w5 a9 c9 ⟨HM5.out, HO5.out⟩
        · go_simp
          refine hK _ _ HMa.out.cells (fun hHeld => ?_)
          clear hK K
          refine wpAnyH_ready (rs := [1]) (by kernel_rfl) (by simp) ?_
          refine AllReadyH.cons (o := _) rfl (fun K hK => ?_) AllReadyH.nil
          obtain ⟨m0, m1', m2', m3, m4, mf⟩ := HMa.out.wish
          go_simp
          refine hK _ _ HMa.out.cells (fun hHeld => ?_)
          clear hK K m0 m1' m2' m3 m4 mf
          refine wpAnyH_ready (rs := [6]) (by kernel_rfl) (by simp) ?_
          refine AllReadyH.cons (o := _) rfl (fun K hK => ?_) AllReadyH.nil
          rw [if_pos (show Region.wanted _ _ = true by kernel_rfl)]
          refine wp_append_gen _ _ 32 rfl (H + 4) 46 i0 _ 2 24 Try.underlying32 hi0 hz0 hz1 hz2 rfl (by omega) (.slice la al lc) al (nsC acc) rfl (by exact HOa.out) _ _ _ (nsC (ns.drop i)) rfl (by rw [nsC_len, List.length_drop]; have := HL.out; omega) (by intro h; first | (cases h; done) | omega) (fun ad had j u hu => by cases had; exact HCT.out j u hu) HONE.out (by unfold maxLen; omega) (by omega) (by have := HMa.out.2.2.2.2.1; exact this) ?_
          intro a9 c9 w4 hown4 hgrow
          obtain ⟨e9, ho9⟩ := own_castN hown4 HF.out
          rw [e9] at ho9 ⊢
          clear hown4
          have HB4 : Hid (Below (H + 4) z37 w4) := (Below.refl _ _).grown hgrow HMa.out.2.2.2.2.1 (fun k hk => (World.ownsRow.lt HOa.out k hk).1)
          have HM4 := Lib.hid (HMa.out.keep HB4.out)
          have HM5 : Hid (MR H w (w4.setCell ⟨H + 1 + 1 + 1, 0, none⟩ (.slice a9 (mgN ns ns2).length c9)) (some ⟨g, o, none⟩) ma na2 ma2 nc mc nc2 mc2 n1 n2 m1 m2 sz qu sz2 qu2 ag ag2 (.slice a9 (mgN ns ns2).length c9) 0 0 ⟨#[]⟩ (.slice none 0 0)) := HM4.out.set 0 _ rfl
          have HO5 : Hid ((w4.setCell ⟨H + 1 + 1 + 1, 0, none⟩ (.slice a9 (mgN ns ns2).length c9)).ownsRow (H + 4) 46 2 (.slice a9 (mgN ns ns2).length c9) (mgN ns ns2).length (nsC (mgN ns ns2))) := ho9.kept (grown_setCell _ _ _) (owns_ne ho9 (by show H + 1 + 1 + 1 < _; omega))
          clear HMa HOa hgrow HB4 ho9 e9
          simp only [zq]
          refine hK _ _ HM4.out.cells (fun hHeld => ?_)
          clear hK K
          refine tkB (i := 7) (v := .pointer (some ⟨H + 1 + 1 + 1, 0, none⟩)) rfl hHeld ?_
          simp only [zq]
          refine wpAnyH_ready (rs := [8]) (by kernel_rfl) (by simp) ?_
          refine AllReadyH.cons (o := _) rfl (fun K hK => ?_) AllReadyH.nil
          obtain ⟨m0, m1', m2', m3, m4, mf⟩ := HM4.out.wish
          have mf0 := mf 0
          clear mf
          go_simp
          refine hK _ _ HM5.out.cells (fun hHeld => ?_)
          clear hK K m0 m1' m2' m3 m4 mf0 HM4
          refine wpAnyH_done (by kernel_rfl) ?_ _
          clear hHeld
          generalize w4.setCell ⟨H + 1 + 1 + 1, 0, none⟩ (.slice a9 (mgN ns ns2).length c9) = w5 at *
          exact HEND.out _ _ _ _ _ _ _ _ _ _ _ _ _ _ _ _ _ _ _ _ _ _ _ _ _ _ _ _ _ _ _ _ _ _ _ _ _ _ _ _ _ _ _ _ _ _ _ _ _ _ _ _ _ _ _ _ _ _ _ _ _ _ _ _ _ _ _ _ _ _ _ _ _ _ _ _ _ _ _ _ _ _ _ _ _ _ _ _ _ _ _ _ _ _ _ _ _ _ _ _ _ _ _ _ _ _ _ _ _ _ _ _ _ _ _ _ _ _ _ _ _ _ _ _ _ _ _ _ _ _ _ _ _ _ _ _ _ _ _ _ _ _ _ _ _ _ _ _ _ _ _ _ _ _ _ _ _ _ _ _ _ _ _ _ _ _ _ _ _ _ _ _ _ _ _ _ _ _ _ _ _ _ _ _ _ _ _ _ _ _ _ _ _ _ _ _ _ _ _ _ _ _ w5 a9 c9 ⟨HM5.out, HO5.out⟩
      · obtain rfl : i = n1 := by omega
        have HDR : Hid (ns.drop i = []) := List.drop_eq_nil_of_le (by have := HL.out; omega)
        cases hna : na with
        | none =>
         subst hna
         obtain rfl : nc = 0 := hcp.2 rfl
         obtain rfl : i = 0 := by omega
         subst hO hQ
         refine wp_region_held_drew (S := MC H none ma na2 ma2 0 mc nc2 mc2 0 n2 m1 m2 sz qu sz2 qu2 ag ag2) (by kernel_rfl) ((HM.out.keep (belowDrew1 wr |>.mono HM.out.2.2.2.2.1)).cells) (fun hHeld => ?_)
         refine tkB (i := 0) (v := .pointer (some ⟨H + 1 + 1 + 1, 0, none⟩)) rfl hHeld ?_
         simp only [zq]
         refine tkB (i := 2) (v := .pointer (some ⟨H, 0, none⟩)) rfl hHeld ?_
         simp only [zq]
         refine tkA (i := 3) (v := .slice none 0 0) rfl (Or.inl ⟨by rfl, fun w hw => by obtain ⟨⟨s0, s1, s2, s3, s4⟩, t0, t1, t2, t3, t4⟩ := hw; go_simp⟩) hHeld ?_
         simp only [zq]
         refine tkB (i := 4) (v := .int .i64 0) rfl hHeld ?_
         simp only [zq]
         have HMa := Lib.hid (HM.out.keep (belowDrew1 wr |>.mono HM.out.2.2.2.2.1))
         have HOa := Lib.hid (own_keep HO.out (belowDrew1 wr))
         generalize wr.drew = z38 at *
         refine wpAnyH_ready (rs := [1, 5]) (by kernel_rfl) (by simp) ?_
         refine AllReadyH.cons (o := _) rfl (fun K hK => ?_) (AllReadyH.cons (o := _) rfl (fun K hK => ?_) AllReadyH.nil)
         · obtain ⟨m0, m1', m2', m3, m4, mf⟩ := HMa.out.wish
           go_simp
           refine hK _ _ HMa.out.cells (fun hHeld => ?_)
           clear hK K m0 m1' m2' m3 m4 mf
           refine wpAnyH_ready (rs := [5]) (by kernel_rfl) (by simp) ?_
           refine AllReadyH.cons (o := _) rfl (fun K hK => ?_) AllReadyH.nil
           go_simp
           refine hK _ _ HMa.out.cells (fun hHeld => ?_)
           clear hK K
           refine wpAnyH_ready (rs := [6]) (by kernel_rfl) (by simp) ?_
           refine AllReadyH.cons (o := _) rfl (fun K hK => ?_) AllReadyH.nil
           rw [if_pos (show Region.wanted _ _ = true by kernel_rfl)]
           refine wp_append_gen _ _ 32 rfl (H + 4) 46 i0 _ 2 24 Try.underlying32 hi0 hz0 hz1 hz2 rfl (by omega) (.slice la al lc) al (nsC acc) rfl (by exact HOa.out) _ _ _ (nsC (ns.drop 0)) rfl (by rw [nsC_len, List.length_drop]; have := HL.out; omega) (by intro h; first | (cases h; done) | omega) (fun ad had => by cases had) HONE.out (by unfold maxLen; omega) (by omega) (by have := HMa.out.2.2.2.2.1; exact this) ?_
           intro a9 c9 w4 hown4 hgrow
           obtain ⟨e9, ho9⟩ := own_castN hown4 HF.out
           rw [e9] at ho9 ⊢
           clear hown4
           have HB4 : Hid (Below (H + 4) z38 w4) := (Below.refl _ _).grown hgrow HMa.out.2.2.2.2.1 (fun k hk => (World.ownsRow.lt HOa.out k hk).1)
           have HM4 := Lib.hid (HMa.out.keep HB4.out)
           have HM5 : Hid (MR H w (w4.setCell ⟨H + 1 + 1 + 1, 0, none⟩ (.slice a9 (mgN ns ns2).length c9)) none ma na2 ma2 0 mc nc2 mc2 0 n2 m1 m2 sz qu sz2 qu2 ag ag2 (.slice a9 (mgN ns ns2).length c9) 0 0 ⟨#[]⟩ (.slice none 0 0)) := HM4.out.set 0 _ rfl
           have HO5 : Hid ((w4.setCell ⟨H + 1 + 1 + 1, 0, none⟩ (.slice a9 (mgN ns ns2).length c9)).ownsRow (H + 4) 46 2 (.slice a9 (mgN ns ns2).length c9) (mgN ns ns2).length (nsC (mgN ns ns2))) := ho9.kept (grown_setCell _ _ _) (owns_ne ho9 (by show H + 1 + 1 + 1 < _; omega))
           clear HMa HOa hgrow HB4 ho9 e9
           simp only [zq]
           refine hK _ _ HM4.out.cells (fun hHeld => ?_)
           clear hK K
           refine tkB (i := 7) (v := .pointer (some ⟨H + 1 + 1 + 1, 0, none⟩)) rfl hHeld ?_
           simp only [zq]
           refine wpAnyH_ready (rs := [8]) (by kernel_rfl) (by simp) ?_
           refine AllReadyH.cons (o := _) rfl (fun K hK => ?_) AllReadyH.nil
           obtain ⟨m0, m1', m2', m3, m4, mf⟩ := HM4.out.wish
           have mf0 := mf 0
           clear mf
           go_simp
           refine hK _ _ HM5.out.cells (fun hHeld => ?_)
           clear hK K m0 m1' m2' m3 m4 mf0 HM4
           refine wpAnyH_done (by kernel_rfl) ?_ _
           clear hHeld
           generalize w4.setCell ⟨H + 1 + 1 + 1, 0, none⟩ (.slice a9 (mgN ns ns2).length c9) = w5 at *
           exact HEND.out _ _ _ _ _ _ _ _ _ _ _ _ _ _ _ _ _ _ _ _ _ _ _ _ _ _ _ _ _ _ _ _ _ _ _ _ _ _ _ _ _ _ _ _ _ _ _ _ _ _ _ _ _ _ _ _ _ _ _ _ _ _ _ _ _ _ _ _ _ _ _ _ _ _ _ _ _ _ _ _ _ _ _ _ _ _ _ _ _ _ _ _ _ _ _ _ _ _ _ _ _ _ _ _ _ _ _ _ _ _ _ _ _ _ _ _ _ _ _ _ _ _ _ _ _ _ _ _ _ _ _ _ _ _ _ _ _ _ _ _ _ _ _ _ _ _ _ _ _ _ _ _ _ _ _ _ _ _ _ _ _ _ _ _ _ _ _ _ _ _ _ _ _ _ _ _ _ _ _ _ _ _ _ _ _ _ _ _ _ _ _ _ _ _ _ _ _ _ _ _ _ _ w5 a9 c9 ⟨HM5.out, HO5.out⟩
         · go_simp
           refine hK _ _ HMa.out.cells (fun hHeld => ?_)
           clear hK K
           refine wpAnyH_ready (rs := [1]) (by kernel_rfl) (by simp) ?_
           refine AllReadyH.cons (o := _) rfl (fun K hK => ?_) AllReadyH.nil
           obtain ⟨m0, m1', m2', m3, m4, mf⟩ := HMa.out.wish
           go_simp
           refine hK _ _ HMa.out.cells (fun hHeld => ?_)
           clear hK K m0 m1' m2' m3 m4 mf
           refine wpAnyH_ready (rs := [6]) (by kernel_rfl) (by simp) ?_
           refine AllReadyH.cons (o := _) rfl (fun K hK => ?_) AllReadyH.nil
           rw [if_pos (show Region.wanted _ _ = true by kernel_rfl)]
           refine wp_append_gen _ _ 32 rfl (H + 4) 46 i0 _ 2 24 Try.underlying32 hi0 hz0 hz1 hz2 rfl (by omega) (.slice la al lc) al (nsC acc) rfl (by exact HOa.out) _ _ _ (nsC (ns.drop 0)) rfl (by rw [nsC_len, List.length_drop]; have := HL.out; omega) (by intro h; first | (cases h; done) | omega) (fun ad had => by cases had) HONE.out (by unfold maxLen; omega) (by omega) (by have := HMa.out.2.2.2.2.1; exact this) ?_
           intro a9 c9 w4 hown4 hgrow
           obtain ⟨e9, ho9⟩ := own_castN hown4 HF.out
           rw [e9] at ho9 ⊢
           clear hown4
           have HB4 : Hid (Below (H + 4) z38 w4) := (Below.refl _ _).grown hgrow HMa.out.2.2.2.2.1 (fun k hk => (World.ownsRow.lt HOa.out k hk).1)
           have HM4 := Lib.hid (HMa.out.keep HB4.out)
           have HM5 : Hid (MR H w (w4.setCell ⟨H + 1 + 1 + 1, 0, none⟩ (.slice a9 (mgN ns ns2).length c9)) none ma na2 ma2 0 mc nc2 mc2 0 n2 m1 m2 sz qu sz2 qu2 ag ag2 (.slice a9 (mgN ns ns2).length c9) 0 0 ⟨#[]⟩ (.slice none 0 0)) := HM4.out.set 0 _ rfl
           have HO5 : Hid ((w4.setCell ⟨H + 1 + 1 + 1, 0, none⟩ (.slice a9 (mgN ns ns2).length c9)).ownsRow (H + 4) 46 2 (.slice a9 (mgN ns ns2).length c9) (mgN ns ns2).length (nsC (mgN ns ns2))) := ho9.kept (grown_setCell _ _ _) (owns_ne ho9 (by show H + 1 + 1 + 1 < _; omega))
           clear HMa HOa hgrow HB4 ho9 e9
           simp only [zq]
           refine hK _ _ HM4.out.cells (fun hHeld => ?_)
           clear hK K
           refine tkB (i := 7) (v := .pointer (some ⟨H + 1 + 1 + 1, 0, none⟩)) rfl hHeld ?_
           simp only [zq]
           refine wpAnyH_ready (rs := [8]) (by kernel_rfl) (by simp) ?_
           refine AllReadyH.cons (o := _) rfl (fun K hK => ?_) AllReadyH.nil
           obtain ⟨m0, m1', m2', m3, m4, mf⟩ := HM4.out.wish
           have mf0 := mf 0
           clear mf
           go_simp
           refine hK _ _ HM5.out.cells (fun hHeld => ?_)
           clear hK K m0 m1' m2' m3 m4 mf0 HM4
           refine wpAnyH_done (by kernel_rfl) ?_ _
           clear hHeld
           generalize w4.setCell ⟨H + 1 + 1 + 1, 0, none⟩ (.slice a9 (mgN ns ns2).length c9) = w5 at *
           exact HEND.out _ _ _ _ _ _ _ _ _ _ _ _ _ _ _ _ _ _ _ _ _ _ _ _ _ _ _ _ _ _ _ _ _ _ _ _ _ _ _ _ _ _ _ _ _ _ _ _ _ _ _ _ _ _ _ _ _ _ _ _ _ _ _ _ _ _ _ _ _ _ _ _ _ _ _ _ _ _ _ _ _ _ _ _ _ _ _ _ _ _ _ _ _ _ _ _ _ _ _ _ _ _ _ _ _ _ _ _ _ _ _ _ _ _ _ _ _ _ _ _ _ _ _ _ _ _ _ _ _ _ _ _ _ _ _ _ _ _ _ _ _ _ _ _ _ _ _ _ _ _ _ _ _ _ _ _ _ _ _ _ _ _ _ _ _ _ _ _ _ _ _ _ _ _ _ _ _ _ _ _ _ _ _ _ _ _ _ _ _ _ _ _ _ _ _ _ _ _ _ _ _ _ w5 a9 c9 ⟨HM5.out, HO5.out⟩
        | some ad =>
         subst hna
         subst hO hQ
         refine wp_region_held_drew (S := MC H (some ad) ma na2 ma2 nc mc nc2 mc2 i n2 m1 m2 sz qu sz2 qu2 ag ag2) (by kernel_rfl) ((HM.out.keep (belowDrew1 wr |>.mono HM.out.2.2.2.2.1)).cells) (fun hHeld => ?_)
         refine tkB (i := 0) (v := .pointer (some ⟨H + 1 + 1 + 1, 0, none⟩)) rfl hHeld ?_
         simp only [zq]
         refine tkB (i := 2) (v := .pointer (some ⟨H, 0, none⟩)) rfl hHeld ?_
         simp only [zq]
         refine tkA (i := 3) (v := .slice (some ad) i nc) rfl (Or.inl ⟨by rfl, fun w hw => by obtain ⟨⟨s0, s1, s2, s3, s4⟩, t0, t1, t2, t3, t4⟩ := hw; go_simp⟩) hHeld ?_
         simp only [zq]
         refine tkB (i := 4) (v := .int .i64 (i : Int)) rfl hHeld ?_
         simp only [zq]
         have HMa := Lib.hid (HM.out.keep (belowDrew1 wr |>.mono HM.out.2.2.2.2.1))
         have HOa := Lib.hid (own_keep HO.out (belowDrew1 wr))
         generalize wr.drew = z39 at *
         refine wpAnyH_ready (rs := [1, 5]) (by kernel_rfl) (by simp) ?_
         refine AllReadyH.cons (o := _) rfl (fun K hK => ?_) (AllReadyH.cons (o := _) rfl (fun K hK => ?_) AllReadyH.nil)
         · obtain ⟨m0, m1', m2', m3, m4, mf⟩ := HMa.out.wish
           go_simp
           refine hK _ _ HMa.out.cells (fun hHeld => ?_)
           clear hK K m0 m1' m2' m3 m4 mf
           refine wpAnyH_ready (rs := [5]) (by kernel_rfl) (by simp) ?_
           refine AllReadyH.cons (o := _) rfl (fun K hK => ?_) AllReadyH.nil
           go_simp
           refine hK _ _ HMa.out.cells (fun hHeld => ?_)
           clear hK K
           refine wpAnyH_ready (rs := [6]) (by kernel_rfl) (by simp) ?_
           refine AllReadyH.cons (o := _) rfl (fun K hK => ?_) AllReadyH.nil
           rw [if_pos (show Region.wanted _ _ = true by kernel_rfl)]
           refine wp_append_gen _ _ 32 rfl (H + 4) 46 i0 _ 2 24 Try.underlying32 hi0 hz0 hz1 hz2 rfl (by omega) (.slice la al lc) al (nsC acc) rfl (by exact HOa.out) _ _ _ (nsC (ns.drop i)) rfl (by rw [nsC_len, List.length_drop]; have := HL.out; omega) (by intro h; first | (cases h; done) | omega) (fun ad had j u hu => by rw [HDR.out] at hu; simp [nsC] at hu) HONE.out (by unfold maxLen; omega) (by omega) (by have := HMa.out.2.2.2.2.1; exact this) ?_
           intro a9 c9 w4 hown4 hgrow
           obtain ⟨e9, ho9⟩ := own_castN hown4 HF.out
           rw [e9] at ho9 ⊢
           clear hown4
           have HB4 : Hid (Below (H + 4) z39 w4) := (Below.refl _ _).grown hgrow HMa.out.2.2.2.2.1 (fun k hk => (World.ownsRow.lt HOa.out k hk).1)
           have HM4 := Lib.hid (HMa.out.keep HB4.out)
           have HM5 : Hid (MR H w (w4.setCell ⟨H + 1 + 1 + 1, 0, none⟩ (.slice a9 (mgN ns ns2).length c9)) (some ad) ma na2 ma2 nc mc nc2 mc2 i n2 m1 m2 sz qu sz2 qu2 ag ag2 (.slice a9 (mgN ns ns2).length c9) 0 0 ⟨#[]⟩ (.slice none 0 0)) := HM4.out.set 0 _ rfl
           have HO5 : Hid ((w4.setCell ⟨H + 1 + 1 + 1, 0, none⟩ (.slice a9 (mgN ns ns2).length c9)).ownsRow (H + 4) 46 2 (.slice a9 (mgN ns ns2).length c9) (mgN ns ns2).length (nsC (mgN ns ns2))) := ho9.kept (grown_setCell _ _ _) (owns_ne ho9 (by show H + 1 + 1 + 1 < _; omega))
           clear HMa HOa hgrow HB4 ho9 e9
           simp only [zq]
           refine hK _ _ HM4.out.cells (fun hHeld => ?_)
           clear hK K
           refine tkB (i := 7) (v := .pointer (some ⟨H + 1 + 1 + 1, 0, none⟩)) rfl hHeld ?_
           simp only [zq]
           refine wpAnyH_ready (rs := [8]) (by kernel_rfl) (by simp) ?_
           refine AllReadyH.cons (o := _) rfl (fun K hK => ?_) AllReadyH.nil
           obtain ⟨m0, m1', m2', m3, m4, mf⟩ := HM4.out.wish
           have mf0 := mf 0
           clear mf
           go_simp
           refine hK _ _ HM5.out.cells (fun hHeld => ?_)
           clear hK K m0 m1' m2' m3 m4 mf0 HM4
           refine wpAnyH_done (by kernel_rfl) ?_ _
           clear hHeld
           generalize w4.setCell ⟨H + 1 + 1 + 1, 0, none⟩ (.slice a9 (mgN ns ns2).length c9) = w5 at *
           exact HEND.out _ _ _ _ _ _ _ _ _ _ _ _ _ _ _ _ _ _ _ _ _ _ _ _ _ _ _ _ _ _ _ _ _ _ _ _ _ _ _ _ _ _ _ _ _ _ _ _ _ _ _ _ _ _ _ _ _ _ _ _ _ _ _ _ _ _ _ _ _ _ _ _ _ _ _ _ _ _ _ _ _ _ _ _ _ _ _ _ _ _ _ _ _ _ _ _ _ _ _ _ _ _ _ _ _ _ _ _ _ _ _ _ _ _ _ _ _ _ _ _ _ _ _ _ _ _ _ _ _ _ _ _ _ _ _ _ _ _ _ _ _ _ _ _ _ _ _ _ _ _ _ _ _ _ _ _ _ _ _ _ _ _ _ _ _ _ _ _ _ _ _ _ _ _ _ _ _ _ _ _ _ _ _ _ _ _ _ _ _ _ _ _ _ _ _ _ _ _ _ _ _ _ w5 a9 c9 ⟨HM5.out, HO5.out⟩
         · go_simp
           refine hK _ _ HMa.out.cells (fun hHeld => ?_)
           clear hK K
           refine wpAnyH_ready (rs := [1]) (by kernel_rfl) (by simp) ?_
           refine AllReadyH.cons (o := _) rfl (fun K hK => ?_) AllReadyH.nil
           obtain ⟨m0, m1', m2', m3, m4, mf⟩ := HMa.out.wish
           go_simp
           refine hK _ _ HMa.out.cells (fun hHeld => ?_)
           clear hK K m0 m1' m2' m3 m4 mf
           refine wpAnyH_ready (rs := [6]) (by kernel_rfl) (by simp) ?_
           refine AllReadyH.cons (o := _) rfl (fun K hK => ?_) AllReadyH.nil
           rw [if_pos (show Region.wanted _ _ = true by kernel_rfl)]
           refine wp_append_gen _ _ 32 rfl (H + 4) 46 i0 _ 2 24 Try.underlying32 hi0 hz0 hz1 hz2 rfl (by omega) (.slice la al lc) al (nsC acc) rfl (by exact HOa.out) _ _ _ (nsC (ns.drop i)) rfl (by rw [nsC_len, List.length_drop]; have := HL.out; omega) (by intro h; first | (cases h; done) | omega) (fun ad had j u hu => by rw [HDR.out] at hu; simp [nsC] at hu) HONE.out (by unfold maxLen; omega) (by omega) (by have := HMa.out.2.2.2.2.1; exact this) ?_
           intro a9 c9 w4 hown4 hgrow
           obtain ⟨e9, ho9⟩ := own_castN hown4 HF.out
           rw [e9] at ho9 ⊢
           clear hown4
           have HB4 : Hid (Below (H + 4) z39 w4) := (Below.refl _ _).grown hgrow HMa.out.2.2.2.2.1 (fun k hk => (World.ownsRow.lt HOa.out k hk).1)
           have HM4 := Lib.hid (HMa.out.keep HB4.out)
           have HM5 : Hid (MR H w (w4.setCell ⟨H + 1 + 1 + 1, 0, none⟩ (.slice a9 (mgN ns ns2).length c9)) (some ad) ma na2 ma2 nc mc nc2 mc2 i n2 m1 m2 sz qu sz2 qu2 ag ag2 (.slice a9 (mgN ns ns2).length c9) 0 0 ⟨#[]⟩ (.slice none 0 0)) := HM4.out.set 0 _ rfl
           have HO5 : Hid ((w4.setCell ⟨H + 1 + 1 + 1, 0, none⟩ (.slice a9 (mgN ns ns2).length c9)).ownsRow (H + 4) 46 2 (.slice a9 (mgN ns ns2).length c9) (mgN ns ns2).length (nsC (mgN ns ns2))) := ho9.kept (grown_setCell _ _ _) (owns_ne ho9 (by show H + 1 + 1 + 1 < _; omega))
           clear HMa HOa hgrow HB4 ho9 e9
           simp only [zq]
           refine hK _ _ HM4.out.cells (fun hHeld => ?_)
           clear hK K
           refine tkB (i := 7) (v := .pointer (some ⟨H + 1 + 1 + 1, 0, none⟩)) rfl hHeld ?_
           simp only [zq]
           refine wpAnyH_ready (rs := [8]) (by kernel_rfl) (by simp) ?_
           refine AllReadyH.cons (o := _) rfl (fun K hK => ?_) AllReadyH.nil
           obtain ⟨m0, m1', m2', m3, m4, mf⟩ := HM4.out.wish
           have mf0 := mf 0
           clear mf
           go_simp
           refine hK _ _ HM5.out.cells (fun hHeld => ?_)
           clear hK K m0 m1' m2' m3 m4 mf0 HM4
           refine wpAnyH_done (by kernel_rfl) ?_ _
           clear hHeld
           generalize w4.setCell ⟨H + 1 + 1 + 1, 0, none⟩ (.slice a9 (mgN ns ns2).length c9) = w5 at *
           exact HEND.out _ _ _ _ _ _ _ _ _ _ _ _ _ _ _ _ _ _ _ _ _ _ _ _ _ _ _ _ _ _ _ _ _ _ _ _ _ _ _ _ _ _ _ _ _ _ _ _ _ _ _ _ _ _ _ _ _ _ _ _ _ _ _ _ _ _ _ _ _ _ _ _ _ _ _ _ _ _ _ _ _ _ _ _ _ _ _ _ _ _ _ _ _ _ _ _ _ _ _ _ _ _ _ _ _ _ _ _ _ _ _ _ _ _ _ _ _ _ _ _ _ _ _ _ _ _ _ _ _ _ _ _ _ _ _ _ _ _ _ _ _ _ _ _ _ _ _ _ _ _ _ _ _ _ _ _ _ _ _ _ _ _ _ _ _ _ _ _ _ _ _ _ _ _ _ _ _ _ _ _ _ _ _ _ _ _ _ _ _ _ _ _ _ _ _ _ _ _ _ _ _ _ w5 a9 c9 ⟨HM5.out, HO5.out⟩
end Go.Proofs.Ytnjdopdlafcbgaa
