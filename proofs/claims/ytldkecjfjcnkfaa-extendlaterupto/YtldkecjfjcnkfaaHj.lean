import Derived.Test.YtldkecjfjcnkfaaHi
import Derived.Test.YtldkecjfjcnkfaaHc
import Derived.Test.YtldkecjfjcnkfaaGn
import Derived.Test.YtldkecjfjcnkfaaX1
namespace Go.Proofs.Ytldkecjfjcnkfaa
open Go.RowKit Go.Deep
theorem share_reg {id : Nat} {ops : Array Oper} {Q : Exit → Act → World → Prop} {a : Act} {w : World} (h : ∀ (O : Array Oper) (R : Exit → Act → World → Prop), O = ops → R = Q → (Code.region id O true).wp Try.prog R a w) : (Code.region id ops true).wp Try.prog Q a w := h ops Q rfl rfl
/-- a new block -/
def BK (x : World) (d : Nat) (c : Array Value) (t : TypeId) : Prop := x.heap[d]? = some (.cells c t (0, 0))
theorem BK.keep {x y : World} {d : Nat} {c : Array Value} {t : TypeId} (h : BK x d c t) (hb : Below x.heap.size x y) : BK y d c t := (hb.block _ (Array.getElem?_eq_some_iff.1 h).1).trans h
theorem own_mono {w : World} {B B' : Nat} {e : TypeId} {size : Nat} {v : Value} {n : Nat} {xs : List Value} (h : w.ownsRow B' e size v n xs) (hB : B ≤ B') : w.ownsRow B e size v n xs := by
  obtain ⟨h1, h2⟩ := h
  refine ⟨h1, ?_⟩
  rcases h2 with h2 | ⟨g, cap, cur, e1, e2, e3⟩
  · exact .inl h2
  · exact .inr ⟨g, cap, cur, e1, Nat.le_trans hB e2, e3⟩
theorem own_keep {x y : World} {B : Nat} {e : TypeId} {size : Nat} {v : Value} {n : Nat} {xs : List Value} (h : x.ownsRow B e size v n xs) (hb : Below x.heap.size x y) : y.ownsRow B e size v n xs :=
  h.kept (grown_of_below hb) (by cases hv : v.ownBlock with | none => exact .inl rfl | some q => exact .inr (by simp))
/-- a slice in new memory -/
def FN (B : Nat) (v : Value) : Prop := ∀ a n c, v = .slice (some a) n c → B ≤ a.block
/-- behind the store of the answer -/
theorem merge_end {H : Nat} {w y wE : World} {na ma na2 ma2 : Option Addr} {nc mc nc2 mc2 : Nat} {ns ns2 : List (ByteArray × Int)} {sz qu sz2 qu2 : Int} {ag ag2 : ByteArray} {es es2 : List PE} {ra ya : Option Addr} {rc yc : Nat} (hm : MB H w y na ma na2 ma2 nc mc nc2 mc2 ns ns2 sz qu sz2 qu2 ag ag2 es es2) (hr : y.ownsRow (H + 3) 46 2 (.slice ra (mgN ns ns2).length rc) (mgN ns ns2).length (nsC (mgN ns ns2))) (hd : RD (fun b => H + 3 ≤ b) y (mgP es es2).length (kyG (mgP es es2)) (dvG (mgP es es2)) (.slice ya (mgP es es2).length yc)) (hE : Besides (H + 1 + 1) y wE) :
    Below H w wE ∧ RNs wE (.slice ra (mgN ns ns2).length rc) (mgN ns ns2) ∧ RD (fun b => H ≤ b) wE (mgP es es2).length (kyG (mgP es es2)) (dvG (mgP es es2)) (.slice ya (mgP es es2).length yc) ∧ FN H (.slice ra (mgN ns ns2).length rc) := by
  have hs := hm.2.2.2.1
  have hb := hm.2.2.2.2.1
  refine ⟨⟨hE.os.trans hb.os, hE.tape.trans hb.tape, hE.output.trans hb.output, Nat.le_trans hb.size hE.size, fun q hq => (hE.block q (by omega) (by omega)).trans (hb.block q hq)⟩, ?_, RD.keep (fun b h => (show H ≤ b by have h9 : H + 3 ≤ b := h; omega)) hE.size (fun b h hl => hE.block b hl (by have h9 : H + 3 ≤ b := h; omega)) hd, fun a n c e => ?_⟩
  · refine names_of (B := H + 3) ⟨hr.1, ?_⟩
    rcases hr.2 with h2 | ⟨g, cap, cur, e1, e2, e3, e4⟩
    · exact .inl h2
    · exact .inr ⟨g, cap, cur, e1, e2, (hE.block g (Array.getElem?_eq_some_iff.1 e3).1 (by omega)).trans e3, e4⟩
  · rcases hr.2 with ⟨h1, _⟩ | ⟨g, cap, cur, e1, e2, _⟩
    · rw [h1] at e; cases e
    · rw [e1] at e
      cases e
      show H ≤ g
      omega
set_option maxHeartbeats 8000000 in
set_option maxRecDepth 100000 in
theorem Merge22 (na ma na2 ma2 : Option Addr) (nc mc nc2 mc2 : Nat) (ns ns2 : List (ByteArray × Int)) (sz qu sz2 qu2 : Int) (ag ag2 : ByteArray) (es es2 : List PE) (w : World) (h1 : RNs w (.slice na ns.length nc) ns) (h2 : RNs w (.slice na2 ns2.length nc2) ns2) (h3 : RG w.heap.size w (.slice ma es.length mc) es) (h4 : RG w.heap.size w (.slice ma2 es2.length mc2) es2)
    (c1 : capped (.slice na ns.length nc)) (c2 : capped (.slice na2 ns2.length nc2)) (c3 : capped (.slice ma es.length mc)) (c4 : capped (.slice ma2 es2.length mc2))
    (hl : ns.length + es.length ≤ 1073740000) (hl2 : ns2.length + es2.length ≤ 1073740000)
    (hk1 : (∀ x ∈ ns, x.1.size ≤ 140737488351232) ∧ ag.size ≤ 140737488351232 ∧ ∀ e ∈ es, e.key.size ≤ 140737488351232 ∧ e.t.ok) (hk2 : (∀ x ∈ ns2, x.1.size ≤ 140737488351232) ∧ ag2.size ≤ 140737488351232 ∧ ∀ e ∈ es2, e.key.size ≤ 140737488351232 ∧ e.t.ok)
    (hs1 : ∀ e ∈ es, e.t.small) (hs2 : ∀ e ∈ es2, e.t.small) :
    Calls Try.prog 22 #[.agg #[.slice na ns.length nc, .int .i64 sz, .int .i64 qu, .string ag, .slice ma es.length mc], .agg #[.slice na2 ns2.length nc2, .int .i64 sz2, .int .i64 qu2, .string ag2, .slice ma2 es2.length mc2]] w fun e w' => ∃ v, e = .returned v ∧ Below w.heap.size w w' ∧ ((¬ (GW ns sz qu es ∧ GW ns2 sz2 qu2 es2) ∧ v = .agg #[.slice none 0 0, .int .i64 0, .int .i64 0, .string ⟨#[]⟩, .slice none 0 0]) ∨ (GW ns sz qu es ∧ GW ns2 sz2 qu2 es2 ∧ ∃ nv s yv, v = .agg #[nv, .int .i64 (orI sz2 sz), .int .i64 (orI qu2 qu), .string s, yv] ∧ RNs w' nv (mgN ns ns2) ∧ s.toList = (orS ag2 ag).toList ∧ RD (fun b => w.heap.size ≤ b) w' (mgP es es2).length (kyG (mgP es es2)) (dvG (mgP es es2)) yv ∧ capd nv ∧ capd yv ∧ FN w.heap.size nv)) := by
  have HM0 : Hid (MB w.heap.size w (((w.alloc (.cells #[.slice na ns.length nc, .int .i64 sz, .int .i64 qu, .string ag, .slice ma es.length mc] 35)).alloc (.cells #[.slice na2 ns2.length nc2, .int .i64 sz2, .int .i64 qu2, .string ag2, .slice ma2 es2.length mc2] 35)).alloc (.cells #[.slice none 0 0, .int .i64 0, .int .i64 0, .string ⟨#[]⟩, .slice none 0 0] 35)) na ma na2 ma2 nc mc nc2 mc2 ns ns2 sz qu sz2 qu2 ag ag2 es es2) := MB.start w h1 h2 h3 h4
  have HC : Hid (capped (.slice na ns.length nc) ∧ capped (.slice na2 ns2.length nc2) ∧ capped (.slice ma es.length mc) ∧ capped (.slice ma2 es2.length mc2)) := ⟨c1, c2, c3, c4⟩
  have HK : Hid ((∀ x ∈ ns, x.1.size ≤ 140737488351232) ∧ ag.size ≤ 140737488351232 ∧ ∀ e ∈ es, e.key.size ≤ 140737488351232 ∧ e.t.ok) := hk1
  have HK2 : Hid ((∀ x ∈ ns2, x.1.size ≤ 140737488351232) ∧ ag2.size ≤ 140737488351232 ∧ ∀ e ∈ es2, e.key.size ≤ 140737488351232 ∧ e.t.ok) := hk2
  have HSM : Hid ((∀ e ∈ es, e.t.small) ∧ (∀ e ∈ es2, e.t.small) ∧ ns.length + es.length ≤ 1073740000 ∧ ns2.length + es2.length ≤ 1073740000) := ⟨hs1, hs2, hl, hl2⟩
  clear h1 h2 h3 h4 c1 c2 c3 c4 hk1 hk2 hs1 hs2
  generalize hn1 : ns.length = n1 at *
  generalize hn2 : ns2.length = n2 at *
  generalize hm1 : es.length = m1 at *
  generalize hm2 : es2.length = m2 at *
  have HL : Hid (ns.length = n1 ∧ ns2.length = n2 ∧ es.length = m1 ∧ es2.length = m2) := ⟨hn1, hn2, hm1, hm2⟩
  clear hn1 hn2 hm1 hm2
  go_enter Try.func22, Try.ntmps22
  go_upto_region 1 with fail
  generalize (((w.alloc (.cells #[.slice na n1 nc, .int .i64 sz, .int .i64 qu, .string ag, .slice ma m1 mc] 35)).alloc (.cells #[.slice na2 n2 nc2, .int .i64 sz2, .int .i64 qu2, .string ag2, .slice ma2 m2 mc2] 35)).alloc (.cells #[.slice none 0 0, .int .i64 0, .int .i64 0, .string ⟨#[]⟩, .slice none 0 0] 35)) = w0 at *
  generalize hvb : w.heap.size = H at *
  have HS := Lib.hid hvb
  clear hvb
  have hcs := HM0.out.cells
  rw [HL.out.1, HL.out.2.1, HL.out.2.2.1, HL.out.2.2.2] at hcs
  obtain ⟨⟨x0, x1, x2, x3, x4⟩, y0, y1, y2, y3, y4⟩ := hcs
  have HG1 := Lib.hid (isGood33 na ma nc mc ns sz qu ag es w0 HM0.out.2.2.2.2.2.1 HM0.out.2.2.2.2.2.2.2.1 (by have := HSM.out.2.2.1; have := HL.out; omega) HK.out.1 HK.out.2.1 HK.out.2.2)
  rw [HL.out.1, HL.out.2.2.1] at HG1
  go_wp2_with fail
  refine HG1.out.mono ?_
  rintro e w1 ⟨r, rfl, hg, hb⟩
  have HM1 : Hid (MB H w w1 na ma na2 ma2 nc mc nc2 mc2 ns ns2 sz qu sz2 qu2 ag ag2 es es2) := HM0.out.keep hb
  have HR1 : Hid (r = true ↔ GW ns sz qu es) := hg.iff
  clear HG1 HM0 hg hb x0 x1 x2 x3 x4 y0 y1 y2 y3 y4
  cases r with
  | false =>
    have hz := HM1.out.2.2.1
    have HZ := Lib.hid hz
    have z0 : w1.cell? ⟨H + 1 + 1, 0, none⟩ = some (.slice none 0 0) := by simp [World.cell?, hz]
    have z1 : w1.cell? ⟨H + 1 + 1, 1, none⟩ = some (.int .i64 0) := by simp [World.cell?, hz]
    have z2 : w1.cell? ⟨H + 1 + 1, 2, none⟩ = some (.int .i64 0) := by simp [World.cell?, hz]
    have z3 : w1.cell? ⟨H + 1 + 1, 3, none⟩ = some (.string ⟨#[]⟩) := by simp [World.cell?, hz]
    have z4 : w1.cell? ⟨H + 1 + 1, 4, none⟩ = some (.slice none 0 0) := by simp [World.cell?, hz]
    have f0 : ∀ j, w1.frozen? ⟨H + 1 + 1, j, none⟩ = false := fun j => by simp [World.frozen?, hz]
    have q0 := f0 0
    have q1 := f0 1
    have q2 := f0 2
    have q3 := f0 3
    have q4 := f0 4
    have HNG : Hid (¬ (GW ns sz qu es ∧ GW ns2 sz2 qu2 es2)) := fun h => by have := HR1.out.2 h.1; cases this
    clear hz f0
    go_wp2
    exact bodyPost_ret (v := .agg #[.slice none 0 0, .int .i64 0, .int .i64 0, .string ⟨#[]⟩, .slice none 0 0]) (results_cell_row Try.results22 _ _ (H + 1 + 1) 35 _ (0, 0) _ rfl (ow.set (ow.set (ow.set (ow.set (ow.set HZ.out 0 _) 1 _) 2 _) 3 _) 4 _) Try.underlying35 rfl info35s) rfl ⟨_, rfl, (by rw [HS.out]; exact below5 HM1.out.2.2.2.2.1 (by omega) _ _ _ _ _), .inl ⟨HNG.out, rfl⟩⟩
  | true =>
    have hcs := HM1.out.cells
    rw [HL.out.1, HL.out.2.1, HL.out.2.2.1, HL.out.2.2.2] at hcs
    obtain ⟨⟨x0, x1, x2, x3, x4⟩, y0, y1, y2, y3, y4⟩ := hcs
    have HG2 := Lib.hid (isGood33 na2 ma2 nc2 mc2 ns2 sz2 qu2 ag2 es2 w1 HM1.out.2.2.2.2.2.2.1 HM1.out.2.2.2.2.2.2.2.2 (by have := HSM.out.2.2.2; have := HL.out; omega) HK2.out.1 HK2.out.2.1 HK2.out.2.2)
    rw [HL.out.2.1, HL.out.2.2.2] at HG2
    go_wp2_with fail
    refine HG2.out.mono ?_
    rintro e w2 ⟨r, rfl, hg, hb⟩
    have HM2 : Hid (MB H w w2 na ma na2 ma2 nc mc nc2 mc2 ns ns2 sz qu sz2 qu2 ag ag2 es es2) := HM1.out.keep hb
    have HR2 : Hid (r = true ↔ GW ns2 sz2 qu2 es2) := hg.iff
    clear HG2 HM1 hg hb x0 x1 x2 x3 x4 y0 y1 y2 y3 y4
    cases r with
    | false =>
      have hz := HM2.out.2.2.1
      have HZ := Lib.hid hz
      have z0 : w2.cell? ⟨H + 1 + 1, 0, none⟩ = some (.slice none 0 0) := by simp [World.cell?, hz]
      have z1 : w2.cell? ⟨H + 1 + 1, 1, none⟩ = some (.int .i64 0) := by simp [World.cell?, hz]
      have z2 : w2.cell? ⟨H + 1 + 1, 2, none⟩ = some (.int .i64 0) := by simp [World.cell?, hz]
      have z3 : w2.cell? ⟨H + 1 + 1, 3, none⟩ = some (.string ⟨#[]⟩) := by simp [World.cell?, hz]
      have z4 : w2.cell? ⟨H + 1 + 1, 4, none⟩ = some (.slice none 0 0) := by simp [World.cell?, hz]
      have f0 : ∀ j, w2.frozen? ⟨H + 1 + 1, j, none⟩ = false := fun j => by simp [World.frozen?, hz]
      have q0 := f0 0
      have q1 := f0 1
      have q2 := f0 2
      have q3 := f0 3
      have q4 := f0 4
      have HNG : Hid (¬ (GW ns sz qu es ∧ GW ns2 sz2 qu2 es2)) := fun h => by have := HR2.out.2 h.2; cases this
      clear hz f0
      go_wp2
      exact bodyPost_ret (v := .agg #[.slice none 0 0, .int .i64 0, .int .i64 0, .string ⟨#[]⟩, .slice none 0 0]) (results_cell_row Try.results22 _ _ (H + 1 + 1) 35 _ (0, 0) _ rfl (ow.set (ow.set (ow.set (ow.set (ow.set HZ.out 0 _) 1 _) 2 _) 3 _) 4 _) Try.underlying35 rfl info35s) rfl ⟨_, rfl, (by rw [HS.out]; exact below5 HM2.out.2.2.2.2.1 (by omega) _ _ _ _ _), .inl ⟨HNG.out, rfl⟩⟩
    | true =>
      have HGG : Hid (GW ns sz qu es ∧ GW ns2 sz2 qu2 es2) := ⟨HR1.out.1 (by simp), HR2.out.1 (by simp)⟩
      clear HR1 HR2
      go_upto_region 3 with fail
      refine share_reg (fun OPS QQ hO hQ => ?_)
      have HM := HM2
      clear HM2
      have HEND : Hid (∀ (y : World) (ra : Option Addr) (rc d9 d15 d21 : Nat) (s : ByteArray) (pa ya : Option Addr) (pc yc : Nat), Hid (MB H w y na ma na2 ma2 nc mc nc2 mc2 ns ns2 sz qu sz2 qu2 ag ag2 es es2 ∧ y.ownsRow (H + 3) 46 2 (.slice ra (mgN ns ns2).length rc) (mgN ns ns2).length (nsC (mgN ns ns2)) ∧ s.toList = (orS ag2 ag).toList ∧ RD (fun b => H + 3 ≤ b) y (mgP es es2).length (kyG (mgP es es2)) (dvG (mgP es es2)) (.slice ya (mgP es es2).length yc) ∧ capd (.slice ya (mgP es es2).length yc)) → QQ .normal { tmps := #[.agg #[.slice na n1 nc, .int .i64 sz, .int .i64 qu, .string ag, .slice ma m1 mc], .agg #[.slice na2 n2 nc2, .int .i64 sz2, .int .i64 qu2, .string ag2, .slice ma2 m2 mc2], .pointer (some ⟨H, 0, none⟩), .pointer (some ⟨H + 1, 0, none⟩), .pointer (some ⟨H + 1 + 1, 0, none⟩), .agg #[.slice na n1 nc, .int .i64 sz, .int .i64 qu, .string ag, .slice ma m1 mc], .bool true, .bool false, .bool false, .agg #[.slice na2 n2 nc2, .int .i64 sz2, .int .i64 qu2, .string ag2, .slice ma2 m2 mc2], .bool true, .bool false, .bool false, undef, .pointer (some ⟨H, 0, none⟩), .slice na n1 nc, .pointer (some ⟨H + 1, 0, none⟩), .slice na2 n2 nc2, .slice ra (mgN ns ns2).length rc, .pointer (some ⟨H + 1, 1, none⟩), .int .i64 sz2, .pointer (some ⟨H, 1, none⟩), .int .i64 sz, .slice (some ⟨d9, 0, none⟩) 2 2, .int .i64 (orI sz2 sz), .pointer (some ⟨H + 1, 2, none⟩), .int .i64 qu2, .pointer (some ⟨H, 2, none⟩), .int .i64 qu, .slice (some ⟨d15, 0, none⟩) 2 2, .int .i64 (orI qu2 qu), .pointer (some ⟨H + 1, 3, none⟩), .string ag2, .pointer (some ⟨H, 3, none⟩), .string ag, .slice (some ⟨d21, 0, none⟩) 2 2, .string s, .pointer (some ⟨H, 4, none⟩), .slice ma m1 mc, .pointer (some ⟨H + 1, 4, none⟩), .slice ma2 m2 mc2, .slice pa (mgP es es2).length pc, .slice ya (mgP es es2).length yc, .agg #[.slice ra (mgN ns ns2).length rc, .int .i64 (orI sz2 sz), .int .i64 (orI qu2 qu), .string s, .slice ya (mgP es es2).length yc]], defers := [] } (((((y.setCell ⟨H + 1 + 1, 0, none⟩ (.slice ra (mgN ns ns2).length rc)).setCell ⟨H + 1 + 1, 1, none⟩ (.int .i64 (orI sz2 sz))).setCell ⟨H + 1 + 1, 2, none⟩ (.int .i64 (orI qu2 qu))).setCell ⟨H + 1 + 1, 3, none⟩ (.string s)).setCell ⟨H + 1 + 1, 4, none⟩ (.slice ya (mgP es es2).length yc))) := by
        intro y ra rc d9 d15 d21 s pa ya pc yc HF
        subst hQ
        have hz := HF.out.1.2.2.1
        have HZ := Lib.hid hz
        have HE : Hid (∀ wE, Besides (H + 1 + 1) y wE → _) := fun wE hE => merge_end HF.out.1 HF.out.2.1 HF.out.2.2.2.1 hE
        clear hz
        go_wp2
        refine bodyPost_ret (v := .agg #[.slice ra (mgN ns ns2).length rc, .int .i64 (orI sz2 sz), .int .i64 (orI qu2 qu), .string s, .slice ya (mgP es es2).length yc]) (results_cell_row Try.results22 _ _ (H + 1 + 1) 35 _ (0, 0) _ rfl (ow.set (ow.set (ow.set (ow.set (ow.set HZ.out 0 _) 1 _) 2 _) 3 _) 4 _) Try.underlying35 rfl info35s) rfl ?_
        have h9 := HE.out _ (besides5 y (H + 1 + 1) (.slice ra (mgN ns ns2).length rc) (.int .i64 (orI sz2 sz)) (.int .i64 (orI qu2 qu)) (.string s) (.slice ya (mgP es es2).length yc))
        exact ⟨_, rfl, (by rw [HS.out]; exact h9.1), .inr ⟨HGG.out.1, HGG.out.2, _, s, _, rfl, h9.2.1, HF.out.2.2.1, (by rw [HS.out]; exact h9.2.2.1), (fun a n c e => by cases e; exact own_cap HF.out.2.1 _ _ rfl), HF.out.2.2.2.2, (by rw [HS.out]; exact h9.2.2.2)⟩⟩
      have ND4abc : Hid (∀ (x : World) (ra : Option Addr) (rc : Nat) (d9 : Nat) (d15 : Nat) (d21 : Nat) (s : ByteArray), Hid (MB H w x na ma na2 ma2 nc mc nc2 mc2 ns ns2 sz qu sz2 qu2 ag ag2 es es2 ∧ x.ownsRow (H + 3) 46 2 (.slice ra (mgN ns ns2).length rc) (mgN ns ns2).length (nsC (mgN ns ns2)) ∧ s.toList = (orS ag2 ag).toList) → wpAnyH Try.prog Region.Mode.any OPS QQ (MC H na ma na2 ma2 nc mc nc2 mc2 n1 n2 m1 m2 sz qu sz2 qu2 ag ag2) 4 #[true, true, true, true, true, true, true, true, true, true, true, true, true, true, true, true, true, true, true, true, true, true, true, true, true, true, true, false, false, false, false] { tmps := #[.agg #[.slice na n1 nc, .int .i64 sz, .int .i64 qu, .string ag, .slice ma m1 mc], .agg #[.slice na2 n2 nc2, .int .i64 sz2, .int .i64 qu2, .string ag2, .slice ma2 m2 mc2], .pointer (some ⟨H, 0, none⟩), .pointer (some ⟨H + 1, 0, none⟩), .pointer (some ⟨H + 1 + 1, 0, none⟩), .agg #[.slice na n1 nc, .int .i64 sz, .int .i64 qu, .string ag, .slice ma m1 mc], .bool true, .bool false, .bool false, .agg #[.slice na2 n2 nc2, .int .i64 sz2, .int .i64 qu2, .string ag2, .slice ma2 m2 mc2], .bool true, .bool false, .bool false, undef, .pointer (some ⟨H, 0, none⟩), .slice na n1 nc, .pointer (some ⟨H + 1, 0, none⟩), .slice na2 n2 nc2, .slice ra (mgN ns ns2).length rc, .pointer (some ⟨H + 1, 1, none⟩), .int .i64 sz2, .pointer (some ⟨H, 1, none⟩), .int .i64 sz, .slice (some ⟨d9, 0, none⟩) 2 2, .int .i64 (orI sz2 sz), .pointer (some ⟨H + 1, 2, none⟩), .int .i64 qu2, .pointer (some ⟨H, 2, none⟩), .int .i64 qu, .slice (some ⟨d15, 0, none⟩) 2 2, .int .i64 (orI qu2 qu), .pointer (some ⟨H + 1, 3, none⟩), .string ag2, .pointer (some ⟨H, 3, none⟩), .string ag, .slice (some ⟨d21, 0, none⟩) 2 2, .string s, .pointer (some ⟨H, 4, none⟩), .slice ma m1 mc, .pointer (some ⟨H + 1, 4, none⟩), .slice ma2 m2 mc2, undef, undef, undef], defers := [] } x) := by
        intro x ra rc d9 d15 d21 s HF
        subst hO hQ
        refine wpAnyH_ready (rs := [27]) (by kernel_rfl) (by simp) ?_
        refine AllReadyH.cons (o := _) rfl (fun K hK => ?_) AllReadyH.nil
        have hq := laidOver39 (.slice ma m1 mc) (.slice ma2 m2 mc2) es es2 x (by have h9 := sp_of (HF.out.1).2.2.2.2.2.2.2.1 (by rw [HL.out.2.2.1]; exact HC.out.2.2.1); rw [HL.out.2.2.1] at h9; exact h9) (by have h9 := sp_of (HF.out.1).2.2.2.2.2.2.2.2 (by rw [HL.out.2.2.2]; exact HC.out.2.2.2); rw [HL.out.2.2.2] at h9; exact h9) (by have := HSM.out.2.2; have := HL.out; omega)
        go_simp
        refine hq.mono ?_
        rintro e y ⟨v', rfl, hown, b⟩
        obtain ⟨pa, pc, rfl⟩ := ownForm hown
        have HG : Hid (MB H w y na ma na2 ma2 nc mc nc2 mc2 ns ns2 sz qu sz2 qu2 ag ag2 es es2 ∧ y.ownsRow (H + 3) 46 2 (.slice ra (mgN ns ns2).length rc) (mgN ns ns2).length (nsC (mgN ns ns2)) ∧ s.toList = (orS ag2 ag).toList) := ⟨(HF.out.1).keep b, own_keep HF.out.2.1 b, HF.out.2.2⟩
        have HP : Hid (RG y.heap.size y (.slice pa (mgP es es2).length pc) (mgP es es2)) := by
          refine rg_of_gr ⟨hown, fun e he => ?_⟩ b.size
          rcases mg_mem _ _ _ _ e he with h | h
          · exact RV.keep (fun _ h => h) b.size (fun q _ hl => b.block q hl) _ _ _ ((HF.out.1).2.2.2.2.2.2.2.1.rv e h)
          · exact RV.keep (fun _ h => h) b.size (fun q _ hl => b.block q hl) _ _ _ ((HF.out.1).2.2.2.2.2.2.2.2.rv e h)
        clear hq hown b HF
        go_wp2_with fail
        refine hK _ _ (by have h9 := MB.cells (HG.out.1); rw [HL.out.1, HL.out.2.1, HL.out.2.2.1, HL.out.2.2.2] at h9; exact h9) (fun hHeld => ?_)
        clear hK K
        try simp only [List.setIfInBounds_toArray, List.set_cons_zero, List.set_cons_succ]
        have hlen := mg_len ltP eqP es es2
        have hq := copied38 (.slice pa (mgP es es2).length pc) (mgP es es2) y HP.out (by have h6 := HSM.out.2.2; have h5 := HL.out; unfold mgP; omega) (fun e he => (mg_mem _ _ _ _ e he).elim (HK.out.2.2 e) (HK2.out.2.2 e)) (fun e he => (mg_mem _ _ _ _ e he).elim (HSM.out.1 e) (HSM.out.2.1 e)) (mg_wk HGG.out.1.2.1 HGG.out.2.2.1 HGG.out.1.2.2.2 HGG.out.2.2.2.2)
        refine wpAnyH_ready (rs := [28]) (by kernel_rfl) (by simp) ?_
        refine AllReadyH.cons (o := _) rfl (fun K hK => ?_) AllReadyH.nil
        go_simp
        refine hq.mono ?_
        rintro e z ⟨y', rfl, hrd, b, hcd⟩
        have HRc := Lib.hid hcd
        clear hcd
        have HR : Hid (RD (fun b => H + 3 ≤ b) z (mgP es es2).length (kyG (mgP es es2)) (dvG (mgP es es2)) y') := RD.keep (fun q h => Nat.le_trans HG.out.1.2.2.2.1 h) (Nat.le_refl _) (fun _ _ _ => rfl) hrd
        obtain ⟨ya, yc, rfl, -⟩ := hrd
        have HG2 : Hid (MB H w z na ma na2 ma2 nc mc nc2 mc2 ns ns2 sz qu sz2 qu2 ag ag2 es es2 ∧ z.ownsRow (H + 3) 46 2 (.slice ra (mgN ns ns2).length rc) (mgN ns ns2).length (nsC (mgN ns ns2)) ∧ s.toList = (orS ag2 ag).toList) := ⟨HG.out.1.keep b, own_keep HG.out.2.1 b, HG.out.2.2⟩
        clear hq b HP HG hlen
        go_wp2_with fail
        refine hK _ _ (by have h9 := MB.cells (HG2.out.1); rw [HL.out.1, HL.out.2.1, HL.out.2.2.1, HL.out.2.2.2] at h9; exact h9) (fun hHeld => ?_)
        clear hK K
        refine wpAnyH_take (i := 29) (v := .agg #[.slice ra (mgN ns ns2).length rc, .int .i64 (orI sz2 sz), .int .i64 (orI qu2 qu), .string s, .slice ya (mgP es es2).length yc]) rfl (by kernel_rfl) (by kernel_rfl) (by kernel_rfl) (fun _ _ _ h => h) (Or.inl ⟨by rfl, fun w hw => by go_simp⟩) hHeld ?_
        simp only [Act.put, List.getElem_toArray, List.getElem_cons_zero, List.getElem_cons_succ, List.setIfInBounds_toArray, List.set_cons_zero, List.set_cons_succ]
        have hz := HG2.out.1.2.2.1
        have z0 : z.cell? ⟨H + 1 + 1, 0, none⟩ = some (.slice none 0 0) := by simp [World.cell?, hz]
        have z1 : z.cell? ⟨H + 1 + 1, 1, none⟩ = some (.int .i64 0) := by simp [World.cell?, hz]
        have z2 : z.cell? ⟨H + 1 + 1, 2, none⟩ = some (.int .i64 0) := by simp [World.cell?, hz]
        have z3 : z.cell? ⟨H + 1 + 1, 3, none⟩ = some (.string ⟨#[]⟩) := by simp [World.cell?, hz]
        have z4 : z.cell? ⟨H + 1 + 1, 4, none⟩ = some (.slice none 0 0) := by simp [World.cell?, hz]
        have f0 : ∀ j, z.frozen? ⟨H + 1 + 1, j, none⟩ = false := fun j => by simp [World.frozen?, hz]
        have q0 := f0 0
        have q1 := f0 1
        have q2 := f0 2
        have q3 := f0 3
        have q4 := f0 4
        clear hz f0
        have hS2 : MC H na ma na2 ma2 nc mc nc2 mc2 n1 n2 m1 m2 sz qu sz2 qu2 ag ag2 (((((z.setCell ⟨H + 1 + 1, 0, none⟩ (.slice ra (mgN ns ns2).length rc)).setCell ⟨H + 1 + 1, 1, none⟩ (.int .i64 (orI sz2 sz))).setCell ⟨H + 1 + 1, 2, none⟩ (.int .i64 (orI qu2 qu))).setCell ⟨H + 1 + 1, 3, none⟩ (.string s)).setCell ⟨H + 1 + 1, 4, none⟩ (.slice ya (mgP es es2).length yc)) := by
          have h9 : MC H na ma na2 ma2 nc mc nc2 mc2 n1 n2 m1 m2 sz qu sz2 qu2 ag ag2 z := by have h9 := MB.cells (HG2.out.1); rw [HL.out.1, HL.out.2.1, HL.out.2.2.1, HL.out.2.2.2] at h9; exact h9
          have hbs := besides5 z (H + 1 + 1) (.slice ra (mgN ns ns2).length rc) (.int .i64 (orI sz2 sz)) (.int .i64 (orI qu2 qu)) (.string s) (.slice ya (mgP es es2).length yc)
          have hsz := HG2.out.1.2.2.2.1
          have k : ∀ (d j : Nat) (v : Value), d < H + 1 + 1 → z.cell? ⟨d, j, none⟩ = some v → (((((z.setCell ⟨H + 1 + 1, 0, none⟩ (.slice ra (mgN ns ns2).length rc)).setCell ⟨H + 1 + 1, 1, none⟩ (.int .i64 (orI sz2 sz))).setCell ⟨H + 1 + 1, 2, none⟩ (.int .i64 (orI qu2 qu))).setCell ⟨H + 1 + 1, 3, none⟩ (.string s)).setCell ⟨H + 1 + 1, 4, none⟩ (.slice ya (mgP es es2).length yc)).cell? ⟨d, j, none⟩ = some v := fun d j v hd h => (World.cell?_of_block (w := z) (a := ⟨d, j, none⟩) (hbs.block d (by omega) (by omega))).trans h
          obtain ⟨⟨p0, p1, p2, p3, p4⟩, p5, p6, p7, p8, p9⟩ := h9
          exact ⟨⟨k _ _ _ (by omega) p0, k _ _ _ (by omega) p1, k _ _ _ (by omega) p2, k _ _ _ (by omega) p3, k _ _ _ (by omega) p4⟩, k _ _ _ (by omega) p5, k _ _ _ (by omega) p6, k _ _ _ (by omega) p7, k _ _ _ (by omega) p8, k _ _ _ (by omega) p9⟩
        refine wpAnyH_ready (rs := [30]) (by kernel_rfl) (by simp) ?_
        refine AllReadyH.cons (o := _) rfl (fun K hK => ?_) AllReadyH.nil
        go_simp
        refine hK _ _ hS2 (fun hHeld => ?_)
        clear hK K
        refine wpAnyH_done (by kernel_rfl) ?_ _
        exact HEND.out z ra rc d9 d15 d21 s pa ya pc yc ⟨HG2.out.1, HG2.out.2.1, HG2.out.2.2, HR.out, HRc.out⟩
      have ND3abc : Hid (∀ (x : World) (ra : Option Addr) (rc : Nat) (d9 : Nat) (d15 : Nat) (d21 : Nat), Hid (MB H w x na ma na2 ma2 nc mc nc2 mc2 ns ns2 sz qu sz2 qu2 ag ag2 es es2 ∧ x.ownsRow (H + 3) 46 2 (.slice ra (mgN ns ns2).length rc) (mgN ns ns2).length (nsC (mgN ns ns2)) ∧ BK x d21 #[.string ag2, .string ag] 9) → wpAnyH Try.prog Region.Mode.any OPS QQ (MC H na ma na2 ma2 nc mc nc2 mc2 n1 n2 m1 m2 sz qu sz2 qu2 ag ag2) 5 #[true, true, true, true, true, true, true, true, true, true, true, true, true, true, true, true, true, true, true, true, true, true, false, true, true, true, true, false, false, false, false] { tmps := #[.agg #[.slice na n1 nc, .int .i64 sz, .int .i64 qu, .string ag, .slice ma m1 mc], .agg #[.slice na2 n2 nc2, .int .i64 sz2, .int .i64 qu2, .string ag2, .slice ma2 m2 mc2], .pointer (some ⟨H, 0, none⟩), .pointer (some ⟨H + 1, 0, none⟩), .pointer (some ⟨H + 1 + 1, 0, none⟩), .agg #[.slice na n1 nc, .int .i64 sz, .int .i64 qu, .string ag, .slice ma m1 mc], .bool true, .bool false, .bool false, .agg #[.slice na2 n2 nc2, .int .i64 sz2, .int .i64 qu2, .string ag2, .slice ma2 m2 mc2], .bool true, .bool false, .bool false, undef, .pointer (some ⟨H, 0, none⟩), .slice na n1 nc, .pointer (some ⟨H + 1, 0, none⟩), .slice na2 n2 nc2, .slice ra (mgN ns ns2).length rc, .pointer (some ⟨H + 1, 1, none⟩), .int .i64 sz2, .pointer (some ⟨H, 1, none⟩), .int .i64 sz, .slice (some ⟨d9, 0, none⟩) 2 2, .int .i64 (orI sz2 sz), .pointer (some ⟨H + 1, 2, none⟩), .int .i64 qu2, .pointer (some ⟨H, 2, none⟩), .int .i64 qu, .slice (some ⟨d15, 0, none⟩) 2 2, .int .i64 (orI qu2 qu), .pointer (some ⟨H + 1, 3, none⟩), .string ag2, .pointer (some ⟨H, 3, none⟩), .string ag, .slice (some ⟨d21, 0, none⟩) 2 2, undef, .pointer (some ⟨H, 4, none⟩), .slice ma m1 mc, .pointer (some ⟨H + 1, 4, none⟩), .slice ma2 m2 mc2, undef, undef, undef], defers := [] } x) := by
        intro x ra rc d9 d15 d21 HF
        subst hO
        refine wpAnyH_ready (rs := [22]) (by kernel_rfl) (by simp) ?_
        refine (AllReadyH.cons (o := _) rfl (fun K hK => ?_) AllReadyH.nil)
        · have hbk := HF.out.2.2
          unfold BK at hbk
          have hq := Or37 d21 2 ag2 ag x (by simp [World.cell?, hbk]) (by simp [World.cell?, hbk])
          go_simp
          refine hq.mono ?_
          rintro e y ⟨⟨s, rfl, hs⟩, hy⟩
          subst y
          have HG : Hid (MB H w x na ma na2 ma2 nc mc nc2 mc2 ns ns2 sz qu sz2 qu2 ag ag2 es es2 ∧ x.ownsRow (H + 3) 46 2 (.slice ra (mgN ns ns2).length rc) (mgN ns ns2).length (nsC (mgN ns ns2)) ∧ s.toList = (orS ag2 ag).toList) := ⟨HF.out.1, HF.out.2.1, hs⟩
          clear hq hbk
          go_wp2_with fail
          refine hK _ _ (by have h9 := MB.cells (HG.out.1); rw [HL.out.1, HL.out.2.1, HL.out.2.2.1, HL.out.2.2.2] at h9; exact h9) (fun hHeld => ?_)
          try simp only [List.setIfInBounds_toArray, List.set_cons_zero, List.set_cons_succ]
          exact ND4abc.out x ra rc d9 d15 d21 s HG
      have ND3ab : Hid (∀ (x : World) (ra : Option Addr) (rc : Nat) (d9 : Nat) (d15 : Nat), Hid (MB H w x na ma na2 ma2 nc mc nc2 mc2 ns ns2 sz qu sz2 qu2 ag ag2 es es2 ∧ x.ownsRow (H + 3) 46 2 (.slice ra (mgN ns ns2).length rc) (mgN ns ns2).length (nsC (mgN ns ns2))) → wpAnyH Try.prog Region.Mode.any OPS QQ (MC H na ma na2 ma2 nc mc nc2 mc2 n1 n2 m1 m2 sz qu sz2 qu2 ag ag2) 6 #[true, true, true, true, true, true, true, true, true, true, true, true, true, true, true, true, true, true, true, true, true, false, false, true, true, true, true, false, false, false, false] { tmps := #[.agg #[.slice na n1 nc, .int .i64 sz, .int .i64 qu, .string ag, .slice ma m1 mc], .agg #[.slice na2 n2 nc2, .int .i64 sz2, .int .i64 qu2, .string ag2, .slice ma2 m2 mc2], .pointer (some ⟨H, 0, none⟩), .pointer (some ⟨H + 1, 0, none⟩), .pointer (some ⟨H + 1 + 1, 0, none⟩), .agg #[.slice na n1 nc, .int .i64 sz, .int .i64 qu, .string ag, .slice ma m1 mc], .bool true, .bool false, .bool false, .agg #[.slice na2 n2 nc2, .int .i64 sz2, .int .i64 qu2, .string ag2, .slice ma2 m2 mc2], .bool true, .bool false, .bool false, undef, .pointer (some ⟨H, 0, none⟩), .slice na n1 nc, .pointer (some ⟨H + 1, 0, none⟩), .slice na2 n2 nc2, .slice ra (mgN ns ns2).length rc, .pointer (some ⟨H + 1, 1, none⟩), .int .i64 sz2, .pointer (some ⟨H, 1, none⟩), .int .i64 sz, .slice (some ⟨d9, 0, none⟩) 2 2, .int .i64 (orI sz2 sz), .pointer (some ⟨H + 1, 2, none⟩), .int .i64 qu2, .pointer (some ⟨H, 2, none⟩), .int .i64 qu, .slice (some ⟨d15, 0, none⟩) 2 2, .int .i64 (orI qu2 qu), .pointer (some ⟨H + 1, 3, none⟩), .string ag2, .pointer (some ⟨H, 3, none⟩), .string ag, undef, undef, .pointer (some ⟨H, 4, none⟩), .slice ma m1 mc, .pointer (some ⟨H + 1, 4, none⟩), .slice ma2 m2 mc2, undef, undef, undef], defers := [] } x) := by
        intro x ra rc d9 d15 HF
        subst hO
        refine wpAnyH_ready (rs := [21]) (by kernel_rfl) (by simp) ?_
        refine (AllReadyH.cons (o := _) rfl (fun K hK => ?_) AllReadyH.nil)
        · go_simp
          have b : Below x.heap.size x (x.alloc (.cells #[.string ag2, .string ag] 9)) := (Below.refl _ _).alloc (Nat.le_refl _) _
          have HG : Hid (MB H w (x.alloc (.cells #[.string ag2, .string ag] 9)) na ma na2 ma2 nc mc nc2 mc2 ns ns2 sz qu sz2 qu2 ag ag2 es es2 ∧ (x.alloc (.cells #[.string ag2, .string ag] 9)).ownsRow (H + 3) 46 2 (.slice ra (mgN ns ns2).length rc) (mgN ns ns2).length (nsC (mgN ns ns2)) ∧ BK (x.alloc (.cells #[.string ag2, .string ag] 9)) x.heap.size #[.string ag2, .string ag] 9) := ⟨(HF.out.1).keep b, own_keep HF.out.2 b, heap_new _ _⟩
          refine hK _ _ (by have h9 := MB.cells (HG.out.1); rw [HL.out.1, HL.out.2.1, HL.out.2.2.1, HL.out.2.2.2] at h9; exact h9) (fun hHeld => ?_)
          try simp only [List.setIfInBounds_toArray, List.set_cons_zero, List.set_cons_succ]
          exact ND3abc.out (x.alloc (.cells #[.string ag2, .string ag] 9)) ra rc d9 d15 x.heap.size HG
      have ND2abc : Hid (∀ (x : World) (ra : Option Addr) (rc : Nat) (d9 : Nat) (d15 : Nat) (d21 : Nat), Hid (MB H w x na ma na2 ma2 nc mc nc2 mc2 ns ns2 sz qu sz2 qu2 ag ag2 es es2 ∧ x.ownsRow (H + 3) 46 2 (.slice ra (mgN ns ns2).length rc) (mgN ns ns2).length (nsC (mgN ns ns2)) ∧ BK x d15 #[.int .i64 qu2, .int .i64 qu] 3 ∧ BK x d21 #[.string ag2, .string ag] 9) → wpAnyH Try.prog Region.Mode.any OPS QQ (MC H na ma na2 ma2 nc mc nc2 mc2 n1 n2 m1 m2 sz qu sz2 qu2 ag ag2) 6 #[true, true, true, true, true, true, true, true, true, true, true, true, true, true, true, true, false, true, true, true, true, true, false, true, true, true, true, false, false, false, false] { tmps := #[.agg #[.slice na n1 nc, .int .i64 sz, .int .i64 qu, .string ag, .slice ma m1 mc], .agg #[.slice na2 n2 nc2, .int .i64 sz2, .int .i64 qu2, .string ag2, .slice ma2 m2 mc2], .pointer (some ⟨H, 0, none⟩), .pointer (some ⟨H + 1, 0, none⟩), .pointer (some ⟨H + 1 + 1, 0, none⟩), .agg #[.slice na n1 nc, .int .i64 sz, .int .i64 qu, .string ag, .slice ma m1 mc], .bool true, .bool false, .bool false, .agg #[.slice na2 n2 nc2, .int .i64 sz2, .int .i64 qu2, .string ag2, .slice ma2 m2 mc2], .bool true, .bool false, .bool false, undef, .pointer (some ⟨H, 0, none⟩), .slice na n1 nc, .pointer (some ⟨H + 1, 0, none⟩), .slice na2 n2 nc2, .slice ra (mgN ns ns2).length rc, .pointer (some ⟨H + 1, 1, none⟩), .int .i64 sz2, .pointer (some ⟨H, 1, none⟩), .int .i64 sz, .slice (some ⟨d9, 0, none⟩) 2 2, .int .i64 (orI sz2 sz), .pointer (some ⟨H + 1, 2, none⟩), .int .i64 qu2, .pointer (some ⟨H, 2, none⟩), .int .i64 qu, .slice (some ⟨d15, 0, none⟩) 2 2, undef, .pointer (some ⟨H + 1, 3, none⟩), .string ag2, .pointer (some ⟨H, 3, none⟩), .string ag, .slice (some ⟨d21, 0, none⟩) 2 2, undef, .pointer (some ⟨H, 4, none⟩), .slice ma m1 mc, .pointer (some ⟨H + 1, 4, none⟩), .slice ma2 m2 mc2, undef, undef, undef], defers := [] } x) := by
        intro x ra rc d9 d15 d21 HF
        subst hO
        refine wpAnyH_ready (rs := [16]) (by kernel_rfl) (by simp) ?_
        refine (AllReadyH.cons (o := _) rfl (fun K hK => ?_) AllReadyH.nil)
        · have hbk := HF.out.2.2.1
          unfold BK at hbk
          have hq := Or36 d15 2 qu2 qu x (by simp [World.cell?, hbk]) (by simp [World.cell?, hbk])
          go_simp
          refine hq.mono ?_
          rintro e y ⟨rfl, hy⟩
          subst y
          have HG : Hid (MB H w x na ma na2 ma2 nc mc nc2 mc2 ns ns2 sz qu sz2 qu2 ag ag2 es es2 ∧ x.ownsRow (H + 3) 46 2 (.slice ra (mgN ns ns2).length rc) (mgN ns ns2).length (nsC (mgN ns ns2)) ∧ BK x d21 #[.string ag2, .string ag] 9) := ⟨HF.out.1, HF.out.2.1, HF.out.2.2.2⟩
          clear hq hbk
          go_wp2_with fail
          refine hK _ _ (by have h9 := MB.cells (HG.out.1); rw [HL.out.1, HL.out.2.1, HL.out.2.2.1, HL.out.2.2.2] at h9; exact h9) (fun hHeld => ?_)
          try simp only [List.setIfInBounds_toArray, List.set_cons_zero, List.set_cons_succ]
          exact ND3abc.out x ra rc d9 d15 d21 HG
      have ND2ab : Hid (∀ (x : World) (ra : Option Addr) (rc : Nat) (d9 : Nat) (d15 : Nat), Hid (MB H w x na ma na2 ma2 nc mc nc2 mc2 ns ns2 sz qu sz2 qu2 ag ag2 es es2 ∧ x.ownsRow (H + 3) 46 2 (.slice ra (mgN ns ns2).length rc) (mgN ns ns2).length (nsC (mgN ns ns2)) ∧ BK x d15 #[.int .i64 qu2, .int .i64 qu] 3) → wpAnyH Try.prog Region.Mode.any OPS QQ (MC H na ma na2 ma2 nc mc nc2 mc2 n1 n2 m1 m2 sz qu sz2 qu2 ag ag2) 7 #[true, true, true, true, true, true, true, true, true, true, true, true, true, true, true, true, false, true, true, true, true, false, false, true, true, true, true, false, false, false, false] { tmps := #[.agg #[.slice na n1 nc, .int .i64 sz, .int .i64 qu, .string ag, .slice ma m1 mc], .agg #[.slice na2 n2 nc2, .int .i64 sz2, .int .i64 qu2, .string ag2, .slice ma2 m2 mc2], .pointer (some ⟨H, 0, none⟩), .pointer (some ⟨H + 1, 0, none⟩), .pointer (some ⟨H + 1 + 1, 0, none⟩), .agg #[.slice na n1 nc, .int .i64 sz, .int .i64 qu, .string ag, .slice ma m1 mc], .bool true, .bool false, .bool false, .agg #[.slice na2 n2 nc2, .int .i64 sz2, .int .i64 qu2, .string ag2, .slice ma2 m2 mc2], .bool true, .bool false, .bool false, undef, .pointer (some ⟨H, 0, none⟩), .slice na n1 nc, .pointer (some ⟨H + 1, 0, none⟩), .slice na2 n2 nc2, .slice ra (mgN ns ns2).length rc, .pointer (some ⟨H + 1, 1, none⟩), .int .i64 sz2, .pointer (some ⟨H, 1, none⟩), .int .i64 sz, .slice (some ⟨d9, 0, none⟩) 2 2, .int .i64 (orI sz2 sz), .pointer (some ⟨H + 1, 2, none⟩), .int .i64 qu2, .pointer (some ⟨H, 2, none⟩), .int .i64 qu, .slice (some ⟨d15, 0, none⟩) 2 2, undef, .pointer (some ⟨H + 1, 3, none⟩), .string ag2, .pointer (some ⟨H, 3, none⟩), .string ag, undef, undef, .pointer (some ⟨H, 4, none⟩), .slice ma m1 mc, .pointer (some ⟨H + 1, 4, none⟩), .slice ma2 m2 mc2, undef, undef, undef], defers := [] } x) := by
        intro x ra rc d9 d15 HF
        subst hO
        refine wpAnyH_ready (rs := [16, 21]) (by kernel_rfl) (by simp) ?_
        refine (AllReadyH.cons (o := _) rfl (fun K hK => ?_) (AllReadyH.cons (o := _) rfl (fun K hK => ?_) AllReadyH.nil))
        · have hbk := HF.out.2.2
          unfold BK at hbk
          have hq := Or36 d15 2 qu2 qu x (by simp [World.cell?, hbk]) (by simp [World.cell?, hbk])
          go_simp
          refine hq.mono ?_
          rintro e y ⟨rfl, hy⟩
          subst y
          have HG : Hid (MB H w x na ma na2 ma2 nc mc nc2 mc2 ns ns2 sz qu sz2 qu2 ag ag2 es es2 ∧ x.ownsRow (H + 3) 46 2 (.slice ra (mgN ns ns2).length rc) (mgN ns ns2).length (nsC (mgN ns ns2))) := ⟨HF.out.1, HF.out.2.1⟩
          clear hq hbk
          go_wp2_with fail
          refine hK _ _ (by have h9 := MB.cells (HG.out.1); rw [HL.out.1, HL.out.2.1, HL.out.2.2.1, HL.out.2.2.2] at h9; exact h9) (fun hHeld => ?_)
          try simp only [List.setIfInBounds_toArray, List.set_cons_zero, List.set_cons_succ]
          exact ND3ab.out x ra rc d9 d15 HG
        · go_simp
          have b : Below x.heap.size x (x.alloc (.cells #[.string ag2, .string ag] 9)) := (Below.refl _ _).alloc (Nat.le_refl _) _
          have HG : Hid (MB H w (x.alloc (.cells #[.string ag2, .string ag] 9)) na ma na2 ma2 nc mc nc2 mc2 ns ns2 sz qu sz2 qu2 ag ag2 es es2 ∧ (x.alloc (.cells #[.string ag2, .string ag] 9)).ownsRow (H + 3) 46 2 (.slice ra (mgN ns ns2).length rc) (mgN ns ns2).length (nsC (mgN ns ns2)) ∧ BK (x.alloc (.cells #[.string ag2, .string ag] 9)) d15 #[.int .i64 qu2, .int .i64 qu] 3 ∧ BK (x.alloc (.cells #[.string ag2, .string ag] 9)) x.heap.size #[.string ag2, .string ag] 9) := ⟨(HF.out.1).keep b, own_keep HF.out.2.1 b, (HF.out.2.2).keep b, heap_new _ _⟩
          refine hK _ _ (by have h9 := MB.cells (HG.out.1); rw [HL.out.1, HL.out.2.1, HL.out.2.2.1, HL.out.2.2.2] at h9; exact h9) (fun hHeld => ?_)
          try simp only [List.setIfInBounds_toArray, List.set_cons_zero, List.set_cons_succ]
          exact ND2abc.out (x.alloc (.cells #[.string ag2, .string ag] 9)) ra rc d9 d15 x.heap.size HG
      have ND2ac : Hid (∀ (x : World) (ra : Option Addr) (rc : Nat) (d9 : Nat) (d21 : Nat), Hid (MB H w x na ma na2 ma2 nc mc nc2 mc2 ns ns2 sz qu sz2 qu2 ag ag2 es es2 ∧ x.ownsRow (H + 3) 46 2 (.slice ra (mgN ns ns2).length rc) (mgN ns ns2).length (nsC (mgN ns ns2)) ∧ BK x d21 #[.string ag2, .string ag] 9) → wpAnyH Try.prog Region.Mode.any OPS QQ (MC H na ma na2 ma2 nc mc nc2 mc2 n1 n2 m1 m2 sz qu sz2 qu2 ag ag2) 7 #[true, true, true, true, true, true, true, true, true, true, true, true, true, true, true, false, false, true, true, true, true, true, false, true, true, true, true, false, false, false, false] { tmps := #[.agg #[.slice na n1 nc, .int .i64 sz, .int .i64 qu, .string ag, .slice ma m1 mc], .agg #[.slice na2 n2 nc2, .int .i64 sz2, .int .i64 qu2, .string ag2, .slice ma2 m2 mc2], .pointer (some ⟨H, 0, none⟩), .pointer (some ⟨H + 1, 0, none⟩), .pointer (some ⟨H + 1 + 1, 0, none⟩), .agg #[.slice na n1 nc, .int .i64 sz, .int .i64 qu, .string ag, .slice ma m1 mc], .bool true, .bool false, .bool false, .agg #[.slice na2 n2 nc2, .int .i64 sz2, .int .i64 qu2, .string ag2, .slice ma2 m2 mc2], .bool true, .bool false, .bool false, undef, .pointer (some ⟨H, 0, none⟩), .slice na n1 nc, .pointer (some ⟨H + 1, 0, none⟩), .slice na2 n2 nc2, .slice ra (mgN ns ns2).length rc, .pointer (some ⟨H + 1, 1, none⟩), .int .i64 sz2, .pointer (some ⟨H, 1, none⟩), .int .i64 sz, .slice (some ⟨d9, 0, none⟩) 2 2, .int .i64 (orI sz2 sz), .pointer (some ⟨H + 1, 2, none⟩), .int .i64 qu2, .pointer (some ⟨H, 2, none⟩), .int .i64 qu, undef, undef, .pointer (some ⟨H + 1, 3, none⟩), .string ag2, .pointer (some ⟨H, 3, none⟩), .string ag, .slice (some ⟨d21, 0, none⟩) 2 2, undef, .pointer (some ⟨H, 4, none⟩), .slice ma m1 mc, .pointer (some ⟨H + 1, 4, none⟩), .slice ma2 m2 mc2, undef, undef, undef], defers := [] } x) := by
        intro x ra rc d9 d21 HF
        subst hO
        refine wpAnyH_ready (rs := [15]) (by kernel_rfl) (by simp) ?_
        refine (AllReadyH.cons (o := _) rfl (fun K hK => ?_) AllReadyH.nil)
        · go_simp
          have b : Below x.heap.size x (x.alloc (.cells #[.int .i64 qu2, .int .i64 qu] 3)) := (Below.refl _ _).alloc (Nat.le_refl _) _
          have HG : Hid (MB H w (x.alloc (.cells #[.int .i64 qu2, .int .i64 qu] 3)) na ma na2 ma2 nc mc nc2 mc2 ns ns2 sz qu sz2 qu2 ag ag2 es es2 ∧ (x.alloc (.cells #[.int .i64 qu2, .int .i64 qu] 3)).ownsRow (H + 3) 46 2 (.slice ra (mgN ns ns2).length rc) (mgN ns ns2).length (nsC (mgN ns ns2)) ∧ BK (x.alloc (.cells #[.int .i64 qu2, .int .i64 qu] 3)) x.heap.size #[.int .i64 qu2, .int .i64 qu] 3 ∧ BK (x.alloc (.cells #[.int .i64 qu2, .int .i64 qu] 3)) d21 #[.string ag2, .string ag] 9) := ⟨(HF.out.1).keep b, own_keep HF.out.2.1 b, heap_new _ _, (HF.out.2.2).keep b⟩
          refine hK _ _ (by have h9 := MB.cells (HG.out.1); rw [HL.out.1, HL.out.2.1, HL.out.2.2.1, HL.out.2.2.2] at h9; exact h9) (fun hHeld => ?_)
          try simp only [List.setIfInBounds_toArray, List.set_cons_zero, List.set_cons_succ]
          exact ND2abc.out (x.alloc (.cells #[.int .i64 qu2, .int .i64 qu] 3)) ra rc d9 x.heap.size d21 HG
      have ND2a : Hid (∀ (x : World) (ra : Option Addr) (rc : Nat) (d9 : Nat), Hid (MB H w x na ma na2 ma2 nc mc nc2 mc2 ns ns2 sz qu sz2 qu2 ag ag2 es es2 ∧ x.ownsRow (H + 3) 46 2 (.slice ra (mgN ns ns2).length rc) (mgN ns ns2).length (nsC (mgN ns ns2))) → wpAnyH Try.prog Region.Mode.any OPS QQ (MC H na ma na2 ma2 nc mc nc2 mc2 n1 n2 m1 m2 sz qu sz2 qu2 ag ag2) 8 #[true, true, true, true, true, true, true, true, true, true, true, true, true, true, true, false, false, true, true, true, true, false, false, true, true, true, true, false, false, false, false] { tmps := #[.agg #[.slice na n1 nc, .int .i64 sz, .int .i64 qu, .string ag, .slice ma m1 mc], .agg #[.slice na2 n2 nc2, .int .i64 sz2, .int .i64 qu2, .string ag2, .slice ma2 m2 mc2], .pointer (some ⟨H, 0, none⟩), .pointer (some ⟨H + 1, 0, none⟩), .pointer (some ⟨H + 1 + 1, 0, none⟩), .agg #[.slice na n1 nc, .int .i64 sz, .int .i64 qu, .string ag, .slice ma m1 mc], .bool true, .bool false, .bool false, .agg #[.slice na2 n2 nc2, .int .i64 sz2, .int .i64 qu2, .string ag2, .slice ma2 m2 mc2], .bool true, .bool false, .bool false, undef, .pointer (some ⟨H, 0, none⟩), .slice na n1 nc, .pointer (some ⟨H + 1, 0, none⟩), .slice na2 n2 nc2, .slice ra (mgN ns ns2).length rc, .pointer (some ⟨H + 1, 1, none⟩), .int .i64 sz2, .pointer (some ⟨H, 1, none⟩), .int .i64 sz, .slice (some ⟨d9, 0, none⟩) 2 2, .int .i64 (orI sz2 sz), .pointer (some ⟨H + 1, 2, none⟩), .int .i64 qu2, .pointer (some ⟨H, 2, none⟩), .int .i64 qu, undef, undef, .pointer (some ⟨H + 1, 3, none⟩), .string ag2, .pointer (some ⟨H, 3, none⟩), .string ag, undef, undef, .pointer (some ⟨H, 4, none⟩), .slice ma m1 mc, .pointer (some ⟨H + 1, 4, none⟩), .slice ma2 m2 mc2, undef, undef, undef], defers := [] } x) := by
        intro x ra rc d9 HF
        subst hO
        refine wpAnyH_ready (rs := [15, 21]) (by kernel_rfl) (by simp) ?_
        refine (AllReadyH.cons (o := _) rfl (fun K hK => ?_) (AllReadyH.cons (o := _) rfl (fun K hK => ?_) AllReadyH.nil))
        · go_simp
          have b : Below x.heap.size x (x.alloc (.cells #[.int .i64 qu2, .int .i64 qu] 3)) := (Below.refl _ _).alloc (Nat.le_refl _) _
          have HG : Hid (MB H w (x.alloc (.cells #[.int .i64 qu2, .int .i64 qu] 3)) na ma na2 ma2 nc mc nc2 mc2 ns ns2 sz qu sz2 qu2 ag ag2 es es2 ∧ (x.alloc (.cells #[.int .i64 qu2, .int .i64 qu] 3)).ownsRow (H + 3) 46 2 (.slice ra (mgN ns ns2).length rc) (mgN ns ns2).length (nsC (mgN ns ns2)) ∧ BK (x.alloc (.cells #[.int .i64 qu2, .int .i64 qu] 3)) x.heap.size #[.int .i64 qu2, .int .i64 qu] 3) := ⟨(HF.out.1).keep b, own_keep HF.out.2 b, heap_new _ _⟩
          refine hK _ _ (by have h9 := MB.cells (HG.out.1); rw [HL.out.1, HL.out.2.1, HL.out.2.2.1, HL.out.2.2.2] at h9; exact h9) (fun hHeld => ?_)
          try simp only [List.setIfInBounds_toArray, List.set_cons_zero, List.set_cons_succ]
          exact ND2ab.out (x.alloc (.cells #[.int .i64 qu2, .int .i64 qu] 3)) ra rc d9 x.heap.size HG
        · go_simp
          have b : Below x.heap.size x (x.alloc (.cells #[.string ag2, .string ag] 9)) := (Below.refl _ _).alloc (Nat.le_refl _) _
          have HG : Hid (MB H w (x.alloc (.cells #[.string ag2, .string ag] 9)) na ma na2 ma2 nc mc nc2 mc2 ns ns2 sz qu sz2 qu2 ag ag2 es es2 ∧ (x.alloc (.cells #[.string ag2, .string ag] 9)).ownsRow (H + 3) 46 2 (.slice ra (mgN ns ns2).length rc) (mgN ns ns2).length (nsC (mgN ns ns2)) ∧ BK (x.alloc (.cells #[.string ag2, .string ag] 9)) x.heap.size #[.string ag2, .string ag] 9) := ⟨(HF.out.1).keep b, own_keep HF.out.2 b, heap_new _ _⟩
          refine hK _ _ (by have h9 := MB.cells (HG.out.1); rw [HL.out.1, HL.out.2.1, HL.out.2.2.1, HL.out.2.2.2] at h9; exact h9) (fun hHeld => ?_)
          try simp only [List.setIfInBounds_toArray, List.set_cons_zero, List.set_cons_succ]
          exact ND2ac.out (x.alloc (.cells #[.string ag2, .string ag] 9)) ra rc d9 x.heap.size HG
      have ND1abc : Hid (∀ (x : World) (ra : Option Addr) (rc : Nat) (d9 : Nat) (d15 : Nat) (d21 : Nat), Hid (MB H w x na ma na2 ma2 nc mc nc2 mc2 ns ns2 sz qu sz2 qu2 ag ag2 es es2 ∧ x.ownsRow (H + 3) 46 2 (.slice ra (mgN ns ns2).length rc) (mgN ns ns2).length (nsC (mgN ns ns2)) ∧ BK x d9 #[.int .i64 sz2, .int .i64 sz] 3 ∧ BK x d15 #[.int .i64 qu2, .int .i64 qu] 3 ∧ BK x d21 #[.string ag2, .string ag] 9) → wpAnyH Try.prog Region.Mode.any OPS QQ (MC H na ma na2 ma2 nc mc nc2 mc2 n1 n2 m1 m2 sz qu sz2 qu2 ag ag2) 7 #[true, true, true, true, true, true, true, true, true, true, false, true, true, true, true, true, false, true, true, true, true, true, false, true, true, true, true, false, false, false, false] { tmps := #[.agg #[.slice na n1 nc, .int .i64 sz, .int .i64 qu, .string ag, .slice ma m1 mc], .agg #[.slice na2 n2 nc2, .int .i64 sz2, .int .i64 qu2, .string ag2, .slice ma2 m2 mc2], .pointer (some ⟨H, 0, none⟩), .pointer (some ⟨H + 1, 0, none⟩), .pointer (some ⟨H + 1 + 1, 0, none⟩), .agg #[.slice na n1 nc, .int .i64 sz, .int .i64 qu, .string ag, .slice ma m1 mc], .bool true, .bool false, .bool false, .agg #[.slice na2 n2 nc2, .int .i64 sz2, .int .i64 qu2, .string ag2, .slice ma2 m2 mc2], .bool true, .bool false, .bool false, undef, .pointer (some ⟨H, 0, none⟩), .slice na n1 nc, .pointer (some ⟨H + 1, 0, none⟩), .slice na2 n2 nc2, .slice ra (mgN ns ns2).length rc, .pointer (some ⟨H + 1, 1, none⟩), .int .i64 sz2, .pointer (some ⟨H, 1, none⟩), .int .i64 sz, .slice (some ⟨d9, 0, none⟩) 2 2, undef, .pointer (some ⟨H + 1, 2, none⟩), .int .i64 qu2, .pointer (some ⟨H, 2, none⟩), .int .i64 qu, .slice (some ⟨d15, 0, none⟩) 2 2, undef, .pointer (some ⟨H + 1, 3, none⟩), .string ag2, .pointer (some ⟨H, 3, none⟩), .string ag, .slice (some ⟨d21, 0, none⟩) 2 2, undef, .pointer (some ⟨H, 4, none⟩), .slice ma m1 mc, .pointer (some ⟨H + 1, 4, none⟩), .slice ma2 m2 mc2, undef, undef, undef], defers := [] } x) := by
        intro x ra rc d9 d15 d21 HF
        subst hO
        refine wpAnyH_ready (rs := [10]) (by kernel_rfl) (by simp) ?_
        refine (AllReadyH.cons (o := _) rfl (fun K hK => ?_) AllReadyH.nil)
        · have hbk := HF.out.2.2.1
          unfold BK at hbk
          have hq := Or36 d9 2 sz2 sz x (by simp [World.cell?, hbk]) (by simp [World.cell?, hbk])
          go_simp
          refine hq.mono ?_
          rintro e y ⟨rfl, hy⟩
          subst y
          have HG : Hid (MB H w x na ma na2 ma2 nc mc nc2 mc2 ns ns2 sz qu sz2 qu2 ag ag2 es es2 ∧ x.ownsRow (H + 3) 46 2 (.slice ra (mgN ns ns2).length rc) (mgN ns ns2).length (nsC (mgN ns ns2)) ∧ BK x d15 #[.int .i64 qu2, .int .i64 qu] 3 ∧ BK x d21 #[.string ag2, .string ag] 9) := ⟨HF.out.1, HF.out.2.1, HF.out.2.2.2.1, HF.out.2.2.2.2⟩
          clear hq hbk
          go_wp2_with fail
          refine hK _ _ (by have h9 := MB.cells (HG.out.1); rw [HL.out.1, HL.out.2.1, HL.out.2.2.1, HL.out.2.2.2] at h9; exact h9) (fun hHeld => ?_)
          try simp only [List.setIfInBounds_toArray, List.set_cons_zero, List.set_cons_succ]
          exact ND2abc.out x ra rc d9 d15 d21 HG
      have ND1ab : Hid (∀ (x : World) (ra : Option Addr) (rc : Nat) (d9 : Nat) (d15 : Nat), Hid (MB H w x na ma na2 ma2 nc mc nc2 mc2 ns ns2 sz qu sz2 qu2 ag ag2 es es2 ∧ x.ownsRow (H + 3) 46 2 (.slice ra (mgN ns ns2).length rc) (mgN ns ns2).length (nsC (mgN ns ns2)) ∧ BK x d9 #[.int .i64 sz2, .int .i64 sz] 3 ∧ BK x d15 #[.int .i64 qu2, .int .i64 qu] 3) → wpAnyH Try.prog Region.Mode.any OPS QQ (MC H na ma na2 ma2 nc mc nc2 mc2 n1 n2 m1 m2 sz qu sz2 qu2 ag ag2) 8 #[true, true, true, true, true, true, true, true, true, true, false, true, true, true, true, true, false, true, true, true, true, false, false, true, true, true, true, false, false, false, false] { tmps := #[.agg #[.slice na n1 nc, .int .i64 sz, .int .i64 qu, .string ag, .slice ma m1 mc], .agg #[.slice na2 n2 nc2, .int .i64 sz2, .int .i64 qu2, .string ag2, .slice ma2 m2 mc2], .pointer (some ⟨H, 0, none⟩), .pointer (some ⟨H + 1, 0, none⟩), .pointer (some ⟨H + 1 + 1, 0, none⟩), .agg #[.slice na n1 nc, .int .i64 sz, .int .i64 qu, .string ag, .slice ma m1 mc], .bool true, .bool false, .bool false, .agg #[.slice na2 n2 nc2, .int .i64 sz2, .int .i64 qu2, .string ag2, .slice ma2 m2 mc2], .bool true, .bool false, .bool false, undef, .pointer (some ⟨H, 0, none⟩), .slice na n1 nc, .pointer (some ⟨H + 1, 0, none⟩), .slice na2 n2 nc2, .slice ra (mgN ns ns2).length rc, .pointer (some ⟨H + 1, 1, none⟩), .int .i64 sz2, .pointer (some ⟨H, 1, none⟩), .int .i64 sz, .slice (some ⟨d9, 0, none⟩) 2 2, undef, .pointer (some ⟨H + 1, 2, none⟩), .int .i64 qu2, .pointer (some ⟨H, 2, none⟩), .int .i64 qu, .slice (some ⟨d15, 0, none⟩) 2 2, undef, .pointer (some ⟨H + 1, 3, none⟩), .string ag2, .pointer (some ⟨H, 3, none⟩), .string ag, undef, undef, .pointer (some ⟨H, 4, none⟩), .slice ma m1 mc, .pointer (some ⟨H + 1, 4, none⟩), .slice ma2 m2 mc2, undef, undef, undef], defers := [] } x) := by
        intro x ra rc d9 d15 HF
        subst hO
        refine wpAnyH_ready (rs := [10, 21]) (by kernel_rfl) (by simp) ?_
        refine (AllReadyH.cons (o := _) rfl (fun K hK => ?_) (AllReadyH.cons (o := _) rfl (fun K hK => ?_) AllReadyH.nil))
        · have hbk := HF.out.2.2.1
          unfold BK at hbk
          have hq := Or36 d9 2 sz2 sz x (by simp [World.cell?, hbk]) (by simp [World.cell?, hbk])
          go_simp
          refine hq.mono ?_
          rintro e y ⟨rfl, hy⟩
          subst y
          have HG : Hid (MB H w x na ma na2 ma2 nc mc nc2 mc2 ns ns2 sz qu sz2 qu2 ag ag2 es es2 ∧ x.ownsRow (H + 3) 46 2 (.slice ra (mgN ns ns2).length rc) (mgN ns ns2).length (nsC (mgN ns ns2)) ∧ BK x d15 #[.int .i64 qu2, .int .i64 qu] 3) := ⟨HF.out.1, HF.out.2.1, HF.out.2.2.2⟩
          clear hq hbk
          go_wp2_with fail
          refine hK _ _ (by have h9 := MB.cells (HG.out.1); rw [HL.out.1, HL.out.2.1, HL.out.2.2.1, HL.out.2.2.2] at h9; exact h9) (fun hHeld => ?_)
          try simp only [List.setIfInBounds_toArray, List.set_cons_zero, List.set_cons_succ]
          exact ND2ab.out x ra rc d9 d15 HG
        · go_simp
          have b : Below x.heap.size x (x.alloc (.cells #[.string ag2, .string ag] 9)) := (Below.refl _ _).alloc (Nat.le_refl _) _
          have HG : Hid (MB H w (x.alloc (.cells #[.string ag2, .string ag] 9)) na ma na2 ma2 nc mc nc2 mc2 ns ns2 sz qu sz2 qu2 ag ag2 es es2 ∧ (x.alloc (.cells #[.string ag2, .string ag] 9)).ownsRow (H + 3) 46 2 (.slice ra (mgN ns ns2).length rc) (mgN ns ns2).length (nsC (mgN ns ns2)) ∧ BK (x.alloc (.cells #[.string ag2, .string ag] 9)) d9 #[.int .i64 sz2, .int .i64 sz] 3 ∧ BK (x.alloc (.cells #[.string ag2, .string ag] 9)) d15 #[.int .i64 qu2, .int .i64 qu] 3 ∧ BK (x.alloc (.cells #[.string ag2, .string ag] 9)) x.heap.size #[.string ag2, .string ag] 9) := ⟨(HF.out.1).keep b, own_keep HF.out.2.1 b, (HF.out.2.2.1).keep b, (HF.out.2.2.2).keep b, heap_new _ _⟩
          refine hK _ _ (by have h9 := MB.cells (HG.out.1); rw [HL.out.1, HL.out.2.1, HL.out.2.2.1, HL.out.2.2.2] at h9; exact h9) (fun hHeld => ?_)
          try simp only [List.setIfInBounds_toArray, List.set_cons_zero, List.set_cons_succ]
          exact ND1abc.out (x.alloc (.cells #[.string ag2, .string ag] 9)) ra rc d9 d15 x.heap.size HG
      have ND1ac : Hid (∀ (x : World) (ra : Option Addr) (rc : Nat) (d9 : Nat) (d21 : Nat), Hid (MB H w x na ma na2 ma2 nc mc nc2 mc2 ns ns2 sz qu sz2 qu2 ag ag2 es es2 ∧ x.ownsRow (H + 3) 46 2 (.slice ra (mgN ns ns2).length rc) (mgN ns ns2).length (nsC (mgN ns ns2)) ∧ BK x d9 #[.int .i64 sz2, .int .i64 sz] 3 ∧ BK x d21 #[.string ag2, .string ag] 9) → wpAnyH Try.prog Region.Mode.any OPS QQ (MC H na ma na2 ma2 nc mc nc2 mc2 n1 n2 m1 m2 sz qu sz2 qu2 ag ag2) 8 #[true, true, true, true, true, true, true, true, true, true, false, true, true, true, true, false, false, true, true, true, true, true, false, true, true, true, true, false, false, false, false] { tmps := #[.agg #[.slice na n1 nc, .int .i64 sz, .int .i64 qu, .string ag, .slice ma m1 mc], .agg #[.slice na2 n2 nc2, .int .i64 sz2, .int .i64 qu2, .string ag2, .slice ma2 m2 mc2], .pointer (some ⟨H, 0, none⟩), .pointer (some ⟨H + 1, 0, none⟩), .pointer (some ⟨H + 1 + 1, 0, none⟩), .agg #[.slice na n1 nc, .int .i64 sz, .int .i64 qu, .string ag, .slice ma m1 mc], .bool true, .bool false, .bool false, .agg #[.slice na2 n2 nc2, .int .i64 sz2, .int .i64 qu2, .string ag2, .slice ma2 m2 mc2], .bool true, .bool false, .bool false, undef, .pointer (some ⟨H, 0, none⟩), .slice na n1 nc, .pointer (some ⟨H + 1, 0, none⟩), .slice na2 n2 nc2, .slice ra (mgN ns ns2).length rc, .pointer (some ⟨H + 1, 1, none⟩), .int .i64 sz2, .pointer (some ⟨H, 1, none⟩), .int .i64 sz, .slice (some ⟨d9, 0, none⟩) 2 2, undef, .pointer (some ⟨H + 1, 2, none⟩), .int .i64 qu2, .pointer (some ⟨H, 2, none⟩), .int .i64 qu, undef, undef, .pointer (some ⟨H + 1, 3, none⟩), .string ag2, .pointer (some ⟨H, 3, none⟩), .string ag, .slice (some ⟨d21, 0, none⟩) 2 2, undef, .pointer (some ⟨H, 4, none⟩), .slice ma m1 mc, .pointer (some ⟨H + 1, 4, none⟩), .slice ma2 m2 mc2, undef, undef, undef], defers := [] } x) := by
        intro x ra rc d9 d21 HF
        subst hO
        refine wpAnyH_ready (rs := [10, 15]) (by kernel_rfl) (by simp) ?_
        refine (AllReadyH.cons (o := _) rfl (fun K hK => ?_) (AllReadyH.cons (o := _) rfl (fun K hK => ?_) AllReadyH.nil))
        · have hbk := HF.out.2.2.1
          unfold BK at hbk
          have hq := Or36 d9 2 sz2 sz x (by simp [World.cell?, hbk]) (by simp [World.cell?, hbk])
          go_simp
          refine hq.mono ?_
          rintro e y ⟨rfl, hy⟩
          subst y
          have HG : Hid (MB H w x na ma na2 ma2 nc mc nc2 mc2 ns ns2 sz qu sz2 qu2 ag ag2 es es2 ∧ x.ownsRow (H + 3) 46 2 (.slice ra (mgN ns ns2).length rc) (mgN ns ns2).length (nsC (mgN ns ns2)) ∧ BK x d21 #[.string ag2, .string ag] 9) := ⟨HF.out.1, HF.out.2.1, HF.out.2.2.2⟩
          clear hq hbk
          go_wp2_with fail
          refine hK _ _ (by have h9 := MB.cells (HG.out.1); rw [HL.out.1, HL.out.2.1, HL.out.2.2.1, HL.out.2.2.2] at h9; exact h9) (fun hHeld => ?_)
          try simp only [List.setIfInBounds_toArray, List.set_cons_zero, List.set_cons_succ]
          exact ND2ac.out x ra rc d9 d21 HG
        · go_simp
          have b : Below x.heap.size x (x.alloc (.cells #[.int .i64 qu2, .int .i64 qu] 3)) := (Below.refl _ _).alloc (Nat.le_refl _) _
          have HG : Hid (MB H w (x.alloc (.cells #[.int .i64 qu2, .int .i64 qu] 3)) na ma na2 ma2 nc mc nc2 mc2 ns ns2 sz qu sz2 qu2 ag ag2 es es2 ∧ (x.alloc (.cells #[.int .i64 qu2, .int .i64 qu] 3)).ownsRow (H + 3) 46 2 (.slice ra (mgN ns ns2).length rc) (mgN ns ns2).length (nsC (mgN ns ns2)) ∧ BK (x.alloc (.cells #[.int .i64 qu2, .int .i64 qu] 3)) d9 #[.int .i64 sz2, .int .i64 sz] 3 ∧ BK (x.alloc (.cells #[.int .i64 qu2, .int .i64 qu] 3)) x.heap.size #[.int .i64 qu2, .int .i64 qu] 3 ∧ BK (x.alloc (.cells #[.int .i64 qu2, .int .i64 qu] 3)) d21 #[.string ag2, .string ag] 9) := ⟨(HF.out.1).keep b, own_keep HF.out.2.1 b, (HF.out.2.2.1).keep b, heap_new _ _, (HF.out.2.2.2).keep b⟩
          refine hK _ _ (by have h9 := MB.cells (HG.out.1); rw [HL.out.1, HL.out.2.1, HL.out.2.2.1, HL.out.2.2.2] at h9; exact h9) (fun hHeld => ?_)
          try simp only [List.setIfInBounds_toArray, List.set_cons_zero, List.set_cons_succ]
          exact ND1abc.out (x.alloc (.cells #[.int .i64 qu2, .int .i64 qu] 3)) ra rc d9 x.heap.size d21 HG
      have ND1bc : Hid (∀ (x : World) (ra : Option Addr) (rc : Nat) (d15 : Nat) (d21 : Nat), Hid (MB H w x na ma na2 ma2 nc mc nc2 mc2 ns ns2 sz qu sz2 qu2 ag ag2 es es2 ∧ x.ownsRow (H + 3) 46 2 (.slice ra (mgN ns ns2).length rc) (mgN ns ns2).length (nsC (mgN ns ns2)) ∧ BK x d15 #[.int .i64 qu2, .int .i64 qu] 3 ∧ BK x d21 #[.string ag2, .string ag] 9) → wpAnyH Try.prog Region.Mode.any OPS QQ (MC H na ma na2 ma2 nc mc nc2 mc2 n1 n2 m1 m2 sz qu sz2 qu2 ag ag2) 8 #[true, true, true, true, true, true, true, true, true, false, false, true, true, true, true, true, false, true, true, true, true, true, false, true, true, true, true, false, false, false, false] { tmps := #[.agg #[.slice na n1 nc, .int .i64 sz, .int .i64 qu, .string ag, .slice ma m1 mc], .agg #[.slice na2 n2 nc2, .int .i64 sz2, .int .i64 qu2, .string ag2, .slice ma2 m2 mc2], .pointer (some ⟨H, 0, none⟩), .pointer (some ⟨H + 1, 0, none⟩), .pointer (some ⟨H + 1 + 1, 0, none⟩), .agg #[.slice na n1 nc, .int .i64 sz, .int .i64 qu, .string ag, .slice ma m1 mc], .bool true, .bool false, .bool false, .agg #[.slice na2 n2 nc2, .int .i64 sz2, .int .i64 qu2, .string ag2, .slice ma2 m2 mc2], .bool true, .bool false, .bool false, undef, .pointer (some ⟨H, 0, none⟩), .slice na n1 nc, .pointer (some ⟨H + 1, 0, none⟩), .slice na2 n2 nc2, .slice ra (mgN ns ns2).length rc, .pointer (some ⟨H + 1, 1, none⟩), .int .i64 sz2, .pointer (some ⟨H, 1, none⟩), .int .i64 sz, undef, undef, .pointer (some ⟨H + 1, 2, none⟩), .int .i64 qu2, .pointer (some ⟨H, 2, none⟩), .int .i64 qu, .slice (some ⟨d15, 0, none⟩) 2 2, undef, .pointer (some ⟨H + 1, 3, none⟩), .string ag2, .pointer (some ⟨H, 3, none⟩), .string ag, .slice (some ⟨d21, 0, none⟩) 2 2, undef, .pointer (some ⟨H, 4, none⟩), .slice ma m1 mc, .pointer (some ⟨H + 1, 4, none⟩), .slice ma2 m2 mc2, undef, undef, undef], defers := [] } x) := by
        intro x ra rc d15 d21 HF
        subst hO
        refine wpAnyH_ready (rs := [9]) (by kernel_rfl) (by simp) ?_
        refine (AllReadyH.cons (o := _) rfl (fun K hK => ?_) AllReadyH.nil)
        · go_simp
          have b : Below x.heap.size x (x.alloc (.cells #[.int .i64 sz2, .int .i64 sz] 3)) := (Below.refl _ _).alloc (Nat.le_refl _) _
          have HG : Hid (MB H w (x.alloc (.cells #[.int .i64 sz2, .int .i64 sz] 3)) na ma na2 ma2 nc mc nc2 mc2 ns ns2 sz qu sz2 qu2 ag ag2 es es2 ∧ (x.alloc (.cells #[.int .i64 sz2, .int .i64 sz] 3)).ownsRow (H + 3) 46 2 (.slice ra (mgN ns ns2).length rc) (mgN ns ns2).length (nsC (mgN ns ns2)) ∧ BK (x.alloc (.cells #[.int .i64 sz2, .int .i64 sz] 3)) x.heap.size #[.int .i64 sz2, .int .i64 sz] 3 ∧ BK (x.alloc (.cells #[.int .i64 sz2, .int .i64 sz] 3)) d15 #[.int .i64 qu2, .int .i64 qu] 3 ∧ BK (x.alloc (.cells #[.int .i64 sz2, .int .i64 sz] 3)) d21 #[.string ag2, .string ag] 9) := ⟨(HF.out.1).keep b, own_keep HF.out.2.1 b, heap_new _ _, (HF.out.2.2.1).keep b, (HF.out.2.2.2).keep b⟩
          refine hK _ _ (by have h9 := MB.cells (HG.out.1); rw [HL.out.1, HL.out.2.1, HL.out.2.2.1, HL.out.2.2.2] at h9; exact h9) (fun hHeld => ?_)
          try simp only [List.setIfInBounds_toArray, List.set_cons_zero, List.set_cons_succ]
          exact ND1abc.out (x.alloc (.cells #[.int .i64 sz2, .int .i64 sz] 3)) ra rc x.heap.size d15 d21 HG
      have ND1a : Hid (∀ (x : World) (ra : Option Addr) (rc : Nat) (d9 : Nat), Hid (MB H w x na ma na2 ma2 nc mc nc2 mc2 ns ns2 sz qu sz2 qu2 ag ag2 es es2 ∧ x.ownsRow (H + 3) 46 2 (.slice ra (mgN ns ns2).length rc) (mgN ns ns2).length (nsC (mgN ns ns2)) ∧ BK x d9 #[.int .i64 sz2, .int .i64 sz] 3) → wpAnyH Try.prog Region.Mode.any OPS QQ (MC H na ma na2 ma2 nc mc nc2 mc2 n1 n2 m1 m2 sz qu sz2 qu2 ag ag2) 9 #[true, true, true, true, true, true, true, true, true, true, false, true, true, true, true, false, false, true, true, true, true, false, false, true, true, true, true, false, false, false, false] { tmps := #[.agg #[.slice na n1 nc, .int .i64 sz, .int .i64 qu, .string ag, .slice ma m1 mc], .agg #[.slice na2 n2 nc2, .int .i64 sz2, .int .i64 qu2, .string ag2, .slice ma2 m2 mc2], .pointer (some ⟨H, 0, none⟩), .pointer (some ⟨H + 1, 0, none⟩), .pointer (some ⟨H + 1 + 1, 0, none⟩), .agg #[.slice na n1 nc, .int .i64 sz, .int .i64 qu, .string ag, .slice ma m1 mc], .bool true, .bool false, .bool false, .agg #[.slice na2 n2 nc2, .int .i64 sz2, .int .i64 qu2, .string ag2, .slice ma2 m2 mc2], .bool true, .bool false, .bool false, undef, .pointer (some ⟨H, 0, none⟩), .slice na n1 nc, .pointer (some ⟨H + 1, 0, none⟩), .slice na2 n2 nc2, .slice ra (mgN ns ns2).length rc, .pointer (some ⟨H + 1, 1, none⟩), .int .i64 sz2, .pointer (some ⟨H, 1, none⟩), .int .i64 sz, .slice (some ⟨d9, 0, none⟩) 2 2, undef, .pointer (some ⟨H + 1, 2, none⟩), .int .i64 qu2, .pointer (some ⟨H, 2, none⟩), .int .i64 qu, undef, undef, .pointer (some ⟨H + 1, 3, none⟩), .string ag2, .pointer (some ⟨H, 3, none⟩), .string ag, undef, undef, .pointer (some ⟨H, 4, none⟩), .slice ma m1 mc, .pointer (some ⟨H + 1, 4, none⟩), .slice ma2 m2 mc2, undef, undef, undef], defers := [] } x) := by
        intro x ra rc d9 HF
        subst hO
        refine wpAnyH_ready (rs := [10, 15, 21]) (by kernel_rfl) (by simp) ?_
        refine (AllReadyH.cons (o := _) rfl (fun K hK => ?_) (AllReadyH.cons (o := _) rfl (fun K hK => ?_) (AllReadyH.cons (o := _) rfl (fun K hK => ?_) AllReadyH.nil)))
        · have hbk := HF.out.2.2
          unfold BK at hbk
          have hq := Or36 d9 2 sz2 sz x (by simp [World.cell?, hbk]) (by simp [World.cell?, hbk])
          go_simp
          refine hq.mono ?_
          rintro e y ⟨rfl, hy⟩
          subst y
          have HG : Hid (MB H w x na ma na2 ma2 nc mc nc2 mc2 ns ns2 sz qu sz2 qu2 ag ag2 es es2 ∧ x.ownsRow (H + 3) 46 2 (.slice ra (mgN ns ns2).length rc) (mgN ns ns2).length (nsC (mgN ns ns2))) := ⟨HF.out.1, HF.out.2.1⟩
          clear hq hbk
          go_wp2_with fail
          refine hK _ _ (by have h9 := MB.cells (HG.out.1); rw [HL.out.1, HL.out.2.1, HL.out.2.2.1, HL.out.2.2.2] at h9; exact h9) (fun hHeld => ?_)
          try simp only [List.setIfInBounds_toArray, List.set_cons_zero, List.set_cons_succ]
          exact ND2a.out x ra rc d9 HG
        · go_simp
          have b : Below x.heap.size x (x.alloc (.cells #[.int .i64 qu2, .int .i64 qu] 3)) := (Below.refl _ _).alloc (Nat.le_refl _) _
          have HG : Hid (MB H w (x.alloc (.cells #[.int .i64 qu2, .int .i64 qu] 3)) na ma na2 ma2 nc mc nc2 mc2 ns ns2 sz qu sz2 qu2 ag ag2 es es2 ∧ (x.alloc (.cells #[.int .i64 qu2, .int .i64 qu] 3)).ownsRow (H + 3) 46 2 (.slice ra (mgN ns ns2).length rc) (mgN ns ns2).length (nsC (mgN ns ns2)) ∧ BK (x.alloc (.cells #[.int .i64 qu2, .int .i64 qu] 3)) d9 #[.int .i64 sz2, .int .i64 sz] 3 ∧ BK (x.alloc (.cells #[.int .i64 qu2, .int .i64 qu] 3)) x.heap.size #[.int .i64 qu2, .int .i64 qu] 3) := ⟨(HF.out.1).keep b, own_keep HF.out.2.1 b, (HF.out.2.2).keep b, heap_new _ _⟩
          refine hK _ _ (by have h9 := MB.cells (HG.out.1); rw [HL.out.1, HL.out.2.1, HL.out.2.2.1, HL.out.2.2.2] at h9; exact h9) (fun hHeld => ?_)
          try simp only [List.setIfInBounds_toArray, List.set_cons_zero, List.set_cons_succ]
          exact ND1ab.out (x.alloc (.cells #[.int .i64 qu2, .int .i64 qu] 3)) ra rc d9 x.heap.size HG
        · go_simp
          have b : Below x.heap.size x (x.alloc (.cells #[.string ag2, .string ag] 9)) := (Below.refl _ _).alloc (Nat.le_refl _) _
          have HG : Hid (MB H w (x.alloc (.cells #[.string ag2, .string ag] 9)) na ma na2 ma2 nc mc nc2 mc2 ns ns2 sz qu sz2 qu2 ag ag2 es es2 ∧ (x.alloc (.cells #[.string ag2, .string ag] 9)).ownsRow (H + 3) 46 2 (.slice ra (mgN ns ns2).length rc) (mgN ns ns2).length (nsC (mgN ns ns2)) ∧ BK (x.alloc (.cells #[.string ag2, .string ag] 9)) d9 #[.int .i64 sz2, .int .i64 sz] 3 ∧ BK (x.alloc (.cells #[.string ag2, .string ag] 9)) x.heap.size #[.string ag2, .string ag] 9) := ⟨(HF.out.1).keep b, own_keep HF.out.2.1 b, (HF.out.2.2).keep b, heap_new _ _⟩
          refine hK _ _ (by have h9 := MB.cells (HG.out.1); rw [HL.out.1, HL.out.2.1, HL.out.2.2.1, HL.out.2.2.2] at h9; exact h9) (fun hHeld => ?_)
          try simp only [List.setIfInBounds_toArray, List.set_cons_zero, List.set_cons_succ]
          exact ND1ac.out (x.alloc (.cells #[.string ag2, .string ag] 9)) ra rc d9 x.heap.size HG
      have ND1b : Hid (∀ (x : World) (ra : Option Addr) (rc : Nat) (d15 : Nat), Hid (MB H w x na ma na2 ma2 nc mc nc2 mc2 ns ns2 sz qu sz2 qu2 ag ag2 es es2 ∧ x.ownsRow (H + 3) 46 2 (.slice ra (mgN ns ns2).length rc) (mgN ns ns2).length (nsC (mgN ns ns2)) ∧ BK x d15 #[.int .i64 qu2, .int .i64 qu] 3) → wpAnyH Try.prog Region.Mode.any OPS QQ (MC H na ma na2 ma2 nc mc nc2 mc2 n1 n2 m1 m2 sz qu sz2 qu2 ag ag2) 9 #[true, true, true, true, true, true, true, true, true, false, false, true, true, true, true, true, false, true, true, true, true, false, false, true, true, true, true, false, false, false, false] { tmps := #[.agg #[.slice na n1 nc, .int .i64 sz, .int .i64 qu, .string ag, .slice ma m1 mc], .agg #[.slice na2 n2 nc2, .int .i64 sz2, .int .i64 qu2, .string ag2, .slice ma2 m2 mc2], .pointer (some ⟨H, 0, none⟩), .pointer (some ⟨H + 1, 0, none⟩), .pointer (some ⟨H + 1 + 1, 0, none⟩), .agg #[.slice na n1 nc, .int .i64 sz, .int .i64 qu, .string ag, .slice ma m1 mc], .bool true, .bool false, .bool false, .agg #[.slice na2 n2 nc2, .int .i64 sz2, .int .i64 qu2, .string ag2, .slice ma2 m2 mc2], .bool true, .bool false, .bool false, undef, .pointer (some ⟨H, 0, none⟩), .slice na n1 nc, .pointer (some ⟨H + 1, 0, none⟩), .slice na2 n2 nc2, .slice ra (mgN ns ns2).length rc, .pointer (some ⟨H + 1, 1, none⟩), .int .i64 sz2, .pointer (some ⟨H, 1, none⟩), .int .i64 sz, undef, undef, .pointer (some ⟨H + 1, 2, none⟩), .int .i64 qu2, .pointer (some ⟨H, 2, none⟩), .int .i64 qu, .slice (some ⟨d15, 0, none⟩) 2 2, undef, .pointer (some ⟨H + 1, 3, none⟩), .string ag2, .pointer (some ⟨H, 3, none⟩), .string ag, undef, undef, .pointer (some ⟨H, 4, none⟩), .slice ma m1 mc, .pointer (some ⟨H + 1, 4, none⟩), .slice ma2 m2 mc2, undef, undef, undef], defers := [] } x) := by
        intro x ra rc d15 HF
        subst hO
        refine wpAnyH_ready (rs := [9, 21]) (by kernel_rfl) (by simp) ?_
        refine (AllReadyH.cons (o := _) rfl (fun K hK => ?_) (AllReadyH.cons (o := _) rfl (fun K hK => ?_) AllReadyH.nil))
        · go_simp
          have b : Below x.heap.size x (x.alloc (.cells #[.int .i64 sz2, .int .i64 sz] 3)) := (Below.refl _ _).alloc (Nat.le_refl _) _
          have HG : Hid (MB H w (x.alloc (.cells #[.int .i64 sz2, .int .i64 sz] 3)) na ma na2 ma2 nc mc nc2 mc2 ns ns2 sz qu sz2 qu2 ag ag2 es es2 ∧ (x.alloc (.cells #[.int .i64 sz2, .int .i64 sz] 3)).ownsRow (H + 3) 46 2 (.slice ra (mgN ns ns2).length rc) (mgN ns ns2).length (nsC (mgN ns ns2)) ∧ BK (x.alloc (.cells #[.int .i64 sz2, .int .i64 sz] 3)) x.heap.size #[.int .i64 sz2, .int .i64 sz] 3 ∧ BK (x.alloc (.cells #[.int .i64 sz2, .int .i64 sz] 3)) d15 #[.int .i64 qu2, .int .i64 qu] 3) := ⟨(HF.out.1).keep b, own_keep HF.out.2.1 b, heap_new _ _, (HF.out.2.2).keep b⟩
          refine hK _ _ (by have h9 := MB.cells (HG.out.1); rw [HL.out.1, HL.out.2.1, HL.out.2.2.1, HL.out.2.2.2] at h9; exact h9) (fun hHeld => ?_)
          try simp only [List.setIfInBounds_toArray, List.set_cons_zero, List.set_cons_succ]
          exact ND1ab.out (x.alloc (.cells #[.int .i64 sz2, .int .i64 sz] 3)) ra rc x.heap.size d15 HG
        · go_simp
          have b : Below x.heap.size x (x.alloc (.cells #[.string ag2, .string ag] 9)) := (Below.refl _ _).alloc (Nat.le_refl _) _
          have HG : Hid (MB H w (x.alloc (.cells #[.string ag2, .string ag] 9)) na ma na2 ma2 nc mc nc2 mc2 ns ns2 sz qu sz2 qu2 ag ag2 es es2 ∧ (x.alloc (.cells #[.string ag2, .string ag] 9)).ownsRow (H + 3) 46 2 (.slice ra (mgN ns ns2).length rc) (mgN ns ns2).length (nsC (mgN ns ns2)) ∧ BK (x.alloc (.cells #[.string ag2, .string ag] 9)) d15 #[.int .i64 qu2, .int .i64 qu] 3 ∧ BK (x.alloc (.cells #[.string ag2, .string ag] 9)) x.heap.size #[.string ag2, .string ag] 9) := ⟨(HF.out.1).keep b, own_keep HF.out.2.1 b, (HF.out.2.2).keep b, heap_new _ _⟩
          refine hK _ _ (by have h9 := MB.cells (HG.out.1); rw [HL.out.1, HL.out.2.1, HL.out.2.2.1, HL.out.2.2.2] at h9; exact h9) (fun hHeld => ?_)
          try simp only [List.setIfInBounds_toArray, List.set_cons_zero, List.set_cons_succ]
          exact ND1bc.out (x.alloc (.cells #[.string ag2, .string ag] 9)) ra rc d15 x.heap.size HG
      have ND1c : Hid (∀ (x : World) (ra : Option Addr) (rc : Nat) (d21 : Nat), Hid (MB H w x na ma na2 ma2 nc mc nc2 mc2 ns ns2 sz qu sz2 qu2 ag ag2 es es2 ∧ x.ownsRow (H + 3) 46 2 (.slice ra (mgN ns ns2).length rc) (mgN ns ns2).length (nsC (mgN ns ns2)) ∧ BK x d21 #[.string ag2, .string ag] 9) → wpAnyH Try.prog Region.Mode.any OPS QQ (MC H na ma na2 ma2 nc mc nc2 mc2 n1 n2 m1 m2 sz qu sz2 qu2 ag ag2) 9 #[true, true, true, true, true, true, true, true, true, false, false, true, true, true, true, false, false, true, true, true, true, true, false, true, true, true, true, false, false, false, false] { tmps := #[.agg #[.slice na n1 nc, .int .i64 sz, .int .i64 qu, .string ag, .slice ma m1 mc], .agg #[.slice na2 n2 nc2, .int .i64 sz2, .int .i64 qu2, .string ag2, .slice ma2 m2 mc2], .pointer (some ⟨H, 0, none⟩), .pointer (some ⟨H + 1, 0, none⟩), .pointer (some ⟨H + 1 + 1, 0, none⟩), .agg #[.slice na n1 nc, .int .i64 sz, .int .i64 qu, .string ag, .slice ma m1 mc], .bool true, .bool false, .bool false, .agg #[.slice na2 n2 nc2, .int .i64 sz2, .int .i64 qu2, .string ag2, .slice ma2 m2 mc2], .bool true, .bool false, .bool false, undef, .pointer (some ⟨H, 0, none⟩), .slice na n1 nc, .pointer (some ⟨H + 1, 0, none⟩), .slice na2 n2 nc2, .slice ra (mgN ns ns2).length rc, .pointer (some ⟨H + 1, 1, none⟩), .int .i64 sz2, .pointer (some ⟨H, 1, none⟩), .int .i64 sz, undef, undef, .pointer (some ⟨H + 1, 2, none⟩), .int .i64 qu2, .pointer (some ⟨H, 2, none⟩), .int .i64 qu, undef, undef, .pointer (some ⟨H + 1, 3, none⟩), .string ag2, .pointer (some ⟨H, 3, none⟩), .string ag, .slice (some ⟨d21, 0, none⟩) 2 2, undef, .pointer (some ⟨H, 4, none⟩), .slice ma m1 mc, .pointer (some ⟨H + 1, 4, none⟩), .slice ma2 m2 mc2, undef, undef, undef], defers := [] } x) := by
        intro x ra rc d21 HF
        subst hO
        refine wpAnyH_ready (rs := [9, 15]) (by kernel_rfl) (by simp) ?_
        refine (AllReadyH.cons (o := _) rfl (fun K hK => ?_) (AllReadyH.cons (o := _) rfl (fun K hK => ?_) AllReadyH.nil))
        · go_simp
          have b : Below x.heap.size x (x.alloc (.cells #[.int .i64 sz2, .int .i64 sz] 3)) := (Below.refl _ _).alloc (Nat.le_refl _) _
          have HG : Hid (MB H w (x.alloc (.cells #[.int .i64 sz2, .int .i64 sz] 3)) na ma na2 ma2 nc mc nc2 mc2 ns ns2 sz qu sz2 qu2 ag ag2 es es2 ∧ (x.alloc (.cells #[.int .i64 sz2, .int .i64 sz] 3)).ownsRow (H + 3) 46 2 (.slice ra (mgN ns ns2).length rc) (mgN ns ns2).length (nsC (mgN ns ns2)) ∧ BK (x.alloc (.cells #[.int .i64 sz2, .int .i64 sz] 3)) x.heap.size #[.int .i64 sz2, .int .i64 sz] 3 ∧ BK (x.alloc (.cells #[.int .i64 sz2, .int .i64 sz] 3)) d21 #[.string ag2, .string ag] 9) := ⟨(HF.out.1).keep b, own_keep HF.out.2.1 b, heap_new _ _, (HF.out.2.2).keep b⟩
          refine hK _ _ (by have h9 := MB.cells (HG.out.1); rw [HL.out.1, HL.out.2.1, HL.out.2.2.1, HL.out.2.2.2] at h9; exact h9) (fun hHeld => ?_)
          try simp only [List.setIfInBounds_toArray, List.set_cons_zero, List.set_cons_succ]
          exact ND1ac.out (x.alloc (.cells #[.int .i64 sz2, .int .i64 sz] 3)) ra rc x.heap.size d21 HG
        · go_simp
          have b : Below x.heap.size x (x.alloc (.cells #[.int .i64 qu2, .int .i64 qu] 3)) := (Below.refl _ _).alloc (Nat.le_refl _) _
          have HG : Hid (MB H w (x.alloc (.cells #[.int .i64 qu2, .int .i64 qu] 3)) na ma na2 ma2 nc mc nc2 mc2 ns ns2 sz qu sz2 qu2 ag ag2 es es2 ∧ (x.alloc (.cells #[.int .i64 qu2, .int .i64 qu] 3)).ownsRow (H + 3) 46 2 (.slice ra (mgN ns ns2).length rc) (mgN ns ns2).length (nsC (mgN ns ns2)) ∧ BK (x.alloc (.cells #[.int .i64 qu2, .int .i64 qu] 3)) x.heap.size #[.int .i64 qu2, .int .i64 qu] 3 ∧ BK (x.alloc (.cells #[.int .i64 qu2, .int .i64 qu] 3)) d21 #[.string ag2, .string ag] 9) := ⟨(HF.out.1).keep b, own_keep HF.out.2.1 b, heap_new _ _, (HF.out.2.2).keep b⟩
          refine hK _ _ (by have h9 := MB.cells (HG.out.1); rw [HL.out.1, HL.out.2.1, HL.out.2.2.1, HL.out.2.2.2] at h9; exact h9) (fun hHeld => ?_)
          try simp only [List.setIfInBounds_toArray, List.set_cons_zero, List.set_cons_succ]
          exact ND1bc.out (x.alloc (.cells #[.int .i64 qu2, .int .i64 qu] 3)) ra rc x.heap.size d21 HG
      have ND1 : Hid (∀ (x : World) (ra : Option Addr) (rc : Nat), Hid (MB H w x na ma na2 ma2 nc mc nc2 mc2 ns ns2 sz qu sz2 qu2 ag ag2 es es2 ∧ x.ownsRow (H + 3) 46 2 (.slice ra (mgN ns ns2).length rc) (mgN ns ns2).length (nsC (mgN ns ns2))) → wpAnyH Try.prog Region.Mode.any OPS QQ (MC H na ma na2 ma2 nc mc nc2 mc2 n1 n2 m1 m2 sz qu sz2 qu2 ag ag2) 10 #[true, true, true, true, true, true, true, true, true, false, false, true, true, true, true, false, false, true, true, true, true, false, false, true, true, true, true, false, false, false, false] { tmps := #[.agg #[.slice na n1 nc, .int .i64 sz, .int .i64 qu, .string ag, .slice ma m1 mc], .agg #[.slice na2 n2 nc2, .int .i64 sz2, .int .i64 qu2, .string ag2, .slice ma2 m2 mc2], .pointer (some ⟨H, 0, none⟩), .pointer (some ⟨H + 1, 0, none⟩), .pointer (some ⟨H + 1 + 1, 0, none⟩), .agg #[.slice na n1 nc, .int .i64 sz, .int .i64 qu, .string ag, .slice ma m1 mc], .bool true, .bool false, .bool false, .agg #[.slice na2 n2 nc2, .int .i64 sz2, .int .i64 qu2, .string ag2, .slice ma2 m2 mc2], .bool true, .bool false, .bool false, undef, .pointer (some ⟨H, 0, none⟩), .slice na n1 nc, .pointer (some ⟨H + 1, 0, none⟩), .slice na2 n2 nc2, .slice ra (mgN ns ns2).length rc, .pointer (some ⟨H + 1, 1, none⟩), .int .i64 sz2, .pointer (some ⟨H, 1, none⟩), .int .i64 sz, undef, undef, .pointer (some ⟨H + 1, 2, none⟩), .int .i64 qu2, .pointer (some ⟨H, 2, none⟩), .int .i64 qu, undef, undef, .pointer (some ⟨H + 1, 3, none⟩), .string ag2, .pointer (some ⟨H, 3, none⟩), .string ag, undef, undef, .pointer (some ⟨H, 4, none⟩), .slice ma m1 mc, .pointer (some ⟨H + 1, 4, none⟩), .slice ma2 m2 mc2, undef, undef, undef], defers := [] } x) := by
        intro x ra rc HF
        subst hO
        refine wpAnyH_ready (rs := [9, 15, 21]) (by kernel_rfl) (by simp) ?_
        refine (AllReadyH.cons (o := _) rfl (fun K hK => ?_) (AllReadyH.cons (o := _) rfl (fun K hK => ?_) (AllReadyH.cons (o := _) rfl (fun K hK => ?_) AllReadyH.nil)))
        · go_simp
          have b : Below x.heap.size x (x.alloc (.cells #[.int .i64 sz2, .int .i64 sz] 3)) := (Below.refl _ _).alloc (Nat.le_refl _) _
          have HG : Hid (MB H w (x.alloc (.cells #[.int .i64 sz2, .int .i64 sz] 3)) na ma na2 ma2 nc mc nc2 mc2 ns ns2 sz qu sz2 qu2 ag ag2 es es2 ∧ (x.alloc (.cells #[.int .i64 sz2, .int .i64 sz] 3)).ownsRow (H + 3) 46 2 (.slice ra (mgN ns ns2).length rc) (mgN ns ns2).length (nsC (mgN ns ns2)) ∧ BK (x.alloc (.cells #[.int .i64 sz2, .int .i64 sz] 3)) x.heap.size #[.int .i64 sz2, .int .i64 sz] 3) := ⟨(HF.out.1).keep b, own_keep HF.out.2 b, heap_new _ _⟩
          refine hK _ _ (by have h9 := MB.cells (HG.out.1); rw [HL.out.1, HL.out.2.1, HL.out.2.2.1, HL.out.2.2.2] at h9; exact h9) (fun hHeld => ?_)
          try simp only [List.setIfInBounds_toArray, List.set_cons_zero, List.set_cons_succ]
          exact ND1a.out (x.alloc (.cells #[.int .i64 sz2, .int .i64 sz] 3)) ra rc x.heap.size HG
        · go_simp
          have b : Below x.heap.size x (x.alloc (.cells #[.int .i64 qu2, .int .i64 qu] 3)) := (Below.refl _ _).alloc (Nat.le_refl _) _
          have HG : Hid (MB H w (x.alloc (.cells #[.int .i64 qu2, .int .i64 qu] 3)) na ma na2 ma2 nc mc nc2 mc2 ns ns2 sz qu sz2 qu2 ag ag2 es es2 ∧ (x.alloc (.cells #[.int .i64 qu2, .int .i64 qu] 3)).ownsRow (H + 3) 46 2 (.slice ra (mgN ns ns2).length rc) (mgN ns ns2).length (nsC (mgN ns ns2)) ∧ BK (x.alloc (.cells #[.int .i64 qu2, .int .i64 qu] 3)) x.heap.size #[.int .i64 qu2, .int .i64 qu] 3) := ⟨(HF.out.1).keep b, own_keep HF.out.2 b, heap_new _ _⟩
          refine hK _ _ (by have h9 := MB.cells (HG.out.1); rw [HL.out.1, HL.out.2.1, HL.out.2.2.1, HL.out.2.2.2] at h9; exact h9) (fun hHeld => ?_)
          try simp only [List.setIfInBounds_toArray, List.set_cons_zero, List.set_cons_succ]
          exact ND1b.out (x.alloc (.cells #[.int .i64 qu2, .int .i64 qu] 3)) ra rc x.heap.size HG
        · go_simp
          have b : Below x.heap.size x (x.alloc (.cells #[.string ag2, .string ag] 9)) := (Below.refl _ _).alloc (Nat.le_refl _) _
          have HG : Hid (MB H w (x.alloc (.cells #[.string ag2, .string ag] 9)) na ma na2 ma2 nc mc nc2 mc2 ns ns2 sz qu sz2 qu2 ag ag2 es es2 ∧ (x.alloc (.cells #[.string ag2, .string ag] 9)).ownsRow (H + 3) 46 2 (.slice ra (mgN ns ns2).length rc) (mgN ns ns2).length (nsC (mgN ns ns2)) ∧ BK (x.alloc (.cells #[.string ag2, .string ag] 9)) x.heap.size #[.string ag2, .string ag] 9) := ⟨(HF.out.1).keep b, own_keep HF.out.2 b, heap_new _ _⟩
          refine hK _ _ (by have h9 := MB.cells (HG.out.1); rw [HL.out.1, HL.out.2.1, HL.out.2.2.1, HL.out.2.2.2] at h9; exact h9) (fun hHeld => ?_)
          try simp only [List.setIfInBounds_toArray, List.set_cons_zero, List.set_cons_succ]
          exact ND1c.out (x.alloc (.cells #[.string ag2, .string ag] 9)) ra rc x.heap.size HG
      have ND0abc : Hid (∀ (x : World) (d9 : Nat) (d15 : Nat) (d21 : Nat), Hid (MB H w x na ma na2 ma2 nc mc nc2 mc2 ns ns2 sz qu sz2 qu2 ag ag2 es es2 ∧ BK x d9 #[.int .i64 sz2, .int .i64 sz] 3 ∧ BK x d15 #[.int .i64 qu2, .int .i64 qu] 3 ∧ BK x d21 #[.string ag2, .string ag] 9) → wpAnyH Try.prog Region.Mode.any OPS QQ (MC H na ma na2 ma2 nc mc nc2 mc2 n1 n2 m1 m2 sz qu sz2 qu2 ag ag2) 8 #[true, true, true, true, false, true, true, true, true, true, false, true, true, true, true, true, false, true, true, true, true, true, false, true, true, true, true, false, false, false, false] { tmps := #[.agg #[.slice na n1 nc, .int .i64 sz, .int .i64 qu, .string ag, .slice ma m1 mc], .agg #[.slice na2 n2 nc2, .int .i64 sz2, .int .i64 qu2, .string ag2, .slice ma2 m2 mc2], .pointer (some ⟨H, 0, none⟩), .pointer (some ⟨H + 1, 0, none⟩), .pointer (some ⟨H + 1 + 1, 0, none⟩), .agg #[.slice na n1 nc, .int .i64 sz, .int .i64 qu, .string ag, .slice ma m1 mc], .bool true, .bool false, .bool false, .agg #[.slice na2 n2 nc2, .int .i64 sz2, .int .i64 qu2, .string ag2, .slice ma2 m2 mc2], .bool true, .bool false, .bool false, undef, .pointer (some ⟨H, 0, none⟩), .slice na n1 nc, .pointer (some ⟨H + 1, 0, none⟩), .slice na2 n2 nc2, undef, .pointer (some ⟨H + 1, 1, none⟩), .int .i64 sz2, .pointer (some ⟨H, 1, none⟩), .int .i64 sz, .slice (some ⟨d9, 0, none⟩) 2 2, undef, .pointer (some ⟨H + 1, 2, none⟩), .int .i64 qu2, .pointer (some ⟨H, 2, none⟩), .int .i64 qu, .slice (some ⟨d15, 0, none⟩) 2 2, undef, .pointer (some ⟨H + 1, 3, none⟩), .string ag2, .pointer (some ⟨H, 3, none⟩), .string ag, .slice (some ⟨d21, 0, none⟩) 2 2, undef, .pointer (some ⟨H, 4, none⟩), .slice ma m1 mc, .pointer (some ⟨H + 1, 4, none⟩), .slice ma2 m2 mc2, undef, undef, undef], defers := [] } x) := by
        intro x d9 d15 d21 HF
        subst hO
        refine wpAnyH_ready (rs := [4]) (by kernel_rfl) (by simp) ?_
        refine (AllReadyH.cons (o := _) rfl (fun K hK => ?_) AllReadyH.nil)
        · have hq := laidOver34 (.slice na n1 nc) (.slice na2 n2 nc2) ns ns2 x (by have h9 := sn_of (HF.out.1).2.2.2.2.2.1 (by rw [HL.out.1]; exact HC.out.1); rw [HL.out.1] at h9; exact h9) (by have h9 := sn_of (HF.out.1).2.2.2.2.2.2.1 (by rw [HL.out.2.1]; exact HC.out.2.1); rw [HL.out.2.1] at h9; exact h9) (by have := HSM.out.2.2; have := HL.out; omega)
          go_simp
          refine hq.mono ?_
          rintro e y ⟨v', rfl, hown, b⟩
          obtain ⟨ra, rc, rfl⟩ := ownForm hown
          have HG : Hid (MB H w y na ma na2 ma2 nc mc nc2 mc2 ns ns2 sz qu sz2 qu2 ag ag2 es es2 ∧ y.ownsRow (H + 3) 46 2 (.slice ra (mgN ns ns2).length rc) (mgN ns ns2).length (nsC (mgN ns ns2)) ∧ BK y d9 #[.int .i64 sz2, .int .i64 sz] 3 ∧ BK y d15 #[.int .i64 qu2, .int .i64 qu] 3 ∧ BK y d21 #[.string ag2, .string ag] 9) := ⟨(HF.out.1).keep b, own_mono hown (HF.out.1).2.2.2.1, (HF.out.2.1).keep b, (HF.out.2.2.1).keep b, (HF.out.2.2.2).keep b⟩
          clear hq hown b
          go_wp2_with fail
          refine hK _ _ (by have h9 := MB.cells (HG.out.1); rw [HL.out.1, HL.out.2.1, HL.out.2.2.1, HL.out.2.2.2] at h9; exact h9) (fun hHeld => ?_)
          try simp only [List.setIfInBounds_toArray, List.set_cons_zero, List.set_cons_succ]
          exact ND1abc.out y ra rc d9 d15 d21 HG
      have ND0ab : Hid (∀ (x : World) (d9 : Nat) (d15 : Nat), Hid (MB H w x na ma na2 ma2 nc mc nc2 mc2 ns ns2 sz qu sz2 qu2 ag ag2 es es2 ∧ BK x d9 #[.int .i64 sz2, .int .i64 sz] 3 ∧ BK x d15 #[.int .i64 qu2, .int .i64 qu] 3) → wpAnyH Try.prog Region.Mode.any OPS QQ (MC H na ma na2 ma2 nc mc nc2 mc2 n1 n2 m1 m2 sz qu sz2 qu2 ag ag2) 9 #[true, true, true, true, false, true, true, true, true, true, false, true, true, true, true, true, false, true, true, true, true, false, false, true, true, true, true, false, false, false, false] { tmps := #[.agg #[.slice na n1 nc, .int .i64 sz, .int .i64 qu, .string ag, .slice ma m1 mc], .agg #[.slice na2 n2 nc2, .int .i64 sz2, .int .i64 qu2, .string ag2, .slice ma2 m2 mc2], .pointer (some ⟨H, 0, none⟩), .pointer (some ⟨H + 1, 0, none⟩), .pointer (some ⟨H + 1 + 1, 0, none⟩), .agg #[.slice na n1 nc, .int .i64 sz, .int .i64 qu, .string ag, .slice ma m1 mc], .bool true, .bool false, .bool false, .agg #[.slice na2 n2 nc2, .int .i64 sz2, .int .i64 qu2, .string ag2, .slice ma2 m2 mc2], .bool true, .bool false, .bool false, undef, .pointer (some ⟨H, 0, none⟩), .slice na n1 nc, .pointer (some ⟨H + 1, 0, none⟩), .slice na2 n2 nc2, undef, .pointer (some ⟨H + 1, 1, none⟩), .int .i64 sz2, .pointer (some ⟨H, 1, none⟩), .int .i64 sz, .slice (some ⟨d9, 0, none⟩) 2 2, undef, .pointer (some ⟨H + 1, 2, none⟩), .int .i64 qu2, .pointer (some ⟨H, 2, none⟩), .int .i64 qu, .slice (some ⟨d15, 0, none⟩) 2 2, undef, .pointer (some ⟨H + 1, 3, none⟩), .string ag2, .pointer (some ⟨H, 3, none⟩), .string ag, undef, undef, .pointer (some ⟨H, 4, none⟩), .slice ma m1 mc, .pointer (some ⟨H + 1, 4, none⟩), .slice ma2 m2 mc2, undef, undef, undef], defers := [] } x) := by
        intro x d9 d15 HF
        subst hO
        refine wpAnyH_ready (rs := [4, 21]) (by kernel_rfl) (by simp) ?_
        refine (AllReadyH.cons (o := _) rfl (fun K hK => ?_) (AllReadyH.cons (o := _) rfl (fun K hK => ?_) AllReadyH.nil))
        · have hq := laidOver34 (.slice na n1 nc) (.slice na2 n2 nc2) ns ns2 x (by have h9 := sn_of (HF.out.1).2.2.2.2.2.1 (by rw [HL.out.1]; exact HC.out.1); rw [HL.out.1] at h9; exact h9) (by have h9 := sn_of (HF.out.1).2.2.2.2.2.2.1 (by rw [HL.out.2.1]; exact HC.out.2.1); rw [HL.out.2.1] at h9; exact h9) (by have := HSM.out.2.2; have := HL.out; omega)
          go_simp
          refine hq.mono ?_
          rintro e y ⟨v', rfl, hown, b⟩
          obtain ⟨ra, rc, rfl⟩ := ownForm hown
          have HG : Hid (MB H w y na ma na2 ma2 nc mc nc2 mc2 ns ns2 sz qu sz2 qu2 ag ag2 es es2 ∧ y.ownsRow (H + 3) 46 2 (.slice ra (mgN ns ns2).length rc) (mgN ns ns2).length (nsC (mgN ns ns2)) ∧ BK y d9 #[.int .i64 sz2, .int .i64 sz] 3 ∧ BK y d15 #[.int .i64 qu2, .int .i64 qu] 3) := ⟨(HF.out.1).keep b, own_mono hown (HF.out.1).2.2.2.1, (HF.out.2.1).keep b, (HF.out.2.2).keep b⟩
          clear hq hown b
          go_wp2_with fail
          refine hK _ _ (by have h9 := MB.cells (HG.out.1); rw [HL.out.1, HL.out.2.1, HL.out.2.2.1, HL.out.2.2.2] at h9; exact h9) (fun hHeld => ?_)
          try simp only [List.setIfInBounds_toArray, List.set_cons_zero, List.set_cons_succ]
          exact ND1ab.out y ra rc d9 d15 HG
        · go_simp
          have b : Below x.heap.size x (x.alloc (.cells #[.string ag2, .string ag] 9)) := (Below.refl _ _).alloc (Nat.le_refl _) _
          have HG : Hid (MB H w (x.alloc (.cells #[.string ag2, .string ag] 9)) na ma na2 ma2 nc mc nc2 mc2 ns ns2 sz qu sz2 qu2 ag ag2 es es2 ∧ BK (x.alloc (.cells #[.string ag2, .string ag] 9)) d9 #[.int .i64 sz2, .int .i64 sz] 3 ∧ BK (x.alloc (.cells #[.string ag2, .string ag] 9)) d15 #[.int .i64 qu2, .int .i64 qu] 3 ∧ BK (x.alloc (.cells #[.string ag2, .string ag] 9)) x.heap.size #[.string ag2, .string ag] 9) := ⟨(HF.out.1).keep b, (HF.out.2.1).keep b, (HF.out.2.2).keep b, heap_new _ _⟩
          refine hK _ _ (by have h9 := MB.cells (HG.out.1); rw [HL.out.1, HL.out.2.1, HL.out.2.2.1, HL.out.2.2.2] at h9; exact h9) (fun hHeld => ?_)
          try simp only [List.setIfInBounds_toArray, List.set_cons_zero, List.set_cons_succ]
          exact ND0abc.out (x.alloc (.cells #[.string ag2, .string ag] 9)) d9 d15 x.heap.size HG
      have ND0ac : Hid (∀ (x : World) (d9 : Nat) (d21 : Nat), Hid (MB H w x na ma na2 ma2 nc mc nc2 mc2 ns ns2 sz qu sz2 qu2 ag ag2 es es2 ∧ BK x d9 #[.int .i64 sz2, .int .i64 sz] 3 ∧ BK x d21 #[.string ag2, .string ag] 9) → wpAnyH Try.prog Region.Mode.any OPS QQ (MC H na ma na2 ma2 nc mc nc2 mc2 n1 n2 m1 m2 sz qu sz2 qu2 ag ag2) 9 #[true, true, true, true, false, true, true, true, true, true, false, true, true, true, true, false, false, true, true, true, true, true, false, true, true, true, true, false, false, false, false] { tmps := #[.agg #[.slice na n1 nc, .int .i64 sz, .int .i64 qu, .string ag, .slice ma m1 mc], .agg #[.slice na2 n2 nc2, .int .i64 sz2, .int .i64 qu2, .string ag2, .slice ma2 m2 mc2], .pointer (some ⟨H, 0, none⟩), .pointer (some ⟨H + 1, 0, none⟩), .pointer (some ⟨H + 1 + 1, 0, none⟩), .agg #[.slice na n1 nc, .int .i64 sz, .int .i64 qu, .string ag, .slice ma m1 mc], .bool true, .bool false, .bool false, .agg #[.slice na2 n2 nc2, .int .i64 sz2, .int .i64 qu2, .string ag2, .slice ma2 m2 mc2], .bool true, .bool false, .bool false, undef, .pointer (some ⟨H, 0, none⟩), .slice na n1 nc, .pointer (some ⟨H + 1, 0, none⟩), .slice na2 n2 nc2, undef, .pointer (some ⟨H + 1, 1, none⟩), .int .i64 sz2, .pointer (some ⟨H, 1, none⟩), .int .i64 sz, .slice (some ⟨d9, 0, none⟩) 2 2, undef, .pointer (some ⟨H + 1, 2, none⟩), .int .i64 qu2, .pointer (some ⟨H, 2, none⟩), .int .i64 qu, undef, undef, .pointer (some ⟨H + 1, 3, none⟩), .string ag2, .pointer (some ⟨H, 3, none⟩), .string ag, .slice (some ⟨d21, 0, none⟩) 2 2, undef, .pointer (some ⟨H, 4, none⟩), .slice ma m1 mc, .pointer (some ⟨H + 1, 4, none⟩), .slice ma2 m2 mc2, undef, undef, undef], defers := [] } x) := by
        intro x d9 d21 HF
        subst hO
        refine wpAnyH_ready (rs := [4, 15]) (by kernel_rfl) (by simp) ?_
        refine (AllReadyH.cons (o := _) rfl (fun K hK => ?_) (AllReadyH.cons (o := _) rfl (fun K hK => ?_) AllReadyH.nil))
        · have hq := laidOver34 (.slice na n1 nc) (.slice na2 n2 nc2) ns ns2 x (by have h9 := sn_of (HF.out.1).2.2.2.2.2.1 (by rw [HL.out.1]; exact HC.out.1); rw [HL.out.1] at h9; exact h9) (by have h9 := sn_of (HF.out.1).2.2.2.2.2.2.1 (by rw [HL.out.2.1]; exact HC.out.2.1); rw [HL.out.2.1] at h9; exact h9) (by have := HSM.out.2.2; have := HL.out; omega)
          go_simp
          refine hq.mono ?_
          rintro e y ⟨v', rfl, hown, b⟩
          obtain ⟨ra, rc, rfl⟩ := ownForm hown
          have HG : Hid (MB H w y na ma na2 ma2 nc mc nc2 mc2 ns ns2 sz qu sz2 qu2 ag ag2 es es2 ∧ y.ownsRow (H + 3) 46 2 (.slice ra (mgN ns ns2).length rc) (mgN ns ns2).length (nsC (mgN ns ns2)) ∧ BK y d9 #[.int .i64 sz2, .int .i64 sz] 3 ∧ BK y d21 #[.string ag2, .string ag] 9) := ⟨(HF.out.1).keep b, own_mono hown (HF.out.1).2.2.2.1, (HF.out.2.1).keep b, (HF.out.2.2).keep b⟩
          clear hq hown b
          go_wp2_with fail
          refine hK _ _ (by have h9 := MB.cells (HG.out.1); rw [HL.out.1, HL.out.2.1, HL.out.2.2.1, HL.out.2.2.2] at h9; exact h9) (fun hHeld => ?_)
          try simp only [List.setIfInBounds_toArray, List.set_cons_zero, List.set_cons_succ]
          exact ND1ac.out y ra rc d9 d21 HG
        · go_simp
          have b : Below x.heap.size x (x.alloc (.cells #[.int .i64 qu2, .int .i64 qu] 3)) := (Below.refl _ _).alloc (Nat.le_refl _) _
          have HG : Hid (MB H w (x.alloc (.cells #[.int .i64 qu2, .int .i64 qu] 3)) na ma na2 ma2 nc mc nc2 mc2 ns ns2 sz qu sz2 qu2 ag ag2 es es2 ∧ BK (x.alloc (.cells #[.int .i64 qu2, .int .i64 qu] 3)) d9 #[.int .i64 sz2, .int .i64 sz] 3 ∧ BK (x.alloc (.cells #[.int .i64 qu2, .int .i64 qu] 3)) x.heap.size #[.int .i64 qu2, .int .i64 qu] 3 ∧ BK (x.alloc (.cells #[.int .i64 qu2, .int .i64 qu] 3)) d21 #[.string ag2, .string ag] 9) := ⟨(HF.out.1).keep b, (HF.out.2.1).keep b, heap_new _ _, (HF.out.2.2).keep b⟩
          refine hK _ _ (by have h9 := MB.cells (HG.out.1); rw [HL.out.1, HL.out.2.1, HL.out.2.2.1, HL.out.2.2.2] at h9; exact h9) (fun hHeld => ?_)
          try simp only [List.setIfInBounds_toArray, List.set_cons_zero, List.set_cons_succ]
          exact ND0abc.out (x.alloc (.cells #[.int .i64 qu2, .int .i64 qu] 3)) d9 x.heap.size d21 HG
      have ND0bc : Hid (∀ (x : World) (d15 : Nat) (d21 : Nat), Hid (MB H w x na ma na2 ma2 nc mc nc2 mc2 ns ns2 sz qu sz2 qu2 ag ag2 es es2 ∧ BK x d15 #[.int .i64 qu2, .int .i64 qu] 3 ∧ BK x d21 #[.string ag2, .string ag] 9) → wpAnyH Try.prog Region.Mode.any OPS QQ (MC H na ma na2 ma2 nc mc nc2 mc2 n1 n2 m1 m2 sz qu sz2 qu2 ag ag2) 9 #[true, true, true, true, false, true, true, true, true, false, false, true, true, true, true, true, false, true, true, true, true, true, false, true, true, true, true, false, false, false, false] { tmps := #[.agg #[.slice na n1 nc, .int .i64 sz, .int .i64 qu, .string ag, .slice ma m1 mc], .agg #[.slice na2 n2 nc2, .int .i64 sz2, .int .i64 qu2, .string ag2, .slice ma2 m2 mc2], .pointer (some ⟨H, 0, none⟩), .pointer (some ⟨H + 1, 0, none⟩), .pointer (some ⟨H + 1 + 1, 0, none⟩), .agg #[.slice na n1 nc, .int .i64 sz, .int .i64 qu, .string ag, .slice ma m1 mc], .bool true, .bool false, .bool false, .agg #[.slice na2 n2 nc2, .int .i64 sz2, .int .i64 qu2, .string ag2, .slice ma2 m2 mc2], .bool true, .bool false, .bool false, undef, .pointer (some ⟨H, 0, none⟩), .slice na n1 nc, .pointer (some ⟨H + 1, 0, none⟩), .slice na2 n2 nc2, undef, .pointer (some ⟨H + 1, 1, none⟩), .int .i64 sz2, .pointer (some ⟨H, 1, none⟩), .int .i64 sz, undef, undef, .pointer (some ⟨H + 1, 2, none⟩), .int .i64 qu2, .pointer (some ⟨H, 2, none⟩), .int .i64 qu, .slice (some ⟨d15, 0, none⟩) 2 2, undef, .pointer (some ⟨H + 1, 3, none⟩), .string ag2, .pointer (some ⟨H, 3, none⟩), .string ag, .slice (some ⟨d21, 0, none⟩) 2 2, undef, .pointer (some ⟨H, 4, none⟩), .slice ma m1 mc, .pointer (some ⟨H + 1, 4, none⟩), .slice ma2 m2 mc2, undef, undef, undef], defers := [] } x) := by
        intro x d15 d21 HF
        subst hO
        refine wpAnyH_ready (rs := [4, 9]) (by kernel_rfl) (by simp) ?_
        refine (AllReadyH.cons (o := _) rfl (fun K hK => ?_) (AllReadyH.cons (o := _) rfl (fun K hK => ?_) AllReadyH.nil))
        · have hq := laidOver34 (.slice na n1 nc) (.slice na2 n2 nc2) ns ns2 x (by have h9 := sn_of (HF.out.1).2.2.2.2.2.1 (by rw [HL.out.1]; exact HC.out.1); rw [HL.out.1] at h9; exact h9) (by have h9 := sn_of (HF.out.1).2.2.2.2.2.2.1 (by rw [HL.out.2.1]; exact HC.out.2.1); rw [HL.out.2.1] at h9; exact h9) (by have := HSM.out.2.2; have := HL.out; omega)
          go_simp
          refine hq.mono ?_
          rintro e y ⟨v', rfl, hown, b⟩
          obtain ⟨ra, rc, rfl⟩ := ownForm hown
          have HG : Hid (MB H w y na ma na2 ma2 nc mc nc2 mc2 ns ns2 sz qu sz2 qu2 ag ag2 es es2 ∧ y.ownsRow (H + 3) 46 2 (.slice ra (mgN ns ns2).length rc) (mgN ns ns2).length (nsC (mgN ns ns2)) ∧ BK y d15 #[.int .i64 qu2, .int .i64 qu] 3 ∧ BK y d21 #[.string ag2, .string ag] 9) := ⟨(HF.out.1).keep b, own_mono hown (HF.out.1).2.2.2.1, (HF.out.2.1).keep b, (HF.out.2.2).keep b⟩
          clear hq hown b
          go_wp2_with fail
          refine hK _ _ (by have h9 := MB.cells (HG.out.1); rw [HL.out.1, HL.out.2.1, HL.out.2.2.1, HL.out.2.2.2] at h9; exact h9) (fun hHeld => ?_)
          try simp only [List.setIfInBounds_toArray, List.set_cons_zero, List.set_cons_succ]
          exact ND1bc.out y ra rc d15 d21 HG
        · go_simp
          have b : Below x.heap.size x (x.alloc (.cells #[.int .i64 sz2, .int .i64 sz] 3)) := (Below.refl _ _).alloc (Nat.le_refl _) _
          have HG : Hid (MB H w (x.alloc (.cells #[.int .i64 sz2, .int .i64 sz] 3)) na ma na2 ma2 nc mc nc2 mc2 ns ns2 sz qu sz2 qu2 ag ag2 es es2 ∧ BK (x.alloc (.cells #[.int .i64 sz2, .int .i64 sz] 3)) x.heap.size #[.int .i64 sz2, .int .i64 sz] 3 ∧ BK (x.alloc (.cells #[.int .i64 sz2, .int .i64 sz] 3)) d15 #[.int .i64 qu2, .int .i64 qu] 3 ∧ BK (x.alloc (.cells #[.int .i64 sz2, .int .i64 sz] 3)) d21 #[.string ag2, .string ag] 9) := ⟨(HF.out.1).keep b, heap_new _ _, (HF.out.2.1).keep b, (HF.out.2.2).keep b⟩
          refine hK _ _ (by have h9 := MB.cells (HG.out.1); rw [HL.out.1, HL.out.2.1, HL.out.2.2.1, HL.out.2.2.2] at h9; exact h9) (fun hHeld => ?_)
          try simp only [List.setIfInBounds_toArray, List.set_cons_zero, List.set_cons_succ]
          exact ND0abc.out (x.alloc (.cells #[.int .i64 sz2, .int .i64 sz] 3)) x.heap.size d15 d21 HG
      have ND0a : Hid (∀ (x : World) (d9 : Nat), Hid (MB H w x na ma na2 ma2 nc mc nc2 mc2 ns ns2 sz qu sz2 qu2 ag ag2 es es2 ∧ BK x d9 #[.int .i64 sz2, .int .i64 sz] 3) → wpAnyH Try.prog Region.Mode.any OPS QQ (MC H na ma na2 ma2 nc mc nc2 mc2 n1 n2 m1 m2 sz qu sz2 qu2 ag ag2) 10 #[true, true, true, true, false, true, true, true, true, true, false, true, true, true, true, false, false, true, true, true, true, false, false, true, true, true, true, false, false, false, false] { tmps := #[.agg #[.slice na n1 nc, .int .i64 sz, .int .i64 qu, .string ag, .slice ma m1 mc], .agg #[.slice na2 n2 nc2, .int .i64 sz2, .int .i64 qu2, .string ag2, .slice ma2 m2 mc2], .pointer (some ⟨H, 0, none⟩), .pointer (some ⟨H + 1, 0, none⟩), .pointer (some ⟨H + 1 + 1, 0, none⟩), .agg #[.slice na n1 nc, .int .i64 sz, .int .i64 qu, .string ag, .slice ma m1 mc], .bool true, .bool false, .bool false, .agg #[.slice na2 n2 nc2, .int .i64 sz2, .int .i64 qu2, .string ag2, .slice ma2 m2 mc2], .bool true, .bool false, .bool false, undef, .pointer (some ⟨H, 0, none⟩), .slice na n1 nc, .pointer (some ⟨H + 1, 0, none⟩), .slice na2 n2 nc2, undef, .pointer (some ⟨H + 1, 1, none⟩), .int .i64 sz2, .pointer (some ⟨H, 1, none⟩), .int .i64 sz, .slice (some ⟨d9, 0, none⟩) 2 2, undef, .pointer (some ⟨H + 1, 2, none⟩), .int .i64 qu2, .pointer (some ⟨H, 2, none⟩), .int .i64 qu, undef, undef, .pointer (some ⟨H + 1, 3, none⟩), .string ag2, .pointer (some ⟨H, 3, none⟩), .string ag, undef, undef, .pointer (some ⟨H, 4, none⟩), .slice ma m1 mc, .pointer (some ⟨H + 1, 4, none⟩), .slice ma2 m2 mc2, undef, undef, undef], defers := [] } x) := by
        intro x d9 HF
        subst hO
        refine wpAnyH_ready (rs := [4, 15, 21]) (by kernel_rfl) (by simp) ?_
        refine (AllReadyH.cons (o := _) rfl (fun K hK => ?_) (AllReadyH.cons (o := _) rfl (fun K hK => ?_) (AllReadyH.cons (o := _) rfl (fun K hK => ?_) AllReadyH.nil)))
        · have hq := laidOver34 (.slice na n1 nc) (.slice na2 n2 nc2) ns ns2 x (by have h9 := sn_of (HF.out.1).2.2.2.2.2.1 (by rw [HL.out.1]; exact HC.out.1); rw [HL.out.1] at h9; exact h9) (by have h9 := sn_of (HF.out.1).2.2.2.2.2.2.1 (by rw [HL.out.2.1]; exact HC.out.2.1); rw [HL.out.2.1] at h9; exact h9) (by have := HSM.out.2.2; have := HL.out; omega)
          go_simp
          refine hq.mono ?_
          rintro e y ⟨v', rfl, hown, b⟩
          obtain ⟨ra, rc, rfl⟩ := ownForm hown
          have HG : Hid (MB H w y na ma na2 ma2 nc mc nc2 mc2 ns ns2 sz qu sz2 qu2 ag ag2 es es2 ∧ y.ownsRow (H + 3) 46 2 (.slice ra (mgN ns ns2).length rc) (mgN ns ns2).length (nsC (mgN ns ns2)) ∧ BK y d9 #[.int .i64 sz2, .int .i64 sz] 3) := ⟨(HF.out.1).keep b, own_mono hown (HF.out.1).2.2.2.1, (HF.out.2).keep b⟩
          clear hq hown b
          go_wp2_with fail
          refine hK _ _ (by have h9 := MB.cells (HG.out.1); rw [HL.out.1, HL.out.2.1, HL.out.2.2.1, HL.out.2.2.2] at h9; exact h9) (fun hHeld => ?_)
          try simp only [List.setIfInBounds_toArray, List.set_cons_zero, List.set_cons_succ]
          exact ND1a.out y ra rc d9 HG
        · go_simp
          have b : Below x.heap.size x (x.alloc (.cells #[.int .i64 qu2, .int .i64 qu] 3)) := (Below.refl _ _).alloc (Nat.le_refl _) _
          have HG : Hid (MB H w (x.alloc (.cells #[.int .i64 qu2, .int .i64 qu] 3)) na ma na2 ma2 nc mc nc2 mc2 ns ns2 sz qu sz2 qu2 ag ag2 es es2 ∧ BK (x.alloc (.cells #[.int .i64 qu2, .int .i64 qu] 3)) d9 #[.int .i64 sz2, .int .i64 sz] 3 ∧ BK (x.alloc (.cells #[.int .i64 qu2, .int .i64 qu] 3)) x.heap.size #[.int .i64 qu2, .int .i64 qu] 3) := ⟨(HF.out.1).keep b, (HF.out.2).keep b, heap_new _ _⟩
          refine hK _ _ (by have h9 := MB.cells (HG.out.1); rw [HL.out.1, HL.out.2.1, HL.out.2.2.1, HL.out.2.2.2] at h9; exact h9) (fun hHeld => ?_)
          try simp only [List.setIfInBounds_toArray, List.set_cons_zero, List.set_cons_succ]
          exact ND0ab.out (x.alloc (.cells #[.int .i64 qu2, .int .i64 qu] 3)) d9 x.heap.size HG
        · go_simp
          have b : Below x.heap.size x (x.alloc (.cells #[.string ag2, .string ag] 9)) := (Below.refl _ _).alloc (Nat.le_refl _) _
          have HG : Hid (MB H w (x.alloc (.cells #[.string ag2, .string ag] 9)) na ma na2 ma2 nc mc nc2 mc2 ns ns2 sz qu sz2 qu2 ag ag2 es es2 ∧ BK (x.alloc (.cells #[.string ag2, .string ag] 9)) d9 #[.int .i64 sz2, .int .i64 sz] 3 ∧ BK (x.alloc (.cells #[.string ag2, .string ag] 9)) x.heap.size #[.string ag2, .string ag] 9) := ⟨(HF.out.1).keep b, (HF.out.2).keep b, heap_new _ _⟩
          refine hK _ _ (by have h9 := MB.cells (HG.out.1); rw [HL.out.1, HL.out.2.1, HL.out.2.2.1, HL.out.2.2.2] at h9; exact h9) (fun hHeld => ?_)
          try simp only [List.setIfInBounds_toArray, List.set_cons_zero, List.set_cons_succ]
          exact ND0ac.out (x.alloc (.cells #[.string ag2, .string ag] 9)) d9 x.heap.size HG
      have ND0b : Hid (∀ (x : World) (d15 : Nat), Hid (MB H w x na ma na2 ma2 nc mc nc2 mc2 ns ns2 sz qu sz2 qu2 ag ag2 es es2 ∧ BK x d15 #[.int .i64 qu2, .int .i64 qu] 3) → wpAnyH Try.prog Region.Mode.any OPS QQ (MC H na ma na2 ma2 nc mc nc2 mc2 n1 n2 m1 m2 sz qu sz2 qu2 ag ag2) 10 #[true, true, true, true, false, true, true, true, true, false, false, true, true, true, true, true, false, true, true, true, true, false, false, true, true, true, true, false, false, false, false] { tmps := #[.agg #[.slice na n1 nc, .int .i64 sz, .int .i64 qu, .string ag, .slice ma m1 mc], .agg #[.slice na2 n2 nc2, .int .i64 sz2, .int .i64 qu2, .string ag2, .slice ma2 m2 mc2], .pointer (some ⟨H, 0, none⟩), .pointer (some ⟨H + 1, 0, none⟩), .pointer (some ⟨H + 1 + 1, 0, none⟩), .agg #[.slice na n1 nc, .int .i64 sz, .int .i64 qu, .string ag, .slice ma m1 mc], .bool true, .bool false, .bool false, .agg #[.slice na2 n2 nc2, .int .i64 sz2, .int .i64 qu2, .string ag2, .slice ma2 m2 mc2], .bool true, .bool false, .bool false, undef, .pointer (some ⟨H, 0, none⟩), .slice na n1 nc, .pointer (some ⟨H + 1, 0, none⟩), .slice na2 n2 nc2, undef, .pointer (some ⟨H + 1, 1, none⟩), .int .i64 sz2, .pointer (some ⟨H, 1, none⟩), .int .i64 sz, undef, undef, .pointer (some ⟨H + 1, 2, none⟩), .int .i64 qu2, .pointer (some ⟨H, 2, none⟩), .int .i64 qu, .slice (some ⟨d15, 0, none⟩) 2 2, undef, .pointer (some ⟨H + 1, 3, none⟩), .string ag2, .pointer (some ⟨H, 3, none⟩), .string ag, undef, undef, .pointer (some ⟨H, 4, none⟩), .slice ma m1 mc, .pointer (some ⟨H + 1, 4, none⟩), .slice ma2 m2 mc2, undef, undef, undef], defers := [] } x) := by
        intro x d15 HF
        subst hO
        refine wpAnyH_ready (rs := [4, 9, 21]) (by kernel_rfl) (by simp) ?_
        refine (AllReadyH.cons (o := _) rfl (fun K hK => ?_) (AllReadyH.cons (o := _) rfl (fun K hK => ?_) (AllReadyH.cons (o := _) rfl (fun K hK => ?_) AllReadyH.nil)))
        · have hq := laidOver34 (.slice na n1 nc) (.slice na2 n2 nc2) ns ns2 x (by have h9 := sn_of (HF.out.1).2.2.2.2.2.1 (by rw [HL.out.1]; exact HC.out.1); rw [HL.out.1] at h9; exact h9) (by have h9 := sn_of (HF.out.1).2.2.2.2.2.2.1 (by rw [HL.out.2.1]; exact HC.out.2.1); rw [HL.out.2.1] at h9; exact h9) (by have := HSM.out.2.2; have := HL.out; omega)
          go_simp
          refine hq.mono ?_
          rintro e y ⟨v', rfl, hown, b⟩
          obtain ⟨ra, rc, rfl⟩ := ownForm hown
          have HG : Hid (MB H w y na ma na2 ma2 nc mc nc2 mc2 ns ns2 sz qu sz2 qu2 ag ag2 es es2 ∧ y.ownsRow (H + 3) 46 2 (.slice ra (mgN ns ns2).length rc) (mgN ns ns2).length (nsC (mgN ns ns2)) ∧ BK y d15 #[.int .i64 qu2, .int .i64 qu] 3) := ⟨(HF.out.1).keep b, own_mono hown (HF.out.1).2.2.2.1, (HF.out.2).keep b⟩
          clear hq hown b
          go_wp2_with fail
          refine hK _ _ (by have h9 := MB.cells (HG.out.1); rw [HL.out.1, HL.out.2.1, HL.out.2.2.1, HL.out.2.2.2] at h9; exact h9) (fun hHeld => ?_)
          try simp only [List.setIfInBounds_toArray, List.set_cons_zero, List.set_cons_succ]
          exact ND1b.out y ra rc d15 HG
        · go_simp
          have b : Below x.heap.size x (x.alloc (.cells #[.int .i64 sz2, .int .i64 sz] 3)) := (Below.refl _ _).alloc (Nat.le_refl _) _
          have HG : Hid (MB H w (x.alloc (.cells #[.int .i64 sz2, .int .i64 sz] 3)) na ma na2 ma2 nc mc nc2 mc2 ns ns2 sz qu sz2 qu2 ag ag2 es es2 ∧ BK (x.alloc (.cells #[.int .i64 sz2, .int .i64 sz] 3)) x.heap.size #[.int .i64 sz2, .int .i64 sz] 3 ∧ BK (x.alloc (.cells #[.int .i64 sz2, .int .i64 sz] 3)) d15 #[.int .i64 qu2, .int .i64 qu] 3) := ⟨(HF.out.1).keep b, heap_new _ _, (HF.out.2).keep b⟩
          refine hK _ _ (by have h9 := MB.cells (HG.out.1); rw [HL.out.1, HL.out.2.1, HL.out.2.2.1, HL.out.2.2.2] at h9; exact h9) (fun hHeld => ?_)
          try simp only [List.setIfInBounds_toArray, List.set_cons_zero, List.set_cons_succ]
          exact ND0ab.out (x.alloc (.cells #[.int .i64 sz2, .int .i64 sz] 3)) x.heap.size d15 HG
        · go_simp
          have b : Below x.heap.size x (x.alloc (.cells #[.string ag2, .string ag] 9)) := (Below.refl _ _).alloc (Nat.le_refl _) _
          have HG : Hid (MB H w (x.alloc (.cells #[.string ag2, .string ag] 9)) na ma na2 ma2 nc mc nc2 mc2 ns ns2 sz qu sz2 qu2 ag ag2 es es2 ∧ BK (x.alloc (.cells #[.string ag2, .string ag] 9)) d15 #[.int .i64 qu2, .int .i64 qu] 3 ∧ BK (x.alloc (.cells #[.string ag2, .string ag] 9)) x.heap.size #[.string ag2, .string ag] 9) := ⟨(HF.out.1).keep b, (HF.out.2).keep b, heap_new _ _⟩
          refine hK _ _ (by have h9 := MB.cells (HG.out.1); rw [HL.out.1, HL.out.2.1, HL.out.2.2.1, HL.out.2.2.2] at h9; exact h9) (fun hHeld => ?_)
          try simp only [List.setIfInBounds_toArray, List.set_cons_zero, List.set_cons_succ]
          exact ND0bc.out (x.alloc (.cells #[.string ag2, .string ag] 9)) d15 x.heap.size HG
      have ND0c : Hid (∀ (x : World) (d21 : Nat), Hid (MB H w x na ma na2 ma2 nc mc nc2 mc2 ns ns2 sz qu sz2 qu2 ag ag2 es es2 ∧ BK x d21 #[.string ag2, .string ag] 9) → wpAnyH Try.prog Region.Mode.any OPS QQ (MC H na ma na2 ma2 nc mc nc2 mc2 n1 n2 m1 m2 sz qu sz2 qu2 ag ag2) 10 #[true, true, true, true, false, true, true, true, true, false, false, true, true, true, true, false, false, true, true, true, true, true, false, true, true, true, true, false, false, false, false] { tmps := #[.agg #[.slice na n1 nc, .int .i64 sz, .int .i64 qu, .string ag, .slice ma m1 mc], .agg #[.slice na2 n2 nc2, .int .i64 sz2, .int .i64 qu2, .string ag2, .slice ma2 m2 mc2], .pointer (some ⟨H, 0, none⟩), .pointer (some ⟨H + 1, 0, none⟩), .pointer (some ⟨H + 1 + 1, 0, none⟩), .agg #[.slice na n1 nc, .int .i64 sz, .int .i64 qu, .string ag, .slice ma m1 mc], .bool true, .bool false, .bool false, .agg #[.slice na2 n2 nc2, .int .i64 sz2, .int .i64 qu2, .string ag2, .slice ma2 m2 mc2], .bool true, .bool false, .bool false, undef, .pointer (some ⟨H, 0, none⟩), .slice na n1 nc, .pointer (some ⟨H + 1, 0, none⟩), .slice na2 n2 nc2, undef, .pointer (some ⟨H + 1, 1, none⟩), .int .i64 sz2, .pointer (some ⟨H, 1, none⟩), .int .i64 sz, undef, undef, .pointer (some ⟨H + 1, 2, none⟩), .int .i64 qu2, .pointer (some ⟨H, 2, none⟩), .int .i64 qu, undef, undef, .pointer (some ⟨H + 1, 3, none⟩), .string ag2, .pointer (some ⟨H, 3, none⟩), .string ag, .slice (some ⟨d21, 0, none⟩) 2 2, undef, .pointer (some ⟨H, 4, none⟩), .slice ma m1 mc, .pointer (some ⟨H + 1, 4, none⟩), .slice ma2 m2 mc2, undef, undef, undef], defers := [] } x) := by
        intro x d21 HF
        subst hO
        refine wpAnyH_ready (rs := [4, 9, 15]) (by kernel_rfl) (by simp) ?_
        refine (AllReadyH.cons (o := _) rfl (fun K hK => ?_) (AllReadyH.cons (o := _) rfl (fun K hK => ?_) (AllReadyH.cons (o := _) rfl (fun K hK => ?_) AllReadyH.nil)))
        · have hq := laidOver34 (.slice na n1 nc) (.slice na2 n2 nc2) ns ns2 x (by have h9 := sn_of (HF.out.1).2.2.2.2.2.1 (by rw [HL.out.1]; exact HC.out.1); rw [HL.out.1] at h9; exact h9) (by have h9 := sn_of (HF.out.1).2.2.2.2.2.2.1 (by rw [HL.out.2.1]; exact HC.out.2.1); rw [HL.out.2.1] at h9; exact h9) (by have := HSM.out.2.2; have := HL.out; omega)
          go_simp
          refine hq.mono ?_
          rintro e y ⟨v', rfl, hown, b⟩
          obtain ⟨ra, rc, rfl⟩ := ownForm hown
          have HG : Hid (MB H w y na ma na2 ma2 nc mc nc2 mc2 ns ns2 sz qu sz2 qu2 ag ag2 es es2 ∧ y.ownsRow (H + 3) 46 2 (.slice ra (mgN ns ns2).length rc) (mgN ns ns2).length (nsC (mgN ns ns2)) ∧ BK y d21 #[.string ag2, .string ag] 9) := ⟨(HF.out.1).keep b, own_mono hown (HF.out.1).2.2.2.1, (HF.out.2).keep b⟩
          clear hq hown b
          go_wp2_with fail
          refine hK _ _ (by have h9 := MB.cells (HG.out.1); rw [HL.out.1, HL.out.2.1, HL.out.2.2.1, HL.out.2.2.2] at h9; exact h9) (fun hHeld => ?_)
          try simp only [List.setIfInBounds_toArray, List.set_cons_zero, List.set_cons_succ]
          exact ND1c.out y ra rc d21 HG
        · go_simp
          have b : Below x.heap.size x (x.alloc (.cells #[.int .i64 sz2, .int .i64 sz] 3)) := (Below.refl _ _).alloc (Nat.le_refl _) _
          have HG : Hid (MB H w (x.alloc (.cells #[.int .i64 sz2, .int .i64 sz] 3)) na ma na2 ma2 nc mc nc2 mc2 ns ns2 sz qu sz2 qu2 ag ag2 es es2 ∧ BK (x.alloc (.cells #[.int .i64 sz2, .int .i64 sz] 3)) x.heap.size #[.int .i64 sz2, .int .i64 sz] 3 ∧ BK (x.alloc (.cells #[.int .i64 sz2, .int .i64 sz] 3)) d21 #[.string ag2, .string ag] 9) := ⟨(HF.out.1).keep b, heap_new _ _, (HF.out.2).keep b⟩
          refine hK _ _ (by have h9 := MB.cells (HG.out.1); rw [HL.out.1, HL.out.2.1, HL.out.2.2.1, HL.out.2.2.2] at h9; exact h9) (fun hHeld => ?_)
          try simp only [List.setIfInBounds_toArray, List.set_cons_zero, List.set_cons_succ]
          exact ND0ac.out (x.alloc (.cells #[.int .i64 sz2, .int .i64 sz] 3)) x.heap.size d21 HG
        · go_simp
          have b : Below x.heap.size x (x.alloc (.cells #[.int .i64 qu2, .int .i64 qu] 3)) := (Below.refl _ _).alloc (Nat.le_refl _) _
          have HG : Hid (MB H w (x.alloc (.cells #[.int .i64 qu2, .int .i64 qu] 3)) na ma na2 ma2 nc mc nc2 mc2 ns ns2 sz qu sz2 qu2 ag ag2 es es2 ∧ BK (x.alloc (.cells #[.int .i64 qu2, .int .i64 qu] 3)) x.heap.size #[.int .i64 qu2, .int .i64 qu] 3 ∧ BK (x.alloc (.cells #[.int .i64 qu2, .int .i64 qu] 3)) d21 #[.string ag2, .string ag] 9) := ⟨(HF.out.1).keep b, heap_new _ _, (HF.out.2).keep b⟩
          refine hK _ _ (by have h9 := MB.cells (HG.out.1); rw [HL.out.1, HL.out.2.1, HL.out.2.2.1, HL.out.2.2.2] at h9; exact h9) (fun hHeld => ?_)
          try simp only [List.setIfInBounds_toArray, List.set_cons_zero, List.set_cons_succ]
          exact ND0bc.out (x.alloc (.cells #[.int .i64 qu2, .int .i64 qu] 3)) x.heap.size d21 HG
      have ND0 : Hid (∀ (x : World), Hid (MB H w x na ma na2 ma2 nc mc nc2 mc2 ns ns2 sz qu sz2 qu2 ag ag2 es es2) → wpAnyH Try.prog Region.Mode.any OPS QQ (MC H na ma na2 ma2 nc mc nc2 mc2 n1 n2 m1 m2 sz qu sz2 qu2 ag ag2) 11 #[true, true, true, true, false, true, true, true, true, false, false, true, true, true, true, false, false, true, true, true, true, false, false, true, true, true, true, false, false, false, false] { tmps := #[.agg #[.slice na n1 nc, .int .i64 sz, .int .i64 qu, .string ag, .slice ma m1 mc], .agg #[.slice na2 n2 nc2, .int .i64 sz2, .int .i64 qu2, .string ag2, .slice ma2 m2 mc2], .pointer (some ⟨H, 0, none⟩), .pointer (some ⟨H + 1, 0, none⟩), .pointer (some ⟨H + 1 + 1, 0, none⟩), .agg #[.slice na n1 nc, .int .i64 sz, .int .i64 qu, .string ag, .slice ma m1 mc], .bool true, .bool false, .bool false, .agg #[.slice na2 n2 nc2, .int .i64 sz2, .int .i64 qu2, .string ag2, .slice ma2 m2 mc2], .bool true, .bool false, .bool false, undef, .pointer (some ⟨H, 0, none⟩), .slice na n1 nc, .pointer (some ⟨H + 1, 0, none⟩), .slice na2 n2 nc2, undef, .pointer (some ⟨H + 1, 1, none⟩), .int .i64 sz2, .pointer (some ⟨H, 1, none⟩), .int .i64 sz, undef, undef, .pointer (some ⟨H + 1, 2, none⟩), .int .i64 qu2, .pointer (some ⟨H, 2, none⟩), .int .i64 qu, undef, undef, .pointer (some ⟨H + 1, 3, none⟩), .string ag2, .pointer (some ⟨H, 3, none⟩), .string ag, undef, undef, .pointer (some ⟨H, 4, none⟩), .slice ma m1 mc, .pointer (some ⟨H + 1, 4, none⟩), .slice ma2 m2 mc2, undef, undef, undef], defers := [] } x) := by
        intro x HF
        subst hO
        refine wpAnyH_ready (rs := [4, 9, 15, 21]) (by kernel_rfl) (by simp) ?_
        refine (AllReadyH.cons (o := _) rfl (fun K hK => ?_) (AllReadyH.cons (o := _) rfl (fun K hK => ?_) (AllReadyH.cons (o := _) rfl (fun K hK => ?_) (AllReadyH.cons (o := _) rfl (fun K hK => ?_) AllReadyH.nil))))
        · have hq := laidOver34 (.slice na n1 nc) (.slice na2 n2 nc2) ns ns2 x (by have h9 := sn_of (HF.out).2.2.2.2.2.1 (by rw [HL.out.1]; exact HC.out.1); rw [HL.out.1] at h9; exact h9) (by have h9 := sn_of (HF.out).2.2.2.2.2.2.1 (by rw [HL.out.2.1]; exact HC.out.2.1); rw [HL.out.2.1] at h9; exact h9) (by have := HSM.out.2.2; have := HL.out; omega)
          go_simp
          refine hq.mono ?_
          rintro e y ⟨v', rfl, hown, b⟩
          obtain ⟨ra, rc, rfl⟩ := ownForm hown
          have HG : Hid (MB H w y na ma na2 ma2 nc mc nc2 mc2 ns ns2 sz qu sz2 qu2 ag ag2 es es2 ∧ y.ownsRow (H + 3) 46 2 (.slice ra (mgN ns ns2).length rc) (mgN ns ns2).length (nsC (mgN ns ns2))) := ⟨(HF.out).keep b, own_mono hown (HF.out).2.2.2.1⟩
          clear hq hown b
          go_wp2_with fail
          refine hK _ _ (by have h9 := MB.cells (HG.out.1); rw [HL.out.1, HL.out.2.1, HL.out.2.2.1, HL.out.2.2.2] at h9; exact h9) (fun hHeld => ?_)
          try simp only [List.setIfInBounds_toArray, List.set_cons_zero, List.set_cons_succ]
          exact ND1.out y ra rc HG
        · go_simp
          have b : Below x.heap.size x (x.alloc (.cells #[.int .i64 sz2, .int .i64 sz] 3)) := (Below.refl _ _).alloc (Nat.le_refl _) _
          have HG : Hid (MB H w (x.alloc (.cells #[.int .i64 sz2, .int .i64 sz] 3)) na ma na2 ma2 nc mc nc2 mc2 ns ns2 sz qu sz2 qu2 ag ag2 es es2 ∧ BK (x.alloc (.cells #[.int .i64 sz2, .int .i64 sz] 3)) x.heap.size #[.int .i64 sz2, .int .i64 sz] 3) := ⟨(HF.out).keep b, heap_new _ _⟩
          refine hK _ _ (by have h9 := MB.cells (HG.out.1); rw [HL.out.1, HL.out.2.1, HL.out.2.2.1, HL.out.2.2.2] at h9; exact h9) (fun hHeld => ?_)
          try simp only [List.setIfInBounds_toArray, List.set_cons_zero, List.set_cons_succ]
          exact ND0a.out (x.alloc (.cells #[.int .i64 sz2, .int .i64 sz] 3)) x.heap.size HG
        · go_simp
          have b : Below x.heap.size x (x.alloc (.cells #[.int .i64 qu2, .int .i64 qu] 3)) := (Below.refl _ _).alloc (Nat.le_refl _) _
          have HG : Hid (MB H w (x.alloc (.cells #[.int .i64 qu2, .int .i64 qu] 3)) na ma na2 ma2 nc mc nc2 mc2 ns ns2 sz qu sz2 qu2 ag ag2 es es2 ∧ BK (x.alloc (.cells #[.int .i64 qu2, .int .i64 qu] 3)) x.heap.size #[.int .i64 qu2, .int .i64 qu] 3) := ⟨(HF.out).keep b, heap_new _ _⟩
          refine hK _ _ (by have h9 := MB.cells (HG.out.1); rw [HL.out.1, HL.out.2.1, HL.out.2.2.1, HL.out.2.2.2] at h9; exact h9) (fun hHeld => ?_)
          try simp only [List.setIfInBounds_toArray, List.set_cons_zero, List.set_cons_succ]
          exact ND0b.out (x.alloc (.cells #[.int .i64 qu2, .int .i64 qu] 3)) x.heap.size HG
        · go_simp
          have b : Below x.heap.size x (x.alloc (.cells #[.string ag2, .string ag] 9)) := (Below.refl _ _).alloc (Nat.le_refl _) _
          have HG : Hid (MB H w (x.alloc (.cells #[.string ag2, .string ag] 9)) na ma na2 ma2 nc mc nc2 mc2 ns ns2 sz qu sz2 qu2 ag ag2 es es2 ∧ BK (x.alloc (.cells #[.string ag2, .string ag] 9)) x.heap.size #[.string ag2, .string ag] 9) := ⟨(HF.out).keep b, heap_new _ _⟩
          refine hK _ _ (by have h9 := MB.cells (HG.out.1); rw [HL.out.1, HL.out.2.1, HL.out.2.2.1, HL.out.2.2.2] at h9; exact h9) (fun hHeld => ?_)
          try simp only [List.setIfInBounds_toArray, List.set_cons_zero, List.set_cons_succ]
          exact ND0c.out (x.alloc (.cells #[.string ag2, .string ag] 9)) x.heap.size HG
      have hS : MC H na ma na2 ma2 nc mc nc2 mc2 n1 n2 m1 m2 sz qu sz2 qu2 ag ag2 w2.drew := by have h9 := MB.cells (HM.out.keep (belowDrew1 w2)); rw [HL.out.1, HL.out.2.1, HL.out.2.2.1, HL.out.2.2.2] at h9; exact h9
      have ND := ND0
      have HMD : Hid (MB H w w2.drew na ma na2 ma2 nc mc nc2 mc2 ns ns2 sz qu sz2 qu2 ag ag2 es es2) := HM.out.keep (belowDrew1 w2)
      clear HEND
      subst hO hQ
      refine wp_region_held_drew (S := MC H na ma na2 ma2 nc mc nc2 mc2 n1 n2 m1 m2 sz qu sz2 qu2 ag ag2) (by kernel_rfl) hS (fun hHeld => ?_)
      refine wpAnyH_take (i := 0) (v := .pointer (some ⟨H, 0, none⟩)) rfl (by kernel_rfl) (by kernel_rfl) (by kernel_rfl) (fun _ _ _ h => h) (Or.inl ⟨by rfl, fun w hw => by obtain ⟨⟨s0, s1, s2, s3, s4⟩, t0, t1, t2, t3, t4⟩ := hw; go_simp⟩) hHeld ?_
      simp only [Act.put, List.getElem_toArray, List.getElem_cons_zero, List.setIfInBounds_toArray, List.set_cons_zero, List.set_cons_succ]
      refine wpAnyH_take (i := 1) (v := .slice na n1 nc) rfl (by kernel_rfl) (by kernel_rfl) (by kernel_rfl) (fun _ _ _ h => h) (Or.inl ⟨by rfl, fun w hw => by obtain ⟨⟨s0, s1, s2, s3, s4⟩, t0, t1, t2, t3, t4⟩ := hw; go_simp⟩) hHeld ?_
      simp only [Act.put, List.getElem_toArray, List.getElem_cons_zero, List.getElem_cons_succ, List.setIfInBounds_toArray, List.set_cons_zero, List.set_cons_succ]
      refine wpAnyH_take (i := 2) (v := .pointer (some ⟨H + 1, 0, none⟩)) rfl (by kernel_rfl) (by kernel_rfl) (by kernel_rfl) (fun _ _ _ h => h) (Or.inl ⟨by rfl, fun w hw => by obtain ⟨⟨s0, s1, s2, s3, s4⟩, t0, t1, t2, t3, t4⟩ := hw; go_simp⟩) hHeld ?_
      simp only [Act.put, List.getElem_toArray, List.getElem_cons_zero, List.getElem_cons_succ, List.setIfInBounds_toArray, List.set_cons_zero, List.set_cons_succ]
      refine wpAnyH_take (i := 3) (v := .slice na2 n2 nc2) rfl (by kernel_rfl) (by kernel_rfl) (by kernel_rfl) (fun _ _ _ h => h) (Or.inl ⟨by rfl, fun w hw => by obtain ⟨⟨s0, s1, s2, s3, s4⟩, t0, t1, t2, t3, t4⟩ := hw; go_simp⟩) hHeld ?_
      simp only [Act.put, List.getElem_toArray, List.getElem_cons_zero, List.getElem_cons_succ, List.setIfInBounds_toArray, List.set_cons_zero, List.set_cons_succ]
      refine wpAnyH_take (i := 5) (v := .pointer (some ⟨H + 1, 1, none⟩)) rfl (by kernel_rfl) (by kernel_rfl) (by kernel_rfl) (fun _ _ _ h => h) (Or.inl ⟨by rfl, fun w hw => by obtain ⟨⟨s0, s1, s2, s3, s4⟩, t0, t1, t2, t3, t4⟩ := hw; go_simp⟩) hHeld ?_
      simp only [Act.put, List.getElem_toArray, List.getElem_cons_zero, List.getElem_cons_succ, List.setIfInBounds_toArray, List.set_cons_zero, List.set_cons_succ]
      refine wpAnyH_take (i := 6) (v := .int .i64 sz2) rfl (by kernel_rfl) (by kernel_rfl) (by kernel_rfl) (fun _ _ _ h => h) (Or.inl ⟨by rfl, fun w hw => by obtain ⟨⟨s0, s1, s2, s3, s4⟩, t0, t1, t2, t3, t4⟩ := hw; go_simp⟩) hHeld ?_
      simp only [Act.put, List.getElem_toArray, List.getElem_cons_zero, List.getElem_cons_succ, List.setIfInBounds_toArray, List.set_cons_zero, List.set_cons_succ]
      refine wpAnyH_take (i := 7) (v := .pointer (some ⟨H, 1, none⟩)) rfl (by kernel_rfl) (by kernel_rfl) (by kernel_rfl) (fun _ _ _ h => h) (Or.inl ⟨by rfl, fun w hw => by obtain ⟨⟨s0, s1, s2, s3, s4⟩, t0, t1, t2, t3, t4⟩ := hw; go_simp⟩) hHeld ?_
      simp only [Act.put, List.getElem_toArray, List.getElem_cons_zero, List.getElem_cons_succ, List.setIfInBounds_toArray, List.set_cons_zero, List.set_cons_succ]
      refine wpAnyH_take (i := 8) (v := .int .i64 sz) rfl (by kernel_rfl) (by kernel_rfl) (by kernel_rfl) (fun _ _ _ h => h) (Or.inl ⟨by rfl, fun w hw => by obtain ⟨⟨s0, s1, s2, s3, s4⟩, t0, t1, t2, t3, t4⟩ := hw; go_simp⟩) hHeld ?_
      simp only [Act.put, List.getElem_toArray, List.getElem_cons_zero, List.getElem_cons_succ, List.setIfInBounds_toArray, List.set_cons_zero, List.set_cons_succ]
      refine wpAnyH_take (i := 11) (v := .pointer (some ⟨H + 1, 2, none⟩)) rfl (by kernel_rfl) (by kernel_rfl) (by kernel_rfl) (fun _ _ _ h => h) (Or.inl ⟨by rfl, fun w hw => by obtain ⟨⟨s0, s1, s2, s3, s4⟩, t0, t1, t2, t3, t4⟩ := hw; go_simp⟩) hHeld ?_
      simp only [Act.put, List.getElem_toArray, List.getElem_cons_zero, List.getElem_cons_succ, List.setIfInBounds_toArray, List.set_cons_zero, List.set_cons_succ]
      refine wpAnyH_take (i := 12) (v := .int .i64 qu2) rfl (by kernel_rfl) (by kernel_rfl) (by kernel_rfl) (fun _ _ _ h => h) (Or.inl ⟨by rfl, fun w hw => by obtain ⟨⟨s0, s1, s2, s3, s4⟩, t0, t1, t2, t3, t4⟩ := hw; go_simp⟩) hHeld ?_
      simp only [Act.put, List.getElem_toArray, List.getElem_cons_zero, List.getElem_cons_succ, List.setIfInBounds_toArray, List.set_cons_zero, List.set_cons_succ]
      refine wpAnyH_take (i := 13) (v := .pointer (some ⟨H, 2, none⟩)) rfl (by kernel_rfl) (by kernel_rfl) (by kernel_rfl) (fun _ _ _ h => h) (Or.inl ⟨by rfl, fun w hw => by obtain ⟨⟨s0, s1, s2, s3, s4⟩, t0, t1, t2, t3, t4⟩ := hw; go_simp⟩) hHeld ?_
      simp only [Act.put, List.getElem_toArray, List.getElem_cons_zero, List.getElem_cons_succ, List.setIfInBounds_toArray, List.set_cons_zero, List.set_cons_succ]
      refine wpAnyH_take (i := 14) (v := .int .i64 qu) rfl (by kernel_rfl) (by kernel_rfl) (by kernel_rfl) (fun _ _ _ h => h) (Or.inl ⟨by rfl, fun w hw => by obtain ⟨⟨s0, s1, s2, s3, s4⟩, t0, t1, t2, t3, t4⟩ := hw; go_simp⟩) hHeld ?_
      simp only [Act.put, List.getElem_toArray, List.getElem_cons_zero, List.getElem_cons_succ, List.setIfInBounds_toArray, List.set_cons_zero, List.set_cons_succ]
      refine wpAnyH_take (i := 17) (v := .pointer (some ⟨H + 1, 3, none⟩)) rfl (by kernel_rfl) (by kernel_rfl) (by kernel_rfl) (fun _ _ _ h => h) (Or.inl ⟨by rfl, fun w hw => by obtain ⟨⟨s0, s1, s2, s3, s4⟩, t0, t1, t2, t3, t4⟩ := hw; go_simp⟩) hHeld ?_
      simp only [Act.put, List.getElem_toArray, List.getElem_cons_zero, List.getElem_cons_succ, List.setIfInBounds_toArray, List.set_cons_zero, List.set_cons_succ]
      refine wpAnyH_take (i := 18) (v := .string ag2) rfl (by kernel_rfl) (by kernel_rfl) (by kernel_rfl) (fun _ _ _ h => h) (Or.inl ⟨by rfl, fun w hw => by obtain ⟨⟨s0, s1, s2, s3, s4⟩, t0, t1, t2, t3, t4⟩ := hw; go_simp⟩) hHeld ?_
      simp only [Act.put, List.getElem_toArray, List.getElem_cons_zero, List.getElem_cons_succ, List.setIfInBounds_toArray, List.set_cons_zero, List.set_cons_succ]
      refine wpAnyH_take (i := 19) (v := .pointer (some ⟨H, 3, none⟩)) rfl (by kernel_rfl) (by kernel_rfl) (by kernel_rfl) (fun _ _ _ h => h) (Or.inl ⟨by rfl, fun w hw => by obtain ⟨⟨s0, s1, s2, s3, s4⟩, t0, t1, t2, t3, t4⟩ := hw; go_simp⟩) hHeld ?_
      simp only [Act.put, List.getElem_toArray, List.getElem_cons_zero, List.getElem_cons_succ, List.setIfInBounds_toArray, List.set_cons_zero, List.set_cons_succ]
      refine wpAnyH_take (i := 20) (v := .string ag) rfl (by kernel_rfl) (by kernel_rfl) (by kernel_rfl) (fun _ _ _ h => h) (Or.inl ⟨by rfl, fun w hw => by obtain ⟨⟨s0, s1, s2, s3, s4⟩, t0, t1, t2, t3, t4⟩ := hw; go_simp⟩) hHeld ?_
      simp only [Act.put, List.getElem_toArray, List.getElem_cons_zero, List.getElem_cons_succ, List.setIfInBounds_toArray, List.set_cons_zero, List.set_cons_succ]
      refine wpAnyH_take (i := 23) (v := .pointer (some ⟨H, 4, none⟩)) rfl (by kernel_rfl) (by kernel_rfl) (by kernel_rfl) (fun _ _ _ h => h) (Or.inl ⟨by rfl, fun w hw => by obtain ⟨⟨s0, s1, s2, s3, s4⟩, t0, t1, t2, t3, t4⟩ := hw; go_simp⟩) hHeld ?_
      simp only [Act.put, List.getElem_toArray, List.getElem_cons_zero, List.getElem_cons_succ, List.setIfInBounds_toArray, List.set_cons_zero, List.set_cons_succ]
      refine wpAnyH_take (i := 24) (v := .slice ma m1 mc) rfl (by kernel_rfl) (by kernel_rfl) (by kernel_rfl) (fun _ _ _ h => h) (Or.inl ⟨by rfl, fun w hw => by obtain ⟨⟨s0, s1, s2, s3, s4⟩, t0, t1, t2, t3, t4⟩ := hw; go_simp⟩) hHeld ?_
      simp only [Act.put, List.getElem_toArray, List.getElem_cons_zero, List.getElem_cons_succ, List.setIfInBounds_toArray, List.set_cons_zero, List.set_cons_succ]
      refine wpAnyH_take (i := 25) (v := .pointer (some ⟨H + 1, 4, none⟩)) rfl (by kernel_rfl) (by kernel_rfl) (by kernel_rfl) (fun _ _ _ h => h) (Or.inl ⟨by rfl, fun w hw => by obtain ⟨⟨s0, s1, s2, s3, s4⟩, t0, t1, t2, t3, t4⟩ := hw; go_simp⟩) hHeld ?_
      simp only [Act.put, List.getElem_toArray, List.getElem_cons_zero, List.getElem_cons_succ, List.setIfInBounds_toArray, List.set_cons_zero, List.set_cons_succ]
      refine wpAnyH_take (i := 26) (v := .slice ma2 m2 mc2) rfl (by kernel_rfl) (by kernel_rfl) (by kernel_rfl) (fun _ _ _ h => h) (Or.inl ⟨by rfl, fun w hw => by obtain ⟨⟨s0, s1, s2, s3, s4⟩, t0, t1, t2, t3, t4⟩ := hw; go_simp⟩) hHeld ?_
      simp only [Act.put, List.getElem_toArray, List.getElem_cons_zero, List.getElem_cons_succ, List.setIfInBounds_toArray, List.set_cons_zero, List.set_cons_succ]
      exact ND.out w2.drew HMD
end Go.Proofs.Ytldkecjfjcnkfaa
