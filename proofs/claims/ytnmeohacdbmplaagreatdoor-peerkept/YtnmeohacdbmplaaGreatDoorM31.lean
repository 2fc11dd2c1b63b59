import Derived.Test.YtnmeohacdbmplaaGreatDoorM30
import Derived.Test.YtnmeohacdbmplaaGreatDoorM28
import Derived.BigQuiet
import Derived.Deep.QuietTactic
namespace Go.Proofs.YtnmeohacdbmplaaGreatDoor
open Go.RowKit
theorem rz_one (w : World) (z : Int) : Bs.RZ (w.alloc (.cells #[.int .i64 z] 3)) (.slice (some ⟨w.heap.size, 0, none⟩) 1 1) [z] := by
  refine ⟨_, 1, rfl, (fun h => by cases h), .inr ⟨w.heap.size, 0, rfl, by simp, fun i hi => ?_⟩⟩
  obtain rfl : i = 0 := by simpa using hi
  have := heapNew w (.cells #[.int .i64 z] 3)
  simp only [World.cell?, this]
  rfl
/-- the list with one more behind it -/
theorem OZ.part {B : Nat} {w : World} {v : Value} {L : List Int} {z : Int} (h : Bs.OZ B w v (L ++ [z])) : ∃ g c, v = .slice (some ⟨g, 0, none⟩) (L.length + 1) c ∧ L.length + 1 ≤ c ∧ B ≤ g ∧ g < w.heap.size ∧ w.cell? ⟨g, L.length, none⟩ = some (.int .i64 z) ∧ Bs.RZ w (.slice (some ⟨g, 0, none⟩) L.length c) L := by
  have h' := h
  rcases h.2 with ⟨_, h0⟩ | ⟨g, cap, cur, e, h2, h3, h4, _⟩
  · simp at h0
  have hl : (L ++ [z]).length = L.length + 1 := by simp
  rw [hl] at e h4
  subst e
  have hc : ∀ q, q < L.length + 1 → w.cell? ⟨g, q, none⟩ = some (.int .i64 (Bs.iz (L ++ [z]) q)) := fun q hq => by
    obtain ⟨g', e, _, _, h5, _⟩ := Bs.OZ.at h' q (by omega)
    simp only [Option.some.injEq, Addr.mk.injEq, and_true] at e
    subst e
    exact h5
  refine ⟨g, cap, rfl, h4, h2, (Array.getElem?_eq_some_iff.1 h3).1, ?_, _, cap, rfl, (fun h => by cases h), ?_⟩
  · rw [hc L.length (by omega)]
    simp [Bs.iz, List.getD]
  · by_cases hL : L = []
    · exact .inl hL
    · refine .inr ⟨g, 0, rfl, (Array.getElem?_eq_some_iff.1 h3).1, fun i hi => ?_⟩
      rw [Nat.zero_add, hc i (by omega)]
      simp [Bs.iz, List.getD, List.getElem?_append_left hi]
theorem one_new (w : World) (x : UInt8) (y : Int) (h : (x.toNat : Int) = y) : ∀ q u, (Lib.byteCells [x])[q]? = some u → (w.alloc (.cells #[.int .u8 y] 5)).cell? ((⟨w.heap.size, 0, none⟩ : Addr).add q) = some u := fun q u hu => by
  subst h
  rw [Addr.add_mid, Nat.zero_add]
  have := heapNew w (.cells #[.int .u8 (x.toNat : Int)] 5)
  simp only [World.cell?, this]
  have e : (#[Value.int .u8 (x.toNat : Int)])[q]? = (Lib.byteCells [x])[q]? := by
    rw [← Array.getElem?_toList]; rfl
  rw [e]; exact hu
/-- one more mark -/
theorem append_mk1 {ops : Array Oper} {rest : List Oper} {o : Oper} {a : Act} {Q : Exit → Act → World → Prop} {w1 w3 w : World} {B : Nat} {vs : List Value} {L : List (List UInt8)} {mk : Nat → List UInt8} {j t : Nat} {ms : List Value} {zv gv : Value} (hgd : o.guard = none) (s x : Operand)
    (ho : o.op = .call { callee := .builtin .append, args := #[s, x], argTypes := #[31, 31] }) (hs : a.eval s = zv) (h : CG w1 w3 B vs L mk j ms zv (List.replicate t (UInt8.ofNat j)) w ∧ w.ownsRow w1.heap.size 31 1 gv j ms) (hj : j < L.length) (ht : t ≤ 64) (hl : (L.getD j []).length ≤ 1048576) (hB : B ≤ w.heap.size) (hx : a.eval x = .slice (some ⟨w.heap.size, 0, none⟩) 1 1)
    (K : ∀ v' w', CG w1 w3 B vs L mk j ms v' (List.replicate (t + 1) (UInt8.ofNat j)) w' ∧ w'.ownsRow w1.heap.size 31 1 gv j ms → wpList Tryz.prog ops Q rest (a.put o.dst v') w') : wpList Tryz.prog ops Q (o :: rest) a (w.alloc (.cells #[.int .u8 ((j : Int) % 256)] 5)) := by
  obtain ⟨i5, hi5, hz0, hz1, hz2⟩ := info_parts info5b
  have bA : Below w.heap.size w (w.alloc (.cells #[.int .u8 ((j : Int) % 256)] 5)) := (Below.refl _ _).alloc (Nat.le_refl _) _
  have hc := h.1.below (Nat.le_of_lt hj) bA
  have hr := rowFr h.2 (Fm.Fr.of_below (S := fun _ => True) bA) (fun _ _ => trivial)
  have hlen : (L.getD j [] ++ List.replicate t (UInt8.ofNat j)).length = (L.getD j []).length + t := by rw [List.length_append, List.length_replicate]
  refine append_bothL i5 _ 1 hgd s x ho Tryz.underlying31 hi5 hz0 hz1 hz2 rfl (by omega) (m := 1) (by omega) hs hc.ow ⟨w.heap.size, 0, none⟩ 1 hx (us := Lib.byteCells [UInt8.ofNat j]) (by rw [bcl_len]; rfl) (one_new w _ _ (u8v j)) (Lib.byteCells_one _) (Nat.le_trans hB bA.size) (by unfold maxLen; omega) (by omega) (fun v' w' r1 r2 r3 r4 => K v' w' ⟨?_, rowKeep hr r3 hc.ow⟩)
  have := hc.step hj [UInt8.ofNat j] v' r1 r2 r3 r4
  rwa [← List.replicate_succ'] at this
theorem load_state_if {ops : Array Oper} {rest : List Oper} {o : Oper} {a : Act} {w : World} {Q : Exit → Act → World → Prop} (hw : Region.wanted o (yielded ops a.tmps) = true) (x : Operand) (ho : o.op = .load 43 x)
    (g : Nat) (hx : a.eval x = .pointer (some ⟨g, 0, none⟩)) (cs : Array Value) (hg : SV w g cs) (hz : cs.size = 8)
    (h : wpList Tryz.prog ops Q rest (a.put o.dst (.agg cs)) w) : wpList Tryz.prog ops Q (o :: rest) a w := by
  unfold wpList
  rw [if_pos hw]
  exact .inl (wp_load_row 43 x ho g hx 43 cs (0, 0) _ hg Tryz.underlying43 rfl (by rw [hz]; exact st_info) h)
theorem CN.new {w : World} {g R : Nat} {P : Pv} {L : List Int} {H : List UInt8} {Z : Nat → Prop} (h : FP w g R P L H 2 0 [] (.slice none 0 0)) (hsh : P.sh = false) (zg : Z g) (zR : Z R) (zl : ∀ k, P.ln.ownBlock = some k → Z k) (zh : ∀ k, P.hs.ownBlock = some k → Z k) : CN w g R P H Z 0 ∧ CA w g R P H Z 0 L 2 0 [] (.slice none 0 0) ⟨P.ic, P.ii, P.ib, H⟩ [] [] := by
  have c : CA w g R P H Z 0 L 2 0 [] (.slice none 0 0) ⟨P.ic, P.ii, P.ib, H⟩ [] [] := ⟨h, zR, zl, fun k hk => absurd hk (nd k), by rw [hsh]; exact Acc.start _ _ _ _, Nat.le_refl _⟩
  exact ⟨⟨h.pk, zg, h.b0, h.ho, zh, h.hl, fun _ => ⟨L, 2, 0, [], _, _, [], [], c⟩⟩, c⟩
set_option maxHeartbeats 8000000 in
set_option maxRecDepth 100000 in
theorem keptLaw (w : World) (hkt : KT w) (hmt : Bs.MT w) (b v : Int) (hb0 : List UInt8) (h320 : hb0.length = 32) (lv : Value) (L : List Int) (hl : L.length ≤ 1048576) (hr : Bs.RZ w lv L) (bv : Value) (l : List UInt8) (hb : RB w bv l) (hll : l.length ≤ 1048576) (cv : Value) (lc : List UInt8) (hc : RB w cv lc) (hlc : lc.length ≤ 1048576) :
    Calls Tryz.prog 8 #[Bs.sc b v, .agg (bc hb0), lv, bv, cv] w fun e w' => e = .returned (.bool true) ∧ Below w.heap.size w w' := by
  have HA : Hid (∀ u, Below w.heap.size w u → Calls Tryz.prog 9 #[] u fun e w' => e = .returned (.bool true) ∧ Below u.heap.size u w') := fun u hu => awakeT u (hkt.below hu hkt.pos) (hmt.keep hu)
  have HSd : Hid (∀ u, Below w.heap.size w u → Calls Tryz.prog 29 #[Bs.sc b v, .agg (bc hb0), lv] u fun e w' => e = .returned (.bool true) ∧ Below u.heap.size u w') := fun u hu => saidT u (hkt.below hu hkt.pos) (hmt.keep hu) b v hb0 h320 lv L (by omega) (hr.keep hu)
  have HC0 := Lib.hid (And.intro hkt (And.intro hmt (And.intro hr (And.intro hb hc))))
  obtain ⟨la, lcp, elv, _⟩ := id hr
  obtain ⟨ba, bcp, ebv, _⟩ := id hb
  obtain ⟨ca, ccp, ecv, _⟩ := id hc
  subst elv ebv ecv
  clear hkt hmt hr hb hc
  generalize hn : L.length = n at *
  have HN := Lib.hid hn
  clear hn
  generalize hm : l.length = m at *
  have HM := Lib.hid hm
  clear hm
  generalize hm : lc.length = mc at *
  have HMC := Lib.hid hm
  clear hm
  go_enter Tryz.func8, Tryz.ntmps8
  go_wp2_with fail
  obtain ⟨u0, hu0⟩ : ∃ x, x = (w.alloc (Obj.cells #[Value.int IntKind.i64 b, Value.int IntKind.i64 v] 23)).alloc (Obj.cells (bc hb0) 25) := ⟨_, rfl⟩
  have B0 : Hid (Below w.heap.size w u0) := by
    rw [hu0]
    exact ((Below.refl _ _).alloc (Nat.le_refl _) _).alloc (by simp) _
  rw [← hu0]
  refine (HA.out u0 B0.out).mono ?_
  rintro e w1 ⟨rfl, b1⟩
  have hs0 : u0.heap[w.heap.size]? = some (.cells #[.int .i64 b, .int .i64 v] 23) ∧ u0.heap[w.heap.size + 1]? = some (.cells (bc hb0) 25) ∧ u0.heap.size = w.heap.size + 2 := by
    rw [hu0]
    exact twoQ w _ _
  have HS1 : Hid (w1.heap[w.heap.size]? = some (.cells #[.int .i64 b, .int .i64 v] 23) ∧ w1.heap[w.heap.size + 1]? = some (.cells (bc hb0) 25)) := ⟨(b1.block _ (by omega)).trans hs0.1, (b1.block _ (by omega)).trans hs0.2.1⟩
  have B1 : Hid (Below w.heap.size w w1) := B0.out.trans (b1.mono B0.out.size)
  have hsc := HS1.out.1
  have hsh := HS1.out.2
  have c0 : w1.cell? ⟨w.heap.size, 0, none⟩ = some (.int .i64 b) := by unfold World.cell?; simp only [hsc]; rfl
  have c1 : w1.cell? ⟨w.heap.size, 1, none⟩ = some (.int .i64 v) := by unfold World.cell?; simp only [hsc]; rfl
  clear b1 hs0 hu0 HA hsc
  go_wp2_with (first | (refine load_hash_if rfl _ rfl (w.heap.size + 1) rfl hb0 hsh h320 ?_))
  refine (HSd.out w1 B1.out).mono ?_
  rintro e w2 ⟨rfl, b2⟩
  have B2 : Hid (Below w.heap.size w w2) := B1.out.trans (b2.mono B1.out.size)
  have HS2 : Hid (w2.heap[w.heap.size]? = some (.cells #[.int .i64 b, .int .i64 v] 23) ∧ w2.heap[w.heap.size + 1]? = some (.cells (bc hb0) 25)) := ⟨(b2.block _ (Array.getElem?_eq_some_iff.1 HS1.out.1).1).trans HS1.out.1, (b2.block _ (Array.getElem?_eq_some_iff.1 HS1.out.2).1).trans HS1.out.2⟩
  have HN0 : Hid (Bs.OZ w2.heap.size w2 (.slice none 0 0) [] ∧ Bs.RZ w2 (.slice la n lcp) L) := ⟨World.ownsRow_nil _ _ _ _, HC0.out.2.2.1.keep B2.out⟩
  clear b2 hsh c0 c1 HS1 HSd
  go_upto_region 10 with (first
    | (at_builtin; refine Bs.append_ints rfl _ _ rfl rfl HN0.out.1 rfl HN0.out.2 (Nat.le_refl _) (by rw [HN.out, List.length_nil]; omega) ?_; intro v3 w3 r1 r2; rw [List.nil_append] at r1; have bA : Below w3.heap.size w3 (w3.alloc (.cells #[.int .i64 (-5)] 3)) := (Below.refl _ _).alloc (Nat.le_refl _) _; obtain ⟨a3, c3, ev3⟩ := r1.form; rw [HN.out] at ev3; subst ev3; have HZ3 : Hid (Bs.OZ w2.heap.size (w3.alloc (.cells #[.int .i64 (-5)] 3)) (.slice a3 n c3) L ∧ Bs.RZ (w3.alloc (.cells #[.int .i64 (-5)] 3)) (.slice (some ⟨w3.heap.size, 0, none⟩) 1 1) [-5] ∧ Below w2.heap.size w2 (w3.alloc (.cells #[.int .i64 (-5)] 3))) := ⟨Bs.OZ.grow r1 bA, rz_one w3 (-5), r2.trans (bA.mono r2.size)⟩; clear r1 r2 bA HN0)
    | (at_builtin; refine Bs.append_ints rfl _ _ rfl rfl HZ3.out.1 rfl HZ3.out.2.1 HZ3.out.2.2.size (by rw [HN.out]; simp; omega) ?_; intro v4 w4 s1 s2; obtain ⟨gi, ic, ev4, hic, hgi, hgs, hm5, hrz⟩ := OZ.part s1; rw [HN.out] at ev4 hic hm5 hrz; subst ev4; have HZ4 : Hid (Bs.OZ w2.heap.size w4 (.slice (some ⟨gi, 0, none⟩) (n + 1) ic) (L ++ [-5]) ∧ w2.heap.size ≤ gi ∧ gi < w4.heap.size ∧ w4.cell? ⟨gi, n, none⟩ = some (.int .i64 (-5)) ∧ Bs.RZ w4 (.slice (some ⟨gi, 0, none⟩) n ic) L ∧ Below w2.heap.size w2 w4) := ⟨s1, hgi, hgs, hm5, hrz, HZ3.out.2.2.trans s2⟩; clear s1 s2 hgi hgs hm5 hrz HZ3))
  have B4 : Hid (Below w.heap.size w w4) := B2.out.trans (HZ4.out.2.2.2.2.2.mono B2.out.size)
  have HS4 : Hid (w4.heap[w.heap.size]? = some (.cells #[.int .i64 b, .int .i64 v] 23) ∧ w4.heap[w.heap.size + 1]? = some (.cells (bc hb0) 25)) := ⟨(HZ4.out.2.2.2.2.2.block _ (Array.getElem?_eq_some_iff.1 HS2.out.1).1).trans HS2.out.1, (HZ4.out.2.2.2.2.2.block _ (Array.getElem?_eq_some_iff.1 HS2.out.2).1).trans HS2.out.2⟩
  have HN1 := Lib.hid (newP b v hb0 h320 (.slice (some ⟨gi, 0, none⟩) n ic) L w4 (by rw [HN.out]; omega) HZ4.out.2.2.2.2.1 (HC0.out.1.below B4.out HC0.out.1.pos) (HC0.out.2.1.keep B4.out))
  have hsc := HS4.out.1
  have hsh := HS4.out.2
  have c0 : w4.cell? ⟨w.heap.size, 0, none⟩ = some (.int .i64 b) := by unfold World.cell?; simp only [hsc]; rfl
  have c1 : w4.cell? ⟨w.heap.size, 1, none⟩ = some (.int .i64 v) := by unfold World.cell?; simp only [hsc]; rfl
  clear hsc HS2
  go_wp2_with (first | (refine load_hash_if rfl _ rfl (w.heap.size + 1) rfl hb0 hsh h320 ?_))
  refine HN1.out.mono ?_
  rintro e w5 ⟨p, rfl, hpp, b5, hnew⟩
  have B5 : Hid (Below w.heap.size w w5) := B4.out.trans (b5.mono B4.out.size)
  have HS5 : Hid (w5.heap[w.heap.size]? = some (.cells #[.int .i64 b, .int .i64 v] 23) ∧ w5.heap[w.heap.size + 1]? = some (.cells (bc hb0) 25)) := ⟨(b5.block _ (Array.getElem?_eq_some_iff.1 HS4.out.1).1).trans HS4.out.1, (b5.block _ (Array.getElem?_eq_some_iff.1 HS4.out.2).1).trans HS4.out.2⟩
  have HN2 := Lib.hid (newP b v hb0 h320 (.slice la n lcp) L w5 (by rw [HN.out]; omega) (HC0.out.2.2.1.keep B5.out) (HC0.out.1.below B5.out HC0.out.1.pos) (HC0.out.2.1.keep B5.out))
  have HW5 := Lib.hid (And.intro hpp (And.intro b5 hnew))
  have hsc := HS5.out.1
  have hsh2 := HS5.out.2
  have c2 : w5.cell? ⟨w.heap.size, 0, none⟩ = some (.int .i64 b) := by unfold World.cell?; simp only [hsc]; rfl
  have c3 : w5.cell? ⟨w.heap.size, 1, none⟩ = some (.int .i64 v) := by unfold World.cell?; simp only [hsc]; rfl
  clear hsc hsh c0 c1 hpp b5 hnew HN1 HS4
  go_wp2_with (first | (refine load_hash_if rfl _ rfl (w.heap.size + 1) rfl hb0 hsh2 h320 ?_))
  refine HN2.out.mono ?_
  rintro e w6 ⟨p', rfl, hpp', b6, hnew'⟩
  have B6 : Hid (Below w.heap.size w w6) := B5.out.trans (b6.mono B5.out.size)
  clear HN2 HS5 hsh2 c2 c3
  by_cases hE : nwE b v L = 0
  · obtain ⟨g, R, P, rfl, hg, hf, hi, hpb, hsh0, hwc, hwi, hwb, hic0, hii, hib, hzl, hzh⟩ := HW5.out.2.2 hE
    obtain ⟨g', R', P', rfl, hg', hf', hi', hpb', hsh0', hwc', hwi', hwb', hic', hii', hib', hzl', hzh'⟩ := hnew' hE
    rw [hE]
    generalize hHH : List.replicate ((L.length + 7) / 8) (0 : UInt8) = HH at *
    have HX5 : Hid (w4.heap.size ≤ g ∧ FP w5 g R P L HH 2 0 [] (.slice none 0 0) ∧ (∀ k, P.ln.ownBlock = some k → w4.heap.size ≤ k) ∧ (∀ k, P.hs.ownBlock = some k → w4.heap.size ≤ k) ∧ Below w4.heap.size w4 w5) := ⟨hg, hf, hzl, hzh, HW5.out.2.1⟩
    have HX6 : Hid (w5.heap.size ≤ g' ∧ FP w6 g' R' P' L HH 2 0 [] (.slice none 0 0) ∧ (∀ k, P'.ln.ownBlock = some k → w5.heap.size ≤ k) ∧ (∀ k, P'.hs.ownBlock = some k → w5.heap.size ≤ k) ∧ Below w5.heap.size w5 w6) := ⟨hg', hf', hzl', hzh', b6⟩
    have HPP : Hid ((P.info = P'.info ∧ P.b = P'.b ∧ P.wc = P'.wc ∧ P.wi = P'.wi ∧ P.ic = P'.ic ∧ P.ii = P'.ii ∧ P.ib = P'.ib) ∧ P.sh = false ∧ P'.sh = false) := ⟨⟨by rw [hi, hi'], by rw [hpb, hpb'], by rw [hwc, hwc'], by rw [hwi, hwi'], by rw [hic0, hic'], by rw [hii, hii'], by rw [hib, hib']⟩, hsh0, hsh0'⟩
    have hm5 : w6.cell? ⟨gi, n, none⟩ = some (.int .i64 (-5)) := by
      have h1 := HZ4.out.2.2.1
      have h2 := HX5.out.2.2.2.2
      rw [b6.cell (by show gi < _; have := h2.size; omega), h2.cell (by exact h1)]
      exact HZ4.out.2.2.2.1
    have hic2 : n < ic := by omega
    clear hg hf hi hpb hsh0 hwc hwi hwb hic0 hii hib hzl hzh hg' hf' hi' hpb' hsh0' hwc' hwi' hwb' hic' hii' hib' hzl' hzh' hpp' hnew' hE HW5 b6 hHH
    go_wp2_with (first | (go_at_call 11; refine (numLT _ _).mono ?_; rintro e w9 ⟨rfl, rfl⟩))
    have HZ6 : Hid ((∃ zs : List Int, zs.length = n + 1 ∧ Bs.OZ 0 w6 (.slice (some ⟨gi, 0, none⟩) (n + 1) ic) zs) ∧ Fm.Fr (fun k => k ≠ gi) w6 w6 ∧ w6.heap.size = w6.heap.size) := ⟨⟨L ++ [-5], by simp [HN.out], own0 (Bs.OZ.grow (Bs.OZ.grow HZ4.out.1 HX5.out.2.2.2.2) HX6.out.2.2.2.2)⟩, Fm.Fr.refl _ _, rfl⟩
    clear hm5
    go_loopw [17] (fun t wr => ∃ i : Nat, i ≤ n ∧ t = .int .i64 i ∧ Hid ((∃ zs : List Int, zs.length = n + 1 ∧ Bs.OZ 0 wr (.slice (some ⟨gi, 0, none⟩) (n + 1) ic) zs) ∧ Fm.Fr (fun k => k ≠ gi) w6 wr ∧ wr.heap.size = w6.heap.size)) (fun t _ => n - (intOf t).toNat)
    case atStart => exact ⟨0, Nat.zero_le _, rfl, HZ6⟩
    case round =>
      clear HZ6
      obtain ⟨i, hi, rfl, HI⟩ := hrel
      by_cases hlt : i < n
      · as_aux_lemma =>
        obtain ⟨⟨zs, hzs, ho⟩, hf, hz⟩ := HI.out
        obtain ⟨gi', e, _, hgs, hcx, hfx⟩ := Bs.OZ.at ho i (by omega)
        simp only [Option.some.injEq, Addr.mk.injEq, and_true] at e
        subst e
        have HI2 : Hid ((∃ zs : List Int, zs.length = n + 1 ∧ Bs.OZ 0 (wr.setCell ⟨gi, i, none⟩ (.int .i64 1)) (.slice (some ⟨gi, 0, none⟩) (n + 1) ic) zs) ∧ Fm.Fr (fun k => k ≠ gi) w6 (wr.setCell ⟨gi, i, none⟩ (.int .i64 1)) ∧ (wr.setCell ⟨gi, i, none⟩ (.int .i64 1)).heap.size = w6.heap.size) := ⟨⟨_, by rw [List.length_set]; exact hzs, Bs.OZ.stored ho i 1⟩, hf.setCell gi i _ (fun h => h rfl), by simpa using hz⟩
        clear HI ho hf hz hgs
        go_wp2
        exact ⟨⟨i + 1, by omega, by go_num, HI2⟩, by simp [intOf]; omega⟩
      · obtain ⟨w7, hw7⟩ : ∃ x, x = wr := ⟨_, rfl⟩
        subst hw7
        have hgi := HZ4.out.2.1
        have hgi2 := HZ4.out.2.2.1
        have f7 := HI.out.2.1
        have z7 := HI.out.2.2
        have z56 := HX6.out.2.2.2.2.size
        have hk1 : 1 < w2.heap.size := Nat.lt_of_lt_of_le HC0.out.1.pos B2.out.size
        have fp7 : FP w7 g R P L HH 2 0 [] (.slice none 0 0) := (HX5.out.2.1.below HX6.out.2.2.2.2).frZ f7 (by have := HX5.out.1; omega) (by have := HX5.out.1; have := HX5.out.2.1.gR; omega) (by omega) (by omega) (fun k hk => by have := HX5.out.2.2.1 k hk; omega) (fun k hk => by have := HX5.out.2.2.2.1 k hk; omega) (fun k hk => absurd hk (nd k))
        have fq7 : FP w7 g' R' P' L HH 2 0 [] (.slice none 0 0) := HX6.out.2.1.frZ f7 (by have := HX6.out.1; have := HX5.out.2.2.2.2.size; omega) (by have := HX6.out.1; have := HX6.out.2.1.gR; have := HX5.out.2.2.2.2.size; omega) (by omega) (by omega) (fun k hk => by have := HX6.out.2.2.1 k hk; have := HX5.out.2.2.2.2.size; omega) (fun k hk => by have := HX6.out.2.2.2.1 k hk; have := HX5.out.2.2.2.2.size; omega) (fun k hk => absurd hk (nd k))
        have B7 : Hid (Below w.heap.size w w7) := below_fr B6.out f7 B6.out.size (fun k hk => by have := B2.out.size; omega)
        have HP7 : Hid ((CN w7 g R P HH (fun k => w4.heap.size ≤ k ∧ k < w5.heap.size) 0 ∧ CA w7 g R P HH (fun k => w4.heap.size ≤ k ∧ k < w5.heap.size) 0 L 2 0 [] (.slice none 0 0) ⟨P.ic, P.ii, P.ib, HH⟩ [] []) ∧ (CN w7 g' R' P' HH (fun k => w5.heap.size ≤ k ∧ k < w6.heap.size) 0 ∧ CA w7 g' R' P' HH (fun k => w5.heap.size ≤ k ∧ k < w6.heap.size) 0 L 2 0 [] (.slice none 0 0) ⟨P'.ic, P'.ii, P'.ib, HH⟩ [] [])) := by
          have h1 := HX5.out.2.1.gR
          have h2 := HX5.out.2.1.rk.lt
          have h3 := HX5.out.1
          have h4 := HX6.out.2.1.gR
          have h5 := HX6.out.2.1.rk.lt
          have h6 := HX6.out.1
          exact ⟨CN.new fp7 HPP.out.2.1 ⟨by omega, by omega⟩ ⟨by omega, by omega⟩ (fun k hk => ⟨HX5.out.2.2.1 k hk, (own_ge HX5.out.2.1.lo hk).2⟩) (fun k hk => ⟨HX5.out.2.2.2.1 k hk, (own_ge HX5.out.2.1.ho hk).2⟩), CN.new fq7 HPP.out.2.2 ⟨by omega, by omega⟩ ⟨by omega, by omega⟩ (fun k hk => ⟨HX6.out.2.2.1 k hk, (own_ge HX6.out.2.1.lo hk).2⟩) (fun k hk => ⟨HX6.out.2.2.2.1 k hk, (own_ge HX6.out.2.1.ho hk).2⟩)⟩
        have HZS : Hid (1 < w4.heap.size ∧ w.heap.size ≤ w4.heap.size ∧ w4.heap.size ≤ w5.heap.size ∧ w5.heap.size ≤ w6.heap.size ∧ w6.heap.size = w7.heap.size) := ⟨Nat.lt_of_lt_of_le hk1 HZ4.out.2.2.2.2.2.size, B4.out.size, HX5.out.2.2.2.2.size, z56, z7.symm⟩
        have HNB : Hid (OW w7.heap.size w7 (.slice none 0 0) [] ∧ RB w7 (.slice ba m bcp) l) := ⟨World.ownsRow_nil _ _ _ _, HC0.out.2.2.2.1.keep B7.out⟩
        clear hgi hgi2 f7 z7 z56 hk1 fp7 fq7 HI HX5 HX6 HZ4 B6 B5 B4 B2 B1 B0 hic hic2
        go_upto_region 22 with (at_builtin; refine append_bytes rfl _ _ rfl rfl HNB.out.1 rfl HNB.out.2 (Nat.le_refl _) (by rw [HM.out]; simp; omega) ?_; intro v8 w8 r1 r2; rw [List.nil_append] at r1; obtain ⟨ta, tn, tc, rfl⟩ := r1.form3; have HT8 : Hid (OW w7.heap.size w8 (.slice ta tn tc) l ∧ Below w7.heap.size w7 w8) := ⟨r1, r2⟩; clear r1 r2 HNB)
        clear hlt hi
        have HFd := Lib.hid (feedT w8 g R P L HH 2 0 [] (.slice none 0 0) (HP7.out.1.2.fp.below HT8.out.2) (.slice ta tn tc) l (Fm.rn_free HT8.out.1.rb) (by rw [HM.out]; omega))
        have HCA8 : Hid (CA w8 g R P HH (fun k => w4.heap.size ≤ k ∧ k < w5.heap.size) 0 L 2 0 [] (.slice none 0 0) ⟨P.ic, P.ii, P.ib, HH⟩ [] []) := ⟨HP7.out.1.2.fp.below HT8.out.2, HP7.out.1.2.zR, HP7.out.1.2.zl, HP7.out.1.2.zv, HP7.out.1.2.acc, HP7.out.1.2.al⟩
        go_wp2_with fail
        refine HFd.out.mono ?_
        intro e w9 hx
        obtain ⟨ev, fin, es, met, xs, q1, P1, rfl, e9, nd9, eh9, tl9, sd9, ln9, cn9, f9⟩ := HCA8.out.after HP7.out.1.1.zg HP7.out.1.1.zh (m := 1048576) (by rw [HM.out]; exact hll) hx
        rw [List.nil_append] at eh9 tl9 ln9
        obtain ⟨ea, ec, rfl⟩ := e9.form
        have HF9 := Lib.hid (And.intro e9 (And.intro nd9 (And.intro eh9 (And.intro tl9 (And.intro sd9 (And.intro ln9 (And.intro cn9 f9)))))))
        have HSt := Lib.hid cn9.state
        have HNE : Hid (es.length = es.length) := rfl
        generalize hnE : es.length = nE at HNE HF9 ⊢
        have HNE2 : Hid (es.length = nE) := hnE
        clear hx e9 nd9 eh9 tl9 sd9 ln9 cn9 f9 hnE HNE HFd HCA8
        go_wp2_with fail
        refine HSt.out.mono ?_
        rintro e w10 ⟨v10, rfl, o10, b10⟩
        obtain ⟨sa, sn, sc, rfl⟩ := o10.form3
        have bA : Below w10.heap.size w10 (w10.alloc (.cells #[.bool P1.sh, .bool (P1.why != 0), .int .i64 P1.why, .bool P1.wc, .bool P1.wi, .bool P1.ic, .bool P1.ii, .slice sa sn sc] 43)) := (Below.refl _ _).alloc (Nat.le_refl _) _
        obtain ⟨w11, hw11⟩ : ∃ x, x = w10.alloc (.cells #[.bool P1.sh, .bool (P1.why != 0), .int .i64 P1.why, .bool P1.wc, .bool P1.wi, .bool P1.ic, .bool P1.ii, .slice sa sn sc] 43) := ⟨_, rfl⟩
        rw [← hw11] at bA
        have hSV : SV w11 w10.heap.size #[.bool P1.sh, .bool (P1.why != 0), .int .i64 P1.why, .bool P1.wc, .bool P1.wi, .bool P1.ic, .bool P1.ii, .slice sa sn sc] := by rw [hw11]; exact heapNew _ _
        have HT11 : Hid (OW w9.heap.size w10 (.slice sa sn sc) q1.H ∧ Below w9.heap.size w9 w10 ∧ Below w10.heap.size w10 w11 ∧ SV w11 w10.heap.size #[.bool P1.sh, .bool (P1.why != 0), .int .i64 P1.why, .bool P1.wc, .bool P1.wi, .bool P1.ic, .bool P1.ii, .slice sa sn sc]) := ⟨o10, b10, bA, hSV⟩
        have B11 : Hid (Below w.heap.size w w11) := by
          have h1 := HZS.out
          have h2 : Below w.heap.size w w8 := B7.out.trans (HT8.out.2.mono B7.out.size)
          have h3 : Below w.heap.size w w9 := below_fr h2 HF9.out.2.2.2.2.2.2.2 h2.size (fun k hk => by omega)
          have h4 : Below w.heap.size w w10 := h3.trans (b10.mono h3.size)
          exact h4.trans (bA.mono h4.size)
        have fq11 : Hid (FP w11 g' R' P' L HH 2 0 [] (.slice none 0 0)) := by
          have h1 := HZS.out
          have h2 := (HP7.out.2.2.fp.below HT8.out.2)
          have cz := HP7.out.2.2
          have cz1 := HP7.out.2.1
          have h3 : FP w9 g' R' P' L HH 2 0 [] (.slice none 0 0) := h2.frZ HF9.out.2.2.2.2.2.2.2 (by have := cz1.zg; omega) (by have := cz.zR; omega) (by omega) (by omega) (fun k hk => by have := cz.zl k hk; omega) (fun k hk => by have := cz1.zh k hk; omega) (fun k hk => absurd hk (nd k))
          exact (h3.below b10).below bA
        have HW11 := Lib.hid hw11
        have HFd := Lib.hid (feedT w11 g' R' P' L HH 2 0 [] (.slice none 0 0) fq11.out (.slice ba m bcp) l (Fm.rn_free (HC0.out.2.2.2.1.keep B11.out)) (by rw [HM.out]; omega))
        have HCA11 : Hid (CA w11 g' R' P' HH (fun k => w5.heap.size ≤ k ∧ k < w6.heap.size) 0 L 2 0 [] (.slice none 0 0) ⟨P'.ic, P'.ii, P'.ib, HH⟩ [] []) := ⟨fq11.out, HP7.out.2.2.zR, HP7.out.2.2.zl, HP7.out.2.2.zv, HP7.out.2.2.acc, HP7.out.2.2.al⟩
        clear o10 b10 bA hw11 hSV HSt fq11
        go_upto_region 24 with fail
        rw [← HW11.out]
        go_wp2_with fail
        refine HFd.out.mono ?_
        intro e w12 hx
        obtain ⟨ev', fin', es', met', xs', q2, P2, rfl, e12, nd12, eh12, tl12, sd12, ln12, cn12, f12⟩ := HCA11.out.after HP7.out.2.1.zg HP7.out.2.1.zh (m := 1048576) (by rw [HM.out]; exact hll) hx
        rw [List.nil_append] at eh12 tl12 ln12
        obtain ⟨i1, i2, i3, i4, i5, i6, i7⟩ := HPP.out.1
        rw [← i1, ← i2, ← i5, ← i6, ← i7] at tl12
        obtain ⟨rfl, rfl, rfl, rfl⟩ := HF9.out.2.2.2.1.det tl12
        have hst : P2.sh = P1.sh ∧ P2.why = P1.why ∧ P2.wc = P1.wc ∧ P2.wi = P1.wi ∧ P2.ic = P1.ic ∧ P2.ii = P1.ii := by
          have a := HF9.out.2.2.2.2.1
          exact ⟨by rw [sd12.sh, a.sh], by rw [sd12.why, a.why], by rw [sd12.wc, a.wc, i3], by rw [sd12.wi, a.wi, i4], by rw [sd12.ic, a.ic], by rw [sd12.ii, a.ii]⟩
        obtain ⟨ea', ec', rfl⟩ := e12.form
        have HEQ : Hid (EvQ es es' ∧ es'.length = nE) := ⟨HF9.out.2.2.1.same eh12, by rw [← HNE2.out]; exact (HF9.out.2.2.1.same eh12).1.symm⟩
        have HF12 := Lib.hid (And.intro e12 (And.intro cn12 (And.intro f12 hst)))
        have HSt := Lib.hid cn12.state
        rw [HEQ.out.2] at HF12 ⊢
        clear hx e12 nd12 eh12 tl12 sd12 ln12 cn12 f12 hst i1 i2 i3 i4 i5 i6 i7 HFd HCA11 HW11
        go_wp2_with fail
        refine HSt.out.mono ?_
        rintro e w13 ⟨v13, rfl, o13, b13⟩
        obtain ⟨xa, xn, xc, rfl⟩ := o13.form3
        rw [HF12.out.2.2.2.1, HF12.out.2.2.2.2.1, HF12.out.2.2.2.2.2.1, HF12.out.2.2.2.2.2.2.1, HF12.out.2.2.2.2.2.2.2.1, HF12.out.2.2.2.2.2.2.2.2]
        have bA : Below w13.heap.size w13 (w13.alloc (.cells #[.bool P1.sh, .bool (P1.why != 0), .int .i64 P1.why, .bool P1.wc, .bool P1.wi, .bool P1.ic, .bool P1.ii, .slice xa xn xc] 43)) := (Below.refl _ _).alloc (Nat.le_refl _) _
        obtain ⟨w14, hw14⟩ : ∃ x, x = w13.alloc (.cells #[.bool P1.sh, .bool (P1.why != 0), .int .i64 P1.why, .bool P1.wc, .bool P1.wi, .bool P1.ic, .bool P1.ii, .slice xa xn xc] 43) := ⟨_, rfl⟩
        rw [← hw14] at bA
        have hSV : SV w14 w13.heap.size #[.bool P1.sh, .bool (P1.why != 0), .int .i64 P1.why, .bool P1.wc, .bool P1.wi, .bool P1.ic, .bool P1.ii, .slice xa xn xc] := by rw [hw14]; exact heapNew _ _
        have B14 : Hid (Below w.heap.size w w14) := by
          have h1 := HZS.out
          have h3 : Below w.heap.size w w12 := below_fr B11.out HF12.out.2.2.1 B11.out.size (fun k hk => by omega)
          have h4 : Below w.heap.size w w13 := h3.trans (b13.mono h3.size)
          exact h4.trans (bA.mono h4.size)
        obtain ⟨lab, hkx, hlab0, hox, hlab7⟩ := KX.make (s4 := w4.heap.size) (s5 := w5.heap.size) (s6 := w6.heap.size) HZS.out.1 HZS.out.2.2.1 HZS.out.2.2.2.1 (by have := HZS.out.2.2.2.2; have := HT8.out.2.size; omega) (by rw [HZS.out.2.2.2.2]; exact HT8.out.1) HF9.out.1 HF9.out.2.2.2.2.2.2.1 HF9.out.2.2.2.2.2.2.2 HT11.out.1 HT11.out.2.1 HT11.out.2.2.1 HT11.out.2.2.2 HF12.out.1 HF12.out.2.1 HF12.out.2.2.1 o13 b13 bA hSV
        have HK := Lib.hid (And.intro hkx (And.intro hlab0 (And.intro hox hlab7)))
        have HL1 : Hid (nE ≤ 1048577 ∧ (es.filterMap (fun e => e.x.m.d.ownBlock)).Nodup ∧ q2.H.length ≤ 140737488351232 ∧ w.heap.size ≤ w4.heap.size) := ⟨by have := HF9.out.2.2.2.2.2.1; omega, HF9.out.2.1, HF9.out.2.2.2.2.1.hl, HZS.out.2.1⟩
        have HW14 := Lib.hid hw14
        have HST := Lib.hid HF12.out.2.2.2
        clear o13 b13 bA hw14 hSV hkx hlab0 hox hlab7 HSt HT11 HT8 HF9 HF12 HP7 HPP
        go_upto_region 26 with fail
        rw [← HW14.out]
        have HES := Lib.hid (eventsSameT w14 0 0 (.slice ea nE ec) (.slice ea' nE ec') es es' HK.out.1.el HK.out.1.ek HEQ.out.1 (by have := HL1.out.1; have := HNE2.out; omega))
        clear HW14
        go_wp2_with (first | (go_at_call 11; refine (numLT _ _).mono ?_; rintro e w99 ⟨rfl, rfl⟩))
        refine HES.out.mono ?_
        rintro e w15 ⟨rfl, b15⟩
        have HK15 : Hid (KX lab w15 g R g' R' P1 P2 q2.H q2.H (0 + 1048576) (0 + 1048576) (.slice xa xn xc) q2.H w10.heap.size w13.heap.size #[.bool P1.sh, .bool (P1.why != 0), .int .i64 P1.why, .bool P1.wc, .bool P1.wi, .bool P1.ic, .bool P1.ii, .slice sa sn sc] #[.bool P1.sh, .bool (P1.why != 0), .int .i64 P1.why, .bool P1.wc, .bool P1.wi, .bool P1.ic, .bool P1.ii, .slice xa xn xc] (.slice sa sn sc) q2.H (.slice ea nE ec) (.slice ea' nE ec') es es') := HK.out.1.below b15
        have hv1 := HK15.out.ky.kz.s1
        have hv2 := HK15.out.ky.kz.s2
        have HSS := Lib.hid (stateSameT w15 P1.sh (P1.why != 0) P1.why P1.wc P1.wi P1.ic P1.ii (.slice sa sn sc) (.slice xa xn xc) q2.H HK15.out.ky.os.rb HK15.out.ky.kz.ot.rb HL1.out.2.2.1)
        have HB15 := Lib.hid b15
        clear b15 HES
        go_wp2_with (first | (refine load_state_if rfl _ rfl w10.heap.size rfl _ hv1 rfl ?_) | (refine load_state_if rfl _ rfl w13.heap.size rfl _ hv2 rfl ?_))
        refine HSS.out.mono ?_
        rintro e w16 ⟨rfl, b16⟩
        have HT16 : Hid (KX lab w16 g R g' R' P1 P2 q2.H q2.H (0 + 1048576) (0 + 1048576) (.slice xa xn xc) q2.H w10.heap.size w13.heap.size #[.bool P1.sh, .bool (P1.why != 0), .int .i64 P1.why, .bool P1.wc, .bool P1.wi, .bool P1.ic, .bool P1.ii, .slice sa sn sc] #[.bool P1.sh, .bool (P1.why != 0), .int .i64 P1.why, .bool P1.wc, .bool P1.wi, .bool P1.ic, .bool P1.ii, .slice xa xn xc] (.slice sa sn sc) q2.H (.slice ea nE ec) (.slice ea' nE ec') es es' ∧ (∀ k, k < w4.heap.size → lab k = 0) ∧ OW 0 w16 (.slice ta tn tc) l ∧ (∀ k, (Value.slice ta tn tc).ownBlock = some k → lab k = 7) ∧ Below w.heap.size w w16) := ⟨HK15.out.below b16, HK.out.2.1, (HK.out.2.2.1.grow HB15.out).grow b16, HK.out.2.2.2, (B14.out.trans (HB15.out.mono B14.out.size)).trans (b16.mono (Nat.le_trans B14.out.size HB15.out.size))⟩
        have HSp := Lib.hid (spoilBytesT w16 0 (.slice ta tn tc) l HT16.out.2.2.1 (by rw [HM.out]; omega))
        clear b16 HSS hv1 hv2 HK15 HB15 HK B14 B11
        go_wp2_with fail
        refine HSp.out.mono ?_
        rintro e w17 ⟨rfl, _, f17⟩
        have HK17 : Hid (KX lab w17 g R g' R' P1 P2 q2.H q2.H (0 + 1048576) (0 + 1048576) (.slice xa xn xc) q2.H w10.heap.size w13.heap.size #[.bool P1.sh, .bool (P1.why != 0), .int .i64 P1.why, .bool P1.wc, .bool P1.wi, .bool P1.ic, .bool P1.ii, .slice sa sn sc] #[.bool P1.sh, .bool (P1.why != 0), .int .i64 P1.why, .bool P1.wc, .bool P1.wi, .bool P1.ic, .bool P1.ii, .slice xa xn xc] (.slice sa sn sc) q2.H (.slice ea nE ec) (.slice ea' nE ec') es es' ∧ (∀ k, k < w4.heap.size → lab k = 0) ∧ Below w.heap.size w w17) := ⟨HT16.out.1.fr f17 (fun k hk e => by have := HT16.out.2.2.2.1 k e; omega), HT16.out.2.1, below_fr HT16.out.2.2.2.2 f17 HT16.out.2.2.2.2.size (fun k hk e => by have := HT16.out.2.2.2.1 k e; have := HT16.out.2.1 k (by have := HL1.out.2.2.2; omega); omega)⟩
        clear f17 HSp HT16
        go_wp2
        obtain ⟨i1, hi1, hy0, hy1, hy2⟩ := info_parts info31
        have HY := Lib.hid (And.intro hi1 (And.intro hy0 (And.intro hy1 hy2)))
        have HLE : Hid ((LE es).length = nE) := (by rw [← HNE2.out]; simp [LE] : (LE es).length = nE)
        clear hi1 hy0 hy1 hy2
        go_loopw [25, 26] (fun mv t wr => ∃ (i : Nat) (ms : List Value) (ma : Option Addr) (mcp : Nat), i ≤ nE ∧ t = .int .i64 i ∧ mv = .slice ma i mcp ∧ Hid (wr.ownsRow w17.heap.size 31 1 (.slice ma i mcp) i ms ∧ MF w17 0 (vsE es) (LE es) (fun k => List.replicate 64 (UInt8.ofNat k)) i ms wr)) (fun _ t _ => nE - (intOf t).toNat)
        case atStart => exact ⟨0, [], none, 0, Nat.zero_le _, rfl, rfl, World.ownsRow_nil _ _ _ _, MF.start _ (FL.ev HK17.out.1.el HL1.out.2.1)⟩
        case round =>
          obtain ⟨i, ms, ma, mcp, hi, rfl, rfl, HI⟩ := hrel
          obtain ⟨w3, hw3⟩ : ∃ x, x = wr := ⟨_, rfl⟩
          subst hw3
          by_cases hlt : i < nE
          · as_aux_lemma =>
            have hnb := HL1.out.1
            have hiL : i < (LE es).length := by rw [HLE.out]; exact hlt
            have kx3 := HK17.out.1.marks HI.out.2
            obtain ⟨e, he⟩ := get_ev (es := es) (j := i) (by rw [HNE2.out]; exact hlt)
            obtain ⟨G, rfl⟩ : ∃ G, ea = some ⟨G, 0, none⟩ := by
              rcases kx3.el.1.2 with ⟨h, _⟩ | ⟨G, cap, cur, h, _⟩
              · simp only [Value.slice.injEq] at h; omega
              · simp only [Value.slice.injEq] at h; exact ⟨G, h.1⟩
            have oe := kx3.el.2 e (List.mem_of_getElem? he)
            have cd : w3.cell? ⟨G, i * 61 + 25, none⟩ = some e.x.m.d := kx3.el.at HNE2.out.symm he 25 _ (Ev.g25 oe.pr)
            obtain ⟨da, dn, dc, ed⟩ := oe.mg.d.form3
            have HCG : Hid ((CG w17 w3 0 (vsE es) (LE es) (fun k => List.replicate 64 (UInt8.ofNat k)) i ms (.slice da dn dc) (List.replicate 0 (UInt8.ofNat i)) w3 ∧ w3.ownsRow w17.heap.size 31 1 (.slice ma i mcp) i ms)) := by
              have := CG.start HI.out.2 hiL
              rw [vsE_at he, ed] at this
              exact ⟨this, HI.out.1⟩
            have HDL : Hid (((LE es).getD i []).length ≤ 1048576) := by rw [LE_at he]; exact Nat.le_trans oe.mg.dl (by decide)
            have HJL := Lib.hid hiL
            rw [ed] at cd
            clear kx3 oe he ed hiL HI
            go_wp2_with (at_builtin; refine append_mk1 rfl _ _ rfl rfl HCG.out HJL.out (by omega) HDL.out (Nat.zero_le _) rfl ?_; intro v5 w5 r1; obtain ⟨ya, yn, yc, rfl⟩ := r1.1.ow.form3; have HZ : Hid (CG w17 w3 0 (vsE es) (LE es) (fun k => List.replicate 64 (UInt8.ofNat k)) i ms (.slice ya yn yc) (List.replicate (0 + 1) (UInt8.ofNat i)) w5 ∧ w5.ownsRow w17.heap.size 31 1 (.slice ma i mcp) i ms) := r1; clear r1)
            go_loopw [27, 28] (fun zv t wr => ∃ (k : Nat) (za : Option Addr) (zn zc : Nat), 1 ≤ k ∧ k ≤ 64 ∧ t = .int .i64 k ∧ zv = .slice za zn zc ∧ Hid (CG w17 w3 0 (vsE es) (LE es) (fun k => List.replicate 64 (UInt8.ofNat k)) i ms (.slice za zn zc) (List.replicate k (UInt8.ofNat i)) wr ∧ wr.ownsRow w17.heap.size 31 1 (.slice ma i mcp) i ms)) (fun _ t _ => 64 - (intOf t).toNat)
            case atStart => exact ⟨1, ya, yn, yc, by omega, by omega, rfl, rfl, HZ⟩
            case round =>
              obtain ⟨k, za, zn, zc, hk1, hk, rfl, rfl, HK⟩ := hrel
              by_cases hkl : k < 64
              · go_wp2_with (at_builtin; refine append_mk1 rfl _ _ rfl rfl HK.out HJL.out hk HDL.out (Nat.zero_le _) rfl ?_; intro v6 w6 r1; obtain ⟨xa2, xn2, xc2, rfl⟩ := r1.1.ow.form3; have HX : Hid (CG w17 w3 0 (vsE es) (LE es) (fun k => List.replicate 64 (UInt8.ofNat k)) i ms (.slice xa2 xn2 xc2) (List.replicate (k + 1) (UInt8.ofNat i)) w6 ∧ w6.ownsRow w17.heap.size 31 1 (.slice ma i mcp) i ms) := r1; clear r1)
                exact ⟨⟨k + 1, xa2, xn2, xc2, by omega, by omega, by go_num, rfl, HX⟩, by simp [intOf]; omega⟩
              · obtain rfl : k = 64 := by omega
                obtain ⟨w4', hw4⟩ : ∃ x, x = wr := ⟨_, rfl⟩
                subst hw4
                have bA : Below w4'.heap.size w4' (w4'.alloc (.cells #[.slice za zn zc] 31)) := (Below.refl _ _).alloc (Nat.le_refl _) _
                have HD : Hid (MF w17 0 (vsE es) (LE es) (fun k => List.replicate 64 (UInt8.ofNat k)) (i + 1) (ms ++ [.slice za zn zc]) (w4'.alloc (.cells #[.slice za zn zc] 31)) ∧ (w4'.alloc (.cells #[.slice za zn zc] 31)).ownsRow w17.heap.size 31 1 (.slice ma i mcp) i ms) := ⟨(CG.done HK.out.1).below HJL.out bA, rowFr HK.out.2 (Fm.Fr.of_below (S := fun _ => True) bA) (fun _ _ => trivial)⟩
                have HSZ : Hid (w17.heap.size ≤ (w4'.alloc (.cells #[.slice za zn zc] 31)).heap.size) := HD.out.1.fr.size
                clear HK bA
                go_wp2_with (at_builtin; refine wpList_append_own _ rfl _ _ 74 rfl w17.heap.size 31 i1 _ 1 24 Tryz.underlying74 HY.out.1 HY.out.2.1 HY.out.2.2.1 HY.out.2.2.2 rfl (by omega) _ i ms rfl HD.out.2 ⟨w4'.heap.size, 0, none⟩ 1 1 [.slice za zn zc] rfl rfl (cell_one_new _ _ _) (by simp [Value.oneCell']) (by unfold maxLen; omega) (by omega) HSZ.out ?_; intro v' w6 s1 s2 _; have HW : Hid (w6.ownsRow w17.heap.size 31 1 v' (i + 1) (ms ++ [.slice za zn zc]) ∧ MF w17 0 (vsE es) (LE es) (fun k => List.replicate 64 (UInt8.ofNat k)) (i + 1) (ms ++ [.slice za zn zc]) w6) := ⟨s1, HD.out.1.rowed HJL.out HD.out.2 s2⟩; obtain ⟨va, vc, hv⟩ := rowForm s1; subst hv; clear s1 s2)
                exact ⟨⟨i + 1, _, va, vc, by omega, by go_num, rfl, HW⟩, by simp [intOf]; omega⟩
          · obtain ⟨nE', hnE'⟩ : ∃ x, x = i := ⟨_, rfl⟩
            subst hnE'
            have HIN : Hid (nE' = nE) := (by omega : nE' = nE)
            obtain ⟨lab2, hl2, _, hl10⟩ := relabel lab w17.heap.size (fun _ => False) 0 10
            have h01 : 1 < w17.heap.size := Nat.lt_of_lt_of_le HC0.out.1.pos HK17.out.2.2.size
            have HK3 : Hid (KX lab2 w3 g R g' R' P1 P2 q2.H q2.H (0 + 1048576) (0 + 1048576) (.slice xa xn xc) q2.H w10.heap.size w13.heap.size #[.bool P1.sh, .bool (P1.why != 0), .int .i64 P1.why, .bool P1.wc, .bool P1.wi, .bool P1.ic, .bool P1.ii, .slice sa sn sc] #[.bool P1.sh, .bool (P1.why != 0), .int .i64 P1.why, .bool P1.wc, .bool P1.wi, .bool P1.ic, .bool P1.ii, .slice xa xn xc] (.slice sa sn sc) q2.H (.slice ea nE ec) (.slice ea' nE ec') es es' ∧ (∀ k, k < w.heap.size → lab2 k = 0) ∧ (∀ k, w17.heap.size ≤ k → lab2 k = 10) ∧ Below w.heap.size w w3 ∧ w17.heap.size ≤ w3.heap.size) := by
              have h4 := HL1.out.2.2.2
              have h7 := HK17.out.2.2.size
              refine ⟨(HK17.out.1.relab hl2 h01).marks HI.out.2, fun k hk => by rw [hl2 k (by omega)]; exact HK17.out.2.1 k (by omega), fun k hk => hl10 k hk (fun h => h), below_fr HK17.out.2.2 HI.out.2.fr h7 (fun k hk hb => ?_), HI.out.2.fr.size⟩
              have h1 := HK17.out.1.ll k (bks_eb hb)
              have h2 := HK17.out.2.1 k (by omega)
              omega
            have hv7 : w3.cell? ⟨w10.heap.size, 7, none⟩ = some (.slice sa sn sc) := HK3.out.1.ky.kz.s1.cell 7
            obtain ⟨i5, hi5, hz0, hz1, hz2⟩ := info_parts info5b
            have HY5 := Lib.hid (And.intro hi5 (And.intro hz0 (And.intro hz1 hz2)))
            have bA : Below w3.heap.size w3 (w3.alloc (.cells #[.int .u8 77] 5)) := (Below.refl _ _).alloc (Nat.le_refl _) _
            have HU : Hid (OW 0 (w3.alloc (.cells #[.int .u8 77] 5)) (.slice sa sn sc) q2.H ∧ (∀ q u, (Lib.byteCells [(77 : UInt8)])[q]? = some u → (w3.alloc (.cells #[.int .u8 77] 5)).cell? ((⟨w3.heap.size, 0, none⟩ : Addr).add q) = some u) ∧ Below w3.heap.size w3 (w3.alloc (.cells #[.int .u8 77] 5))) := ⟨HK3.out.1.ky.os.grow bA, one_new w3 77 77 rfl, bA⟩
            have HI3 := Lib.hid HI.out
            have hHl : q2.H.length ≤ 140737488351232 := HL1.out.2.2.1
            have HHL := Lib.hid hHl
            have HU1 : Hid ((Lib.byteCells [(77 : UInt8)]).length = 1 * 1) := rfl
            clear hi5 hz0 hz1 hz2 bA HI hl2 hl10 h01 hHl
            go_upto_region 40 with (at_builtin; refine append_bothL i5 _ 1 rfl _ _ rfl Tryz.underlying31 HY5.out.1 HY5.out.2.1 HY5.out.2.2.1 HY5.out.2.2.2 rfl (by omega) (m := 1) (by omega) rfl HU.out.1 ⟨w3.heap.size, 0, none⟩ 1 rfl HU1.out HU.out.2.1 (Lib.byteCells_one _) (Nat.zero_le _) (by have := HHL.out; unfold maxLen; omega) (by have := HHL.out; omega) ?_; intro nv5 w20 r1 r2 r3 r4; have HR20 := Lib.hid (And.intro r1 (And.intro r2 (And.intro r3 r4))); obtain ⟨na, ncp, rfl⟩ := rowForm r1; clear r1 r2 r3 r4)
            have HSN : Hid (sn = q2.H.length) := by
              obtain ⟨_, _, e⟩ := HK3.out.1.ky.os.form
              simp only [Value.slice.injEq] at e
              exact e.2.1
            have HT20 : Hid (KX lab2 w20 g R g' R' P1 P2 q2.H q2.H (0 + 1048576) (0 + 1048576) (.slice xa xn xc) q2.H w10.heap.size w13.heap.size #[.bool P1.sh, .bool (P1.why != 0), .int .i64 P1.why, .bool P1.wc, .bool P1.wi, .bool P1.ic, .bool P1.ii, .slice sa sn sc] #[.bool P1.sh, .bool (P1.why != 0), .int .i64 P1.why, .bool P1.wc, .bool P1.wi, .bool P1.ic, .bool P1.ii, .slice xa xn xc] (.slice sa sn sc) q2.H (.slice ea nE ec) (.slice ea' nE ec') es es' ∧ KM lab2 w20 es q2.H (fun k => List.replicate 64 (UInt8.ofNat k)) (.slice ma nE' mcp) ms (.slice na (q2.H.length + 1) ncp) ∧ (∀ k, k < w.heap.size → lab2 k = 0) ∧ Below w.heap.size w w20) := by
              obtain ⟨r1, r2, r3, r4⟩ := HR20.out
              have f20 : Fm.Fr (fun k => (Value.slice sa sn sc).ownBlock ≠ some k) w3 w20 := (Fm.Fr.of_below HU.out.2.2).trans ⟨r3.os, r3.tape, r3.output, r3.size, fun k hk hs => r3.block k hk (fun e => hs e.symm)⟩ (fun _ _ x => x)
              have kx20 := HK3.out.1.son f20 (r2 0 _ _ _ HU.out.1 (fun _ => Nat.le_refl _))
              have l5 := HK3.out.1.ky.ls
              have l10 := HK3.out.2.2.1
              have z3 := HK3.out.2.2.2.2
              have en : nE' = es.length := HIN.out.trans HNE2.out.symm
              refine ⟨kx20, ⟨?_, fun k hk => l10 k (rowTag HI3.out.1 hk).1, fun q hq => ?_, ?_, fun k hk => ?_⟩, HK3.out.2.1, below_fr HK3.out.2.2.2.1 f20 HK3.out.2.2.2.1.size (fun k hk e => by have := l5 k e; have := HK3.out.2.1 k hk; omega)⟩
              · rw [← en]
                exact own0 (rowFr HI3.out.1 f20 (fun k hk e => by have := l5 k e; have := l10 k (rowTag HI3.out.1 hk).1; omega))
              · have hq' : q < nE' := by omega
                have hlab : ∀ k, (ms.getD q nv).ownBlock = some k → lab2 k = 3 ∨ lab2 k = 10 := fun k hk => by
                  rcases HI3.out.2.loc q hq' with e | e
                  · exact .inl (HK3.out.1.ll k (bks_eb ⟨q, by rw [vsE, List.length_map]; exact hq, by rw [← e]; exact hk⟩))
                  · exact .inr (l10 k (e k hk))
                exact ⟨(HI3.out.2.each q hq').frS f20 (fun k hk e => by have := l5 k e; have := hlab k hk; omega), hlab⟩
              · show OW 0 w20 _ (q2.H ++ [77])
                unfold OW
                rw [bcl_append, List.length_append]
                exact r1
              · rcases r4 with e | e
                · have e' : (Value.slice na (q2.H.length + 1) ncp).ownBlock = (Value.slice sa sn sc).ownBlock := e
                  exact .inl (l5 k (by rw [← e']; exact hk))
                · exact .inr (l10 k (by have := e k hk; have := HU.out.2.2.size; omega))
            have HL20 : Hid (∀ k, w20.heap.size ≤ k → lab2 k = 10) := fun k hk => HK3.out.2.2.1 k (by have := HK3.out.2.2.2.2; have := HU.out.2.2.size; have := HR20.out.2.2.1.size; omega)
            have HFd := Lib.hid (HT20.out.1.ky.kz.cp.feed (m := 1048576) (.slice ca mc ccp) lc ((Fm.RN.of_rb HC0.out.2.2.2.2).move (fun k hk e => by have := HT20.out.2.2.1 k hk; omega) (fun k hk _ _ => HT20.out.2.2.2.block k hk)) (by rw [HMC.out]; exact hlc) (by omega))
            clear HR20 HU HU1 HI3 HK3 hv7 HY5
            go_wp2_with fail
            refine HFd.out.mono ?_
            rintro e w21 ⟨ev3, fin3, es3, P3, H3, rfl, e21, nd21, ln21, cn21, f21⟩
            obtain ⟨lab3, hl3, hl11, hl31⟩ := relabel lab2 w20.heap.size (eb ev3 es3) 11 1
            have HT21 : Hid (KX lab3 w21 g R g' R' P3 P2 H3 q2.H (0 + 1048576 + 1048576) (0 + 1048576) (.slice xa xn xc) q2.H w10.heap.size w13.heap.size #[.bool P1.sh, .bool (P1.why != 0), .int .i64 P1.why, .bool P1.wc, .bool P1.wi, .bool P1.ic, .bool P1.ii, .slice sa sn sc] #[.bool P1.sh, .bool (P1.why != 0), .int .i64 P1.why, .bool P1.wc, .bool P1.wi, .bool P1.ic, .bool P1.ii, .slice xa xn xc] (.slice sa sn sc) q2.H (.slice ea nE ec) (.slice ea' nE ec') es es' ∧ KM lab3 w21 es q2.H (fun k => List.replicate 64 (UInt8.ofNat k)) (.slice ma nE' mcp) ms (.slice na (q2.H.length + 1) ncp) ∧ (∀ k, k < w.heap.size → lab3 k = 0) ∧ Below w.heap.size w w21 ∧ (∀ k, eb ev3 es3 k → lab3 k = 11) ∧ EVS w20.heap.size w21 ev3 es3) := by
              have h01 : 1 < w20.heap.size := Nat.lt_of_lt_of_le HC0.out.1.pos HT20.out.2.2.2.size
              have f21' : Fm.Fr (fun k => lab3 k ≠ 1) w20 w21 := f21.mono (fun k hk h e => h (by rw [hl3 k hk]; exact e))
              have cn21' : CN w21 g R P3 H3 (fun k => lab3 k = 1) (0 + 1048576 + 1048576) := cn21.mono (fun k hk h => by
                rcases h with h | h
                · by_cases hk2 : k < w20.heap.size
                  · rw [hl3 k hk2]; exact h
                  · exact absurd (h : lab2 k = 1) (by have := HL20.out k (by omega); omega)
                · exact hl31 k h.1 h.2)
              have hl0 : ∀ k, k < w.heap.size → lab3 k = 0 := fun k hk => by rw [hl3 k (by have := HT20.out.2.2.2.size; omega)]; exact HT20.out.2.2.1 k hk
              exact ⟨(HT20.out.1.relab hl3 h01).setp f21' cn21', (HT20.out.2.1.relab hl3).fr f21' (fun k hk => by omega), hl0, below_fr HT20.out.2.2.2 f21' HT20.out.2.2.2.size (fun k hk e => by have := hl0 k hk; omega), fun k hk => hl11 k (eb_tag e21 hk).1 hk, e21⟩
            obtain ⟨ma3, mc3, rfl⟩ := e21.form
            have HSE := Lib.hid (spoilEventsT w21 w20.heap.size _ es3 e21 nd21 (by omega))
            generalize es3.length = n3 at *
            clear e21 nd21 ln21 cn21 f21 hl3 hl11 hl31 HFd HT20
            go_wp2_with fail
            refine HSE.out.mono ?_
            rintro e w22 ⟨rfl, f22⟩
            have HT22 : Hid (KX lab3 w22 g R g' R' P3 P2 H3 q2.H (0 + 1048576 + 1048576) (0 + 1048576) (.slice xa xn xc) q2.H w10.heap.size w13.heap.size #[.bool P1.sh, .bool (P1.why != 0), .int .i64 P1.why, .bool P1.wc, .bool P1.wi, .bool P1.ic, .bool P1.ii, .slice sa sn sc] #[.bool P1.sh, .bool (P1.why != 0), .int .i64 P1.why, .bool P1.wc, .bool P1.wi, .bool P1.ic, .bool P1.ii, .slice xa xn xc] (.slice sa sn sc) q2.H (.slice ea nE ec) (.slice ea' nE ec') es es' ∧ KM lab3 w22 es q2.H (fun k => List.replicate 64 (UInt8.ofNat k)) (.slice ma nE' mcp) ms (.slice na (q2.H.length + 1) ncp) ∧ (∀ k, k < w.heap.size → lab3 k = 0) ∧ Below w.heap.size w w22) := ⟨HT21.out.1.fr f22 (fun k hk e => by have := HT21.out.2.2.2.2.1 k e; omega), HT21.out.2.1.fr f22 (fun k hk e => by have := HT21.out.2.2.2.2.1 k e; omega), HT21.out.2.2.1, below_fr HT21.out.2.2.2.1 f22 HT21.out.2.2.2.1.size (fun k hk e => by have := HT21.out.2.2.2.2.1 k e; have := HT21.out.2.2.1 k hk; omega)⟩
            clear f22 HSE HT21
            go_wp2
            have hnb := HL1.out.1
            go_loopw [32] (fun t wr => ∃ (i nq : Nat), i ≤ nE ∧ t = .int .i64 i ∧ wr = w22.drewN nq) (fun t _ => nE - (intOf t).toNat)
            case atStart => exact ⟨0, 0, Nat.zero_le _, rfl, rfl⟩
            case round =>
              obtain ⟨i, nq, hi, rfl, hw⟩ := hrel
              by_cases hlt : i < nE
              · as_aux_lemma =>
                have hiE : i < es.length := by rw [HNE2.out]; exact hlt
                obtain ⟨e, he⟩ := get_ev hiE
                obtain ⟨G, rfl⟩ : ∃ G, ea = some ⟨G, 0, none⟩ := by
                  rcases HT22.out.1.el.1.2 with ⟨h, _⟩ | ⟨G, cap, cur, h, _⟩
                  · simp only [Value.slice.injEq] at h; omega
                  · simp only [Value.slice.injEq] at h; exact ⟨G, h.1⟩
                have oe := HT22.out.1.el.2 e (List.mem_of_getElem? he)
                have cd : w22.cell? ⟨G, i * 61 + 25, none⟩ = some e.x.m.d := HT22.out.1.el.at HNE2.out.symm he 25 _ (Ev.g25 oe.pr)
                obtain ⟨da, dc, ed⟩ := oe.mg.d.form
                have hdl : e.x.D.length ≤ 32768 := oe.mg.dl
                obtain ⟨gm, rfl, cm, _⟩ := rowCell HT22.out.2.1.mr i hiE
                have om := (HT22.out.2.1.me i hiE).1
                rw [LE_at he] at om
                obtain ⟨ua, uc, eu⟩ := om.form
                rw [eu] at cm om
                rw [List.length_append, List.length_replicate] at cm om
                rw [ed] at cd
                obtain ⟨ug, rfl⟩ : ∃ ug, ua = some ⟨ug, 0, none⟩ := by
                  rcases om.2 with ⟨h, h0⟩ | ⟨ug, cap, cur, h, _⟩
                  · rw [List.length_append, List.length_replicate] at h0; omega
                  · simp only [Value.slice.injEq] at h
                    exact ⟨ug, h.1⟩
                have HMK : Hid (∀ z nn, z < 64 → (w22.drewN nn).cell? ⟨ug, e.x.D.length + z, none⟩ = some (.int .u8 ((i : Int) % 256))) := fun z nn hz => by
                  have h1 := (om.atP (e.x.D.length + z) (by rw [List.length_append, List.length_replicate]; omega)).1
                  rw [Fm.byt_right _ _ _ (by omega), Nat.add_sub_cancel_left] at h1
                  have h2 : byt (List.replicate 64 (UInt8.ofNat i)) z = UInt8.ofNat i := by
                    unfold byt
                    rw [List.getD_eq_getElem?_getD, List.getElem?_replicate, if_pos hz]
                    rfl
                  rw [h2, u8v] at h1
                  exact h1
                have hc1 : ∀ nn, (w22.drewN nn).cell? ⟨gm, i, none⟩ = some (.slice (some ⟨ug, 0, none⟩) (e.x.D.length + 64) uc) := fun nn => cm
                have hc2 : ∀ nn, (w22.drewN nn).cell? ⟨G, i * 61 + 25, none⟩ = some (.slice da e.x.D.length dc) := fun nn => cd
                have HIN2 := HIN.out
                generalize e.x.D.length = dn at *
                clear oe he ed om eu cm cd HIN2
                have hlm : i < nE' := by rw [HIN.out]; exact hlt
                have HW := Lib.hid hw
                clear hw
                go_wp2
                go_loopw [33] (fun t wr => ∃ (z nq : Nat), z ≤ 64 ∧ t = .int .i64 z ∧ wr = w22.drewN nq) (fun t _ => 64 - (intOf t).toNat)
                case atStart => exact ⟨0, _, Nat.zero_le _, rfl, HW.out⟩
                case round =>
                  clear HW
                  obtain ⟨z, nq, hz, rfl, hw⟩ := hrel
                  by_cases hzl : z < 64
                  · have d1 : ∀ nn, (wr.drewN nn).cell? ⟨gm, i, none⟩ = some (.slice (some ⟨ug, 0, none⟩) (dn + 64) uc) := fun nn => by rw [hw]; exact hc1 nq
                    have d2 : ∀ nn, (wr.drewN nn).cell? ⟨G, i * 61 + 25, none⟩ = some (.slice da dn dc) := fun nn => by rw [hw]; exact hc2 nq
                    have d3 : ∀ nn, (wr.drewN nn).cell? ⟨ug, dn + z, none⟩ = some (.int .u8 ((i : Int) % 256)) := fun nn => by rw [hw]; exact HMK.out z nq hzl
                    have e1 := d1 0
                    have e2 := d2 0
                    have e3 := d3 0
                    have HW2 : Hid (∀ m, ∃ nq, wr.drewN m = w22.drewN nq) := fun m => ⟨nq + m, by rw [hw, World.drewN_drewN]⟩
                    clear hw hc1 hc2
                    go_wp2
                    go_quiet (fail)
                    obtain ⟨nq9, e9⟩ := HW2.out nq
                    have HE9 := Lib.hid e9
                    clear e9 d1 d2 d3 e1 e2 e3
                    generalize wr.drewN nq = wz at *
                    go_wp2
                    exact ⟨⟨z + 1, nq9, by omega, by go_num, HE9.out⟩, by simp [intOf]; omega⟩
                  · have HW2 := Lib.hid hw
                    clear hw hc1 hc2
                    go_wp2
                    exact ⟨⟨i + 1, nq, by omega, by go_num, HW2.out⟩, by simp [intOf]; omega⟩
              · have HT23 : Hid (KX lab3 wr g R g' R' P3 P2 H3 q2.H (0 + 1048576 + 1048576) (0 + 1048576) (.slice xa xn xc) q2.H w10.heap.size w13.heap.size #[.bool P1.sh, .bool (P1.why != 0), .int .i64 P1.why, .bool P1.wc, .bool P1.wi, .bool P1.ic, .bool P1.ii, .slice sa sn sc] #[.bool P1.sh, .bool (P1.why != 0), .int .i64 P1.why, .bool P1.wc, .bool P1.wi, .bool P1.ic, .bool P1.ii, .slice xa xn xc] (.slice sa sn sc) q2.H (.slice ea nE ec) (.slice ea' nE ec') es es' ∧ KM lab3 wr es q2.H (fun k => List.replicate 64 (UInt8.ofNat k)) (.slice ma nE' mcp) ms (.slice na (q2.H.length + 1) ncp) ∧ (∀ k, k < w.heap.size → lab3 k = 0) ∧ Below w.heap.size w wr) := by
                  rw [hw]
                  have bd := belowDrew w22 nq
                  exact ⟨HT22.out.1.below bd, HT22.out.2.1.fr (S := fun _ => True) (Fm.Fr.of_below bd) (fun _ _ => trivial), HT22.out.2.2.1, HT22.out.2.2.2.trans (bd.mono HT22.out.2.2.2.size)⟩
                obtain ⟨w23, hw23⟩ : ∃ x, x = wr := ⟨_, rfl⟩
                subst hw23
                obtain ⟨gn, hgn⟩ : ∃ gn, na = some ⟨gn, 0, none⟩ := by
                  rcases HT23.out.2.1.no.2 with ⟨_, h0⟩ | ⟨gn, cap, cur, h, _⟩
                  · simp at h0
                  · simp only [Value.slice.injEq] at h
                    exact ⟨gn, h.1⟩
                subst hgn
                have hsn := HSN.out
                subst hsn
                have HHn : Hid (q2.H.length ≤ 140737488351232) := HHL
                obtain ⟨hn, hhn⟩ : ∃ x, x = q2.H.length := ⟨_, rfl⟩
                have HQN := Lib.hid hhn
                rw [← hhn] at HT23 ⊢
                have hnb9 : hn ≤ 140737488351232 := by rw [hhn]; exact HHn.out
                clear hhn hw HT22 HSN HHL
                have HES := Lib.hid (eventsSameT w23 0 0 (.slice ea nE ec) (.slice ea' nE ec') es es' HT23.out.1.el HT23.out.1.ek HEQ.out.1 (by have := HNE2.out; omega))
                go_wp2_with fail
                refine HES.out.mono ?_
                rintro e w24 ⟨rfl, b24⟩
                have HT24 : Hid (KX lab3 w24 g R g' R' P3 P2 H3 q2.H (0 + 1048576 + 1048576) (0 + 1048576) (.slice xa xn xc) q2.H w10.heap.size w13.heap.size #[.bool P1.sh, .bool (P1.why != 0), .int .i64 P1.why, .bool P1.wc, .bool P1.wi, .bool P1.ic, .bool P1.ii, .slice sa hn sc] #[.bool P1.sh, .bool (P1.why != 0), .int .i64 P1.why, .bool P1.wc, .bool P1.wi, .bool P1.ic, .bool P1.ii, .slice xa xn xc] (.slice sa hn sc) q2.H (.slice ea nE ec) (.slice ea' nE ec') es es' ∧ KM lab3 w24 es q2.H (fun k => List.replicate 64 (UInt8.ofNat k)) (.slice ma nE' mcp) ms (.slice (some ⟨gn, 0, none⟩) (hn + 1) ncp) ∧ Below w.heap.size w w24) := ⟨HT23.out.1.below b24, HT23.out.2.1.fr (S := fun _ => True) (Fm.Fr.of_below b24) (fun _ _ => trivial), HT23.out.2.2.2.trans (b24.mono HT23.out.2.2.2.size)⟩
                have HL30 := Lib.hid HT23.out.2.2.1
                have hv1 : ∀ nn, (w24.drewN nn).cell? ⟨w10.heap.size, 7, none⟩ = some (.slice sa hn sc) := fun nn => (HT24.out.1.ky.kz.s1.keep (belowDrew _ nn)).cell 7
                have hv2 : ∀ nn, (w24.drewN nn).cell? ⟨w13.heap.size, 7, none⟩ = some (.slice xa xn xc) := fun nn => (HT24.out.1.ky.kz.s2.keep (belowDrew _ nn)).cell 7
                have hv3 : ∀ nn, (w24.drewN nn).cell? ⟨gn, hn, none⟩ = some (.int .u8 77) := fun nn => by
                  have h1 := (HT24.out.2.1.no.atP hn (by rw [List.length_append, HQN.out]; simp)).1
                  have h2 : byt (q2.H ++ [77]) hn = 77 := by
                    rw [HQN.out, Fm.byt_right _ _ _ (Nat.le_refl _), Nat.sub_self]
                    rfl
                  rw [h2] at h1
                  exact h1
                have e1 : w24.cell? ⟨w10.heap.size, 7, none⟩ = some (.slice sa hn sc) := HT24.out.1.ky.kz.s1.cell 7
                have e2 : w24.cell? ⟨w13.heap.size, 7, none⟩ = some (.slice xa xn xc) := HT24.out.1.ky.kz.s2.cell 7
                have HSM := Lib.hid (same _ _ q2.H w24 HHn.out HT24.out.1.ky.os.rb HT24.out.1.ky.kz.ot.rb)
                clear b24 HES HT23
                go_wp2_with fail
                refine HSM.out.mono ?_
                rintro e w25 ⟨rfl, nq, hw25⟩
                have HT25 : Hid (KX lab3 w25 g R g' R' P3 P2 H3 q2.H (0 + 1048576 + 1048576) (0 + 1048576) (.slice xa xn xc) q2.H w10.heap.size w13.heap.size #[.bool P1.sh, .bool (P1.why != 0), .int .i64 P1.why, .bool P1.wc, .bool P1.wi, .bool P1.ic, .bool P1.ii, .slice sa hn sc] #[.bool P1.sh, .bool (P1.why != 0), .int .i64 P1.why, .bool P1.wc, .bool P1.wi, .bool P1.ic, .bool P1.ii, .slice xa xn xc] (.slice sa hn sc) q2.H (.slice ea nE ec) (.slice ea' nE ec') es es' ∧ (∀ k, k < w.heap.size → lab3 k = 0) ∧ Below w.heap.size w w25) := by
                  rw [hw25]
                  have bd := belowDrew w24 nq
                  exact ⟨HT24.out.1.below bd, HL30.out, HT24.out.2.2.trans (bd.mono HT24.out.2.2.size)⟩
                have e3 : w25.cell? ⟨w10.heap.size, 7, none⟩ = some (.slice sa hn sc) := by rw [hw25]; exact hv1 nq
                have e4 : w25.cell? ⟨gn, hn, none⟩ = some (.int .u8 77) := by rw [hw25]; exact hv3 nq
                have hbb : hn < hn + 1 := Nat.lt_succ_self _
                have HSt := Lib.hid HT25.out.1.ky.kz.cp.state
                clear hv1 hv2 hv3 e1 e2 HSM hw25 HT24 HL30
                go_wp2_with fail
                refine HSt.out.mono ?_
                rintro e w27 ⟨v27, rfl, o27, b27⟩
                obtain ⟨ua, un, uc, rfl⟩ := o27.form3
                have bA : Below w27.heap.size w27 (w27.alloc (.cells #[.bool P3.sh, .bool (P3.why != 0), .int .i64 P3.why, .bool P3.wc, .bool P3.wi, .bool P3.ic, .bool P3.ii, .slice ua un uc] 43)) := (Below.refl _ _).alloc (Nat.le_refl _) _
                obtain ⟨w28, hw28⟩ : ∃ x, x = w27.alloc (.cells #[.bool P3.sh, .bool (P3.why != 0), .int .i64 P3.why, .bool P3.wc, .bool P3.wi, .bool P3.ic, .bool P3.ii, .slice ua un uc] 43) := ⟨_, rfl⟩
                rw [← hw28] at bA
                have hSV : SV w28 w27.heap.size #[.bool P3.sh, .bool (P3.why != 0), .int .i64 P3.why, .bool P3.wc, .bool P3.wi, .bool P3.ic, .bool P3.ii, .slice ua un uc] := by rw [hw28]; exact heapNew _ _
                have HT28 : Hid (OW w25.heap.size w28 (.slice ua un uc) H3 ∧ SV w28 w27.heap.size #[.bool P3.sh, .bool (P3.why != 0), .int .i64 P3.why, .bool P3.wc, .bool P3.wi, .bool P3.ic, .bool P3.ii, .slice ua un uc] ∧ Below w25.heap.size w25 w28 ∧ OW w28.heap.size w28 (.slice none 0 0) [] ∧ w25.heap.size ≤ w27.heap.size ∧ (∀ k, (Value.slice ua un uc).ownBlock = some k → k < w27.heap.size)) := ⟨o27.grow bA, hSV, b27.trans (bA.mono b27.size), World.ownsRow_nil _ _ _ _, b27.size, fun k hk => (rowTag o27 hk).2.1⟩
                have hv8 : w28.cell? ⟨w27.heap.size, 7, none⟩ = some (.slice ua un uc) := hSV.cell 7
                have HW28 := Lib.hid hw28
                have HH3 : Hid (H3.length ≤ 140737488351232) := HT25.out.1.ky.kz.cp.hl
                clear o27 b27 bA hw28 hSV HSt e3 e4
                go_upto_region 53 with fail
                rw [← HW28.out]
                go_upto_region 55 with (at_builtin; refine append_bytes rfl _ _ rfl rfl HT28.out.2.2.2.1 rfl HT28.out.1.rb (Nat.le_refl _) (by have := HH3.out; simp; omega) ?_; intro v29 w29 r1 r2; rw [List.nil_append] at r1; obtain ⟨ja, jn, jc, rfl⟩ := r1.form3; have HR29 := Lib.hid (And.intro r1 r2); clear r1 r2)
                obtain ⟨lab4, hl4, _, hl12⟩ := relabel lab3 w25.heap.size (fun _ => False) 0 12
                have HT29 : Hid (KX lab4 w29 g R g' R' P3 P2 H3 q2.H (0 + 1048576 + 1048576) (0 + 1048576) (.slice xa xn xc) q2.H w10.heap.size w13.heap.size #[.bool P1.sh, .bool (P1.why != 0), .int .i64 P1.why, .bool P1.wc, .bool P1.wi, .bool P1.ic, .bool P1.ii, .slice sa hn sc] #[.bool P1.sh, .bool (P1.why != 0), .int .i64 P1.why, .bool P1.wc, .bool P1.wi, .bool P1.ic, .bool P1.ii, .slice xa xn xc] (.slice sa hn sc) q2.H (.slice ea nE ec) (.slice ea' nE ec') es es' ∧ (∀ k, k < w.heap.size → lab4 k = 0) ∧ (∀ k, w25.heap.size ≤ k → lab4 k = 12) ∧ Below w.heap.size w w29) := by
                  have h01 : 1 < w25.heap.size := Nat.lt_of_lt_of_le HC0.out.1.pos HT25.out.2.2.size
                  have b29 : Below w25.heap.size w25 w29 := HT28.out.2.2.1.trans (HR29.out.2.mono HT28.out.2.2.1.size)
                  exact ⟨(HT25.out.1.relab hl4 h01).below b29, fun k hk => by rw [hl4 k (by have := HT25.out.2.2.size; omega)]; exact HT25.out.2.1 k hk, fun k hk => hl12 k hk (fun h => h), HT25.out.2.2.trans (b29.mono HT25.out.2.2.size)⟩
                have HSE := Lib.hid (spoilEventsT w29 0 (.slice ea nE ec) es HT29.out.1.el HL1.out.2.1 (by have := HNE2.out; omega))
                clear hl4 hl12 hv8 HW28 HT25
                go_wp2_with fail
                refine HSE.out.mono ?_
                rintro e w30 ⟨rfl, f30⟩
                have HT30 : Hid (KY lab4 w30 g R g' R' P3 P2 H3 q2.H (0 + 1048576 + 1048576) (0 + 1048576) (.slice xa xn xc) q2.H w10.heap.size w13.heap.size #[.bool P1.sh, .bool (P1.why != 0), .int .i64 P1.why, .bool P1.wc, .bool P1.wi, .bool P1.ic, .bool P1.ii, .slice sa hn sc] #[.bool P1.sh, .bool (P1.why != 0), .int .i64 P1.why, .bool P1.wc, .bool P1.wi, .bool P1.ic, .bool P1.ii, .slice xa xn xc] (.slice sa hn sc) q2.H ∧ SV w30 w27.heap.size #[.bool P3.sh, .bool (P3.why != 0), .int .i64 P3.why, .bool P3.wc, .bool P3.wi, .bool P3.ic, .bool P3.ii, .slice ua un uc] ∧ OW w25.heap.size w30 (.slice ua un uc) H3 ∧ OW w28.heap.size w30 (.slice ja jn jc) H3 ∧ Below w.heap.size w w30) := by
                  have hne : ∀ k, lab4 k ≠ 3 → ¬ eb (.slice ea nE ec) es k := fun k hk e => hk (HT29.out.1.ll k e)
                  have h12 := HT29.out.2.2.1
                  have hz := HT28.out.2.2.1.size
                  exact ⟨HT29.out.1.ky.fr f30 (fun k _ h3 _ => hne k h3), (HT28.out.2.1.keep HR29.out.2).frS f30 (hne _ (by rw [h12 _ HT28.out.2.2.2.2.1]; decide)), (HT28.out.1.grow HR29.out.2).frS f30 (fun k hk => hne k (by rw [h12 k (rowTag HT28.out.1 hk).1]; decide)), HR29.out.1.frS f30 (fun k hk => hne k (by rw [h12 k (by have := (rowTag HR29.out.1 hk).1; omega)]; decide)), below_fr HT29.out.2.2.2 f30 HT29.out.2.2.2.size (fun k hk => hne k (by rw [HT29.out.2.1 k hk]; decide))⟩
                have e5 : w30.cell? ⟨w10.heap.size, 7, none⟩ = some (.slice sa hn sc) := HT30.out.1.kz.s1.cell 7
                have HSB := Lib.hid (spoilBytesT w30 0 (.slice sa hn sc) q2.H HT30.out.1.os (Nat.le_trans HHn.out (by decide)))
                have HL4 := Lib.hid (And.intro HT29.out.2.1 HT29.out.2.2.1)
                clear f30 HSE HT29 HR29
                go_wp2_with fail
                refine HSB.out.mono ?_
                rintro e w31 ⟨rfl, _, f31⟩
                have HT31 : Hid (KZ lab4 w31 g R g' R' P3 P2 H3 q2.H (0 + 1048576 + 1048576) (0 + 1048576) (.slice xa xn xc) q2.H w10.heap.size w13.heap.size #[.bool P1.sh, .bool (P1.why != 0), .int .i64 P1.why, .bool P1.wc, .bool P1.wi, .bool P1.ic, .bool P1.ii, .slice sa hn sc] #[.bool P1.sh, .bool (P1.why != 0), .int .i64 P1.why, .bool P1.wc, .bool P1.wi, .bool P1.ic, .bool P1.ii, .slice xa xn xc] ∧ SV w31 w27.heap.size #[.bool P3.sh, .bool (P3.why != 0), .int .i64 P3.why, .bool P3.wc, .bool P3.wi, .bool P3.ic, .bool P3.ii, .slice ua un uc] ∧ OW w25.heap.size w31 (.slice ua un uc) H3 ∧ OW w28.heap.size w31 (.slice ja jn jc) H3 ∧ Below w.heap.size w w31) := by
                  have hne : ∀ k, lab4 k ≠ 5 → (Value.slice sa hn sc).ownBlock ≠ some k := fun k hk e => hk (HT30.out.1.ls k e)
                  have h12 := HL4.out.2
                  have hz := HT28.out.2.2.1.size
                  exact ⟨HT30.out.1.kz.fr f31 (fun k hk => hne k (by omega)), HT30.out.2.1.frS f31 (hne _ (by rw [h12 _ HT28.out.2.2.2.2.1]; decide)), HT30.out.2.2.1.frS f31 (fun k hk => hne k (by rw [h12 k (rowTag HT30.out.2.2.1 hk).1]; decide)), HT30.out.2.2.2.1.frS f31 (fun k hk => hne k (by rw [h12 k (by have := (rowTag HT30.out.2.2.2.1 hk).1; omega)]; decide)), below_fr HT30.out.2.2.2.2 f31 HT30.out.2.2.2.2.size (fun k hk => hne k (by rw [HL4.out.1 k hk]; decide))⟩
                have e6 : w31.cell? ⟨w27.heap.size, 7, none⟩ = some (.slice ua un uc) := HT31.out.2.1.cell 7
                have HSB2 := Lib.hid (spoilBytesT w31 w25.heap.size (.slice ua un uc) H3 HT31.out.2.2.1 HH3.out)
                clear f31 HSB HT30 e5
                go_wp2_with fail
                refine HSB2.out.mono ?_
                rintro e w32 ⟨rfl, _, f32⟩
                have HT32 : Hid (KZ lab4 w32 g R g' R' P3 P2 H3 q2.H (0 + 1048576 + 1048576) (0 + 1048576) (.slice xa xn xc) q2.H w10.heap.size w13.heap.size #[.bool P1.sh, .bool (P1.why != 0), .int .i64 P1.why, .bool P1.wc, .bool P1.wi, .bool P1.ic, .bool P1.ii, .slice sa hn sc] #[.bool P1.sh, .bool (P1.why != 0), .int .i64 P1.why, .bool P1.wc, .bool P1.wi, .bool P1.ic, .bool P1.ii, .slice xa xn xc] ∧ SV w32 w27.heap.size #[.bool P3.sh, .bool (P3.why != 0), .int .i64 P3.why, .bool P3.wc, .bool P3.wi, .bool P3.ic, .bool P3.ii, .slice ua un uc] ∧ OW w28.heap.size w32 (.slice ja jn jc) H3 ∧ Below w.heap.size w w32) := by
                  have h12 := HL4.out.2
                  have hne : ∀ k, lab4 k ≠ 12 → (Value.slice ua un uc).ownBlock ≠ some k := fun k hk e => hk (h12 k (rowTag HT31.out.2.2.1 e).1)
                  have hz : w27.heap.size ≤ w28.heap.size := Nat.le_of_lt (Array.getElem?_eq_some_iff.1 HT28.out.2.1).1
                  refine ⟨HT31.out.1.fr f32 (fun k hk => hne k (by omega)), HT31.out.2.1.frS f32 (fun e => by have := HT28.out.2.2.2.2.2 _ e; omega), HT31.out.2.2.2.1.frS f32 (fun k hk e => by have := HT28.out.2.2.2.2.2 _ e; have := (rowTag HT31.out.2.2.2.1 hk).1; omega), below_fr HT31.out.2.2.2.2 f32 HT31.out.2.2.2.2.size (fun k hk => hne k (by rw [HL4.out.1 k hk]; decide))⟩
                have e7 : w32.cell? ⟨w27.heap.size, 7, none⟩ = some (.slice ua un uc) := HT32.out.2.1.cell 7
                have e8 : w32.frozen? ⟨w27.heap.size, 7, none⟩ = false := by
                  have := HT32.out.2.1
                  unfold SV at this
                  simp [World.frozen?, this]
                obtain ⟨w33, hw33⟩ : ∃ x, x = w32.setCell ⟨w27.heap.size, 7, none⟩ (.slice ja jn jc) := ⟨_, rfl⟩
                have HT33 : Hid (KZ lab4 w33 g R g' R' P3 P2 H3 q2.H (0 + 1048576 + 1048576) (0 + 1048576) (.slice xa xn xc) q2.H w10.heap.size w13.heap.size #[.bool P1.sh, .bool (P1.why != 0), .int .i64 P1.why, .bool P1.wc, .bool P1.wi, .bool P1.ic, .bool P1.ii, .slice sa hn sc] #[.bool P1.sh, .bool (P1.why != 0), .int .i64 P1.why, .bool P1.wc, .bool P1.wi, .bool P1.ic, .bool P1.ii, .slice xa xn xc] ∧ SV w33 w27.heap.size #[.bool P3.sh, .bool (P3.why != 0), .int .i64 P3.why, .bool P3.wc, .bool P3.wi, .bool P3.ic, .bool P3.ii, .slice ja jn jc] ∧ OW 0 w33 (.slice ja jn jc) H3 ∧ Below w.heap.size w w33) := by
                  rw [hw33]
                  have f33 : Fm.Fr (fun k => k ≠ w27.heap.size) w32 (w32.setCell ⟨w27.heap.size, 7, none⟩ (.slice ja jn jc)) := (Fm.Fr.refl _ _).setCell _ _ _ (fun h => h rfl)
                  have h12 := HL4.out.2 _ HT28.out.2.2.2.2.1
                  have hz : w27.heap.size < w28.heap.size := (Array.getElem?_eq_some_iff.1 HT28.out.2.1).1
                  exact ⟨HT32.out.1.fr f33 (fun k hk e => by rw [e] at hk; omega), heap_setCell_same w32 _ 7 _ 43 _ HT32.out.2.1, (HT32.out.2.2.1.frS f33 (fun k hk => by have := (rowTag HT32.out.2.2.1 hk).1; omega)).mono (Nat.zero_le _), below_fr HT32.out.2.2.2 f33 HT32.out.2.2.2.size (fun k hk e => by have := HL4.out.1 k hk; rw [e] at this; omega)⟩
                have HW33 := Lib.hid hw33
                have HStP := Lib.hid ((HT33.out.1.cp.below (belowDrew w33 1)).state)
                clear f32 HSB2 HT31 HT32 HT28 e6 hw33
                go_upto_region 59 with fail
                rw [← HW33.out]
                clear e7 e8 HW33
                refine wp_region_held_drew (S := fun u => SV u w27.heap.size #[.bool P3.sh, .bool (P3.why != 0), .int .i64 P3.why, .bool P3.wc, .bool P3.wi, .bool P3.ic, .bool P3.ii, .slice ja jn jc] ∧ SV u w13.heap.size #[.bool P1.sh, .bool (P1.why != 0), .int .i64 P1.why, .bool P1.wc, .bool P1.wi, .bool P1.ic, .bool P1.ii, .slice xa xn xc]) (by kernel_rfl) (⟨HT33.out.2.1, HT33.out.1.s2⟩) (fun hHeld => ?_)
                refine wpAnyH_take (i := 0) (v := .pointer (some ⟨g, 0, none⟩)) rfl (by kernel_rfl) (by kernel_rfl) (by kernel_rfl) (fun _ _ _ h => h) (Or.inl ⟨by rfl, fun w hw => by go_simp⟩) hHeld ?_
                simp only [Act.put, List.getElem_toArray, List.getElem_cons_zero, List.setIfInBounds_toArray, List.set_cons_zero, List.set_cons_succ]
                refine wpAnyH_take (i := 2) (v := .agg #[.bool P3.sh, .bool (P3.why != 0), .int .i64 P3.why, .bool P3.wc, .bool P3.wi, .bool P3.ic, .bool P3.ii, .slice ja jn jc]) rfl (by kernel_rfl) (by kernel_rfl) (by kernel_rfl) (fun _ _ _ h => h) (Or.inl ⟨by rfl, fun w hw => by have hq0 : w.cell? ⟨w27.heap.size, 0, none⟩ = some (.bool P3.sh) := hw.1.cell 0; have hq1 : w.cell? ⟨w27.heap.size, 1, none⟩ = some (.bool (P3.why != 0)) := hw.1.cell 1; have hq2 : w.cell? ⟨w27.heap.size, 2, none⟩ = some (.int .i64 P3.why) := hw.1.cell 2; have hq3 : w.cell? ⟨w27.heap.size, 3, none⟩ = some (.bool P3.wc) := hw.1.cell 3; have hq4 : w.cell? ⟨w27.heap.size, 4, none⟩ = some (.bool P3.wi) := hw.1.cell 4; have hq5 : w.cell? ⟨w27.heap.size, 5, none⟩ = some (.bool P3.ic) := hw.1.cell 5; have hq6 : w.cell? ⟨w27.heap.size, 6, none⟩ = some (.bool P3.ii) := hw.1.cell 6; have hq7 : w.cell? ⟨w27.heap.size, 7, none⟩ = some (.slice ja jn jc) := hw.1.cell 7; go_simp⟩) hHeld ?_
                simp only [Act.put, List.getElem_toArray, List.getElem_cons_zero, List.getElem_cons_succ, List.setIfInBounds_toArray, List.set_cons_zero, List.set_cons_succ]
                refine wpAnyH_ready (rs := [1]) (by kernel_rfl) (by simp) ?_
                refine AllReadyH.cons (o := _) rfl (fun K hK => ?_) AllReadyH.nil
                go_simp
                refine (HStP.out).mono ?_
                rintro e w34 ⟨v34, rfl, o34, b34⟩
                obtain ⟨a34, n34, c34, rfl⟩ := o34.form3
                have HT34 : Hid (KZ lab4 w34 g R g' R' P3 P2 H3 q2.H (0 + 1048576 + 1048576) (0 + 1048576) (.slice xa xn xc) q2.H w10.heap.size w13.heap.size #[.bool P1.sh, .bool (P1.why != 0), .int .i64 P1.why, .bool P1.wc, .bool P1.wi, .bool P1.ic, .bool P1.ii, .slice sa hn sc] #[.bool P1.sh, .bool (P1.why != 0), .int .i64 P1.why, .bool P1.wc, .bool P1.wi, .bool P1.ic, .bool P1.ii, .slice xa xn xc] ∧ SV w34 w27.heap.size #[.bool P3.sh, .bool (P3.why != 0), .int .i64 P3.why, .bool P3.wc, .bool P3.wi, .bool P3.ic, .bool P3.ii, .slice ja jn jc] ∧ OW 0 w34 (.slice ja jn jc) H3 ∧ OW 0 w34 (.slice a34 n34 c34) H3 ∧ Below w.heap.size w w34) := ⟨(HT33.out.1.fr (S := fun _ => True) (Fm.Fr.of_below (belowDrew w33 1)) (fun _ _ => trivial)).fr (S := fun _ => True) (Fm.Fr.of_below b34) (fun _ _ => trivial), (HT33.out.2.1.keep (belowDrew w33 1)).keep b34, (HT33.out.2.2.1.grow (belowDrew w33 1)).grow b34, o34.mono (Nat.zero_le _), (HT33.out.2.2.2.trans ((belowDrew w33 1).mono HT33.out.2.2.2.size)).trans (b34.mono (Nat.le_trans HT33.out.2.2.2.size (belowDrew w33 1).size))⟩
                clear o34 b34 HStP
                go_wp2_with fail
                refine hK.out _ _ (⟨HT34.out.2.1, HT34.out.1.s2⟩) (fun hHeld => ?_)
                clear hK K
                refine wpAnyH_ready (rs := [3]) (by kernel_rfl) (by simp) ?_
                refine AllReadyH.cons (o := _) rfl (fun K hK => ?_) AllReadyH.nil
                go_simp
                refine (stateSameT w34 P3.sh (P3.why != 0) P3.why P3.wc P3.wi P3.ic P3.ii (.slice a34 n34 c34) (.slice ja jn jc) H3 HT34.out.2.2.2.1.rb HT34.out.2.2.1.rb HT34.out.1.cp.hl).mono ?_
                rintro e w35 ⟨rfl, b35⟩
                have HT35 : Hid (KZ lab4 w35 g R g' R' P3 P2 H3 q2.H (0 + 1048576 + 1048576) (0 + 1048576) (.slice xa xn xc) q2.H w10.heap.size w13.heap.size #[.bool P1.sh, .bool (P1.why != 0), .int .i64 P1.why, .bool P1.wc, .bool P1.wi, .bool P1.ic, .bool P1.ii, .slice sa hn sc] #[.bool P1.sh, .bool (P1.why != 0), .int .i64 P1.why, .bool P1.wc, .bool P1.wi, .bool P1.ic, .bool P1.ii, .slice xa xn xc] ∧ SV w35 w27.heap.size #[.bool P3.sh, .bool (P3.why != 0), .int .i64 P3.why, .bool P3.wc, .bool P3.wi, .bool P3.ic, .bool P3.ii, .slice ja jn jc] ∧ Below w.heap.size w w35) := ⟨HT34.out.1.fr (S := fun _ => True) (Fm.Fr.of_below b35) (fun _ _ => trivial), HT34.out.2.1.keep b35, HT34.out.2.2.2.2.trans (b35.mono HT34.out.2.2.2.2.size)⟩
                have hSq := HT35.out.1.cq.state
                rw [HST.out.1, HST.out.2.1, HST.out.2.2.1, HST.out.2.2.2.1, HST.out.2.2.2.2.1, HST.out.2.2.2.2.2] at hSq
                have HSq := Lib.hid hSq
                clear b35 hSq
                go_wp2_with fail
                refine hK.out _ _ (⟨HT35.out.2.1, HT35.out.1.s2⟩) (fun hHeld => ?_)
                clear hK K
                refine wpAnyH_take (i := 4) (v := .bool true) rfl (by kernel_rfl) (by kernel_rfl) (by kernel_rfl) (fun _ _ _ h => h) (Or.inl ⟨by rfl, fun w hw => by go_simp⟩) hHeld ?_
                simp only [Act.put, List.getElem_toArray, List.getElem_cons_zero, List.getElem_cons_succ, List.setIfInBounds_toArray, List.set_cons_zero, List.set_cons_succ]
                refine wpAnyH_take (i := 5) (v := .pointer (some ⟨g', 0, none⟩)) rfl (by kernel_rfl) (by kernel_rfl) (by kernel_rfl) (fun _ _ _ h => h) (Or.inl ⟨by rfl, fun w hw => by go_simp⟩) hHeld ?_
                simp only [Act.put, List.getElem_toArray, List.getElem_cons_zero, List.getElem_cons_succ, List.setIfInBounds_toArray, List.set_cons_zero, List.set_cons_succ]
                refine wpAnyH_take (i := 7) (v := .agg #[.bool P1.sh, .bool (P1.why != 0), .int .i64 P1.why, .bool P1.wc, .bool P1.wi, .bool P1.ic, .bool P1.ii, .slice xa xn xc]) rfl (by kernel_rfl) (by kernel_rfl) (by kernel_rfl) (fun _ _ _ h => h) (Or.inl ⟨by rfl, fun w hw => by have hq0 : w.cell? ⟨w13.heap.size, 0, none⟩ = some (.bool P1.sh) := hw.2.cell 0; have hq1 : w.cell? ⟨w13.heap.size, 1, none⟩ = some (.bool (P1.why != 0)) := hw.2.cell 1; have hq2 : w.cell? ⟨w13.heap.size, 2, none⟩ = some (.int .i64 P1.why) := hw.2.cell 2; have hq3 : w.cell? ⟨w13.heap.size, 3, none⟩ = some (.bool P1.wc) := hw.2.cell 3; have hq4 : w.cell? ⟨w13.heap.size, 4, none⟩ = some (.bool P1.wi) := hw.2.cell 4; have hq5 : w.cell? ⟨w13.heap.size, 5, none⟩ = some (.bool P1.ic) := hw.2.cell 5; have hq6 : w.cell? ⟨w13.heap.size, 6, none⟩ = some (.bool P1.ii) := hw.2.cell 6; have hq7 : w.cell? ⟨w13.heap.size, 7, none⟩ = some (.slice xa xn xc) := hw.2.cell 7; go_simp⟩) hHeld ?_
                simp only [Act.put, List.getElem_toArray, List.getElem_cons_zero, List.getElem_cons_succ, List.setIfInBounds_toArray, List.set_cons_zero, List.set_cons_succ]
                refine wpAnyH_ready (rs := [6]) (by kernel_rfl) (by simp) ?_
                refine AllReadyH.cons (o := _) rfl (fun K hK => ?_) AllReadyH.nil
                go_simp
                refine (HSq.out).mono ?_
                rintro e w36 ⟨v36, rfl, o36, b36⟩
                obtain ⟨a36, n36, c36, rfl⟩ := o36.form3
                have HT36 : Hid (KZ lab4 w36 g R g' R' P3 P2 H3 q2.H (0 + 1048576 + 1048576) (0 + 1048576) (.slice xa xn xc) q2.H w10.heap.size w13.heap.size #[.bool P1.sh, .bool (P1.why != 0), .int .i64 P1.why, .bool P1.wc, .bool P1.wi, .bool P1.ic, .bool P1.ii, .slice sa hn sc] #[.bool P1.sh, .bool (P1.why != 0), .int .i64 P1.why, .bool P1.wc, .bool P1.wi, .bool P1.ic, .bool P1.ii, .slice xa xn xc] ∧ SV w36 w27.heap.size #[.bool P3.sh, .bool (P3.why != 0), .int .i64 P3.why, .bool P3.wc, .bool P3.wi, .bool P3.ic, .bool P3.ii, .slice ja jn jc] ∧ OW 0 w36 (.slice a36 n36 c36) q2.H ∧ Below w.heap.size w w36) := ⟨HT35.out.1.fr (S := fun _ => True) (Fm.Fr.of_below b36) (fun _ _ => trivial), HT35.out.2.1.keep b36, o36.mono (Nat.zero_le _), HT35.out.2.2.trans (b36.mono HT35.out.2.2.size)⟩
                clear o36 b36 HSq
                go_wp2_with fail
                refine hK.out _ _ (⟨HT36.out.2.1, HT36.out.1.s2⟩) (fun hHeld => ?_)
                clear hK K
                refine wpAnyH_ready (rs := [8]) (by kernel_rfl) (by simp) ?_
                refine AllReadyH.cons (o := _) rfl (fun K hK => ?_) AllReadyH.nil
                go_simp
                refine (stateSameT w36 P1.sh (P1.why != 0) P1.why P1.wc P1.wi P1.ic P1.ii (.slice a36 n36 c36) (.slice xa xn xc) q2.H HT36.out.2.2.1.rb HT36.out.1.ot.rb HT36.out.1.cq.hl).mono ?_
                rintro e w37 ⟨rfl, b37⟩
                have HB37 : Hid (Below w.heap.size w w37) := HT36.out.2.2.2.trans (b37.mono HT36.out.2.2.2.size)
                go_wp2_with fail
                refine hK.out _ _ (⟨HT36.out.2.1.keep b37, HT36.out.1.s2.keep b37⟩) (fun hHeld => ?_)
                clear hK K
                refine wpAnyH_take (i := 9) (v := .bool true) rfl (by kernel_rfl) (by kernel_rfl) (by kernel_rfl) (fun _ _ _ h => h) (Or.inl ⟨by rfl, fun w hw => by go_simp⟩) hHeld ?_
                simp only [Act.put, List.getElem_toArray, List.getElem_cons_zero, List.getElem_cons_succ, List.setIfInBounds_toArray, List.set_cons_zero, List.set_cons_succ]
                refine wpAnyH_take (i := 10) (v := .bool true) rfl (by kernel_rfl) (by kernel_rfl) (by kernel_rfl) (fun _ _ _ h => h) (Or.inl ⟨by rfl, fun w hw => by go_simp⟩) hHeld ?_
                simp only [Act.put, List.getElem_toArray, List.getElem_cons_zero, List.getElem_cons_succ, List.setIfInBounds_toArray, List.set_cons_zero, List.set_cons_succ]
                refine wpAnyH_done (by kernel_rfl) ?_ _
                clear hHeld
                go_wp2
                go_ret
                exact ⟨rfl, HB37.out⟩
  · have hp := HW5.out.1.2 hE
    have hp' := hpp'.2 hE
    subst hp hp'
    have q1 : (nwE b v L != 0) = true := by simp [hE]
    have HB6 := B6
    clear hpp' hnew' hE HW5 HC0 b6
    go_wp2_with (first | (go_at_call 11; refine (numLT _ _).mono ?_; rintro e w9 ⟨rfl, rfl⟩))
    go_wp2
    go_ret
    exact ⟨rfl, HB6.out⟩
end Go.Proofs.YtnmeohacdbmplaaGreatDoor
