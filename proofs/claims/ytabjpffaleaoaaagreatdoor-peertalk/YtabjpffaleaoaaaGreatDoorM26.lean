import Derived.Test.YtabjpffaleaoaaaGreatDoorM23
import Derived.Test.YtabjpffaleaoaaaGreatDoorM24
import Derived.BigQuiet
namespace Go.Proofs.YtabjpffaleaoaaaGreatDoor
open Go.RowKit
/-- what a stream that begins with a greeting says of handshakes -/
theorem rd_greet {hb more : List UInt8} (h48 : hb.length = 48) {met bs : List (List UInt8)} {h' : Bool} {r : List UInt8} {e : Int} (x : Fm.Rd true (Fm.sgn ++ hb ++ more) met bs h' r e) : met = [hb] := by
  have hs20 : Fm.sgn.length = 20 := rfl
  have hl : 68 ≤ (Fm.sgn ++ hb ++ more).length := by rw [List.length_append, List.length_append, h48, hs20]; omega
  have hh : Fm.hel (Fm.sgn ++ hb ++ more) = hb := by
    unfold Fm.hel
    rw [List.append_assoc, List.drop_left' hs20, List.take_left' h48]
  have hk : Fm.sok (Fm.sgn ++ hb ++ more) 0 = true := by
    unfold Fm.sok
    rw [show 20 - 0 = 20 from rfl, List.append_assoc, List.take_left' hs20, List.drop_zero, List.take_of_length_le (by rw [hs20, ← List.append_assoc]; omega)]
    simp
  cases x with
  | bad _ h => rw [hk] at h; cases h
  | few _ _ h => omega
  | hello _ met' _ _ _ _ _ _ y => rw [hh, (rd_facts y).1 rfl]
theorem decE_ne (y : List UInt8) : decE y ≠ 171 := by
  unfold decE
  split
  · decide
  · split
    · decide
    · split
      · split <;> decide
      · decide
theorem legE_ne (L : List Int) (b : Int) (ib : Bool) (m : Mv) (D : List UInt8) : legE L b ib m D ≠ 171 := by
  unfold legE
  repeat' split
  all_goals decide
theorem hr_ne {L : List Int} {pb : Int} {q q' : Qs} {bs : List (List UInt8)} {xs : List Mg} {e : Int} (h : Hr L pb q bs xs q' e) : e ≠ 171 := by
  induction h with
  | nil => decide
  | dec => exact decE_ne _
  | ill => exact legE_ne _ _ _ _ _
  | ok _ _ _ _ _ _ _ _ _ _ _ ih => exact ih
/-- what a connection that is new answers to a greeting and whatever comes with it -/
theorem FdE.greet {w : World} {g R : Nat} {P : Pv} {L : List Int} {H hb more : List UInt8} (hf : FP w g R P L H 2 0 [] (.slice none 0 0)) (h48 : hb.length = 48) {e : Ending} {w' : World} (h : FdE w g R P L H 2 0 [] (.slice none 0 0) (Fm.sgn ++ hb ++ more) e w') :
    ∃ ev fin P' H', e = .returned (.tuple #[ev, .int .i64 fin]) ∧ PK w' g P' ∧ P'.why = fin ∧ P'.b = P.b ∧ RB w' P'.hs H' ∧ H'.length ≤ 140737488351232 ∧ Fm.Fr (fun k => k ≠ g ∧ k ≠ R) w w' ∧
      ((hinf hb ≠ P.info ∧ ev = .slice none 0 0 ∧ fin = 171 ∧ P'.sh = P.sh) ∨
       (hinf hb = P.info ∧ fin ≠ 171 ∧ P'.sh = true ∧ ∃ k n c, ev = .slice (some ⟨k, 0, none⟩) (n + 1) c ∧ w.heap.size ≤ k ∧ k < w'.heap.size ∧ w'.cell? ⟨k, 0, none⟩ = some (.bool true) ∧ w'.rangeAt k 1 (Lib.byteCells (hpeer hb)))) := by
  obtain ⟨ev, fin, mv, bsv, er, met, bs, h', r, p', s', held', hv', w1, er1, w2, rfl, po, hrs, hfin, hend⟩ := h
  obtain ⟨hc1, _, _⟩ := hf.hc po.fr
  have hmet : met = [hb] := rd_greet h48 (by
    have := po.rd
    rwa [show Fm.tx 2 0 [] = [] from rfl, List.nil_append] at this)
  have fr1 : Fm.Fr (fun k => k ≠ g ∧ k ≠ R) w w1 := po.fr.mono (fun k _ h => ⟨h.2, nd k⟩)
  have key : ∃ P' H', HC w2 g P' L H' ∧ P'.why = 0 ∧ P'.b = P.b ∧ Fm.Fr (fun k => k ≠ g) w1 w2 ∧
      ((hinf hb ≠ P.info ∧ ev = .slice none 0 0 ∧ fin = 171 ∧ P'.sh = P.sh) ∨
       (hinf hb = P.info ∧ fin ≠ 171 ∧ P'.sh = true ∧ ∃ k n c, ev = .slice (some ⟨k, 0, none⟩) (n + 1) c ∧ w1.heap.size ≤ k ∧ k < w2.heap.size ∧ w2.cell? ⟨k, 0, none⟩ = some (.bool true) ∧ w2.rangeAt k 1 (Lib.byteCells (hpeer hb)))) := by
    rcases hrs with ⟨h0, _⟩ | ⟨h, h1, hx⟩
    · rw [hmet] at h0; cases h0
    obtain rfl : hb = h := by rw [hmet] at h1; simpa using h1
    rcases hx with ⟨hi, he, h171, hbw⟩ | ⟨hi, fr2, es, xs, q', P', hvs, hem, hr, hc, hP', ho⟩
    · exact ⟨P, H, hc1.below hbw, hf.why, rfl, Fm.Fr.of_below hbw, .inl ⟨hi, he, by rw [hfin, h171]; rfl, rfl⟩⟩
    · refine ⟨P', _, hc, by rw [hP']; exact hf.why, by rw [hP'], fr2, .inr ⟨hi, ?_, by rw [hP'], ?_⟩⟩
      · rw [hfin]
        split
        · rcases po.er with h | h | h <;> rw [h] <;> decide
        · exact hr_ne hr
      · have hrow := hvs.1
        rcases hrow.2 with ⟨_, h0⟩ | ⟨k, cap, cur, hvv, hk, h3, _⟩
        · simp at h0
        · have hlen : ([hev hb] ++ es).length = es.length + 1 := by simp
          have hat : ∀ j u, (Ev.ls (hev hb))[j]? = some u → w2.cell? ⟨k, j, none⟩ = some u := fun j u hu => by
            have hj := (List.getElem?_eq_some_iff.1 hu).1
            have q := World.ownsRow.cellAt (hvv ▸ hrow) j (by
              have h61 : (Ev.ls (hev hb)).length = 61 := Ev.len (hvs.2 _ (by simp))
              rw [hlen]; omega)
            rw [q, List.flatMap_append, List.flatMap_cons, List.flatMap_nil, List.append_nil, List.getElem?_append_left hj, hu]
          refine ⟨k, es.length, cap, by rw [hvv, hlen], hk, (Array.getElem?_eq_some_iff.1 h3).1, hat 0 _ rfl, fun j u hu => ?_⟩
          rw [Nat.add_comm]
          refine hat (j + 1) u ?_
          unfold Ev.ls
          rw [List.getElem?_cons_succ]
          have hj := (List.getElem?_eq_some_iff.1 hu).1
          show (Lib.byteCells (hpeer hb) ++ _)[j]? = _
          rw [List.getElem?_append_left hj]
          exact hu
  obtain ⟨P', H', hc, hw, hb', fr2, hx⟩ := key
  have fr12 : Fm.Fr (fun k => k ≠ g ∧ k ≠ R) w w2 := fr1.trans (fr2.mono (fun k _ (h : k ≠ g ∧ k ≠ R) => h.1)) (fun _ _ x => x)
  have hgw : g < w1.heap.size := hc1.pk.lt
  rcases hend with ⟨h0, rfl⟩ | ⟨h0, P1, k1, k2, fr3⟩
  · refine ⟨ev, fin, P', H', rfl, hc.pk, by rw [hw, h0], hb', hc.hz.now, hc.hl, fr12, hx.imp id ?_⟩
    rintro ⟨a1, a2, a3, k, n, c, a4, a5, a6⟩
    exact ⟨a1, a2, a3, k, n, c, a4, Nat.le_trans fr1.size a5, a6⟩
  · have e1 : P1.hs = P'.hs := by
      have x := k1.cells.2.2.2.2.2
      have y := hc.pk.cells.2.2.2.2.2
      rw [x] at y
      simpa using y
    have e2 : P1.b = P'.b := by
      have x := k1.cells.1
      have y := hc.pk.cells.1
      rw [x] at y
      simpa using y
    have e3 : P1.sh = P'.sh := by
      have x := k1.cells.2.2.2.1
      have y := hc.pk.cells.2.2.2.1
      rw [x] at y
      simpa using y
    refine ⟨ev, fin, _, H', rfl, k2, rfl, by show P1.b = _; rw [e2, hb'], by show RB w' P1.hs H'; rw [e1]; exact hc.hz w' (Fe.of_fr fr3), hc.hl, fr12.trans (fr3.mono (fun k _ (h : k ≠ g ∧ k ≠ R) => h.1)) (fun _ _ x => x), hx.imp ?_ ?_⟩
    · rintro ⟨a1, a2, a3, a4⟩
      exact ⟨a1, a2, a3, by show P1.sh = _; rw [e3, a4]⟩
    · rintro ⟨a1, a2, a3, k, n, c, a4, a5, a6, a7, a8⟩
      have hb3 := fr3.block k a6 (fun e => by omega)
      exact ⟨a1, a2, by show P1.sh = _; rw [e3, a3], k, n, c, a4, Nat.le_trans fr1.size a5, Nat.lt_of_lt_of_le a6 fr3.size, (World.cell?_of_block (w := w2) hb3).trans a7, fun j u hu => (World.cell?_of_block (w := w2) hb3).trans (a8 j u hu)⟩
end Go.Proofs.YtabjpffaleaoaaaGreatDoor
namespace Go.Proofs.YtabjpffaleaoaaaGreatDoor
open Go.RowKit
theorem load_hello_if {ops : Array Oper} {rest : List Oper} {o : Oper} {a : Act} {w : World} {Q : Exit → Act → World → Prop} (hw : Region.wanted o (yielded ops a.tmps) = true) (x : Operand) (ho : o.op = .load 30 x)
    (g : Nat) (hx : a.eval x = .pointer (some ⟨g, 0, none⟩)) (r : List UInt8) (hg : w.heap[g]? = some (.cells (bc r) 30 (0, 0))) (hl : r.length = 48)
    (h : wpList Tryz.prog ops Q rest (a.put o.dst (.agg (bc r))) w) : wpList Tryz.prog ops Q (o :: rest) a w := by
  unfold wpList
  rw [if_pos hw]
  exact .inl (wp_load_row 30 x ho g hx 30 (bc r) (0, 0) _ hg Tryz.underlying30 rfl (Fm.info_hello hl) h)
/-- are the first n bytes of the infohash those of the handshake? -/
def ours (hb hb0 : List UInt8) (n : Nat) : Bool := (List.range n).all fun j => byt hb (8 + j) == byt hb0 j
theorem ours_succ (hb hb0 : List UInt8) (n : Nat) : ours hb hb0 (n + 1) = (ours hb hb0 n && (byt hb (8 + n) == byt hb0 n)) := by
  simp [ours, List.range_succ]
theorem ours_all (hb hb0 : List UInt8) (h48 : hb.length = 48) (h32 : hb0.length = 32) : ours hb hb0 20 = decide (hinf hb = hb0.take 20) := by
  rw [Bool.eq_iff_iff]
  simp only [ours, List.all_eq_true, List.mem_range, beq_iff_eq, decide_eq_true_eq]
  have key : ∀ j, j < 20 → (hinf hb)[j]? = some (byt hb (8 + j)) ∧ (hb0.take 20)[j]? = some (byt hb0 j) := fun j hj => by
    constructor
    · unfold hinf
      rw [List.getElem?_take_of_lt hj, List.getElem?_drop]
      simp [byt, List.getD, List.getElem?_eq_getElem (show 8 + j < hb.length by omega)]
    · rw [List.getElem?_take_of_lt hj]
      simp [byt, List.getD, List.getElem?_eq_getElem (show j < hb0.length by omega)]
  constructor
  · intro h
    apply List.ext_getElem?
    intro j
    by_cases hj : j < 20
    · rw [(key j hj).1, (key j hj).2, h j hj]
    · have l1 : (hinf hb).length = 20 := by unfold hinf; rw [List.length_take, List.length_drop]; omega
      have l2 : (hb0.take 20).length = 20 := by rw [List.length_take]; omega
      rw [List.getElem?_eq_none (by omega), List.getElem?_eq_none (by omega)]
  · intro h j hj
    have := (key j hj).1
    rw [h, (key j hj).2] at this
    exact (Option.some.inj this).symm
theorem bcell {w : World} {g : Nat} {t : TypeId} {l : List UInt8} (h : w.heap[g]? = some (.cells (bc l) t (0, 0))) (j : Nat) (hj : j < l.length) : w.cell? ⟨g, j, none⟩ = some (.int .u8 ((byt l j).toNat : Int)) := by
  unfold World.cell?
  simp only [h, bc]
  rw [List.getElem?_toArray]
  simp [Lib.byteCells, byt, List.getD, List.getElem?_eq_getElem hj]
set_option maxHeartbeats 2000000 in
set_option maxRecDepth 100000 in
theorem strangerT (w : World) (hkt : KT w) (hmt : Bs.MT w) (b v : Int) (hb0 : List UInt8) (h320 : hb0.length = 32) (lv : Value) (L : List Int) (hl : L.length * 8 ≤ 140737488351232) (hr : Bs.RZ w lv L) (hb : List UInt8) (h48 : hb.length = 48) (mv : Value) (lm : List UInt8) (hmr : RB w mv lm) (hll : lm.length ≤ 16777000) :
    Calls Tryz.prog 3 #[Bs.sc b v, .agg (bc hb0), lv, .agg (bc hb), mv] w fun e w' => e = .returned (.bool true) ∧ Below w.heap.size w w' := by
  have HA : Hid (∀ u, Below w.heap.size w u → Calls Tryz.prog 9 #[] u fun e w' => e = .returned (.bool true) ∧ Below u.heap.size u w') := fun u hu => awakeT u (hkt.below hu hkt.pos) (hmt.keep hu)
  have HC0 := Lib.hid (And.intro hkt (And.intro hmt (And.intro hr hmr)))
  clear hkt hmt hr hmr
  go_enter Tryz.func3, Tryz.ntmps3
  go_wp2_with fail
  obtain ⟨u0, hu0⟩ : ∃ x, x = ((w.alloc (Obj.cells #[Value.int IntKind.i64 b, Value.int IntKind.i64 v] 23)).alloc (Obj.cells (bc hb0) 25)).alloc (Obj.cells (bc hb) 30) := ⟨_, rfl⟩
  have B0 : Hid (Below w.heap.size w u0) := by
    rw [hu0]
    exact (((Below.refl _ _).alloc (Nat.le_refl _) _).alloc (by simp) _).alloc (by simp; omega) _
  rw [← hu0]
  refine (HA.out u0 B0.out).mono ?_
  rintro e w1 ⟨rfl, b1⟩
  have hs0 : u0.heap[w.heap.size]? = some (.cells #[.int .i64 b, .int .i64 v] 23) ∧ u0.heap[w.heap.size + 1]? = some (.cells (bc hb0) 25) ∧ u0.heap[w.heap.size + 1 + 1]? = some (.cells (bc hb) 30) ∧ u0.heap.size = w.heap.size + 3 := by
    rw [hu0]
    exact three w _ _ _
  have HS1 : Hid (w1.heap[w.heap.size]? = some (.cells #[.int .i64 b, .int .i64 v] 23) ∧ w1.heap[w.heap.size + 1]? = some (.cells (bc hb0) 25) ∧ w1.heap[w.heap.size + 1 + 1]? = some (.cells (bc hb) 30)) := ⟨(b1.block _ (by omega)).trans hs0.1, (b1.block _ (by omega)).trans hs0.2.1, (b1.block _ (by omega)).trans hs0.2.2.1⟩
  have B1 : Hid (Below w.heap.size w w1) := B0.out.trans (b1.mono B0.out.size)
  have HZ1 : Hid (w.heap.size + 3 ≤ w1.heap.size) := by have := b1.size; show _ ≤ _; omega
  have hN := newP b v hb0 h320 lv L w1 hl (HC0.out.2.2.1.keep B1.out) (HC0.out.1.below B1.out HC0.out.1.pos) (HC0.out.2.1.keep B1.out)
  have HN := Lib.hid hN
  have hsc := HS1.out.1
  have hsh := HS1.out.2.1
  have c0 : w1.cell? ⟨w.heap.size, 0, none⟩ = some (.int .i64 b) := by unfold World.cell?; simp only [hsc]; rfl
  have c1 : w1.cell? ⟨w.heap.size, 1, none⟩ = some (.int .i64 v) := by unfold World.cell?; simp only [hsc]; rfl
  clear hN b1 hs0 hu0 HA hsc
  go_wp2_with (first | (refine load_hash_if rfl _ rfl (w.heap.size + 1) rfl hb0 hsh h320 ?_))
  refine HN.out.mono ?_
  rintro e w2 ⟨p, rfl, hpp, b2, hnew⟩
  have B2 : Hid (Below w.heap.size w w2) := B1.out.trans (b2.mono B1.out.size)
  by_cases hE : nwE b v L = 0
  · obtain ⟨g, R, P, rfl, hg, hf, hi, hpb, hsh0, _⟩ := hnew hE
    rw [hE]
    have HF := Lib.hid hf
    have HG : Hid (w1.heap.size ≤ g ∧ P.b = b ∧ w.heap.size + 3 ≤ w1.heap.size ∧ P.info = hb0.take 20 ∧ P.sh = false) := ⟨hg, hpb, HZ1.out, hi, hsh0⟩
    have HS2 : Hid (w2.heap[w.heap.size + 1]? = some (.cells (bc hb0) 25) ∧ w2.heap[w.heap.size + 1 + 1]? = some (.cells (bc hb) 30)) := by
      have := HZ1.out
      exact ⟨(b2.block _ (by omega)).trans HS1.out.2.1, (b2.block _ (by omega)).trans HS1.out.2.2⟩
    obtain ⟨ma, mc, rfl, _⟩ := HC0.out.2.2.2
    clear hf hg hpb hi hsh0 hpp hnew hE hsh c0 c1 HN b2
    go_wp2_with (first | (go_at_call 11; refine (numLT _ _).mono ?_; rintro e w9 ⟨rfl, rfl⟩))
    go_loopw [14, 15] (fun o i wr => ∃ k nq : Nat, k ≤ 20 ∧ i = .int .i64 k ∧ o = .bool (ours hb hb0 k) ∧ wr = w2.drewN nq) (fun _ i _ => 20 - (intOf i).toNat)
    case atStart => exact ⟨0, 0, Nat.zero_le _, rfl, rfl, rfl⟩
    case round =>
      obtain ⟨k, nq, hk, rfl, rfl, rfl⟩ := hrel
      by_cases hlt : k < 20
      · have g1 := bcell HS2.out.2 (8 + k) (by omega)
        have g2 := bcell HS2.out.1 k (by omega)
        have e1 : (ours hb hb0 k && decide (((byt hb (8 + k)).toNat : Int) = ((byt hb0 k).toNat : Int))) = ours hb hb0 (k + 1) := by
          rw [ours_succ]
          congr 1
          rw [Bool.eq_iff_iff]
          simp only [decide_eq_true_eq, beq_iff_eq]
          constructor
          · intro h; exact UInt8.toNat_inj.1 (by omega)
          · intro h; rw [h]
        have HE1 := Lib.hid e1
        clear e1
        generalize ((byt hb (8 + k)).toNat : Int) = x at g1 HE1
        generalize ((byt hb0 k).toNat : Int) = y at g2 HE1
        clear HS2 HF HG HC0 HS1 B0 B1 B2 HZ1
        cases hO : ours hb hb0 k with
        | true =>
          rw [hO] at HE1
          by_cases hxy : x = y
          · subst hxy
            go_wp2
            go_quiet (fail)
            go_wp2
            exact ⟨⟨k + 1, _, by omega, by go_num, by rw [← HE1.out]; simp, rfl⟩, by simp [intOf]; omega⟩
          · have hd : decide (x = y) = false := by simpa using hxy
            go_wp2
            go_quiet (fail)
            go_wp2
            exact ⟨⟨k + 1, _, by omega, by go_num, by rw [← HE1.out]; simp [hxy], rfl⟩, by simp [intOf]; omega⟩
        | false =>
          rw [hO] at HE1
          go_wp2
          go_quiet (fail)
          go_wp2
          exact ⟨⟨k + 1, _, by omega, by go_num, by rw [← HE1.out]; simp, rfl⟩, by simp [intOf]; omega⟩
      · obtain rfl : k = 20 := by omega
        have hoo := ours_all hb hb0 h48 h320
        rw [← HG.out.2.2.2.1] at hoo
        have HO := Lib.hid hoo
        obtain ⟨oo, hoe⟩ : ∃ x, x = ours hb hb0 20 := ⟨_, rfl⟩
        rw [← hoe] at HO
        rw [← hoe]
        clear hoo hoe
        obtain ⟨u2, hu2⟩ : ∃ x, x = w2.drewN nq := ⟨_, rfl⟩
        have BD : Hid (Below w2.heap.size w2 u2) := by rw [hu2]; exact belowDrew _ _
        rw [← hu2]
        clear hu2
        have HLT : Hid (w.heap.size + 3 ≤ w2.heap.size) := by
          have h1 := HG.out.2.2.1
          have h2 := HF.out.pk.lt
          have h3 := HG.out.1
          show _ ≤ _
          omega
        have hhl : u2.heap[w.heap.size + 1 + 1]? = some (.cells (bc hb) 30) := (BD.out.block _ (by have := HLT.out; omega)).trans HS2.out.2
        have HGr := Lib.hid (Fm.greet hb h48 u2)
        have h68 : (Fm.sgn ++ hb).length = 68 := by rw [List.length_append, h48]; rfl
        clear HS2
        go_wp2_with (first | (refine load_hello_if rfl _ rfl (w.heap.size + 1 + 1) rfl hb hhl h48 ?_))
        refine HGr.out.mono ?_
        rintro e w3 ⟨v3, rfl, o3, b3⟩
        have B3 : Hid (Below w2.heap.size w2 w3) := BD.out.trans (b3.mono BD.out.size)
        have HO3 := Lib.hid o3
        clear HGr b3 o3
        go_upto_region 14 with (first | (refine append_bytes (B := w3.heap.size) (l := []) rfl _ _ rfl rfl (World.ownsRow_nil _ _ _ _) rfl HO3.out.rb (Nat.le_refl _) (by rw [h68]; simp) ?_; intro v4 w4 o4 b4))
        have B4 : Hid (Below w2.heap.size w2 w4) := B3.out.trans (b4.mono B3.out.size)
        have HZ4 : Hid (w3.heap.size ≤ w4.heap.size) := b4.size
        have HO4 := Lib.hid o4
        clear b4 o4
        have HM4 : Hid (RB w4 (.slice ma lm.length mc) lm) := HC0.out.2.2.2.keep (B2.out.trans (B4.out.mono B2.out.size))
        go_upto_region 15 with (first | (refine append_bytes (B := w3.heap.size) (m := lm) rfl _ _ rfl rfl HO4.out rfl HM4.out HZ4.out (by rw [List.nil_append, h68]; omega) ?_; intro v5 w5 o5 b5))
        have B5 : Hid (Below w2.heap.size w2 w5) := B4.out.trans (b5.mono (Nat.le_trans B3.out.size (Nat.le_refl _)))
        have hfd := feedT w5 g R P L _ 2 0 [] (.slice none 0 0) (HF.out.below B5.out) v5 (Fm.sgn ++ hb ++ lm) (Fm.rn_free (by have := o5.rb; rwa [List.nil_append] at this)) (by rw [List.length_append, h68]; omega)
        have HFd := Lib.hid hfd
        have HF5 := Lib.hid (HF.out.below B5.out)
        clear hfd o5 b5 HO4 HO3 HM4
        go_wp2_with fail
        refine HFd.out.mono ?_
        intro e w6 hx
        obtain ⟨ev, fin, P6, H6, rfl, k6', hw6, hb6, r6, l6, fr6, hcase⟩ := FdE.greet HF5.out h48 hx
        have hbp : 0 < P6.b := by have := HF.out.b0; omega
        have HSt := Lib.hid (stateT w6 g P6 k6' hbp H6 r6 l6)
        have B6 : Hid (Below w.heap.size w w6) := by
          have h1 := HG.out
          have h2 := HF.out.gR
          have h3 := HLT.out
          exact below_fr (B2.out.trans (B5.out.mono B2.out.size)) fr6 (Nat.le_trans B2.out.size B5.out.size) (fun k hk => ⟨by omega, by omega⟩)
        have HH6 : Hid (w6.heap[w.heap.size + 1 + 1]? = some (.cells (bc hb) 30)) := by
          have h1 := HG.out
          have h2 := HF.out.gR
          have h3 := HLT.out
          have h4 := B5.out.size
          have h5 := BD.out.size
          exact (fr6.block _ (by omega) ⟨by omega, by omega⟩).trans ((B5.out.block _ (by omega)).trans ((BD.out.block _ (by omega)).symm.trans hhl))
        have HP6 := Lib.hid hw6
        clear hx fr6 HFd k6' r6 l6 hb6 hw6 HF5 hbp hhl
        rcases hcase with ⟨hi6, rfl, rfl, hs6⟩ | ⟨hi6, hf6, hs6, k6, n6, c6, rfl, hk6, hk6', hc6, hr6⟩
        · have hoF : oo = false := HO.out.trans (decide_eq_false hi6)
          have hsF : P6.sh = false := hs6.trans HG.out.2.2.2.2
          rw [hsF, HP6.out] at HSt
          subst hoF
          clear HC0 HF HG HO hi6 hs6
          go_wp2_with fail
          refine HSt.out.mono ?_
          rintro e w7 ⟨v7, rfl, o7, b7⟩
          obtain ⟨a7, c7, rfl⟩ := o7.form
          have HB8 : Hid (∀ o, Below w.heap.size w (w7.alloc o)) := fun o => B6.out.trans ((b7.trans (((Below.refl _ _).alloc (Nat.le_refl _) o).mono b7.size)).mono B6.out.size)
          clear o7 b7 HSt
          go_wp2_with (first | (go_at_call 11; refine (numLT _ _).mono ?_; rintro e w9 ⟨rfl, rfl⟩))
          go_wp2
          go_ret
          exact ⟨rfl, HB8.out _⟩
        · have hoT : oo = true := HO.out.trans (decide_eq_true hi6)
          rw [hs6, HP6.out] at HSt
          subst hoT
          have q4 : (fin != 171) = true := by simpa using hf6
          have HC6 : Hid (k6 < w6.heap.size ∧ w6.cell? ⟨k6, 0, none⟩ = some (.bool true) ∧ w6.rangeAt k6 1 (Lib.byteCells (hpeer hb))) := ⟨hk6', hc6, hr6⟩
          have hl20 := hpeer_len h48
          have hi20 : (Tryz.prog.info? 28).map (·.size) = some (Lib.byteCells (hpeer hb)).length := by rw [bcl_len, hl20]; exact info20
          clear HC0 HF HG HO hi6 hs6 hk6 hk6' hc6 hr6 hf6
          go_wp2_with fail
          refine HSt.out.mono ?_
          rintro e w7 ⟨v7, rfl, o7, b7⟩
          obtain ⟨a7, c7, rfl⟩ := o7.form
          obtain ⟨w8, hw8⟩ : ∃ x, x = w7.alloc (.cells #[.bool true, .bool (fin != 0), .int .i64 fin, .bool P6.wc, .bool P6.wi, .bool P6.ic, .bool P6.ii, .slice a7 H6.length c7] 43) := ⟨_, rfl⟩
          have b8 : Below w6.heap.size w6 w8 := by rw [hw8]; exact b7.trans (((Below.refl _ _).alloc (Nat.le_refl _) _).mono b7.size)
          have HB8 : Hid (Below w.heap.size w (w8.drewN 1)) := belowN (B6.out.trans (b8.mono B6.out.size)) 1
          have HV8 : Hid (w8.cell? ⟨k6, 0, none⟩ = some (.bool true) ∧ w8.rangeAt k6 1 (Lib.byteCells (hpeer hb)) ∧ w8.rangeAt (w.heap.size + 1 + 1) 28 (Lib.byteCells (hpeer hb)) ∧ w8.cell? ⟨w7.heap.size, 0, none⟩ = some (.bool true)) := by
            have hk := b8.block k6 HC6.out.1
            refine ⟨(World.cell?_of_block (w := w6) hk).trans HC6.out.2.1, fun j u hu => (World.cell?_of_block (w := w6) hk).trans (HC6.out.2.2 j u hu), (hparts ((b8.block _ (Array.getElem?_eq_some_iff.1 HH6.out).1).trans HH6.out)).2, ?_⟩
            rw [hw8]
            unfold World.cell?
            rw [heapNew]
            rfl
          clear o7 b7 HSt b8 HC6
          go_upto_region 19 with fail
          rw [← hw8]
          clear hw8
          refine wp_region_held_drew (S := fun u => u.cell? ⟨k6, 0, none⟩ = some (.bool true) ∧ u.rangeAt k6 1 (Lib.byteCells (hpeer hb)) ∧ u.rangeAt (w.heap.size + 1 + 1) 28 (Lib.byteCells (hpeer hb)) ∧ u.cell? ⟨w7.heap.size, 0, none⟩ = some (.bool true)) (by kernel_rfl) (HV8.out) (fun hHeld => ?_)
          refine wpAnyH_take (i := 0) (v := .slice (some ⟨k6, 0, none⟩) (n6 + 1) c6) rfl (by kernel_rfl) (by kernel_rfl) (by kernel_rfl) (fun _ _ _ h => h) (Or.inl ⟨by rfl, fun w hw => by go_simp⟩) hHeld ?_
          simp only [Act.put, List.getElem_toArray, List.getElem_cons_zero, List.setIfInBounds_toArray, List.set_cons_zero, List.set_cons_succ]
          refine wpAnyH_take (i := 1) (v := .int .i64 ((n6 + 1 : Nat) : Int)) rfl (by kernel_rfl) (by kernel_rfl) (by kernel_rfl) (fun _ _ _ h => h) (Or.inl ⟨by rfl, fun w hw => by go_simp⟩) hHeld ?_
          simp only [Act.put, List.getElem_toArray, List.getElem_cons_zero, List.getElem_cons_succ, List.setIfInBounds_toArray, List.set_cons_zero, List.set_cons_succ]
          refine wpAnyH_take (i := 2) (v := .bool true) rfl (by kernel_rfl) (by kernel_rfl) (by kernel_rfl) (fun _ _ _ h => h) (Or.inl ⟨by rfl, fun w hw => by have hq : ((0 : Int) < ((n6 + 1 : Nat) : Int)) := (by omega); go_simp⟩) hHeld ?_
          simp only [Act.put, List.getElem_toArray, List.getElem_cons_zero, List.getElem_cons_succ, List.setIfInBounds_toArray, List.set_cons_zero, List.set_cons_succ]
          refine wpAnyH_take (i := 3) (v := .bool true) rfl (by kernel_rfl) (by kernel_rfl) (by kernel_rfl) (fun _ _ _ h => h) (Or.inl ⟨by rfl, fun w hw => by go_simp⟩) hHeld ?_
          simp only [Act.put, List.getElem_toArray, List.getElem_cons_zero, List.getElem_cons_succ, List.setIfInBounds_toArray, List.set_cons_zero, List.set_cons_succ]
          refine wpAnyH_take (i := 4) (v := .slice (some ⟨k6, 0, none⟩) (n6 + 1) c6) rfl (by kernel_rfl) (by kernel_rfl) (by kernel_rfl) (fun _ _ _ h => h) (Or.inl ⟨by rfl, fun w hw => by go_simp⟩) hHeld ?_
          simp only [Act.put, List.getElem_toArray, List.getElem_cons_zero, List.getElem_cons_succ, List.setIfInBounds_toArray, List.set_cons_zero, List.set_cons_succ]
          refine wpAnyH_take (i := 5) (v := .pointer (some ⟨k6, 0, none⟩)) rfl (by kernel_rfl) (by kernel_rfl) (by kernel_rfl) (fun _ _ _ h => h) (Or.inl ⟨by rfl, fun w hw => by have hq : ((0 : Int) < ((n6 + 1 : Nat) : Int)) := (by omega); go_simp⟩) hHeld ?_
          simp only [Act.put, List.getElem_toArray, List.getElem_cons_zero, List.getElem_cons_succ, List.setIfInBounds_toArray, List.set_cons_zero, List.set_cons_succ]
          refine wpAnyH_take (i := 6) (v := .pointer (some ⟨k6, 0, none⟩)) rfl (by kernel_rfl) (by kernel_rfl) (by kernel_rfl) (fun _ _ _ h => h) (Or.inl ⟨by rfl, fun w hw => by go_simp⟩) hHeld ?_
          simp only [Act.put, List.getElem_toArray, List.getElem_cons_zero, List.getElem_cons_succ, List.setIfInBounds_toArray, List.set_cons_zero, List.set_cons_succ]
          refine wpAnyH_take (i := 7) (v := .bool true) rfl (by kernel_rfl) (by kernel_rfl) (by kernel_rfl) (fun _ _ _ h => h) (Or.inl ⟨by rfl, fun w hw => by have hq := hw.1; go_simp⟩) hHeld ?_
          simp only [Act.put, List.getElem_toArray, List.getElem_cons_zero, List.getElem_cons_succ, List.setIfInBounds_toArray, List.set_cons_zero, List.set_cons_succ]
          refine wpAnyH_take (i := 8) (v := .bool true) rfl (by kernel_rfl) (by kernel_rfl) (by kernel_rfl) (fun _ _ _ h => h) (Or.inl ⟨by rfl, fun w hw => by go_simp⟩) hHeld ?_
          simp only [Act.put, List.getElem_toArray, List.getElem_cons_zero, List.getElem_cons_succ, List.setIfInBounds_toArray, List.set_cons_zero, List.set_cons_succ]
          refine wpAnyH_take (i := 9) (v := .bool true) rfl (by kernel_rfl) (by kernel_rfl) (by kernel_rfl) (fun _ _ _ h => h) (Or.inl ⟨by rfl, fun w hw => by go_simp⟩) hHeld ?_
          simp only [Act.put, List.getElem_toArray, List.getElem_cons_zero, List.getElem_cons_succ, List.setIfInBounds_toArray, List.set_cons_zero, List.set_cons_succ]
          refine wpAnyH_take (i := 10) (v := .slice (some ⟨k6, 0, none⟩) (n6 + 1) c6) rfl (by kernel_rfl) (by kernel_rfl) (by kernel_rfl) (fun _ _ _ h => h) (Or.inl ⟨by rfl, fun w hw => by go_simp⟩) hHeld ?_
          simp only [Act.put, List.getElem_toArray, List.getElem_cons_zero, List.getElem_cons_succ, List.setIfInBounds_toArray, List.set_cons_zero, List.set_cons_succ]
          refine wpAnyH_take (i := 11) (v := .pointer (some ⟨k6, 0, none⟩)) rfl (by kernel_rfl) (by kernel_rfl) (by kernel_rfl) (fun _ _ _ h => h) (Or.inl ⟨by rfl, fun w hw => by have hq : ((0 : Int) < ((n6 + 1 : Nat) : Int)) := (by omega); go_simp⟩) hHeld ?_
          simp only [Act.put, List.getElem_toArray, List.getElem_cons_zero, List.getElem_cons_succ, List.setIfInBounds_toArray, List.set_cons_zero, List.set_cons_succ]
          refine wpAnyH_take (i := 12) (v := .pointer (some ⟨k6, 1, none⟩)) rfl (by kernel_rfl) (by kernel_rfl) (by kernel_rfl) (fun _ _ _ h => h) (Or.inl ⟨by rfl, fun w hw => by go_simp⟩) hHeld ?_
          simp only [Act.put, List.getElem_toArray, List.getElem_cons_zero, List.getElem_cons_succ, List.setIfInBounds_toArray, List.set_cons_zero, List.set_cons_succ]
          refine wpAnyH_take (i := 13) (v := .agg (bc (hpeer hb))) rfl (by kernel_rfl) (by kernel_rfl) (by kernel_rfl) (fun _ _ _ h => h) (yieldsIf_load_mid (by rfl) _ _ rfl _ _ rfl _ _ (fun u hw => hw.2.1) Tryz.underlying28 rfl hi20) hHeld ?_
          simp only [Act.put, List.getElem_toArray, List.getElem_cons_zero, List.getElem_cons_succ, List.setIfInBounds_toArray, List.set_cons_zero, List.set_cons_succ]
          refine wpAnyH_take (i := 14) (v := .pointer (some ⟨w.heap.size + 1 + 1, 28, none⟩)) rfl (by kernel_rfl) (by kernel_rfl) (by kernel_rfl) (fun _ _ _ h => h) (Or.inl ⟨by rfl, fun w hw => by go_simp⟩) hHeld ?_
          simp only [Act.put, List.getElem_toArray, List.getElem_cons_zero, List.getElem_cons_succ, List.setIfInBounds_toArray, List.set_cons_zero, List.set_cons_succ]
          refine wpAnyH_take (i := 15) (v := .agg (bc (hpeer hb))) rfl (by kernel_rfl) (by kernel_rfl) (by kernel_rfl) (fun _ _ _ h => h) (yieldsIf_load_mid (by rfl) _ _ rfl _ _ rfl _ _ (fun u hw => hw.2.2.1) Tryz.underlying28 rfl hi20) hHeld ?_
          simp only [Act.put, List.getElem_toArray, List.getElem_cons_zero, List.getElem_cons_succ, List.setIfInBounds_toArray, List.set_cons_zero, List.set_cons_succ]
          refine wpAnyH_take (i := 16) (v := .bool true) rfl (by kernel_rfl) (by kernel_rfl) (by kernel_rfl) (fun _ _ _ h => h) (Or.inl ⟨by rfl, fun w hw => by have hq := equal_20 w 9998 (hpeer hb) (hpeer hb) hl20 hl20; rw [decide_eq_true rfl] at hq; go_simp⟩) hHeld ?_
          simp only [Act.put, List.getElem_toArray, List.getElem_cons_zero, List.getElem_cons_succ, List.setIfInBounds_toArray, List.set_cons_zero, List.set_cons_succ]
          refine wpAnyH_take (i := 17) (v := .bool true) rfl (by kernel_rfl) (by kernel_rfl) (by kernel_rfl) (fun _ _ _ h => h) (Or.inl ⟨by rfl, fun w hw => by go_simp⟩) hHeld ?_
          simp only [Act.put, List.getElem_toArray, List.getElem_cons_zero, List.getElem_cons_succ, List.setIfInBounds_toArray, List.set_cons_zero, List.set_cons_succ]
          refine wpAnyH_take (i := 18) (v := .bool true) rfl (by kernel_rfl) (by kernel_rfl) (by kernel_rfl) (fun _ _ _ h => h) (Or.inl ⟨by rfl, fun w hw => by go_simp⟩) hHeld ?_
          simp only [Act.put, List.getElem_toArray, List.getElem_cons_zero, List.getElem_cons_succ, List.setIfInBounds_toArray, List.set_cons_zero, List.set_cons_succ]
          refine wpAnyH_take (i := 19) (v := .int .i64 fin) rfl (by kernel_rfl) (by kernel_rfl) (by kernel_rfl) (fun _ _ _ h => h) (Or.inl ⟨by rfl, fun w hw => by go_simp⟩) hHeld ?_
          simp only [Act.put, List.getElem_toArray, List.getElem_cons_zero, List.getElem_cons_succ, List.setIfInBounds_toArray, List.set_cons_zero, List.set_cons_succ]
          refine wpAnyH_ready (rs := [20]) (by kernel_rfl) (by simp) ?_
          refine AllReadyH.cons (o := _) rfl (fun K hK => ?_) AllReadyH.nil
          go_simp
          refine (numLT _ _).mono ?_
          rintro e w9 ⟨rfl, rfl⟩
          go_wp2_with fail
          refine hK.out _ _ (HV8.out) (fun hHeld => ?_)
          clear hK K
          refine wpAnyH_take (i := 21) (v := .bool true) rfl (by kernel_rfl) (by kernel_rfl) (by kernel_rfl) (fun _ _ _ h => h) (Or.inl ⟨by rfl, fun w hw => by go_simp⟩) hHeld ?_
          simp only [Act.put, List.getElem_toArray, List.getElem_cons_zero, List.getElem_cons_succ, List.setIfInBounds_toArray, List.set_cons_zero, List.set_cons_succ]
          refine wpAnyH_take (i := 22) (v := .bool true) rfl (by kernel_rfl) (by kernel_rfl) (by kernel_rfl) (fun _ _ _ h => h) (Or.inl ⟨by rfl, fun w hw => by go_simp⟩) hHeld ?_
          simp only [Act.put, List.getElem_toArray, List.getElem_cons_zero, List.getElem_cons_succ, List.setIfInBounds_toArray, List.set_cons_zero, List.set_cons_succ]
          refine wpAnyH_take (i := 23) (v := .bool true) rfl (by kernel_rfl) (by kernel_rfl) (by kernel_rfl) (fun _ _ _ h => h) (Or.inl ⟨by rfl, fun w hw => by go_simp⟩) hHeld ?_
          simp only [Act.put, List.getElem_toArray, List.getElem_cons_zero, List.getElem_cons_succ, List.setIfInBounds_toArray, List.set_cons_zero, List.set_cons_succ]
          refine wpAnyH_take (i := 24) (v := .pointer (some ⟨w7.heap.size, 0, none⟩)) rfl (by kernel_rfl) (by kernel_rfl) (by kernel_rfl) (fun _ _ _ h => h) (Or.inl ⟨by rfl, fun w hw => by go_simp⟩) hHeld ?_
          simp only [Act.put, List.getElem_toArray, List.getElem_cons_zero, List.getElem_cons_succ, List.setIfInBounds_toArray, List.set_cons_zero, List.set_cons_succ]
          refine wpAnyH_take (i := 25) (v := .bool true) rfl (by kernel_rfl) (by kernel_rfl) (by kernel_rfl) (fun _ _ _ h => h) (Or.inl ⟨by rfl, fun w hw => by have hq := hw.2.2.2; go_simp⟩) hHeld ?_
          simp only [Act.put, List.getElem_toArray, List.getElem_cons_zero, List.getElem_cons_succ, List.setIfInBounds_toArray, List.set_cons_zero, List.set_cons_succ]
          refine wpAnyH_take (i := 26) (v := .bool true) rfl (by kernel_rfl) (by kernel_rfl) (by kernel_rfl) (fun _ _ _ h => h) (Or.inl ⟨by rfl, fun w hw => by go_simp⟩) hHeld ?_
          simp only [Act.put, List.getElem_toArray, List.getElem_cons_zero, List.getElem_cons_succ, List.setIfInBounds_toArray, List.set_cons_zero, List.set_cons_succ]
          refine wpAnyH_take (i := 27) (v := .bool true) rfl (by kernel_rfl) (by kernel_rfl) (by kernel_rfl) (fun _ _ _ h => h) (Or.inl ⟨by rfl, fun w hw => by go_simp⟩) hHeld ?_
          simp only [Act.put, List.getElem_toArray, List.getElem_cons_zero, List.getElem_cons_succ, List.setIfInBounds_toArray, List.set_cons_zero, List.set_cons_succ]
          refine wpAnyH_done (by kernel_rfl) ?_ _
          clear hHeld
          go_wp2
          go_ret
          exact ⟨rfl, HB8.out⟩
  · have hp := hpp.2 hE
    subst hp
    have q1 : (nwE b v L != 0) = true := by simp [hE]
    have HB2 := B2
    clear hpp hnew hE hsh c0 c1 HN HS1 HC0
    go_wp2_with (first | (go_at_call 11; refine (numLT _ _).mono ?_; rintro e w9 ⟨rfl, rfl⟩))
    go_wp2
    go_ret
    exact ⟨rfl, HB2.out⟩
end Go.Proofs.YtabjpffaleaoaaaGreatDoor
