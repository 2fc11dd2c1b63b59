import Derived.Test.YtnmeohacdbmplaaGreatDoorM23
namespace Go.Proofs.YtnmeohacdbmplaaGreatDoor
open Go.RowKit
/-- what a stream that begins with a greeting says of handshakes -/
theorem rd_greet {hb more : List UInt8} (h48 : hb.length = 48) {met bs : List (List UInt8)} {h' : Bool} {r : List UInt8} {e : Int} (x : Fm.Rd true (Fm.sgn ++ hb ++ more) met bs h' r e) : met = [hb] := by
  have hs20 : Fm.sgn.length = 20 := rfl
  have hl : 68 ≤ (Fm.sgn ++ hb ++ more).length := by rw [List.length_append, List.length_append, h48, hs20]; omega
  have hh : Fm.hel (Fm.sgn ++ hb ++ more) = hb := by
    unfold Fm.hel
    rw [List.append_assoc, List.drop_left' hs20, List.take_left' h48]
  have hk : Fm.sok (Fm.sgn ++ hb ++ more) 0 = true := by
    unfold Fm.sok
    rw [show 20 - 0 = 20 from rfl, List.append_assoc, List.take_left' hs20, List.drop_zero, List.take_of_length_le (by rw [hs20, ← List.append_assoc]; omega)]
    simp
  cases x with
  | bad _ h => rw [hk] at h; cases h
  | few _ _ h => omega
  | hello _ met' _ _ _ _ _ _ y => rw [hh, (rd_facts y).1 rfl]
theorem decE_ne (y : List UInt8) : decE y ≠ 171 := by
  unfold decE
  split
  · decide
  · split
    · decide
    · split
      · split <;> decide
      · decide
theorem legE_ne (L : List Int) (b : Int) (ib : Bool) (m : Mv) (D : List UInt8) : legE L b ib m D ≠ 171 := by
  unfold legE
  repeat' split
  all_goals decide
theorem hr_ne {L : List Int} {pb : Int} {q q' : Qs} {bs : List (List UInt8)} {xs : List Mg} {e : Int} (h : Hr L pb q bs xs q' e) : e ≠ 171 := by
  induction h with
  | nil => decide
  | dec => exact decE_ne _
  | ill => exact legE_ne _ _ _ _ _
  | ok _ _ _ _ _ _ _ _ _ _ _ ih => exact ih
/-- what a connection that is new answers to a greeting and whatever comes with it -/
theorem FdE.greet {w : World} {g R : Nat} {P : Pv} {L : List Int} {H hb more : List UInt8} (hf : FP w g R P L H 2 0 [] (.slice none 0 0)) (h48 : hb.length = 48) {e : Ending} {w' : World} (h : FdE w g R P L H 2 0 [] (.slice none 0 0) (Fm.sgn ++ hb ++ more) e w') :
    ∃ ev fin P' H', e = .returned (.tuple #[ev, .int .i64 fin]) ∧ PK w' g P' ∧ P'.why = fin ∧ P'.b = P.b ∧ RB w' P'.hs H' ∧ H'.length ≤ 140737488351232 ∧ Fm.Fr (fun k => k ≠ g ∧ k ≠ R) w w' ∧
      ((hinf hb ≠ P.info ∧ ev = .slice none 0 0 ∧ fin = 171 ∧ P'.sh = P.sh) ∨
       (hinf hb = P.info ∧ fin ≠ 171 ∧ P'.sh = true ∧ ∃ k n c, ev = .slice (some ⟨k, 0, none⟩) (n + 1) c ∧ w.heap.size ≤ k ∧ k < w'.heap.size ∧ w'.cell? ⟨k, 0, none⟩ = some (.bool true) ∧ w'.rangeAt k 1 (Lib.byteCells (hpeer hb)))) := by
  obtain ⟨ev, fin, mv, bsv, er, met, bs, h', r, p', s', held', hv', w1, er1, w2, rfl, po, hrs, hfin, hend⟩ := h
  obtain ⟨hc1, _, _⟩ := hf.hc po.fr
  have hmet : met = [hb] := rd_greet h48 (by
    have := po.rd
    rwa [show Fm.tx 2 0 [] = [] from rfl, List.nil_append] at this)
  have fr1 : Fm.Fr (fun k => k ≠ g ∧ k ≠ R) w w1 := po.fr.mono (fun k _ h => ⟨h.2, nd k⟩)
  have key : ∃ P' H', HC w2 g P' L H' ∧ P'.why = 0 ∧ P'.b = P.b ∧ Fm.Fr (fun k => k ≠ g) w1 w2 ∧
      ((hinf hb ≠ P.info ∧ ev = .slice none 0 0 ∧ fin = 171 ∧ P'.sh = P.sh) ∨
       (hinf hb = P.info ∧ fin ≠ 171 ∧ P'.sh = true ∧ ∃ k n c, ev = .slice (some ⟨k, 0, none⟩) (n + 1) c ∧ w1.heap.size ≤ k ∧ k < w2.heap.size ∧ w2.cell? ⟨k, 0, none⟩ = some (.bool true) ∧ w2.rangeAt k 1 (Lib.byteCells (hpeer hb)))) := by
    rcases hrs with ⟨h0, _⟩ | ⟨h, h1, hx⟩
    · rw [hmet] at h0; cases h0
    obtain rfl : hb = h := by rw [hmet] at h1; simpa using h1
    rcases hx with ⟨hi, he, h171, hbw⟩ | ⟨hi, fr2, es, xs, q', P', hvs, hem, hr, hc, hP', ho, hdj⟩
    · exact ⟨P, H, hc1.below hbw, hf.why, rfl, Fm.Fr.of_below hbw, .inl ⟨hi, he, by rw [hfin, h171]; rfl, rfl⟩⟩
    · refine ⟨P', _, hc, by rw [hP']; exact hf.why, by rw [hP'], fr2, .inr ⟨hi, ?_, by rw [hP'], ?_⟩⟩
      · rw [hfin]
        split
        · rcases po.er with h | h | h <;> rw [h] <;> decide
        · exact hr_ne hr
      · have hrow := hvs.1
        rcases hrow.2 with ⟨_, h0⟩ | ⟨k, cap, cur, hvv, hk, h3, _⟩
        · simp at h0
        · have hlen : ([hev hb] ++ es).length = es.length + 1 := by simp
          have hat : ∀ j u, (Ev.ls (hev hb))[j]? = some u → w2.cell? ⟨k, j, none⟩ = some u := fun j u hu => by
            have hj := (List.getElem?_eq_some_iff.1 hu).1
            have q := World.ownsRow.cellAt (hvv ▸ hrow) j (by
              have h61 : (Ev.ls (hev hb)).length = 61 := Ev.len (hvs.2 _ (by simp))
              rw [hlen]; omega)
            rw [q, List.flatMap_append, List.flatMap_cons, List.flatMap_nil, List.append_nil, List.getElem?_append_left hj, hu]
          refine ⟨k, es.length, cap, by rw [hvv, hlen], hk, (Array.getElem?_eq_some_iff.1 h3).1, hat 0 _ rfl, fun j u hu => ?_⟩
          rw [Nat.add_comm]
          refine hat (j + 1) u ?_
          unfold Ev.ls
          rw [List.getElem?_cons_succ]
          have hj := (List.getElem?_eq_some_iff.1 hu).1
          show (Lib.byteCells (hpeer hb) ++ _)[j]? = _
          rw [List.getElem?_append_left hj]
          exact hu
  obtain ⟨P', H', hc, hw, hb', fr2, hx⟩ := key
  have fr12 : Fm.Fr (fun k => k ≠ g ∧ k ≠ R) w w2 := fr1.trans (fr2.mono (fun k _ (h : k ≠ g ∧ k ≠ R) => h.1)) (fun _ _ x => x)
  have hgw : g < w1.heap.size := hc1.pk.lt
  rcases hend with ⟨h0, rfl⟩ | ⟨h0, P1, k1, k2, fr3⟩
  · refine ⟨ev, fin, P', H', rfl, hc.pk, by rw [hw, h0], hb', hc.hz.now, hc.hl, fr12, hx.imp id ?_⟩
    rintro ⟨a1, a2, a3, k, n, c, a4, a5, a6⟩
    exact ⟨a1, a2, a3, k, n, c, a4, Nat.le_trans fr1.size a5, a6⟩
  · have e1 : P1.hs = P'.hs := by
      have x := k1.cells.2.2.2.2.2
      have y := hc.pk.cells.2.2.2.2.2
      rw [x] at y
      simpa using y
    have e2 : P1.b = P'.b := by
      have x := k1.cells.1
      have y := hc.pk.cells.1
      rw [x] at y
      simpa using y
    have e3 : P1.sh = P'.sh := by
      have x := k1.cells.2.2.2.1
      have y := hc.pk.cells.2.2.2.1
      rw [x] at y
      simpa using y
    refine ⟨ev, fin, _, H', rfl, k2, rfl, by show P1.b = _; rw [e2, hb'], by show RB w' P1.hs H'; rw [e1]; exact hc.hz w' (Fe.of_fr fr3), hc.hl, fr12.trans (fr3.mono (fun k _ (h : k ≠ g ∧ k ≠ R) => h.1)) (fun _ _ x => x), hx.imp ?_ ?_⟩
    · rintro ⟨a1, a2, a3, a4⟩
      exact ⟨a1, a2, a3, by show P1.sh = _; rw [e3, a4]⟩
    · rintro ⟨a1, a2, a3, k, n, c, a4, a5, a6, a7, a8⟩
      have hb3 := fr3.block k a6 (fun e => by omega)
      exact ⟨a1, a2, by show P1.sh = _; rw [e3, a3], k, n, c, a4, Nat.le_trans fr1.size a5, Nat.lt_of_lt_of_le a6 fr3.size, (World.cell?_of_block (w := w2) hb3).trans a7, fun j u hu => (World.cell?_of_block (w := w2) hb3).trans (a8 j u hu)⟩
end Go.Proofs.YtnmeohacdbmplaaGreatDoor
namespace Go.Proofs.YtnmeohacdbmplaaGreatDoor.Fm
open Go.RowKit Go.Proofs.YtnmeohacdbmplaaGreatDoor
theorem sok_left {a b : List UInt8} (h : sok (a ++ b) 0 = true) : sok a 0 = true := by
  unfold sok at h ⊢
  rw [beq_iff_eq] at h ⊢
  rw [Nat.sub_zero, List.drop_zero] at h ⊢
  have e := congrArg (List.take a.length) h
  rw [List.take_take, List.take_take] at e
  have e1 : (a ++ b).take (min a.length 20) = a.take 20 := by
    rw [List.take_append_of_le_length (Nat.min_le_left _ _)]
    by_cases h20 : a.length ≤ 20
    · rw [Nat.min_eq_left h20, List.take_of_length_le (Nat.le_refl _), List.take_of_length_le h20]
    · rw [Nat.min_eq_right (by omega)]
  rw [e1, List.length_append, Nat.min_eq_left (by omega)] at e
  exact e
theorem Rd.more {h : Bool} {l : List UInt8} {met bs : List (List UInt8)} {h' : Bool} {r : List UInt8} {e : Int} (x : Rd h l met bs h' r e) : e ≠ 0 → ∀ b, Rd h (l ++ b) met bs h' (r ++ b) e := by
  induction x with
  | bad l hs =>
    intro _ b
    refine Rd.bad _ ?_
    cases hx : sok (l ++ b) 0 with
    | false => rfl
    | true => rw [sok_left hx] at hs; cases hs
  | few l hs hl => intro he; exact absurd rfl he
  | hello l met bs h r e hs hl _ ih =>
    intro he b
    have z := ih he b
    rw [← List.drop_append_of_le_length hl] at z
    have e1 : hel (l ++ b) = hel l := by
      unfold hel
      rw [List.drop_append_of_le_length (by omega), List.take_append_of_le_length (by simp; omega)]
    have := Rd.hello (l ++ b) _ _ _ _ _ (by rw [sok_app l b (by omega)]; exact hs) (by simp; omega) z
    rw [e1] at this
    exact this
  | num l hl => intro he; exact absurd rfl he
  | big l hl hn => intro _ b; exact Rd.big _ (by simp; omega) (by rw [nm_app l b hl]; exact hn)
  | part l hl hn hp => intro he; exact absurd rfl he
  | body l met bs h r e hl hn hp _ ih =>
    intro he b
    have z := ih he b
    rw [← List.drop_append_of_le_length hp] at z
    have e1 := nm_app l b hl
    have e2 : ((l ++ b).drop 4).take (nm l) = (l.drop 4).take (nm l) := by
      rw [List.drop_append_of_le_length hl, List.take_append_of_le_length (by simp; omega)]
    have := Rd.body (l ++ b) _ _ _ _ _ (by simp; omega) (by rw [e1]; exact hn) (by rw [e1]; simp; omega) (by rw [e1]; exact z)
    rw [e1, e2] at this
    exact this
/-- every stream says something -/
theorem rd_total : ∀ (n : Nat) (l : List UInt8), l.length ≤ n → ∃ met bs h' r e, Rd false l met bs h' r e
  | 0, l, h => ⟨_, _, _, _, _, Rd.num l (by omega)⟩
  | n + 1, l, h => by
    by_cases h4 : l.length < 4
    · exact ⟨_, _, _, _, _, Rd.num l h4⟩
    by_cases hn : 32768 < nm l
    · exact ⟨_, _, _, _, _, Rd.big l (by omega) hn⟩
    by_cases hp : l.length < 4 + nm l
    · exact ⟨_, _, _, _, _, Rd.part l (by omega) (by omega) hp⟩
    obtain ⟨met, bs, h', r, e, x⟩ := rd_total n (l.drop (4 + nm l)) (by rw [List.length_drop]; omega)
    exact ⟨_, _, _, _, _, Rd.body l _ _ _ _ _ (by omega) (by omega) (by omega) x⟩
theorem rd_any (h : Bool) (l : List UInt8) : ∃ met bs h' r e, Rd h l met bs h' r e := by
  cases h with
  | false => exact rd_total _ l (Nat.le_refl _)
  | true =>
    cases hs : sok l 0 with
    | false => exact ⟨_, _, _, _, _, Rd.bad l hs⟩
    | true =>
      by_cases h68 : l.length < 68
      · exact ⟨_, _, _, _, _, Rd.few l hs h68⟩
      · obtain ⟨met, bs, h', r, e, x⟩ := rd_total _ (l.drop 68) (Nat.le_refl _)
        exact ⟨_, _, _, _, _, Rd.hello l _ _ _ _ _ hs (by omega) x⟩
/-- no handshake, no bodies -/
theorem rd_none {l : List UInt8} {met bs : List (List UInt8)} {h' : Bool} {r : List UInt8} {e : Int} (x : Rd true l met bs h' r e) : (met = [] → bs = [] ∧ h' = true) ∧ (h' = true → met = []) := by
  cases x with
  | bad => exact ⟨fun _ => ⟨rfl, rfl⟩, fun _ => rfl⟩
  | few => exact ⟨fun _ => ⟨rfl, rfl⟩, fun _ => rfl⟩
  | hello _ _ _ _ _ _ _ _ y => exact ⟨(fun h => by cases h), fun h => by have := (y.frames rfl).2.1; rw [h] at this; cases this⟩
end Go.Proofs.YtnmeohacdbmplaaGreatDoor.Fm
namespace Go.Proofs.YtnmeohacdbmplaaGreatDoor
open Go.RowKit
theorem Hstep.det {n : Nat} {q q1 q2 : Qs} {m : Mv} {D : List UInt8} (h1 : Hstep n q m D q1) (h2 : Hstep n q m D q2) : q2 = q1 := by
  obtain ⟨a1, a2, a3, a4⟩ := h1
  obtain ⟨b1, b2, b3, b4⟩ := h2
  have hH : q2.H = q1.H := by
    rcases a4 with ⟨k4, x⟩ | ⟨k5, x⟩ | ⟨n4, n5, x⟩ <;> rcases b4 with ⟨k4', y⟩ | ⟨k5', y⟩ | ⟨n4', n5', y⟩
    · rcases x with ⟨g1, e1⟩ | ⟨g1, e1⟩ <;> rcases y with ⟨g2, e2⟩ | ⟨g2, e2⟩
      · rw [e1, e2]
      · rw [g1] at g2; cases g2
      · rw [g1] at g2; cases g2
      · exact Bs.PU.unique e2 e1
    · omega
    · omega
    · omega
    · rw [x, y]
    · omega
    · omega
    · omega
    · rw [x, y]
  cases q1
  cases q2
  simp only at *
  subst a1 a2 a3 b1 b2 b3 hH
  rfl
theorem Hr.det {L : List Int} {pb : Int} {q q1 : Qs} {bs : List (List UInt8)} {xs : List Mg} {e : Int} (x : Hr L pb q bs xs q1 e) : ∀ {xs2 : List Mg} {q2 : Qs} {e2 : Int}, Hr L pb q bs xs2 q2 e2 → xs2 = xs ∧ q2 = q1 ∧ e2 = e := by
  induction x with
  | nil q => intro xs2 q2 e2 y; cases y; exact ⟨rfl, rfl, rfl⟩
  | dec q y bs h =>
    intro xs2 q2 e2 z
    cases z with
    | dec => exact ⟨rfl, rfl, rfl⟩
    | ill _ _ _ h1 => exact absurd h1 h
    | ok _ _ _ _ _ _ _ h1 => exact absurd h1 h
  | ill q y bs h h' =>
    intro xs2 q2 e2 z
    cases z with
    | dec _ _ _ h1 => exact absurd h h1
    | ill => exact ⟨rfl, rfl, rfl⟩
    | ok _ _ _ _ _ _ _ _ h1 => exact absurd h1 h'
  | ok q qa q' y bs xs e h h' hs _ ih =>
    intro xs2 q2 e2 z
    cases z with
    | dec _ _ _ h1 => exact absurd h h1
    | ill _ _ _ _ h1 => exact absurd h' h1
    | ok _ qb _ _ _ _ _ _ _ hs2 z2 =>
      rw [hs.det hs2] at z2
      obtain ⟨rfl, rfl, rfl⟩ := ih z2
      exact ⟨rfl, rfl, rfl⟩
theorem Hr.app {L : List Int} {pb : Int} {q q1 : Qs} {bs : List (List UInt8)} {xs : List Mg} {e : Int} (x : Hr L pb q bs xs q1 e) : e = 0 → ∀ {bs2 : List (List UInt8)} {xs2 : List Mg} {q2 : Qs} {e2 : Int}, Hr L pb q1 bs2 xs2 q2 e2 → Hr L pb q (bs ++ bs2) (xs ++ xs2) q2 e2 := by
  induction x with
  | nil q => intro _ bs2 xs2 q2 e2 y; exact y
  | dec q y bs h => intro h0; exact absurd h0 h
  | ill q y bs h h' => intro h0; exact absurd h0 h'
  | ok q qa q' y bs xs e h h' hs _ ih =>
    intro h0 bs2 xs2 q2 e2 z
    have := Hr.ok q qa _ y _ _ _ h h' hs (ih h0 z)
    rw [← List.append_assoc] at this
    exact this
theorem Hr.more {L : List Int} {pb : Int} {q q1 : Qs} {bs : List (List UInt8)} {xs : List Mg} {e : Int} (x : Hr L pb q bs xs q1 e) : e ≠ 0 → ∀ bs2, Hr L pb q (bs ++ bs2) xs q1 e := by
  induction x with
  | nil q => intro h; exact absurd rfl h
  | dec q y bs h => intro _ bs2; exact Hr.dec q y _ h
  | ill q y bs h h' => intro _ bs2; exact Hr.ill q y _ h h'
  | ok q qa q' y bs xs e h h' hs _ ih => intro h0 bs2; exact Hr.ok q qa _ y _ _ _ h h' hs (ih h0 bs2)
/-- what a stream tells a new connection: the handshake, the messages, what is kept in mind then, the error -/
def Tel (info : List UInt8) (L : List Int) (pb : Int) (q0 : Qs) (T : List UInt8) (met : List (List UInt8)) (xs : List Mg) (q' : Qs) (fin : Int) : Prop :=
  ∃ met0 bs h' r er, Fm.Rd true T met0 bs h' r er ∧
    ((∃ h, met0 = [h] ∧ hinf h ≠ info ∧ met = [] ∧ xs = [] ∧ q' = q0 ∧ fin = 171) ∨
     ((∀ h ∈ met0, hinf h = info) ∧ met = met0 ∧ ∃ er1, Hr L pb q0 bs xs q' er1 ∧ fin = if er1 = 0 then er else er1))
theorem Tel.det {info : List UInt8} {L : List Int} {pb : Int} {q0 : Qs} {T : List UInt8} {met met2 : List (List UInt8)} {xs xs2 : List Mg} {q' q2 : Qs} {fin fin2 : Int} (x : Tel info L pb q0 T met xs q' fin) (y : Tel info L pb q0 T met2 xs2 q2 fin2) : met2 = met ∧ xs2 = xs ∧ q2 = q' ∧ fin2 = fin := by
  obtain ⟨m1, bs1, h1, r1, er1, d1, x⟩ := x
  obtain ⟨m2, bs2, h2, r2, er2, d2, y⟩ := y
  obtain ⟨rfl, rfl, rfl, rfl, rfl⟩ := d1.det d2
  rcases x with ⟨h, e1, e2, rfl, rfl, rfl, rfl⟩ | ⟨e2, rfl, f1, hr1, rfl⟩ <;> rcases y with ⟨k, g1, g2, rfl, rfl, rfl, rfl⟩ | ⟨g2, rfl, f2, hr2, rfl⟩
  · exact ⟨rfl, rfl, rfl, rfl⟩
  · rw [e1] at g2; exact absurd (g2 h (by simp)) e2
  · rw [g1] at e2; exact absurd (e2 k (by simp)) g2
  · obtain ⟨rfl, rfl, rfl⟩ := hr1.det hr2
    exact ⟨rfl, rfl, rfl, rfl⟩
/-- behind an error nothing tells more -/
theorem Tel.more {info : List UInt8} {L : List Int} {pb : Int} {q0 : Qs} {T : List UInt8} {met : List (List UInt8)} {xs : List Mg} {q' : Qs} {fin : Int} (x : Tel info L pb q0 T met xs q' fin) (hf : fin ≠ 0) (T2 : List UInt8) : Tel info L pb q0 (T ++ T2) met xs q' fin := by
  obtain ⟨m1, bs1, h1, r1, er, d1, x⟩ := x
  by_cases he : er = 0
  · subst he
    obtain ⟨m2, bs2, h2, r2, er2, d2⟩ := Fm.rd_any h1 (r1 ++ T2)
    have d := d1.app rfl d2
    have hm2 : m1 ≠ [] → m2 = [] := fun hm => by
      cases h1 with
      | false => exact (d2.frames rfl).1
      | true => exact absurd ((Fm.rd_none d1).2 rfl) hm
    rcases x with ⟨h, e1, e2, x⟩ | ⟨e2, rfl, f1, hr1, rfl⟩
    · refine ⟨_, _, _, _, _, d, .inl ⟨h, ?_, e2, x⟩⟩
      rw [hm2 (by rw [e1]; simp), e1]
      rfl
    · by_cases hf1 : f1 = 0
      · subst hf1
        exact absurd rfl hf
      · have hm : met ≠ [] := fun h0 => by
          have := ((Fm.rd_none d1).1 h0).1
          rw [this] at hr1
          cases hr1
          exact hf1 rfl
        rw [hm2 hm, List.append_nil] at d
        refine ⟨_, _, _, _, _, d, .inr ⟨e2, rfl, f1, hr1.more hf1 _, ?_⟩⟩
        rw [if_neg hf1, if_neg hf1]
  · exact ⟨_, _, _, _, _, d1.more he T2, x⟩
end Go.Proofs.YtnmeohacdbmplaaGreatDoor
namespace Go.Proofs.YtnmeohacdbmplaaGreatDoor
open Go.RowKit
theorem EvM.app {es es2 : List Ev} {xs xs2 : List Mg} (h1 : EvM es xs) (h2 : EvM es2 xs2) : EvM (es ++ es2) (xs ++ xs2) := by
  refine ⟨by rw [List.length_append, List.length_append, h1.1, h2.1], fun k e x he hx => ?_⟩
  by_cases hk : k < es.length
  · rw [List.getElem?_append_left hk] at he
    rw [List.getElem?_append_left (by rw [← h1.1]; exact hk)] at hx
    exact h1.2 k e x he hx
  · have e1 := h1.1
    rw [List.getElem?_append_right (by omega)] at he
    rw [List.getElem?_append_right (by omega), ← e1] at hx
    exact h2.2 _ e x he hx
theorem EvM.none {es : List Ev} (h : EvM es []) : es = [] := List.length_eq_zero_iff.1 h.1
/-- the events are these handshakes, then these messages -/
def EvH (es : List Ev) (met : List (List UInt8)) (xs : List Mg) : Prop := ∃ es', es = met.map hev ++ es' ∧ EvM es' xs
/-- what a connection has been told by A, without an error -/
def Acc (info : List UInt8) (L : List Int) (pb : Int) (q0 : Qs) (A : List UInt8) (es : List Ev) (p s : Nat) (held : List UInt8) (q : Qs) (sh : Bool) : Prop :=
  ∃ met bs xs, Fm.Rd true A met bs (p == 2) (Fm.tx p s held) 0 ∧ (∀ h ∈ met, hinf h = info) ∧ Hr L pb q0 bs xs q 0 ∧ EvH es met xs ∧ sh = !met.isEmpty
theorem Acc.start (info : List UInt8) (L : List Int) (pb : Int) (q0 : Qs) : Acc info L pb q0 [] [] 2 0 [] q0 false :=
  ⟨[], [], [], Fm.Rd.few [] rfl (by simp), (fun _ h => by cases h), Hr.nil q0, ⟨[], rfl, EvM.nil⟩, rfl⟩
theorem Acc.tel {info : List UInt8} {L : List Int} {pb : Int} {q0 : Qs} {A : List UInt8} {es : List Ev} {p s : Nat} {held : List UInt8} {q : Qs} {sh : Bool} (h : Acc info L pb q0 A es p s held q sh) : ∃ met xs, Tel info L pb q0 A met xs q 0 ∧ EvH es met xs ∧ sh = !met.isEmpty := by
  obtain ⟨met, bs, xs, rd, hin, hr, he, hs⟩ := h
  exact ⟨met, xs, ⟨_, _, _, _, _, rd, .inr ⟨hin, rfl, 0, hr, rfl⟩⟩, he, hs⟩
/-- how a connection stands in the end -/
structure Sd (w : World) (g : Nat) (P : Pv) (b : Int) (wc wi sh : Bool) (q : Qs) (fin : Int) : Prop where
  pk : PK w g P
  why : P.why = fin
  b : P.b = b
  sh : P.sh = sh
  wc : P.wc = wc
  wi : P.wi = wi
  ic : P.ic = q.c
  ii : P.ii = q.i
  hs : OW 0 w P.hs q.H
  hl : q.H.length ≤ 140737488351232
theorem Sd.keep {w w' : World} {g : Nat} {P : Pv} {b : Int} {wc wi sh : Bool} {q : Qs} {fin : Int} (h : Sd w g P b wc wi sh q fin) (hg : w'.heap[g]? = w.heap[g]?) (h5 : ∀ (k : Nat) (cs : Array Value), w.heap[k]? = some (Obj.cells cs 5 (0, 0)) → w'.heap[k]? = w.heap[k]?) : Sd w' g P b wc wi sh q fin :=
  ⟨h.pk.keep hg, h.why, h.b, h.sh, h.wc, h.wi, h.ic, h.ii, own_at h.hs (fun k _ hx => hx.elim (h5 k)), h.hl⟩
theorem PK.same {w : World} {g : Nat} {P Q : Pv} (x : PK w g P) (y : PK w g Q) : P.b = Q.b ∧ P.sh = Q.sh ∧ P.hs = Q.hs ∧ P.wc = Q.wc ∧ P.wi = Q.wi ∧ P.ic = Q.ic ∧ P.ii = Q.ii := by
  obtain ⟨a1, _, _, a4, _, a6⟩ := x.cells
  obtain ⟨b1, _, _, b4, _, b6⟩ := y.cells
  obtain ⟨c1, c2, _, c4, c5, _⟩ := x.sides
  obtain ⟨d1, d2, _, d4, d5, _⟩ := y.sides
  rw [a1] at b1
  rw [a4] at b4
  rw [a6] at b6
  rw [c1] at d1
  rw [c2] at d2
  rw [c4] at d4
  rw [c5] at d5
  simp only [Option.some.injEq, Value.int.injEq, Value.bool.injEq, true_and] at b1 b4 b6 d1 d2 d4 d5
  exact ⟨b1, b4, b6, d1, d2, d4, d5⟩
theorem EVS.mono {B B' : Nat} {w : World} {v : Value} {es : List Ev} (h : EVS B w v es) (hB : B' ≤ B) : EVS B' w v es := by
  have key : ∀ {e n size : Nat} {v : Value} {us : List Value}, w.ownsRow B e size v n us → w.ownsRow B' e size v n us := fun h =>
    ⟨h.1, h.2.imp id (fun ⟨g, cap, cur, h1, h2, h3⟩ => ⟨g, cap, cur, h1, Nat.le_trans hB h2, h3⟩)⟩
  refine ⟨key h.1, fun e he => ⟨(h.2 e he).pr, ?_⟩⟩
  have hm := (h.2 e he).mg
  obtain ⟨n, en, hh⟩ := hm.h
  exact ⟨hm.ok, key hm.d, ⟨n, en, key hh⟩, hm.dl, hm.hl⟩
/-- one more Feed -/
theorem FdE.step {w : World} {g R : Nat} {P : Pv} {L : List Int} {H : List UInt8} {p s : Nat} {held : List UInt8} {hv : Value} {l : List UInt8} {e : Ending} {w' : World} (hf : FP w g R P L H p s held hv) (h : FdE w g R P L H p s held hv l e w') {q0 : Qs} {A : List UInt8} {es : List Ev} (acc : Acc P.info L P.b q0 A es p s held ⟨P.ic, P.ii, P.ib, H⟩ P.sh) :
    ∃ ev fin es2 B1, e = .returned (.tuple #[ev, .int .i64 fin]) ∧ w.heap.size ≤ B1 ∧ EVS B1 w' ev es2 ∧ Fm.Fr (fun k => k ≠ g ∧ k ≠ R ∧ hv.ownBlock ≠ some k) w w' ∧
      ((fin = 0 ∧ ∃ P' H' p' s' held' hv', FP w' g R P' L H' p' s' held' hv' ∧ P'.info = P.info ∧ P'.b = P.b ∧ P'.wc = P.wc ∧ P'.wi = P.wi ∧ (hv'.ownBlock = hv.ownBlock ∨ ∀ k, hv'.ownBlock = some k → w.heap.size ≤ k) ∧ (∀ k, hv'.ownBlock = some k → k < B1) ∧ Acc P.info L P.b q0 (A ++ l) (es ++ es2) p' s' held' ⟨P'.ic, P'.ii, P'.ib, H'⟩ P'.sh) ∨
       (fin ≠ 0 ∧ ∃ met xs q' P', Tel P.info L P.b q0 (A ++ l) met xs q' fin ∧ EvH (es ++ es2) met xs ∧ Sd w' g P' P.b P.wc P.wi (!met.isEmpty) q' fin)) := by
  obtain ⟨ev, fin, mv, bsv, er, met2, bs2, h', r, p', s', held', hv', w1, er1, w2, rfl, po, hrs, hfin, hend⟩ := h
  obtain ⟨hc1, hlo, hho⟩ := hf.hc po.fr
  obtain ⟨met, bs, xs, rd, hin, hr, heh, hsh⟩ := acc
  have rdA : Fm.Rd true (A ++ l) (met ++ met2) (bs ++ bs2) h' r er := rd.app rfl po.rd
  have early : met2 ≠ [] → met = [] ∧ bs = [] ∧ xs = [] ∧ q0 = ⟨P.ic, P.ii, P.ib, H⟩ ∧ es = [] := fun hne => by
    have hp : (p == 2) = true := by
      cases hx : (p == 2) with
      | true => rfl
      | false => exact absurd ((rd_facts po.rd).1 hx) hne
    have hm : met = [] := (Fm.rd_none rd).2 hp
    have hb : bs = [] := ((Fm.rd_none rd).1 hm).1
    subst hm hb
    cases hr
    obtain ⟨es', rfl, hem⟩ := heh
    exact ⟨rfl, rfl, rfl, rfl, by rw [hem.none]⟩
  have key : ∃ es2 metN xsN q' P', EVS w1.heap.size w2 ev es2 ∧ Fm.Fr (fun k => k ≠ g) w1 w2 ∧ HC w2 g P' L q'.H ∧ P'.info = P.info ∧ P'.b = P.b ∧ P'.ln = P.ln ∧ P'.st = P.st ∧ P'.why = P.why ∧ P'.wc = P.wc ∧ P'.wi = P.wi ∧
      ((P'.hs = P.hs ∧ q'.H = H) ∨ OW w1.heap.size w2 P'.hs q'.H) ∧ q' = ⟨P'.ic, P'.ii, q'.b, q'.H⟩ ∧ EvH (es ++ es2) metN xsN ∧ P'.sh = (!metN.isEmpty) ∧ Tel P.info L P.b q0 (A ++ l) metN xsN q' fin ∧
      (fin = 0 → metN = met ++ met2 ∧ (∀ h ∈ met ++ met2, hinf h = P.info) ∧ Hr L P.b q0 (bs ++ bs2) xsN q' 0 ∧ er = 0 ∧ q'.b = P'.ib) := by
    have fin0 : fin = 0 → er1 = 0 ∧ er = 0 := fun h0 => by
      rw [hfin] at h0
      split at h0
      · rename_i h; exact ⟨h, h0⟩
      · rename_i h; exact absurd h0 h
    rcases hrs with ⟨rfl, fr2, es2, xs2, q', P', hvs, hem, hr2, hc, hP', ho, hdj⟩ | ⟨h, rfl, ⟨hne, rfl, h171, hbw⟩ | ⟨heq, fr2, es2, xs2, q', P', hvs, hem, hr2, hc, hP', ho, hdj⟩⟩
    · have hrA := hr.app rfl hr2
      have rdB := rdA
      rw [List.append_nil] at rdB
      refine ⟨es2, met, xs ++ xs2, q', P', hvs, fr2, hc, by rw [hP'], by rw [hP'], by rw [hP'], by rw [hP'], by rw [hP'], by rw [hP'], by rw [hP'], ho, by rw [hP'], ?_, by rw [hP']; exact hsh, ⟨_, _, _, _, _, rdB, .inr ⟨hin, rfl, er1, hrA, hfin⟩⟩, fun h0 => ?_⟩
      · obtain ⟨es', rfl, hm⟩ := heh
        exact ⟨es' ++ es2, by rw [List.append_assoc], hm.app hem⟩
      · obtain ⟨e1, e2⟩ := fin0 h0
        rw [e1] at hrA
        exact ⟨by rw [List.append_nil], by rw [List.append_nil]; exact hin, hrA, e2, by rw [hP']⟩
    · obtain ⟨rfl, rfl, rfl, rfl, rfl⟩ := early (by simp)
      have hf171 : fin = 171 := by rw [hfin, h171]; rfl
      refine ⟨[], [], [], ⟨P.ic, P.ii, P.ib, H⟩, P, EVS.nil _ _, Fm.Fr.of_below hbw, hc1.below hbw, rfl, rfl, rfl, rfl, rfl, rfl, rfl, .inl ⟨rfl, rfl⟩, rfl, ⟨[], rfl, EvM.nil⟩, by rw [hsh], ⟨_, _, _, _, _, rdA, .inl ⟨h, rfl, hne, rfl, rfl, rfl, hf171⟩⟩, fun h0 => ?_⟩
      rw [hf171] at h0
      cases h0
    · obtain ⟨rfl, rfl, rfl, rfl, rfl⟩ := early (by simp)
      refine ⟨[hev h] ++ es2, [h], xs2, q', P', hvs, fr2, hc, by rw [hP'], by rw [hP'], by rw [hP'], by rw [hP'], by rw [hP'], by rw [hP'], by rw [hP'], ho, by rw [hP'], ⟨es2, rfl, hem⟩, by rw [hP']; rfl, ⟨_, _, _, _, _, rdA, .inr ⟨fun x hx => ?_, rfl, er1, hr2, hfin⟩⟩, fun h0 => ?_⟩
      · simp at hx; subst hx; exact heq
      · obtain ⟨e1, e2⟩ := fin0 h0
        rw [e1] at hr2
        exact ⟨rfl, fun x hx => by simp at hx; subst hx; exact heq, hr2, e2, by rw [hP']⟩
  obtain ⟨es2, metN, xsN, q', P', hvs, fr2, hc, i1, i2, i3, i4, i5, i6, i7, ho, hq, heN, hsN, htel, h0x⟩ := key
  have fr12 : Fm.Fr (fun k => k ≠ g ∧ k ≠ R ∧ hv.ownBlock ≠ some k) w w2 := (po.fr.mono (fun k _ (h : k ≠ g ∧ k ≠ R ∧ hv.ownBlock ≠ some k) => h.2)).trans (fr2.mono (fun k _ (h : k ≠ g ∧ k ≠ R ∧ hv.ownBlock ≠ some k) => h.1)) (fun _ _ x => x)
  rcases hend with ⟨h0, rfl⟩ | ⟨h0, P1, k1, k2, fr3⟩
  · obtain ⟨rfl, hin2, hr2, rfl, hqb⟩ := h0x h0
    have st := po.st rfl
    have hfp := hf.after po fr2 hc i3 i4 i5 ho
    refine ⟨ev, fin, es2, w1.heap.size, rfl, po.fr.size, hvs, fr12, .inl ⟨h0, P', _, _, _, _, _, hfp, i1, i2, i6, i7, po.at_, fun k hk => (own_ge po.ow hk).2, met ++ met2, bs ++ bs2, xsN, ?_, hin2, ?_, heN, hsN⟩⟩
    · rw [st.2.2, ← st.2.1]
      exact rdA
    · rw [← hqb, ← hq]
      exact hr2
  · obtain ⟨j1, j2, j3, j4, j5, j6, j7⟩ := k1.same hc.pk
    refine ⟨ev, fin, es2, w1.heap.size, rfl, po.fr.size, hvs.fr (fun k hk hlt => fr3.block k hlt (fun e => by have := hc1.pk.lt; omega)), fr12.trans (fr3.mono (fun k _ (h : k ≠ g ∧ k ≠ R ∧ hv.ownBlock ≠ some k) => h.1)) (fun _ _ x => x), .inr ⟨h0, metN, xsN, q', _, htel, heN, k2, rfl, j1.trans i2, j2.trans hsN, j4.trans i6, j5.trans i7, j6.trans (by rw [hq]), j7.trans (by rw [hq]), ?_, hc.hl⟩⟩
    show OW 0 w' P1.hs q'.H
    rw [j3]
    have ho2 : OW 0 w2 P'.hs q'.H := by
      rcases ho with ⟨e1, e2⟩ | ho
      · rw [e1, e2]
        exact own_at hho (fun k hk _ => fr2.block k (own_ge hho hk).2 (hf.hj k hk).1)
      · exact ho.mono (Nat.zero_le _)
    refine own_at ho2 (fun k hk hx => fr3.block k (own_ge ho2 hk).2 ?_)
    obtain ⟨cs, hx⟩ := hx
    rintro rfl
    have := hc.pk.2
    rw [hx] at this
    simp at this
end Go.Proofs.YtnmeohacdbmplaaGreatDoor
namespace Go.Proofs.YtnmeohacdbmplaaGreatDoor
open Go.RowKit
theorem append_nothing_ev {w : World} {B : Nat} {v : Value} {n : Nat} {xs : List Value} (ty : TypeId) (c : Nat) (hown : w.ownsRow B 49 61 v n xs) :
    (Builtin.append_ #[39, 39] ty #[v, .slice none 0 c]).run Tryz.prog w = .ok v w := by
  obtain ⟨i0, hi, hz0, hz1, hz2⟩ := info_parts info_evP
  rcases hown.2 with ⟨rfl, rfl⟩ | ⟨g, cap, cur, rfl, _, _, hnc, _⟩
  · simp [Builtin.append_, run_underlying Tryz.underlying39, sizeOf, typeInfo, hi, Builtin.lenOf, Builtin.firstCells]
  · simp [Builtin.append_, run_underlying Tryz.underlying39, sizeOf, typeInfo, hi, Builtin.lenOf, Builtin.firstCells, hnc, storeCells]
theorem evs_len {B : Nat} {w : World} : ∀ {es : List Ev}, (∀ e ∈ es, OEv B w e) → (es.flatMap Ev.ls).length = es.length * 61
  | [], _ => rfl
  | e :: es, h => by
    rw [List.flatMap_cons, List.length_append, Ev.len (h e (by simp)), evs_len (fun x hx => h x (by simp [hx])), List.length_cons]
    omega
/-- events join a list of events -/
theorem append_evs {ops : Array Oper} {rest : List Oper} {o : Oper} {a : Act} {Q : Exit → Act → World → Prop} {w : World} {B : Nat} {sv xv : Value} {es ys : List Ev} (hgd : o.guard = none) (s x : Operand)
    (ho : o.op = .call { callee := .builtin .append, args := #[s, x], argTypes := #[39, 39] }) (hs : a.eval s = sv) (hown : EVS B w sv es) (hx : a.eval x = xv) (hy : EVS B w xv ys) (hB : B ≤ w.heap.size) (hlim : es.length + ys.length < 107374182)
    (h : ∀ v' w', EVS B w' v' (es ++ ys) → Below B w w' → (∀ k, k < w.heap.size → (∀ cs f, w.heap[k]? ≠ some (.cells cs 49 f)) → w'.heap[k]? = w.heap[k]?) → wpList Tryz.prog ops Q rest (a.put o.dst v') w') : wpList Tryz.prog ops Q (o :: rest) a w := by
  obtain ⟨i0, hi, hz0, hz1, hz2⟩ := info_parts info_evP
  rcases hy.1.2 with ⟨rfl, h0⟩ | ⟨b, cap, cur, rfl, _, h3, _⟩
  · have hys : ys = [] := List.length_eq_zero_iff.1 h0
    subst hys
    refine wpList_plain hgd fun K hK => ?_
    have hrun := append_nothing_ev o.type 0 hown.1
    unfold Oper.wp
    simp [execOp, ho, resolve, invoke, builtin, hs, hx, hrun, Result.andThen]
    exact hK _ _ (h _ _ (by rw [List.append_nil]; exact hown) (Below.refl _ _) (fun _ _ _ => rfl))
  refine wpList_append_own w hgd s x 39 ho B 49 i0 _ 61 152 Tryz.underlying39 hi hz0 hz1 hz2 rfl (by omega) sv es.length (es.flatMap Ev.ls) hs hown.1 ⟨b, 0, none⟩ ys.length cap (ys.flatMap Ev.ls) hx (evs_len hy.2) (fun j u hu => ?_) (fun u hu => ?_) (by unfold maxLen; omega) (by omega) hB (fun v' w' h1 h2 _ => ?_)
  · rw [Addr.add_mid, Nat.zero_add]
    have hj := (List.getElem?_eq_some_iff.1 hu).1
    rw [evs_len hy.2] at hj
    rw [World.ownsRow.cellAt hy.1 j hj]
    exact hu
  · obtain ⟨e, he, hu⟩ := List.mem_flatMap.1 hu
    exact Ev.one (hy.2 e he) u hu
  · have hrow : ∀ (k : Nat) (cs : Array Value) (t : TypeId), w.heap[k]? = some (.cells cs t (0, 0)) → t ≠ 49 → w'.heap[k]? = some (.cells cs t (0, 0)) := fun k cs t hk ht => by
      refine (h2.block k (Array.getElem?_eq_some_iff.1 hk).1 fun e' => ?_).trans hk
      rcases hown.1.2 with ⟨rfl, _⟩ | ⟨g, cap, cur, rfl, _, hg, _⟩
      · simp [Value.ownBlock] at e'
      · simp [Value.ownBlock] at e'
        subst e'
        rw [hk] at hg
        simp at hg
        exact ht hg.2
    have hmg : ∀ z, OMg B w z → OMg B w' z := fun z hz => by
      refine ⟨hz.ok, ⟨hz.d.1, ?_⟩, ?_, hz.dl, hz.hl⟩
      · rcases hz.d.2 with h1 | ⟨k, cap, cur, h1, h2, h3, h4⟩
        · exact .inl h1
        · exact .inr ⟨k, cap, cur, h1, h2, hrow _ _ _ h3 (by decide), h4⟩
      · obtain ⟨n, e, hh⟩ := hz.h
        refine ⟨n, e, hh.1, ?_⟩
        rcases hh.2 with h1 | ⟨k, cap, cur, h1, h2, h3, h4⟩
        · exact .inl h1
        · exact .inr ⟨k, cap, cur, h1, h2, hrow _ _ _ h3 (by decide), h4⟩
    have hstr : ∀ k, k < w.heap.size → (∀ cs f, w.heap[k]? ≠ some (.cells cs 49 f)) → w'.heap[k]? = w.heap[k]? := fun k hk hne => by
      refine h2.block k hk fun e' => ?_
      rcases hown.1.2 with ⟨rfl, _⟩ | ⟨g, cap, cur, rfl, _, hg, _⟩
      · simp [Value.ownBlock] at e'
      · simp [Value.ownBlock] at e'
        subst e'
        exact hne _ _ hg
    have hbl := (Below.refl B w).grown h2 hB (fun k hk => (World.ownsRow.lt hown.1 k hk).1)
    refine h v' w' ⟨?_, fun z hz => ?_⟩ hbl hstr
    · rw [List.flatMap_append, List.length_append]
      exact h1
    · rcases List.mem_append.1 hz with hz | hz
      · exact ⟨(hown.2 z hz).pr, hmg _ (hown.2 z hz).mg⟩
      · exact ⟨(hy.2 z hz).pr, hmg _ (hy.2 z hz).mg⟩
/-- a connection stands where only lists of events turn -/
theorem FP.ev {w w' : World} {g R : Nat} {P : Pv} {L : List Int} {H : List UInt8} {p s : Nat} {held : List UInt8} {hv : Value} (h : FP w g R P L H p s held hv) {B : Nat} (hb : Below B w w') (hB : 1 < B) (hk : ∀ k, k < w.heap.size → (∀ cs f, w.heap[k]? ≠ some (.cells cs 49 f)) → w'.heap[k]? = w.heap[k]?) : FP w' g R P L H p s held hv := by
  have kb : ∀ (k : Nat) (cs : Array Value) (t : TypeId), w.heap[k]? = some (Obj.cells cs t (0, 0)) → t ≠ 49 → w'.heap[k]? = w.heap[k]? := fun k cs t e ht =>
    hk k (Array.getElem?_eq_some_iff.1 e).1 (fun cs' f e' => by rw [e] at e'; simp at e'; exact ht e'.2.1)
  refine ⟨h.pk.keep (kb g _ _ h.pk.2 (by decide)), h.stp, h.why, h.gR, h.g1, h.b0, h.b1, h.lok, own_at h.lo (fun k _ hx => hx.elim (fun cs e => kb k cs _ e (by decide))), h.lj, own_at h.ho (fun k _ hx => hx.elim (fun cs e => kb k cs _ e (by decide))), h.hj, h.hl, (kb R _ _ h.rk (by decide)).trans h.rk, h.st, own_at h.ow (fun k _ hx => hx.elim (fun cs e => kb k cs _ e (by decide))), h.nil, fun j v hj => ?_, Nat.lt_of_lt_of_le h.mt.1 hb.size, fun j hj => ?_⟩
  · rw [World.cell?_of_block (w := w) (hb.block 1 hB)]
    exact h.kt j v hj
  · exact (World.cell?_of_block (w := w) (hb.block 0 (by omega))).trans (h.mt.2 j hj)
end Go.Proofs.YtnmeohacdbmplaaGreatDoor
