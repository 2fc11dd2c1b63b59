import Derived.Test.YtabjpffaleaoaaaGreatDoorM28
import Derived.Deep.Cut
import Derived.Deep.CutRange
namespace Go.Proofs.YtabjpffaleaoaaaGreatDoor
open Go.RowKit
theorem rd_gen {h0 : Bool} {l : List UInt8} {met bs : List (List UInt8)} {h' : Bool} {r : List UInt8} {e : Int} (x : Fm.Rd h0 l met bs h' r e) (h : h' = true) : met = [] ∧ bs = [] := by
  cases h0 with
  | true =>
    have h1 := (Fm.rd_none x).2 h
    exact ⟨h1, ((Fm.rd_none x).1 h1).1⟩
  | false => have := (x.frames rfl).2.1; rw [h] at this; cases this
/-- what a stream tells a connection: the handshake, the messages, what is kept in mind then, the error -/
def TelG (h0 : Bool) (info : List UInt8) (L : List Int) (pb : Int) (q0 : Qs) (T : List UInt8) (met : List (List UInt8)) (xs : List Mg) (q' : Qs) (fin : Int) : Prop :=
  ∃ met0 bs h' r er, Fm.Rd h0 T met0 bs h' r er ∧
    ((∃ h, met0 = [h] ∧ hinf h ≠ info ∧ met = [] ∧ xs = [] ∧ q' = q0 ∧ fin = 171) ∨
     ((∀ h ∈ met0, hinf h = info) ∧ met = met0 ∧ ∃ er1, Hr L pb q0 bs xs q' er1 ∧ fin = if er1 = 0 then er else er1))
theorem TelG.det {h0 : Bool} {info : List UInt8} {L : List Int} {pb : Int} {q0 : Qs} {T : List UInt8} {met met2 : List (List UInt8)} {xs xs2 : List Mg} {q' q2 : Qs} {fin fin2 : Int} (x : TelG h0 info L pb q0 T met xs q' fin) (y : TelG h0 info L pb q0 T met2 xs2 q2 fin2) : met2 = met ∧ xs2 = xs ∧ q2 = q' ∧ fin2 = fin := by
  obtain ⟨m1, bs1, h1, r1, er1, d1, x⟩ := x
  obtain ⟨m2, bs2, h2, r2, er2, d2, y⟩ := y
  obtain ⟨rfl, rfl, rfl, rfl, rfl⟩ := d1.det d2
  rcases x with ⟨h, e1, e2, rfl, rfl, rfl, rfl⟩ | ⟨e2, rfl, f1, hr1, rfl⟩ <;> rcases y with ⟨k, g1, g2, rfl, rfl, rfl, rfl⟩ | ⟨g2, rfl, f2, hr2, rfl⟩
  · exact ⟨rfl, rfl, rfl, rfl⟩
  · rw [e1] at g2; exact absurd (g2 h (by simp)) e2
  · rw [g1] at e2; exact absurd (e2 k (by simp)) g2
  · obtain ⟨rfl, rfl, rfl⟩ := hr1.det hr2
    exact ⟨rfl, rfl, rfl, rfl⟩
/-- behind an error nothing tells more -/
theorem TelG.more {h0 : Bool} {info : List UInt8} {L : List Int} {pb : Int} {q0 : Qs} {T : List UInt8} {met : List (List UInt8)} {xs : List Mg} {q' : Qs} {fin : Int} (x : TelG h0 info L pb q0 T met xs q' fin) (hf : fin ≠ 0) (T2 : List UInt8) : TelG h0 info L pb q0 (T ++ T2) met xs q' fin := by
  obtain ⟨m1, bs1, h1, r1, er, d1, x⟩ := x
  by_cases he : er = 0
  · subst he
    obtain ⟨m2, bs2, h2, r2, er2, d2⟩ := Fm.rd_any h1 (r1 ++ T2)
    have d := d1.app rfl d2
    have hm2 : m1 ≠ [] → m2 = [] := fun hm => by
      cases h1 with
      | false => exact (d2.frames rfl).1
      | true => exact absurd (rd_gen d1 rfl).1 hm
    rcases x with ⟨h, e1, e2, x⟩ | ⟨e2, rfl, f1, hr1, rfl⟩
    · refine ⟨_, _, _, _, _, d, .inl ⟨h, ?_, e2, x⟩⟩
      rw [hm2 (by rw [e1]; simp), e1]
      rfl
    · by_cases hf1 : f1 = 0
      · subst hf1
        exact absurd rfl hf
      · have hm : m2 = [] := by
          cases h1 with
          | false => exact (d2.frames rfl).1
          | true =>
            have := (rd_gen d1 rfl).2
            rw [this] at hr1
            cases hr1
            exact absurd rfl hf1
        rw [hm, List.append_nil] at d
        refine ⟨_, _, _, _, _, d, .inr ⟨e2, rfl, f1, hr1.more hf1 _, ?_⟩⟩
        rw [if_neg hf1, if_neg hf1]
  · exact ⟨_, _, _, _, _, d1.more he T2, x⟩
/-- what a connection has been told by A, without an error -/
def AccG (h0 sh0 : Bool) (info : List UInt8) (L : List Int) (pb : Int) (q0 : Qs) (A : List UInt8) (es : List Ev) (p s : Nat) (held : List UInt8) (q : Qs) (sh : Bool) : Prop :=
  ∃ met bs xs, Fm.Rd h0 A met bs (p == 2) (Fm.tx p s held) 0 ∧ (∀ h ∈ met, hinf h = info) ∧ Hr L pb q0 bs xs q 0 ∧ EvH es met xs ∧ sh = (sh0 || !met.isEmpty)
theorem AccG.start (h0 sh0 : Bool) (info : List UInt8) (L : List Int) (pb : Int) (q0 : Qs) (p s : Nat) (hp : (p == 2) = h0) (ht : Fm.tx p s [] = []) : AccG h0 sh0 info L pb q0 [] [] p s [] q0 sh0 := by
  refine ⟨[], [], [], ?_, (fun _ h => by cases h), Hr.nil q0, ⟨[], rfl, EvM.nil⟩, by simp⟩
  rw [hp, ht]
  cases h0 with
  | true => exact Fm.Rd.few [] rfl (by simp)
  | false => exact Fm.Rd.num [] (by simp)
theorem AccG.tel {h0 sh0 : Bool} {info : List UInt8} {L : List Int} {pb : Int} {q0 : Qs} {A : List UInt8} {es : List Ev} {p s : Nat} {held : List UInt8} {q : Qs} {sh : Bool} (h : AccG h0 sh0 info L pb q0 A es p s held q sh) : ∃ met xs, TelG h0 info L pb q0 A met xs q 0 ∧ EvH es met xs ∧ sh = (sh0 || !met.isEmpty) := by
  obtain ⟨met, bs, xs, rd, hin, hr, he, hs⟩ := h
  exact ⟨met, xs, ⟨_, _, _, _, _, rd, .inr ⟨hin, rfl, 0, hr, rfl⟩⟩, he, hs⟩
/-- one more Feed -/
theorem FdE.stepG {h0 sh0 : Bool} {w : World} {g R : Nat} {P : Pv} {L : List Int} {H : List UInt8} {p s : Nat} {held : List UInt8} {hv : Value} {l : List UInt8} {e : Ending} {w' : World} (hf : FP w g R P L H p s held hv) (h : FdE w g R P L H p s held hv l e w') {q0 : Qs} {A : List UInt8} {es : List Ev} (acc : AccG h0 sh0 P.info L P.b q0 A es p s held ⟨P.ic, P.ii, P.ib, H⟩ P.sh) :
    ∃ ev fin es2 B1, e = .returned (.tuple #[ev, .int .i64 fin]) ∧ w.heap.size ≤ B1 ∧ EVS B1 w' ev es2 ∧ Fm.Fr (fun k => k ≠ g ∧ k ≠ R ∧ hv.ownBlock ≠ some k) w w' ∧
      ((fin = 0 ∧ ∃ P' H' p' s' held' hv', FP w' g R P' L H' p' s' held' hv' ∧ P'.info = P.info ∧ P'.b = P.b ∧ P'.wc = P.wc ∧ P'.wi = P.wi ∧ P'.wb = P.wb ∧ (hv'.ownBlock = hv.ownBlock ∨ ∀ k, hv'.ownBlock = some k → w.heap.size ≤ k) ∧ (∀ k, hv'.ownBlock = some k → k < B1) ∧ AccG h0 sh0 P.info L P.b q0 (A ++ l) (es ++ es2) p' s' held' ⟨P'.ic, P'.ii, P'.ib, H'⟩ P'.sh) ∨
       (fin ≠ 0 ∧ ∃ met xs q' P', TelG h0 P.info L P.b q0 (A ++ l) met xs q' fin ∧ EvH (es ++ es2) met xs ∧ Sd w' g P' P.b P.wc P.wi (sh0 || !met.isEmpty) q' fin)) := by
  obtain ⟨ev, fin, mv, bsv, er, met2, bs2, h', r, p', s', held', hv', w1, er1, w2, rfl, po, hrs, hfin, hend⟩ := h
  obtain ⟨hc1, hlo, hho⟩ := hf.hc po.fr
  obtain ⟨met, bs, xs, rd, hin, hr, heh, hsh⟩ := acc
  have rdA : Fm.Rd h0 (A ++ l) (met ++ met2) (bs ++ bs2) h' r er := rd.app rfl po.rd
  have early : met2 ≠ [] → met = [] ∧ bs = [] ∧ xs = [] ∧ q0 = ⟨P.ic, P.ii, P.ib, H⟩ ∧ es = [] := fun hne => by
    have hp : (p == 2) = true := by
      cases hx : (p == 2) with
      | true => rfl
      | false => exact absurd ((rd_facts po.rd).1 hx) hne
    obtain ⟨hm, hb⟩ := rd_gen rd hp
    subst hm hb
    cases hr
    obtain ⟨es', rfl, hem⟩ := heh
    exact ⟨rfl, rfl, rfl, rfl, by rw [hem.none]⟩
  have key : ∃ es2 metN xsN q' P', EVS w1.heap.size w2 ev es2 ∧ Fm.Fr (fun k => k ≠ g) w1 w2 ∧ HC w2 g P' L q'.H ∧ P'.info = P.info ∧ P'.b = P.b ∧ P'.ln = P.ln ∧ P'.st = P.st ∧ P'.why = P.why ∧ P'.wc = P.wc ∧ P'.wi = P.wi ∧ P'.wb = P.wb ∧
      ((P'.hs = P.hs ∧ q'.H = H) ∨ OW w1.heap.size w2 P'.hs q'.H) ∧ q' = ⟨P'.ic, P'.ii, q'.b, q'.H⟩ ∧ EvH (es ++ es2) metN xsN ∧ P'.sh = (sh0 || !metN.isEmpty) ∧ TelG h0 P.info L P.b q0 (A ++ l) metN xsN q' fin ∧
      (fin = 0 → metN = met ++ met2 ∧ (∀ h ∈ met ++ met2, hinf h = P.info) ∧ Hr L P.b q0 (bs ++ bs2) xsN q' 0 ∧ er = 0 ∧ q'.b = P'.ib) := by
    have fin0 : fin = 0 → er1 = 0 ∧ er = 0 := fun h0 => by
      rw [hfin] at h0
      split at h0
      · rename_i h; exact ⟨h, h0⟩
      · rename_i h; exact absurd h0 h
    rcases hrs with ⟨rfl, fr2, es2, xs2, q', P', hvs, hem, hr2, hc, hP', ho⟩ | ⟨h, rfl, ⟨hne, rfl, h171, hbw⟩ | ⟨heq, fr2, es2, xs2, q', P', hvs, hem, hr2, hc, hP', ho⟩⟩
    · have hrA := hr.app rfl hr2
      have rdB := rdA
      rw [List.append_nil] at rdB
      refine ⟨es2, met, xs ++ xs2, q', P', hvs, fr2, hc, by rw [hP'], by rw [hP'], by rw [hP'], by rw [hP'], by rw [hP'], by rw [hP'], by rw [hP'], by rw [hP'], ho, by rw [hP'], ?_, by rw [hP']; exact hsh, ⟨_, _, _, _, _, rdB, .inr ⟨hin, rfl, er1, hrA, hfin⟩⟩, fun h0 => ?_⟩
      · obtain ⟨es', rfl, hm⟩ := heh
        exact ⟨es' ++ es2, by rw [List.append_assoc], hm.app hem⟩
      · obtain ⟨e1, e2⟩ := fin0 h0
        rw [e1] at hrA
        exact ⟨by rw [List.append_nil], by rw [List.append_nil]; exact hin, hrA, e2, by rw [hP']⟩
    · obtain ⟨rfl, rfl, rfl, rfl, rfl⟩ := early (by simp)
      have hf171 : fin = 171 := by rw [hfin, h171]; rfl
      refine ⟨[], [], [], ⟨P.ic, P.ii, P.ib, H⟩, P, EVS.nil _ _, Fm.Fr.of_below hbw, hc1.below hbw, rfl, rfl, rfl, rfl, rfl, rfl, rfl, rfl, .inl ⟨rfl, rfl⟩, rfl, ⟨[], rfl, EvM.nil⟩, by rw [hsh], ⟨_, _, _, _, _, rdA, .inl ⟨h, rfl, hne, rfl, rfl, rfl, hf171⟩⟩, fun h0 => ?_⟩
      rw [hf171] at h0
      cases h0
    · obtain ⟨rfl, rfl, rfl, rfl, rfl⟩ := early (by simp)
      refine ⟨[hev h] ++ es2, [h], xs2, q', P', hvs, fr2, hc, by rw [hP'], by rw [hP'], by rw [hP'], by rw [hP'], by rw [hP'], by rw [hP'], by rw [hP'], by rw [hP'], ho, by rw [hP'], ⟨es2, rfl, hem⟩, by rw [hP']; simp, ⟨_, _, _, _, _, rdA, .inr ⟨fun x hx => ?_, rfl, er1, hr2, hfin⟩⟩, fun h0 => ?_⟩
      · simp at hx; subst hx; exact heq
      · obtain ⟨e1, e2⟩ := fin0 h0
        rw [e1] at hr2
        exact ⟨rfl, fun x hx => by simp at hx; subst hx; exact heq, hr2, e2, by rw [hP']⟩
  obtain ⟨es2, metN, xsN, q', P', hvs, fr2, hc, i1, i2, i3, i4, i5, i6, i7, i8, ho, hq, heN, hsN, htel, h0x⟩ := key
  have fr12 : Fm.Fr (fun k => k ≠ g ∧ k ≠ R ∧ hv.ownBlock ≠ some k) w w2 := (po.fr.mono (fun k _ (h : k ≠ g ∧ k ≠ R ∧ hv.ownBlock ≠ some k) => h.2)).trans (fr2.mono (fun k _ (h : k ≠ g ∧ k ≠ R ∧ hv.ownBlock ≠ some k) => h.1)) (fun _ _ x => x)
  rcases hend with ⟨h0, rfl⟩ | ⟨h0, P1, k1, k2, fr3⟩
  · obtain ⟨rfl, hin2, hr2, rfl, hqb⟩ := h0x h0
    have st := po.st rfl
    have hfp := hf.after po fr2 hc i3 i4 i5 ho
    refine ⟨ev, fin, es2, w1.heap.size, rfl, po.fr.size, hvs, fr12, .inl ⟨h0, P', _, _, _, _, _, hfp, i1, i2, i6, i7, i8, po.at_, fun k hk => (own_ge po.ow hk).2, met ++ met2, bs ++ bs2, xsN, ?_, hin2, ?_, heN, hsN⟩⟩
    · rw [st.2.2, ← st.2.1]
      exact rdA
    · rw [← hqb, ← hq]
      exact hr2
  · obtain ⟨j1, j2, j3, j4, j5, j6, j7⟩ := k1.same hc.pk
    refine ⟨ev, fin, es2, w1.heap.size, rfl, po.fr.size, hvs.fr (fun k hk hlt => fr3.block k hlt (fun e => by have := hc1.pk.lt; omega)), fr12.trans (fr3.mono (fun k _ (h : k ≠ g ∧ k ≠ R ∧ hv.ownBlock ≠ some k) => h.1)) (fun _ _ x => x), .inr ⟨h0, metN, xsN, q', _, htel, heN, k2, rfl, j1.trans i2, j2.trans hsN, j4.trans i6, j5.trans i7, j6.trans (by rw [hq]), j7.trans (by rw [hq]), ?_, hc.hl⟩⟩
    show OW 0 w' P1.hs q'.H
    rw [j3]
    have ho2 : OW 0 w2 P'.hs q'.H := by
      rcases ho with ⟨e1, e2⟩ | ho
      · rw [e1, e2]
        exact own_at hho (fun k hk _ => fr2.block k (own_ge hho hk).2 (hf.hj k hk).1)
      · exact ho.mono (Nat.zero_le _)
    refine own_at ho2 (fun k hk hx => fr3.block k (own_ge ho2 hk).2 ?_)
    obtain ⟨cs, hx⟩ := hx
    rintro rfl
    have := hc.pk.2
    rw [hx] at this
    simp at this
end Go.Proofs.YtabjpffaleaoaaaGreatDoor
namespace Go.Proofs.YtabjpffaleaoaaaGreatDoor
open Go.RowKit
theorem AccG.len {h0 sh0 : Bool} {info : List UInt8} {L : List Int} {pb : Int} {q0 : Qs} {A : List UInt8} {es : List Ev} {p s : Nat} {held : List UInt8} {q : Qs} {sh : Bool} (h : AccG h0 sh0 info L pb q0 A es p s held q sh) : es.length ≤ 1 + A.length := by
  obtain ⟨met, bs, xs, rd, _, hr, ⟨es', rfl, he⟩, _⟩ := h
  have h1 := rd_facts rd
  have h2 := hr_len hr
  have h3 := he.1
  rw [List.length_append, List.length_map]
  omega
theorem TelG.len {h0 : Bool} {info : List UInt8} {L : List Int} {pb : Int} {q0 : Qs} {T : List UInt8} {met : List (List UInt8)} {xs : List Mg} {q' : Qs} {fin : Int} (x : TelG h0 info L pb q0 T met xs q' fin) {es : List Ev} (h : EvH es met xs) : es.length ≤ 1 + T.length := by
  obtain ⟨es', rfl, he⟩ := h
  obtain ⟨m1, bs1, h1, r1, er, d1, x⟩ := x
  have h3 := he.1
  rw [List.length_append, List.length_map]
  rcases x with ⟨_, _, _, rfl, rfl, _⟩ | ⟨_, rfl, f1, hr1, _⟩
  · rw [List.length_nil] at h3 ⊢; omega
  · have h1 := rd_facts d1
    have h2 := hr_len hr1
    omega
/-- what the feeding in pieces keeps -/
structure FIG (h0 sh0 : Bool) (W : World) (g R : Nat) (P : Pv) (L : List Int) (q0 : Qs) (l : List UInt8) (zn k at' : Nat) (ov : Value) (p s : Nat) (held : List UInt8) (hv : Value) (P' : Pv) (H' : List UInt8) (es : List Ev) (wr : World) : Prop where
  fp : FP wr g R P' L H' p s held hv
  pe : P'.info = P.info ∧ P'.b = P.b ∧ P'.wc = P.wc ∧ P'.wi = P.wi ∧ P'.wb = P.wb
  acc : AccG h0 sh0 P.info L P.b q0 (l.take at') es p s held ⟨P'.ic, P'.ii, P'.ib, H'⟩ P'.sh
  ev : EVS W.heap.size wr ov es
  fr : Fm.Fr (fun k => k ≠ g ∧ k ≠ R) W wr
  hb : ∀ k, hv.ownBlock = some k → W.heap.size ≤ k
  noh : Noh es hv
  ak : k = zn + 1 → at' = l.length
set_option maxHeartbeats 4000000 in
set_option maxRecDepth 100000 in
theorem fedG (W : World) (g R : Nat) (P : Pv) (L : List Int) (H : List UInt8) (p0 s0 : Nat) (hf : FP W g R P L H p0 s0 [] (.slice none 0 0)) (htx : Fm.tx p0 s0 [] = []) (B0 : Nat) (hB0 : B0 ≤ g) (av : Value) (l : List UInt8) (hb : Fm.RN (fun k => k < W.heap.size ∧ k ≠ g ∧ k ≠ R) W av l) (hll : l.length ≤ 16777216) (cv : Value) (zs : List Int) (hz : RZo B0 W cv zs) (hzl : zs.length ≤ 1048576) (hzb : ∀ z ∈ zs, -9223372036854775808 ≤ z ∧ z ≤ 9223372036854775807) :
    Calls Tryz.prog 24 #[.pointer (some ⟨g, 0, none⟩), av, cv] W fun e w' => ∃ ev fin es met xs q', e = .returned (.tuple #[ev, .int .i64 fin]) ∧ EVS W.heap.size w' ev es ∧ EvH es met xs ∧ TelG (p0 == 2) P.info L P.b ⟨P.ic, P.ii, P.ib, H⟩ l met xs q' fin ∧ Fm.Fr (fun k => k ≠ g ∧ k ≠ R) W w' ∧
      (fin = 0 → ∃ P' p s held hv, FP w' g R P' L q'.H p s held hv ∧ P'.info = P.info ∧ P'.b = P.b ∧ P'.wc = P.wc ∧ P'.wi = P.wi ∧ P'.wb = P.wb ∧ P'.ic = q'.c ∧ P'.ii = q'.i ∧ P'.ib = q'.b ∧ P'.sh = (P.sh || !met.isEmpty) ∧ ∃ bs, Fm.Rd (p0 == 2) l met bs (p == 2) (Fm.tx p s held) 0) := by
  have HI0 : Hid (FIG (p0 == 2) P.sh W g R P L ⟨P.ic, P.ii, P.ib, H⟩ l zs.length 0 0 (.slice none 0 0) p0 s0 [] (.slice none 0 0) P H [] W) :=
    ⟨hf, ⟨rfl, rfl, rfl, rfl, rfl⟩, by rw [List.take_zero]; exact AccG.start _ _ _ _ _ _ _ _ rfl htx, EVS.nil _ _, Fm.Fr.refl _ _, (fun k e => by simp [Value.ownBlock] at e), (fun e he => by cases he), fun e => by omega⟩
  have HG : Hid (B0 ≤ g ∧ g < R ∧ R < W.heap.size ∧ 1 < g) := ⟨hB0, hf.gR, hf.rk.lt, hf.g1⟩
  have HB : Hid (Fm.RN (fun k => k < W.heap.size ∧ k ≠ g ∧ k ≠ R) W av l) := hb
  have HZ : Hid (RZo B0 W cv zs) := hz
  have HZB : Hid (∀ z ∈ zs, -9223372036854775808 ≤ z ∧ z ≤ 9223372036854775807) := hzb
  obtain ⟨a, c, rfl, hlc, _⟩ := hb
  obtain ⟨ca, cc, rfl, _⟩ := hz
  clear hf htx hB0 hzb
  go_enter Tryz.func24, Tryz.ntmps24
  go_wp2
  go_loopw [8, 9, 10] (fun ov t i wr => ∃ (k at' p s : Nat) (held : List UInt8) (hv : Value) (P' : Pv) (H' : List UInt8) (es : List Ev), k ≤ zs.length + 1 ∧ at' ≤ l.length ∧ i = .int .i64 k ∧ t = .int .i64 at' ∧ Hid (FIG (p0 == 2) P.sh W g R P L ⟨P.ic, P.ii, P.ib, H⟩ l zs.length k at' ov p s held hv P' H' es wr)) (fun _ _ i _ => zs.length + 1 - (intOf i).toNat)
  case atStart => exact ⟨0, 0, p0, s0, [], _, P, H, [], Nat.zero_le _, Nat.zero_le _, rfl, rfl, HI0⟩
  case round =>
    clear HI0
    obtain ⟨k, at', p, s, held, hv, P', H', es, hk, hat, rfl, rfl, HI⟩ := hrel
    by_cases hlt : k = zs.length + 1
    · subst hlt
      have hae := HI.out.ak rfl
      subst hae
      go_wp2
      go_ret2
      have hacc := HI.out.acc
      rw [List.take_length] at hacc
      obtain ⟨met, bs, xs, rd, hin, hr, heh, hsh⟩ := hacc
      exact ⟨_, 0, es, met, xs, _, rfl, HI.out.ev, heh, ⟨_, _, _, _, _, rd, .inr ⟨hin, rfl, 0, hr, rfl⟩⟩, HI.out.fr, fun _ => ⟨P', p, s, held, hv, HI.out.fp, HI.out.pe.1, HI.out.pe.2.1, HI.out.pe.2.2.1, HI.out.pe.2.2.2.1, HI.out.pe.2.2.2.2, rfl, rfl, rfl, hsh, bs, rd⟩⟩
    · have hk' : k ≤ zs.length := by omega
      have hcell : k < zs.length → ∃ cg co, ca = some ⟨cg, co, none⟩ ∧ wr.cell? ⟨cg, co + k, none⟩ = some (.int .i64 (zs.getD k 0)) := fun hkz => by
        obtain ⟨_, _, e, h⟩ := HZ.out
        simp only [Value.slice.injEq] at e
        obtain ⟨rfl, _, rfl⟩ := e
        rcases h with h | ⟨g', o, rfl, h1, h2, h3⟩
        · rw [h] at hkz; simp at hkz
        · have := HG.out
          exact ⟨g', o, rfl, (World.cell?_of_block (w := W) (HI.out.fr.block g' h2 ⟨by omega, by omega⟩)).trans (h3 k hkz)⟩
      have HCe := Lib.hid hcell
      have hzz : k < zs.length → -9223372036854775808 ≤ zs.getD k 0 ∧ zs.getD k 0 ≤ 9223372036854775807 := fun hkz => HZB.out _ (by simp [List.getD, List.getElem?_eq_getElem hkz])
      clear hcell
      obtain ⟨z, hze⟩ : ∃ z, z = zs.getD k 0 := ⟨_, rfl⟩
      rw [← hze] at HCe hzz
      clear hze
      go_upto_region 7 with fail
      go_cut [43] from 14 to 67 (fun s wc => s = .bool (decide (k < zs.length ∧ 0 ≤ z ∧ z < (l.length : Int) - at')) ∧ wr = wc)
      case first =>
        by_cases hkz : k = zs.length
        · subst hkz
          go_wp2_with fail
          go_meet
          exact ⟨by simp, rfl⟩
        · have hkl : k < zs.length := by omega
          obtain ⟨cg, co, rfl, hcg⟩ := HCe.out hkl
          obtain ⟨hz1, hz2⟩ := hzz hkl
          clear HCe
          by_cases hz3 : 0 ≤ z
          · by_cases hz4 : z < (l.length : Int) - (at' : Int)
            · go_wp2_with fail
              go_meet
              exact ⟨by simp [hkl, hz3, hz4], rfl⟩
            · go_wp2_with fail
              go_meet
              exact ⟨by simp [hkl, hz3, hz4], rfl⟩
          · go_wp2_with fail
            go_meet
            exact ⟨by rw [decide_eq_false (by omega)], rfl⟩
      case rest =>
        obtain ⟨rfl, rfl⟩ := hcut
        go_upto_if 43 with fail
        go_cut [11] from 14 to 67 (fun s11 wc => ∃ to' : Nat, s11 = .int .i64 to' ∧ at' ≤ to' ∧ to' ≤ l.length ∧ (k = zs.length → to' = l.length) ∧ wr = wc)
        case first =>
          by_cases hc : k < zs.length ∧ 0 ≤ z ∧ z < (l.length : Int) - at'
          · obtain ⟨hkl, hz3, hz4⟩ := id hc
            have hd : decide (k < zs.length ∧ 0 ≤ z ∧ z < (l.length : Int) - at') = true := decide_eq_true hc
            obtain ⟨cg, co, rfl, hcg⟩ := HCe.out hkl
            obtain ⟨zn, rfl⟩ := Int.eq_ofNat_of_zero_le hz3
            rw [hd]
            clear HCe hd hc
            go_wp2_with fail
            go_meet
            exact ⟨at' + zn, by go_num, by omega, by omega, fun h => by omega, rfl⟩
          · have hd : decide (k < zs.length ∧ 0 ≤ z ∧ z < (l.length : Int) - at') = false := decide_eq_false hc
            rw [hd]
            clear HCe hd
            go_wp2_with fail
            go_meet
            exact ⟨l.length, rfl, hat, Nat.le_refl _, fun _ => rfl, rfl⟩
        case rest =>
          clear HCe hzz
          obtain ⟨to', rfl, ht1, ht2, ht3, rfl⟩ := hcut
          have hpl : ((l.drop at').take (to' - at')).length = to' - at' := by rw [List.length_take, List.length_drop]; omega
          have hRN : Fm.RN (fun k => hv.ownBlock ≠ some k) wr (.slice (if c = at' then a else a.map (·.add at')) (to' - at') (c - at')) ((l.drop at').take (to' - at')) := by
            have h0 := HG.out
            have h1 := HB.out.move (w' := wr) (T := fun k => hv.ownBlock ≠ some k) (fun k hk e => by have := HI.out.hb k e; omega) (fun k hk hlt _ => HI.out.fr.block k hlt hk.2)
            exact h1.cut ht1 ht2
          have HFd := Lib.hid (feedT wr g R P' L H' p s held hv HI.out.fp _ _ hRN (by rw [hpl]; omega))
          have hi1 : (at' : Int) ≤ (to' : Int) := by omega
          have hi2 : (to' : Int) ≤ (c : Int) := by omega
          have hi0 : (0 : Int) ≤ (at' : Int) := by omega
          clear hRN hpl
          go_upto_region 9 with fail
          go_cut [12, 13] from 14 to 67 (fun s12 s13 wc => ∃ fin, s13 = .int .i64 fin ∧ FdE wr g R P' L H' p s held hv ((l.drop at').take (to' - at')) (.returned (.tuple #[s12, .int .i64 fin])) wc)
          case first =>
            by_cases hca : c = at'
            · rw [if_pos hca] at HFd
              have hcaT : (c = at') = True := eq_true hca
              clear hca
              go_wp2_with fail
              refine HFd.out.mono ?_
              intro e w2 hx
              obtain ⟨ev, fin, rfl⟩ := hx.form
              have HX := Lib.hid hx
              clear hx
              go_wp2_with fail
              go_meet
              exact ⟨fin, rfl, HX.out⟩
            · rw [if_neg hca] at HFd
              have hcaF : (c = at') = False := eq_false hca
              clear hca
              go_wp2_with fail
              refine HFd.out.mono ?_
              intro e w2 hx
              obtain ⟨ev, fin, rfl⟩ := hx.form
              have HX := Lib.hid hx
              clear hx
              go_wp2_with fail
              go_meet
              exact ⟨fin, rfl, HX.out⟩
          case rest =>
            clear HFd
            obtain ⟨fin, rfl, hx⟩ := hcut
            obtain ⟨ev, fin', es2, B1, he, hB1, hes, fr2, hcase⟩ := FdE.stepG HI.out.fp hx (by rw [HI.out.pe.1, HI.out.pe.2.1]; exact HI.out.acc)
            obtain ⟨rfl, rfl⟩ : u12 = ev ∧ fin = fin' := by
              simp only [Ending.returned.injEq, Value.tuple.injEq] at he
              have h0 := congrArg (fun a => a[0]?) he
              have h1 := congrArg (fun a => a[1]?) he
              simp at h0 h1
              exact ⟨h0, h1⟩
            have htk : l.take at' ++ (l.drop at').take (to' - at') = l.take to' := by rw [← List.take_add, show at' + (to' - at') = to' by omega]
            rw [htk, HI.out.pe.1, HI.out.pe.2.1, HI.out.pe.2.2.1, HI.out.pe.2.2.2.1] at hcase
            have hsz := HI.out.fr.size
            have hgl := HI.out.fp.pk.lt
            have frW : Fm.Fr (fun k => k ≠ g ∧ k ≠ R) W wc := HI.out.fr.trans (fr2.mono (T := fun k => k < W.heap.size ∧ k ≠ g ∧ k ≠ R) (fun k _ h => ⟨h.2.1, h.2.2, fun e => by have := HI.out.hb k e; omega⟩)) (fun k hk h => ⟨hk, h⟩)
            have hevW : EVS W.heap.size wc u8 es := HI.out.ev.frX HI.out.fp HI.out.noh fr2
            have hes2 : EVS W.heap.size wc u12 es2 := hes.mono (Nat.le_trans hsz hB1)
            have hlen : es.length + es2.length < 107374182 := by
              have h1 : (es ++ es2).length ≤ 1 + (l.take to').length := by
                rcases hcase with ⟨_, _, _, _, _, _, _, _, _, _, _, _, _, _, _, h⟩ | ⟨_, _, _, _, _, h1, h2, _⟩
                · exact h.len
                · exact h1.len h2
              rw [List.length_append, List.length_take] at h1
              omega
            have HE := Lib.hid (And.intro hevW (And.intro hes2 (And.intro hes (And.intro frW hcase))))
            have HSZ : Hid (W.heap.size ≤ wc.heap.size) := frW.size
            have hwide : u8 = u8 := rfl
            clear he hcase hevW hes2 frW fr2 hx hes htk
            go_upto_region 11 with (first | (refine append_evs rfl _ _ rfl rfl HE.out.1 rfl HE.out.2.1 HSZ.out hlen ?_; intro v4 w4 o4 b4 k4))
            have FR4 : Hid (Fm.Fr (fun k => k ≠ g ∧ k ≠ R) W w4) := HE.out.2.2.2.1.trans (T := fun k => k < W.heap.size) ⟨b4.os, b4.tape, b4.output, b4.size, fun k hk hw => b4.block k hw⟩ (fun k hk _ => hk)
            have HO4 := Lib.hid o4
            have HK4 := Lib.hid (And.intro b4 k4)
            clear o4 b4 k4
            rcases HE.out.2.2.2.2 with ⟨h0, P2, H2, p2, s2, held2, hv2, hfp2, j1, j2, j3, j4, j5, hat2, hlt2, hacc2⟩ | ⟨h0, met, xs, q', P2, htel, heh, hsd⟩
            · subst h0
              have HI4 : Hid (FIG (p0 == 2) P.sh W g R P L ⟨P.ic, P.ii, P.ib, H⟩ l zs.length (k + 1) to' v4 p2 s2 held2 hv2 P2 H2 (es ++ es2) w4) := by
                have h1 := HG.out
                refine ⟨hfp2.ev HK4.out.1 (by omega) HK4.out.2, ⟨j1, j2, j3, j4, j5.trans HI.out.pe.2.2.2.2⟩, hacc2, HO4.out, FR4.out, fun k hk => ?_, HI.out.ev |>.mono (Nat.le_refl _) |> fun h => Noh.step h HI.out.noh HE.out.2.2.1 hat2 hlt2, fun e => ht3 (by omega)⟩
                rcases hat2 with h | h
                · exact HI.out.hb k (by rw [← h]; exact hk)
                · exact Nat.le_trans HI.out.fr.size (h k hk)
              clear HE HO4 HK4 FR4 hfp2 j1 j2 j3 j4 j5 hat2 hlt2 hacc2
              go_wp2_with (first | (go_at_call 11; refine (numLT _ _).mono ?_; rintro e w9 ⟨rfl, rfl⟩))
              go_roundw
              case rel => exact ⟨k + 1, to', p2, s2, held2, hv2, P2, H2, es ++ es2, by omega, ht2, by go_num, rfl, HI4⟩
              case measure => (simp [intOf] <;> omega)
            · have hne : (fin != 0) = true := by simpa using h0
              have HR : Hid (∃ es' met xs q', EVS W.heap.size w4 v4 es' ∧ EvH es' met xs ∧ TelG (p0 == 2) P.info L P.b ⟨P.ic, P.ii, P.ib, H⟩ l met xs q' fin ∧ Fm.Fr (fun k => k ≠ g ∧ k ≠ R) W w4) := by
                have h1 := HG.out
                refine ⟨es ++ es2, met, xs, q', HO4.out, heh, ?_, FR4.out⟩
                have := htel.more h0 (l.drop to')
                rwa [List.take_append_drop] at this
              clear HE HO4 HK4 FR4 htel heh hsd
              go_wp2_with (first | (go_at_call 11; refine (numLT _ _).mono ?_; rintro e w9 ⟨rfl, rfl⟩))
              go_ret2
              obtain ⟨es', met, xs, q', a1, a2, a3, a5⟩ := HR.out
              exact ⟨_, _, es', met, xs, q', rfl, a1, a2, a3, a5, fun h => by simp [h] at hne⟩
end Go.Proofs.YtabjpffaleaoaaaGreatDoor
namespace Go.Proofs.YtabjpffaleaoaaaGreatDoor
open Go.RowKit
/-- does the range lie in the torrent? -/
def rg1 (L : List Int) (b i bg n : Int) : Bool := pce L i && decide (0 ≤ bg) && decide (1 ≤ n) && decide (n ≤ b) && decide (bg ≤ Bs.iz L i.toNat - n)
set_option maxHeartbeats 4000000 in
set_option maxRecDepth 100000 in
theorem range1B (w : World) (b v : Int) (lv : Value) (L : List Int) (hr : Bs.RZ w lv L) (i bg n : Int) (hL : LOk L) (hbb : b ≤ 16384) :
    Calls Tryz.prog 22 #[Bs.sc b v, lv, .int .i64 i, .int .i64 bg, .int .i64 n] w fun e w' => e = .returned (.bool (rg1 L b i bg n)) ∧ Below w.heap.size w w' := by
  have HB : Hid (Below w.heap.size w (w.alloc (.cells #[.int .i64 b, .int .i64 v] 23))) := (Below.refl _ _).alloc (Nat.le_refl _) _
  obtain ⟨a, c, rfl, _, h⟩ := hr
  by_cases hi0 : 0 ≤ i
  · by_cases hi1 : i < (L.length : Int)
    · have hpc : pce L i = true := by unfold pce; simp [hi0, hi1]
      have hrg : rg1 L b i bg n = (decide (0 ≤ bg) && decide (1 ≤ n) && decide (n ≤ b) && decide (bg ≤ Bs.iz L i.toNat - n)) := by unfold rg1; rw [hpc, Bool.true_and]
      rw [hrg]
      clear hrg hpc
      obtain ⟨k, rfl⟩ := Int.eq_ofNat_of_zero_le hi0
      rw [Int.toNat_natCast]
      have hkL : k < L.length := by omega
      obtain ⟨hx1, hx2⟩ := hL.2 k hkL
      rcases h with h | ⟨g, o, rfl, hg, h⟩
      · rw [h] at hkL; simp at hkL
      have hcell := h k hkL
      have hcA : (w.alloc (.cells #[.int .i64 b, .int .i64 v] 23)).cell? ⟨g, o + k, none⟩ = some (.int .i64 (Bs.iz L k)) := (World.cell?_of_block (w := w) (HB.out.block g hg)).trans hcell
      generalize Bs.iz L k = x at *
      clear hcell h
      by_cases hb0 : 0 ≤ bg
      · by_cases hn0 : 1 ≤ n
        · by_cases hn1 : n ≤ b
          · by_cases hx : bg ≤ x - n
            · rw [decide_eq_true hb0, decide_eq_true hn0, decide_eq_true hn1, decide_eq_true hx]
              go_enter Tryz.func22, Tryz.ntmps22
              go_wp2_with fail
              go_ret
              exact ⟨rfl, HB.out⟩
            · rw [decide_eq_false hx, Bool.and_false]
              go_enter Tryz.func22, Tryz.ntmps22
              go_wp2_with fail
              go_ret
              exact ⟨rfl, HB.out⟩
          · rw [decide_eq_false hn1, Bool.and_false, Bool.false_and]
            go_enter Tryz.func22, Tryz.ntmps22
            go_wp2_with fail
            go_ret
            exact ⟨rfl, HB.out⟩
        · rw [decide_eq_false hn0, Bool.and_false, Bool.false_and, Bool.false_and]
          go_enter Tryz.func22, Tryz.ntmps22
          go_wp2_with fail
          go_ret
          exact ⟨rfl, HB.out⟩
      · rw [decide_eq_false hb0, Bool.false_and, Bool.false_and, Bool.false_and]
        go_enter Tryz.func22, Tryz.ntmps22
        go_wp2_with fail
        go_ret
        exact ⟨rfl, HB.out⟩
    · have hrg : rg1 L b i bg n = false := by unfold rg1 pce; simp [hi1]
      rw [hrg]
      clear h hrg
      go_enter Tryz.func22, Tryz.ntmps22
      go_wp2_with fail
      go_ret
      exact ⟨rfl, HB.out⟩
  · have hrg : rg1 L b i bg n = false := by unfold rg1 pce; simp [hi0]
    rw [hrg]
    clear h hrg
    go_enter Tryz.func22, Tryz.ntmps22
    go_wp2_with fail
    go_ret
    exact ⟨rfl, HB.out⟩
end Go.Proofs.YtabjpffaleaoaaaGreatDoor
