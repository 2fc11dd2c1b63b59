import Derived.Test.YtmfeelkjbpjhdaaQa
import Derived.Test.YtmfeelkjbpjhdaaOpenU
namespace Go.Proofs.Ytmfeelkjbpjhdaa
open Go.RowKit
/-- what pushed leaves -/
structure QO (w : World) (R p0 : Nat) (l : List UInt8) (mv bv : Value) (why : Int) (met bs : List (List UInt8)) (h' : Bool) (r : List UInt8) (p s : Nat) (held : List UInt8) (hv : Value) (w' : World) : Prop where
  rd : Rd (p0 == 2) l met bs h' r why
  om : OM (w.heap.size + 2) w' mv met
  ob : OB (w.heap.size + 2) (fun g => w.heap.size + 2 ≤ g ∧ hv.ownBlock ≠ some g) w' bv bs
  rk : RK w' R p s hv why
  ow : OW (R + 1) w' hv held
  nil : held = [] → hv = .slice none 0 0
  hb : ∀ g, hv.ownBlock = some g → w.heap.size + 2 ≤ g
  st : why = 0 → St p s held ∧ h' = (p == 2) ∧ tx p s held = r
  br : why ≠ 0 → p = 0 ∧ held = [] ∧ (why = 100 ∨ why = 102)
  er : why = 0 ∨ why = 100 ∨ why = 102
  fr : Fr (fun k => k ≠ R) w w'
def PushedE (w : World) (R p0 : Nat) (l : List UInt8) (e : Ending) (w' : World) : Prop := ∃ mv bv why met bs h' r p s held hv, e = .returned (.agg #[mv, bv, .int .i64 why]) ∧ QO w R p0 l mv bv why met bs h' r p s held hv w'
theorem info_told (a b c : Value) : (Try.prog.info? 41).map (·.size) = some (#[a, b, c]).size := by
  show _ = some 3
  kernel_rfl
/-- the answer is laid into its box -/
theorem QB.out {w : World} {R p s p0 : Nat} {hv : Value} {held : List UInt8} {f : Int} {mv : Value} {met : List (List UInt8)} {bv : Value} {bs : List (List UInt8)} {wr : World} (h : QB w R p s hv held f mv met bv bs wr) {l r : List UInt8} {h' : Bool} (hrd : Rd (p0 == 2) l met bs h' r f) (hst : f = 0 → St p s held ∧ h' = (p == 2) ∧ tx p s held = r) (hbr : f ≠ 0 → p = 0 ∧ held = [] ∧ (f = 100 ∨ f = 102)) (her : f = 0 ∨ f = 100 ∨ f = 102) (cs : Array Value) :
    QO w R p0 l mv bv f met bs h' r p s held hv (wr.setRow w.heap.size cs) := by
  have hk : ∀ k, k ≠ w.heap.size → (wr.setRow w.heap.size cs).heap[k]? = wr.heap[k]? := fun k hk => setRow_other _ _ _ _ hk
  have hrl := h.rl
  refine ⟨hrd, h.om.keep (fun k h1 _ => hk k (by omega)), h.ob.keep (fun k h1 _ => hk k (by omega)) (fun _ x => x.1) (fun _ x _ => x), (hk R (by omega)).trans h.rk, ?_, h.nil, h.hb, hst, hbr, her, ⟨h.fr.os, h.fr.tape, h.fr.output, by simpa using h.fr.size, fun k h1 h2 => (hk k (by omega)).trans (h.fr.block k h1 h2)⟩⟩
  refine ⟨h.ow.1, ?_⟩
  rcases h.ow.2 with h1 | ⟨g, cap, cur, h1, h2, h3, h4⟩
  · exact .inl h1
  · have := h.hb g (by rw [h1]; rfl)
    exact .inr ⟨g, cap, cur, h1, h2, (hk g (by omega)).trans h3, h4⟩
theorem rd_start {p0 : Nat} (hp : p0 = 2 ∨ p0 = 0) : Rd (p0 == 2) [] [] [] (p0 == 2) [] 0 := by
  rcases hp with rfl | rfl
  · exact Rd.few [] rfl (by simp)
  · exact Rd.num [] (by simp)
theorem take_cut (l : List UInt8) (a b : Nat) (h : a ≤ b) : l.take a ++ (l.drop a).take (b - a) = l.take b := by
  rw [← List.take_add, show a + (b - a) = b by omega]
/-- a list of numbers whose block is not the reader's -/
def RJ (R : Nat) (w : World) (v : Value) (zs : List Int) : Prop :=
  ∃ a c, v = .slice a zs.length c ∧ zs.length ≤ c ∧ (zs = [] ∨ ∃ g o, a = some ⟨g, o, none⟩ ∧ g ≠ R ∧ g < w.heap.size ∧ ∀ i, i < zs.length → w.cell? ⟨g, o + i, none⟩ = some (.int .i64 (zs.getD i 0)))
theorem RI.keepR {W w : World} {R : Nat} {v : Value} {zs : List Int} (h : RI W v zs) (hb : Below W.heap.size W w) (hR : W.heap.size ≤ R) : RJ R w v zs := by
  obtain ⟨a, c, rfl, hle, h⟩ := h
  refine ⟨a, c, rfl, hle, ?_⟩
  rcases h with h | ⟨g, o, h1, h2, h3⟩
  · exact .inl h
  · exact .inr ⟨g, o, h1, by omega, Nat.lt_of_lt_of_le h2 hb.size, fun i hi => (World.cell?_of_block (w := W) (hb.block g h2)).trans (h3 i hi)⟩
theorem RJ.nil (R : Nat) (w : World) : RJ R w (.slice none 0 0) [] := ⟨none, 0, rfl, Nat.le_refl _, .inl rfl⟩
theorem RB.fr {w wr : World} {R p s : Nat} {f : Int} {a : Option Addr} {n c : Nat} {v : Value} {l : List UInt8} (h : RB w v l) (hk : RK w R p s (.slice a n c) f) (hf : Fr (fun k => k ≠ R) w wr) : RB wr v l := by
  have := (RN.of_rb h).move (w' := wr) (T := fun _ => True) (fun _ _ => trivial) (fun g _ hl hex => hf.block g hl (hk.not_bytes hex))
  exact this.rb
theorem rn_new {B : Nat} {w w1 : World} {hv u : Value} {held x : List UInt8} (h : OW B w hv held) (hu : OW w.heap.size w1 u x) : RN (fun g => hv.ownBlock ≠ some g) w1 u x := by
  have hb : ∀ g, hv.ownBlock = some g → g < w.heap.size := fun g e => by
    obtain ⟨cs, f, hc⟩ := row_of h g e
    exact (Array.getElem?_eq_some_iff.1 hc).1
  obtain ⟨a, c, e, hle, hr⟩ := hu.rb
  refine ⟨a, c, e, hle, ?_⟩
  rcases hr with hr | ⟨g, o, h1, h2, h3⟩
  · exact .inl hr
  · refine .inr ⟨g, o, h1, fun e2 => ?_, h2, h3⟩
    have h4 := hb g e2
    have h5 := (World.ownsRow.lt hu g (by rw [e, h1]; rfl)).1
    omega
theorem OB.tag {B : Nat} {S : Nat → Prop} {w w' : World} {v x : Value} {bs : List (List UInt8)} {B2 size n : Nat} {xs : List Value} (h : OB B S w v bs) (hg : w.grownBy w' x.ownBlock) (hr : w.ownsRow B2 25 size x n xs) : OB B S w' v bs := by
  obtain ⟨us, h1, h2, h3⟩ := h
  exact ⟨us, h1, ownsRow_keep2 (e2 := 25) h2 hg (row_of hr) (by decide), fun i hi => (h3 i hi).keep (fun k _ hl hex => by obtain ⟨cs, f, hc⟩ := hex; rw [hc]; exact gb_keep hg hr hc (by decide)) (fun _ x _ => x)⟩
theorem OBs.tag {B : Nat} {S : Nat → Prop} {w w' : World} {sv xv x : Value} {bs bs2 : List (List UInt8)} {B2 size n : Nat} {xs : List Value} (h : OBs B S w sv bs xv bs2) (hg : w.grownBy w' x.ownBlock) (hr : w.ownsRow B2 25 size x n xs) : OBs B S w' sv bs xv bs2 := by
  obtain ⟨M, h1, h2⟩ := h
  exact ⟨M, h1.tag hg hr, h2.tag hg hr⟩
theorem box_set {w : World} {N t : Nat} {x y z : Value} (h : w.heap[N]? = some (.cells #[x, y, z] t (0, 0))) : (∀ v, (w.setCell ⟨N, 0, none⟩ v).heap[N]? = some (.cells #[v, y, z] t (0, 0))) ∧ (∀ v, (w.setCell ⟨N, 1, none⟩ v).heap[N]? = some (.cells #[x, v, z] t (0, 0))) ∧ (∀ v, (w.setCell ⟨N, 2, none⟩ v).heap[N]? = some (.cells #[x, y, v] t (0, 0))) := by
  refine ⟨fun v => ?_, fun v => ?_, fun v => ?_⟩ <;> (rw [setCell_eq_setRow w N _ _ _ _ _ h]; exact heapSetRow _ _ _ _ _ h)
theorem box_cell {w : World} {N t : Nat} {x y z : Value} (h : w.heap[N]? = some (.cells #[x, y, z] t (0, 0))) : w.cell? ⟨N, 0, none⟩ = some x ∧ w.cell? ⟨N, 1, none⟩ = some y ∧ w.cell? ⟨N, 2, none⟩ = some z ∧ ∀ i, w.frozen? ⟨N, i, none⟩ = false := by
  refine ⟨by simp [World.cell?, h], by simp [World.cell?, h], by simp [World.cell?, h], fun i => by simp [World.frozen?, h]⟩
/-- the relation of the round -/
structure QI (w : World) (R p0 : Nat) (l : List UInt8) (zs : List Int) (k at' : Nat) (p s : Nat) (hv : Value) (held : List UInt8) (mv : Value) (met : List (List UInt8)) (bv : Value) (bs : List (List UInt8)) (wr : World) : Prop where
  qb : QB w R p s hv held 0 mv met bv bs wr
  rd : Rd (p0 == 2) (l.take at') met bs (p == 2) (tx p s held) 0
  st : St p s held
  t7 : wr.heap[w.heap.size + 1]? = some (.cells #[mv, bv, .int .i64 0] 41 (0, 0))
  ak : k = zs.length + 1 → at' = l.length
  ln : bs.length ≤ at' ∧ met.length ≤ at'
theorem rd_len {h : Bool} {l : List UInt8} {met bs : List (List UInt8)} {h' : Bool} {r : List UInt8} {e : Int} (x : Rd h l met bs h' r e) : bs.length ≤ l.length ∧ met.length ≤ l.length := by
  induction x with
  | bad l hs => simp
  | few l hs hl => simp
  | hello l met bs h r e hs hl _ ih => rw [List.length_drop] at ih; simp; omega
  | num l hl => simp
  | big l hl hn => simp
  | part l hl hn hp => simp
  | body l met bs h r e hl hn hp _ ih => rw [List.length_drop] at ih; simp; omega
theorem one3 (a b : Option Addr) (n m c d : Nat) (e : Int) : (#[Value.slice a n c, .slice b m d, .int .i64 e]).all (·.oneCell') = true := by simp [Value.oneCell']
theorem Rd.more {h : Bool} {l : List UInt8} {met bs : List (List UInt8)} {h' : Bool} {r : List UInt8} {e : Int} (x : Rd h l met bs h' r e) : e ≠ 0 → ∀ b, Rd h (l ++ b) met bs h' (r ++ b) e := by
  induction x with
  | bad l hs => intro _ b; exact Rd.bad _ (by rw [sok_split, hs]; rfl)
  | few l hs hl => intro he; exact absurd rfl he
  | hello l met bs h r e hs hl _ ih =>
    intro he b
    have z := ih he b
    rw [← List.drop_append_of_le_length hl] at z
    have e1 : hel (l ++ b) = hel l := by
      unfold hel
      rw [List.drop_append_of_le_length (by omega), List.take_append_of_le_length (by simp; omega)]
    have := Rd.hello (l ++ b) _ _ _ _ _ (by rw [sok_app l b (by omega)]; exact hs) (by simp; omega) z
    rw [e1] at this
    exact this
  | num l hl => intro he; exact absurd rfl he
  | big l hl hn => intro _ b; exact Rd.big _ (by simp; omega) (by rw [nm_app l b hl]; exact hn)
  | part l hl hn hp => intro he; exact absurd rfl he
  | body l met bs h r e hl hn hp _ ih =>
    intro he b
    have z := ih he b
    rw [← List.drop_append_of_le_length hp] at z
    have e1 := nm_app l b hl
    have e2 : ((l ++ b).drop 4).take (nm l) = (l.drop 4).take (nm l) := by
      rw [List.drop_append_of_le_length hl, List.take_append_of_le_length (by simp; omega)]
    have := Rd.body (l ++ b) _ _ _ _ _ (by simp; omega) (by rw [e1]; exact hn) (by rw [e1]; simp; omega) (by rw [e1]; exact z)
    rw [e1, e2] at this
    exact this
set_option maxHeartbeats 8000000 in
set_option maxRecDepth 100000 in
theorem pushed (w : World) (R p0 : Nat) (v cv : Value) (l : List UInt8) (zs : List Int) (hp0 : p0 = 2 ∨ p0 = 0) (hk : RK w R p0 0 (.slice none 0 0) 0) (hr : RB w v l) (hc : RJ R w cv zs) (hl : l.length ≤ 16777216) (hzl : zs.length ≤ 1048576) (hz : ∀ z ∈ zs, -9223372036854775808 ≤ z ∧ z ≤ 9223372036854775807) :
    Calls Try.prog 10 #[.pointer (some ⟨R, 0, none⟩), v, cv] w (PushedE w R p0 l) := by
  have HR : Hid (RB w v l) := hr
  have HC : Hid (RJ R w cv zs) := hc
  have HZ : Hid (∀ z ∈ zs, -9223372036854775808 ≤ z ∧ z ≤ 9223372036854775807) := hz
  obtain ⟨a, c, rfl, hle, _⟩ := hr
  obtain ⟨ca, cc, rfl, _, _⟩ := hc
  have Q0 : Hid (QI w R p0 l zs 0 0 p0 0 (.slice none 0 0) [] (.slice none 0 0) [] (.slice none 0 0) [] ((w.alloc (.cells #[.slice none 0 0, .slice none 0 0, .int .i64 0] 41)).alloc (.cells #[.slice none 0 0, .slice none 0 0, .int .i64 0] 41))) := by
    have hb : Below w.heap.size w ((w.alloc (.cells #[.slice none 0 0, .slice none 0 0, .int .i64 0] 41)).alloc (.cells #[.slice none 0 0, .slice none 0 0, .int .i64 0] 41)) := ((Below.refl _ _).alloc (Nat.le_refl _) _).alloc (by simp) _
    refine ⟨⟨(hb.block R hk.lt).trans hk, World.ownsRow_nil _ _ _ _, fun _ => rfl, fun g e => by simp [Value.ownBlock] at e, OM.nil _ _, OB.nil _ _ _, by rw [heapOld _ _ _ (by simp), heapNew], Fr.of_below hb, by simp, hk.lt⟩, ?_, ?_, ?_, fun e => by omega, by simp⟩
    · have := rd_start hp0
      rcases hp0 with rfl | rfl <;> simpa [tx] using this
    · rcases hp0 with rfl | rfl
      · exact .inl ⟨rfl, by simp, rfl⟩
      · exact .inr (.inl ⟨rfl, by simp⟩)
    · have := heapNew (w.alloc (.cells #[.slice none 0 0, .slice none 0 0, .int .i64 0] 41)) (.cells #[.slice none 0 0, .slice none 0 0, .int .i64 0] 41)
      simpa using this
  have HR2 : Hid (∀ wr, Fr (fun k => k ≠ R) w wr → RB wr (.slice a l.length c) l) := fun wr hf => HR.out.fr hk hf
  clear hk hp0 hz
  go_enter Try.func10, Try.ntmps10
  go_wp2
  go_loopw [8, 9] (fun t i wr => ∃ (k at' p s : Nat) (hv : Value) (held : List UInt8) (mv : Value) (met : List (List UInt8)) (bv : Value) (bs : List (List UInt8)), k ≤ zs.length + 1 ∧ at' ≤ l.length ∧ i = .int .i64 k ∧ t = .int .i64 at' ∧ Hid (QI w R p0 l zs k at' p s hv held mv met bv bs wr)) (fun _ i _ => zs.length + 1 - (intOf i).toNat)
  case atStart => exact ⟨0, 0, p0, 0, _, [], _, [], _, [], Nat.zero_le _, Nat.zero_le _, rfl, rfl, Q0⟩
  case round =>
    clear Q0
    obtain ⟨k, at', p, s, hv, held, mv, met, bv, bs, hk, hat, rfl, rfl, H⟩ := hrel
    obtain ⟨ma, mc, hmf⟩ := H.out.qb.om.form
    obtain ⟨ba, bc', hbf⟩ := H.out.qb.ob.form
    by_cases hlt : k = zs.length + 1
    · have hae : at' = l.length := H.out.ak hlt
      have q7 := H.out.t7
      have q6 := H.out.qb.t6
      have HO : Hid (QO w R p0 l mv bv 0 met bs (p == 2) (tx p s held) p s held hv (wr.setRow w.heap.size #[mv, bv, .int .i64 0])) := by
        have hrd := H.out.rd
        rw [hae, List.take_length] at hrd
        exact H.out.qb.out hrd (fun _ => ⟨H.out.st, rfl, rfl⟩) (fun h => absurd rfl h) (.inl rfl) _
      have hi := info_told mv bv (.int .i64 0)
      have hone : (#[mv, bv, Value.int .i64 0]).all (·.oneCell') = true := by rw [hmf, hbf]; simp [Value.oneCell']
      clear hae H hmf hbf
      subst hlt
      go_wp2_with (first | (refine wpList_load_row rfl 41 _ rfl (w.heap.size + 1) rfl 41 #[mv, bv, .int .i64 0] (0, 0) _ q7 Try.underlying41 rfl hi ?_) | (refine wpList_store_row rfl 41 _ _ rfl w.heap.size #[mv, bv, .int .i64 0] rfl rfl 41 _ q6 hi rfl hone ?_))
      exact bodyPost_ret (results_cell_row (P := Try.prog) Try.results10 _ _ w.heap.size 41 #[mv, bv, .int .i64 0] (0, 0) _ rfl (setRow_heap _ _ _ _ _ _ q6) Try.underlying41 rfl hi) rfl ⟨_, _, _, _, _, _, _, _, _, _, _, rfl, HO.out⟩
    · have q7 := H.out.t7
      have hac : at' ≤ c := by omega
      have i1 : (at' : Int) ≤ (l.length : Int) := by omega
      have i2 : (l.length : Int) ≤ (c : Int) := by omega
      have i0 : (0 : Int) ≤ (at' : Int) := by omega
      by_cases hca : c = at'
      · have hcaT : (c = at') = True := eq_true hca
        have HCA : Hid (c = at') := hca
        clear hca
        by_cases hk2 : k = zs.length
        · subst hk2
          have hpl : ((l.drop at').take (l.length - at')).length = l.length - at' := by rw [List.length_take, List.length_drop]; omega
          have RC : Hid (RB wr (.slice a (l.length - at') (c - at')) ((l.drop at').take (l.length - at'))) := by
            have := (HR2.out wr H.out.qb.fr).cut (m := at') (n := at' + (l.length - at')) (by omega) (by omega)
            rw [show at' + (l.length - at') - at' = l.length - at' by omega] at this
            rw [if_pos HCA.out] at this; exact this
          have RDA : Hid (∀ met2 bs2 h2 r2 e2, Rd (p == 2) (tx p s held ++ (l.drop at').take (l.length - at')) met2 bs2 h2 r2 e2 → Rd (p0 == 2) (l.take (at' + (l.length - at'))) (met ++ met2) (bs ++ bs2) h2 r2 e2) := fun met2 bs2 h2 r2 e2 h => by
            have := H.out.rd.app rfl h
            rwa [← List.take_add] at this
          have HPL : Hid (((l.drop at').take (l.length - at')).length = l.length - at') := hpl
          clear hpl
          generalize (l.drop at').take (l.length - at') = pc at *
          go_wp2_with fail
          refine (copied RC.out (by rw [HPL.out]; omega)).mono ?_
          rintro e w1 ⟨u, rfl, o1, b1⟩
          have Q1 : Hid (QB w R p s hv held 0 mv met bv bs w1) := H.out.qb.below b1
          have T1 : Hid (w1.heap[w.heap.size + 1]? = some (.cells #[mv, bv, .int .i64 0] 41 (0, 0))) := (b1.block _ (Array.getElem?_eq_some_iff.1 H.out.t7).1).trans H.out.t7
          have PU : Hid (Calls Try.prog 14 #[.pointer (some ⟨R, 0, none⟩), u] w1 (PushE w1 R (p == 2) (tx p s held ++ pc) hv)) := push w1 R p s hv u held pc Q1.out.rk H.out.st Q1.out.ow Q1.out.nil (rn_new H.out.qb.ow o1) (by rw [HPL.out]; omega)
          have LN : Hid (bs.length ≤ at' ∧ met.length ≤ at') := H.out.ln
          obtain ⟨ua, un, uc, rfl⟩ := o1.form3
          clear o1 b1 RC q7 H
          go_wp2_with fail
          refine PU.out.mono ?_
          rintro e w2 ⟨mv2, bv2, er, met2, bs2, h2, r2, p2, s2, held2, hv2, rfl, PO2⟩
          obtain ⟨Q2x, OM2x, OB2x⟩ := Q1.out.push PO2
          have hN2 : hv.ownBlock ≠ some (w.heap.size + 1) := fun e => by have := Q1.out.hb _ e; omega
          have T2x : w2.heap[w.heap.size + 1]? = some (.cells #[mv, bv, .int .i64 0] 41 (0, 0)) := (PO2.fr.block _ (Array.getElem?_eq_some_iff.1 T1.out).1 ⟨by have := Q1.out.rl; omega, hN2⟩).trans T1.out
          have RD2 : Hid (Rd (p0 == 2) (l.take (at' + (l.length - at'))) (met ++ met2) (bs ++ bs2) h2 r2 er ∧ (er = 0 → St p2 s2 held2 ∧ h2 = (p2 == 2) ∧ tx p2 s2 held2 = r2) ∧ (er ≠ 0 → p2 = 0 ∧ held2 = [] ∧ (er = 100 ∨ er = 102)) ∧ (er = 0 ∨ er = 100 ∨ er = 102)) := ⟨RDA.out _ _ _ _ _ PO2.rd, PO2.st, PO2.br, PO2.er⟩
          have hll : (bs ++ bs2).length ≤ at' + (l.length - at') ∧ (met ++ met2).length ≤ at' + (l.length - at') := by
            have := rd_len RD2.out.1
            rw [List.length_take] at this
            omega
          rw [List.length_append, List.length_append] at hll
          obtain ⟨hll1, hll2⟩ := hll
          obtain ⟨m2a, m2c, rfl⟩ := OM2x.form
          obtain ⟨b2a, b2c, rfl⟩ := OB2x.form
          have Q2 : Hid (QB w R p2 s2 hv2 held2 er mv met bv bs w2 ∧ OM (w.heap.size + 2) w2 (.slice m2a met2.length m2c) met2 ∧ OBs (w.heap.size + 2) (fun g => w.heap.size + 2 ≤ g ∧ hv2.ownBlock ≠ some g) w2 bv bs (.slice b2a bs2.length b2c) bs2) := ⟨Q2x, OM2x, OB2x⟩
          have T2 : Hid (w2.heap[w.heap.size + 1]? = some (.cells #[mv, bv, .int .i64 0] 41 (0, 0))) := T2x
          obtain ⟨y0, y1, y2, yf⟩ := box_cell T2x
          have yf0 := yf 0
          clear Q2x OM2x OB2x T2x PO2 PU Q1 T1 RDA hN2 yf
          subst hmf hbf
          by_cases her : er = 0
          · subst her
            have RZ : Hid (St p2 s2 held2 ∧ Rd (p0 == 2) (l.take (at' + (l.length - at'))) (met ++ met2) (bs ++ bs2) (p2 == 2) (tx p2 s2 held2) 0) := ⟨(RD2.out.2.1 rfl).1, by rw [← (RD2.out.2.1 rfl).2.1, (RD2.out.2.1 rfl).2.2]; exact RD2.out.1⟩
            clear RD2
            go_wp2_with (first
              | (at_builtin; refine append_hellos rfl _ _ rfl rfl Q2.out.1.om rfl Q2.out.2.1 Q2.out.1.sz (by omega) ?_; intro v3 w3 k1 k2; have Q3x := Q2.out.1.met k1 k2; have OB3x := Q2.out.2.2.tag k2 Q2.out.1.om.1; have T3x := gb_keep k2 Q2.out.1.om.1 T2.out (by decide); obtain ⟨v3a, v3c, hv3⟩ := Q3x.om.form; subst hv3; have T4 : Hid ((w3.setCell ⟨w.heap.size + 1, 0, none⟩ (.slice v3a (met ++ met2).length v3c)).heap[w.heap.size + 1]? = some (.cells #[.slice v3a (met ++ met2).length v3c, .slice ba bs.length bc', .int .i64 0] 41 (0, 0))) := (box_set T3x).1 _; have Q4 : Hid (QB w R p2 s2 hv2 held2 0 (.slice v3a (met ++ met2).length v3c) (met ++ met2) (.slice ba bs.length bc') bs (w3.setCell ⟨w.heap.size + 1, 0, none⟩ (.slice v3a (met ++ met2).length v3c)) ∧ OBs (w.heap.size + 2) (fun g => w.heap.size + 2 ≤ g ∧ hv2.ownBlock ≠ some g) (w3.setCell ⟨w.heap.size + 1, 0, none⟩ (.slice v3a (met ++ met2).length v3c)) (.slice ba bs.length bc') bs (.slice b2a bs2.length b2c) bs2) := ⟨Q3x.set 0 _, OB3x.keep (fun k h1 _ => setCell_other (by omega)) (fun _ x => x.1)⟩; obtain ⟨z0, z1, z2, zf⟩ := box_cell T3x; have zf0 := zf 0; have zf1 := zf 1; clear k1 k2 Q3x OB3x T3x zf y0 y1 y2 yf0; generalize hmm : (met ++ met2).length = mm at *)
              | (at_builtin; obtain ⟨MM, OA, OC⟩ := Q4.out.2; refine append_bodies rfl _ _ rfl rfl OA rfl OC (fun _ x => x.1) (fun _ x => x.1) (fun _ x y => absurd x.2 (by have := y.2; omega)) Q4.out.1.sz (by omega) ?_; clear OA OC MM; intro v5 w5 k1 k2; have Q5x := Q4.out.1.bod k1 k2; obtain ⟨us, u1, u2, u3⟩ := Q4.out.1.ob; have T5x := gb_keep k2 u2 T4.out (by decide); obtain ⟨v5a, v5c, hv5⟩ := Q5x.ob.form; subst hv5; have T6 : Hid ((w5.setCell ⟨w.heap.size + 1, 1, none⟩ (.slice v5a (bs ++ bs2).length v5c)).heap[w.heap.size + 1]? = some (.cells #[.slice v3a mm v3c, .slice v5a (bs ++ bs2).length v5c, .int .i64 0] 41 (0, 0))) := (box_set T5x).2.1 _; have Q6 : Hid (QB w R p2 s2 hv2 held2 0 (.slice v3a mm v3c) (met ++ met2) (.slice v5a (bs ++ bs2).length v5c) (bs ++ bs2) (w5.setCell ⟨w.heap.size + 1, 1, none⟩ (.slice v5a (bs ++ bs2).length v5c))) := Q5x.set 1 _; obtain ⟨x0, x1, x2, xf⟩ := box_cell T5x; have xf1 := xf 1; have xf2 := xf 2; clear k1 k2 Q5x T5x xf z0 z1 z2 zf0 zf1 u1 u2 u3; generalize hbb : (bs ++ bs2).length = bb at *))
            go_roundw
            case rel => exact ⟨zs.length + 1, at' + (l.length - at'), p2, s2, hv2, held2, _, met ++ met2, _, bs ++ bs2, by omega, by omega, by go_num, by go_num, Q6.out, RZ.out.2, RZ.out.1, T6.out, fun e => by omega, by rw [List.length_append, List.length_append]; omega⟩
            case measure => (simp [intOf] <;> omega)
          · have hne : (er != 0) = true := by simpa using her
            go_wp2_with (first
              | (at_builtin; refine append_hellos rfl _ _ rfl rfl Q2.out.1.om rfl Q2.out.2.1 Q2.out.1.sz (by omega) ?_; intro v3 w3 k1 k2; have Q3x := Q2.out.1.met k1 k2; have OB3x := Q2.out.2.2.tag k2 Q2.out.1.om.1; have T3x := gb_keep k2 Q2.out.1.om.1 T2.out (by decide); obtain ⟨v3a, v3c, hv3⟩ := Q3x.om.form; subst hv3; have T4 : Hid ((w3.setCell ⟨w.heap.size + 1, 0, none⟩ (.slice v3a (met ++ met2).length v3c)).heap[w.heap.size + 1]? = some (.cells #[.slice v3a (met ++ met2).length v3c, .slice ba bs.length bc', .int .i64 0] 41 (0, 0))) := (box_set T3x).1 _; have Q4 : Hid (QB w R p2 s2 hv2 held2 er (.slice v3a (met ++ met2).length v3c) (met ++ met2) (.slice ba bs.length bc') bs (w3.setCell ⟨w.heap.size + 1, 0, none⟩ (.slice v3a (met ++ met2).length v3c)) ∧ OBs (w.heap.size + 2) (fun g => w.heap.size + 2 ≤ g ∧ hv2.ownBlock ≠ some g) (w3.setCell ⟨w.heap.size + 1, 0, none⟩ (.slice v3a (met ++ met2).length v3c)) (.slice ba bs.length bc') bs (.slice b2a bs2.length b2c) bs2) := ⟨Q3x.set 0 _, OB3x.keep (fun k h1 _ => setCell_other (by omega)) (fun _ x => x.1)⟩; obtain ⟨z0, z1, z2, zf⟩ := box_cell T3x; have zf0 := zf 0; have zf1 := zf 1; clear k1 k2 Q3x OB3x T3x zf y0 y1 y2 yf0; generalize hmm : (met ++ met2).length = mm at *)
              | (at_builtin; obtain ⟨MM, OA, OC⟩ := Q4.out.2; refine append_bodies rfl _ _ rfl rfl OA rfl OC (fun _ x => x.1) (fun _ x => x.1) (fun _ x y => absurd x.2 (by have := y.2; omega)) Q4.out.1.sz (by omega) ?_; clear OA OC MM; intro v5 w5 k1 k2; have Q5x := Q4.out.1.bod k1 k2; obtain ⟨us, u1, u2, u3⟩ := Q4.out.1.ob; have T5x := gb_keep k2 u2 T4.out (by decide); obtain ⟨v5a, v5c, hv5⟩ := Q5x.ob.form; subst hv5; have T6 : Hid ((w5.setCell ⟨w.heap.size + 1, 1, none⟩ (.slice v5a (bs ++ bs2).length v5c)).heap[w.heap.size + 1]? = some (.cells #[.slice v3a mm v3c, .slice v5a (bs ++ bs2).length v5c, .int .i64 0] 41 (0, 0))) := (box_set T5x).2.1 _; have Q6 : Hid (QB w R p2 s2 hv2 held2 er (.slice v3a mm v3c) (met ++ met2) (.slice v5a (bs ++ bs2).length v5c) (bs ++ bs2) (w5.setCell ⟨w.heap.size + 1, 1, none⟩ (.slice v5a (bs ++ bs2).length v5c))) := Q5x.set 1 _; obtain ⟨x0, x1, x2, xf⟩ := box_cell T5x; have xf1 := xf 1; have xf2 := xf 2; have T7 : Hid (((w5.setCell ⟨w.heap.size + 1, 1, none⟩ (.slice v5a (bs ++ bs2).length v5c)).setCell ⟨w.heap.size + 1, 2, none⟩ (.int .i64 er)).heap[w.heap.size + 1]? = some (.cells #[.slice v3a mm v3c, .slice v5a (bs ++ bs2).length v5c, .int .i64 er] 41 (0, 0))) := (box_set T6.out).2.2 _; have Q7 : Hid (QB w R p2 s2 hv2 held2 er (.slice v3a mm v3c) (met ++ met2) (.slice v5a (bs ++ bs2).length v5c) (bs ++ bs2) ((w5.setCell ⟨w.heap.size + 1, 1, none⟩ (.slice v5a (bs ++ bs2).length v5c)).setCell ⟨w.heap.size + 1, 2, none⟩ (.int .i64 er))) := Q6.out.set 2 _; have hi3 := info_told (.slice v3a mm v3c) (.slice v5a (bs ++ bs2).length v5c) (.int .i64 er); have hone : (#[Value.slice v3a mm v3c, .slice v5a (bs ++ bs2).length v5c, .int .i64 er]).all (·.oneCell') = true := one3 _ _ _ _ _ _ _; clear k1 k2 Q5x T5x xf z0 z1 z2 zf0 zf1 u1 u2 u3; generalize hbb : (bs ++ bs2).length = bb at *)
              | (refine wpList_load_row rfl 41 _ rfl (w.heap.size + 1) rfl 41 #[.slice v3a mm v3c, .slice v5a bb v5c, .int .i64 er] (0, 0) _ T7.out Try.underlying41 rfl hi3 ?_)
              | (refine wpList_store_row rfl 41 _ _ rfl w.heap.size #[.slice v3a mm v3c, .slice v5a bb v5c, .int .i64 er] rfl rfl 41 _ Q7.out.t6 hi3 rfl hone ?_))
            have HO : QO w R p0 l (.slice v3a mm v3c) (.slice v5a bb v5c) er (met ++ met2) (bs ++ bs2) h2 (r2 ++ l.drop (at' + (l.length - at'))) p2 s2 held2 hv2 _ := Q7.out.out (by
              have := RD2.out.1.more (by omega) (l.drop (at' + (l.length - at')))
              rwa [List.take_append_drop] at this) (fun e => absurd e (by omega)) RD2.out.2.2.1 RD2.out.2.2.2 #[.slice v3a mm v3c, .slice v5a bb v5c, .int .i64 er]
            exact bodyPost_ret (results_cell_row (P := Try.prog) Try.results10 _ _ w.heap.size 41 #[.slice v3a mm v3c, .slice v5a bb v5c, .int .i64 er] (0, 0) _ rfl (setRow_heap _ _ _ _ _ _ Q7.out.t6) Try.underlying41 rfl hi3) rfl ⟨_, _, _, _, _, _, _, _, _, _, _, rfl, HO⟩
        · have hkz : k < zs.length := by omega
          obtain ⟨cg, co, hzc, hcg⟩ : ∃ cg co, ca = some ⟨cg, co, none⟩ ∧ wr.cell? ⟨cg, co + k, none⟩ = some (.int .i64 (zs.getD k 0)) := by
            obtain ⟨_, _, e, _, h⟩ := HC.out
            simp only [Value.slice.injEq] at e
            obtain ⟨rfl, _, rfl⟩ := e
            rcases h with h | ⟨g, o, rfl, hgr, hg, h⟩
            · rw [h] at hkz; simp at hkz
            · exact ⟨g, o, rfl, (World.cell?_of_block (w := w) (H.out.qb.fr.block g hg hgr)).trans (h k hkz)⟩
          subst hzc
          have hzb := HZ.out (zs.getD k 0) (by simp [List.getD, List.getElem?_eq_getElem hkz])
          generalize zs.getD k 0 = z at *
          obtain ⟨hz1, hz2⟩ := hzb
          by_cases hz3 : z < (l.length : Int) - (at' : Int)
          · by_cases hz4 : 0 < z
            · obtain ⟨zn, rfl⟩ := Int.eq_ofNat_of_zero_le (show 0 ≤ z by omega)
              have := HCA.out
              omega
            · skip
              have hpl : ((l.drop at').take (0)).length = 0 := by rw [List.length_take, List.length_drop]; omega
              have RC : Hid (RB wr (.slice a (0) (c - at')) ((l.drop at').take (0))) := by
                have := (HR2.out wr H.out.qb.fr).cut (m := at') (n := at' + (0)) (by omega) (by omega)
                rw [show at' + (0) - at' = 0 by omega] at this
                rw [if_pos HCA.out] at this; exact this
              have RDA : Hid (∀ met2 bs2 h2 r2 e2, Rd (p == 2) (tx p s held ++ (l.drop at').take (0)) met2 bs2 h2 r2 e2 → Rd (p0 == 2) (l.take (at' + (0))) (met ++ met2) (bs ++ bs2) h2 r2 e2) := fun met2 bs2 h2 r2 e2 h => by
                have := H.out.rd.app rfl h
                rwa [← List.take_add] at this
              have HPL : Hid (((l.drop at').take (0)).length = 0) := hpl
              clear hpl
              generalize (l.drop at').take (0) = pc at *
              go_wp2_with fail
              refine (copied RC.out (by rw [HPL.out]; omega)).mono ?_
              rintro e w1 ⟨u, rfl, o1, b1⟩
              have Q1 : Hid (QB w R p s hv held 0 mv met bv bs w1) := H.out.qb.below b1
              have T1 : Hid (w1.heap[w.heap.size + 1]? = some (.cells #[mv, bv, .int .i64 0] 41 (0, 0))) := (b1.block _ (Array.getElem?_eq_some_iff.1 H.out.t7).1).trans H.out.t7
              have PU : Hid (Calls Try.prog 14 #[.pointer (some ⟨R, 0, none⟩), u] w1 (PushE w1 R (p == 2) (tx p s held ++ pc) hv)) := push w1 R p s hv u held pc Q1.out.rk H.out.st Q1.out.ow Q1.out.nil (rn_new H.out.qb.ow o1) (by rw [HPL.out]; omega)
              have LN : Hid (bs.length ≤ at' ∧ met.length ≤ at') := H.out.ln
              obtain ⟨ua, un, uc, rfl⟩ := o1.form3
              clear o1 b1 RC q7 H
              go_wp2_with fail
              refine PU.out.mono ?_
              rintro e w2 ⟨mv2, bv2, er, met2, bs2, h2, r2, p2, s2, held2, hv2, rfl, PO2⟩
              obtain ⟨Q2x, OM2x, OB2x⟩ := Q1.out.push PO2
              have hN2 : hv.ownBlock ≠ some (w.heap.size + 1) := fun e => by have := Q1.out.hb _ e; omega
              have T2x : w2.heap[w.heap.size + 1]? = some (.cells #[mv, bv, .int .i64 0] 41 (0, 0)) := (PO2.fr.block _ (Array.getElem?_eq_some_iff.1 T1.out).1 ⟨by have := Q1.out.rl; omega, hN2⟩).trans T1.out
              have RD2 : Hid (Rd (p0 == 2) (l.take (at' + (0))) (met ++ met2) (bs ++ bs2) h2 r2 er ∧ (er = 0 → St p2 s2 held2 ∧ h2 = (p2 == 2) ∧ tx p2 s2 held2 = r2) ∧ (er ≠ 0 → p2 = 0 ∧ held2 = [] ∧ (er = 100 ∨ er = 102)) ∧ (er = 0 ∨ er = 100 ∨ er = 102)) := ⟨RDA.out _ _ _ _ _ PO2.rd, PO2.st, PO2.br, PO2.er⟩
              have hll : (bs ++ bs2).length ≤ at' + (0) ∧ (met ++ met2).length ≤ at' + (0) := by
                have := rd_len RD2.out.1
                rw [List.length_take] at this
                omega
              rw [List.length_append, List.length_append] at hll
              obtain ⟨hll1, hll2⟩ := hll
              obtain ⟨m2a, m2c, rfl⟩ := OM2x.form
              obtain ⟨b2a, b2c, rfl⟩ := OB2x.form
              have Q2 : Hid (QB w R p2 s2 hv2 held2 er mv met bv bs w2 ∧ OM (w.heap.size + 2) w2 (.slice m2a met2.length m2c) met2 ∧ OBs (w.heap.size + 2) (fun g => w.heap.size + 2 ≤ g ∧ hv2.ownBlock ≠ some g) w2 bv bs (.slice b2a bs2.length b2c) bs2) := ⟨Q2x, OM2x, OB2x⟩
              have T2 : Hid (w2.heap[w.heap.size + 1]? = some (.cells #[mv, bv, .int .i64 0] 41 (0, 0))) := T2x
              obtain ⟨y0, y1, y2, yf⟩ := box_cell T2x
              have yf0 := yf 0
              clear Q2x OM2x OB2x T2x PO2 PU Q1 T1 RDA hN2 yf
              subst hmf hbf
              by_cases her : er = 0
              · subst her
                have RZ : Hid (St p2 s2 held2 ∧ Rd (p0 == 2) (l.take (at' + (0))) (met ++ met2) (bs ++ bs2) (p2 == 2) (tx p2 s2 held2) 0) := ⟨(RD2.out.2.1 rfl).1, by rw [← (RD2.out.2.1 rfl).2.1, (RD2.out.2.1 rfl).2.2]; exact RD2.out.1⟩
                clear RD2
                go_wp2_with (first
                  | (at_builtin; refine append_hellos rfl _ _ rfl rfl Q2.out.1.om rfl Q2.out.2.1 Q2.out.1.sz (by omega) ?_; intro v3 w3 k1 k2; have Q3x := Q2.out.1.met k1 k2; have OB3x := Q2.out.2.2.tag k2 Q2.out.1.om.1; have T3x := gb_keep k2 Q2.out.1.om.1 T2.out (by decide); obtain ⟨v3a, v3c, hv3⟩ := Q3x.om.form; subst hv3; have T4 : Hid ((w3.setCell ⟨w.heap.size + 1, 0, none⟩ (.slice v3a (met ++ met2).length v3c)).heap[w.heap.size + 1]? = some (.cells #[.slice v3a (met ++ met2).length v3c, .slice ba bs.length bc', .int .i64 0] 41 (0, 0))) := (box_set T3x).1 _; have Q4 : Hid (QB w R p2 s2 hv2 held2 0 (.slice v3a (met ++ met2).length v3c) (met ++ met2) (.slice ba bs.length bc') bs (w3.setCell ⟨w.heap.size + 1, 0, none⟩ (.slice v3a (met ++ met2).length v3c)) ∧ OBs (w.heap.size + 2) (fun g => w.heap.size + 2 ≤ g ∧ hv2.ownBlock ≠ some g) (w3.setCell ⟨w.heap.size + 1, 0, none⟩ (.slice v3a (met ++ met2).length v3c)) (.slice ba bs.length bc') bs (.slice b2a bs2.length b2c) bs2) := ⟨Q3x.set 0 _, OB3x.keep (fun k h1 _ => setCell_other (by omega)) (fun _ x => x.1)⟩; obtain ⟨z0, z1, z2, zf⟩ := box_cell T3x; have zf0 := zf 0; have zf1 := zf 1; clear k1 k2 Q3x OB3x T3x zf y0 y1 y2 yf0; generalize hmm : (met ++ met2).length = mm at *)
                  | (at_builtin; obtain ⟨MM, OA, OC⟩ := Q4.out.2; refine append_bodies rfl _ _ rfl rfl OA rfl OC (fun _ x => x.1) (fun _ x => x.1) (fun _ x y => absurd x.2 (by have := y.2; omega)) Q4.out.1.sz (by omega) ?_; clear OA OC MM; intro v5 w5 k1 k2; have Q5x := Q4.out.1.bod k1 k2; obtain ⟨us, u1, u2, u3⟩ := Q4.out.1.ob; have T5x := gb_keep k2 u2 T4.out (by decide); obtain ⟨v5a, v5c, hv5⟩ := Q5x.ob.form; subst hv5; have T6 : Hid ((w5.setCell ⟨w.heap.size + 1, 1, none⟩ (.slice v5a (bs ++ bs2).length v5c)).heap[w.heap.size + 1]? = some (.cells #[.slice v3a mm v3c, .slice v5a (bs ++ bs2).length v5c, .int .i64 0] 41 (0, 0))) := (box_set T5x).2.1 _; have Q6 : Hid (QB w R p2 s2 hv2 held2 0 (.slice v3a mm v3c) (met ++ met2) (.slice v5a (bs ++ bs2).length v5c) (bs ++ bs2) (w5.setCell ⟨w.heap.size + 1, 1, none⟩ (.slice v5a (bs ++ bs2).length v5c))) := Q5x.set 1 _; obtain ⟨x0, x1, x2, xf⟩ := box_cell T5x; have xf1 := xf 1; have xf2 := xf 2; clear k1 k2 Q5x T5x xf z0 z1 z2 zf0 zf1 u1 u2 u3; generalize hbb : (bs ++ bs2).length = bb at *))
                go_roundw
                case rel => exact ⟨k + 1, at' + (0), p2, s2, hv2, held2, _, met ++ met2, _, bs ++ bs2, by omega, by omega, by go_num, by go_num, Q6.out, RZ.out.2, RZ.out.1, T6.out, fun e => by omega, by rw [List.length_append, List.length_append]; omega⟩
                case measure => (simp [intOf] <;> omega)
              · have hne : (er != 0) = true := by simpa using her
                go_wp2_with (first
                  | (at_builtin; refine append_hellos rfl _ _ rfl rfl Q2.out.1.om rfl Q2.out.2.1 Q2.out.1.sz (by omega) ?_; intro v3 w3 k1 k2; have Q3x := Q2.out.1.met k1 k2; have OB3x := Q2.out.2.2.tag k2 Q2.out.1.om.1; have T3x := gb_keep k2 Q2.out.1.om.1 T2.out (by decide); obtain ⟨v3a, v3c, hv3⟩ := Q3x.om.form; subst hv3; have T4 : Hid ((w3.setCell ⟨w.heap.size + 1, 0, none⟩ (.slice v3a (met ++ met2).length v3c)).heap[w.heap.size + 1]? = some (.cells #[.slice v3a (met ++ met2).length v3c, .slice ba bs.length bc', .int .i64 0] 41 (0, 0))) := (box_set T3x).1 _; have Q4 : Hid (QB w R p2 s2 hv2 held2 er (.slice v3a (met ++ met2).length v3c) (met ++ met2) (.slice ba bs.length bc') bs (w3.setCell ⟨w.heap.size + 1, 0, none⟩ (.slice v3a (met ++ met2).length v3c)) ∧ OBs (w.heap.size + 2) (fun g => w.heap.size + 2 ≤ g ∧ hv2.ownBlock ≠ some g) (w3.setCell ⟨w.heap.size + 1, 0, none⟩ (.slice v3a (met ++ met2).length v3c)) (.slice ba bs.length bc') bs (.slice b2a bs2.length b2c) bs2) := ⟨Q3x.set 0 _, OB3x.keep (fun k h1 _ => setCell_other (by omega)) (fun _ x => x.1)⟩; obtain ⟨z0, z1, z2, zf⟩ := box_cell T3x; have zf0 := zf 0; have zf1 := zf 1; clear k1 k2 Q3x OB3x T3x zf y0 y1 y2 yf0; generalize hmm : (met ++ met2).length = mm at *)
                  | (at_builtin; obtain ⟨MM, OA, OC⟩ := Q4.out.2; refine append_bodies rfl _ _ rfl rfl OA rfl OC (fun _ x => x.1) (fun _ x => x.1) (fun _ x y => absurd x.2 (by have := y.2; omega)) Q4.out.1.sz (by omega) ?_; clear OA OC MM; intro v5 w5 k1 k2; have Q5x := Q4.out.1.bod k1 k2; obtain ⟨us, u1, u2, u3⟩ := Q4.out.1.ob; have T5x := gb_keep k2 u2 T4.out (by decide); obtain ⟨v5a, v5c, hv5⟩ := Q5x.ob.form; subst hv5; have T6 : Hid ((w5.setCell ⟨w.heap.size + 1, 1, none⟩ (.slice v5a (bs ++ bs2).length v5c)).heap[w.heap.size + 1]? = some (.cells #[.slice v3a mm v3c, .slice v5a (bs ++ bs2).length v5c, .int .i64 0] 41 (0, 0))) := (box_set T5x).2.1 _; have Q6 : Hid (QB w R p2 s2 hv2 held2 er (.slice v3a mm v3c) (met ++ met2) (.slice v5a (bs ++ bs2).length v5c) (bs ++ bs2) (w5.setCell ⟨w.heap.size + 1, 1, none⟩ (.slice v5a (bs ++ bs2).length v5c))) := Q5x.set 1 _; obtain ⟨x0, x1, x2, xf⟩ := box_cell T5x; have xf1 := xf 1; have xf2 := xf 2; have T7 : Hid (((w5.setCell ⟨w.heap.size + 1, 1, none⟩ (.slice v5a (bs ++ bs2).length v5c)).setCell ⟨w.heap.size + 1, 2, none⟩ (.int .i64 er)).heap[w.heap.size + 1]? = some (.cells #[.slice v3a mm v3c, .slice v5a (bs ++ bs2).length v5c, .int .i64 er] 41 (0, 0))) := (box_set T6.out).2.2 _; have Q7 : Hid (QB w R p2 s2 hv2 held2 er (.slice v3a mm v3c) (met ++ met2) (.slice v5a (bs ++ bs2).length v5c) (bs ++ bs2) ((w5.setCell ⟨w.heap.size + 1, 1, none⟩ (.slice v5a (bs ++ bs2).length v5c)).setCell ⟨w.heap.size + 1, 2, none⟩ (.int .i64 er))) := Q6.out.set 2 _; have hi3 := info_told (.slice v3a mm v3c) (.slice v5a (bs ++ bs2).length v5c) (.int .i64 er); have hone : (#[Value.slice v3a mm v3c, .slice v5a (bs ++ bs2).length v5c, .int .i64 er]).all (·.oneCell') = true := one3 _ _ _ _ _ _ _; clear k1 k2 Q5x T5x xf z0 z1 z2 zf0 zf1 u1 u2 u3; generalize hbb : (bs ++ bs2).length = bb at *)
                  | (refine wpList_load_row rfl 41 _ rfl (w.heap.size + 1) rfl 41 #[.slice v3a mm v3c, .slice v5a bb v5c, .int .i64 er] (0, 0) _ T7.out Try.underlying41 rfl hi3 ?_)
                  | (refine wpList_store_row rfl 41 _ _ rfl w.heap.size #[.slice v3a mm v3c, .slice v5a bb v5c, .int .i64 er] rfl rfl 41 _ Q7.out.t6 hi3 rfl hone ?_))
                have HO : QO w R p0 l (.slice v3a mm v3c) (.slice v5a bb v5c) er (met ++ met2) (bs ++ bs2) h2 (r2 ++ l.drop (at' + (0))) p2 s2 held2 hv2 _ := Q7.out.out (by
                  have := RD2.out.1.more (by omega) (l.drop (at' + (0)))
                  rwa [List.take_append_drop] at this) (fun e => absurd e (by omega)) RD2.out.2.2.1 RD2.out.2.2.2 #[.slice v3a mm v3c, .slice v5a bb v5c, .int .i64 er]
                exact bodyPost_ret (results_cell_row (P := Try.prog) Try.results10 _ _ w.heap.size 41 #[.slice v3a mm v3c, .slice v5a bb v5c, .int .i64 er] (0, 0) _ rfl (setRow_heap _ _ _ _ _ _ Q7.out.t6) Try.underlying41 rfl hi3) rfl ⟨_, _, _, _, _, _, _, _, _, _, _, rfl, HO⟩
          · skip
            have hpl : ((l.drop at').take (l.length - at')).length = l.length - at' := by rw [List.length_take, List.length_drop]; omega
            have RC : Hid (RB wr (.slice a (l.length - at') (c - at')) ((l.drop at').take (l.length - at'))) := by
              have := (HR2.out wr H.out.qb.fr).cut (m := at') (n := at' + (l.length - at')) (by omega) (by omega)
              rw [show at' + (l.length - at') - at' = l.length - at' by omega] at this
              rw [if_pos HCA.out] at this; exact this
            have RDA : Hid (∀ met2 bs2 h2 r2 e2, Rd (p == 2) (tx p s held ++ (l.drop at').take (l.length - at')) met2 bs2 h2 r2 e2 → Rd (p0 == 2) (l.take (at' + (l.length - at'))) (met ++ met2) (bs ++ bs2) h2 r2 e2) := fun met2 bs2 h2 r2 e2 h => by
              have := H.out.rd.app rfl h
              rwa [← List.take_add] at this
            have HPL : Hid (((l.drop at').take (l.length - at')).length = l.length - at') := hpl
            clear hpl
            generalize (l.drop at').take (l.length - at') = pc at *
            go_wp2_with fail
            refine (copied RC.out (by rw [HPL.out]; omega)).mono ?_
            rintro e w1 ⟨u, rfl, o1, b1⟩
            have Q1 : Hid (QB w R p s hv held 0 mv met bv bs w1) := H.out.qb.below b1
            have T1 : Hid (w1.heap[w.heap.size + 1]? = some (.cells #[mv, bv, .int .i64 0] 41 (0, 0))) := (b1.block _ (Array.getElem?_eq_some_iff.1 H.out.t7).1).trans H.out.t7
            have PU : Hid (Calls Try.prog 14 #[.pointer (some ⟨R, 0, none⟩), u] w1 (PushE w1 R (p == 2) (tx p s held ++ pc) hv)) := push w1 R p s hv u held pc Q1.out.rk H.out.st Q1.out.ow Q1.out.nil (rn_new H.out.qb.ow o1) (by rw [HPL.out]; omega)
            have LN : Hid (bs.length ≤ at' ∧ met.length ≤ at') := H.out.ln
            obtain ⟨ua, un, uc, rfl⟩ := o1.form3
            clear o1 b1 RC q7 H
            go_wp2_with fail
            refine PU.out.mono ?_
            rintro e w2 ⟨mv2, bv2, er, met2, bs2, h2, r2, p2, s2, held2, hv2, rfl, PO2⟩
            obtain ⟨Q2x, OM2x, OB2x⟩ := Q1.out.push PO2
            have hN2 : hv.ownBlock ≠ some (w.heap.size + 1) := fun e => by have := Q1.out.hb _ e; omega
            have T2x : w2.heap[w.heap.size + 1]? = some (.cells #[mv, bv, .int .i64 0] 41 (0, 0)) := (PO2.fr.block _ (Array.getElem?_eq_some_iff.1 T1.out).1 ⟨by have := Q1.out.rl; omega, hN2⟩).trans T1.out
            have RD2 : Hid (Rd (p0 == 2) (l.take (at' + (l.length - at'))) (met ++ met2) (bs ++ bs2) h2 r2 er ∧ (er = 0 → St p2 s2 held2 ∧ h2 = (p2 == 2) ∧ tx p2 s2 held2 = r2) ∧ (er ≠ 0 → p2 = 0 ∧ held2 = [] ∧ (er = 100 ∨ er = 102)) ∧ (er = 0 ∨ er = 100 ∨ er = 102)) := ⟨RDA.out _ _ _ _ _ PO2.rd, PO2.st, PO2.br, PO2.er⟩
            have hll : (bs ++ bs2).length ≤ at' + (l.length - at') ∧ (met ++ met2).length ≤ at' + (l.length - at') := by
              have := rd_len RD2.out.1
              rw [List.length_take] at this
              omega
            rw [List.length_append, List.length_append] at hll
            obtain ⟨hll1, hll2⟩ := hll
            obtain ⟨m2a, m2c, rfl⟩ := OM2x.form
            obtain ⟨b2a, b2c, rfl⟩ := OB2x.form
            have Q2 : Hid (QB w R p2 s2 hv2 held2 er mv met bv bs w2 ∧ OM (w.heap.size + 2) w2 (.slice m2a met2.length m2c) met2 ∧ OBs (w.heap.size + 2) (fun g => w.heap.size + 2 ≤ g ∧ hv2.ownBlock ≠ some g) w2 bv bs (.slice b2a bs2.length b2c) bs2) := ⟨Q2x, OM2x, OB2x⟩
            have T2 : Hid (w2.heap[w.heap.size + 1]? = some (.cells #[mv, bv, .int .i64 0] 41 (0, 0))) := T2x
            obtain ⟨y0, y1, y2, yf⟩ := box_cell T2x
            have yf0 := yf 0
            clear Q2x OM2x OB2x T2x PO2 PU Q1 T1 RDA hN2 yf
            subst hmf hbf
            by_cases her : er = 0
            · subst her
              have RZ : Hid (St p2 s2 held2 ∧ Rd (p0 == 2) (l.take (at' + (l.length - at'))) (met ++ met2) (bs ++ bs2) (p2 == 2) (tx p2 s2 held2) 0) := ⟨(RD2.out.2.1 rfl).1, by rw [← (RD2.out.2.1 rfl).2.1, (RD2.out.2.1 rfl).2.2]; exact RD2.out.1⟩
              clear RD2
              go_wp2_with (first
                | (at_builtin; refine append_hellos rfl _ _ rfl rfl Q2.out.1.om rfl Q2.out.2.1 Q2.out.1.sz (by omega) ?_; intro v3 w3 k1 k2; have Q3x := Q2.out.1.met k1 k2; have OB3x := Q2.out.2.2.tag k2 Q2.out.1.om.1; have T3x := gb_keep k2 Q2.out.1.om.1 T2.out (by decide); obtain ⟨v3a, v3c, hv3⟩ := Q3x.om.form; subst hv3; have T4 : Hid ((w3.setCell ⟨w.heap.size + 1, 0, none⟩ (.slice v3a (met ++ met2).length v3c)).heap[w.heap.size + 1]? = some (.cells #[.slice v3a (met ++ met2).length v3c, .slice ba bs.length bc', .int .i64 0] 41 (0, 0))) := (box_set T3x).1 _; have Q4 : Hid (QB w R p2 s2 hv2 held2 0 (.slice v3a (met ++ met2).length v3c) (met ++ met2) (.slice ba bs.length bc') bs (w3.setCell ⟨w.heap.size + 1, 0, none⟩ (.slice v3a (met ++ met2).length v3c)) ∧ OBs (w.heap.size + 2) (fun g => w.heap.size + 2 ≤ g ∧ hv2.ownBlock ≠ some g) (w3.setCell ⟨w.heap.size + 1, 0, none⟩ (.slice v3a (met ++ met2).length v3c)) (.slice ba bs.length bc') bs (.slice b2a bs2.length b2c) bs2) := ⟨Q3x.set 0 _, OB3x.keep (fun k h1 _ => setCell_other (by omega)) (fun _ x => x.1)⟩; obtain ⟨z0, z1, z2, zf⟩ := box_cell T3x; have zf0 := zf 0; have zf1 := zf 1; clear k1 k2 Q3x OB3x T3x zf y0 y1 y2 yf0; generalize hmm : (met ++ met2).length = mm at *)
                | (at_builtin; obtain ⟨MM, OA, OC⟩ := Q4.out.2; refine append_bodies rfl _ _ rfl rfl OA rfl OC (fun _ x => x.1) (fun _ x => x.1) (fun _ x y => absurd x.2 (by have := y.2; omega)) Q4.out.1.sz (by omega) ?_; clear OA OC MM; intro v5 w5 k1 k2; have Q5x := Q4.out.1.bod k1 k2; obtain ⟨us, u1, u2, u3⟩ := Q4.out.1.ob; have T5x := gb_keep k2 u2 T4.out (by decide); obtain ⟨v5a, v5c, hv5⟩ := Q5x.ob.form; subst hv5; have T6 : Hid ((w5.setCell ⟨w.heap.size + 1, 1, none⟩ (.slice v5a (bs ++ bs2).length v5c)).heap[w.heap.size + 1]? = some (.cells #[.slice v3a mm v3c, .slice v5a (bs ++ bs2).length v5c, .int .i64 0] 41 (0, 0))) := (box_set T5x).2.1 _; have Q6 : Hid (QB w R p2 s2 hv2 held2 0 (.slice v3a mm v3c) (met ++ met2) (.slice v5a (bs ++ bs2).length v5c) (bs ++ bs2) (w5.setCell ⟨w.heap.size + 1, 1, none⟩ (.slice v5a (bs ++ bs2).length v5c))) := Q5x.set 1 _; obtain ⟨x0, x1, x2, xf⟩ := box_cell T5x; have xf1 := xf 1; have xf2 := xf 2; clear k1 k2 Q5x T5x xf z0 z1 z2 zf0 zf1 u1 u2 u3; generalize hbb : (bs ++ bs2).length = bb at *))
              go_roundw
              case rel => exact ⟨k + 1, at' + (l.length - at'), p2, s2, hv2, held2, _, met ++ met2, _, bs ++ bs2, by omega, by omega, by go_num, by go_num, Q6.out, RZ.out.2, RZ.out.1, T6.out, fun e => by omega, by rw [List.length_append, List.length_append]; omega⟩
              case measure => (simp [intOf] <;> omega)
            · have hne : (er != 0) = true := by simpa using her
              go_wp2_with (first
                | (at_builtin; refine append_hellos rfl _ _ rfl rfl Q2.out.1.om rfl Q2.out.2.1 Q2.out.1.sz (by omega) ?_; intro v3 w3 k1 k2; have Q3x := Q2.out.1.met k1 k2; have OB3x := Q2.out.2.2.tag k2 Q2.out.1.om.1; have T3x := gb_keep k2 Q2.out.1.om.1 T2.out (by decide); obtain ⟨v3a, v3c, hv3⟩ := Q3x.om.form; subst hv3; have T4 : Hid ((w3.setCell ⟨w.heap.size + 1, 0, none⟩ (.slice v3a (met ++ met2).length v3c)).heap[w.heap.size + 1]? = some (.cells #[.slice v3a (met ++ met2).length v3c, .slice ba bs.length bc', .int .i64 0] 41 (0, 0))) := (box_set T3x).1 _; have Q4 : Hid (QB w R p2 s2 hv2 held2 er (.slice v3a (met ++ met2).length v3c) (met ++ met2) (.slice ba bs.length bc') bs (w3.setCell ⟨w.heap.size + 1, 0, none⟩ (.slice v3a (met ++ met2).length v3c)) ∧ OBs (w.heap.size + 2) (fun g => w.heap.size + 2 ≤ g ∧ hv2.ownBlock ≠ some g) (w3.setCell ⟨w.heap.size + 1, 0, none⟩ (.slice v3a (met ++ met2).length v3c)) (.slice ba bs.length bc') bs (.slice b2a bs2.length b2c) bs2) := ⟨Q3x.set 0 _, OB3x.keep (fun k h1 _ => setCell_other (by omega)) (fun _ x => x.1)⟩; obtain ⟨z0, z1, z2, zf⟩ := box_cell T3x; have zf0 := zf 0; have zf1 := zf 1; clear k1 k2 Q3x OB3x T3x zf y0 y1 y2 yf0; generalize hmm : (met ++ met2).length = mm at *)
                | (at_builtin; obtain ⟨MM, OA, OC⟩ := Q4.out.2; refine append_bodies rfl _ _ rfl rfl OA rfl OC (fun _ x => x.1) (fun _ x => x.1) (fun _ x y => absurd x.2 (by have := y.2; omega)) Q4.out.1.sz (by omega) ?_; clear OA OC MM; intro v5 w5 k1 k2; have Q5x := Q4.out.1.bod k1 k2; obtain ⟨us, u1, u2, u3⟩ := Q4.out.1.ob; have T5x := gb_keep k2 u2 T4.out (by decide); obtain ⟨v5a, v5c, hv5⟩ := Q5x.ob.form; subst hv5; have T6 : Hid ((w5.setCell ⟨w.heap.size + 1, 1, none⟩ (.slice v5a (bs ++ bs2).length v5c)).heap[w.heap.size + 1]? = some (.cells #[.slice v3a mm v3c, .slice v5a (bs ++ bs2).length v5c, .int .i64 0] 41 (0, 0))) := (box_set T5x).2.1 _; have Q6 : Hid (QB w R p2 s2 hv2 held2 er (.slice v3a mm v3c) (met ++ met2) (.slice v5a (bs ++ bs2).length v5c) (bs ++ bs2) (w5.setCell ⟨w.heap.size + 1, 1, none⟩ (.slice v5a (bs ++ bs2).length v5c))) := Q5x.set 1 _; obtain ⟨x0, x1, x2, xf⟩ := box_cell T5x; have xf1 := xf 1; have xf2 := xf 2; have T7 : Hid (((w5.setCell ⟨w.heap.size + 1, 1, none⟩ (.slice v5a (bs ++ bs2).length v5c)).setCell ⟨w.heap.size + 1, 2, none⟩ (.int .i64 er)).heap[w.heap.size + 1]? = some (.cells #[.slice v3a mm v3c, .slice v5a (bs ++ bs2).length v5c, .int .i64 er] 41 (0, 0))) := (box_set T6.out).2.2 _; have Q7 : Hid (QB w R p2 s2 hv2 held2 er (.slice v3a mm v3c) (met ++ met2) (.slice v5a (bs ++ bs2).length v5c) (bs ++ bs2) ((w5.setCell ⟨w.heap.size + 1, 1, none⟩ (.slice v5a (bs ++ bs2).length v5c)).setCell ⟨w.heap.size + 1, 2, none⟩ (.int .i64 er))) := Q6.out.set 2 _; have hi3 := info_told (.slice v3a mm v3c) (.slice v5a (bs ++ bs2).length v5c) (.int .i64 er); have hone : (#[Value.slice v3a mm v3c, .slice v5a (bs ++ bs2).length v5c, .int .i64 er]).all (·.oneCell') = true := one3 _ _ _ _ _ _ _; clear k1 k2 Q5x T5x xf z0 z1 z2 zf0 zf1 u1 u2 u3; generalize hbb : (bs ++ bs2).length = bb at *)
                | (refine wpList_load_row rfl 41 _ rfl (w.heap.size + 1) rfl 41 #[.slice v3a mm v3c, .slice v5a bb v5c, .int .i64 er] (0, 0) _ T7.out Try.underlying41 rfl hi3 ?_)
                | (refine wpList_store_row rfl 41 _ _ rfl w.heap.size #[.slice v3a mm v3c, .slice v5a bb v5c, .int .i64 er] rfl rfl 41 _ Q7.out.t6 hi3 rfl hone ?_))
              have HO : QO w R p0 l (.slice v3a mm v3c) (.slice v5a bb v5c) er (met ++ met2) (bs ++ bs2) h2 (r2 ++ l.drop (at' + (l.length - at'))) p2 s2 held2 hv2 _ := Q7.out.out (by
                have := RD2.out.1.more (by omega) (l.drop (at' + (l.length - at')))
                rwa [List.take_append_drop] at this) (fun e => absurd e (by omega)) RD2.out.2.2.1 RD2.out.2.2.2 #[.slice v3a mm v3c, .slice v5a bb v5c, .int .i64 er]
              exact bodyPost_ret (results_cell_row (P := Try.prog) Try.results10 _ _ w.heap.size 41 #[.slice v3a mm v3c, .slice v5a bb v5c, .int .i64 er] (0, 0) _ rfl (setRow_heap _ _ _ _ _ _ Q7.out.t6) Try.underlying41 rfl hi3) rfl ⟨_, _, _, _, _, _, _, _, _, _, _, rfl, HO⟩
      · skip
        by_cases hk2 : k = zs.length
        · subst hk2
          have hpl : ((l.drop at').take (l.length - at')).length = l.length - at' := by rw [List.length_take, List.length_drop]; omega
          have RC : Hid (RB wr (.slice (a.map (·.add at')) (l.length - at') (c - at')) ((l.drop at').take (l.length - at'))) := by
            have := (HR2.out wr H.out.qb.fr).cut (m := at') (n := at' + (l.length - at')) (by omega) (by omega)
            rw [show at' + (l.length - at') - at' = l.length - at' by omega] at this
            rw [if_neg hca] at this; exact this
          have RDA : Hid (∀ met2 bs2 h2 r2 e2, Rd (p == 2) (tx p s held ++ (l.drop at').take (l.length - at')) met2 bs2 h2 r2 e2 → Rd (p0 == 2) (l.take (at' + (l.length - at'))) (met ++ met2) (bs ++ bs2) h2 r2 e2) := fun met2 bs2 h2 r2 e2 h => by
            have := H.out.rd.app rfl h
            rwa [← List.take_add] at this
          have HPL : Hid (((l.drop at').take (l.length - at')).length = l.length - at') := hpl
          clear hpl
          generalize (l.drop at').take (l.length - at') = pc at *
          go_wp2_with fail
          refine (copied RC.out (by rw [HPL.out]; omega)).mono ?_
          rintro e w1 ⟨u, rfl, o1, b1⟩
          have Q1 : Hid (QB w R p s hv held 0 mv met bv bs w1) := H.out.qb.below b1
          have T1 : Hid (w1.heap[w.heap.size + 1]? = some (.cells #[mv, bv, .int .i64 0] 41 (0, 0))) := (b1.block _ (Array.getElem?_eq_some_iff.1 H.out.t7).1).trans H.out.t7
          have PU : Hid (Calls Try.prog 14 #[.pointer (some ⟨R, 0, none⟩), u] w1 (PushE w1 R (p == 2) (tx p s held ++ pc) hv)) := push w1 R p s hv u held pc Q1.out.rk H.out.st Q1.out.ow Q1.out.nil (rn_new H.out.qb.ow o1) (by rw [HPL.out]; omega)
          have LN : Hid (bs.length ≤ at' ∧ met.length ≤ at') := H.out.ln
          obtain ⟨ua, un, uc, rfl⟩ := o1.form3
          clear o1 b1 RC q7 H
          go_wp2_with fail
          refine PU.out.mono ?_
          rintro e w2 ⟨mv2, bv2, er, met2, bs2, h2, r2, p2, s2, held2, hv2, rfl, PO2⟩
          obtain ⟨Q2x, OM2x, OB2x⟩ := Q1.out.push PO2
          have hN2 : hv.ownBlock ≠ some (w.heap.size + 1) := fun e => by have := Q1.out.hb _ e; omega
          have T2x : w2.heap[w.heap.size + 1]? = some (.cells #[mv, bv, .int .i64 0] 41 (0, 0)) := (PO2.fr.block _ (Array.getElem?_eq_some_iff.1 T1.out).1 ⟨by have := Q1.out.rl; omega, hN2⟩).trans T1.out
          have RD2 : Hid (Rd (p0 == 2) (l.take (at' + (l.length - at'))) (met ++ met2) (bs ++ bs2) h2 r2 er ∧ (er = 0 → St p2 s2 held2 ∧ h2 = (p2 == 2) ∧ tx p2 s2 held2 = r2) ∧ (er ≠ 0 → p2 = 0 ∧ held2 = [] ∧ (er = 100 ∨ er = 102)) ∧ (er = 0 ∨ er = 100 ∨ er = 102)) := ⟨RDA.out _ _ _ _ _ PO2.rd, PO2.st, PO2.br, PO2.er⟩
          have hll : (bs ++ bs2).length ≤ at' + (l.length - at') ∧ (met ++ met2).length ≤ at' + (l.length - at') := by
            have := rd_len RD2.out.1
            rw [List.length_take] at this
            omega
          rw [List.length_append, List.length_append] at hll
          obtain ⟨hll1, hll2⟩ := hll
          obtain ⟨m2a, m2c, rfl⟩ := OM2x.form
          obtain ⟨b2a, b2c, rfl⟩ := OB2x.form
          have Q2 : Hid (QB w R p2 s2 hv2 held2 er mv met bv bs w2 ∧ OM (w.heap.size + 2) w2 (.slice m2a met2.length m2c) met2 ∧ OBs (w.heap.size + 2) (fun g => w.heap.size + 2 ≤ g ∧ hv2.ownBlock ≠ some g) w2 bv bs (.slice b2a bs2.length b2c) bs2) := ⟨Q2x, OM2x, OB2x⟩
          have T2 : Hid (w2.heap[w.heap.size + 1]? = some (.cells #[mv, bv, .int .i64 0] 41 (0, 0))) := T2x
          obtain ⟨y0, y1, y2, yf⟩ := box_cell T2x
          have yf0 := yf 0
          clear Q2x OM2x OB2x T2x PO2 PU Q1 T1 RDA hN2 yf
          subst hmf hbf
          by_cases her : er = 0
          · subst her
            have RZ : Hid (St p2 s2 held2 ∧ Rd (p0 == 2) (l.take (at' + (l.length - at'))) (met ++ met2) (bs ++ bs2) (p2 == 2) (tx p2 s2 held2) 0) := ⟨(RD2.out.2.1 rfl).1, by rw [← (RD2.out.2.1 rfl).2.1, (RD2.out.2.1 rfl).2.2]; exact RD2.out.1⟩
            clear RD2
            go_wp2_with (first
              | (at_builtin; refine append_hellos rfl _ _ rfl rfl Q2.out.1.om rfl Q2.out.2.1 Q2.out.1.sz (by omega) ?_; intro v3 w3 k1 k2; have Q3x := Q2.out.1.met k1 k2; have OB3x := Q2.out.2.2.tag k2 Q2.out.1.om.1; have T3x := gb_keep k2 Q2.out.1.om.1 T2.out (by decide); obtain ⟨v3a, v3c, hv3⟩ := Q3x.om.form; subst hv3; have T4 : Hid ((w3.setCell ⟨w.heap.size + 1, 0, none⟩ (.slice v3a (met ++ met2).length v3c)).heap[w.heap.size + 1]? = some (.cells #[.slice v3a (met ++ met2).length v3c, .slice ba bs.length bc', .int .i64 0] 41 (0, 0))) := (box_set T3x).1 _; have Q4 : Hid (QB w R p2 s2 hv2 held2 0 (.slice v3a (met ++ met2).length v3c) (met ++ met2) (.slice ba bs.length bc') bs (w3.setCell ⟨w.heap.size + 1, 0, none⟩ (.slice v3a (met ++ met2).length v3c)) ∧ OBs (w.heap.size + 2) (fun g => w.heap.size + 2 ≤ g ∧ hv2.ownBlock ≠ some g) (w3.setCell ⟨w.heap.size + 1, 0, none⟩ (.slice v3a (met ++ met2).length v3c)) (.slice ba bs.length bc') bs (.slice b2a bs2.length b2c) bs2) := ⟨Q3x.set 0 _, OB3x.keep (fun k h1 _ => setCell_other (by omega)) (fun _ x => x.1)⟩; obtain ⟨z0, z1, z2, zf⟩ := box_cell T3x; have zf0 := zf 0; have zf1 := zf 1; clear k1 k2 Q3x OB3x T3x zf y0 y1 y2 yf0; generalize hmm : (met ++ met2).length = mm at *)
              | (at_builtin; obtain ⟨MM, OA, OC⟩ := Q4.out.2; refine append_bodies rfl _ _ rfl rfl OA rfl OC (fun _ x => x.1) (fun _ x => x.1) (fun _ x y => absurd x.2 (by have := y.2; omega)) Q4.out.1.sz (by omega) ?_; clear OA OC MM; intro v5 w5 k1 k2; have Q5x := Q4.out.1.bod k1 k2; obtain ⟨us, u1, u2, u3⟩ := Q4.out.1.ob; have T5x := gb_keep k2 u2 T4.out (by decide); obtain ⟨v5a, v5c, hv5⟩ := Q5x.ob.form; subst hv5; have T6 : Hid ((w5.setCell ⟨w.heap.size + 1, 1, none⟩ (.slice v5a (bs ++ bs2).length v5c)).heap[w.heap.size + 1]? = some (.cells #[.slice v3a mm v3c, .slice v5a (bs ++ bs2).length v5c, .int .i64 0] 41 (0, 0))) := (box_set T5x).2.1 _; have Q6 : Hid (QB w R p2 s2 hv2 held2 0 (.slice v3a mm v3c) (met ++ met2) (.slice v5a (bs ++ bs2).length v5c) (bs ++ bs2) (w5.setCell ⟨w.heap.size + 1, 1, none⟩ (.slice v5a (bs ++ bs2).length v5c))) := Q5x.set 1 _; obtain ⟨x0, x1, x2, xf⟩ := box_cell T5x; have xf1 := xf 1; have xf2 := xf 2; clear k1 k2 Q5x T5x xf z0 z1 z2 zf0 zf1 u1 u2 u3; generalize hbb : (bs ++ bs2).length = bb at *))
            go_roundw
            case rel => exact ⟨zs.length + 1, at' + (l.length - at'), p2, s2, hv2, held2, _, met ++ met2, _, bs ++ bs2, by omega, by omega, by go_num, by go_num, Q6.out, RZ.out.2, RZ.out.1, T6.out, fun e => by omega, by rw [List.length_append, List.length_append]; omega⟩
            case measure => (simp [intOf] <;> omega)
          · have hne : (er != 0) = true := by simpa using her
            go_wp2_with (first
              | (at_builtin; refine append_hellos rfl _ _ rfl rfl Q2.out.1.om rfl Q2.out.2.1 Q2.out.1.sz (by omega) ?_; intro v3 w3 k1 k2; have Q3x := Q2.out.1.met k1 k2; have OB3x := Q2.out.2.2.tag k2 Q2.out.1.om.1; have T3x := gb_keep k2 Q2.out.1.om.1 T2.out (by decide); obtain ⟨v3a, v3c, hv3⟩ := Q3x.om.form; subst hv3; have T4 : Hid ((w3.setCell ⟨w.heap.size + 1, 0, none⟩ (.slice v3a (met ++ met2).length v3c)).heap[w.heap.size + 1]? = some (.cells #[.slice v3a (met ++ met2).length v3c, .slice ba bs.length bc', .int .i64 0] 41 (0, 0))) := (box_set T3x).1 _; have Q4 : Hid (QB w R p2 s2 hv2 held2 er (.slice v3a (met ++ met2).length v3c) (met ++ met2) (.slice ba bs.length bc') bs (w3.setCell ⟨w.heap.size + 1, 0, none⟩ (.slice v3a (met ++ met2).length v3c)) ∧ OBs (w.heap.size + 2) (fun g => w.heap.size + 2 ≤ g ∧ hv2.ownBlock ≠ some g) (w3.setCell ⟨w.heap.size + 1, 0, none⟩ (.slice v3a (met ++ met2).length v3c)) (.slice ba bs.length bc') bs (.slice b2a bs2.length b2c) bs2) := ⟨Q3x.set 0 _, OB3x.keep (fun k h1 _ => setCell_other (by omega)) (fun _ x => x.1)⟩; obtain ⟨z0, z1, z2, zf⟩ := box_cell T3x; have zf0 := zf 0; have zf1 := zf 1; clear k1 k2 Q3x OB3x T3x zf y0 y1 y2 yf0; generalize hmm : (met ++ met2).length = mm at *)
              | (at_builtin; obtain ⟨MM, OA, OC⟩ := Q4.out.2; refine append_bodies rfl _ _ rfl rfl OA rfl OC (fun _ x => x.1) (fun _ x => x.1) (fun _ x y => absurd x.2 (by have := y.2; omega)) Q4.out.1.sz (by omega) ?_; clear OA OC MM; intro v5 w5 k1 k2; have Q5x := Q4.out.1.bod k1 k2; obtain ⟨us, u1, u2, u3⟩ := Q4.out.1.ob; have T5x := gb_keep k2 u2 T4.out (by decide); obtain ⟨v5a, v5c, hv5⟩ := Q5x.ob.form; subst hv5; have T6 : Hid ((w5.setCell ⟨w.heap.size + 1, 1, none⟩ (.slice v5a (bs ++ bs2).length v5c)).heap[w.heap.size + 1]? = some (.cells #[.slice v3a mm v3c, .slice v5a (bs ++ bs2).length v5c, .int .i64 0] 41 (0, 0))) := (box_set T5x).2.1 _; have Q6 : Hid (QB w R p2 s2 hv2 held2 er (.slice v3a mm v3c) (met ++ met2) (.slice v5a (bs ++ bs2).length v5c) (bs ++ bs2) (w5.setCell ⟨w.heap.size + 1, 1, none⟩ (.slice v5a (bs ++ bs2).length v5c))) := Q5x.set 1 _; obtain ⟨x0, x1, x2, xf⟩ := box_cell T5x; have xf1 := xf 1; have xf2 := xf 2; have T7 : Hid (((w5.setCell ⟨w.heap.size + 1, 1, none⟩ (.slice v5a (bs ++ bs2).length v5c)).setCell ⟨w.heap.size + 1, 2, none⟩ (.int .i64 er)).heap[w.heap.size + 1]? = some (.cells #[.slice v3a mm v3c, .slice v5a (bs ++ bs2).length v5c, .int .i64 er] 41 (0, 0))) := (box_set T6.out).2.2 _; have Q7 : Hid (QB w R p2 s2 hv2 held2 er (.slice v3a mm v3c) (met ++ met2) (.slice v5a (bs ++ bs2).length v5c) (bs ++ bs2) ((w5.setCell ⟨w.heap.size + 1, 1, none⟩ (.slice v5a (bs ++ bs2).length v5c)).setCell ⟨w.heap.size + 1, 2, none⟩ (.int .i64 er))) := Q6.out.set 2 _; have hi3 := info_told (.slice v3a mm v3c) (.slice v5a (bs ++ bs2).length v5c) (.int .i64 er); have hone : (#[Value.slice v3a mm v3c, .slice v5a (bs ++ bs2).length v5c, .int .i64 er]).all (·.oneCell') = true := one3 _ _ _ _ _ _ _; clear k1 k2 Q5x T5x xf z0 z1 z2 zf0 zf1 u1 u2 u3; generalize hbb : (bs ++ bs2).length = bb at *)
              | (refine wpList_load_row rfl 41 _ rfl (w.heap.size + 1) rfl 41 #[.slice v3a mm v3c, .slice v5a bb v5c, .int .i64 er] (0, 0) _ T7.out Try.underlying41 rfl hi3 ?_)
              | (refine wpList_store_row rfl 41 _ _ rfl w.heap.size #[.slice v3a mm v3c, .slice v5a bb v5c, .int .i64 er] rfl rfl 41 _ Q7.out.t6 hi3 rfl hone ?_))
            have HO : QO w R p0 l (.slice v3a mm v3c) (.slice v5a bb v5c) er (met ++ met2) (bs ++ bs2) h2 (r2 ++ l.drop (at' + (l.length - at'))) p2 s2 held2 hv2 _ := Q7.out.out (by
              have := RD2.out.1.more (by omega) (l.drop (at' + (l.length - at')))
              rwa [List.take_append_drop] at this) (fun e => absurd e (by omega)) RD2.out.2.2.1 RD2.out.2.2.2 #[.slice v3a mm v3c, .slice v5a bb v5c, .int .i64 er]
            exact bodyPost_ret (results_cell_row (P := Try.prog) Try.results10 _ _ w.heap.size 41 #[.slice v3a mm v3c, .slice v5a bb v5c, .int .i64 er] (0, 0) _ rfl (setRow_heap _ _ _ _ _ _ Q7.out.t6) Try.underlying41 rfl hi3) rfl ⟨_, _, _, _, _, _, _, _, _, _, _, rfl, HO⟩
        · have hkz : k < zs.length := by omega
          obtain ⟨cg, co, hzc, hcg⟩ : ∃ cg co, ca = some ⟨cg, co, none⟩ ∧ wr.cell? ⟨cg, co + k, none⟩ = some (.int .i64 (zs.getD k 0)) := by
            obtain ⟨_, _, e, _, h⟩ := HC.out
            simp only [Value.slice.injEq] at e
            obtain ⟨rfl, _, rfl⟩ := e
            rcases h with h | ⟨g, o, rfl, hgr, hg, h⟩
            · rw [h] at hkz; simp at hkz
            · exact ⟨g, o, rfl, (World.cell?_of_block (w := w) (H.out.qb.fr.block g hg hgr)).trans (h k hkz)⟩
          subst hzc
          have hzb := HZ.out (zs.getD k 0) (by simp [List.getD, List.getElem?_eq_getElem hkz])
          generalize zs.getD k 0 = z at *
          obtain ⟨hz1, hz2⟩ := hzb
          by_cases hz3 : z < (l.length : Int) - (at' : Int)
          · by_cases hz4 : 0 < z
            · obtain ⟨zn, rfl⟩ := Int.eq_ofNat_of_zero_le (show 0 ≤ z by omega)
              have hpl : ((l.drop at').take (zn)).length = zn := by rw [List.length_take, List.length_drop]; omega
              have RC : Hid (RB wr (.slice (a.map (·.add at')) (zn) (c - at')) ((l.drop at').take (zn))) := by
                have := (HR2.out wr H.out.qb.fr).cut (m := at') (n := at' + (zn)) (by omega) (by omega)
                rw [show at' + (zn) - at' = zn by omega] at this
                rw [if_neg hca] at this; exact this
              have RDA : Hid (∀ met2 bs2 h2 r2 e2, Rd (p == 2) (tx p s held ++ (l.drop at').take (zn)) met2 bs2 h2 r2 e2 → Rd (p0 == 2) (l.take (at' + (zn))) (met ++ met2) (bs ++ bs2) h2 r2 e2) := fun met2 bs2 h2 r2 e2 h => by
                have := H.out.rd.app rfl h
                rwa [← List.take_add] at this
              have HPL : Hid (((l.drop at').take (zn)).length = zn) := hpl
              clear hpl
              generalize (l.drop at').take (zn) = pc at *
              go_wp2_with fail
              refine (copied RC.out (by rw [HPL.out]; omega)).mono ?_
              rintro e w1 ⟨u, rfl, o1, b1⟩
              have Q1 : Hid (QB w R p s hv held 0 mv met bv bs w1) := H.out.qb.below b1
              have T1 : Hid (w1.heap[w.heap.size + 1]? = some (.cells #[mv, bv, .int .i64 0] 41 (0, 0))) := (b1.block _ (Array.getElem?_eq_some_iff.1 H.out.t7).1).trans H.out.t7
              have PU : Hid (Calls Try.prog 14 #[.pointer (some ⟨R, 0, none⟩), u] w1 (PushE w1 R (p == 2) (tx p s held ++ pc) hv)) := push w1 R p s hv u held pc Q1.out.rk H.out.st Q1.out.ow Q1.out.nil (rn_new H.out.qb.ow o1) (by rw [HPL.out]; omega)
              have LN : Hid (bs.length ≤ at' ∧ met.length ≤ at') := H.out.ln
              obtain ⟨ua, un, uc, rfl⟩ := o1.form3
              clear o1 b1 RC q7 H
              go_wp2_with fail
              refine PU.out.mono ?_
              rintro e w2 ⟨mv2, bv2, er, met2, bs2, h2, r2, p2, s2, held2, hv2, rfl, PO2⟩
              obtain ⟨Q2x, OM2x, OB2x⟩ := Q1.out.push PO2
              have hN2 : hv.ownBlock ≠ some (w.heap.size + 1) := fun e => by have := Q1.out.hb _ e; omega
              have T2x : w2.heap[w.heap.size + 1]? = some (.cells #[mv, bv, .int .i64 0] 41 (0, 0)) := (PO2.fr.block _ (Array.getElem?_eq_some_iff.1 T1.out).1 ⟨by have := Q1.out.rl; omega, hN2⟩).trans T1.out
              have RD2 : Hid (Rd (p0 == 2) (l.take (at' + (zn))) (met ++ met2) (bs ++ bs2) h2 r2 er ∧ (er = 0 → St p2 s2 held2 ∧ h2 = (p2 == 2) ∧ tx p2 s2 held2 = r2) ∧ (er ≠ 0 → p2 = 0 ∧ held2 = [] ∧ (er = 100 ∨ er = 102)) ∧ (er = 0 ∨ er = 100 ∨ er = 102)) := ⟨RDA.out _ _ _ _ _ PO2.rd, PO2.st, PO2.br, PO2.er⟩
              have hll : (bs ++ bs2).length ≤ at' + (zn) ∧ (met ++ met2).length ≤ at' + (zn) := by
                have := rd_len RD2.out.1
                rw [List.length_take] at this
                omega
              rw [List.length_append, List.length_append] at hll
              obtain ⟨hll1, hll2⟩ := hll
              obtain ⟨m2a, m2c, rfl⟩ := OM2x.form
              obtain ⟨b2a, b2c, rfl⟩ := OB2x.form
              have Q2 : Hid (QB w R p2 s2 hv2 held2 er mv met bv bs w2 ∧ OM (w.heap.size + 2) w2 (.slice m2a met2.length m2c) met2 ∧ OBs (w.heap.size + 2) (fun g => w.heap.size + 2 ≤ g ∧ hv2.ownBlock ≠ some g) w2 bv bs (.slice b2a bs2.length b2c) bs2) := ⟨Q2x, OM2x, OB2x⟩
              have T2 : Hid (w2.heap[w.heap.size + 1]? = some (.cells #[mv, bv, .int .i64 0] 41 (0, 0))) := T2x
              obtain ⟨y0, y1, y2, yf⟩ := box_cell T2x
              have yf0 := yf 0
              clear Q2x OM2x OB2x T2x PO2 PU Q1 T1 RDA hN2 yf
              subst hmf hbf
              by_cases her : er = 0
              · subst her
                have RZ : Hid (St p2 s2 held2 ∧ Rd (p0 == 2) (l.take (at' + (zn))) (met ++ met2) (bs ++ bs2) (p2 == 2) (tx p2 s2 held2) 0) := ⟨(RD2.out.2.1 rfl).1, by rw [← (RD2.out.2.1 rfl).2.1, (RD2.out.2.1 rfl).2.2]; exact RD2.out.1⟩
                clear RD2
                go_wp2_with (first
                  | (at_builtin; refine append_hellos rfl _ _ rfl rfl Q2.out.1.om rfl Q2.out.2.1 Q2.out.1.sz (by omega) ?_; intro v3 w3 k1 k2; have Q3x := Q2.out.1.met k1 k2; have OB3x := Q2.out.2.2.tag k2 Q2.out.1.om.1; have T3x := gb_keep k2 Q2.out.1.om.1 T2.out (by decide); obtain ⟨v3a, v3c, hv3⟩ := Q3x.om.form; subst hv3; have T4 : Hid ((w3.setCell ⟨w.heap.size + 1, 0, none⟩ (.slice v3a (met ++ met2).length v3c)).heap[w.heap.size + 1]? = some (.cells #[.slice v3a (met ++ met2).length v3c, .slice ba bs.length bc', .int .i64 0] 41 (0, 0))) := (box_set T3x).1 _; have Q4 : Hid (QB w R p2 s2 hv2 held2 0 (.slice v3a (met ++ met2).length v3c) (met ++ met2) (.slice ba bs.length bc') bs (w3.setCell ⟨w.heap.size + 1, 0, none⟩ (.slice v3a (met ++ met2).length v3c)) ∧ OBs (w.heap.size + 2) (fun g => w.heap.size + 2 ≤ g ∧ hv2.ownBlock ≠ some g) (w3.setCell ⟨w.heap.size + 1, 0, none⟩ (.slice v3a (met ++ met2).length v3c)) (.slice ba bs.length bc') bs (.slice b2a bs2.length b2c) bs2) := ⟨Q3x.set 0 _, OB3x.keep (fun k h1 _ => setCell_other (by omega)) (fun _ x => x.1)⟩; obtain ⟨z0, z1, z2, zf⟩ := box_cell T3x; have zf0 := zf 0; have zf1 := zf 1; clear k1 k2 Q3x OB3x T3x zf y0 y1 y2 yf0; generalize hmm : (met ++ met2).length = mm at *)
                  | (at_builtin; obtain ⟨MM, OA, OC⟩ := Q4.out.2; refine append_bodies rfl _ _ rfl rfl OA rfl OC (fun _ x => x.1) (fun _ x => x.1) (fun _ x y => absurd x.2 (by have := y.2; omega)) Q4.out.1.sz (by omega) ?_; clear OA OC MM; intro v5 w5 k1 k2; have Q5x := Q4.out.1.bod k1 k2; obtain ⟨us, u1, u2, u3⟩ := Q4.out.1.ob; have T5x := gb_keep k2 u2 T4.out (by decide); obtain ⟨v5a, v5c, hv5⟩ := Q5x.ob.form; subst hv5; have T6 : Hid ((w5.setCell ⟨w.heap.size + 1, 1, none⟩ (.slice v5a (bs ++ bs2).length v5c)).heap[w.heap.size + 1]? = some (.cells #[.slice v3a mm v3c, .slice v5a (bs ++ bs2).length v5c, .int .i64 0] 41 (0, 0))) := (box_set T5x).2.1 _; have Q6 : Hid (QB w R p2 s2 hv2 held2 0 (.slice v3a mm v3c) (met ++ met2) (.slice v5a (bs ++ bs2).length v5c) (bs ++ bs2) (w5.setCell ⟨w.heap.size + 1, 1, none⟩ (.slice v5a (bs ++ bs2).length v5c))) := Q5x.set 1 _; obtain ⟨x0, x1, x2, xf⟩ := box_cell T5x; have xf1 := xf 1; have xf2 := xf 2; clear k1 k2 Q5x T5x xf z0 z1 z2 zf0 zf1 u1 u2 u3; generalize hbb : (bs ++ bs2).length = bb at *))
                go_roundw
                case rel => exact ⟨k + 1, at' + (zn), p2, s2, hv2, held2, _, met ++ met2, _, bs ++ bs2, by omega, by omega, by go_num, by go_num, Q6.out, RZ.out.2, RZ.out.1, T6.out, fun e => by omega, by rw [List.length_append, List.length_append]; omega⟩
                case measure => (simp [intOf] <;> omega)
              · have hne : (er != 0) = true := by simpa using her
                go_wp2_with (first
                  | (at_builtin; refine append_hellos rfl _ _ rfl rfl Q2.out.1.om rfl Q2.out.2.1 Q2.out.1.sz (by omega) ?_; intro v3 w3 k1 k2; have Q3x := Q2.out.1.met k1 k2; have OB3x := Q2.out.2.2.tag k2 Q2.out.1.om.1; have T3x := gb_keep k2 Q2.out.1.om.1 T2.out (by decide); obtain ⟨v3a, v3c, hv3⟩ := Q3x.om.form; subst hv3; have T4 : Hid ((w3.setCell ⟨w.heap.size + 1, 0, none⟩ (.slice v3a (met ++ met2).length v3c)).heap[w.heap.size + 1]? = some (.cells #[.slice v3a (met ++ met2).length v3c, .slice ba bs.length bc', .int .i64 0] 41 (0, 0))) := (box_set T3x).1 _; have Q4 : Hid (QB w R p2 s2 hv2 held2 er (.slice v3a (met ++ met2).length v3c) (met ++ met2) (.slice ba bs.length bc') bs (w3.setCell ⟨w.heap.size + 1, 0, none⟩ (.slice v3a (met ++ met2).length v3c)) ∧ OBs (w.heap.size + 2) (fun g => w.heap.size + 2 ≤ g ∧ hv2.ownBlock ≠ some g) (w3.setCell ⟨w.heap.size + 1, 0, none⟩ (.slice v3a (met ++ met2).length v3c)) (.slice ba bs.length bc') bs (.slice b2a bs2.length b2c) bs2) := ⟨Q3x.set 0 _, OB3x.keep (fun k h1 _ => setCell_other (by omega)) (fun _ x => x.1)⟩; obtain ⟨z0, z1, z2, zf⟩ := box_cell T3x; have zf0 := zf 0; have zf1 := zf 1; clear k1 k2 Q3x OB3x T3x zf y0 y1 y2 yf0; generalize hmm : (met ++ met2).length = mm at *)
                  | (at_builtin; obtain ⟨MM, OA, OC⟩ := Q4.out.2; refine append_bodies rfl _ _ rfl rfl OA rfl OC (fun _ x => x.1) (fun _ x => x.1) (fun _ x y => absurd x.2 (by have := y.2; omega)) Q4.out.1.sz (by omega) ?_; clear OA OC MM; intro v5 w5 k1 k2; have Q5x := Q4.out.1.bod k1 k2; obtain ⟨us, u1, u2, u3⟩ := Q4.out.1.ob; have T5x := gb_keep k2 u2 T4.out (by decide); obtain ⟨v5a, v5c, hv5⟩ := Q5x.ob.form; subst hv5; have T6 : Hid ((w5.setCell ⟨w.heap.size + 1, 1, none⟩ (.slice v5a (bs ++ bs2).length v5c)).heap[w.heap.size + 1]? = some (.cells #[.slice v3a mm v3c, .slice v5a (bs ++ bs2).length v5c, .int .i64 0] 41 (0, 0))) := (box_set T5x).2.1 _; have Q6 : Hid (QB w R p2 s2 hv2 held2 er (.slice v3a mm v3c) (met ++ met2) (.slice v5a (bs ++ bs2).length v5c) (bs ++ bs2) (w5.setCell ⟨w.heap.size + 1, 1, none⟩ (.slice v5a (bs ++ bs2).length v5c))) := Q5x.set 1 _; obtain ⟨x0, x1, x2, xf⟩ := box_cell T5x; have xf1 := xf 1; have xf2 := xf 2; have T7 : Hid (((w5.setCell ⟨w.heap.size + 1, 1, none⟩ (.slice v5a (bs ++ bs2).length v5c)).setCell ⟨w.heap.size + 1, 2, none⟩ (.int .i64 er)).heap[w.heap.size + 1]? = some (.cells #[.slice v3a mm v3c, .slice v5a (bs ++ bs2).length v5c, .int .i64 er] 41 (0, 0))) := (box_set T6.out).2.2 _; have Q7 : Hid (QB w R p2 s2 hv2 held2 er (.slice v3a mm v3c) (met ++ met2) (.slice v5a (bs ++ bs2).length v5c) (bs ++ bs2) ((w5.setCell ⟨w.heap.size + 1, 1, none⟩ (.slice v5a (bs ++ bs2).length v5c)).setCell ⟨w.heap.size + 1, 2, none⟩ (.int .i64 er))) := Q6.out.set 2 _; have hi3 := info_told (.slice v3a mm v3c) (.slice v5a (bs ++ bs2).length v5c) (.int .i64 er); have hone : (#[Value.slice v3a mm v3c, .slice v5a (bs ++ bs2).length v5c, .int .i64 er]).all (·.oneCell') = true := one3 _ _ _ _ _ _ _; clear k1 k2 Q5x T5x xf z0 z1 z2 zf0 zf1 u1 u2 u3; generalize hbb : (bs ++ bs2).length = bb at *)
                  | (refine wpList_load_row rfl 41 _ rfl (w.heap.size + 1) rfl 41 #[.slice v3a mm v3c, .slice v5a bb v5c, .int .i64 er] (0, 0) _ T7.out Try.underlying41 rfl hi3 ?_)
                  | (refine wpList_store_row rfl 41 _ _ rfl w.heap.size #[.slice v3a mm v3c, .slice v5a bb v5c, .int .i64 er] rfl rfl 41 _ Q7.out.t6 hi3 rfl hone ?_))
                have HO : QO w R p0 l (.slice v3a mm v3c) (.slice v5a bb v5c) er (met ++ met2) (bs ++ bs2) h2 (r2 ++ l.drop (at' + (zn))) p2 s2 held2 hv2 _ := Q7.out.out (by
                  have := RD2.out.1.more (by omega) (l.drop (at' + (zn)))
                  rwa [List.take_append_drop] at this) (fun e => absurd e (by omega)) RD2.out.2.2.1 RD2.out.2.2.2 #[.slice v3a mm v3c, .slice v5a bb v5c, .int .i64 er]
                exact bodyPost_ret (results_cell_row (P := Try.prog) Try.results10 _ _ w.heap.size 41 #[.slice v3a mm v3c, .slice v5a bb v5c, .int .i64 er] (0, 0) _ rfl (setRow_heap _ _ _ _ _ _ Q7.out.t6) Try.underlying41 rfl hi3) rfl ⟨_, _, _, _, _, _, _, _, _, _, _, rfl, HO⟩
            · skip
              have hpl : ((l.drop at').take (0)).length = 0 := by rw [List.length_take, List.length_drop]; omega
              have RC : Hid (RB wr (.slice (a.map (·.add at')) (0) (c - at')) ((l.drop at').take (0))) := by
                have := (HR2.out wr H.out.qb.fr).cut (m := at') (n := at' + (0)) (by omega) (by omega)
                rw [show at' + (0) - at' = 0 by omega] at this
                rw [if_neg hca] at this; exact this
              have RDA : Hid (∀ met2 bs2 h2 r2 e2, Rd (p == 2) (tx p s held ++ (l.drop at').take (0)) met2 bs2 h2 r2 e2 → Rd (p0 == 2) (l.take (at' + (0))) (met ++ met2) (bs ++ bs2) h2 r2 e2) := fun met2 bs2 h2 r2 e2 h => by
                have := H.out.rd.app rfl h
                rwa [← List.take_add] at this
              have HPL : Hid (((l.drop at').take (0)).length = 0) := hpl
              clear hpl
              generalize (l.drop at').take (0) = pc at *
              go_wp2_with fail
              refine (copied RC.out (by rw [HPL.out]; omega)).mono ?_
              rintro e w1 ⟨u, rfl, o1, b1⟩
              have Q1 : Hid (QB w R p s hv held 0 mv met bv bs w1) := H.out.qb.below b1
              have T1 : Hid (w1.heap[w.heap.size + 1]? = some (.cells #[mv, bv, .int .i64 0] 41 (0, 0))) := (b1.block _ (Array.getElem?_eq_some_iff.1 H.out.t7).1).trans H.out.t7
              have PU : Hid (Calls Try.prog 14 #[.pointer (some ⟨R, 0, none⟩), u] w1 (PushE w1 R (p == 2) (tx p s held ++ pc) hv)) := push w1 R p s hv u held pc Q1.out.rk H.out.st Q1.out.ow Q1.out.nil (rn_new H.out.qb.ow o1) (by rw [HPL.out]; omega)
              have LN : Hid (bs.length ≤ at' ∧ met.length ≤ at') := H.out.ln
              obtain ⟨ua, un, uc, rfl⟩ := o1.form3
              clear o1 b1 RC q7 H
              go_wp2_with fail
              refine PU.out.mono ?_
              rintro e w2 ⟨mv2, bv2, er, met2, bs2, h2, r2, p2, s2, held2, hv2, rfl, PO2⟩
              obtain ⟨Q2x, OM2x, OB2x⟩ := Q1.out.push PO2
              have hN2 : hv.ownBlock ≠ some (w.heap.size + 1) := fun e => by have := Q1.out.hb _ e; omega
              have T2x : w2.heap[w.heap.size + 1]? = some (.cells #[mv, bv, .int .i64 0] 41 (0, 0)) := (PO2.fr.block _ (Array.getElem?_eq_some_iff.1 T1.out).1 ⟨by have := Q1.out.rl; omega, hN2⟩).trans T1.out
              have RD2 : Hid (Rd (p0 == 2) (l.take (at' + (0))) (met ++ met2) (bs ++ bs2) h2 r2 er ∧ (er = 0 → St p2 s2 held2 ∧ h2 = (p2 == 2) ∧ tx p2 s2 held2 = r2) ∧ (er ≠ 0 → p2 = 0 ∧ held2 = [] ∧ (er = 100 ∨ er = 102)) ∧ (er = 0 ∨ er = 100 ∨ er = 102)) := ⟨RDA.out _ _ _ _ _ PO2.rd, PO2.st, PO2.br, PO2.er⟩
              have hll : (bs ++ bs2).length ≤ at' + (0) ∧ (met ++ met2).length ≤ at' + (0) := by
                have := rd_len RD2.out.1
                rw [List.length_take] at this
                omega
              rw [List.length_append, List.length_append] at hll
              obtain ⟨hll1, hll2⟩ := hll
              obtain ⟨m2a, m2c, rfl⟩ := OM2x.form
              obtain ⟨b2a, b2c, rfl⟩ := OB2x.form
              have Q2 : Hid (QB w R p2 s2 hv2 held2 er mv met bv bs w2 ∧ OM (w.heap.size + 2) w2 (.slice m2a met2.length m2c) met2 ∧ OBs (w.heap.size + 2) (fun g => w.heap.size + 2 ≤ g ∧ hv2.ownBlock ≠ some g) w2 bv bs (.slice b2a bs2.length b2c) bs2) := ⟨Q2x, OM2x, OB2x⟩
              have T2 : Hid (w2.heap[w.heap.size + 1]? = some (.cells #[mv, bv, .int .i64 0] 41 (0, 0))) := T2x
              obtain ⟨y0, y1, y2, yf⟩ := box_cell T2x
              have yf0 := yf 0
              clear Q2x OM2x OB2x T2x PO2 PU Q1 T1 RDA hN2 yf
              subst hmf hbf
              by_cases her : er = 0
              · subst her
                have RZ : Hid (St p2 s2 held2 ∧ Rd (p0 == 2) (l.take (at' + (0))) (met ++ met2) (bs ++ bs2) (p2 == 2) (tx p2 s2 held2) 0) := ⟨(RD2.out.2.1 rfl).1, by rw [← (RD2.out.2.1 rfl).2.1, (RD2.out.2.1 rfl).2.2]; exact RD2.out.1⟩
                clear RD2
                go_wp2_with (first
                  | (at_builtin; refine append_hellos rfl _ _ rfl rfl Q2.out.1.om rfl Q2.out.2.1 Q2.out.1.sz (by omega) ?_; intro v3 w3 k1 k2; have Q3x := Q2.out.1.met k1 k2; have OB3x := Q2.out.2.2.tag k2 Q2.out.1.om.1; have T3x := gb_keep k2 Q2.out.1.om.1 T2.out (by decide); obtain ⟨v3a, v3c, hv3⟩ := Q3x.om.form; subst hv3; have T4 : Hid ((w3.setCell ⟨w.heap.size + 1, 0, none⟩ (.slice v3a (met ++ met2).length v3c)).heap[w.heap.size + 1]? = some (.cells #[.slice v3a (met ++ met2).length v3c, .slice ba bs.length bc', .int .i64 0] 41 (0, 0))) := (box_set T3x).1 _; have Q4 : Hid (QB w R p2 s2 hv2 held2 0 (.slice v3a (met ++ met2).length v3c) (met ++ met2) (.slice ba bs.length bc') bs (w3.setCell ⟨w.heap.size + 1, 0, none⟩ (.slice v3a (met ++ met2).length v3c)) ∧ OBs (w.heap.size + 2) (fun g => w.heap.size + 2 ≤ g ∧ hv2.ownBlock ≠ some g) (w3.setCell ⟨w.heap.size + 1, 0, none⟩ (.slice v3a (met ++ met2).length v3c)) (.slice ba bs.length bc') bs (.slice b2a bs2.length b2c) bs2) := ⟨Q3x.set 0 _, OB3x.keep (fun k h1 _ => setCell_other (by omega)) (fun _ x => x.1)⟩; obtain ⟨z0, z1, z2, zf⟩ := box_cell T3x; have zf0 := zf 0; have zf1 := zf 1; clear k1 k2 Q3x OB3x T3x zf y0 y1 y2 yf0; generalize hmm : (met ++ met2).length = mm at *)
                  | (at_builtin; obtain ⟨MM, OA, OC⟩ := Q4.out.2; refine append_bodies rfl _ _ rfl rfl OA rfl OC (fun _ x => x.1) (fun _ x => x.1) (fun _ x y => absurd x.2 (by have := y.2; omega)) Q4.out.1.sz (by omega) ?_; clear OA OC MM; intro v5 w5 k1 k2; have Q5x := Q4.out.1.bod k1 k2; obtain ⟨us, u1, u2, u3⟩ := Q4.out.1.ob; have T5x := gb_keep k2 u2 T4.out (by decide); obtain ⟨v5a, v5c, hv5⟩ := Q5x.ob.form; subst hv5; have T6 : Hid ((w5.setCell ⟨w.heap.size + 1, 1, none⟩ (.slice v5a (bs ++ bs2).length v5c)).heap[w.heap.size + 1]? = some (.cells #[.slice v3a mm v3c, .slice v5a (bs ++ bs2).length v5c, .int .i64 0] 41 (0, 0))) := (box_set T5x).2.1 _; have Q6 : Hid (QB w R p2 s2 hv2 held2 0 (.slice v3a mm v3c) (met ++ met2) (.slice v5a (bs ++ bs2).length v5c) (bs ++ bs2) (w5.setCell ⟨w.heap.size + 1, 1, none⟩ (.slice v5a (bs ++ bs2).length v5c))) := Q5x.set 1 _; obtain ⟨x0, x1, x2, xf⟩ := box_cell T5x; have xf1 := xf 1; have xf2 := xf 2; clear k1 k2 Q5x T5x xf z0 z1 z2 zf0 zf1 u1 u2 u3; generalize hbb : (bs ++ bs2).length = bb at *))
                go_roundw
                case rel => exact ⟨k + 1, at' + (0), p2, s2, hv2, held2, _, met ++ met2, _, bs ++ bs2, by omega, by omega, by go_num, by go_num, Q6.out, RZ.out.2, RZ.out.1, T6.out, fun e => by omega, by rw [List.length_append, List.length_append]; omega⟩
                case measure => (simp [intOf] <;> omega)
              · have hne : (er != 0) = true := by simpa using her
                go_wp2_with (first
                  | (at_builtin; refine append_hellos rfl _ _ rfl rfl Q2.out.1.om rfl Q2.out.2.1 Q2.out.1.sz (by omega) ?_; intro v3 w3 k1 k2; have Q3x := Q2.out.1.met k1 k2; have OB3x := Q2.out.2.2.tag k2 Q2.out.1.om.1; have T3x := gb_keep k2 Q2.out.1.om.1 T2.out (by decide); obtain ⟨v3a, v3c, hv3⟩ := Q3x.om.form; subst hv3; have T4 : Hid ((w3.setCell ⟨w.heap.size + 1, 0, none⟩ (.slice v3a (met ++ met2).length v3c)).heap[w.heap.size + 1]? = some (.cells #[.slice v3a (met ++ met2).length v3c, .slice ba bs.length bc', .int .i64 0] 41 (0, 0))) := (box_set T3x).1 _; have Q4 : Hid (QB w R p2 s2 hv2 held2 er (.slice v3a (met ++ met2).length v3c) (met ++ met2) (.slice ba bs.length bc') bs (w3.setCell ⟨w.heap.size + 1, 0, none⟩ (.slice v3a (met ++ met2).length v3c)) ∧ OBs (w.heap.size + 2) (fun g => w.heap.size + 2 ≤ g ∧ hv2.ownBlock ≠ some g) (w3.setCell ⟨w.heap.size + 1, 0, none⟩ (.slice v3a (met ++ met2).length v3c)) (.slice ba bs.length bc') bs (.slice b2a bs2.length b2c) bs2) := ⟨Q3x.set 0 _, OB3x.keep (fun k h1 _ => setCell_other (by omega)) (fun _ x => x.1)⟩; obtain ⟨z0, z1, z2, zf⟩ := box_cell T3x; have zf0 := zf 0; have zf1 := zf 1; clear k1 k2 Q3x OB3x T3x zf y0 y1 y2 yf0; generalize hmm : (met ++ met2).length = mm at *)
                  | (at_builtin; obtain ⟨MM, OA, OC⟩ := Q4.out.2; refine append_bodies rfl _ _ rfl rfl OA rfl OC (fun _ x => x.1) (fun _ x => x.1) (fun _ x y => absurd x.2 (by have := y.2; omega)) Q4.out.1.sz (by omega) ?_; clear OA OC MM; intro v5 w5 k1 k2; have Q5x := Q4.out.1.bod k1 k2; obtain ⟨us, u1, u2, u3⟩ := Q4.out.1.ob; have T5x := gb_keep k2 u2 T4.out (by decide); obtain ⟨v5a, v5c, hv5⟩ := Q5x.ob.form; subst hv5; have T6 : Hid ((w5.setCell ⟨w.heap.size + 1, 1, none⟩ (.slice v5a (bs ++ bs2).length v5c)).heap[w.heap.size + 1]? = some (.cells #[.slice v3a mm v3c, .slice v5a (bs ++ bs2).length v5c, .int .i64 0] 41 (0, 0))) := (box_set T5x).2.1 _; have Q6 : Hid (QB w R p2 s2 hv2 held2 er (.slice v3a mm v3c) (met ++ met2) (.slice v5a (bs ++ bs2).length v5c) (bs ++ bs2) (w5.setCell ⟨w.heap.size + 1, 1, none⟩ (.slice v5a (bs ++ bs2).length v5c))) := Q5x.set 1 _; obtain ⟨x0, x1, x2, xf⟩ := box_cell T5x; have xf1 := xf 1; have xf2 := xf 2; have T7 : Hid (((w5.setCell ⟨w.heap.size + 1, 1, none⟩ (.slice v5a (bs ++ bs2).length v5c)).setCell ⟨w.heap.size + 1, 2, none⟩ (.int .i64 er)).heap[w.heap.size + 1]? = some (.cells #[.slice v3a mm v3c, .slice v5a (bs ++ bs2).length v5c, .int .i64 er] 41 (0, 0))) := (box_set T6.out).2.2 _; have Q7 : Hid (QB w R p2 s2 hv2 held2 er (.slice v3a mm v3c) (met ++ met2) (.slice v5a (bs ++ bs2).length v5c) (bs ++ bs2) ((w5.setCell ⟨w.heap.size + 1, 1, none⟩ (.slice v5a (bs ++ bs2).length v5c)).setCell ⟨w.heap.size + 1, 2, none⟩ (.int .i64 er))) := Q6.out.set 2 _; have hi3 := info_told (.slice v3a mm v3c) (.slice v5a (bs ++ bs2).length v5c) (.int .i64 er); have hone : (#[Value.slice v3a mm v3c, .slice v5a (bs ++ bs2).length v5c, .int .i64 er]).all (·.oneCell') = true := one3 _ _ _ _ _ _ _; clear k1 k2 Q5x T5x xf z0 z1 z2 zf0 zf1 u1 u2 u3; generalize hbb : (bs ++ bs2).length = bb at *)
                  | (refine wpList_load_row rfl 41 _ rfl (w.heap.size + 1) rfl 41 #[.slice v3a mm v3c, .slice v5a bb v5c, .int .i64 er] (0, 0) _ T7.out Try.underlying41 rfl hi3 ?_)
                  | (refine wpList_store_row rfl 41 _ _ rfl w.heap.size #[.slice v3a mm v3c, .slice v5a bb v5c, .int .i64 er] rfl rfl 41 _ Q7.out.t6 hi3 rfl hone ?_))
                have HO : QO w R p0 l (.slice v3a mm v3c) (.slice v5a bb v5c) er (met ++ met2) (bs ++ bs2) h2 (r2 ++ l.drop (at' + (0))) p2 s2 held2 hv2 _ := Q7.out.out (by
                  have := RD2.out.1.more (by omega) (l.drop (at' + (0)))
                  rwa [List.take_append_drop] at this) (fun e => absurd e (by omega)) RD2.out.2.2.1 RD2.out.2.2.2 #[.slice v3a mm v3c, .slice v5a bb v5c, .int .i64 er]
                exact bodyPost_ret (results_cell_row (P := Try.prog) Try.results10 _ _ w.heap.size 41 #[.slice v3a mm v3c, .slice v5a bb v5c, .int .i64 er] (0, 0) _ rfl (setRow_heap _ _ _ _ _ _ Q7.out.t6) Try.underlying41 rfl hi3) rfl ⟨_, _, _, _, _, _, _, _, _, _, _, rfl, HO⟩
          · skip
            have hpl : ((l.drop at').take (l.length - at')).length = l.length - at' := by rw [List.length_take, List.length_drop]; omega
            have RC : Hid (RB wr (.slice (a.map (·.add at')) (l.length - at') (c - at')) ((l.drop at').take (l.length - at'))) := by
              have := (HR2.out wr H.out.qb.fr).cut (m := at') (n := at' + (l.length - at')) (by omega) (by omega)
              rw [show at' + (l.length - at') - at' = l.length - at' by omega] at this
              rw [if_neg hca] at this; exact this
            have RDA : Hid (∀ met2 bs2 h2 r2 e2, Rd (p == 2) (tx p s held ++ (l.drop at').take (l.length - at')) met2 bs2 h2 r2 e2 → Rd (p0 == 2) (l.take (at' + (l.length - at'))) (met ++ met2) (bs ++ bs2) h2 r2 e2) := fun met2 bs2 h2 r2 e2 h => by
              have := H.out.rd.app rfl h
              rwa [← List.take_add] at this
            have HPL : Hid (((l.drop at').take (l.length - at')).length = l.length - at') := hpl
            clear hpl
            generalize (l.drop at').take (l.length - at') = pc at *
            go_wp2_with fail
            refine (copied RC.out (by rw [HPL.out]; omega)).mono ?_
            rintro e w1 ⟨u, rfl, o1, b1⟩
            have Q1 : Hid (QB w R p s hv held 0 mv met bv bs w1) := H.out.qb.below b1
            have T1 : Hid (w1.heap[w.heap.size + 1]? = some (.cells #[mv, bv, .int .i64 0] 41 (0, 0))) := (b1.block _ (Array.getElem?_eq_some_iff.1 H.out.t7).1).trans H.out.t7
            have PU : Hid (Calls Try.prog 14 #[.pointer (some ⟨R, 0, none⟩), u] w1 (PushE w1 R (p == 2) (tx p s held ++ pc) hv)) := push w1 R p s hv u held pc Q1.out.rk H.out.st Q1.out.ow Q1.out.nil (rn_new H.out.qb.ow o1) (by rw [HPL.out]; omega)
            have LN : Hid (bs.length ≤ at' ∧ met.length ≤ at') := H.out.ln
            obtain ⟨ua, un, uc, rfl⟩ := o1.form3
            clear o1 b1 RC q7 H
            go_wp2_with fail
            refine PU.out.mono ?_
            rintro e w2 ⟨mv2, bv2, er, met2, bs2, h2, r2, p2, s2, held2, hv2, rfl, PO2⟩
            obtain ⟨Q2x, OM2x, OB2x⟩ := Q1.out.push PO2
            have hN2 : hv.ownBlock ≠ some (w.heap.size + 1) := fun e => by have := Q1.out.hb _ e; omega
            have T2x : w2.heap[w.heap.size + 1]? = some (.cells #[mv, bv, .int .i64 0] 41 (0, 0)) := (PO2.fr.block _ (Array.getElem?_eq_some_iff.1 T1.out).1 ⟨by have := Q1.out.rl; omega, hN2⟩).trans T1.out
            have RD2 : Hid (Rd (p0 == 2) (l.take (at' + (l.length - at'))) (met ++ met2) (bs ++ bs2) h2 r2 er ∧ (er = 0 → St p2 s2 held2 ∧ h2 = (p2 == 2) ∧ tx p2 s2 held2 = r2) ∧ (er ≠ 0 → p2 = 0 ∧ held2 = [] ∧ (er = 100 ∨ er = 102)) ∧ (er = 0 ∨ er = 100 ∨ er = 102)) := ⟨RDA.out _ _ _ _ _ PO2.rd, PO2.st, PO2.br, PO2.er⟩
            have hll : (bs ++ bs2).length ≤ at' + (l.length - at') ∧ (met ++ met2).length ≤ at' + (l.length - at') := by
              have := rd_len RD2.out.1
              rw [List.length_take] at this
              omega
            rw [List.length_append, List.length_append] at hll
            obtain ⟨hll1, hll2⟩ := hll
            obtain ⟨m2a, m2c, rfl⟩ := OM2x.form
            obtain ⟨b2a, b2c, rfl⟩ := OB2x.form
            have Q2 : Hid (QB w R p2 s2 hv2 held2 er mv met bv bs w2 ∧ OM (w.heap.size + 2) w2 (.slice m2a met2.length m2c) met2 ∧ OBs (w.heap.size + 2) (fun g => w.heap.size + 2 ≤ g ∧ hv2.ownBlock ≠ some g) w2 bv bs (.slice b2a bs2.length b2c) bs2) := ⟨Q2x, OM2x, OB2x⟩
            have T2 : Hid (w2.heap[w.heap.size + 1]? = some (.cells #[mv, bv, .int .i64 0] 41 (0, 0))) := T2x
            obtain ⟨y0, y1, y2, yf⟩ := box_cell T2x
            have yf0 := yf 0
            clear Q2x OM2x OB2x T2x PO2 PU Q1 T1 RDA hN2 yf
            subst hmf hbf
            by_cases her : er = 0
            · subst her
              have RZ : Hid (St p2 s2 held2 ∧ Rd (p0 == 2) (l.take (at' + (l.length - at'))) (met ++ met2) (bs ++ bs2) (p2 == 2) (tx p2 s2 held2) 0) := ⟨(RD2.out.2.1 rfl).1, by rw [← (RD2.out.2.1 rfl).2.1, (RD2.out.2.1 rfl).2.2]; exact RD2.out.1⟩
              clear RD2
              go_wp2_with (first
                | (at_builtin; refine append_hellos rfl _ _ rfl rfl Q2.out.1.om rfl Q2.out.2.1 Q2.out.1.sz (by omega) ?_; intro v3 w3 k1 k2; have Q3x := Q2.out.1.met k1 k2; have OB3x := Q2.out.2.2.tag k2 Q2.out.1.om.1; have T3x := gb_keep k2 Q2.out.1.om.1 T2.out (by decide); obtain ⟨v3a, v3c, hv3⟩ := Q3x.om.form; subst hv3; have T4 : Hid ((w3.setCell ⟨w.heap.size + 1, 0, none⟩ (.slice v3a (met ++ met2).length v3c)).heap[w.heap.size + 1]? = some (.cells #[.slice v3a (met ++ met2).length v3c, .slice ba bs.length bc', .int .i64 0] 41 (0, 0))) := (box_set T3x).1 _; have Q4 : Hid (QB w R p2 s2 hv2 held2 0 (.slice v3a (met ++ met2).length v3c) (met ++ met2) (.slice ba bs.length bc') bs (w3.setCell ⟨w.heap.size + 1, 0, none⟩ (.slice v3a (met ++ met2).length v3c)) ∧ OBs (w.heap.size + 2) (fun g => w.heap.size + 2 ≤ g ∧ hv2.ownBlock ≠ some g) (w3.setCell ⟨w.heap.size + 1, 0, none⟩ (.slice v3a (met ++ met2).length v3c)) (.slice ba bs.length bc') bs (.slice b2a bs2.length b2c) bs2) := ⟨Q3x.set 0 _, OB3x.keep (fun k h1 _ => setCell_other (by omega)) (fun _ x => x.1)⟩; obtain ⟨z0, z1, z2, zf⟩ := box_cell T3x; have zf0 := zf 0; have zf1 := zf 1; clear k1 k2 Q3x OB3x T3x zf y0 y1 y2 yf0; generalize hmm : (met ++ met2).length = mm at *)
                | (at_builtin; obtain ⟨MM, OA, OC⟩ := Q4.out.2; refine append_bodies rfl _ _ rfl rfl OA rfl OC (fun _ x => x.1) (fun _ x => x.1) (fun _ x y => absurd x.2 (by have := y.2; omega)) Q4.out.1.sz (by omega) ?_; clear OA OC MM; intro v5 w5 k1 k2; have Q5x := Q4.out.1.bod k1 k2; obtain ⟨us, u1, u2, u3⟩ := Q4.out.1.ob; have T5x := gb_keep k2 u2 T4.out (by decide); obtain ⟨v5a, v5c, hv5⟩ := Q5x.ob.form; subst hv5; have T6 : Hid ((w5.setCell ⟨w.heap.size + 1, 1, none⟩ (.slice v5a (bs ++ bs2).length v5c)).heap[w.heap.size + 1]? = some (.cells #[.slice v3a mm v3c, .slice v5a (bs ++ bs2).length v5c, .int .i64 0] 41 (0, 0))) := (box_set T5x).2.1 _; have Q6 : Hid (QB w R p2 s2 hv2 held2 0 (.slice v3a mm v3c) (met ++ met2) (.slice v5a (bs ++ bs2).length v5c) (bs ++ bs2) (w5.setCell ⟨w.heap.size + 1, 1, none⟩ (.slice v5a (bs ++ bs2).length v5c))) := Q5x.set 1 _; obtain ⟨x0, x1, x2, xf⟩ := box_cell T5x; have xf1 := xf 1; have xf2 := xf 2; clear k1 k2 Q5x T5x xf z0 z1 z2 zf0 zf1 u1 u2 u3; generalize hbb : (bs ++ bs2).length = bb at *))
              go_roundw
              case rel => exact ⟨k + 1, at' + (l.length - at'), p2, s2, hv2, held2, _, met ++ met2, _, bs ++ bs2, by omega, by omega, by go_num, by go_num, Q6.out, RZ.out.2, RZ.out.1, T6.out, fun e => by omega, by rw [List.length_append, List.length_append]; omega⟩
              case measure => (simp [intOf] <;> omega)
            · have hne : (er != 0) = true := by simpa using her
              go_wp2_with (first
                | (at_builtin; refine append_hellos rfl _ _ rfl rfl Q2.out.1.om rfl Q2.out.2.1 Q2.out.1.sz (by omega) ?_; intro v3 w3 k1 k2; have Q3x := Q2.out.1.met k1 k2; have OB3x := Q2.out.2.2.tag k2 Q2.out.1.om.1; have T3x := gb_keep k2 Q2.out.1.om.1 T2.out (by decide); obtain ⟨v3a, v3c, hv3⟩ := Q3x.om.form; subst hv3; have T4 : Hid ((w3.setCell ⟨w.heap.size + 1, 0, none⟩ (.slice v3a (met ++ met2).length v3c)).heap[w.heap.size + 1]? = some (.cells #[.slice v3a (met ++ met2).length v3c, .slice ba bs.length bc', .int .i64 0] 41 (0, 0))) := (box_set T3x).1 _; have Q4 : Hid (QB w R p2 s2 hv2 held2 er (.slice v3a (met ++ met2).length v3c) (met ++ met2) (.slice ba bs.length bc') bs (w3.setCell ⟨w.heap.size + 1, 0, none⟩ (.slice v3a (met ++ met2).length v3c)) ∧ OBs (w.heap.size + 2) (fun g => w.heap.size + 2 ≤ g ∧ hv2.ownBlock ≠ some g) (w3.setCell ⟨w.heap.size + 1, 0, none⟩ (.slice v3a (met ++ met2).length v3c)) (.slice ba bs.length bc') bs (.slice b2a bs2.length b2c) bs2) := ⟨Q3x.set 0 _, OB3x.keep (fun k h1 _ => setCell_other (by omega)) (fun _ x => x.1)⟩; obtain ⟨z0, z1, z2, zf⟩ := box_cell T3x; have zf0 := zf 0; have zf1 := zf 1; clear k1 k2 Q3x OB3x T3x zf y0 y1 y2 yf0; generalize hmm : (met ++ met2).length = mm at *)
                | (at_builtin; obtain ⟨MM, OA, OC⟩ := Q4.out.2; refine append_bodies rfl _ _ rfl rfl OA rfl OC (fun _ x => x.1) (fun _ x => x.1) (fun _ x y => absurd x.2 (by have := y.2; omega)) Q4.out.1.sz (by omega) ?_; clear OA OC MM; intro v5 w5 k1 k2; have Q5x := Q4.out.1.bod k1 k2; obtain ⟨us, u1, u2, u3⟩ := Q4.out.1.ob; have T5x := gb_keep k2 u2 T4.out (by decide); obtain ⟨v5a, v5c, hv5⟩ := Q5x.ob.form; subst hv5; have T6 : Hid ((w5.setCell ⟨w.heap.size + 1, 1, none⟩ (.slice v5a (bs ++ bs2).length v5c)).heap[w.heap.size + 1]? = some (.cells #[.slice v3a mm v3c, .slice v5a (bs ++ bs2).length v5c, .int .i64 0] 41 (0, 0))) := (box_set T5x).2.1 _; have Q6 : Hid (QB w R p2 s2 hv2 held2 er (.slice v3a mm v3c) (met ++ met2) (.slice v5a (bs ++ bs2).length v5c) (bs ++ bs2) (w5.setCell ⟨w.heap.size + 1, 1, none⟩ (.slice v5a (bs ++ bs2).length v5c))) := Q5x.set 1 _; obtain ⟨x0, x1, x2, xf⟩ := box_cell T5x; have xf1 := xf 1; have xf2 := xf 2; have T7 : Hid (((w5.setCell ⟨w.heap.size + 1, 1, none⟩ (.slice v5a (bs ++ bs2).length v5c)).setCell ⟨w.heap.size + 1, 2, none⟩ (.int .i64 er)).heap[w.heap.size + 1]? = some (.cells #[.slice v3a mm v3c, .slice v5a (bs ++ bs2).length v5c, .int .i64 er] 41 (0, 0))) := (box_set T6.out).2.2 _; have Q7 : Hid (QB w R p2 s2 hv2 held2 er (.slice v3a mm v3c) (met ++ met2) (.slice v5a (bs ++ bs2).length v5c) (bs ++ bs2) ((w5.setCell ⟨w.heap.size + 1, 1, none⟩ (.slice v5a (bs ++ bs2).length v5c)).setCell ⟨w.heap.size + 1, 2, none⟩ (.int .i64 er))) := Q6.out.set 2 _; have hi3 := info_told (.slice v3a mm v3c) (.slice v5a (bs ++ bs2).length v5c) (.int .i64 er); have hone : (#[Value.slice v3a mm v3c, .slice v5a (bs ++ bs2).length v5c, .int .i64 er]).all (·.oneCell') = true := one3 _ _ _ _ _ _ _; clear k1 k2 Q5x T5x xf z0 z1 z2 zf0 zf1 u1 u2 u3; generalize hbb : (bs ++ bs2).length = bb at *)
                | (refine wpList_load_row rfl 41 _ rfl (w.heap.size + 1) rfl 41 #[.slice v3a mm v3c, .slice v5a bb v5c, .int .i64 er] (0, 0) _ T7.out Try.underlying41 rfl hi3 ?_)
                | (refine wpList_store_row rfl 41 _ _ rfl w.heap.size #[.slice v3a mm v3c, .slice v5a bb v5c, .int .i64 er] rfl rfl 41 _ Q7.out.t6 hi3 rfl hone ?_))
              have HO : QO w R p0 l (.slice v3a mm v3c) (.slice v5a bb v5c) er (met ++ met2) (bs ++ bs2) h2 (r2 ++ l.drop (at' + (l.length - at'))) p2 s2 held2 hv2 _ := Q7.out.out (by
                have := RD2.out.1.more (by omega) (l.drop (at' + (l.length - at')))
                rwa [List.take_append_drop] at this) (fun e => absurd e (by omega)) RD2.out.2.2.1 RD2.out.2.2.2 #[.slice v3a mm v3c, .slice v5a bb v5c, .int .i64 er]
              exact bodyPost_ret (results_cell_row (P := Try.prog) Try.results10 _ _ w.heap.size 41 #[.slice v3a mm v3c, .slice v5a bb v5c, .int .i64 er] (0, 0) _ rfl (setRow_heap _ _ _ _ _ _ Q7.out.t6) Try.underlying41 rfl hi3) rfl ⟨_, _, _, _, _, _, _, _, _, _, _, rfl, HO⟩
end Go.Proofs.Ytmfeelkjbpjhdaa
