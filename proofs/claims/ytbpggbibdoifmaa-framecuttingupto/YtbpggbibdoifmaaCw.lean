import Derived.Test.YtbpggbibdoifmaaCu
namespace Go.Proofs.Ytbpggbibdoifmaa
open Go.RowKit
def p0 (h : Bool) : Nat := if h then 2 else 0
theorem p0_two (h : Bool) : (p0 h == 2) = h := by cases h <;> rfl
/-- a told answer is laid into a box -/
theorem box_told (w : World) (a b : Value) (e : Int) : (((w.alloc (.cells #[.slice none 0 0, .slice none 0 0, .int .i64 0] 36)).setRow w.heap.size #[a, b, .int .i64 e]).heap[w.heap.size]? = some (.cells #[a, b, .int .i64 e] 36 (0, 0))) ∧ Below w.heap.size w ((w.alloc (.cells #[.slice none 0 0, .slice none 0 0, .int .i64 0] 36)).setRow w.heap.size #[a, b, .int .i64 e]) ∧ w.heap.size < ((w.alloc (.cells #[.slice none 0 0, .slice none 0 0, .int .i64 0] 36)).setRow w.heap.size #[a, b, .int .i64 e]).heap.size :=
  ⟨heapSetRow _ _ _ _ _ (heapNew _ _), belowSetRow ((Below.refl _ _).alloc (Nat.le_refl _) _) (Nat.le_refl _) _, by rw [setRow_size]; simp⟩
set_option maxHeartbeats 8000000 in
set_option maxRecDepth 100000 in
theorem cuttingLaw (hello : Bool) (v cv : Value) (l : List UInt8) (zs : List Int) (hl : l.length ≤ 1048576) (hzl : zs.length ≤ 1048576) (hz : ∀ z ∈ zs, -9223372036854775808 ≤ z ∧ z ≤ 9223372036854775807) (w : World) (hr : RB w v l) (hc : RI w cv zs) :
    Calls Try.prog 4 #[.bool hello, v, cv] w fun e w' => e = .returned (.bool true) ∧ Below w.heap.size w w' := by
  have HR : Hid (RB w v l) := hr
  have HC : Hid (RI w cv zs) := hc
  have HZ : Hid (∀ z ∈ zs, -9223372036854775808 ≤ z ∧ z ≤ 9223372036854775807) := hz
  obtain ⟨a, c, rfl, hle, _⟩ := hr
  obtain ⟨ca, cc, rfl, _, _⟩ := hc
  clear hz
  go_enter Try.func4, Try.ntmps4
  go_wp2_with fail
  refine (new w hello).mono ?_
  rintro e w1 ⟨rfl, k1, b1⟩
  have K1 : Hid (RK w1 w.heap.size (p0 hello) 0 (.slice none 0 0) 0 ∧ Below w.heap.size w w1 ∧ w.heap.size < w1.heap.size) := ⟨k1, b1, k1.lt⟩
  clear k1 b1
  go_wp2_with fail
  refine (new w1 hello).mono ?_
  rintro e w2 ⟨rfl, k2, b2⟩
  have K2 : Hid (RK w2 w.heap.size (p0 hello) 0 (.slice none 0 0) 0 ∧ RK w2 w1.heap.size (p0 hello) 0 (.slice none 0 0) 0 ∧ Below w.heap.size w w2 ∧ w.heap.size < w1.heap.size ∧ w1.heap.size < w2.heap.size) := ⟨(b2.block _ K1.out.2.2).trans K1.out.1, k2, K1.out.2.1.trans (b2.mono (Nat.le_of_lt K1.out.2.2)), K1.out.2.2, k2.lt⟩
  clear k2 b2 K1
  generalize hR1 : w.heap.size = R1 at *
  have HR1 : Hid (w.heap.size = R1) := hR1
  clear hR1
  generalize w1.heap.size = R2 at *
  have hp0 : p0 hello = 2 ∨ p0 hello = 0 := by cases hello; exact .inr rfl; exact .inl rfl
  have HP0 : Hid (p0 hello = 2 ∨ p0 hello = 0) := hp0
  clear hp0
  have B2 : Hid (Below w.heap.size w w2) := by rw [HR1.out]; exact K2.out.2.2.1
  go_wp2_with fail
  refine (pushed w2 R1 (p0 hello) _ _ l zs HP0.out K2.out.1 (HR.out.keep B2.out) (HC.out.keepR B2.out (Nat.le_of_eq HR1.out)) (by omega) hzl HZ.out).mono ?_
  rintro e w3 ⟨mv1, bv1, why, met, bs, h1, r1, p1, s1, held1, hv1, rfl, QO1⟩
  have Q1 : Hid (QO w2 R1 (p0 hello) l mv1 bv1 why met bs h1 r1 p1 s1 held1 hv1 w3) := QO1
  obtain ⟨ma1, mc1, hmf1⟩ := QO1.om.form
  obtain ⟨ba1, bc1, hbf1⟩ := QO1.ob.form
  have hi1 := info_told mv1 bv1 (.int .i64 why)
  have hone1 : (#[mv1, bv1, Value.int .i64 why]).all (·.oneCell') = true := by rw [hmf1, hbf1]; exact one3 _ _ _ _ _ _ _
  clear QO1 hmf1 hbf1
  go_wp2_with (first | (refine wpList_store_row rfl 36 _ _ rfl w3.heap.size #[mv1, bv1, .int .i64 why] rfl rfl 36 #[.slice none 0 0, .slice none 0 0, .int .i64 0] (heapNew w3 _) hi1 rfl hone1 ?_))
  obtain ⟨g4, b4, s4⟩ := box_told w3 mv1 bv1 why
  generalize (w3.alloc (.cells #[.slice none 0 0, .slice none 0 0, .int .i64 0] 36)).setRow w3.heap.size #[mv1, bv1, .int .i64 why] = w4 at *
  have B3 : Hid (Below w.heap.size w w3 ∧ R1 < w2.heap.size ∧ R2 < w2.heap.size ∧ w2.heap.size ≤ w3.heap.size) := ⟨below_of B2.out Q1.out.fr (Nat.le_of_eq HR1.out), by have := K2.out.2.2.2; omega, K2.out.2.2.2.2, Q1.out.fr.size⟩
  have K4 : Hid (RK w4 R2 (p0 hello) 0 (.slice none 0 0) 0 ∧ Below w.heap.size w w4) := by
    have e1 : RK w3 R2 (p0 hello) 0 (.slice none 0 0) 0 := (Q1.out.fr.block R2 K2.out.2.1.lt (by have := K2.out.2.2.2; omega)).trans K2.out.2.1
    exact ⟨(b4.block R2 e1.lt).trans e1, B3.out.1.trans (b4.mono B3.out.1.size)⟩
  have X4 : Hid (w4.heap[w3.heap.size]? = some (.cells #[mv1, bv1, .int .i64 why] 36 (0, 0)) ∧ w3.heap.size < w4.heap.size ∧ Below w3.heap.size w3 w4) := ⟨g4, s4, b4⟩
  clear g4 b4 s4
  generalize hN1 : w3.heap.size = N1 at *
  have HN1 : Hid (w3.heap.size = N1) := hN1
  clear hN1
  refine (pushed w4 R2 (p0 hello) _ (.slice none 0 0) l [] HP0.out K4.out.1 (HR.out.keep K4.out.2) (RJ.nil _ _) (by omega) (by simp) (by simp)).mono ?_
  rintro e w5 ⟨mv2, bv2, why2, met2, bs2, h2, r2, p2, s2, held2, hv2, rfl, QO2⟩
  obtain ⟨rfl, rfl, rfl, rfl, rfl⟩ := Q1.out.rd.det QO2.rd
  have Q2 : Hid (QO w4 R2 (p0 hello) l mv2 bv2 why2 met2 bs2 h2 r2 p2 s2 held2 hv2 w5) := QO2
  obtain ⟨ma2, mc2, hmf2⟩ := QO2.om.form
  obtain ⟨ba2, bc2, hbf2⟩ := QO2.ob.form
  have hi2 := info_told mv2 bv2 (.int .i64 why2)
  have hone2 : (#[mv2, bv2, Value.int .i64 why2]).all (·.oneCell') = true := by rw [hmf2, hbf2]; exact one3 _ _ _ _ _ _ _
  obtain ⟨ma1, mc1, hmf1⟩ := Q1.out.om.form
  obtain ⟨ba1, bc1, hbf1⟩ := Q1.out.ob.form
  clear QO2
  have C5 : Hid (CB w R1 R2 N1 w5.heap.size l mv1 bv1 mv2 bv2 why2 met2 bs2 r2 (.slice a l.length c) ((w5.alloc (.cells #[.slice none 0 0, .slice none 0 0, .int .i64 0] 36)).setRow w5.heap.size #[mv2, bv2, .int .i64 why2])) := by
    obtain ⟨g6, b6, _⟩ := box_told w5 mv2 bv2 why2
    have hR := B3.out.2
    have hx4 := X4.out
    rw [← HN1.out] at hx4
    have fr := Q2.out.fr
    have hK4 := K4.out.1
    have om1 : OM (w2.heap.size + 2) w5 mv1 met2 := (Q1.out.om.keepB hx4.2.2).fr fr (by omega)
    have ob1 := ((Q1.out.ob.keep (fun k _ h => hx4.2.2.block k h) (fun _ x => x.1) (fun _ x _ => x)).fr fr (by omega) (fun _ x => x.1)).rbs
    have rq1 : RQ w5 R1 why2 r2 := (Q1.out.rq.keep hx4.2.2).fr fr (by have := K2.out.2.2.2; omega) ⟨_, _, _, _, hK4⟩
    have x1 : w5.heap[N1]? = some (.cells #[mv1, bv1, .int .i64 why2] 36 (0, 0)) := (fr.block N1 (by have := X4.out.2.1; exact this) (by have := HN1.out; omega)).trans X4.out.1
    have bel5 : Below w.heap.size w w5 := below_of K4.out.2 fr (by have := HR1.out; have := K2.out.2.2.2; omega)
    exact ⟨(b6.block N1 (Array.getElem?_eq_some_iff.1 x1).1).trans x1, g6, ⟨_, om1.keepB b6⟩, ⟨_, Q2.out.om.keepB b6⟩, ob1.keep b6, Q2.out.ob.rbs.keep b6, rq1.keep b6, Q2.out.rq.keep b6, (HR.out.keep bel5).keep b6, bel5.trans (b6.mono bel5.size)⟩
  have RDD : Hid (Rd hello l met2 bs2 h2 r2 why2 ∧ met2.length ≤ 1 ∧ (∀ b ∈ bs2, b.length ≤ 140737488351232) ∧ bs2.length ≤ 140737488351232) := by
    have hrd := Q2.out.rd
    rw [p0_two] at hrd
    exact ⟨hrd, hrd.met1, fun b hb => by have := hrd.bounds b hb; omega, by have := (rd_len hrd).1; omega⟩
  clear Q1 Q2 B3 K4 X4 HN1 K2 B2 HC HZ
  subst hmf1 hbf1 hmf2 hbf2
  obtain ⟨y0, y1, y2, _⟩ := box_cell C5.out.x1
  obtain ⟨z0, z1, z2, _⟩ := box_cell C5.out.x2
  go_wp2_with (first | (refine wpList_store_row rfl 36 _ _ rfl w5.heap.size _ rfl rfl 36 #[.slice none 0 0, .slice none 0 0, .int .i64 0] (heapNew w5 _) hi2 rfl hone2 ?_))
  obtain ⟨Bm1, om1⟩ := C5.out.m1
  obtain ⟨Bm2, om2⟩ := C5.out.m2
  refine (sameHellos _ _ met2 Bm1 Bm2 _ om1 om2 RDD.out.2.1).mono ?_
  rintro e w7 ⟨rfl, n7, rfl⟩
  have C7 : Hid (CB w R1 R2 N1 w5.heap.size l _ _ _ _ why2 met2 bs2 r2 (.slice a l.length c) _) := C5.out.keep (belowDrew _ n7)
  clear y0 y1 y2 z0 z1 z2 om1 om2 C5 hi1 hi2 hone1 hone2
  generalize World.drewN _ n7 = w7 at *
  generalize w5.heap.size = N2 at *
  obtain ⟨y0, y1, y2, _⟩ := box_cell C7.out.x1
  obtain ⟨z0, z1, z2, _⟩ := box_cell C7.out.x2
  go_wp2_with fail
  refine (sameBodies _ _ bs2 _ RDD.out.2.2.2 RDD.out.2.2.1 C7.out.b1 C7.out.b2).mono ?_
  rintro e w8 ⟨rfl, n8, rfl⟩
  have C8 : Hid (CB w R1 R2 N1 N2 l _ _ _ _ why2 met2 bs2 r2 (.slice a l.length c) (w7.drewN n8)) := C7.out.keep (belowDrew _ n8)
  clear y0 y1 y2 z0 z1 z2 C7
  generalize w7.drewN n8 = w8 at *
  obtain ⟨y0, y1, y2, _⟩ := box_cell C8.out.x1
  have HQ1 : Hid (∀ n, Calls Try.prog 17 #[.pointer (some ⟨R1, 0, none⟩)] (w8.drewN n) fun e w' => e = .returned (.int .i64 ((wt why2 r2 : Nat) : Int)) ∧ w' = w8.drewN n) := fun n => heldQ (C8.out.r1.keep (belowDrew _ _))
  have HQ2 : Hid (∀ n, Calls Try.prog 17 #[.pointer (some ⟨R2, 0, none⟩)] (w8.drewN n) fun e w' => e = .returned (.int .i64 ((wt why2 r2 : Nat) : Int)) ∧ w' = w8.drewN n) := fun n => heldQ (C8.out.r2.keep (belowDrew _ _))
  have FQ1 : Hid (∀ n, Calls Try.prog 18 #[.pointer (some ⟨R1, 0, none⟩)] (w8.drewN n) fun e w' => e = .returned (.int .i64 why2) ∧ w' = w8.drewN n) := fun n => faultQ (C8.out.r1.keep (belowDrew _ _))
  have FQ2 : Hid (∀ n, Calls Try.prog 18 #[.pointer (some ⟨R2, 0, none⟩)] (w8.drewN n) fun e w' => e = .returned (.int .i64 why2) ∧ w' = w8.drewN n) := fun n => faultQ (C8.out.r2.keep (belowDrew _ _))
  go_wp2
  go_quiet ((first | (go_at_call 17; with_reducible exact Calls.quiet_of_same (HQ1.out _)) | (go_at_call 17; with_reducible exact Calls.quiet_of_same (HQ2.out _)) | (go_at_call 18; with_reducible exact Calls.quiet_of_same (FQ1.out _)) | (go_at_call 18; with_reducible exact Calls.quiet_of_same (FQ2.out _))))
  have C9 : Hid (CB w R1 R2 N1 N2 l _ _ _ _ why2 met2 bs2 r2 (.slice a l.length c) (w8.drewN nq)) := C8.out.keep (belowDrew _ nq)
  clear HQ1 HQ2 FQ1 FQ2 C8 y0 y1 y2
  generalize w8.drewN nq = w9 at *
  cases hello
  · have RDF : Hid (Rd false l [] bs2 false r2 why2) := by
      have h := RDD.out.1
      obtain ⟨f1, f2, _⟩ := h.frames rfl
      rw [f1, f2] at h
      exact h
    -- Split and the end
    have SP : Hid (Calls Try.prog 10 #[.slice a l.length c] w9 fun e w' => ∃ bv bs er, e = .returned (.tuple #[bv, .int .i64 (sz bs : Nat), .int .i64 er]) ∧ (∃ r, Rd false l [] bs false r er) ∧ OB w9.heap.size (fun g => w9.heap.size ≤ g) w' bv bs ∧ Below w9.heap.size w9 w') := splitP _ l (by omega) w9 C9.out.rb
    skip
    go_wp2_with fail
    refine SP.out.mono ?_
    rintro e wA ⟨bvA, bsA, erA, rfl, ⟨rA, hrdA⟩, obA, bA⟩
    obtain ⟨_, rfl, _, rfl, rfl⟩ := RDF.out.det hrdA
    have CA : Hid (CB w R1 R2 N1 N2 l _ _ _ _ erA met2 bsA rA (.slice a l.length c) wA ∧ RBS wA bvA bsA) := ⟨C9.out.keep bA, obA.rbs⟩
    obtain ⟨baA, bcA, rfl⟩ := obA.form
    have hszA : l.length = sz bsA + rA.length := (hrdA.frames rfl).2.2.1
    clear hrdA obA bA SP
    obtain ⟨y0, y1, y2, _⟩ := box_cell CA.out.1.x1
    go_wp2_with fail
    refine (sameBodies _ _ bsA _ RDD.out.2.2.2 RDD.out.2.2.1 CA.out.1.b1 CA.out.2).mono ?_
    rintro e wB ⟨rfl, nB, rfl⟩
    have CB' : Hid (CB w R1 R2 N1 N2 l _ _ _ _ erA met2 bsA rA (.slice a l.length c) (wA.drewN nB)) := CA.out.1.keep (belowDrew _ nB)
    clear y0 y1 y2 CA
    generalize wA.drewN nB = wB at *
    by_cases hwhy : erA = 0
    · have HQ : Hid (Calls Try.prog 17 #[.pointer (some ⟨R1, 0, none⟩)] wB fun e w' => e = .returned (.int .i64 ((rA.length : Nat) : Int)) ∧ w' = wB) := by
        have := heldQ CB'.out.r1
        rwa [show wt erA rA = rA.length by unfold wt; rw [if_pos hwhy]] at this
      have hfin : (l.length : Int) - (sz bsA : Int) = (rA.length : Int) := by omega
      have HB : Hid (Below w.heap.size w wB) := CB'.out.bel
      clear CB' RDD hszA
      subst hwhy
      go_wp2_with fail
      refine HQ.out.mono ?_
      rintro e wC ⟨rfl, rfl⟩
      go_wp2
      go_ret
      exact ⟨ret_bool (by simp <;> omega), HB.out⟩
    · have hne : (erA != 0) = true := by simpa using hwhy
      have HB : Hid (Below w.heap.size w wB) := CB'.out.bel
      clear CB' RDD hszA
      go_wp2
      go_ret
      exact ⟨rfl, HB.out⟩
  · skip
    by_cases hs : sok l 0 = true
    · by_cases h68 : l.length < 68
      · have e1 := (mt_few hs h68).1
        have MM : Hid (Calls Try.prog 19 #[.slice a l.length c] w9 fun e w' => e = .returned (.tuple #[.agg (bc (mtH l)), .int .i64 101]) ∧ Below w9.heap.size w9 w') := by
          have := meet (.slice a l.length c) l (by omega) w9 C9.out.rb
          rwa [e1] at this
        have HML : Hid ((mtH l).length = 48) := mt_len l
        obtain ⟨rfl, rfl, _, q4, rfl⟩ := (Rd.few l hs h68).det RDD.out.1
        have HQ4 : Hid (r2 = l) := q4
        clear e1 q4 RDD
        generalize mtH l = mH at *
        have H68 : Hid (l.length < 68) := h68
        clear hs
        go_wp2_with fail
        refine MM.out.mono ?_
        rintro e wM ⟨rfl, bM⟩
        have CM : Hid (CB w R1 R2 N1 N2 l _ _ _ _ 0 [] [] r2 (.slice a l.length c) ((wM.alloc (.cells #[Value.int .u8 0, Value.int .u8 0, Value.int .u8 0, Value.int .u8 0, Value.int .u8 0, Value.int .u8 0, Value.int .u8 0, Value.int .u8 0, Value.int .u8 0, Value.int .u8 0, Value.int .u8 0, Value.int .u8 0, Value.int .u8 0, Value.int .u8 0, Value.int .u8 0, Value.int .u8 0, Value.int .u8 0, Value.int .u8 0, Value.int .u8 0, Value.int .u8 0, Value.int .u8 0, Value.int .u8 0, Value.int .u8 0, Value.int .u8 0, Value.int .u8 0, Value.int .u8 0, Value.int .u8 0, Value.int .u8 0, Value.int .u8 0, Value.int .u8 0, Value.int .u8 0, Value.int .u8 0, Value.int .u8 0, Value.int .u8 0, Value.int .u8 0, Value.int .u8 0, Value.int .u8 0, Value.int .u8 0, Value.int .u8 0, Value.int .u8 0, Value.int .u8 0, Value.int .u8 0, Value.int .u8 0, Value.int .u8 0, Value.int .u8 0, Value.int .u8 0, Value.int .u8 0, Value.int .u8 0] 44)).setRow wM.heap.size (bc mH))) := (C9.out.keep bM).keep (belowSetRow ((Below.refl _ _).alloc (Nat.le_refl _) _) (Nat.le_refl _) _)
        have hiH := info_hello HML.out
        have honeH := bc_one mH
        have hszH : (bc (zr 48)).size = (bc mH).size := by rw [bc_size, bc_size, zr_len]; exact HML.out.symm
        clear bM C9 MM
        obtain ⟨y0, y1, y2, _⟩ := box_cell CM.out.x1
        have HB : Hid (Below w.heap.size w ((wM.alloc (.cells #[Value.int .u8 0, Value.int .u8 0, Value.int .u8 0, Value.int .u8 0, Value.int .u8 0, Value.int .u8 0, Value.int .u8 0, Value.int .u8 0, Value.int .u8 0, Value.int .u8 0, Value.int .u8 0, Value.int .u8 0, Value.int .u8 0, Value.int .u8 0, Value.int .u8 0, Value.int .u8 0, Value.int .u8 0, Value.int .u8 0, Value.int .u8 0, Value.int .u8 0, Value.int .u8 0, Value.int .u8 0, Value.int .u8 0, Value.int .u8 0, Value.int .u8 0, Value.int .u8 0, Value.int .u8 0, Value.int .u8 0, Value.int .u8 0, Value.int .u8 0, Value.int .u8 0, Value.int .u8 0, Value.int .u8 0, Value.int .u8 0, Value.int .u8 0, Value.int .u8 0, Value.int .u8 0, Value.int .u8 0, Value.int .u8 0, Value.int .u8 0, Value.int .u8 0, Value.int .u8 0, Value.int .u8 0, Value.int .u8 0, Value.int .u8 0, Value.int .u8 0, Value.int .u8 0, Value.int .u8 0] 44)).setRow wM.heap.size (bc mH))) := CM.out.bel
        have HQ : Hid (∀ wx, wx = ((wM.alloc (.cells #[Value.int .u8 0, Value.int .u8 0, Value.int .u8 0, Value.int .u8 0, Value.int .u8 0, Value.int .u8 0, Value.int .u8 0, Value.int .u8 0, Value.int .u8 0, Value.int .u8 0, Value.int .u8 0, Value.int .u8 0, Value.int .u8 0, Value.int .u8 0, Value.int .u8 0, Value.int .u8 0, Value.int .u8 0, Value.int .u8 0, Value.int .u8 0, Value.int .u8 0, Value.int .u8 0, Value.int .u8 0, Value.int .u8 0, Value.int .u8 0, Value.int .u8 0, Value.int .u8 0, Value.int .u8 0, Value.int .u8 0, Value.int .u8 0, Value.int .u8 0, Value.int .u8 0, Value.int .u8 0, Value.int .u8 0, Value.int .u8 0, Value.int .u8 0, Value.int .u8 0, Value.int .u8 0, Value.int .u8 0, Value.int .u8 0, Value.int .u8 0, Value.int .u8 0, Value.int .u8 0, Value.int .u8 0, Value.int .u8 0, Value.int .u8 0, Value.int .u8 0, Value.int .u8 0, Value.int .u8 0] 44)).setRow wM.heap.size (bc mH)) → Calls Try.prog 17 #[.pointer (some ⟨R1, 0, none⟩)] wx fun e w' => e = .returned (.int .i64 ((l.length : Nat) : Int)) ∧ w' = wx) := fun wx e => by
          subst e
          have := heldQ CM.out.r1
          rwa [show wt 0 r2 = l.length by rw [HQ4.out]; rfl] at this
        clear CM
        go_wp2_with (first | (refine wpList_store_row rfl 44 _ _ rfl wM.heap.size (bc mH) rfl rfl 44 (bc (zr 48)) (heapNew wM _) hiH hszH honeH ?_))
        refine (HQ.out _ rfl).mono ?_
        rintro e wC ⟨rfl, rfl⟩
        go_wp2
        go_ret
        exact ⟨rfl, HB.out⟩
      · have h68' : 68 ≤ l.length := by omega
        obtain ⟨e1, e2⟩ := mt_yes hs h68'
        obtain ⟨hmet, RDx⟩ : met2 = [hel l] ∧ Rd false (l.drop 68) [] bs2 false r2 why2 := by
          have h := RDD.out.1
          cases h with
          | bad _ h1 => rw [hs] at h1; cases h1
          | few _ _ h1 => omega
          | hello _ met' _ _ _ _ _ _ y =>
            obtain ⟨f1, f2, _⟩ := y.frames rfl
            rw [f1, f2] at y
            exact ⟨by rw [f1], y⟩
        subst hmet
        have RDF : Hid (Rd false (l.drop 68) [] bs2 false r2 why2) := RDx
        clear RDx
        go_wp2_with fail
        refine (meet (.slice a l.length c) l (by omega) w9 C9.out.rb).mono ?_
        rintro e wM ⟨rfl, bM⟩
        rw [e1, e2]
        have CM : Hid (CB w R1 R2 N1 N2 l _ _ _ _ why2 [hel l] bs2 r2 (.slice a l.length c) ((wM.alloc (.cells #[Value.int .u8 0, Value.int .u8 0, Value.int .u8 0, Value.int .u8 0, Value.int .u8 0, Value.int .u8 0, Value.int .u8 0, Value.int .u8 0, Value.int .u8 0, Value.int .u8 0, Value.int .u8 0, Value.int .u8 0, Value.int .u8 0, Value.int .u8 0, Value.int .u8 0, Value.int .u8 0, Value.int .u8 0, Value.int .u8 0, Value.int .u8 0, Value.int .u8 0, Value.int .u8 0, Value.int .u8 0, Value.int .u8 0, Value.int .u8 0, Value.int .u8 0, Value.int .u8 0, Value.int .u8 0, Value.int .u8 0, Value.int .u8 0, Value.int .u8 0, Value.int .u8 0, Value.int .u8 0, Value.int .u8 0, Value.int .u8 0, Value.int .u8 0, Value.int .u8 0, Value.int .u8 0, Value.int .u8 0, Value.int .u8 0, Value.int .u8 0, Value.int .u8 0, Value.int .u8 0, Value.int .u8 0, Value.int .u8 0, Value.int .u8 0, Value.int .u8 0, Value.int .u8 0, Value.int .u8 0] 44)).setRow wM.heap.size (bc (hel l)))) := (C9.out.keep bM).keep (belowSetRow ((Below.refl _ _).alloc (Nat.le_refl _) _) (Nat.le_refl _) _)
        have hh : Hid (((wM.alloc (.cells #[Value.int .u8 0, Value.int .u8 0, Value.int .u8 0, Value.int .u8 0, Value.int .u8 0, Value.int .u8 0, Value.int .u8 0, Value.int .u8 0, Value.int .u8 0, Value.int .u8 0, Value.int .u8 0, Value.int .u8 0, Value.int .u8 0, Value.int .u8 0, Value.int .u8 0, Value.int .u8 0, Value.int .u8 0, Value.int .u8 0, Value.int .u8 0, Value.int .u8 0, Value.int .u8 0, Value.int .u8 0, Value.int .u8 0, Value.int .u8 0, Value.int .u8 0, Value.int .u8 0, Value.int .u8 0, Value.int .u8 0, Value.int .u8 0, Value.int .u8 0, Value.int .u8 0, Value.int .u8 0, Value.int .u8 0, Value.int .u8 0, Value.int .u8 0, Value.int .u8 0, Value.int .u8 0, Value.int .u8 0, Value.int .u8 0, Value.int .u8 0, Value.int .u8 0, Value.int .u8 0, Value.int .u8 0, Value.int .u8 0, Value.int .u8 0, Value.int .u8 0, Value.int .u8 0, Value.int .u8 0] 44)).setRow wM.heap.size (bc (hel l))).heap[wM.heap.size]? = some (.cells (bc (hel l)) 44 (0, 0))) := heapSetRow _ _ _ _ _ (heapNew wM _)
        have hiH := info_hello (hb := hel l) (hel_len l h68')
        have honeH := bc_one (hel l)
        have hszH : (bc (zr 48)).size = (bc (hel l)).size := by rw [bc_size, bc_size, zr_len]; exact (hel_len l h68').symm
        clear bM C9
        obtain ⟨y0, y1, y2, _⟩ := box_cell CM.out.x1
        go_wp2_with (first | (refine wpList_store_row rfl 44 _ _ rfl wM.heap.size (bc (hel l)) rfl rfl 44 (bc (zr 48)) (heapNew wM _) hiH hszH honeH ?_))
        generalize hwN : (wM.alloc (.cells #[Value.int .u8 0, Value.int .u8 0, Value.int .u8 0, Value.int .u8 0, Value.int .u8 0, Value.int .u8 0, Value.int .u8 0, Value.int .u8 0, Value.int .u8 0, Value.int .u8 0, Value.int .u8 0, Value.int .u8 0, Value.int .u8 0, Value.int .u8 0, Value.int .u8 0, Value.int .u8 0, Value.int .u8 0, Value.int .u8 0, Value.int .u8 0, Value.int .u8 0, Value.int .u8 0, Value.int .u8 0, Value.int .u8 0, Value.int .u8 0, Value.int .u8 0, Value.int .u8 0, Value.int .u8 0, Value.int .u8 0, Value.int .u8 0, Value.int .u8 0, Value.int .u8 0, Value.int .u8 0, Value.int .u8 0, Value.int .u8 0, Value.int .u8 0, Value.int .u8 0, Value.int .u8 0, Value.int .u8 0, Value.int .u8 0, Value.int .u8 0, Value.int .u8 0, Value.int .u8 0, Value.int .u8 0, Value.int .u8 0, Value.int .u8 0, Value.int .u8 0, Value.int .u8 0, Value.int .u8 0] 44)).setRow wM.heap.size (bc (hel l)) = wN at *
        clear hwN
        obtain ⟨Bm, om⟩ := CM.out.m1
        obtain ⟨gm, cm, em, hl48, _, rgm⟩ := om.one
        simp only [List.length_singleton, Value.slice.injEq, true_and] at em
        obtain ⟨rfl, rfl⟩ := em
        have RGM : Hid (∀ n, (wN.drewN n).rangeAt gm 0 (Lib.byteCells (hel l))) := fun n => rgm
        have RGH : Hid (∀ n, (wN.drewN n).rangeAt wM.heap.size 0 (Lib.byteCells (hel l))) := fun n j y hj => by
          have hj' : j < (hel l).length := by
            have := (List.getElem?_eq_some_iff.1 hj).1
            rwa [bcl_len] at this
          have := cell_bc hh.out j hj'
          rw [Nat.zero_add]
          show wN.cell? _ = _
          rw [this, getD_byt _ j hj']
          simpa [Lib.byteCells, List.getElem?_eq_getElem hj'] using hj
        have HL48 : Hid ((hel l).length = 48) := hl48
        have hgd : Try.prog.eqGuardType Try.prog.depth 44 = false := by kernel_rfl
        have heq := fun u => neq_hello u (hel l) hl48
        clear hh rgm om hl48 hiH honeH hszH
        refine wp_region_quiet_lit (by kernel_rfl) (by kernel_rfl) ?_
        quiet_step (fail)
        quiet_step (fail)
        quiet_step (fail)
        quiet_step (fail)
        quiet_step (fail)
        quiet_step (fail)
        quiet_step (fail)
        quiet_step (fail)
        refine wpQuiet_load rfl _ rfl gm 0 rfl (hel l) (fun w' hw' => by obtain ⟨m, rfl⟩ := hw'; exact RGM.out _) HL48.out ?_
        refine wpQuiet_load rfl _ rfl wM.heap.size 0 rfl (hel l) (fun w' hw' => by obtain ⟨m, rfl⟩ := hw'; exact RGH.out _) HL48.out ?_
        quiet_step (fail)
        quiet_step (fail)
        refine wpQuiet_nil ?_
        intro _ hw'
        obtain ⟨nz, hw''⟩ := hw'
        subst hw''
        have CN : Hid (CB w R1 R2 N1 N2 l _ _ _ _ why2 [hel l] bs2 r2 (.slice a l.length c) (wN.drewN nz)) := CM.out.keep (belowDrew _ nz)
        clear CM RGM RGH HL48 hgd heq y0 y1 y2 e1 e2
        generalize wN.drewN nz = wN at *
        have i1 : (68 : Int) ≤ (l.length : Int) := by omega
        by_cases hc68 : c = 68
        · have hcT : (c = 68) = True := eq_true hc68
          have RBL : Hid (RB wN (.slice a (l.length - 68) (c - 68)) (l.drop 68)) := by
            have := CN.out.rb.cut (m := 68) (n := l.length) h68' (Nat.le_refl _)
            rw [if_pos hc68, List.take_of_length_le (by rw [List.length_drop]; omega)] at this
            exact this
          have HC68 : Hid (c = 68) := hc68
          clear hc68
          -- Split and the end
          have SP : Hid (Calls Try.prog 10 #[.slice a (l.length - 68) (c - 68)] wN fun e w' => ∃ bv bs er, e = .returned (.tuple #[bv, .int .i64 (sz bs : Nat), .int .i64 er]) ∧ (∃ r, Rd false (l.drop 68) [] bs false r er) ∧ OB wN.heap.size (fun g => wN.heap.size ≤ g) w' bv bs ∧ Below wN.heap.size wN w') := splitP _ (l.drop 68) (by rw [List.length_drop]; omega) wN RBL.out
          skip
          go_wp2_with fail
          refine SP.out.mono ?_
          rintro e wA ⟨bvA, bsA, erA, rfl, ⟨rA, hrdA⟩, obA, bA⟩
          obtain ⟨_, rfl, _, rfl, rfl⟩ := RDF.out.det hrdA
          have CA : Hid (CB w R1 R2 N1 N2 l _ _ _ _ erA [hel l] bsA rA (.slice a l.length c) wA ∧ RBS wA bvA bsA) := ⟨CN.out.keep bA, obA.rbs⟩
          obtain ⟨baA, bcA, rfl⟩ := obA.form
          have hszA : (l.drop 68).length = sz bsA + rA.length := (hrdA.frames rfl).2.2.1
          clear hrdA obA bA SP
          obtain ⟨y0, y1, y2, _⟩ := box_cell CA.out.1.x1
          go_wp2_with fail
          refine (sameBodies _ _ bsA _ RDD.out.2.2.2 RDD.out.2.2.1 CA.out.1.b1 CA.out.2).mono ?_
          rintro e wB ⟨rfl, nB, rfl⟩
          have CB' : Hid (CB w R1 R2 N1 N2 l _ _ _ _ erA [hel l] bsA rA (.slice a l.length c) (wA.drewN nB)) := CA.out.1.keep (belowDrew _ nB)
          clear y0 y1 y2 CA
          generalize wA.drewN nB = wB at *
          by_cases hwhy : erA = 0
          · have HQ : Hid (Calls Try.prog 17 #[.pointer (some ⟨R1, 0, none⟩)] wB fun e w' => e = .returned (.int .i64 ((rA.length : Nat) : Int)) ∧ w' = wB) := by
              have := heldQ CB'.out.r1
              rwa [show wt erA rA = rA.length by unfold wt; rw [if_pos hwhy]] at this
            have hfin : ((l.length - 68 : Nat) : Int) - (sz bsA : Int) = (rA.length : Int) := by rw [List.length_drop] at hszA; omega
            have HB : Hid (Below w.heap.size w wB) := CB'.out.bel
            clear CB' RDD hszA
            subst hwhy
            go_wp2_with fail
            refine HQ.out.mono ?_
            rintro e wC ⟨rfl, rfl⟩
            go_wp2
            go_ret
            exact ⟨ret_bool (by simp <;> omega), HB.out⟩
          · have hne : (erA != 0) = true := by simpa using hwhy
            have HB : Hid (Below w.heap.size w wB) := CB'.out.bel
            clear CB' RDD hszA
            go_wp2
            go_ret
            exact ⟨rfl, HB.out⟩
        · have RBL : Hid (RB wN (.slice (a.map (·.add 68)) (l.length - 68) (c - 68)) (l.drop 68)) := by
            have := CN.out.rb.cut (m := 68) (n := l.length) h68' (Nat.le_refl _)
            rw [if_neg hc68, List.take_of_length_le (by rw [List.length_drop]; omega)] at this
            exact this
          -- Split and the end
          have SP : Hid (Calls Try.prog 10 #[.slice (a.map (·.add 68)) (l.length - 68) (c - 68)] wN fun e w' => ∃ bv bs er, e = .returned (.tuple #[bv, .int .i64 (sz bs : Nat), .int .i64 er]) ∧ (∃ r, Rd false (l.drop 68) [] bs false r er) ∧ OB wN.heap.size (fun g => wN.heap.size ≤ g) w' bv bs ∧ Below wN.heap.size wN w') := splitP _ (l.drop 68) (by rw [List.length_drop]; omega) wN RBL.out
          skip
          go_wp2_with fail
          refine SP.out.mono ?_
          rintro e wA ⟨bvA, bsA, erA, rfl, ⟨rA, hrdA⟩, obA, bA⟩
          obtain ⟨_, rfl, _, rfl, rfl⟩ := RDF.out.det hrdA
          have CA : Hid (CB w R1 R2 N1 N2 l _ _ _ _ erA [hel l] bsA rA (.slice a l.length c) wA ∧ RBS wA bvA bsA) := ⟨CN.out.keep bA, obA.rbs⟩
          obtain ⟨baA, bcA, rfl⟩ := obA.form
          have hszA : (l.drop 68).length = sz bsA + rA.length := (hrdA.frames rfl).2.2.1
          clear hrdA obA bA SP
          obtain ⟨y0, y1, y2, _⟩ := box_cell CA.out.1.x1
          go_wp2_with fail
          refine (sameBodies _ _ bsA _ RDD.out.2.2.2 RDD.out.2.2.1 CA.out.1.b1 CA.out.2).mono ?_
          rintro e wB ⟨rfl, nB, rfl⟩
          have CB' : Hid (CB w R1 R2 N1 N2 l _ _ _ _ erA [hel l] bsA rA (.slice a l.length c) (wA.drewN nB)) := CA.out.1.keep (belowDrew _ nB)
          clear y0 y1 y2 CA
          generalize wA.drewN nB = wB at *
          by_cases hwhy : erA = 0
          · have HQ : Hid (Calls Try.prog 17 #[.pointer (some ⟨R1, 0, none⟩)] wB fun e w' => e = .returned (.int .i64 ((rA.length : Nat) : Int)) ∧ w' = wB) := by
              have := heldQ CB'.out.r1
              rwa [show wt erA rA = rA.length by unfold wt; rw [if_pos hwhy]] at this
            have hfin : ((l.length - 68 : Nat) : Int) - (sz bsA : Int) = (rA.length : Int) := by rw [List.length_drop] at hszA; omega
            have HB : Hid (Below w.heap.size w wB) := CB'.out.bel
            clear CB' RDD hszA
            subst hwhy
            go_wp2_with fail
            refine HQ.out.mono ?_
            rintro e wC ⟨rfl, rfl⟩
            go_wp2
            go_ret
            exact ⟨ret_bool (by simp <;> omega), HB.out⟩
          · have hne : (erA != 0) = true := by simpa using hwhy
            have HB : Hid (Below w.heap.size w wB) := CB'.out.bel
            clear CB' RDD hszA
            go_wp2
            go_ret
            exact ⟨rfl, HB.out⟩
    · have hs' : sok l 0 = false := by simpa using hs
      have e1 := (mt_no hs').1
      have MM : Hid (Calls Try.prog 19 #[.slice a l.length c] w9 fun e w' => e = .returned (.tuple #[.agg (bc (mtH l)), .int .i64 100]) ∧ Below w9.heap.size w9 w') := by
        have := meet (.slice a l.length c) l (by omega) w9 C9.out.rb
        rwa [e1] at this
      have HML : Hid ((mtH l).length = 48) := mt_len l
      obtain ⟨rfl, rfl, _, q4, rfl⟩ := (Rd.bad l hs').det RDD.out.1
      have HQ4 : Hid (r2 = l) := q4
      clear e1 q4 RDD
      generalize mtH l = mH at *
      clear hs hs'
      go_wp2_with fail
      refine MM.out.mono ?_
      rintro e wM ⟨rfl, bM⟩
      have CM : Hid (CB w R1 R2 N1 N2 l _ _ _ _ 100 [] [] r2 (.slice a l.length c) ((wM.alloc (.cells #[Value.int .u8 0, Value.int .u8 0, Value.int .u8 0, Value.int .u8 0, Value.int .u8 0, Value.int .u8 0, Value.int .u8 0, Value.int .u8 0, Value.int .u8 0, Value.int .u8 0, Value.int .u8 0, Value.int .u8 0, Value.int .u8 0, Value.int .u8 0, Value.int .u8 0, Value.int .u8 0, Value.int .u8 0, Value.int .u8 0, Value.int .u8 0, Value.int .u8 0, Value.int .u8 0, Value.int .u8 0, Value.int .u8 0, Value.int .u8 0, Value.int .u8 0, Value.int .u8 0, Value.int .u8 0, Value.int .u8 0, Value.int .u8 0, Value.int .u8 0, Value.int .u8 0, Value.int .u8 0, Value.int .u8 0, Value.int .u8 0, Value.int .u8 0, Value.int .u8 0, Value.int .u8 0, Value.int .u8 0, Value.int .u8 0, Value.int .u8 0, Value.int .u8 0, Value.int .u8 0, Value.int .u8 0, Value.int .u8 0, Value.int .u8 0, Value.int .u8 0, Value.int .u8 0, Value.int .u8 0] 44)).setRow wM.heap.size (bc mH))) := (C9.out.keep bM).keep (belowSetRow ((Below.refl _ _).alloc (Nat.le_refl _) _) (Nat.le_refl _) _)
      have hiH := info_hello HML.out
      have honeH := bc_one mH
      have hszH : (bc (zr 48)).size = (bc mH).size := by rw [bc_size, bc_size, zr_len]; exact HML.out.symm
      clear bM C9 MM
      obtain ⟨y0, y1, y2, _⟩ := box_cell CM.out.x1
      have HB : Hid (Below w.heap.size w ((wM.alloc (.cells #[Value.int .u8 0, Value.int .u8 0, Value.int .u8 0, Value.int .u8 0, Value.int .u8 0, Value.int .u8 0, Value.int .u8 0, Value.int .u8 0, Value.int .u8 0, Value.int .u8 0, Value.int .u8 0, Value.int .u8 0, Value.int .u8 0, Value.int .u8 0, Value.int .u8 0, Value.int .u8 0, Value.int .u8 0, Value.int .u8 0, Value.int .u8 0, Value.int .u8 0, Value.int .u8 0, Value.int .u8 0, Value.int .u8 0, Value.int .u8 0, Value.int .u8 0, Value.int .u8 0, Value.int .u8 0, Value.int .u8 0, Value.int .u8 0, Value.int .u8 0, Value.int .u8 0, Value.int .u8 0, Value.int .u8 0, Value.int .u8 0, Value.int .u8 0, Value.int .u8 0, Value.int .u8 0, Value.int .u8 0, Value.int .u8 0, Value.int .u8 0, Value.int .u8 0, Value.int .u8 0, Value.int .u8 0, Value.int .u8 0, Value.int .u8 0, Value.int .u8 0, Value.int .u8 0, Value.int .u8 0] 44)).setRow wM.heap.size (bc mH))) := CM.out.bel
      clear CM
      go_wp2_with (first | (refine wpList_store_row rfl 44 _ _ rfl wM.heap.size (bc mH) rfl rfl 44 (bc (zr 48)) (heapNew wM _) hiH hszH honeH ?_))
      go_ret
      exact ⟨rfl, HB.out⟩
end Go.Proofs.Ytbpggbibdoifmaa
