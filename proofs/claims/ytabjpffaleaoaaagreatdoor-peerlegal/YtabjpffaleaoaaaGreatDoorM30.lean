import Derived.Test.YtabjpffaleaoaaaGreatDoorM29
namespace Go.Proofs.YtabjpffaleaoaaaGreatDoor
open Go.RowKit
/-- what the loop over the events keeps -/
structure LG (w4 : World) (L : List Int) (pb : Int) (xs : List Mg) (q' : Qs) (i : Nat) (hv : Value) (qk : Qs) (wr : World) : Prop where
  bl : Below w4.heap.size w4 wr
  rb : RB wr hv qk.H
  hl : qk.H.length ≤ 140737488351232
  tr : Tr L pb qk (xs.drop (i - 1)) q'
theorem rangeKeep {u u' : World} {g o : Nat} {xs : List Value} (hr : u.rangeAt g o xs) (hb : Below u.heap.size u u') : u'.rangeAt g o xs := fun j v hj =>
  (World.cell?_of_block (w := u) (hb.block g (World.block_lt_of_cell? u _ (hr j v hj)))).trans (hr j v hj)
theorem legT {L : List Int} {pb : Int} {ib : Bool} {m : Mv} {D : List UInt8} (h : legE L pb ib m D = 0) :
    (m.k = 4 → pce L m.i = true) ∧ (m.k = 5 → ib = false ∧ Bs.ck (L.length : Int) D = 0) ∧ (m.k = 6 ∨ m.k = 8 → rgp L pb m.i m.b m.l = true) ∧ (m.k = 7 → rgp L pb m.i m.b D.length = true ∧ ctp L pb m.i m.b D.length = true) := by
  unfold legE at h
  refine ⟨fun hk => ?_, fun hk => ?_, fun hk => ?_, fun hk => ?_⟩
  · rw [if_neg (by omega), if_neg (by omega), if_neg (by omega), if_pos hk] at h
    split at h
    · assumption
    · simp at h
  · rw [if_pos hk] at h
    split at h
    · simp at h
    · split at h
      · rename_i h1 h2; exact ⟨by simpa using h1, h2⟩
      · simp at h
  · rw [if_neg (by omega), if_neg (by omega), if_pos hk] at h
    split at h
    · assumption
    · simp at h
  · rw [if_neg (by omega), if_pos hk] at h
    split at h
    · split at h
      · rename_i h1 h2; exact ⟨h2, h1⟩
      · simp at h
    · simp at h
theorem pce_of {L : List Int} {i : Int} (h : pce L i = true) : 0 ≤ i ∧ i < (L.length : Int) := by
  unfold pce at h
  simpa using h
theorem rgp_of {L : List Int} {b i bg n : Int} (h : rgp L b i bg n = true) : pce L i = true ∧ n ≤ b ∧ bg ≤ Bs.iz L i.toNat - n := by
  unfold rgp at h
  simp only [Bool.and_eq_true, decide_eq_true_eq] at h
  exact ⟨h.1.1, h.1.2, h.2⟩
theorem ctp_of {L : List Int} {b i bg n : Int} (h : ctp L b i bg n = true) : bg % b = 0 ∧ (n = b ∨ bg = Bs.iz L i.toNat - n) := by
  unfold ctp at h
  simp only [Bool.and_eq_true, Bool.or_eq_true, beq_iff_eq] at h
  exact ⟨h.1.2, h.2⟩
theorem sy_loud {k : Int} {c i b : Bool} (h0 : k = -1 ∨ 0 ≤ k) (h1 : k ≠ 1000) : (sy k c i b).2.2 = (b || decide (0 ≤ k)) := by
  unfold sy
  rcases h0 with rfl | h0
  · simp
  · rw [if_neg (by omega), decide_eq_true h0]
    simp
    repeat' split
    all_goals rfl
theorem EvH.at {es : List Ev} {met : List (List UInt8)} {xs : List Mg} (h : EvH es met xs) (h0 : met = [] → xs = []) (h1 : met.length ≤ 1) {i : Nat} {x : Ev} (hx : es[i]? = some x) :
    (i = 0 ∧ ∃ h, x = hev h) ∨ (1 ≤ i ∧ ∃ y, xs[i - 1]? = some y ∧ x.hello = false ∧ x.x.D = y.D ∧ x.x.hb = y.hb ∧ x.x.m = { y.m with d := x.x.m.d, h := x.x.m.h }) := by
  obtain ⟨es', rfl, he⟩ := h
  match met, h1 with
  | [], _ =>
    rw [h0 rfl] at he
    rw [he.none] at hx
    simp at hx
  | [h], _ =>
    cases i with
    | zero => simp at hx; exact .inl ⟨rfl, h, hx.symm⟩
    | succ i =>
      have hx' : es'[i]? = some x := by simpa using hx
      have hi := (List.getElem?_eq_some_iff.1 hx').1
      obtain ⟨y, hy⟩ : ∃ y, xs[i]? = some y := ⟨_, List.getElem?_eq_getElem (by rw [← he.1]; exact hi)⟩
      obtain ⟨a1, _, a3, a4, a5⟩ := he.2 i x y hx' hy
      exact .inr ⟨by omega, y, hy, a1, a3, a4, a5⟩
theorem EvH.fin {es : List Ev} {met : List (List UInt8)} {xs : List Mg} (h : EvH es met xs) (h0 : met = [] → xs = []) (h1 : met.length ≤ 1) : xs.drop (es.length - 1) = [] ∧ (!met.isEmpty) = decide (0 < es.length) := by
  obtain ⟨es', rfl, he⟩ := h
  match met, h1 with
  | [], _ =>
    rw [h0 rfl] at he ⊢
    rw [he.none]
    simp
  | [h], _ =>
    have := he.1
    refine ⟨List.drop_eq_nil_of_le (by simp; omega), by simp⟩
theorem drop_g {α : Type} {l : List α} {n : Nat} {y : α} (h : l[n]? = some y) : l.drop n = y :: l.drop (n + 1) := by
  obtain ⟨hn, rfl⟩ := List.getElem?_eq_some_iff.1 h
  exact List.drop_eq_getElem_cons hn
theorem tr_nil {L : List Int} {pb : Int} {q q' : Qs} (h : Tr L pb q [] q') : q' = q := by
  cases h
  rfl
theorem tr_cons {L : List Int} {pb : Int} {q q' : Qs} {x : Mg} {xs : List Mg} (h : Tr L pb q (x :: xs) q') : ∃ q1, Gd L pb q x ∧ Hstep L.length q x.m x.D q1 ∧ Tr L pb q1 xs q' := by
  cases h with
  | cons _ q1 _ _ _ a b c => exact ⟨q1, a, b, c⟩
set_option maxHeartbeats 40000000 in
set_option maxRecDepth 100000 in
theorem legalLaw (w : World) (hkt : KT w) (hmt : Bs.MT w) (b v : Int) (hb0 : List UInt8) (h320 : hb0.length = 32) (lv : Value) (L : List Int) (hl : L.length * 8 ≤ 140737488351232) (hr : Bs.RZ w lv L) (bv : Value) (l : List UInt8) (hb : RB w bv l) (hll : l.length ≤ 16777216) :
    Calls Tryz.prog 5 #[Bs.sc b v, .agg (bc hb0), lv, bv] w fun e w' => e = .returned (.bool true) ∧ Below w.heap.size w w' := by
  have HA : Hid (∀ u, Below w.heap.size w u → Calls Tryz.prog 9 #[] u fun e w' => e = .returned (.bool true) ∧ Below u.heap.size u w') := fun u hu => awakeT u (hkt.below hu hkt.pos) (hmt.keep hu)
  have HC0 := Lib.hid (And.intro hkt (And.intro hmt (And.intro hr hb)))
  clear hkt hmt hr hb
  go_enter Tryz.func5, Tryz.ntmps5
  go_wp2_with fail
  obtain ⟨u0, hu0⟩ : ∃ x, x = (w.alloc (Obj.cells #[Value.int IntKind.i64 b, Value.int IntKind.i64 v] 23)).alloc (Obj.cells (bc hb0) 25) := ⟨_, rfl⟩
  have B0 : Hid (Below w.heap.size w u0) := by
    rw [hu0]
    exact ((Below.refl _ _).alloc (Nat.le_refl _) _).alloc (by simp) _
  rw [← hu0]
  refine (HA.out u0 B0.out).mono ?_
  rintro e w1 ⟨rfl, b1⟩
  have hs0 : u0.heap[w.heap.size]? = some (.cells #[.int .i64 b, .int .i64 v] 23) ∧ u0.heap[w.heap.size + 1]? = some (.cells (bc hb0) 25) ∧ u0.heap.size = w.heap.size + 2 := by
    rw [hu0]
    exact two w _ _
  have HS1 : Hid (w1.heap[w.heap.size]? = some (.cells #[.int .i64 b, .int .i64 v] 23) ∧ w1.heap[w.heap.size + 1]? = some (.cells (bc hb0) 25)) := ⟨(b1.block _ (by omega)).trans hs0.1, (b1.block _ (by omega)).trans hs0.2.1⟩
  have B1 : Hid (Below w.heap.size w w1) := B0.out.trans (b1.mono B0.out.size)
  have HZ1 : Hid (w.heap.size + 2 ≤ w1.heap.size) := by have := b1.size; show _ ≤ _; omega
  have HN := Lib.hid (newP b v hb0 h320 lv L w1 hl (HC0.out.2.2.1.keep B1.out) (HC0.out.1.below B1.out HC0.out.1.pos) (HC0.out.2.1.keep B1.out))
  have hsc := HS1.out.1
  have hsh := HS1.out.2
  have c0 : w1.cell? ⟨w.heap.size, 0, none⟩ = some (.int .i64 b) := by unfold World.cell?; simp only [hsc]; rfl
  have c1 : w1.cell? ⟨w.heap.size, 1, none⟩ = some (.int .i64 v) := by unfold World.cell?; simp only [hsc]; rfl
  clear b1 hs0 hu0 HA hsc
  go_wp2_with (first | (refine load_hash_if rfl _ rfl (w.heap.size + 1) rfl hb0 hsh h320 ?_))
  refine HN.out.mono ?_
  rintro e w2 ⟨p, rfl, hpp, b2, hnew⟩
  have B2 : Hid (Below w.heap.size w w2) := B1.out.trans (b2.mono B1.out.size)
  by_cases hE : nwE b v L = 0
  · obtain ⟨g, R, P, rfl, hg, hf, hi, hpb, hs0, hwc, hwi, hwb, hic, hii, hib⟩ := hnew hE
    rw [hE]
    have HF := Lib.hid hf
    have HG : Hid (w.heap.size + 2 ≤ g ∧ g < R) := ⟨by have := HZ1.out; omega, hf.gR⟩
    have HP : Hid (P.b = b ∧ P.sh = false ∧ P.ib = false) := ⟨hpb, hs0, hib⟩
    have HS2 : Hid (w2.heap[w.heap.size]? = some (.cells #[.int .i64 b, .int .i64 v] 23)) := (b2.block _ (by have := HZ1.out; omega)).trans HS1.out.1
    have HFd := Lib.hid (feedT w2 g R P L _ 2 0 [] (.slice none 0 0) hf bv l (Fm.rn_free (HC0.out.2.2.2.keep B2.out)) hll)
    obtain ⟨ba, bcp, hbv, _⟩ := HC0.out.2.2.2
    obtain ⟨la, lc, hlv, _⟩ := HC0.out.2.2.1
    rw [hbv] at HFd HC0 ⊢
    rw [hlv] at HC0 ⊢
    clear hf hg hpb hi hs0 hwc hwi hwb hic hii hib hnew hpp hE c0 c1 hsh HN b2 hbv hlv HS1
    go_wp2_with (first | (go_at_call 11; refine (numLT _ _).mono ?_; rintro e w9 ⟨rfl, rfl⟩))
    refine HFd.out.mono ?_
    intro e w3 hx
    obtain ⟨ev, fin, es, met, xs, q, Q, rfl, hes, heh, htel, hsd, fr3⟩ := FdE.tell HF.out HP.out.2.1 hx
    obtain ⟨ea, ec, rfl⟩ := hes.form
    have B3 : Hid (Below w.heap.size w w3) := by
      have h1 := HG.out
      exact below_fr B2.out fr3 B2.out.size (fun k hk => ⟨by omega, by omega⟩)
    have HS3 : Hid (w3.heap[w.heap.size]? = some (.cells #[.int .i64 b, .int .i64 v] 23)) := by
      have h1 := HG.out
      have h2 := HF.out.pk.lt
      exact (fr3.block _ (by omega) ⟨by omega, by omega⟩).trans HS2.out
    have hLn := HF.out.lok.1
    have HMk := Lib.hid (Bs.make13_ow L.length hLn w3)
    have HE3 := Lib.hid (And.intro hes (And.intro heh (And.intro htel hsd)))
    have HSZ : Hid (w.heap.size < w3.heap.size) := (Array.getElem?_eq_some_iff.1 HS3.out).1
    clear hx hes heh htel hsd fr3 HFd HS2
    go_wp2_with fail
    refine HMk.out.mono ?_
    rintro e w4 ⟨v4, rfl, o4, b4⟩
    obtain ⟨a4, c4, hv4⟩ := OW.form o4
    subst hv4
    have hrl : (List.replicate ((L.length + 7) / 8) (0 : UInt8)).length = (L.length + 7) / 8 := List.length_replicate
    have B4 : Hid (Below w.heap.size w w4) := B3.out.trans (b4.mono B3.out.size)
    have HT4 := (HE3.out.2.2.1).tr
    have HC4 : Hid (KT w4 ∧ Bs.MT w4 ∧ Bs.RZ w4 (.slice la L.length lc) L ∧ w4.heap[w.heap.size]? = some (.cells #[.int .i64 b, .int .i64 v] 23) ∧ EVS w2.heap.size w4 (.slice ea es.length ec) es ∧ Sd w4 g Q P.b P.wc P.wi (!met.isEmpty) q fin ∧ LOk L ∧ 64 ≤ b ∧ b ≤ 16384) := ⟨HC0.out.1.below B4.out HC0.out.1.pos, HC0.out.2.1.keep B4.out, HC0.out.2.2.1.keep B4.out, (b4.block _ HSZ.out).trans HS3.out, HE3.out.1.fr (fun k _ hlt => b4.block k hlt), HE3.out.2.2.2.keep (b4.block g HE3.out.2.2.2.pk.lt) (fun k cs e => b4.block k (Array.getElem?_eq_some_iff.1 e).1), HF.out.lok, by rw [← HP.out.1]; exact HF.out.b0, by rw [← HP.out.1]; exact HF.out.b1⟩
    have HEs : Hid (EvH es met xs ∧ (met = [] → xs = []) ∧ met.length ≤ 1) := ⟨HE3.out.2.1, HT4.2⟩
    have HI0 : Hid (LG w4 L b xs q 0 (.slice a4 (List.replicate ((L.length + 7) / 8) (0 : UInt8)).length c4) ⟨P.ic, P.ii, P.ib, List.replicate ((L.length + 7) / 8) 0⟩ w4) := ⟨Below.refl _ _, OW.rb o4, by rw [hrl]; omega, by have := HT4.1; rw [HP.out.1] at this; exact this⟩
    have hPib := HP.out.2.2
    have hesl : es.length ≤ 107374182 := by
      have := HE3.out.2.2.1.len HE3.out.2.1
      omega
    clear o4 b4 HMk HE3 HT4 HF HS3 HC0 HG B2 B3
    go_wp2_with fail
    go_loopw [14, 16, 17] (fun s14 s16 s17 wr => ∃ (i : Nat) (qk : Qs) (ha : Option Addr) (hc : Nat), i ≤ es.length ∧ s17 = .int .i64 i ∧ s16 = .bool qk.b ∧ s14 = .slice ha qk.H.length hc ∧ Hid (LG w4 L b xs q i s14 qk wr)) (fun _ _ s17 _ => es.length - (intOf s17).toNat)
    case atStart => exact ⟨0, ⟨P.ic, P.ii, P.ib, List.replicate ((L.length + 7) / 8) 0⟩, a4, c4, Nat.zero_le _, rfl, by rw [hPib], by rw [hrl], by rw [hrl] at HI0; exact HI0⟩
    case round =>
      clear HI0
      obtain ⟨i, qk, ha, hc, hi, rfl, rfl, rfl, HI⟩ := hrel
      by_cases hlt : i < es.length
      · obtain ⟨x, hx⟩ : ∃ x, es[i]? = some x := ⟨_, List.getElem?_eq_getElem hlt⟩
        obtain ⟨ge, rfl⟩ : ∃ ge, ea = some ⟨ge, 0, none⟩ := by
          rcases HC4.out.2.2.2.2.1.1.2 with ⟨h, _⟩ | ⟨g, cap, cur, h, _⟩
          · simp at h; omega
          · simp at h; exact ⟨g, h.1⟩
        have o1 := HC4.out.2.2.2.2.1.2 x (List.mem_of_getElem? hx)
        have r1 := rangeKeep (HC4.out.2.2.2.2.1.at rfl hx) HI.out.bl
        have ok := o1.mg.ok
        have him : (Tryz.prog.info? 47).map (·.size) = some x.x.m.ls.length := by rw [info_msg ok, Mv.cs, List.size_toArray]
        have him2 := info_msg ok
        have rM := ms_of o1.pr r1
        have cH : wr.cell? ⟨ge, i * 61, none⟩ = some (.bool x.hello) := r1 0 _ rfl
        have hz := heapNew wr (.cells z40 47)
        have hone := ok.one
        have hsz : z40.size = x.x.m.cs.size := ok.size.symm
        have hkn : (i : Int) < (es.length : Int) := by omega
        have hk0 : (0 : Int) ≤ (i : Int) := by omega
        have bX : Below wr.heap.size wr ((wr.alloc (.cells z40 47)).setRow wr.heap.size x.x.m.cs) := belowSetRow ((Below.refl _ _).alloc (Nat.le_refl _) _) (Nat.le_refl _) _
        have HX : Hid (MB ((wr.alloc (.cells z40 47)).setRow wr.heap.size x.x.m.cs) wr.heap.size x.x.m ∧ Below wr.heap.size wr ((wr.alloc (.cells z40 47)).setRow wr.heap.size x.x.m.cs) ∧ MM ((wr.alloc (.cells z40 47)).setRow wr.heap.size x.x.m.cs) x.x.m x.x.D x.x.hb ∧ x.x.D.length ≤ 32768) := ⟨MB.setRow (m := zm) hz, bX, (o1.mg.mm.keep HI.out.bl).keep bX, o1.mg.dl⟩
        have HRM := Lib.hid rM
        have HHZ := Lib.hid hz
        have HON := Lib.hid hone
        have HSS := Lib.hid hsz
        have HIM := Lib.hid him
        have HI2 := Lib.hid him2
        have HOK := Lib.hid ok
        clear bX r1 o1 rM hz hone hsz him him2 ok
        by_cases hi0 : i = 0
        · subst hi0
          as_aux_lemma =>
          obtain ⟨xh, xD, xb, xm⟩ : x.hello = true ∧ x.x.D = [] ∧ x.x.hb = [] ∧ x.x.m = zm := by
            rcases HEs.out.1.at HEs.out.2.1 HEs.out.2.2 hx with ⟨_, h, e⟩ | ⟨h, _⟩
            · rw [e]; exact ⟨rfl, rfl, rfl, rfl⟩
            · omega
          rw [xh] at cH
          rw [xD, xb] at HX
          have HXM := Lib.hid xm
          clear hx xD xb xm xh
          go_upto_region 16 with (first | (with_reducible (show wpList _ _ _ (⟨_, Op.load 47 _, _, _, _, _⟩ :: _) _ _); refine wpList_load_mid rfl 47 _ rfl ge (0 * 61 + 21) rfl x.x.m.ls _ HRM.out Tryz.underlying47 rfl HIM.out ?_) | (with_reducible (show wpList _ _ _ (⟨_, Op.store 47 _ _, _, _, _, _⟩ :: _) _ _); refine wpList_store_row rfl 47 _ _ rfl wr.heap.size x.x.m.cs rfl rfl 47 z40 HHZ.out HI2.out HSS.out HON.out ?_))
          generalize (wr.alloc (.cells z40 47)).setRow wr.heap.size x.x.m.cs = X at *
          have hcX := HX.out.1.cells
          have HMS := Lib.hid (msameT X x.x.m zm [] [] HX.out.2.2.1 (MM.nil zm_ok rfl rfl) (by rw [HXM.out]))
          clear HRM cH HHZ HON HSS HIM
          go_wp2_with (first | (with_reducible (show wpList _ _ _ (⟨_, Op.load 47 _, _, _, _, _⟩ :: _) _ _); refine wpList_load_msg rfl _ rfl wr.heap.size rfl x.x.m hcX HI2.out ?_) | (go_at_call 18; refine HMS.out.mono ?_; rintro e w5 ⟨rfl, b5⟩))
          refine ⟨⟨1, qk, ha, hc, by omega, rfl, rfl, rfl, ?_⟩, by simp [intOf]; omega⟩
          have b9 : Below wr.heap.size wr w5 := HX.out.2.1.trans (b5.mono HX.out.2.1.size)
          exact ⟨HI.out.bl.trans (b9.mono HI.out.bl.size), HI.out.rb.keep b9, HI.out.hl, HI.out.tr⟩
        · obtain ⟨y, hy, hq1, hq2, hq3, hq4⟩ : ∃ y, xs[i - 1]? = some y ∧ x.hello = false ∧ x.x.D = y.D ∧ x.x.hb = y.hb ∧ x.x.m = { y.m with d := x.x.m.d, h := x.x.m.h } := by
            rcases HEs.out.1.at HEs.out.2.1 HEs.out.2.2 hx with ⟨h, _⟩ | ⟨_, h⟩
            · exact absurd h hi0
            · exact h
          rw [hq1] at cH
          have htr := HI.out.tr
          have hdr : xs.drop (i - 1) = y :: xs.drop i := by
            have h1 := drop_g hy
            rwa [show i - 1 + 1 = i by omega] at h1
          rw [hdr] at htr
          obtain ⟨qn, gd, hst, htn⟩ := tr_cons htr
          have mk1 : x.x.m.k ≠ 1000 := by rw [hq4]; exact gd.no
          have mlg : legE L b qk.b x.x.m x.x.D = 0 := by rw [hq4, hq2]; exact gd.lg
          have mbd : Bd x.x.m := by rw [hq4]; exact ⟨gd.bd.i0, gd.bd.i1, gd.bd.b0, gd.bd.b1, gd.bd.l0, gd.bd.l1⟩
          have msd := HX.out.2.2.1.sd
          have msh := HX.out.2.2.1.sh
          have mvl : valE x.x.m = 0 := by
            have := gd.vl x.x.m.d x.x.m.h (by rw [msd, hq2]) (by rw [← hq3]; exact msh)
            rw [← hq4] at this
            exact this
          have mst : Hstep L.length qk x.x.m x.x.D qn := by rw [hq4, hq2]; exact hst
          have hloud : qn.b = (qk.b || decide (0 ≤ x.x.m.k)) := by rw [mst.2.2.1]; exact sy_loud (val_kind mvl) mk1
          have HL := Lib.hid hloud
          have HMS := Lib.hid (And.intro mlg (And.intro mbd (And.intro mvl (And.intro mst (And.intro htn msd)))))
          have hi00 : ¬ (i : Int) = 0 := by omega
          clear hdr htr gd hst htn mlg mbd msd msh mvl mst hloud hq1 hq2 hq3 hq4 hy hx
          go_upto_region 16 with (first | (with_reducible (show wpList _ _ _ (⟨_, Op.load 47 _, _, _, _, _⟩ :: _) _ _); refine wpList_load_mid rfl 47 _ rfl ge (i * 61 + 21) rfl x.x.m.ls _ HRM.out Tryz.underlying47 rfl HIM.out ?_) | (with_reducible (show wpList _ _ _ (⟨_, Op.store 47 _ _, _, _, _, _⟩ :: _) _ _); refine wpList_store_row rfl 47 _ _ rfl wr.heap.size x.x.m.cs rfl rfl 47 z40 HHZ.out HI2.out HSS.out HON.out ?_))
          generalize (wr.alloc (.cells z40 47)).setRow wr.heap.size x.x.m.cs = X at *
          have hcX := HX.out.1.cells
          have HVa : Hid (Calls Tryz.prog 19 #[.agg x.x.m.cs] X fun e w' => e = .returned (.int .i64 0) ∧ Below X.heap.size X w') := by
            have h := validT X x.x.m HOK.out (HC4.out.1.below (HI.out.bl.trans (HX.out.2.1.mono HI.out.bl.size)) HC4.out.1.pos) (by have h1 := HX.out.2.2.1.sh; have h2 := HX.out.2.2.1.hl; omega) (by have h1 := HX.out.2.2.1.sd; have h2 := HX.out.2.2.1.dl; omega)
            rw [HMS.out.2.2.1] at h
            exact h
          clear HRM cH HHZ HON HSS HIM
          go_upto_region 20 with (first | (with_reducible (show wpList _ _ _ (⟨_, Op.load 47 _, _, _, _, _⟩ :: _) _ _); refine wpList_load_msg rfl _ rfl wr.heap.size rfl x.x.m hcX HI2.out ?_) | (go_at_call 19; refine HVa.out.mono ?_; rintro e w7 ⟨rfl, b7⟩))
          have B7 : Hid (Below w4.heap.size w4 w7) := (HI.out.bl.trans (HX.out.2.1.mono HI.out.bl.size)).trans (b7.mono (Nat.le_trans HI.out.bl.size HX.out.2.1.size))
          have hMB := HX.out.1.below b7
          have c0 := hMB.c0
          have c1 := hMB.c1
          have c2 := hMB.c2
          have c3 := hMB.c3
          have c4' := hMB.c4
          have hsc7 : w7.heap[w.heap.size]? = some (.cells #[.int .i64 b, .int .i64 v] 23) := (B7.out.block _ (Array.getElem?_eq_some_iff.1 HC4.out.2.2.2.1).1).trans HC4.out.2.2.2.1
          have d0 : w7.cell? ⟨w.heap.size, 0, none⟩ = some (.int .i64 b) := by unfold World.cell?; simp only [hsc7]; rfl
          have d1 : w7.cell? ⟨w.heap.size, 1, none⟩ = some (.int .i64 v) := by unfold World.cell?; simp only [hsc7]; rfl
          have H7 : Hid (RB w7 (.slice ha qk.H.length hc) qk.H ∧ RB w7 x.x.m.d x.x.D ∧ x.x.D.length ≤ 32768 ∧ Bs.MT w7 ∧ Bs.RZ w7 (.slice la L.length lc) L) := ⟨(HI.out.rb.keep HX.out.2.1).keep b7, HX.out.2.2.1.d.keep b7, HX.out.2.2.2, HC4.out.2.1.keep B7.out, HC4.out.2.2.1.keep B7.out⟩
          have HHL : Hid (qk.H.length ≤ 140737488351232) := HI.out.hl
          obtain ⟨da, dc, hdv, _⟩ := H7.out.2.1
          rw [hdv] at c4'
          have HDV := Lib.hid hdv
          clear b7 hMB hsc7 HVa hcX HX HI hdv
          by_cases k4 : x.x.m.k = 4
          · as_aux_lemma =>
            obtain ⟨hi1, hi2⟩ := pce_of ((legT HMS.out.1).1 k4)
            have hi3 := HMS.out.2.1.i1
            have HPu := Lib.hid (Bs.put21 (L.length : Int) (by omega) (by omega) (.slice ha qk.H.length hc) qk.H x.x.m.i (by omega) (by omega) true w7 (bsRB H7.out.1) H7.out.2.2.2.1 HHL.out)
            have hpu : Bs.PU (L.length : Int) qk.H x.x.m.i true qn.H := by
              rcases HMS.out.2.2.2.1.2.2.2 with ⟨_, ⟨g1, e1⟩ | ⟨_, e1⟩⟩ | ⟨h, _⟩ | ⟨h, _⟩
              · rw [e1]; exact pu_same g1
              · exact e1
              · omega
              · omega
            have HPQ := Lib.hid hpu
            have HK4 := Lib.hid k4
            rw [k4] at c0
            have hlt7 : wr.heap.size < w7.heap.size := World.block_lt_of_cell? w7 _ c0
            clear hpu k4
            go_upto_region 37 with (first | (go_at_call 11; refine (numLT _ _).mono ?_; rintro e w9 ⟨rfl, rfl⟩) | (go_at_call 20; refine HPu.out.mono ?_; rintro e w8 ⟨v8, r8, rfl, o8, pu8, b8⟩; obtain ⟨a8, c8, hv8⟩ := OW.form o8; subst hv8; have c08 : w8.cell? ⟨wr.heap.size, 0, none⟩ = some (.int .i64 4) := (World.cell?_of_block (w := w7) (b8.block _ hlt7)).trans c0))
            obtain rfl : r8 = qn.H := pu8.unique HPQ.out
            have HI8 : Hid (LG w4 L b xs q (i + 1) (.slice a8 qn.H.length c8) qn w8) := by
              refine ⟨B7.out.trans (b8.mono B7.out.size), OW.rb o8, ?_, by rw [Nat.add_sub_cancel]; exact HMS.out.2.2.2.2.1⟩
              rcases HPQ.out with ⟨_, h⟩ | ⟨_, h⟩
              · rw [h]; simp
              · rw [h.1]; omega
            clear o8 pu8 b8 HPu
            have hk4 := HK4.out
            cases hqb : qk.b with
            | true =>
              go_wp2_with fail
              exact ⟨⟨i + 1, qn, _, _, by omega, by go_num, by rw [HL.out, hqb]; simp, rfl, HI8⟩, by simp [intOf]; omega⟩
            | false =>
              go_wp2_with fail
              exact ⟨⟨i + 1, qn, _, _, by omega, by go_num, by rw [HL.out, hqb]; simp [hk4], rfl, HI8⟩, by simp [intOf]; omega⟩
          · by_cases k5 : x.x.m.k = 5
            · as_aux_lemma =>
              obtain ⟨hqb, hck⟩ := (legT HMS.out.1).2.1 k5
              have HCk := Lib.hid (Bs.check10 (L.length : Int) (by omega) (by omega) (.slice da x.x.D.length dc) x.x.D w7 (bsRB (HDV.out ▸ H7.out.2.1)) H7.out.2.2.2.1 (by have := H7.out.2.2.1; omega))
              rw [hck] at HCk
              have hqH : qn.H = x.x.D := by
                rcases HMS.out.2.2.2.1.2.2.2 with ⟨h, _⟩ | ⟨_, h⟩ | ⟨_, h, _⟩
                · omega
                · exact h
                · omega
              have HK5 := Lib.hid k5
              have HQH := Lib.hid hqH
              have HQB := Lib.hid hqb
              rw [k5] at c0
              rw [hqb]
              clear hqH k5 k4 hck
              go_upto_region 37 with (first | (go_at_call 11; refine (numLT _ _).mono ?_; rintro e w9 ⟨rfl, rfl⟩) | (go_at_call 21; refine HCk.out.mono ?_; rintro e w8 ⟨rfl, nq, rfl⟩))
              have HI8 : Hid (LG w4 L b xs q (i + 1) (.slice da x.x.D.length dc) qn (w7.drewN nq)) := by
                refine ⟨belowN B7.out nq, ?_, by rw [HQH.out]; have := H7.out.2.2.1; omega, by rw [Nat.add_sub_cancel]; exact HMS.out.2.2.2.2.1⟩
                rw [HQH.out, ← HDV.out]
                exact H7.out.2.1.keep (belowDrew _ _)
              have hk5 := HK5.out
              clear HCk
              go_wp2_with fail
              exact ⟨⟨i + 1, qn, _, _, by omega, by go_num, by rw [HL.out, HQB.out]; simp [hk5], by rw [HQH.out], HI8⟩, by simp [intOf]; omega⟩
            · by_cases k68 : x.x.m.k = 6 ∨ x.x.m.k = 8
              · rcases k68 with k6 | k8
                · as_aux_lemma =>
                  have hrg := rgp_of ((legT HMS.out.1).2.2.1 (.inl k6))
                  have hl1 := val_len HMS.out.2.2.1 (.inl k6)
                  have hb16 := HC4.out.2.2.2.2.2.2.2.2
                  have HR1 := Lib.hid (range1T w7 b v (.slice la L.length lc) L H7.out.2.2.2.2 x.x.m.i x.x.m.b x.x.m.l HC4.out.2.2.2.2.2.2.1 hrg.1 HMS.out.2.1.b0 HMS.out.2.1.b1 hl1 (by have := hrg.2.1; omega) hrg.2.1 hrg.2.2)
                  have hqH : qn.H = qk.H := by
                    rcases HMS.out.2.2.2.1.2.2.2 with ⟨h, _⟩ | ⟨h, _⟩ | ⟨_, _, h⟩
                    · omega
                    · omega
                    · exact h
                  have HKK := Lib.hid k6
                  have HQH := Lib.hid hqH
                  rw [k6] at c0
                  have hlt7 : wr.heap.size < w7.heap.size := World.block_lt_of_cell? w7 _ c0
                  clear hqH k6 k4 k5 hrg hl1 hb16
                  go_upto_region 37 with (first | (go_at_call 11; refine (numLT _ _).mono ?_; rintro e w9 ⟨rfl, rfl⟩) | (go_at_call 22; refine HR1.out.mono ?_; rintro e w8 ⟨rfl, b8⟩; have c08 : w8.cell? ⟨wr.heap.size, 0, none⟩ = some (.int .i64 6) := (World.cell?_of_block (w := w7) (b8.block _ hlt7)).trans c0))
                  have HI8 : Hid (LG w4 L b xs q (i + 1) (.slice ha qk.H.length hc) qn w8) := by
                    refine ⟨B7.out.trans (b8.mono B7.out.size), ?_, by rw [HQH.out]; exact HHL.out, by rw [Nat.add_sub_cancel]; exact HMS.out.2.2.2.2.1⟩
                    rw [HQH.out]
                    exact H7.out.1.keep b8
                  have hkk := HKK.out
                  clear b8 HR1
                  cases hqb : qk.b with
                  | true =>
                    go_wp2_with fail
                    exact ⟨⟨i + 1, qn, _, _, by omega, by go_num, by rw [HL.out, hqb]; simp, by rw [HQH.out], HI8⟩, by simp [intOf]; omega⟩
                  | false =>
                    go_wp2_with fail
                    exact ⟨⟨i + 1, qn, _, _, by omega, by go_num, by rw [HL.out, hqb]; simp [hkk], by rw [HQH.out], HI8⟩, by simp [intOf]; omega⟩
                · as_aux_lemma =>
                  have hrg := rgp_of ((legT HMS.out.1).2.2.1 (.inr k8))
                  have hl1 := val_len HMS.out.2.2.1 (.inr k8)
                  have hb16 := HC4.out.2.2.2.2.2.2.2.2
                  have HR1 := Lib.hid (range1T w7 b v (.slice la L.length lc) L H7.out.2.2.2.2 x.x.m.i x.x.m.b x.x.m.l HC4.out.2.2.2.2.2.2.1 hrg.1 HMS.out.2.1.b0 HMS.out.2.1.b1 hl1 (by have := hrg.2.1; omega) hrg.2.1 hrg.2.2)
                  have hqH : qn.H = qk.H := by
                    rcases HMS.out.2.2.2.1.2.2.2 with ⟨h, _⟩ | ⟨h, _⟩ | ⟨_, _, h⟩
                    · omega
                    · omega
                    · exact h
                  have HKK := Lib.hid k8
                  have HQH := Lib.hid hqH
                  rw [k8] at c0
                  have hlt7 : wr.heap.size < w7.heap.size := World.block_lt_of_cell? w7 _ c0
                  clear hqH k8 k4 k5 hrg hl1 hb16
                  go_upto_region 37 with (first | (go_at_call 11; refine (numLT _ _).mono ?_; rintro e w9 ⟨rfl, rfl⟩) | (go_at_call 22; refine HR1.out.mono ?_; rintro e w8 ⟨rfl, b8⟩; have c08 : w8.cell? ⟨wr.heap.size, 0, none⟩ = some (.int .i64 8) := (World.cell?_of_block (w := w7) (b8.block _ hlt7)).trans c0))
                  have HI8 : Hid (LG w4 L b xs q (i + 1) (.slice ha qk.H.length hc) qn w8) := by
                    refine ⟨B7.out.trans (b8.mono B7.out.size), ?_, by rw [HQH.out]; exact HHL.out, by rw [Nat.add_sub_cancel]; exact HMS.out.2.2.2.2.1⟩
                    rw [HQH.out]
                    exact H7.out.1.keep b8
                  have hkk := HKK.out
                  clear b8 HR1
                  cases hqb : qk.b with
                  | true =>
                    go_wp2_with fail
                    exact ⟨⟨i + 1, qn, _, _, by omega, by go_num, by rw [HL.out, hqb]; simp, by rw [HQH.out], HI8⟩, by simp [intOf]; omega⟩
                  | false =>
                    go_wp2_with fail
                    exact ⟨⟨i + 1, qn, _, _, by omega, by go_num, by rw [HL.out, hqb]; simp [hkk], by rw [HQH.out], HI8⟩, by simp [intOf]; omega⟩
              · by_cases k7 : x.x.m.k = 7
                · as_aux_lemma =>
                  have hrg := rgp_of ((legT HMS.out.1).2.2.2 k7).1
                  have hct := ctp_of ((legT HMS.out.1).2.2.2 k7).2
                  have hd1 : 1 ≤ x.x.D.length := by have h1 := val_data HMS.out.2.2.1 k7; have h2 := HMS.out.2.2.2.2.2; omega
                  have hb16 := HC4.out.2.2.2.2.2.2.2.2
                  have hb64 := HC4.out.2.2.2.2.2.2.2.1
                  obtain ⟨hmi0', hmi1'⟩ := pce_of hrg.1
                  obtain ⟨mi, hmi⟩ := Int.eq_ofNat_of_zero_le hmi0'
                  have hlok := HC4.out.2.2.2.2.2.2.1
                  have hmik : mi < L.length := by omega
                  have hlx := hlok.2 mi hmik
                  have HR1 := Lib.hid (range1T (w7.drewN 1) b v (.slice la L.length lc) L (H7.out.2.2.2.2.keep (belowDrew _ 1)) x.x.m.i x.x.m.b (x.x.D.length : Int) hlok hrg.1 HMS.out.2.1.b0 HMS.out.2.1.b1 (by omega) (by have := hrg.2.1; omega) hrg.2.1 hrg.2.2)
                  have hct2 := hct.2
                  have hmb0 := HMS.out.2.1.b0
                  have hmb1 := HMS.out.2.1.b1
                  rw [hmi, Int.toNat_natCast] at hct2
                  rw [hmi] at HR1 c1
                  obtain ⟨lg, lo, rfl, hlg, hcl⟩ : ∃ lg lo, la = some ⟨lg, lo, none⟩ ∧ lg < w7.heap.size ∧ w7.cell? ⟨lg, lo + mi, none⟩ = some (.int .i64 (Bs.iz L mi)) := by
                    obtain ⟨a, c, e, _, h⟩ := H7.out.2.2.2.2
                    simp only [Value.slice.injEq] at e
                    obtain ⟨rfl, _, rfl⟩ := e
                    rcases h with h | ⟨g, o, rfl, hg, h⟩
                    · rw [h] at hmik; simp at hmik
                    · exact ⟨g, o, rfl, hg, h mi hmik⟩
                  obtain ⟨lx, hlxe⟩ : ∃ z, z = Bs.iz L mi := ⟨_, rfl⟩
                  rw [← hlxe] at hcl hct2 hlx
                  have hqH : qn.H = qk.H := by
                    rcases HMS.out.2.2.2.1.2.2.2 with ⟨h, _⟩ | ⟨h, _⟩ | ⟨_, _, h⟩
                    · omega
                    · omega
                    · exact h
                  have HKK := Lib.hid k7
                  have HQH := Lib.hid hqH
                  rw [k7] at c0
                  have hlt7 : wr.heap.size < w7.heap.size := World.block_lt_of_cell? w7 _ c0
                  have hltS : w.heap.size < w7.heap.size := World.block_lt_of_cell? w7 _ d0
                  have HV7 : Hid (w7.cell? ⟨wr.heap.size, 1, none⟩ = some (.int .i64 (mi : Int)) ∧ w7.cell? ⟨wr.heap.size, 2, none⟩ = some (.int .i64 x.x.m.b) ∧ w7.cell? ⟨w.heap.size, 0, none⟩ = some (.int .i64 b) ∧ w7.cell? ⟨w.heap.size, 1, none⟩ = some (.int .i64 v) ∧ w7.cell? ⟨lg, lo + mi, none⟩ = some (.int .i64 lx)) := ⟨c1, c2, d0, d1, hcl⟩
                  have HKP : Hid (∀ w8, Below (w7.drewN 1).heap.size (w7.drewN 1) w8 → w8.cell? ⟨wr.heap.size, 1, none⟩ = some (.int .i64 (mi : Int)) ∧ w8.cell? ⟨wr.heap.size, 2, none⟩ = some (.int .i64 x.x.m.b) ∧ w8.cell? ⟨w.heap.size, 0, none⟩ = some (.int .i64 b) ∧ w8.cell? ⟨w.heap.size, 1, none⟩ = some (.int .i64 v) ∧ w8.cell? ⟨lg, lo + mi, none⟩ = some (.int .i64 lx)) := fun w8 b8 =>
                    ⟨(World.cell?_of_block (w := w7.drewN 1) (b8.block _ hlt7)).trans c1, (World.cell?_of_block (w := w7.drewN 1) (b8.block _ hlt7)).trans c2, (World.cell?_of_block (w := w7.drewN 1) (b8.block _ hltS)).trans d0, (World.cell?_of_block (w := w7.drewN 1) (b8.block _ hltS)).trans d1, (World.cell?_of_block (w := w7.drewN 1) (b8.block _ hlg)).trans hcl⟩
                  have hrm : x.x.m.b.tmod b = 0 := by rw [Int.tmod_eq_emod_of_nonneg hmb0]; exact hct.1
                  have hwm : IntKind.i64.wrap 0 = 0 := rfl
                  have hbne : (b == 0) = false := by simp; omega
                  have hbne2 : ¬ b = 0 := by omega
                  have hmiL : (mi : Int) < (L.length : Int) := by omega
                  have hmi0 : (0 : Int) ≤ (mi : Int) := by omega
                  have HCC := Lib.hid c0
                  clear hqH k7 k4 k5 k68 hrg hct hlok hlxe hmi hmi0' hmi1' hcl
                  by_cases hnb0 : (x.x.D.length : Int) = b
                  · as_aux_lemma =>
                    have HNB := Lib.hid hnb0
                    clear hct2 hnb0
                    go_upto_region 35 with (first | (go_at_call 11; refine (numLT _ _).mono ?_; rintro e w9 ⟨rfl, rfl⟩))
                    refine wp_region_held_drew (S := fun u => u.cell? ⟨wr.heap.size, 1, none⟩ = some (.int .i64 (mi : Int)) ∧ u.cell? ⟨wr.heap.size, 2, none⟩ = some (.int .i64 x.x.m.b) ∧ u.cell? ⟨w.heap.size, 0, none⟩ = some (.int .i64 b) ∧ u.cell? ⟨w.heap.size, 1, none⟩ = some (.int .i64 v) ∧ u.cell? ⟨lg, lo + mi, none⟩ = some (.int .i64 lx)) (by kernel_rfl) (HV7.out) (fun hHeld => ?_)
                    refine wpAnyH_take (i := 0) (v := .agg #[.int .i64 b, .int .i64 v]) rfl (by kernel_rfl) (by kernel_rfl) (by kernel_rfl) (fun _ _ _ h => h) (Or.inl ⟨by rfl, fun w hw => by have hq := hw.2.2.1; have hq1 := hw.2.2.2.1; go_simp⟩) hHeld ?_
                    simp only [Act.put, List.getElem_toArray, List.getElem_cons_zero, List.setIfInBounds_toArray, List.set_cons_zero, List.set_cons_succ]
                    refine wpAnyH_take (i := 1) (v := .slice (some ⟨lg, lo, none⟩) L.length lc) rfl (by kernel_rfl) (by kernel_rfl) (by kernel_rfl) (fun _ _ _ h => h) (Or.inl ⟨by rfl, fun w hw => by go_simp⟩) hHeld ?_
                    simp only [Act.put, List.getElem_toArray, List.getElem_cons_zero, List.getElem_cons_succ, List.setIfInBounds_toArray, List.set_cons_zero, List.set_cons_succ]
                    refine wpAnyH_take (i := 2) (v := .pointer (some ⟨wr.heap.size, 1, none⟩)) rfl (by kernel_rfl) (by kernel_rfl) (by kernel_rfl) (fun _ _ _ h => h) (Or.inl ⟨by rfl, fun w hw => by go_simp⟩) hHeld ?_
                    simp only [Act.put, List.getElem_toArray, List.getElem_cons_zero, List.getElem_cons_succ, List.setIfInBounds_toArray, List.set_cons_zero, List.set_cons_succ]
                    refine wpAnyH_take (i := 3) (v := .int .i64 (mi : Int)) rfl (by kernel_rfl) (by kernel_rfl) (by kernel_rfl) (fun _ _ _ h => h) (Or.inl ⟨by rfl, fun w hw => by have hq := hw.1; go_simp⟩) hHeld ?_
                    simp only [Act.put, List.getElem_toArray, List.getElem_cons_zero, List.getElem_cons_succ, List.setIfInBounds_toArray, List.set_cons_zero, List.set_cons_succ]
                    refine wpAnyH_take (i := 4) (v := .pointer (some ⟨wr.heap.size, 2, none⟩)) rfl (by kernel_rfl) (by kernel_rfl) (by kernel_rfl) (fun _ _ _ h => h) (Or.inl ⟨by rfl, fun w hw => by go_simp⟩) hHeld ?_
                    simp only [Act.put, List.getElem_toArray, List.getElem_cons_zero, List.getElem_cons_succ, List.setIfInBounds_toArray, List.set_cons_zero, List.set_cons_succ]
                    refine wpAnyH_take (i := 5) (v := .int .i64 x.x.m.b) rfl (by kernel_rfl) (by kernel_rfl) (by kernel_rfl) (fun _ _ _ h => h) (Or.inl ⟨by rfl, fun w hw => by have hq := hw.2.1; go_simp⟩) hHeld ?_
                    simp only [Act.put, List.getElem_toArray, List.getElem_cons_zero, List.getElem_cons_succ, List.setIfInBounds_toArray, List.set_cons_zero, List.set_cons_succ]
                    refine wpAnyH_take (i := 6) (v := .int .i64 (x.x.D.length : Int)) rfl (by kernel_rfl) (by kernel_rfl) (by kernel_rfl) (fun _ _ _ h => h) (Or.inl ⟨by rfl, fun w hw => by go_simp⟩) hHeld ?_
                    simp only [Act.put, List.getElem_toArray, List.getElem_cons_zero, List.getElem_cons_succ, List.setIfInBounds_toArray, List.set_cons_zero, List.set_cons_succ]
                    refine wpAnyH_ready (rs := [7]) (by kernel_rfl) (by simp) ?_
                    refine AllReadyH.cons (o := _) rfl (fun K hK => ?_) AllReadyH.nil
                    go_simp
                    refine (HR1.out).mono ?_
                    rintro e w8 ⟨rfl, b8⟩
                    have HV8 := Lib.hid (HKP.out w8 b8)
                    have HB8 := Lib.hid b8
                    clear b8
                    go_wp2_with fail
                    refine hK.out _ _ (HV8.out) (fun hHeld => ?_)
                    clear hK K
                    refine wpAnyH_take (i := 8) (v := .bool false) rfl (by kernel_rfl) (by kernel_rfl) (by kernel_rfl) (fun _ _ _ h => h) (Or.inl ⟨by rfl, fun w hw => by go_simp⟩) hHeld ?_
                    simp only [Act.put, List.getElem_toArray, List.getElem_cons_zero, List.getElem_cons_succ, List.setIfInBounds_toArray, List.set_cons_zero, List.set_cons_succ]
                    refine wpAnyH_take (i := 9) (v := .bool false) rfl (by kernel_rfl) (by kernel_rfl) (by kernel_rfl) (fun _ _ _ h => h) (Or.inl ⟨by rfl, fun w hw => by go_simp⟩) hHeld ?_
                    simp only [Act.put, List.getElem_toArray, List.getElem_cons_zero, List.getElem_cons_succ, List.setIfInBounds_toArray, List.set_cons_zero, List.set_cons_succ]
                    refine wpAnyH_take (i := 10) (v := .pointer (some ⟨wr.heap.size, 2, none⟩)) rfl (by kernel_rfl) (by kernel_rfl) (by kernel_rfl) (fun _ _ _ h => h) (Or.inl ⟨by rfl, fun w hw => by go_simp⟩) hHeld ?_
                    simp only [Act.put, List.getElem_toArray, List.getElem_cons_zero, List.getElem_cons_succ, List.setIfInBounds_toArray, List.set_cons_zero, List.set_cons_succ]
                    refine wpAnyH_take (i := 11) (v := .int .i64 x.x.m.b) rfl (by kernel_rfl) (by kernel_rfl) (by kernel_rfl) (fun _ _ _ h => h) (Or.inl ⟨by rfl, fun w hw => by have hq := hw.2.1; go_simp⟩) hHeld ?_
                    simp only [Act.put, List.getElem_toArray, List.getElem_cons_zero, List.getElem_cons_succ, List.setIfInBounds_toArray, List.set_cons_zero, List.set_cons_succ]
                    refine wpAnyH_take (i := 12) (v := .pointer (some ⟨w.heap.size, 0, none⟩)) rfl (by kernel_rfl) (by kernel_rfl) (by kernel_rfl) (fun _ _ _ h => h) (Or.inl ⟨by rfl, fun w hw => by go_simp⟩) hHeld ?_
                    simp only [Act.put, List.getElem_toArray, List.getElem_cons_zero, List.getElem_cons_succ, List.setIfInBounds_toArray, List.set_cons_zero, List.set_cons_succ]
                    refine wpAnyH_take (i := 13) (v := .int .i64 b) rfl (by kernel_rfl) (by kernel_rfl) (by kernel_rfl) (fun _ _ _ h => h) (Or.inl ⟨by rfl, fun w hw => by have hq := hw.2.2.1; go_simp⟩) hHeld ?_
                    simp only [Act.put, List.getElem_toArray, List.getElem_cons_zero, List.getElem_cons_succ, List.setIfInBounds_toArray, List.set_cons_zero, List.set_cons_succ]
                    refine wpAnyH_take (i := 14) (v := .int .i64 0) rfl (by kernel_rfl) (by kernel_rfl) (by kernel_rfl) (fun _ _ _ h => h) (Or.inl ⟨by rfl, fun w hw => by have hq1 := hrm; have hq2 := hwm; have hq3 := hbne; have hq4 : ¬ b = 0 := hbne2; go_simp⟩) hHeld ?_
                    simp only [Act.put, List.getElem_toArray, List.getElem_cons_zero, List.getElem_cons_succ, List.setIfInBounds_toArray, List.set_cons_zero, List.set_cons_succ]
                    refine wpAnyH_take (i := 15) (v := .bool false) rfl (by kernel_rfl) (by kernel_rfl) (by kernel_rfl) (fun _ _ _ h => h) (Or.inl ⟨by rfl, fun w hw => by go_simp⟩) hHeld ?_
                    simp only [Act.put, List.getElem_toArray, List.getElem_cons_zero, List.getElem_cons_succ, List.setIfInBounds_toArray, List.set_cons_zero, List.set_cons_succ]
                    refine wpAnyH_take (i := 16) (v := .bool false) rfl (by kernel_rfl) (by kernel_rfl) (by kernel_rfl) (fun _ _ _ h => h) (Or.inl ⟨by rfl, fun w hw => by go_simp⟩) hHeld ?_
                    simp only [Act.put, List.getElem_toArray, List.getElem_cons_zero, List.getElem_cons_succ, List.setIfInBounds_toArray, List.set_cons_zero, List.set_cons_succ]
                    refine wpAnyH_take (i := 17) (v := .bool false) rfl (by kernel_rfl) (by kernel_rfl) (by kernel_rfl) (fun _ _ _ h => h) (Or.inl ⟨by rfl, fun w hw => by go_simp⟩) hHeld ?_
                    simp only [Act.put, List.getElem_toArray, List.getElem_cons_zero, List.getElem_cons_succ, List.setIfInBounds_toArray, List.set_cons_zero, List.set_cons_succ]
                    refine wpAnyH_take (i := 18) (v := .int .i64 (x.x.D.length : Int)) rfl (by kernel_rfl) (by kernel_rfl) (by kernel_rfl) (fun _ _ _ h => h) (Or.inl ⟨by rfl, fun w hw => by go_simp⟩) hHeld ?_
                    simp only [Act.put, List.getElem_toArray, List.getElem_cons_zero, List.getElem_cons_succ, List.setIfInBounds_toArray, List.set_cons_zero, List.set_cons_succ]
                    refine wpAnyH_take (i := 19) (v := .pointer (some ⟨w.heap.size, 0, none⟩)) rfl (by kernel_rfl) (by kernel_rfl) (by kernel_rfl) (fun _ _ _ h => h) (Or.inl ⟨by rfl, fun w hw => by go_simp⟩) hHeld ?_
                    simp only [Act.put, List.getElem_toArray, List.getElem_cons_zero, List.getElem_cons_succ, List.setIfInBounds_toArray, List.set_cons_zero, List.set_cons_succ]
                    refine wpAnyH_take (i := 20) (v := .int .i64 b) rfl (by kernel_rfl) (by kernel_rfl) (by kernel_rfl) (fun _ _ _ h => h) (Or.inl ⟨by rfl, fun w hw => by have hq := hw.2.2.1; go_simp⟩) hHeld ?_
                    simp only [Act.put, List.getElem_toArray, List.getElem_cons_zero, List.getElem_cons_succ, List.setIfInBounds_toArray, List.set_cons_zero, List.set_cons_succ]
                    refine wpAnyH_take (i := 21) (v := .bool false) rfl (by kernel_rfl) (by kernel_rfl) (by kernel_rfl) (fun _ _ _ h => h) (Or.inl ⟨by rfl, fun w hw => by have hq := HNB.out; go_simp⟩) hHeld ?_
                    simp only [Act.put, List.getElem_toArray, List.getElem_cons_zero, List.getElem_cons_succ, List.setIfInBounds_toArray, List.set_cons_zero, List.set_cons_succ]
                    refine wpAnyH_take (i := 22) (v := .bool false) rfl (by kernel_rfl) (by kernel_rfl) (by kernel_rfl) (fun _ _ _ h => h) (Or.inl ⟨by rfl, fun w hw => by go_simp⟩) hHeld ?_
                    simp only [Act.put, List.getElem_toArray, List.getElem_cons_zero, List.getElem_cons_succ, List.setIfInBounds_toArray, List.set_cons_zero, List.set_cons_succ]
                    refine wpAnyH_take (i := 23) (v := undef) rfl (by kernel_rfl) (by kernel_rfl) (by kernel_rfl) (fun _ _ _ h => h) (Or.inr ⟨by rfl, rfl⟩) hHeld ?_
                    simp only [Act.put, List.getElem_toArray, List.getElem_cons_zero, List.getElem_cons_succ, List.setIfInBounds_toArray, List.set_cons_zero, List.set_cons_succ]
                    refine wpAnyH_take (i := 24) (v := undef) rfl (by kernel_rfl) (by kernel_rfl) (by kernel_rfl) (fun _ _ _ h => h) (Or.inr ⟨by rfl, rfl⟩) hHeld ?_
                    simp only [Act.put, List.getElem_toArray, List.getElem_cons_zero, List.getElem_cons_succ, List.setIfInBounds_toArray, List.set_cons_zero, List.set_cons_succ]
                    refine wpAnyH_take (i := 25) (v := undef) rfl (by kernel_rfl) (by kernel_rfl) (by kernel_rfl) (fun _ _ _ h => h) (Or.inr ⟨by rfl, rfl⟩) hHeld ?_
                    simp only [Act.put, List.getElem_toArray, List.getElem_cons_zero, List.getElem_cons_succ, List.setIfInBounds_toArray, List.set_cons_zero, List.set_cons_succ]
                    refine wpAnyH_take (i := 26) (v := undef) rfl (by kernel_rfl) (by kernel_rfl) (by kernel_rfl) (fun _ _ _ h => h) (Or.inr ⟨by rfl, rfl⟩) hHeld ?_
                    simp only [Act.put, List.getElem_toArray, List.getElem_cons_zero, List.getElem_cons_succ, List.setIfInBounds_toArray, List.set_cons_zero, List.set_cons_succ]
                    refine wpAnyH_take (i := 27) (v := undef) rfl (by kernel_rfl) (by kernel_rfl) (by kernel_rfl) (fun _ _ _ h => h) (Or.inr ⟨by rfl, rfl⟩) hHeld ?_
                    simp only [Act.put, List.getElem_toArray, List.getElem_cons_zero, List.getElem_cons_succ, List.setIfInBounds_toArray, List.set_cons_zero, List.set_cons_succ]
                    refine wpAnyH_take (i := 28) (v := undef) rfl (by kernel_rfl) (by kernel_rfl) (by kernel_rfl) (fun _ _ _ h => h) (Or.inr ⟨by rfl, rfl⟩) hHeld ?_
                    simp only [Act.put, List.getElem_toArray, List.getElem_cons_zero, List.getElem_cons_succ, List.setIfInBounds_toArray, List.set_cons_zero, List.set_cons_succ]
                    refine wpAnyH_take (i := 29) (v := undef) rfl (by kernel_rfl) (by kernel_rfl) (by kernel_rfl) (fun _ _ _ h => h) (Or.inr ⟨by rfl, rfl⟩) hHeld ?_
                    simp only [Act.put, List.getElem_toArray, List.getElem_cons_zero, List.getElem_cons_succ, List.setIfInBounds_toArray, List.set_cons_zero, List.set_cons_succ]
                    refine wpAnyH_take (i := 30) (v := undef) rfl (by kernel_rfl) (by kernel_rfl) (by kernel_rfl) (fun _ _ _ h => h) (Or.inr ⟨by rfl, rfl⟩) hHeld ?_
                    simp only [Act.put, List.getElem_toArray, List.getElem_cons_zero, List.getElem_cons_succ, List.setIfInBounds_toArray, List.set_cons_zero, List.set_cons_succ]
                    refine wpAnyH_take (i := 31) (v := undef) rfl (by kernel_rfl) (by kernel_rfl) (by kernel_rfl) (fun _ _ _ h => h) (Or.inr ⟨by rfl, rfl⟩) hHeld ?_
                    simp only [Act.put, List.getElem_toArray, List.getElem_cons_zero, List.getElem_cons_succ, List.setIfInBounds_toArray, List.set_cons_zero, List.set_cons_succ]
                    refine wpAnyH_take (i := 32) (v := undef) rfl (by kernel_rfl) (by kernel_rfl) (by kernel_rfl) (fun _ _ _ h => h) (Or.inr ⟨by rfl, rfl⟩) hHeld ?_
                    simp only [Act.put, List.getElem_toArray, List.getElem_cons_zero, List.getElem_cons_succ, List.setIfInBounds_toArray, List.set_cons_zero, List.set_cons_succ]
                    refine wpAnyH_take (i := 33) (v := .bool false) rfl (by kernel_rfl) (by kernel_rfl) (by kernel_rfl) (fun _ _ _ h => h) (Or.inl ⟨by rfl, fun w hw => by go_simp⟩) hHeld ?_
                    simp only [Act.put, List.getElem_toArray, List.getElem_cons_zero, List.getElem_cons_succ, List.setIfInBounds_toArray, List.set_cons_zero, List.set_cons_succ]
                    refine wpAnyH_take (i := 34) (v := .bool false) rfl (by kernel_rfl) (by kernel_rfl) (by kernel_rfl) (fun _ _ _ h => h) (Or.inl ⟨by rfl, fun w hw => by go_simp⟩) hHeld ?_
                    simp only [Act.put, List.getElem_toArray, List.getElem_cons_zero, List.getElem_cons_succ, List.setIfInBounds_toArray, List.set_cons_zero, List.set_cons_succ]
                    refine wpAnyH_done (by kernel_rfl) ?_ _
                    clear hHeld
                    have c08 : w8.cell? ⟨wr.heap.size, 0, none⟩ = some (.int .i64 7) := (World.cell?_of_block (w := w7.drewN 1) (HB8.out.block _ hlt7)).trans c0
                    have HI8 : Hid (LG w4 L b xs q (i + 1) (.slice ha qk.H.length hc) qn w8) := by
                      have B8 := (belowN B7.out 1).trans (HB8.out.mono B7.out.size)
                      refine ⟨B8, ?_, by rw [HQH.out]; exact HHL.out, by rw [Nat.add_sub_cancel]; exact HMS.out.2.2.2.2.1⟩
                      rw [HQH.out]
                      exact (H7.out.1.keep (belowDrew _ 1)).keep HB8.out
                    have hkk := HKK.out
                    clear HR1 HKP HB8 HV8 HV7
                    go_upto_region 37 with (first | (go_at_call 11; refine (numLT _ _).mono ?_; rintro e w9 ⟨rfl, rfl⟩))
                    cases hqb : qk.b with
                    | true =>
                      go_wp2_with fail
                      exact ⟨⟨i + 1, qn, _, _, by omega, by go_num, by rw [HL.out, hqb]; simp, by rw [HQH.out], HI8⟩, by simp [intOf]; omega⟩
                    | false =>
                      go_wp2_with fail
                      exact ⟨⟨i + 1, qn, _, _, by omega, by go_num, by rw [HL.out, hqb]; simp [hkk], by rw [HQH.out], HI8⟩, by simp [intOf]; omega⟩
                  · as_aux_lemma =>
                    have hnb : decide ((x.x.D.length : Int) = b) = false := decide_eq_false hnb0
                    have hadd : IntKind.i64.wrap (x.x.m.b + (x.x.D.length : Int)) = lx := by
                      have h1 : x.x.m.b + (x.x.D.length : Int) = lx := by
                        rcases hct2 with h | h
                        · exact absurd h hnb0
                        · omega
                      rw [h1]
                      exact IntWalk.i64_in _ (by omega)
                    clear hct2
                    go_upto_region 35 with (first | (go_at_call 11; refine (numLT _ _).mono ?_; rintro e w9 ⟨rfl, rfl⟩))
                    refine wp_region_held_drew (S := fun u => u.cell? ⟨wr.heap.size, 1, none⟩ = some (.int .i64 (mi : Int)) ∧ u.cell? ⟨wr.heap.size, 2, none⟩ = some (.int .i64 x.x.m.b) ∧ u.cell? ⟨w.heap.size, 0, none⟩ = some (.int .i64 b) ∧ u.cell? ⟨w.heap.size, 1, none⟩ = some (.int .i64 v) ∧ u.cell? ⟨lg, lo + mi, none⟩ = some (.int .i64 lx)) (by kernel_rfl) (HV7.out) (fun hHeld => ?_)
                    refine wpAnyH_take (i := 0) (v := .agg #[.int .i64 b, .int .i64 v]) rfl (by kernel_rfl) (by kernel_rfl) (by kernel_rfl) (fun _ _ _ h => h) (Or.inl ⟨by rfl, fun w hw => by have hq := hw.2.2.1; have hq1 := hw.2.2.2.1; go_simp⟩) hHeld ?_
                    simp only [Act.put, List.getElem_toArray, List.getElem_cons_zero, List.setIfInBounds_toArray, List.set_cons_zero, List.set_cons_succ]
                    refine wpAnyH_take (i := 1) (v := .slice (some ⟨lg, lo, none⟩) L.length lc) rfl (by kernel_rfl) (by kernel_rfl) (by kernel_rfl) (fun _ _ _ h => h) (Or.inl ⟨by rfl, fun w hw => by go_simp⟩) hHeld ?_
                    simp only [Act.put, List.getElem_toArray, List.getElem_cons_zero, List.getElem_cons_succ, List.setIfInBounds_toArray, List.set_cons_zero, List.set_cons_succ]
                    refine wpAnyH_take (i := 2) (v := .pointer (some ⟨wr.heap.size, 1, none⟩)) rfl (by kernel_rfl) (by kernel_rfl) (by kernel_rfl) (fun _ _ _ h => h) (Or.inl ⟨by rfl, fun w hw => by go_simp⟩) hHeld ?_
                    simp only [Act.put, List.getElem_toArray, List.getElem_cons_zero, List.getElem_cons_succ, List.setIfInBounds_toArray, List.set_cons_zero, List.set_cons_succ]
                    refine wpAnyH_take (i := 3) (v := .int .i64 (mi : Int)) rfl (by kernel_rfl) (by kernel_rfl) (by kernel_rfl) (fun _ _ _ h => h) (Or.inl ⟨by rfl, fun w hw => by have hq := hw.1; go_simp⟩) hHeld ?_
                    simp only [Act.put, List.getElem_toArray, List.getElem_cons_zero, List.getElem_cons_succ, List.setIfInBounds_toArray, List.set_cons_zero, List.set_cons_succ]
                    refine wpAnyH_take (i := 4) (v := .pointer (some ⟨wr.heap.size, 2, none⟩)) rfl (by kernel_rfl) (by kernel_rfl) (by kernel_rfl) (fun _ _ _ h => h) (Or.inl ⟨by rfl, fun w hw => by go_simp⟩) hHeld ?_
                    simp only [Act.put, List.getElem_toArray, List.getElem_cons_zero, List.getElem_cons_succ, List.setIfInBounds_toArray, List.set_cons_zero, List.set_cons_succ]
                    refine wpAnyH_take (i := 5) (v := .int .i64 x.x.m.b) rfl (by kernel_rfl) (by kernel_rfl) (by kernel_rfl) (fun _ _ _ h => h) (Or.inl ⟨by rfl, fun w hw => by have hq := hw.2.1; go_simp⟩) hHeld ?_
                    simp only [Act.put, List.getElem_toArray, List.getElem_cons_zero, List.getElem_cons_succ, List.setIfInBounds_toArray, List.set_cons_zero, List.set_cons_succ]
                    refine wpAnyH_take (i := 6) (v := .int .i64 (x.x.D.length : Int)) rfl (by kernel_rfl) (by kernel_rfl) (by kernel_rfl) (fun _ _ _ h => h) (Or.inl ⟨by rfl, fun w hw => by go_simp⟩) hHeld ?_
                    simp only [Act.put, List.getElem_toArray, List.getElem_cons_zero, List.getElem_cons_succ, List.setIfInBounds_toArray, List.set_cons_zero, List.set_cons_succ]
                    refine wpAnyH_ready (rs := [7]) (by kernel_rfl) (by simp) ?_
                    refine AllReadyH.cons (o := _) rfl (fun K hK => ?_) AllReadyH.nil
                    go_simp
                    refine (HR1.out).mono ?_
                    rintro e w8 ⟨rfl, b8⟩
                    have HV8 := Lib.hid (HKP.out w8 b8)
                    have HB8 := Lib.hid b8
                    clear b8
                    go_wp2_with fail
                    refine hK.out _ _ (HV8.out) (fun hHeld => ?_)
                    clear hK K
                    refine wpAnyH_take (i := 8) (v := .bool false) rfl (by kernel_rfl) (by kernel_rfl) (by kernel_rfl) (fun _ _ _ h => h) (Or.inl ⟨by rfl, fun w hw => by go_simp⟩) hHeld ?_
                    simp only [Act.put, List.getElem_toArray, List.getElem_cons_zero, List.getElem_cons_succ, List.setIfInBounds_toArray, List.set_cons_zero, List.set_cons_succ]
                    refine wpAnyH_take (i := 9) (v := .bool false) rfl (by kernel_rfl) (by kernel_rfl) (by kernel_rfl) (fun _ _ _ h => h) (Or.inl ⟨by rfl, fun w hw => by go_simp⟩) hHeld ?_
                    simp only [Act.put, List.getElem_toArray, List.getElem_cons_zero, List.getElem_cons_succ, List.setIfInBounds_toArray, List.set_cons_zero, List.set_cons_succ]
                    refine wpAnyH_take (i := 10) (v := .pointer (some ⟨wr.heap.size, 2, none⟩)) rfl (by kernel_rfl) (by kernel_rfl) (by kernel_rfl) (fun _ _ _ h => h) (Or.inl ⟨by rfl, fun w hw => by go_simp⟩) hHeld ?_
                    simp only [Act.put, List.getElem_toArray, List.getElem_cons_zero, List.getElem_cons_succ, List.setIfInBounds_toArray, List.set_cons_zero, List.set_cons_succ]
                    refine wpAnyH_take (i := 11) (v := .int .i64 x.x.m.b) rfl (by kernel_rfl) (by kernel_rfl) (by kernel_rfl) (fun _ _ _ h => h) (Or.inl ⟨by rfl, fun w hw => by have hq := hw.2.1; go_simp⟩) hHeld ?_
                    simp only [Act.put, List.getElem_toArray, List.getElem_cons_zero, List.getElem_cons_succ, List.setIfInBounds_toArray, List.set_cons_zero, List.set_cons_succ]
                    refine wpAnyH_take (i := 12) (v := .pointer (some ⟨w.heap.size, 0, none⟩)) rfl (by kernel_rfl) (by kernel_rfl) (by kernel_rfl) (fun _ _ _ h => h) (Or.inl ⟨by rfl, fun w hw => by go_simp⟩) hHeld ?_
                    simp only [Act.put, List.getElem_toArray, List.getElem_cons_zero, List.getElem_cons_succ, List.setIfInBounds_toArray, List.set_cons_zero, List.set_cons_succ]
                    refine wpAnyH_take (i := 13) (v := .int .i64 b) rfl (by kernel_rfl) (by kernel_rfl) (by kernel_rfl) (fun _ _ _ h => h) (Or.inl ⟨by rfl, fun w hw => by have hq := hw.2.2.1; go_simp⟩) hHeld ?_
                    simp only [Act.put, List.getElem_toArray, List.getElem_cons_zero, List.getElem_cons_succ, List.setIfInBounds_toArray, List.set_cons_zero, List.set_cons_succ]
                    refine wpAnyH_take (i := 14) (v := .int .i64 0) rfl (by kernel_rfl) (by kernel_rfl) (by kernel_rfl) (fun _ _ _ h => h) (Or.inl ⟨by rfl, fun w hw => by have hq1 := hrm; have hq2 := hwm; have hq3 := hbne; have hq4 : ¬ b = 0 := hbne2; go_simp⟩) hHeld ?_
                    simp only [Act.put, List.getElem_toArray, List.getElem_cons_zero, List.getElem_cons_succ, List.setIfInBounds_toArray, List.set_cons_zero, List.set_cons_succ]
                    refine wpAnyH_take (i := 15) (v := .bool false) rfl (by kernel_rfl) (by kernel_rfl) (by kernel_rfl) (fun _ _ _ h => h) (Or.inl ⟨by rfl, fun w hw => by go_simp⟩) hHeld ?_
                    simp only [Act.put, List.getElem_toArray, List.getElem_cons_zero, List.getElem_cons_succ, List.setIfInBounds_toArray, List.set_cons_zero, List.set_cons_succ]
                    refine wpAnyH_take (i := 16) (v := .bool false) rfl (by kernel_rfl) (by kernel_rfl) (by kernel_rfl) (fun _ _ _ h => h) (Or.inl ⟨by rfl, fun w hw => by go_simp⟩) hHeld ?_
                    simp only [Act.put, List.getElem_toArray, List.getElem_cons_zero, List.getElem_cons_succ, List.setIfInBounds_toArray, List.set_cons_zero, List.set_cons_succ]
                    refine wpAnyH_take (i := 17) (v := .bool false) rfl (by kernel_rfl) (by kernel_rfl) (by kernel_rfl) (fun _ _ _ h => h) (Or.inl ⟨by rfl, fun w hw => by go_simp⟩) hHeld ?_
                    simp only [Act.put, List.getElem_toArray, List.getElem_cons_zero, List.getElem_cons_succ, List.setIfInBounds_toArray, List.set_cons_zero, List.set_cons_succ]
                    refine wpAnyH_take (i := 18) (v := .int .i64 (x.x.D.length : Int)) rfl (by kernel_rfl) (by kernel_rfl) (by kernel_rfl) (fun _ _ _ h => h) (Or.inl ⟨by rfl, fun w hw => by go_simp⟩) hHeld ?_
                    simp only [Act.put, List.getElem_toArray, List.getElem_cons_zero, List.getElem_cons_succ, List.setIfInBounds_toArray, List.set_cons_zero, List.set_cons_succ]
                    refine wpAnyH_take (i := 19) (v := .pointer (some ⟨w.heap.size, 0, none⟩)) rfl (by kernel_rfl) (by kernel_rfl) (by kernel_rfl) (fun _ _ _ h => h) (Or.inl ⟨by rfl, fun w hw => by go_simp⟩) hHeld ?_
                    simp only [Act.put, List.getElem_toArray, List.getElem_cons_zero, List.getElem_cons_succ, List.setIfInBounds_toArray, List.set_cons_zero, List.set_cons_succ]
                    refine wpAnyH_take (i := 20) (v := .int .i64 b) rfl (by kernel_rfl) (by kernel_rfl) (by kernel_rfl) (fun _ _ _ h => h) (Or.inl ⟨by rfl, fun w hw => by have hq := hw.2.2.1; go_simp⟩) hHeld ?_
                    simp only [Act.put, List.getElem_toArray, List.getElem_cons_zero, List.getElem_cons_succ, List.setIfInBounds_toArray, List.set_cons_zero, List.set_cons_succ]
                    refine wpAnyH_take (i := 21) (v := .bool true) rfl (by kernel_rfl) (by kernel_rfl) (by kernel_rfl) (fun _ _ _ h => h) (Or.inl ⟨by rfl, fun w hw => by have hq := hnb; go_simp⟩) hHeld ?_
                    simp only [Act.put, List.getElem_toArray, List.getElem_cons_zero, List.getElem_cons_succ, List.setIfInBounds_toArray, List.set_cons_zero, List.set_cons_succ]
                    refine wpAnyH_take (i := 22) (v := .bool true) rfl (by kernel_rfl) (by kernel_rfl) (by kernel_rfl) (fun _ _ _ h => h) (Or.inl ⟨by rfl, fun w hw => by go_simp⟩) hHeld ?_
                    simp only [Act.put, List.getElem_toArray, List.getElem_cons_zero, List.getElem_cons_succ, List.setIfInBounds_toArray, List.set_cons_zero, List.set_cons_succ]
                    refine wpAnyH_take (i := 23) (v := .pointer (some ⟨wr.heap.size, 2, none⟩)) rfl (by kernel_rfl) (by kernel_rfl) (by kernel_rfl) (fun _ _ _ h => h) (Or.inl ⟨by rfl, fun w hw => by go_simp⟩) hHeld ?_
                    simp only [Act.put, List.getElem_toArray, List.getElem_cons_zero, List.getElem_cons_succ, List.setIfInBounds_toArray, List.set_cons_zero, List.set_cons_succ]
                    refine wpAnyH_take (i := 24) (v := .int .i64 x.x.m.b) rfl (by kernel_rfl) (by kernel_rfl) (by kernel_rfl) (fun _ _ _ h => h) (Or.inl ⟨by rfl, fun w hw => by have hq := hw.2.1; go_simp⟩) hHeld ?_
                    simp only [Act.put, List.getElem_toArray, List.getElem_cons_zero, List.getElem_cons_succ, List.setIfInBounds_toArray, List.set_cons_zero, List.set_cons_succ]
                    refine wpAnyH_take (i := 25) (v := .int .i64 (x.x.D.length : Int)) rfl (by kernel_rfl) (by kernel_rfl) (by kernel_rfl) (fun _ _ _ h => h) (Or.inl ⟨by rfl, fun w hw => by go_simp⟩) hHeld ?_
                    simp only [Act.put, List.getElem_toArray, List.getElem_cons_zero, List.getElem_cons_succ, List.setIfInBounds_toArray, List.set_cons_zero, List.set_cons_succ]
                    refine wpAnyH_take (i := 26) (v := .int .i64 lx) rfl (by kernel_rfl) (by kernel_rfl) (by kernel_rfl) (fun _ _ _ h => h) (Or.inl ⟨by rfl, fun w hw => by have hq := hadd; go_simp⟩) hHeld ?_
                    simp only [Act.put, List.getElem_toArray, List.getElem_cons_zero, List.getElem_cons_succ, List.setIfInBounds_toArray, List.set_cons_zero, List.set_cons_succ]
                    refine wpAnyH_take (i := 27) (v := .slice (some ⟨lg, lo, none⟩) L.length lc) rfl (by kernel_rfl) (by kernel_rfl) (by kernel_rfl) (fun _ _ _ h => h) (Or.inl ⟨by rfl, fun w hw => by go_simp⟩) hHeld ?_
                    simp only [Act.put, List.getElem_toArray, List.getElem_cons_zero, List.getElem_cons_succ, List.setIfInBounds_toArray, List.set_cons_zero, List.set_cons_succ]
                    refine wpAnyH_take (i := 28) (v := .pointer (some ⟨wr.heap.size, 1, none⟩)) rfl (by kernel_rfl) (by kernel_rfl) (by kernel_rfl) (fun _ _ _ h => h) (Or.inl ⟨by rfl, fun w hw => by go_simp⟩) hHeld ?_
                    simp only [Act.put, List.getElem_toArray, List.getElem_cons_zero, List.getElem_cons_succ, List.setIfInBounds_toArray, List.set_cons_zero, List.set_cons_succ]
                    refine wpAnyH_take (i := 29) (v := .int .i64 (mi : Int)) rfl (by kernel_rfl) (by kernel_rfl) (by kernel_rfl) (fun _ _ _ h => h) (Or.inl ⟨by rfl, fun w hw => by have hq := hw.1; go_simp⟩) hHeld ?_
                    simp only [Act.put, List.getElem_toArray, List.getElem_cons_zero, List.getElem_cons_succ, List.setIfInBounds_toArray, List.set_cons_zero, List.set_cons_succ]
                    refine wpAnyH_take (i := 30) (v := .pointer (some ⟨lg, lo + mi, none⟩)) rfl (by kernel_rfl) (by kernel_rfl) (by kernel_rfl) (fun _ _ _ h => h) (Or.inl ⟨by rfl, fun w hw => by have hq := hmiL; have hq2 := hmi0; go_simp⟩) hHeld ?_
                    simp only [Act.put, List.getElem_toArray, List.getElem_cons_zero, List.getElem_cons_succ, List.setIfInBounds_toArray, List.set_cons_zero, List.set_cons_succ]
                    refine wpAnyH_take (i := 31) (v := .int .i64 lx) rfl (by kernel_rfl) (by kernel_rfl) (by kernel_rfl) (fun _ _ _ h => h) (Or.inl ⟨by rfl, fun w hw => by have hq := hw.2.2.2.2; go_simp⟩) hHeld ?_
                    simp only [Act.put, List.getElem_toArray, List.getElem_cons_zero, List.getElem_cons_succ, List.setIfInBounds_toArray, List.set_cons_zero, List.set_cons_succ]
                    refine wpAnyH_take (i := 32) (v := .bool false) rfl (by kernel_rfl) (by kernel_rfl) (by kernel_rfl) (fun _ _ _ h => h) (Or.inl ⟨by rfl, fun w hw => by go_simp⟩) hHeld ?_
                    simp only [Act.put, List.getElem_toArray, List.getElem_cons_zero, List.getElem_cons_succ, List.setIfInBounds_toArray, List.set_cons_zero, List.set_cons_succ]
                    refine wpAnyH_take (i := 33) (v := .bool false) rfl (by kernel_rfl) (by kernel_rfl) (by kernel_rfl) (fun _ _ _ h => h) (Or.inl ⟨by rfl, fun w hw => by go_simp⟩) hHeld ?_
                    simp only [Act.put, List.getElem_toArray, List.getElem_cons_zero, List.getElem_cons_succ, List.setIfInBounds_toArray, List.set_cons_zero, List.set_cons_succ]
                    refine wpAnyH_take (i := 34) (v := .bool false) rfl (by kernel_rfl) (by kernel_rfl) (by kernel_rfl) (fun _ _ _ h => h) (Or.inl ⟨by rfl, fun w hw => by go_simp⟩) hHeld ?_
                    simp only [Act.put, List.getElem_toArray, List.getElem_cons_zero, List.getElem_cons_succ, List.setIfInBounds_toArray, List.set_cons_zero, List.set_cons_succ]
                    refine wpAnyH_done (by kernel_rfl) ?_ _
                    clear hHeld
                    have c08 : w8.cell? ⟨wr.heap.size, 0, none⟩ = some (.int .i64 7) := (World.cell?_of_block (w := w7.drewN 1) (HB8.out.block _ hlt7)).trans c0
                    have HI8 : Hid (LG w4 L b xs q (i + 1) (.slice ha qk.H.length hc) qn w8) := by
                      have B8 := (belowN B7.out 1).trans (HB8.out.mono B7.out.size)
                      refine ⟨B8, ?_, by rw [HQH.out]; exact HHL.out, by rw [Nat.add_sub_cancel]; exact HMS.out.2.2.2.2.1⟩
                      rw [HQH.out]
                      exact (H7.out.1.keep (belowDrew _ 1)).keep HB8.out
                    have hkk := HKK.out
                    clear HR1 HKP HB8 HV8 HV7
                    go_upto_region 37 with (first | (go_at_call 11; refine (numLT _ _).mono ?_; rintro e w9 ⟨rfl, rfl⟩))
                    cases hqb : qk.b with
                    | true =>
                      go_wp2_with fail
                      exact ⟨⟨i + 1, qn, _, _, by omega, by go_num, by rw [HL.out, hqb]; simp, by rw [HQH.out], HI8⟩, by simp [intOf]; omega⟩
                    | false =>
                      go_wp2_with fail
                      exact ⟨⟨i + 1, qn, _, _, by omega, by go_num, by rw [HL.out, hqb]; simp [hkk], by rw [HQH.out], HI8⟩, by simp [intOf]; omega⟩
                · as_aux_lemma =>
                  have k6 : ¬ x.x.m.k = 6 := fun h => k68 (.inl h)
                  have k8 : ¬ x.x.m.k = 8 := fun h => k68 (.inr h)
                  have hqH : qn.H = qk.H := by
                    rcases HMS.out.2.2.2.1.2.2.2 with ⟨h, _⟩ | ⟨h, _⟩ | ⟨_, _, h⟩
                    · omega
                    · omega
                    · exact h
                  have HQH := Lib.hid hqH
                  have HI8 : Hid (LG w4 L b xs q (i + 1) (.slice ha qk.H.length hc) qn w7) := ⟨B7.out, by rw [HQH.out]; exact H7.out.1, by rw [HQH.out]; exact HHL.out, by rw [Nat.add_sub_cancel]; exact HMS.out.2.2.2.2.1⟩
                  clear hqH k68
                  go_upto_region 37 with (first | (go_at_call 11; refine (numLT _ _).mono ?_; rintro e w9 ⟨rfl, rfl⟩))
                  cases hqb : qk.b with
                  | true =>
                    go_wp2_with fail
                    exact ⟨⟨i + 1, qn, _, _, by omega, by go_num, by rw [HL.out, hqb]; simp, by rw [HQH.out], HI8⟩, by simp [intOf]; omega⟩
                  | false =>
                    by_cases hk0' : 0 ≤ x.x.m.k
                    · go_wp2_with fail
                      exact ⟨⟨i + 1, qn, _, _, by omega, by go_num, by rw [HL.out, hqb]; simp [hk0'], by rw [HQH.out], HI8⟩, by simp [intOf]; omega⟩
                    · go_wp2_with fail
                      exact ⟨⟨i + 1, qn, _, _, by omega, by go_num, by rw [HL.out, hqb]; simp [hk0'], by rw [HQH.out], HI8⟩, by simp [intOf]; omega⟩
      · obtain rfl : i = es.length := by omega
        have hfin := HEs.out.1.fin HEs.out.2.1 HEs.out.2.2
        have htr := HI.out.tr
        rw [hfin.1] at htr
        have hqq := tr_nil htr
        subst hqq
        have sd := HC4.out.2.2.2.2.2.1.keep (HI.out.bl.block g HC4.out.2.2.2.2.2.1.pk.lt) (fun k cs e => HI.out.bl.block k (Array.getElem?_eq_some_iff.1 e).1)
        have hbQ : 0 < Q.b := by rw [sd.b, HP.out.1]; have := HC4.out.2.2.2.2.2.2.2.1; omega
        have HSt := Lib.hid (stateT wr g Q sd.pk hbQ q.H sd.hs.rb sd.hl)
        rw [sd.sh] at HSt
        clear htr sd hbQ
        by_cases hpos : 0 < es.length
        · as_aux_lemma =>
          have hshv : (!met.isEmpty) = true := by rw [hfin.2]; exact decide_eq_true hpos
          rw [hshv] at HSt
          clear hfin hshv
          go_wp2_with fail
          refine HSt.out.mono ?_
          rintro e w5 ⟨v5, rfl, o5, b5⟩
          obtain ⟨a5, c5, rfl⟩ := o5.form
          obtain ⟨w6, hw6⟩ : ∃ x, x = w5.alloc (.cells #[.bool true, .bool (Q.why != 0), .int .i64 Q.why, .bool Q.wc, .bool Q.wi, .bool Q.ic, .bool Q.ii, .slice a5 q.H.length c5] 43) := ⟨_, rfl⟩
          have b6 : Below w5.heap.size w5 w6 := by rw [hw6]; exact (Below.refl _ _).alloc (Nat.le_refl _) _
          have HSM := Lib.hid (same (.slice a5 q.H.length c5) (.slice ha q.H.length hc) q.H w6 HI.out.hl (o5.rb.keep b6) ((HI.out.rb.keep b5).keep b6))
          have HB6 : Hid (Below w.heap.size w w6) := B4.out.trans ((HI.out.bl.trans ((b5.trans (b6.mono b5.size)).mono HI.out.bl.size)).mono B4.out.size)
          have cS : w6.cell? ⟨w5.heap.size, 0, none⟩ = some (.bool true) := by rw [hw6]; unfold World.cell?; rw [heapNew]; rfl
          have cT : w6.cell? ⟨w5.heap.size, 7, none⟩ = some (.slice a5 q.H.length c5) := by rw [hw6]; unfold World.cell?; rw [heapNew]; rfl
          clear o5 b5 b6 HSt
          go_upto_region 39 with fail
          rw [← hw6]
          clear hw6
          go_wp2_with (first | (go_at_call 23; refine HSM.out.mono ?_; rintro e w9 ⟨rfl, nq, rfl⟩))
          go_wp2
          go_ret
          exact ⟨by simp, belowN HB6.out nq⟩
        · as_aux_lemma =>
          have hshv : (!met.isEmpty) = false := by rw [hfin.2]; exact decide_eq_false hpos
          rw [hshv] at HSt
          clear hfin hshv
          go_wp2_with fail
          refine HSt.out.mono ?_
          rintro e w5 ⟨v5, rfl, o5, b5⟩
          obtain ⟨a5, c5, rfl⟩ := o5.form
          obtain ⟨w6, hw6⟩ : ∃ x, x = w5.alloc (.cells #[.bool false, .bool (Q.why != 0), .int .i64 Q.why, .bool Q.wc, .bool Q.wi, .bool Q.ic, .bool Q.ii, .slice a5 q.H.length c5] 43) := ⟨_, rfl⟩
          have b6 : Below w5.heap.size w5 w6 := by rw [hw6]; exact (Below.refl _ _).alloc (Nat.le_refl _) _
          have HSM := Lib.hid (same (.slice a5 q.H.length c5) (.slice ha q.H.length hc) q.H w6 HI.out.hl (o5.rb.keep b6) ((HI.out.rb.keep b5).keep b6))
          have HB6 : Hid (Below w.heap.size w w6) := B4.out.trans ((HI.out.bl.trans ((b5.trans (b6.mono b5.size)).mono HI.out.bl.size)).mono B4.out.size)
          have cS : w6.cell? ⟨w5.heap.size, 0, none⟩ = some (.bool false) := by rw [hw6]; unfold World.cell?; rw [heapNew]; rfl
          have cT : w6.cell? ⟨w5.heap.size, 7, none⟩ = some (.slice a5 q.H.length c5) := by rw [hw6]; unfold World.cell?; rw [heapNew]; rfl
          clear o5 b5 b6 HSt
          go_upto_region 39 with fail
          rw [← hw6]
          clear hw6
          go_wp2_with (first | (go_at_call 23; refine HSM.out.mono ?_; rintro e w9 ⟨rfl, nq, rfl⟩))
          go_wp2
          go_ret
          exact ⟨by simp, belowN HB6.out nq⟩
  · have hp := hpp.2 hE
    subst hp
    have q1 : (nwE b v L != 0) = true := by simp [hE]
    have HB2 := B2
    clear hpp hnew hE hsh c0 c1 HN HS1 HC0
    go_wp2_with (first | (go_at_call 11; refine (numLT _ _).mono ?_; rintro e w9 ⟨rfl, rfl⟩))
    go_wp2
    go_ret
    exact ⟨rfl, HB2.out⟩
end Go.Proofs.YtabjpffaleaoaaaGreatDoor
