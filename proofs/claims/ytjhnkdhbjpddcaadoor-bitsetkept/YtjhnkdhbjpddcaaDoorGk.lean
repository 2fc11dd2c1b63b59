import Derived.Test.YtjhnkdhbjpddcaaDoorGj
namespace Go.Proofs.YtjhnkdhbjpddcaaDoor
open Go.RowKit
theorem nine_bf : BF 9 (inn [8, 0] 2) [128, 128] := by
  refine ⟨rfl, fun i => ?_⟩
  rcases Nat.lt_or_ge i 16 with h | h
  · have : ∀ j : Fin 16, bit [128, 128] j.val = (decide (j.val < 9) && inn [8, 0] 2 j.val) := by decide
    exact this ⟨i, h⟩
  · rw [bit_beyond _ _ (by simpa using h)]
    have : ¬ i < 9 := by omega
    simp [this]
theorem nine_or {l : List UInt8} {er : Int} (h : OR 9 [8, 0] l er) : l = [128, 128] ∧ er = 0 := by
  refine h.unique (.inr ⟨rfl, fun k hk => ?_, nine_bf⟩)
  have : ∀ j : Fin 2, 0 ≤ iz [8, 0] j.val ∧ iz [8, 0] j.val < ((9 : Nat) : Int) := by decide
  exact this ⟨k, by simpa using hk⟩
theorem ones_ck : ck ((9 : Nat) : Int) [129, 128] = 0 := by decide
theorem ones_z : onZ [129, 128] = [0, 7, 8] := by decide
theorem rz_lit (w : World) (xs : List Int) : RZ (w.alloc (.cells (xs.map (Value.int .i64)).toArray 3)) (.slice (some ⟨w.heap.size, 0, none⟩) xs.length xs.length) xs := by
  refine .inr ⟨_, _, rfl, .inr ⟨w.heap.size, 0, rfl, by simp, fun i hi => ?_⟩⟩
  rw [cellH (heapNew w _), Nat.zero_add]
  simp [iz, List.getD, hi]
theorem rb_lit (w : World) (l : List UInt8) : RB (w.alloc (.cells (Lib.byteCells l).toArray 5)) (.slice (some ⟨w.heap.size, 0, none⟩) l.length l.length) l := by
  refine ⟨_, _, rfl, .inr ⟨w.heap.size, 0, rfl, by simp, fun i hi => ?_⟩⟩
  rw [cellH (heapNew w _), Nat.zero_add, getD_byt l i hi]
  simp [Lib.byteCells, hi]
theorem al_bel (W : World) (o : Obj) : Below W.heap.size W (W.alloc o) := (Below.refl _ _).alloc (Nat.le_refl _) _
theorem of9 (W : World) (ht : MT W) : Calls Tryd.prog 4 #[.int .i64 9, .slice (some ⟨W.heap.size, 0, none⟩) 2 2] (W.alloc (.cells #[.int .i64 8, .int .i64 0] 3)) fun e w' => ∃ a c, e = .returned (.tuple #[.slice a 2 c, .int .i64 0]) ∧ OW W.heap.size w' (.slice a 2 c) [128, 128] ∧ Below W.heap.size W w' := by
  refine (of17 9 (by omega) (.slice (some ⟨W.heap.size, 0, none⟩) 2 2) [8, 0] (W.alloc (.cells #[.int .i64 8, .int .i64 0] 3)) (rz_lit W [8, 0]) (by simp) (ht.keep (al_bel _ _))).mono ?_
  rintro e w' ⟨x, o, er, rfl, h1, h2, h3⟩
  obtain ⟨rfl, rfl⟩ := nine_or h2
  obtain ⟨a, c, rfl⟩ := h1.form
  have b := al_bel W (.cells #[.int .i64 8, .int .i64 0] 3)
  exact ⟨a, c, rfl, OW.mono h1 b.size, b.trans (h3.mono b.size)⟩
theorem ones9 (W : World) (ht : MT W) : Calls Tryd.prog 5 #[.int .i64 9, .slice (some ⟨W.heap.size, 0, none⟩) 2 2] (W.alloc (.cells #[.int .u8 129, .int .u8 128] 5)) fun e w' => ∃ a c, e = .returned (.tuple #[.slice a 3 c, .int .i64 0]) ∧ OZ W.heap.size w' (.slice a 3 c) [0, 7, 8] ∧ Below W.heap.size W w' := by
  refine (ones13 9 (by omega) (by omega) (.slice (some ⟨W.heap.size, 0, none⟩) 2 2) [129, 128] (W.alloc (.cells #[.int .u8 129, .int .u8 128] 5)) (rb_lit W [129, 128]) (ht.keep (al_bel _ _)) (by simp) ones_ck).mono ?_
  rintro e w' ⟨x, rfl, h1, h3⟩
  rw [ones_z] at h1
  obtain ⟨a, c, rfl⟩ := h1.form
  have b := al_bel W (.cells #[.int .u8 129, .int .u8 128] 5)
  exact ⟨a, c, rfl, ownsRow_base h1 b.size, b.trans (h3.mono b.size)⟩
/-- a list with two bytes behind it -/
theorem room_of {B : Nat} {w : World} {v : Value} {l : List UInt8} {x y : UInt8} {dn : Nat} (h : OW B w v (l ++ [x, y])) (hn : l.length = dn) : ∃ G cap, B ≤ G ∧ G < w.heap.size ∧ v = .slice (some ⟨G, 0, none⟩) (dn + 2) cap ∧ dn + 2 ≤ cap ∧ RB w (.slice (some ⟨G, 0, none⟩) dn cap) l ∧ w.cell? ⟨G, dn, none⟩ = some (.int .u8 (x.toNat : Int)) ∧ w.cell? ⟨G, dn + 1, none⟩ = some (.int .u8 (y.toNat : Int)) := by
  subst hn
  obtain ⟨a, c, e⟩ := h.form
  subst e
  have hlen : (l ++ [x, y]).length = l.length + 2 := by simp
  obtain ⟨G, rfl, hB, _, _⟩ := h.at 0 (by omega)
  have hlt := (h.blk G rfl).2
  have hcap : l.length + 2 ≤ c := by
    rcases h.2 with ⟨e, _⟩ | ⟨g, cap, cur, e, _, _, hnc, _⟩
    · cases e
    · simp only [Value.slice.injEq] at e
      rw [e.2.2]; omega
  have hc : ∀ k, k < l.length + 2 → w.cell? ⟨G, k, none⟩ = some (.int .u8 ((byt (l ++ [x, y]) k).toNat : Int)) := fun k hk => by
    obtain ⟨g', e, _, h1, _⟩ := h.at k (by omega)
    cases e
    exact h1
  refine ⟨G, c, hB, hlt, by rw [hlen], hcap, ⟨_, _, rfl, .inr ⟨G, 0, rfl, hlt, fun k hk => ?_⟩⟩, ?_, ?_⟩
  · rw [Nat.zero_add, hc k (by omega)]
    have : byt (l ++ [x, y]) k = byt l k := by simp [byt, List.getD, List.getElem?_append_left hk]
    rw [this]
  · rw [hc _ (by omega), byt_right _ _ _ (Nat.le_refl _)]; simp [byt]
  · rw [hc _ (by omega), byt_right _ _ _ (by omega)]; simp [byt]
theorem drewN2 (w : World) (a b : Nat) : (w.drewN a).drewN b = w.drewN (a + b) := by simp [World.drewN, Nat.add_assoc]
theorem row_cell {w : World} {B : Nat} {a : Option Addr} {n c : Nat} {xs : List Value} (h : w.ownsRow B 22 1 (.slice a n c) n xs) (hl : xs.length = n) (i : Nat) (hi : i < n) : ∃ g, a = some ⟨g, 0, none⟩ ∧ w.cell? ⟨g, i, none⟩ = some (xs.getD i nv) := by
  rcases h.2 with ⟨_, h2⟩ | ⟨g, cap, cur, h1, _⟩
  · omega
  · simp only [Value.slice.injEq] at h1
    obtain ⟨rfl, _, rfl⟩ := h1
    refine ⟨g, rfl, ?_⟩
    rw [World.ownsRow.cellAt h i (by omega)]
    have hi' : i < xs.length := by omega
    simp [List.getD, List.getElem?_eq_getElem hi']
theorem KP.same8 {w3 : World} {m : Nat} {l r : List UInt8} {i : Int} {av : Value} {vs : List Value} {kv : Value} {us : List Value} {L : List (List UInt8)} {k q : Nat} {wr : World} (h : KP w3 m l r i av vs kv us L k q wr) (j : Nat) (hj : j < k) : L.getD (j % 8) [] = L.getD j [] := by
  have h1 := h.ca j hj
  have h2 := h.ca (j % 8) (Nat.lt_of_le_of_lt (Nat.mod_le _ _) hj)
  rw [Nat.mod_mod] at h2
  exact CA.unique (Nat.mod_lt _ (by omega)) h2 h1
/-- the copies, once the answers are written over -/
structure KQ (w3 : World) (m : Nat) (l r : List UInt8) (i : Int) (kv : Value) (us : List Value) (L : List (List UInt8)) (wr : World) : Prop where
  kr : wr.ownsRow w3.heap.size 22 1 kv 24 us
  kl : us.length = 24
  ke : ∀ j, j < 24 → OW w3.heap.size wr (us.getD j nv) (L.getD j [])
  ca : ∀ j, j < 24 → CA (j % 8) m l r i (L.getD j [])
  bel : Below w3.heap.size w3 wr
theorem KQ.keep {w3 : World} {m : Nat} {l r : List UInt8} {i : Int} {kv : Value} {us : List Value} {L : List (List UInt8)} {wr w' : World} (h : KQ w3 m l r i kv us L wr) (hb : Below wr.heap.size wr w') : KQ w3 m l r i kv us L w' :=
  have f : Fr (fun _ => True) wr w' := Fr.of_below hb
  ⟨ownsRow_fr h.kr f (fun _ _ => trivial), h.kl, fun j hj => (h.ke j hj).fr f (fun _ _ => trivial), h.ca, h.bel.trans (hb.mono h.bel.size)⟩
theorem KP.after {w3 : World} {m : Nat} {l r : List UInt8} {i : Int} {av : Value} {vs : List Value} {kv : Value} {us : List Value} {L : List (List UInt8)} {wr w' : World} (h : KP w3 m l r i av vs kv us L 24 24 wr) (hf : Fr (fun k => ¬ bks vs k) wr w') : KQ w3 m l r i kv us L w' := by
  have hvl : vs.length = 24 := h.al.len.trans h.len
  have hbk : ∀ g, bks vs g → w3.heap.size ≤ g ∧ ∃ cs, wr.heap[g]? = some (.cells cs 5 (0, 0)) := fun g ⟨j, hj, hg⟩ => by
    have o := h.al.each j (by rw [h.len]; omega)
    exact ⟨(o.blk g hg).1, o.tag g hg⟩
  refine ⟨ownsRow_fr h.kr hf (fun g hg hb => ?_), h.kl, fun j hj => (h.ke j hj).fr hf (fun g hg hb => ?_), h.ca, ?_⟩
  · obtain ⟨_, t1⟩ := (ownsRow_lt h.kr g hg).2
    obtain ⟨_, _, t2⟩ := hbk g hb
    exact tag_ne t1 t2 (by decide) rfl
  · obtain ⟨p, hp, hpg⟩ := hb
    exact h.dis p j g (by omega) hj hpg hg
  · exact ⟨hf.os.trans h.bel.os, hf.tape.trans h.bel.tape, hf.output.trans h.bel.output, Nat.le_trans h.bel.size hf.size, fun k hk => (hf.block k (Nat.lt_of_lt_of_le hk h.bel.size) (fun hb => by have := (hbk k hb).1; omega)).trans (h.bel.block k hk)⟩
/-- two lists of the same bytes -/
def SP (w : World) (v u : Value) : Prop := ∃ T : List UInt8, T.length ≤ 140737488351232 ∧ RB w v T ∧ RB w u T
theorem SP.run {w : World} {v u : Value} (h : SP w v u) (n : Nat) : Calls Tryd.prog 6 #[v, u] (w.drewN n) fun e w' => e = .returned (.bool true) ∧ ∃ m, w' = w.drewN m := by
  obtain ⟨T, h1, h2, h3⟩ := h
  refine (same12 _ _ T (w.drewN n) h1 (h2.keep (belowDrew _ _)) (h3.keep (belowDrew _ _))).mono ?_
  rintro e w' ⟨rfl, m, rfl⟩
  exact ⟨rfl, n + m, drewN2 _ _ _⟩
set_option maxHeartbeats 8000000 in
set_option maxRecDepth 100000 in
theorem kept3 (n : Int) (h0 : -9223372036854775808 ≤ n) (h1 : n ≤ 9223372036854775807) (v u : Value) (l r : List UInt8) (i : Int) (g0 : -9223372036854775808 ≤ i) (g1 : i ≤ 9223372036854775807) (w : World) (hr : RB w v l) (hs : RB w u r) (ht : MT w) (hl : l.length ≤ 140737488351232) (hl2 : r.length ≤ 140737488351232) :
    Calls Tryd.prog 3 #[.int .i64 n, v, u, .int .i64 i] w fun e w' => e = .returned (.bool true) ∧ Below w.heap.size w w' := by
  have HW : Hid (RB w v l ∧ RB w u r ∧ MT w) := ⟨hr, hs, ht⟩
  have HK : Hid (∀ w', Below w.heap.size w w' → (Calls Tryd.prog 8 #[.int .i64 n, v] w' fun e w2 => e = .returned (.int .i64 (ck n l)) ∧ ∃ nq, w2 = w'.drewN nq) ∧ (Calls Tryd.prog 8 #[.int .i64 n, u] w' fun e w2 => e = .returned (.int .i64 (ck n r)) ∧ ∃ nq, w2 = w'.drewN nq) ∧ (Calls Tryd.prog 9 #[.int .i64 n, v, u] w' fun e w2 => ∃ v' o, e = .returned (.tuple #[v', .int .i64 (bE n l r)]) ∧ OW w'.heap.size w2 v' o ∧ JR n l r fA o ∧ Below w'.heap.size w' w2)) := fun w' hb =>
    ⟨check10 n h0 h1 v l w' (hr.keep hb) (ht.keep hb) hl, check10 n h0 h1 u r w' (hs.keep hb) (ht.keep hb) hl2, wrap27 n h0 h1 v u l r w' (hr.keep hb) (hs.keep hb) (ht.keep hb) hl hl2⟩
  obtain ⟨va, vc, hv, hr_⟩ := hr
  subst hv
  obtain ⟨ua, uc, hu, hs_⟩ := hs
  subst hu
  clear hr_ hs_ ht
  generalize hln : l.length = ln at *
  generalize hrn : r.length = rn at *
  have HLN : Hid (l.length = ln ∧ r.length = rn) := ⟨hln, hrn⟩
  clear hln hrn
  go_enter Tryd.func3, Tryd.ntmps3
  go_wp2_with fail
  refine (of9 w HW.out.2.2).mono ?_
  rintro e w1 ⟨a1, c1, rfl, o1, b1⟩
  have S1 : Hid (OW w.heap.size w1 (.slice a1 2 c1) [128, 128] ∧ Below w.heap.size w w1 ∧ MT w1) := ⟨o1, b1, HW.out.2.2.keep b1⟩
  clear o1 b1
  go_wp2_with fail
  refine (ones9 w1 S1.out.2.2).mono ?_
  rintro e w2 ⟨a2, c2, rfl, o2, b2⟩
  have S2 : Hid (OW w.heap.size w2 (.slice a1 2 c1) [128, 128] ∧ OZ w.heap.size w2 (.slice a2 3 c2) [0, 7, 8] ∧ Below w.heap.size w w2) := ⟨S1.out.1.grow b2, ownsRow_base o2 S1.out.2.1.size, S1.out.2.1.trans (b2.mono S1.out.2.1.size)⟩
  clear o2 b2 S1
  go_wp2_with fail
  have B3 := al_bel w2 (.cells #[.int .u8 128, .int .u8 128] 5)
  refine (same12 _ _ [128, 128] (w2.alloc (.cells #[.int .u8 128, .int .u8 128] 5)) (by simp) ((S2.out.1.grow B3).rb) (rb_lit w2 [128, 128])).mono ?_
  rintro e wx ⟨rfl, nq, rfl⟩
  have S3 : Hid (OZ w.heap.size ((w2.alloc (.cells #[.int .u8 128, .int .u8 128] 5)).drewN nq) (.slice a2 3 c2) [0, 7, 8] ∧ Below w.heap.size w ((w2.alloc (.cells #[.int .u8 128, .int .u8 128] 5)).drewN nq)) := ⟨(S2.out.2.1.grow B3).grow (belowDrew _ _), belowN (S2.out.2.2.trans (B3.mono S2.out.2.2.size)) nq⟩
  generalize (w2.alloc (.cells #[.int .u8 128, .int .u8 128] 5)).drewN nq = w3 at *
  clear S2 B3
  go_wp2_with fail
  have B4 := al_bel w3 (.cells #[.int .i64 0, .int .i64 7, .int .i64 8] 3)
  refine (same19 _ _ [0, 7, 8] (w3.alloc (.cells #[.int .i64 0, .int .i64 7, .int .i64 8] 3)) (by simp) ((S3.out.1.grow B4).rz) (rz_lit w3 [0, 7, 8])).mono ?_
  rintro e wx ⟨rfl, nq, rfl⟩
  have S4 : Hid (Below w.heap.size w ((w3.alloc (.cells #[.int .i64 0, .int .i64 7, .int .i64 8] 3)).drewN nq)) := belowN (S3.out.2.trans (B4.mono S3.out.2.size)) nq
  generalize (w3.alloc (.cells #[.int .i64 0, .int .i64 7, .int .i64 8] 3)).drewN nq = w4 at *
  clear S3 B4
  have HJ : Hid (bE n l r ≠ 0 → ∀ o, JR n l r fA o → o = []) := fun hb o ho => by
    rcases ho with ⟨_, e⟩ | ⟨e, _⟩
    · exact e
    · exact absurd e hb
  by_cases hk : ck n l = 0
  · by_cases hk2 : ck n r = 0
    · obtain ⟨m, hnm⟩ := Int.eq_ofNat_of_zero_le (show 0 ≤ n from (ck_ok hk).1)
      subst hnm
      have hm : m ≤ 65536 := by have := (ck_ok hk).2.1; omega
      have e8 : l.length = (m + 7) / 8 := by have := (ck_ok hk).2.2.1; simpa using this
      have e9 : r.length = (m + 7) / 8 := by have := (ck_ok hk2).2.2.1; simpa using this
      have hlr : rn = ln := by have := HLN.out; omega
      subst hlr
      have hb8 : rn ≤ 8192 := by have := HLN.out; omega
      have HM : Hid (ck m l = 0 ∧ ck m r = 0 ∧ m ≤ 65536) := ⟨hk, hk2, hm⟩
      rw [hk, hk2] at HK
      clear hk hk2 e8 e9 HJ
      go_wp2_with fail
      refine (HK.out _ S4.out).1.mono ?_
      rintro e wx ⟨rfl, nq, rfl⟩
      have S5 : Hid (Below w.heap.size w (w4.drewN nq)) := belowN S4.out nq
      generalize w4.drewN nq = w5 at *
      go_wp2_with fail
      refine (HK.out _ S5.out).2.1.mono ?_
      rintro e wx ⟨rfl, nq, rfl⟩
      have S6 : Hid (Below w.heap.size w (w5.drewN nq)) := belowN S5.out nq
      generalize w5.drewN nq = w6 at *
      clear S4 S5 HK
      have HC : Hid (∀ w', Below w.heap.size w w' → (Calls Tryd.prog 10 #[.slice va rn vc] w' fun e w2 => ∃ v, e = .returned v ∧ OW w'.heap.size w2 v l ∧ Below w'.heap.size w' w2) ∧ (Calls Tryd.prog 10 #[.slice ua rn uc] w' fun e w2 => ∃ v, e = .returned v ∧ OW w'.heap.size w2 v r ∧ Below w'.heap.size w' w2)) := fun w' hb => ⟨copied9 (HW.out.1.keep hb) (by rw [HLN.out.1]; omega), copied9 (HW.out.2.1.keep hb) (by rw [HLN.out.2]; omega)⟩
      go_wp2_with fail
      refine (HC.out _ S6.out).1.mono ?_
      rintro e w7 ⟨x, rfl, q1, q2⟩
      obtain ⟨xa, xc, hx⟩ := q1.form
      rw [HLN.out.1] at hx
      subst hx
      have BA := al_bel w7 (.cells #[.int .u8 201, .int .u8 202] 5)
      have HX : Hid (OW w6.heap.size (w7.alloc (.cells #[.int .u8 201, .int .u8 202] 5)) (.slice xa rn xc) l ∧ Below w6.heap.size w6 (w7.alloc (.cells #[.int .u8 201, .int .u8 202] 5)) ∧ RB (w7.alloc (.cells #[.int .u8 201, .int .u8 202] 5)) (.slice (some ⟨w7.heap.size, 0, none⟩) 2 2) [201, 202] ∧ l.length + ([201, 202] : List UInt8).length ≤ 140737488351232) := ⟨q1.grow BA, q2.trans (BA.mono q2.size), rb_lit w7 [201, 202], by rw [HLN.out.1]; simp; omega⟩
      clear q1 q2 BA
      go_wp2_with (at_builtin; refine append_bytesR rfl _ _ rfl rfl HX.out.1 rfl HX.out.2.2.1 HX.out.2.1.size HX.out.2.2.2 ?_; intro v8 w8 q1 q2; obtain ⟨G, gc, r1, r2, hv8, r3, r4, r5, r6⟩ := room_of q1 HLN.out.1; subst hv8; have S8 : Hid (Below w.heap.size w w8 ∧ RB w8 (.slice (some ⟨G, 0, none⟩) rn gc) l ∧ w8.cell? ⟨G, rn, none⟩ = some (.int .u8 201) ∧ w8.cell? ⟨G, rn + 1, none⟩ = some (.int .u8 202) ∧ G < w8.heap.size) := ⟨S6.out.trans ((HX.out.2.1.trans q2).mono S6.out.size), r4, r5, r6, r2⟩; clear q1 q2 r1 r2 r4 r5 r6 HX)
      go_wp2_with fail
      refine (HC.out _ S8.out.1).2.mono ?_
      rintro e w9 ⟨x, rfl, q1, q2⟩
      obtain ⟨ya, yc, hx⟩ := q1.form
      rw [HLN.out.2] at hx
      subst hx
      have BA := al_bel w9 (.cells #[.int .u8 203, .int .u8 204] 5)
      have HX : Hid (OW w8.heap.size (w9.alloc (.cells #[.int .u8 203, .int .u8 204] 5)) (.slice ya rn yc) r ∧ Below w8.heap.size w8 (w9.alloc (.cells #[.int .u8 203, .int .u8 204] 5)) ∧ RB (w9.alloc (.cells #[.int .u8 203, .int .u8 204] 5)) (.slice (some ⟨w9.heap.size, 0, none⟩) 2 2) [203, 204] ∧ r.length + ([203, 204] : List UInt8).length ≤ 140737488351232) := ⟨q1.grow BA, q2.trans (BA.mono q2.size), rb_lit w9 [203, 204], by rw [HLN.out.2]; simp; omega⟩
      clear q1 q2 BA
      go_wp2_with (at_builtin; refine append_bytesR rfl _ _ rfl rfl HX.out.1 rfl HX.out.2.2.1 HX.out.2.1.size HX.out.2.2.2 ?_; intro v10 w10 q1 q2; obtain ⟨G2, gc2, r1, r2, hv10, s3, r4, r5, r6⟩ := room_of q1 HLN.out.2; subst hv10; have S10 : Hid (Below w.heap.size w w10 ∧ Below w8.heap.size w8 w10 ∧ RB w10 (.slice (some ⟨G2, 0, none⟩) rn gc2) r ∧ w10.cell? ⟨G2, rn, none⟩ = some (.int .u8 203) ∧ w10.cell? ⟨G2, rn + 1, none⟩ = some (.int .u8 204) ∧ G2 < w10.heap.size) := ⟨S8.out.1.trans ((HX.out.2.1.trans q2).mono S8.out.1.size), HX.out.2.1.trans q2, r4, r5, r6, r2⟩; clear q1 q2 r1 r2 r4 r5 r6 HX)
      have HXY : Hid ((RB w10 (.slice (some ⟨G, 0, none⟩) rn gc) l ∧ RB w10 (.slice (some ⟨G2, 0, none⟩) rn gc2) r) ∧ (w10.cell? ⟨G, rn, none⟩ = some (.int .u8 201) ∧ w10.cell? ⟨G, rn + 1, none⟩ = some (.int .u8 202) ∧ w10.cell? ⟨G2, rn, none⟩ = some (.int .u8 203) ∧ w10.cell? ⟨G2, rn + 1, none⟩ = some (.int .u8 204)) ∧ (G < w10.heap.size ∧ G2 < w10.heap.size) ∧ MT w10 ∧ Below w.heap.size w w10) :=
        ⟨⟨S8.out.2.1.keep S10.out.2.1, S10.out.2.2.1⟩, ⟨(S10.out.2.1.cell (p := ⟨G, rn, none⟩) S8.out.2.2.2.2).trans S8.out.2.2.1, (S10.out.2.1.cell (p := ⟨G, rn + 1, none⟩) S8.out.2.2.2.2).trans S8.out.2.2.2.1, S10.out.2.2.2.1, S10.out.2.2.2.2.1⟩, ⟨Nat.lt_of_lt_of_le S8.out.2.2.2.2 S10.out.2.1.size, S10.out.2.2.2.2.2⟩, HW.out.2.2.keep S10.out.1, S10.out.1⟩
      have HCALL : Hid (∀ w', Below w10.heap.size w10 w' → ∀ k : Nat, k < 8 → Calls Tryd.prog 11 #[.int .i64 (k : Int), .int .i64 (m : Int), .slice (some ⟨G, 0, none⟩) rn gc, .slice (some ⟨G2, 0, none⟩) rn gc2, .int .i64 i] w' (CallE k m l r i w')) := fun w' hb k hk => call11 k m hk HM.out.2.2 _ _ l r i g0 g1 w' (HXY.out.1.1.keep hb) (HXY.out.1.2.keep hb) (HXY.out.2.2.2.1.keep hb) (by rw [HLN.out.1]; omega) (by rw [HLN.out.2]; omega)
      obtain ⟨i1, hi1, hy0, hy1, hy2⟩ := info_parts info22
      have HY : Hid (Tryd.prog.info? 22 = some i1 ∧ i1.zero = some (.slice none 0 0) ∧ i1.size = 1 ∧ i1.bytes = 24) := ⟨hi1, hy0, hy1, hy2⟩
      clear S6 S8 S10 HC hi1 hy0 hy1 hy2
      go_wp2_with fail
      go_loopw [18, 19, 20] (fun x y t wr => ∃ (k : Nat) (aa : Option Addr) (ac : Nat) (ka : Option Addr) (kc : Nat) (vs us : List Value) (L : List (List UInt8)), k ≤ 24 ∧ x = .slice aa k ac ∧ y = .slice ka k kc ∧ t = .int .i64 k ∧ Hid (KP w10 m l r i (.slice aa k ac) vs (.slice ka k kc) us L k k wr)) (fun _ _ t _ => 24 - (intOf t).toNat)
      case atStart => exact ⟨0, none, 0, none, 0, [], [], [], by omega, rfl, rfl, rfl, KP.start w10 m l r i⟩
      case round =>
        obtain ⟨k, aa, ac, ka, kc, vs, us, L, hk, rfl, rfl, rfl, H⟩ := hrel
        by_cases hlt : k < 24
        · obtain ⟨k8, hk8n⟩ : ∃ k8, k8 = k % 8 := ⟨_, rfl⟩
          have hk8 : (k : Int) % 8 = (k8 : Int) := by omega
          have hk8l : k8 < 8 := by omega
          have HK8 : Hid (k8 = k % 8) := hk8n
          have hk8t : (k : Int).tmod 8 = (k8 : Int) := by rw [Int.tmod_eq_emod_of_nonneg (by omega)]; exact hk8
          have hf1 : (gc < rn) = False := eq_false (by omega)
          have hf2 : (gc2 < rn) = False := eq_false (by omega)
          have HD : Hid (KP w10 m l r i (.slice aa k ac) vs (.slice ka k kc) us L k k wr.drew) := H.out.keep (belowDrew wr 1)
          have HC8 : Hid (Calls Tryd.prog 11 #[.int .i64 (k8 : Int), .int .i64 (m : Int), .slice (some ⟨G, 0, none⟩) rn gc, .slice (some ⟨G2, 0, none⟩) rn gc2, .int .i64 i] wr.drew (CallE k8 m l r i wr.drew)) := HCALL.out wr.drew HD.out.bel k8 hk8l
          clear H
          clear hk8n
          go_wp2_with fail
          refine wp_region_held_drew (S := fun _ => True) (by kernel_rfl) (trivial) (fun hHeld => ?_)
          refine wpAnyH_take (i := 0) (v := .int .i64 (k : Int)) rfl (by kernel_rfl) (by kernel_rfl) (by kernel_rfl) (fun _ _ _ h => h) (Or.inl ⟨by rfl, fun w hw => by go_simp⟩) hHeld ?_
          simp only [Act.put, List.getElem_toArray, List.getElem_cons_zero, List.setIfInBounds_toArray, List.set_cons_zero, List.set_cons_succ]
          refine wpAnyH_take (i := 1) (v := .int .i64 (k8 : Int)) rfl (by kernel_rfl) (by kernel_rfl) (by kernel_rfl) (fun _ _ _ h => h) (Or.inl ⟨by rfl, fun w hw => by go_simp⟩) hHeld ?_
          simp only [Act.put, List.getElem_toArray, List.getElem_cons_zero, List.getElem_cons_succ, List.setIfInBounds_toArray, List.set_cons_zero, List.set_cons_succ]
          refine wpAnyH_take (i := 2) (v := .int .i64 (m : Int)) rfl (by kernel_rfl) (by kernel_rfl) (by kernel_rfl) (fun _ _ _ h => h) (Or.inl ⟨by rfl, fun w hw => by go_simp⟩) hHeld ?_
          simp only [Act.put, List.getElem_toArray, List.getElem_cons_zero, List.getElem_cons_succ, List.setIfInBounds_toArray, List.set_cons_zero, List.set_cons_succ]
          refine wpAnyH_take (i := 3) (v := .slice (some ⟨G, 0, none⟩) (rn + 2) gc) rfl (by kernel_rfl) (by kernel_rfl) (by kernel_rfl) (fun _ _ _ h => h) (Or.inl ⟨by rfl, fun w hw => by go_simp⟩) hHeld ?_
          simp only [Act.put, List.getElem_toArray, List.getElem_cons_zero, List.getElem_cons_succ, List.setIfInBounds_toArray, List.set_cons_zero, List.set_cons_succ]
          refine wpAnyH_take (i := 4) (v := .int .i64 (rn : Int)) rfl (by kernel_rfl) (by kernel_rfl) (by kernel_rfl) (fun _ _ _ h => h) (Or.inl ⟨by rfl, fun w hw => by go_simp⟩) hHeld ?_
          simp only [Act.put, List.getElem_toArray, List.getElem_cons_zero, List.getElem_cons_succ, List.setIfInBounds_toArray, List.set_cons_zero, List.set_cons_succ]
          refine wpAnyH_take (i := 5) (v := .slice (some ⟨G, 0, none⟩) rn gc) rfl (by kernel_rfl) (by kernel_rfl) (by kernel_rfl) (fun _ _ _ h => h) (Or.inl ⟨by rfl, fun w hw => by go_simp⟩) hHeld ?_
          simp only [Act.put, List.getElem_toArray, List.getElem_cons_zero, List.getElem_cons_succ, List.setIfInBounds_toArray, List.set_cons_zero, List.set_cons_succ]
          refine wpAnyH_take (i := 6) (v := .slice (some ⟨G2, 0, none⟩) (rn + 2) gc2) rfl (by kernel_rfl) (by kernel_rfl) (by kernel_rfl) (fun _ _ _ h => h) (Or.inl ⟨by rfl, fun w hw => by go_simp⟩) hHeld ?_
          simp only [Act.put, List.getElem_toArray, List.getElem_cons_zero, List.getElem_cons_succ, List.setIfInBounds_toArray, List.set_cons_zero, List.set_cons_succ]
          refine wpAnyH_take (i := 7) (v := .int .i64 (rn : Int)) rfl (by kernel_rfl) (by kernel_rfl) (by kernel_rfl) (fun _ _ _ h => h) (Or.inl ⟨by rfl, fun w hw => by go_simp⟩) hHeld ?_
          simp only [Act.put, List.getElem_toArray, List.getElem_cons_zero, List.getElem_cons_succ, List.setIfInBounds_toArray, List.set_cons_zero, List.set_cons_succ]
          refine wpAnyH_take (i := 8) (v := .slice (some ⟨G2, 0, none⟩) rn gc2) rfl (by kernel_rfl) (by kernel_rfl) (by kernel_rfl) (fun _ _ _ h => h) (Or.inl ⟨by rfl, fun w hw => by go_simp⟩) hHeld ?_
          simp only [Act.put, List.getElem_toArray, List.getElem_cons_zero, List.getElem_cons_succ, List.setIfInBounds_toArray, List.set_cons_zero, List.set_cons_succ]
          refine wpAnyH_take (i := 9) (v := .int .i64 i) rfl (by kernel_rfl) (by kernel_rfl) (by kernel_rfl) (fun _ _ _ h => h) (Or.inl ⟨by rfl, fun w hw => by go_simp⟩) hHeld ?_
          simp only [Act.put, List.getElem_toArray, List.getElem_cons_zero, List.getElem_cons_succ, List.setIfInBounds_toArray, List.set_cons_zero, List.set_cons_succ]
          refine wpAnyH_ready (rs := [10]) (by kernel_rfl) (by simp) ?_
          refine AllReadyH.cons (o := _) rfl (fun K hK => ?_) AllReadyH.nil
          go_simp
          refine (HC8.out).mono ?_
          rintro e w' ⟨p, o, rfl, q1, q2, q3⟩
          obtain ⟨pa, pc, hp⟩ := q1.form
          subst hp
          go_wp2_with fail
          refine hK.out _ _ (trivial) (fun hHeld => ?_)
          clear hK K
          refine wpAnyH_take (i := 11) (v := .slice pa o.length pc) rfl (by kernel_rfl) (by kernel_rfl) (by kernel_rfl) (fun _ _ _ h => h) (Or.inl ⟨by rfl, fun w hw => by go_simp⟩) hHeld ?_
          simp only [Act.put, List.getElem_toArray, List.getElem_cons_zero, List.getElem_cons_succ, List.setIfInBounds_toArray, List.set_cons_zero, List.set_cons_succ]
          refine wpAnyH_done (by kernel_rfl) ?_ _
          have ol : o.length ≤ 8192 := CA.len hk8l HM.out.2.2 q2
          obtain ⟨wd, hwd⟩ : ∃ x, x = wr.drew := ⟨_, rfl⟩
          rw [← hwd] at q1 q3 HD
          have HP : Hid (OW wd.heap.size w' (.slice pa o.length pc) o ∧ Below wd.heap.size wd w' ∧ CA (k % 8) m l r i o ∧ KP w10 m l r i (.slice aa k ac) vs (.slice ka k kc) us L k k wd) := ⟨q1, q3, by rw [← HK8.out]; exact q2, HD.out⟩
          obtain ⟨w11, hw11⟩ : ∃ x, x = w' := ⟨_, rfl⟩
          rw [← hw11] at HP ⊢
          clear q1 q2 q3 HC8 HD hwd hw11
          have HP2 : Hid (KP w10 m l r i (.slice aa k ac) vs (.slice ka k kc) us L k k (w11.alloc (.cells #[.slice pa o.length pc] 22)) ∧ Below wd.heap.size wd (w11.alloc (.cells #[.slice pa o.length pc] 22)) ∧ OW wd.heap.size (w11.alloc (.cells #[.slice pa o.length pc] 22)) (.slice pa o.length pc) o ∧ w10.heap.size ≤ (w11.alloc (.cells #[.slice pa o.length pc] 22)).heap.size) := by
            have bA := al_bel w11 (.cells #[.slice pa o.length pc] 22)
            have b2 := HP.out.2.1.trans (bA.mono HP.out.2.1.size)
            have k2 := HP.out.2.2.2.keep b2
            exact ⟨k2, b2, HP.out.1.grow bA, k2.bel.size⟩
          go_wp2_with (at_builtin; refine append_bothL i1 _ 24 rfl _ _ rfl Tryd.underlying34 HY.out.1 HY.out.2.1 HY.out.2.2.1 HY.out.2.2.2 rfl (by omega) (show 0 < 1 by omega) rfl (show (w11.alloc (.cells #[.slice pa o.length pc] 22)).ownsRow w10.heap.size 22 1 (.slice aa k ac) k vs from by have := HP2.out.1.al.row; rw [HP2.out.1.len] at this; exact this) ⟨w11.heap.size, 0, none⟩ 1 rfl rfl (cell_one_new _ _ _) (by simp [Value.oneCell']) HP2.out.2.2.2 (by unfold maxLen; omega) (by omega) ?_; intro v12 w12 q1 q2 q3 q4; obtain ⟨b1, d1, hv1⟩ := ownsRow_form q1; subst hv1; have HL0 := HP.out.2.2.2.addA HP2.out.2.1 HP2.out.2.2.1 HP.out.2.2.1 q1 q3 q4; have HL : Hid (KP w10 m l r i (.slice b1 (k + 1) d1) (vs ++ [.slice pa o.length pc]) (.slice ka k kc) us (L ++ [o]) (k + 1) k w12 ∧ RB w12 (.slice pa o.length pc) o) := ⟨HL0.1, HL0.2.rb⟩; clear q1 q2 q3 q4 HL0 HP2 HP)
          refine (copied9 HL.out.2 (by omega)).mono ?_
          rintro e w13 ⟨x, rfl, q1, q2⟩
          obtain ⟨ea, ec, hx⟩ := q1.form
          subst hx
          have HQ : Hid (OW w12.heap.size w13 (.slice ea o.length ec) o ∧ Below w12.heap.size w12 w13) := ⟨q1, q2⟩
          clear q1 q2
          have HQ2 : Hid (KP w10 m l r i (.slice b1 (k + 1) d1) (vs ++ [.slice pa o.length pc]) (.slice ka k kc) us (L ++ [o]) (k + 1) k (w13.alloc (.cells #[.slice ea o.length ec] 22)) ∧ Below w12.heap.size w12 (w13.alloc (.cells #[.slice ea o.length ec] 22)) ∧ OW w12.heap.size (w13.alloc (.cells #[.slice ea o.length ec] 22)) (.slice ea o.length ec) o ∧ w10.heap.size ≤ (w13.alloc (.cells #[.slice ea o.length ec] 22)).heap.size) := by
            have bA := al_bel w13 (.cells #[.slice ea o.length ec] 22)
            have b2 := HQ.out.2.trans (bA.mono HQ.out.2.size)
            have k2 := HL.out.1.keep b2
            exact ⟨k2, b2, HQ.out.1.grow bA, k2.bel.size⟩
          go_wp2_with (at_builtin; refine append_bothL i1 _ 24 rfl _ _ rfl Tryd.underlying34 HY.out.1 HY.out.2.1 HY.out.2.2.1 HY.out.2.2.2 rfl (by omega) (show 0 < 1 by omega) rfl HQ2.out.1.kr ⟨w13.heap.size, 0, none⟩ 1 rfl rfl (cell_one_new _ _ _) (by simp [Value.oneCell']) HQ2.out.2.2.2 (by unfold maxLen; omega) (by omega) ?_; intro v14 w14 q1 q2 q3 q4; obtain ⟨b2, d2, hv2⟩ := ownsRow_form q1; subst hv2; have HZ : Hid (KP w10 m l r i (.slice b1 (k + 1) d1) (vs ++ [.slice pa o.length pc]) (.slice b2 (k + 1) d2) (us ++ [.slice ea o.length ec]) (L ++ [o]) (k + 1) (k + 1) w14) := HL.out.1.addK HQ2.out.2.1 HQ2.out.2.2.1 q1 q3 q4; clear q1 q2 q3 q4 HQ2 HQ HL)
          exact ⟨⟨k + 1, b1, d1, b2, d2, _, _, _, by omega, rfl, rfl, by go_num, HZ⟩, by simp [intOf]; omega⟩
        · obtain rfl : k = 24 := by omega
          obtain ⟨w15, hw15⟩ : ∃ x, x = wr := ⟨_, rfl⟩
          subst hw15
          have HF : Hid (KP w10 m l r i (.slice aa 24 ac) vs (.slice ka 24 kc) us L 24 24 w15) := H
          clear H hk hlt HY
          go_wp2_with fail
          go_loopw [22] (fun t wr => ∃ (k nq : Nat), k ≤ 24 ∧ t = .int .i64 k ∧ wr = w15.drewN nq) (fun t _ => 24 - (intOf t).toNat)
          case atStart => exact ⟨0, 0, by omega, rfl, rfl⟩
          case round =>
            obtain ⟨k, nq, hk, rfl, hw⟩ := hrel
            by_cases hlt : k < 24
            · obtain ⟨k8, hk8n⟩ : ∃ k8, k8 = k % 8 := ⟨_, rfl⟩
              have hk8 : (k : Int) % 8 = (k8 : Int) := by omega
              have hk8l : k8 < 24 := by omega
              obtain ⟨ga0, pa, pc, hae, ca1, ea1⟩ := HF.out.al.cell k (by rw [HF.out.len]; exact hlt)
              have oa := HF.out.al.each k (by rw [HF.out.len]; exact hlt)
              rw [ea1] at oa
              obtain ⟨gk0, hke, ck1⟩ := row_cell HF.out.kr HF.out.kl k hlt
              obtain ⟨gk0', hke', ck8⟩ := row_cell HF.out.kr HF.out.kl k8 hk8l
              rw [hke] at hke'
              cases hke'
              have ok1 := HF.out.ke k hlt
              have ok8 := HF.out.ke k8 hk8l
              rw [hk8n, HF.out.same8 k hlt] at ok8
              rw [← hk8n] at ok8
              obtain ⟨ta, tc, et⟩ := ok1.form
              obtain ⟨sa, sc, es⟩ := ok8.form
              rw [et] at ck1 ok1
              rw [es] at ck8 ok8
              subst hae hke
              have hTl : (L.getD k []).length ≤ 8192 := CA.len (Nat.mod_lt _ (by omega)) HM.out.2.2 (HF.out.ca k hlt)
              have hff : (24 : Int) ≤ 140737488351232 := by omega
              generalize L.getD k [] = T at *
              have SMs : Hid (∀ (v : Value) (n : Nat), RB w15 v T → Calls Tryd.prog 6 #[.slice pa T.length pc, v] (wr.drewN n) fun e w' => e = .returned (.bool true) ∧ ∃ m, w' = wr.drewN m) := fun v n hr => by
                subst hw
                refine (same12 _ _ T ((w15.drewN nq).drewN n) (by omega) ((oa.rb.keep (belowDrew _ _)).keep (belowDrew _ _)) ((hr.keep (belowDrew _ _)).keep (belowDrew _ _))).mono ?_
                rintro e w' ⟨rfl, m, rfl⟩
                exact ⟨rfl, n + m, drewN2 _ _ _⟩
              have HV : Hid (RB w15 (.slice ta T.length tc) T ∧ RB w15 (.slice sa T.length sc) T) := ⟨ok1.rb, ok8.rb⟩
              have q1 : wr.cell? ⟨ga0, k, none⟩ = some (.slice pa T.length pc) := by rw [hw]; exact ca1
              have q2 : wr.cell? ⟨gk0, k, none⟩ = some (.slice ta T.length tc) := by rw [hw]; exact ck1
              have q3 : wr.cell? ⟨gk0, k8, none⟩ = some (.slice sa T.length sc) := by rw [hw]; exact ck8
              have HWW : Hid (wr = w15.drewN nq) := hw
              clear hw ca1 ea1 oa ck1 ck8 ok1 ok8 et es hk8n
              generalize T.length = tn at *
              go_wp2_with fail
              go_quiet ((go_at_call 6; exact SMs.out _ _ (by first | exact HV.out.1 | exact HV.out.2)))
              go_wp2
              exact ⟨⟨k + 1, _, by omega, by go_num, by rw [HWW.out]; exact drewN2 _ _ _⟩, by simp [intOf]; omega⟩
            · obtain rfl : k = 24 := by omega
              have HE : Hid (KP w10 m l r i (.slice aa 24 ac) vs (.slice ka 24 kc) us L 24 24 wr) := by rw [hw]; exact HF.out.keep (belowDrew _ _)
              have HAP : Hid (Calls Tryd.prog 12 #[.slice aa 24 ac] wr fun e w' => e = .returned (.bool true) ∧ Fr (fun k => ¬ bks vs k) wr w') := apart _ w10.heap.size vs L wr HE.out.al HE.out.bel.size (by rw [HE.out.len]; omega) (fun j => by
                by_cases hj : j < 24
                · have := CA.len (Nat.mod_lt _ (by omega)) HM.out.2.2 (HE.out.ca j hj); omega
                · rw [List.getD_eq_getElem?_getD, List.getElem?_eq_none (by rw [HE.out.len]; omega)]; simp)
              clear hw hk hlt HF
              go_wp2_with fail
              refine HAP.out.mono ?_
              rintro e w17 ⟨rfl, fr17⟩
              have HQ : Hid (KQ w10 m l r i (.slice ka 24 kc) us L w17) := HE.out.after fr17
              clear HE HAP fr17
              go_wp2_with fail
              go_loopw [23] (fun t wr => ∃ k : Nat, k ≤ 8 ∧ t = .int .i64 k ∧ Hid (KQ w10 m l r i (.slice ka 24 kc) us L wr)) (fun t _ => 8 - (intOf t).toNat)
              case atStart => exact ⟨0, by omega, rfl, HQ⟩
              case round =>
                clear HQ
                obtain ⟨k, hk, rfl, H⟩ := hrel
                by_cases hlt : k < 8
                · have hf1 : (gc < rn) = False := eq_false (by omega)
                  have hf2 : (gc2 < rn) = False := eq_false (by omega)
                  have HD : Hid (KQ w10 m l r i (.slice ka 24 kc) us L wr.drew) := H.out.keep (belowDrew wr 1)
                  have HC8 : Hid (Calls Tryd.prog 11 #[.int .i64 (k : Int), .int .i64 (m : Int), .slice (some ⟨G, 0, none⟩) rn gc, .slice (some ⟨G2, 0, none⟩) rn gc2, .int .i64 i] wr.drew (CallE k m l r i wr.drew)) := HCALL.out wr.drew HD.out.bel k hlt
                  clear H
                  go_wp2_with fail
                  refine wp_region_held_drew (S := fun _ => True) (by kernel_rfl) (trivial) (fun hHeld => ?_)
                  refine wpAnyH_take (i := 0) (v := .int .i64 (k : Int)) rfl (by kernel_rfl) (by kernel_rfl) (by kernel_rfl) (fun _ _ _ h => h) (Or.inl ⟨by rfl, fun w hw => by go_simp⟩) hHeld ?_
                  simp only [Act.put, List.getElem_toArray, List.getElem_cons_zero, List.setIfInBounds_toArray, List.set_cons_zero, List.set_cons_succ]
                  refine wpAnyH_take (i := 1) (v := .int .i64 (m : Int)) rfl (by kernel_rfl) (by kernel_rfl) (by kernel_rfl) (fun _ _ _ h => h) (Or.inl ⟨by rfl, fun w hw => by go_simp⟩) hHeld ?_
                  simp only [Act.put, List.getElem_toArray, List.getElem_cons_zero, List.getElem_cons_succ, List.setIfInBounds_toArray, List.set_cons_zero, List.set_cons_succ]
                  refine wpAnyH_take (i := 2) (v := .slice (some ⟨G, 0, none⟩) (rn + 2) gc) rfl (by kernel_rfl) (by kernel_rfl) (by kernel_rfl) (fun _ _ _ h => h) (Or.inl ⟨by rfl, fun w hw => by go_simp⟩) hHeld ?_
                  simp only [Act.put, List.getElem_toArray, List.getElem_cons_zero, List.getElem_cons_succ, List.setIfInBounds_toArray, List.set_cons_zero, List.set_cons_succ]
                  refine wpAnyH_take (i := 3) (v := .int .i64 (rn : Int)) rfl (by kernel_rfl) (by kernel_rfl) (by kernel_rfl) (fun _ _ _ h => h) (Or.inl ⟨by rfl, fun w hw => by go_simp⟩) hHeld ?_
                  simp only [Act.put, List.getElem_toArray, List.getElem_cons_zero, List.getElem_cons_succ, List.setIfInBounds_toArray, List.set_cons_zero, List.set_cons_succ]
                  refine wpAnyH_take (i := 4) (v := .slice (some ⟨G, 0, none⟩) rn gc) rfl (by kernel_rfl) (by kernel_rfl) (by kernel_rfl) (fun _ _ _ h => h) (Or.inl ⟨by rfl, fun w hw => by go_simp⟩) hHeld ?_
                  simp only [Act.put, List.getElem_toArray, List.getElem_cons_zero, List.getElem_cons_succ, List.setIfInBounds_toArray, List.set_cons_zero, List.set_cons_succ]
                  refine wpAnyH_take (i := 5) (v := .slice (some ⟨G2, 0, none⟩) (rn + 2) gc2) rfl (by kernel_rfl) (by kernel_rfl) (by kernel_rfl) (fun _ _ _ h => h) (Or.inl ⟨by rfl, fun w hw => by go_simp⟩) hHeld ?_
                  simp only [Act.put, List.getElem_toArray, List.getElem_cons_zero, List.getElem_cons_succ, List.setIfInBounds_toArray, List.set_cons_zero, List.set_cons_succ]
                  refine wpAnyH_take (i := 6) (v := .int .i64 (rn : Int)) rfl (by kernel_rfl) (by kernel_rfl) (by kernel_rfl) (fun _ _ _ h => h) (Or.inl ⟨by rfl, fun w hw => by go_simp⟩) hHeld ?_
                  simp only [Act.put, List.getElem_toArray, List.getElem_cons_zero, List.getElem_cons_succ, List.setIfInBounds_toArray, List.set_cons_zero, List.set_cons_succ]
                  refine wpAnyH_take (i := 7) (v := .slice (some ⟨G2, 0, none⟩) rn gc2) rfl (by kernel_rfl) (by kernel_rfl) (by kernel_rfl) (fun _ _ _ h => h) (Or.inl ⟨by rfl, fun w hw => by go_simp⟩) hHeld ?_
                  simp only [Act.put, List.getElem_toArray, List.getElem_cons_zero, List.getElem_cons_succ, List.setIfInBounds_toArray, List.set_cons_zero, List.set_cons_succ]
                  refine wpAnyH_take (i := 8) (v := .int .i64 i) rfl (by kernel_rfl) (by kernel_rfl) (by kernel_rfl) (fun _ _ _ h => h) (Or.inl ⟨by rfl, fun w hw => by go_simp⟩) hHeld ?_
                  simp only [Act.put, List.getElem_toArray, List.getElem_cons_zero, List.getElem_cons_succ, List.setIfInBounds_toArray, List.set_cons_zero, List.set_cons_succ]
                  refine wpAnyH_ready (rs := [9]) (by kernel_rfl) (by simp) ?_
                  refine AllReadyH.cons (o := _) rfl (fun K hK => ?_) AllReadyH.nil
                  go_simp
                  refine (HC8.out).mono ?_
                  rintro e w' ⟨p, o, rfl, q1, q2, q3⟩
                  obtain ⟨pa, pc, hp⟩ := q1.form
                  subst hp
                  go_wp2_with fail
                  refine hK.out _ _ (trivial) (fun hHeld => ?_)
                  clear hK K
                  refine wpAnyH_take (i := 10) (v := .slice pa o.length pc) rfl (by kernel_rfl) (by kernel_rfl) (by kernel_rfl) (fun _ _ _ h => h) (Or.inl ⟨by rfl, fun w hw => by go_simp⟩) hHeld ?_
                  simp only [Act.put, List.getElem_toArray, List.getElem_cons_zero, List.getElem_cons_succ, List.setIfInBounds_toArray, List.set_cons_zero, List.set_cons_succ]
                  refine wpAnyH_done (by kernel_rfl) ?_ _
                  have ol : o.length ≤ 8192 := CA.len hlt HM.out.2.2 q2
                  obtain ⟨w18, hw18⟩ : ∃ x, x = w' := ⟨_, rfl⟩
                  rw [← hw18] at q1 q3 ⊢
                  have HE : Hid (KQ w10 m l r i (.slice ka 24 kc) us L w18) := HD.out.keep q3
                  obtain ⟨gk0, hke, ck1⟩ := row_cell HE.out.kr HE.out.kl k (by omega)
                  have ok1 := HE.out.ke k (by omega)
                  have eo : o = L.getD k [] := CA.unique hlt q2 (by have := HE.out.ca k (by omega); rwa [Nat.mod_eq_of_lt hlt] at this)
                  rw [← eo] at ok1
                  obtain ⟨ta, tc, et⟩ := ok1.form
                  rw [et] at ck1 ok1
                  subst hke
                  have HV : Hid (SP w18 (.slice pa o.length pc) (.slice ta o.length tc) ∧ SP w18 (.slice (some ⟨G, 0, none⟩) rn gc) (.slice va rn vc) ∧ SP w18 (.slice (some ⟨G2, 0, none⟩) rn gc2) (.slice ua rn uc)) := by
                    have bW : Below w.heap.size w w18 := HXY.out.2.2.2.2.trans (HE.out.bel.mono HXY.out.2.2.2.2.size)
                    exact ⟨⟨o, by omega, q1.rb, ok1.rb⟩, ⟨l, by rw [HLN.out.1]; omega, HXY.out.1.1.keep HE.out.bel, HW.out.1.keep bW⟩, ⟨r, by rw [HLN.out.2]; omega, HXY.out.1.2.keep HE.out.bel, HW.out.2.1.keep bW⟩⟩
                  have HCC : Hid (∀ n, (w18.drewN n).cell? ⟨G, rn, none⟩ = some (.int .u8 201) ∧ (w18.drewN n).cell? ⟨G, rn + 1, none⟩ = some (.int .u8 202) ∧ (w18.drewN n).cell? ⟨G2, rn, none⟩ = some (.int .u8 203) ∧ (w18.drewN n).cell? ⟨G2, rn + 1, none⟩ = some (.int .u8 204)) := fun n =>
                    ⟨(HE.out.bel.cell (p := ⟨G, rn, none⟩) HXY.out.2.2.1.1).trans HXY.out.2.1.1, (HE.out.bel.cell (p := ⟨G, rn + 1, none⟩) HXY.out.2.2.1.1).trans HXY.out.2.1.2.1, (HE.out.bel.cell (p := ⟨G2, rn, none⟩) HXY.out.2.2.1.2).trans HXY.out.2.1.2.2.1, (HE.out.bel.cell (p := ⟨G2, rn + 1, none⟩) HXY.out.2.2.1.2).trans HXY.out.2.1.2.2.2⟩
                  clear q1 q2 q3 ok1 eo et HC8 HD hw18
                  generalize o.length = on at *
                  go_wp2_with fail
                  refine (show Calls Tryd.prog 6 #[.slice pa on pc, .slice ta on tc] w18 (fun e w' => e = .returned (.bool true) ∧ ∃ m, w' = w18.drewN m) from HV.out.1.run 0).mono ?_
                  rintro e wx ⟨rfl, n1, rfl⟩
                  clear ck1
                  go_wp2_with fail
                  refine (HV.out.2.1.run n1).mono ?_
                  rintro e wx ⟨rfl, n2, rfl⟩
                  go_wp2_with fail
                  refine (HV.out.2.2.run n2).mono ?_
                  rintro e wx ⟨rfl, n3, rfl⟩
                  obtain ⟨d1, d2, d3, d4⟩ := HCC.out n3
                  have HZ : Hid (KQ w10 m l r i (.slice (some ⟨gk0, 0, none⟩) 24 kc) us L (w18.drewN n3)) := HE.out.keep (belowDrew _ _)
                  have hrl : (rn : Int) + 1 < (rn : Int) + 2 := by omega
                  clear HCC HV HE
                  generalize w18.drewN n3 = w19 at *
                  go_wp2
                  exact ⟨⟨k + 1, by omega, by go_num, HZ⟩, by simp [intOf]; omega⟩
                · obtain rfl : k = 8 := by omega
                  have hbw : Below w.heap.size w wr := HXY.out.2.2.2.2.trans (H.out.bel.mono HXY.out.2.2.2.2.size)
                  have HLI : Hid (Calls Tryd.prog 13 #[.int .i64 (m : Int), .slice va rn vc, .slice ua rn uc] wr fun e w' => e = .returned (.bool true) ∧ Below wr.heap.size wr w') := lists13 m HM.out.2.2 _ _ l r wr (HW.out.1.keep hbw) (HW.out.2.1.keep hbw) (HW.out.2.2.keep hbw) HM.out.1 HM.out.2.1
                  have HBW : Hid (Below w.heap.size w wr) := hbw
                  clear hbw H hk hlt
                  go_wp2_with fail
                  refine HLI.out.mono ?_
                  rintro e w20 ⟨rfl, b20⟩
                  have hb20 : Below w.heap.size w w20 := HBW.out.trans (b20.mono HBW.out.size)
                  have HST : Hid (Calls Tryd.prog 14 #[.int .i64 (m : Int), .slice va rn vc, .slice ua rn uc] w20 fun e w' => e = .returned (.bool true) ∧ Below w20.heap.size w20 w') := stale14 m HM.out.2.2 _ _ l r w20 (HW.out.1.keep hb20) (HW.out.2.1.keep hb20) (HW.out.2.2.keep hb20) HM.out.1 HM.out.2.1
                  have HB20 : Hid (Below w.heap.size w w20) := hb20
                  clear hb20 b20 HBW HLI
                  go_wp2_with fail
                  refine HST.out.mono ?_
                  rintro e w21 ⟨rfl, b21⟩
                  have HB21 : Hid (Below w.heap.size w w21) := HB20.out.trans (b21.mono HB20.out.size)
                  clear b21 HST HB20
                  go_wp2_with fail
                  go_ret
                  exact ⟨rfl, HB21.out⟩
    · have hz : (ck n r != 0) = true := by simpa using hk2
      have HB : Hid (∀ o, JR n l r fA o → o = []) := HJ.out (by unfold bE; rw [if_neg (by simp [hk])]; exact hk2)
      rw [hk] at HK
      generalize ck n r = z2 at *
      generalize bE n l r = z3 at *
      clear HJ hk
      go_wp2_with fail
      refine (HK.out _ S4.out).1.mono ?_
      rintro e wx ⟨rfl, nq, rfl⟩
      have S5 : Hid (Below w.heap.size w (w4.drewN nq)) := belowN S4.out nq
      generalize w4.drewN nq = w5 at *
      go_wp2_with fail
      refine (HK.out _ S5.out).2.1.mono ?_
      rintro e wx ⟨rfl, nq, rfl⟩
      have S6 : Hid (Below w.heap.size w (w5.drewN nq)) := belowN S5.out nq
      generalize w5.drewN nq = w6 at *
      go_wp2_with fail
      refine (HK.out _ S6.out).2.2.mono ?_
      rintro e w7 ⟨x, o, rfl, q1, q2, q3⟩
      obtain rfl := HB.out o q2
      obtain ⟨a3, c3, rfl⟩ := q1.form
      have S7 : Hid (Below w.heap.size w w7) := S6.out.trans (q3.mono S6.out.size)
      clear q1 q2 q3
      go_wp2
      go_ret
      exact ⟨rfl, S7.out⟩
  · have hz : (ck n l != 0) = true := by simpa using hk
    have HB : Hid (∀ o, JR n l r fA o → o = []) := HJ.out (by unfold bE; rw [if_pos hk]; exact hk)
    generalize ck n l = z1 at *
    generalize ck n r = z2 at *
    generalize bE n l r = z3 at *
    clear HJ hk
    go_wp2_with fail
    refine (HK.out _ S4.out).1.mono ?_
    rintro e wx ⟨rfl, nq, rfl⟩
    have S5 : Hid (Below w.heap.size w (w4.drewN nq)) := belowN S4.out nq
    generalize w4.drewN nq = w5 at *
    go_wp2_with fail
    refine (HK.out _ S5.out).2.2.mono ?_
    rintro e w7 ⟨x, o, rfl, q1, q2, q3⟩
    obtain rfl := HB.out o q2
    obtain ⟨a3, c3, rfl⟩ := q1.form
    have S7 : Hid (Below w.heap.size w w7) := S5.out.trans (q3.mono S5.out.size)
    clear q1 q2 q3
    go_wp2
    go_ret
    exact ⟨rfl, S7.out⟩
end Go.Proofs.YtjhnkdhbjpddcaaDoor
