import Derived.Shelf.Strconv.AtoiAll
import Derived.Shelf.Strconv.ParseIntPublic10
import Derived.Shelf.Lay
import Derived.Ground.NamesProg
import Derived.Lib.AtoiErrMem
import Derived.Lib.ParseIntBTie
import Derived.Test.YtdlnnnlmlaploaaDoorRdp
namespace Go.Proofs.YtdlnnnlmlaploaaDoor
open Go.Shelf Go.RowKit Go.Deep
shelf_lay LaysC.n172 Nm 172 at Tryd as lays172
shelf_lay LaysC.n174 Nm 174 at Tryd as lays174
/-- strconv.Atoi -/
theorem atoi55 (s : ByteArray) (rb : Nat) (w : World) (hs : s.size ≤ 1048577) (hv : EVn rb w) :
    Calls Tryd.prog 92 #[.string s] w fun e w' => Below w.heap.size w w' ∧ ((∃ v, Lib.atoiAll s.data.toList = .ok v ∧ e = .returned (.tuple #[.int .i64 v, .nilIface])) ∨ ((∀ v, Lib.atoiAll s.data.toList ≠ .ok v) ∧ ∃ n t N, e = .returned (.tuple #[.int .i64 n, .iface t (.pointer (some ⟨N, 0, none⟩))]))) := by
  obtain ⟨_, _, ⟨t1, p1, h1⟩, ⟨t2, p2, h2⟩⟩ := hv
  cases h : Lib.atoiAll s.data.toList with
  | ok v =>
    refine (Any.strconv_Atoi_ok lays172 s (by omega) v h w).mono ?_
    rintro e w' ⟨rfl, hw⟩
    refine ⟨?_, .inl ⟨v, rfl, rfl⟩⟩
    rcases hw with rfl | ⟨t, rfl⟩
    · exact Below.refl _ _
    · exact Lib.bytesWorld_below _ _ _
  | «syntax» =>
    refine (Any.strconv_Atoi_syntax lays172 s (by omega) h _ w h1 (.inr ⟨_, _, rfl⟩)).mono ?_
    rintro e w' ⟨N, rfl, _, _, hb⟩
    exact ⟨hb, .inr ⟨(fun v hv => by cases hv), _, _, _, rfl⟩⟩
  | range =>
    refine (Any.strconv_Atoi_range lays172 s (by omega) h _ w h2 (.inr ⟨_, _, rfl⟩)).mono ?_
    rintro e w' ⟨N, rfl, _, _, hb⟩
    exact ⟨hb, .inr ⟨(fun v hv => by cases hv), _, _, _, rfl⟩⟩
/-- strconv.ParseInt(s, 10, 64) -/
theorem parseInt53 (s : ByteArray) (rb : Nat) (w : World) (hs : s.size ≤ 1048577) (hv : EVn rb w) :
    Calls Tryd.prog 90 #[.string s, .int .i64 10, .int .i64 64] w fun e w' => Below w.heap.size w w' ∧ ((∃ v, Lib.atoiAll s.data.toList = .ok v ∧ e = .returned (.tuple #[.int .i64 v, .nilIface])) ∨ ((∀ v, Lib.atoiAll s.data.toList ≠ .ok v) ∧ ∃ n t N, e = .returned (.tuple #[.int .i64 n, .iface t (.pointer (some ⟨N, 0, none⟩))]))) := by
  obtain ⟨_, _, ⟨t1, p1, h1⟩, ⟨t2, p2, h2⟩⟩ := hv
  cases h : Lib.atoiAll s.data.toList with
  | ok v =>
    refine (Any.strconv_ParseInt_10_at64_ok lays174 s (by omega) v (by rw [Lib.parseIntB_64]; exact h) w).mono ?_
    rintro e w' ⟨rfl, hw⟩
    refine ⟨?_, .inl ⟨v, rfl, rfl⟩⟩
    first
    | exact hw
    | (rcases hw with rfl | ⟨t, rfl⟩
       · exact Below.refl _ _
       · exact Lib.bytesWorld_below _ _ _)
  | «syntax» =>
    refine (Any.strconv_ParseInt_10_at64_syntax lays174 s (by omega) (by rw [Lib.parseIntB_64]; exact h) _ w h1 (.inr ⟨_, _, rfl⟩)).mono ?_
    rintro e w' ⟨N, rfl, _, _, hb⟩
    exact ⟨hb, .inr ⟨(fun v hv => by cases hv), _, _, _, rfl⟩⟩
  | range =>
    refine (Any.strconv_ParseInt_10_at64_range lays174 s (by omega) (by rw [Lib.parseIntB_64]; exact h) _ w h2 (.inr ⟨_, _, rfl⟩)).mono ?_
    rintro e w' ⟨N, rfl, _, _, hb⟩
    exact ⟨hb, .inr ⟨(fun v hv => by cases hv), _, _, _, rfl⟩⟩
theorem ba_size (l : List UInt8) : (⟨l.toArray⟩ : ByteArray).size = l.length := List.size_toArray
theorem ba_zero (l : List UInt8) (h : 0 < (⟨l.toArray⟩ : ByteArray).size) : (⟨l.toArray⟩ : ByteArray)[0] = byt l 0 := by
  cases l with
  | nil => exact absurd h (by decide)
  | cons x l => rfl
theorem u8_beq (x y : UInt8) : ((x.toNat : Int) == (y.toNat : Int)) = (x == y) := by
  by_cases h : x = y
  · subst h; simp
  · have h2 := u8_ne h
    rw [beq_eq_false_iff_ne.2 h2, beq_eq_false_iff_ne.2 h]
set_option maxHeartbeats 400000 in
theorem padded54 (l : List UInt8) (w : World) (hl : l.length ≤ 1048577) : Calls Tryd.prog 91 #[.string ⟨l.toArray⟩] w fun e w' => e = .returned (.bool (padd l)) ∧ w' = w := by
  have hs := ba_size l
  by_cases h1 : 1 < l.length
  · have e : padd l = ((((⟨l.toArray⟩ : ByteArray)[0]'(by rw [hs]; omega)).toNat : Int) == 48) := by
      rw [ba_zero l (by rw [hs]; omega)]
      have := u8_beq (byt l 0) 48
      simp only [padd, h1, decide_true, Bool.true_and]
      exact this.symm
    have h2 : (1 : Int) < (l.length : Int) := by omega
    rw [e]
    clear e
    go_enter Tryd.func91, Tryd.ntmps91
    go_wp2
    go_ret
    exact ⟨rfl, rfl⟩
  · have e : padd l = false := by simp [padd, h1]
    have h2 : ¬ (1 : Int) < (l.length : Int) := by omega
    rw [e]
    go_enter Tryd.func91, Tryd.ntmps91
    go_wp2
    go_ret
    exact ⟨rfl, rfl⟩
theorem strg_no {b : List UInt8} {i j : Nat} {d : List UInt8} (h : digs b 58 i = .ok d j) (hp : padd d = false) (hno : ∀ v, Lib.atoiAll d ≠ .ok v) : strg b i = .bad b.length 21 := by
  cases e : Lib.atoiAll d with
  | ok v => exact absurd e (hno v)
  | «syntax» => simp [strg, h, hp, e]
  | range => simp [strg, h, hp, e]
theorem strg_far {b : List UInt8} {i j m : Nat} {d : List UInt8} (h : digs b 58 i = .ok d j) (hp : padd d = false) (hv : Lib.atoiAll d = .ok (m : Int)) (hm : (b.length : Int) - j < m) : strg b i = .bad b.length 21 := by
  unfold strg
  rw [h]
  simp only [hp, Bool.false_eq_true, if_false, hv, if_pos hm]
theorem strg_ok {b : List UInt8} {i j m : Nat} {d : List UInt8} (h : digs b 58 i = .ok d j) (hp : padd d = false) (hv : Lib.atoiAll d = .ok (m : Int)) (hm : ¬ (b.length : Int) - j < m) : strg b i = .ok ⟨(cut b j (j + m)).toArray⟩ (j + m) := by
  unfold strg
  rw [h]
  simp only [hp, Bool.false_eq_true, if_false, hv, if_neg hm, Int.toNat_natCast]
theorem RR.text {rb g o c i : Nat} {w : World} {b : List UInt8} (h : RR rb w (some ⟨g, o, none⟩) c b i) : ∀ k, k < b.length → w.cell? ⟨g, o + k, none⟩ = some (.int .u8 ((byt b k).toNat : Int)) := by
  rcases h.2.2.2.2 with rfl | ⟨g', o', h1, _, _, h4⟩
  · intro k hk; simp at hk
  · cases h1; exact h4
theorem conv_far {rb g o c i j m cap : Nat} {w : World} {b : List UInt8} (h : RR rb w (some ⟨g, o, none⟩) c b i) (hm : j + m ≤ b.length) (_ : ¬ c = j) (ty : TypeId) (hty : Tryd.prog.underlying ty = some .string) :
    (convert 22 ty (.slice (some ⟨g, o + j, none⟩) m cap)).run Tryd.prog w = .ok (.string ⟨(cut b j (j + m)).toArray⟩) w := by
  have := conv_cut (g := g) (o := o) (i := j) (j := j + m) (cap := cap) hm h.text ty hty
  rwa [show j + m - j = m from by omega] at this
theorem conv_end {rb g o c i j m cap : Nat} {w : World} {b : List UInt8} (h : RR rb w (some ⟨g, o, none⟩) c b i) (hm : j + m ≤ b.length) (hc : c = j) (ty : TypeId) (hty : Tryd.prog.underlying ty = some .string) :
    (convert 22 ty (.slice (some ⟨g, o, none⟩) m cap)).run Tryd.prog w = .ok (.string ⟨(cut b j (j + m)).toArray⟩) w := by
  have hcap := h.2.2.1
  obtain rfl : m = 0 := by omega
  have := conv_cut (g := g) (o := o) (i := 0) (j := 0) (cap := cap) (b := b) (w := w) (by omega) h.text ty hty
  simpa [cut] using this
set_option maxRecDepth 10000 in
set_option maxHeartbeats 1000000 in
theorem word47 (rb : Nat) (a : Option Addr) (c : Nat) (b : List UInt8) (i : Nat) (w : World) (h : RR rb w a c b i) :
    Calls Tryd.prog 81 #[.pointer (some ⟨rb, 0, none⟩)] w fun e w' => pcEnd (strg b i) rb w w' a c b (fun s => .string s) e := by
  obtain ⟨c0, c1, f1⟩ := h.cells
  have HR := Lib.hid h
  clear h
  go_enter Tryd.func81, Tryd.ntmps81
  go_wp2_with fail
  refine (digits52 rb a c b 58 i w HR.out).mono ?_
  intro e w1 hp
  obtain ⟨hb1, ⟨d, j, hd, rfl, hr1⟩ | ⟨p, er, hd, rfl⟩⟩ := hp.cases
  case inr => exact ⟨rfl, pcEnd.bad (by rw [strg, hd]) hb1⟩
  have hn := hr1.2.1
  have hl := hr1.2.2.2.1
  have hcap := hr1.2.2.1
  have HD : Hid (digs b 58 i = .ok d j) := hd
  have hdl : d.length ≤ 1048576 := by have := digs_len hd; have := digs_ok hd; omega
  have hjl : 0 < b.length := by have := digs_ok hd; omega
  have H1 : Hid (RR rb w1 a c b j ∧ Besides rb w w1) := ⟨hr1, hb1⟩
  clear hp hd hr1 hb1 c0 c1 f1
  go_wp2_with fail
  refine (padded54 d w1 (by omega)).mono ?_
  rintro e w2 ⟨rfl, rfl⟩
  by_cases hp : padd d = true
  · rw [hp]
    go_wp2_with fail
    refine (giveUp44 rb _ _ _).mono ?_
    rintro e w' ⟨rfl, rfl⟩
    exact ⟨rfl, pcEnd.bad (by rw [strg, HD.out]; simp [hp]) H1.out.2⟩
  have hp' : padd d = false := by simpa using hp
  have HP := Lib.hid hp'
  rw [hp']
  clear hp hp'
  obtain ⟨g, o, rfl, hg, _⟩ := H1.out.1.byte hjl
  obtain ⟨c0, c1, f1⟩ := H1.out.1.cells
  have b0 : (0 : Int) ≤ (j : Int) := by omega
  have b1 : (j : Int) ≤ (b.length : Int) := by omega
  have b2 : (b.length : Int) ≤ (c : Int) := by omega
  by_cases hcj : c = j
  · go_wp2
    go_quiet (fail)
    have hB : Below w2.heap.size w2 (w2.drewN nq) := ⟨rfl, rfl, rfl, Nat.le_refl _, fun _ _ => rfl⟩
    have H2 : Hid (RR rb (w2.drewN nq) (some ⟨g, o, none⟩) c b j ∧ Besides rb w (w2.drewN nq)) := ⟨H1.out.1.heap hB, H1.out.2.trans (Besides.of_below hB)⟩
    clear c0 c1 f1 H1 hB
    generalize w2.drewN nq = w3 at *
    go_wp2_with fail
    refine (atoi55 ⟨d.toArray⟩ rb w3 (by rw [ba_size]; omega) H2.out.1.1.2).mono ?_
    rintro e w4 ⟨hb4, ⟨v, hv, rfl⟩ | ⟨hno, n, ty, N, rfl⟩⟩
    case inr =>
      have H4 : Hid (RR rb w4 (some ⟨g, o, none⟩) c b j ∧ Besides rb w w4) := ⟨H2.out.1.heap hb4, H2.out.2.trans (Besides.of_below hb4)⟩
      have HE : Hid (strg b i = .bad b.length 21) := Lib.hid (strg_no HD.out HP.out hno)
      clear H2 hb4 hno
      obtain ⟨c0, c1, f1⟩ := H4.out.1.cells
      go_wp2_with fail
      refine (giveUp44 rb _ _ _).mono ?_
      rintro e w' ⟨rfl, rfl⟩
      exact ⟨rfl, pcEnd.bad HE.out H4.out.2⟩
    have hv0 : 0 ≤ v := atoi_nonneg ((digs_len HD.out).2 0 (by have := digs_len HD.out; have := digs_ok HD.out; omega)) hv
    obtain ⟨m, rfl⟩ : ∃ m : Nat, v = m := ⟨v.toNat, by omega⟩
    have H4 : Hid (RR rb w4 (some ⟨g, o, none⟩) c b j ∧ Besides rb w w4) := ⟨H2.out.1.heap hb4, H2.out.2.trans (Besides.of_below hb4)⟩
    have HV : Hid (Lib.atoiAll d = .ok (m : Int)) := hv
    clear H2 hb4 hv hv0
    obtain ⟨c0, c1, f1⟩ := H4.out.1.cells
    have hm0 : m ≤ 9223372036854775807 := by have := Lib.atoiAll_bounds HV.out; omega
    by_cases hm : b.length - j < m
    · have hm2 : ((b.length - j : Nat) : Int) < (m : Int) := by omega
      have HE : Hid (strg b i = .bad b.length 21) := Lib.hid (strg_far HD.out HP.out HV.out (by omega))
      clear hm
      go_wp2_with fail
      refine (giveUp44 rb _ _ _).mono ?_
      rintro e w' ⟨rfl, rfl⟩
      exact ⟨rfl, pcEnd.bad HE.out H4.out.2⟩
    · obtain rfl : m = 0 := by omega
      have HE : Hid (strg b i = .ok ⟨(cut b j (j + 0)).toArray⟩ j) := Lib.hid (strg_ok HD.out HP.out HV.out (by omega))
      have HN : Hid (RR rb (w4.setCell ⟨rb, 1, none⟩ (.int .i64 (j : Int))) (some ⟨g, o, none⟩) c b j ∧ Besides rb w (w4.setCell ⟨rb, 1, none⟩ (.int .i64 (j : Int)))) := ⟨H4.out.1.set j (by omega), H4.out.2.set1⟩
      have hconv := conv_end (m := 0) (cap := 0) HN.out.1 (show j + 0 ≤ b.length by omega) hcj 100 Tryd.underlying100
      have hz : ¬ ((b.length - j : Nat) : Int) < 0 := by omega
      have m3 : (j : Int) ≤ 1048576 := by omega
      clear H4 hm0 HV hm
      go_wp2
      go_ret
      exact pcEnd.ok HE.out HN.out.2 HN.out.1
  · go_wp2
    go_quiet (fail)
    have hB : Below w2.heap.size w2 (w2.drewN nq) := ⟨rfl, rfl, rfl, Nat.le_refl _, fun _ _ => rfl⟩
    have H2 : Hid (RR rb (w2.drewN nq) (some ⟨g, o, none⟩) c b j ∧ Besides rb w (w2.drewN nq)) := ⟨H1.out.1.heap hB, H1.out.2.trans (Besides.of_below hB)⟩
    clear c0 c1 f1 H1 hB
    generalize w2.drewN nq = w3 at *
    go_wp2_with fail
    refine (atoi55 ⟨d.toArray⟩ rb w3 (by rw [ba_size]; omega) H2.out.1.1.2).mono ?_
    rintro e w4 ⟨hb4, ⟨v, hv, rfl⟩ | ⟨hno, n, ty, N, rfl⟩⟩
    case inr =>
      have H4 : Hid (RR rb w4 (some ⟨g, o, none⟩) c b j ∧ Besides rb w w4) := ⟨H2.out.1.heap hb4, H2.out.2.trans (Besides.of_below hb4)⟩
      have HE : Hid (strg b i = .bad b.length 21) := Lib.hid (strg_no HD.out HP.out hno)
      clear H2 hb4 hno
      obtain ⟨c0, c1, f1⟩ := H4.out.1.cells
      go_wp2_with fail
      refine (giveUp44 rb _ _ _).mono ?_
      rintro e w' ⟨rfl, rfl⟩
      exact ⟨rfl, pcEnd.bad HE.out H4.out.2⟩
    have hv0 : 0 ≤ v := atoi_nonneg ((digs_len HD.out).2 0 (by have := digs_len HD.out; have := digs_ok HD.out; omega)) hv
    obtain ⟨m, rfl⟩ : ∃ m : Nat, v = m := ⟨v.toNat, by omega⟩
    have H4 : Hid (RR rb w4 (some ⟨g, o, none⟩) c b j ∧ Besides rb w w4) := ⟨H2.out.1.heap hb4, H2.out.2.trans (Besides.of_below hb4)⟩
    have HV : Hid (Lib.atoiAll d = .ok (m : Int)) := hv
    clear H2 hb4 hv hv0
    obtain ⟨c0, c1, f1⟩ := H4.out.1.cells
    have hm0 : m ≤ 9223372036854775807 := by have := Lib.atoiAll_bounds HV.out; omega
    by_cases hm : b.length - j < m
    · have hm2 : ((b.length - j : Nat) : Int) < (m : Int) := by omega
      have HE : Hid (strg b i = .bad b.length 21) := Lib.hid (strg_far HD.out HP.out HV.out (by omega))
      clear hm
      go_wp2_with fail
      refine (giveUp44 rb _ _ _).mono ?_
      rintro e w' ⟨rfl, rfl⟩
      exact ⟨rfl, pcEnd.bad HE.out H4.out.2⟩
    · have hm2 : ¬ ((b.length - j : Nat) : Int) < (m : Int) := by omega
      have HE : Hid (strg b i = .ok ⟨(cut b j (j + m)).toArray⟩ (j + m)) := Lib.hid (strg_ok HD.out HP.out HV.out (by omega))
      have HN : Hid (RR rb (w4.setCell ⟨rb, 1, none⟩ (.int .i64 ((j : Int) + (m : Int)))) (some ⟨g, o, none⟩) c b (j + m) ∧ Besides rb w (w4.setCell ⟨rb, 1, none⟩ (.int .i64 ((j : Int) + (m : Int))))) := by
        have h := H4.out.1.set (j + m) (by omega)
        rw [show ((j + m : Nat) : Int) = (j : Int) + (m : Int) from by omega] at h
        exact ⟨h, H4.out.2.set1⟩
      have hconv := conv_far (cap := (c - j)) HN.out.1 (show j + m ≤ b.length by omega) hcj 100 Tryd.underlying100
      have m0 : (0 : Int) ≤ (m : Int) := by omega
      have m1 : (m : Int) ≤ (((c - j) : Nat) : Int) := by omega
      have m2 : m ≤ (c - j) := by omega
      have m3 : ((j : Int) + (m : Int)) ≤ 1048576 := by omega
      clear H4
      go_wp2
      go_ret
      exact pcEnd.ok HE.out HN.out.2 HN.out.1
end Go.Proofs.YtdlnnnlmlaploaaDoor
