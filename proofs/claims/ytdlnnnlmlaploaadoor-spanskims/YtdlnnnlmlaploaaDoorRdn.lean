import Derived.Test.YtdlnnnlmlaploaaDoorRdw
namespace Go.Proofs.YtdlnnnlmlaploaaDoor
open Go.RowKit Go.Deep
theorem ba_ext {x y : ByteArray} (h : x.data.toList = y.data.toList) : x = y := ByteArray.ext (Array.toList_inj.1 h)
theorem numb_sg {b : List UInt8} {i : Nat} (hl : i + 1 < b.length) : numb b i = (match digs b 101 (i + 1 + (if byt b (i + 1) = 45 then [45] else [] : List UInt8).length) with
  | .bad p e => .bad p e
  | .ok d j => match Lib.atoiAll ((if byt b (i + 1) = 45 then [45] else []) ++ d) with
    | .ok n => if padd d = true ∨ (if byt b (i + 1) = 45 then [45] else []) ++ d = [45, 48] then .bad i 23 else .ok n j
    | _ => .bad i 23) := by
  rw [numb, if_neg (by omega)]
  rfl
theorem numb_no {b : List UInt8} {i j : Nat} {sg d : List UInt8} (hl : i + 1 < b.length) (hs : (if byt b (i + 1) = 45 then [45] else [] : List UInt8) = sg) (hd : digs b 101 (i + 1 + sg.length) = .ok d j) (hno : ∀ v, Lib.atoiAll (sg ++ d) ≠ .ok v) : numb b i = .bad i 23 := by
  rw [numb_sg hl, hs, hd]
  dsimp only
  cases e : Lib.atoiAll (sg ++ d) with
  | ok v => exact absurd e (hno v)
  | «syntax» => rfl
  | range => rfl
theorem numb_bad {b : List UInt8} {i j : Nat} {v : Int} {sg d : List UInt8} (hl : i + 1 < b.length) (hs : (if byt b (i + 1) = 45 then [45] else [] : List UInt8) = sg) (hd : digs b 101 (i + 1 + sg.length) = .ok d j) (hv : Lib.atoiAll (sg ++ d) = .ok v) (h : padd d = true ∨ sg ++ d = [45, 48]) : numb b i = .bad i 23 := by
  rw [numb_sg hl, hs, hd]
  dsimp only
  rw [hv]
  dsimp only
  rw [if_pos h]
theorem numb_ok {b : List UInt8} {i j : Nat} {v : Int} {sg d : List UInt8} (hl : i + 1 < b.length) (hs : (if byt b (i + 1) = 45 then [45] else [] : List UInt8) = sg) (hd : digs b 101 (i + 1 + sg.length) = .ok d j) (hv : Lib.atoiAll (sg ++ d) = .ok v) (h : padd d = false) (h' : ¬ sg ++ d = [45, 48]) : numb b i = .ok v j := by
  rw [numb_sg hl, hs, hd]
  dsimp only
  rw [hv]
  dsimp only
  rw [if_neg (by rintro (h1 | h1); rw [h] at h1; cases h1; exact h' h1)]
set_option maxRecDepth 10000 in
set_option maxHeartbeats 1000000 in
theorem number45 (rb : Nat) (a : Option Addr) (c : Nat) (b : List UInt8) (i : Nat) (w : World) (h : RR rb w a c b i) (hi : i < b.length) :
    Calls Tryd.prog 79 #[.pointer (some ⟨rb, 0, none⟩)] w fun e w' => pcEnd (numb b i) rb w w' a c b (fun n => .iface 99 (.int .i64 n)) e := by
  obtain ⟨c0, c1, f1⟩ := h.cells
  have hl := h.2.2.2.1
  have HN : Hid (RR rb (w.setCell ⟨rb, 1, none⟩ (.int .i64 ((i : Int) + 1))) a c b (i + 1) ∧ Besides rb w (w.setCell ⟨rb, 1, none⟩ (.int .i64 ((i : Int) + 1)))) := ⟨h.set (i + 1) (by omega), (Besides.refl _ _).set1⟩
  clear h
  go_enter Tryd.func79, Tryd.ntmps79
  go_wp2_with fail
  clear c0 c1 f1
  generalize w.setCell ⟨rb, 1, none⟩ (.int .i64 ((i : Int) + 1)) = w1 at *
  refine (next43 rb a c b (i + 1) w1 HN.out.1).mono ?_
  rintro e w2 ⟨hb1, ⟨hlt, rfl⟩ | ⟨heq, rfl⟩⟩
  case inr =>
    rw [heq]
    exact ⟨rfl, pcEnd.bad (by rw [numb, if_pos (by omega)]) (HN.out.2.trans (Besides.of_below hb1))⟩
  have H1 : Hid (RR rb w2 a c b (i + 1) ∧ Besides rb w w2) := ⟨HN.out.1.heap hb1, HN.out.2.trans (Besides.of_below hb1)⟩
  clear HN hb1
  obtain ⟨c0, c1, f1⟩ := H1.out.1.cells
  by_cases hs : byt b (i + 1) = 45
  · rw [hs]
    have H2 : Hid (RR rb (w2.setCell ⟨rb, 1, none⟩ (.int .i64 ((i : Int) + 1 + 1))) a c b (i + 1 + 1) ∧ Besides rb w (w2.setCell ⟨rb, 1, none⟩ (.int .i64 ((i : Int) + 1 + 1)))) := ⟨H1.out.1.set (i + 1 + 1) (by omega), H1.out.2.set1⟩
    go_wp2_with fail
    clear c0 c1 f1 H1
    generalize w2.setCell ⟨rb, 1, none⟩ (.int .i64 ((i : Int) + 1 + 1)) = w3 at *
    refine (digits52 rb a c b 101 (i + 1 + 1) w3 H2.out.1).mono ?_
    intro e w4 hp
    obtain ⟨hb1, ⟨d, j, hd, rfl, hr1⟩ | ⟨p, er, hd, rfl⟩⟩ := hp.cases
    case inr => exact ⟨rfl, pcEnd.bad (by simp [numb, hs, hd]; omega) (H2.out.2.trans hb1)⟩
    have hdl : d.length ≤ 1048576 := by have := digs_len hd; have := digs_ok hd; omega
    have hq : ¬ 9223372036854775807 < 1 + d.length := by omega
    have H4 : Hid (RR rb w4 a c b j ∧ Besides rb w w4) := ⟨hr1, H2.out.2.trans hb1⟩
    have HD : Hid (digs b 101 (i + 1 + 1) = .ok d j) := hd
    have hss : (({ data := #[45] } : ByteArray) ++ { data := d.toArray }).data.toList = [45] ++ d := by simp
    have hsz : (({ data := #[45] } : ByteArray) ++ { data := d.toArray }).size = 1 + d.length := by simp [ByteArray.size]; omega
    clear hp hb1 hd hr1 H2
    go_wp2_with fail
    refine (parseInt53 _ rb w4 (by rw [hsz]; omega) H4.out.1.1.2).mono ?_
    rw [hss]
    rintro e w5 ⟨hb5, ⟨v, hv, rfl⟩ | ⟨hno, n, ty, N, rfl⟩⟩
    case inr =>
      have H5 : Hid (RR rb w5 a c b j ∧ Besides rb w w5) := ⟨H4.out.1.heap hb5, H4.out.2.trans (Besides.of_below hb5)⟩
      have HE : Hid (numb b i = .bad i 23) := Lib.hid (numb_no (sg := [45]) (by omega) (if_pos hs) HD.out hno)
      clear H4 hb5 hno
      go_wp2_with fail
      refine (giveUp44 rb _ _ _).mono ?_
      rintro e w' ⟨rfl, rfl⟩
      exact ⟨rfl, pcEnd.bad HE.out H5.out.2⟩
    have H5 : Hid (RR rb w5 a c b j ∧ Besides rb w w5) := ⟨H4.out.1.heap hb5, H4.out.2.trans (Besides.of_below hb5)⟩
    have HV : Hid (Lib.atoiAll ([45] ++ d) = .ok v) := hv
    clear H4 hb5 hv
    go_wp2_with fail
    refine (padded54 d w5 (by omega)).mono ?_
    rintro e w6 ⟨rfl, rfl⟩
    by_cases hp : padd d = true
    · rw [hp]
      have HE : Hid (numb b i = .bad i 23) := Lib.hid (numb_bad (sg := [45]) (by omega) (if_pos hs) HD.out HV.out (.inl hp))
      go_wp2_with fail
      refine (giveUp44 rb _ _ _).mono ?_
      rintro e w' ⟨rfl, rfl⟩
      exact ⟨rfl, pcEnd.bad HE.out H5.out.2⟩
    have hp' : padd d = false := by simpa using hp
    rw [hp']
    by_cases hm : [45] ++ d = [45, 48]
    · have HE : Hid (numb b i = .bad i 23) := Lib.hid (numb_bad (sg := [45]) (by omega) (if_pos hs) HD.out HV.out (.inr hm))
      have hst : ((({ data := #[45] } : ByteArray) ++ { data := d.toArray }).toList == [45, 48]) = true := by rw [ByteArray.toList_eq, hss, hm]; rfl
      clear hss hsz hm
      go_wp2_with fail
      refine (giveUp44 rb _ _ _).mono ?_
      rintro e w' ⟨rfl, rfl⟩
      exact ⟨rfl, pcEnd.bad HE.out H5.out.2⟩
    · have HE : Hid (numb b i = .ok v j) := Lib.hid (numb_ok (sg := [45]) (by omega) (if_pos hs) HD.out HV.out hp' hm)
      have hst : ((({ data := #[45] } : ByteArray) ++ { data := d.toArray }).toList == [45, 48]) = false := by rw [ByteArray.toList_eq, hss]; exact beq_eq_false_iff_ne.2 hm
      clear hss hsz hm
      go_wp2
      go_ret
      exact pcEnd.ok HE.out H5.out.2 H5.out.1
  · have hz : ((byt b (i + 1)).toNat : Int) ≠ 45 := u8_ne hs
    go_wp2_with fail
    clear c0 c1 f1
    refine (digits52 rb a c b 101 (i + 1) w2 H1.out.1).mono ?_
    intro e w4 hp
    obtain ⟨hb1, ⟨d, j, hd, rfl, hr1⟩ | ⟨p, er, hd, rfl⟩⟩ := hp.cases
    case inr => exact ⟨rfl, pcEnd.bad (by simp [numb, hs, hd]; omega) (H1.out.2.trans hb1)⟩
    have hdl : d.length ≤ 1048576 := by have := digs_len hd; have := digs_ok hd; omega
    have hq : ¬ 9223372036854775807 < d.length := by omega
    have H4 : Hid (RR rb w4 a c b j ∧ Besides rb w w4) := ⟨hr1, H1.out.2.trans hb1⟩
    have HD : Hid (digs b 101 (i + 1) = .ok d j) := hd
    have hss : (({ data := #[] } : ByteArray) ++ { data := d.toArray }).data.toList = [] ++ d := by simp
    have hsz : (({ data := #[] } : ByteArray) ++ { data := d.toArray }).size = d.length := by simp [ByteArray.size]
    clear hp hb1 hd hr1 H1
    go_wp2_with fail
    refine (parseInt53 _ rb w4 (by rw [hsz]; omega) H4.out.1.1.2).mono ?_
    rw [hss]
    rintro e w5 ⟨hb5, ⟨v, hv, rfl⟩ | ⟨hno, n, ty, N, rfl⟩⟩
    case inr =>
      have H5 : Hid (RR rb w5 a c b j ∧ Besides rb w w5) := ⟨H4.out.1.heap hb5, H4.out.2.trans (Besides.of_below hb5)⟩
      have HE : Hid (numb b i = .bad i 23) := Lib.hid (numb_no (sg := []) (by omega) (if_neg hs) HD.out hno)
      clear H4 hb5 hno
      go_wp2_with fail
      refine (giveUp44 rb _ _ _).mono ?_
      rintro e w' ⟨rfl, rfl⟩
      exact ⟨rfl, pcEnd.bad HE.out H5.out.2⟩
    have H5 : Hid (RR rb w5 a c b j ∧ Besides rb w w5) := ⟨H4.out.1.heap hb5, H4.out.2.trans (Besides.of_below hb5)⟩
    have HV : Hid (Lib.atoiAll ([] ++ d) = .ok v) := hv
    clear H4 hb5 hv
    go_wp2_with fail
    refine (padded54 d w5 (by omega)).mono ?_
    rintro e w6 ⟨rfl, rfl⟩
    by_cases hp : padd d = true
    · rw [hp]
      have HE : Hid (numb b i = .bad i 23) := Lib.hid (numb_bad (sg := []) (by omega) (if_neg hs) HD.out HV.out (.inl hp))
      go_wp2_with fail
      refine (giveUp44 rb _ _ _).mono ?_
      rintro e w' ⟨rfl, rfl⟩
      exact ⟨rfl, pcEnd.bad HE.out H5.out.2⟩
    have hp' : padd d = false := by simpa using hp
    rw [hp']
    by_cases hm : [] ++ d = [45, 48]
    · have HE : Hid (numb b i = .bad i 23) := Lib.hid (numb_bad (sg := []) (by omega) (if_neg hs) HD.out HV.out (.inr hm))
      have hst : ((({ data := #[] } : ByteArray) ++ { data := d.toArray }).toList == [45, 48]) = true := by rw [ByteArray.toList_eq, hss, hm]; rfl
      clear hss hsz hm
      go_wp2_with fail
      refine (giveUp44 rb _ _ _).mono ?_
      rintro e w' ⟨rfl, rfl⟩
      exact ⟨rfl, pcEnd.bad HE.out H5.out.2⟩
    · have HE : Hid (numb b i = .ok v j) := Lib.hid (numb_ok (sg := []) (by omega) (if_neg hs) HD.out HV.out hp' hm)
      have hst : ((({ data := #[] } : ByteArray) ++ { data := d.toArray }).toList == [45, 48]) = false := by rw [ByteArray.toList_eq, hss]; exact beq_eq_false_iff_ne.2 hm
      clear hss hsz hm
      go_wp2
      go_ret
      exact pcEnd.ok HE.out H5.out.2 H5.out.1
end Go.Proofs.YtdlnnnlmlaploaaDoor
