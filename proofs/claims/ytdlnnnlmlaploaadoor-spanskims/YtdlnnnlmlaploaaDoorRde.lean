import Derived.Test.YtdlnnnlmlaploaaDoorRdv
import Derived.Test.YtdlnnnlmlaploaaDoorRdd
namespace Go.Proofs.YtdlnnnlmlaploaaDoor
open Go.RowKit Go.Deep
theorem numb_lt {b : List UInt8} {i j : Nat} {n : Int} (h : numb b i = .ok n j) : i < j := by
  by_cases hl : i + 1 < b.length
  · rw [numb_sg hl] at h
    generalize (if byt b (i + 1) = 45 then [45] else [] : List UInt8) = sg at h
    cases hd : digs b 101 (i + 1 + sg.length) with
    | bad p e => rw [hd] at h; cases h
    | ok d k =>
      rw [hd] at h
      dsimp only at h
      obtain ⟨_, h2, _⟩ := digs_ok hd
      cases ha : Lib.atoiAll (sg ++ d) with
      | ok v =>
        rw [ha] at h
        dsimp only at h
        by_cases hc : padd d = true ∨ sg ++ d = [45, 48]
        · rw [if_pos hc] at h; cases h
        · rw [if_neg hc] at h; cases h; omega
      | «syntax» => rw [ha] at h; cases h
      | range => rw [ha] at h; cases h
  · rw [numb, if_pos (by omega)] at h; cases h
theorem scal_num {b : List UInt8} {st : List Fr} {i j : Nat} {n : Int} (hx : byt b i = 105) (h : numb b i = .ok n j) : scal b st i = deliver st (tNum n) j := by rw [scal, if_pos hx, h]
theorem scal_nbad {b : List UInt8} {st : List Fr} {i p : Nat} {e : Int} (hx : byt b i = 105) (h : numb b i = .bad p e) : scal b st i = .bad p e := by rw [scal, if_pos hx, h]
theorem scal_str {b : List UInt8} {st : List Fr} {i j : Nat} {s : ByteArray} (hx : dig (byt b i) = true) (h : strg b i = .ok s j) : scal b st i = deliver st (tStr s) j := by
  rw [scal, if_neg (by intro e; rw [e] at hx; revert hx; decide), if_pos hx, h]
theorem scal_sbad {b : List UInt8} {st : List Fr} {i p : Nat} {e : Int} (hx : dig (byt b i) = true) (h : strg b i = .bad p e) : scal b st i = .bad p e := by
  rw [scal, if_neg (by intro e; rw [e] at hx; revert hx; decide), if_pos hx, h]
set_option maxRecDepth 10000 in
set_option maxHeartbeats 2000000 in
theorem value34 (b : List UInt8) : ∀ N, VVc b N := by
  intro N
  induction N with
  | zero => intro rb a c st i w hN; omega
  | succ N ih =>
    intro rb a c st i w hN h hst hrd
    have HI := Lib.hid ih
    have HR := Lib.hid h
    have HRD := Lib.hid hrd
    have hl := h.2.2.2.1
    clear ih h hrd
    go_enter Tryd.func73, Tryd.ntmps73
    go_wp2_with fail
    refine (next43 rb a c b i w HR.out).mono ?_
    rintro e w1 ⟨hb1, ⟨hlt, rfl⟩ | ⟨heq, rfl⟩⟩
    case inr =>
      rw [heq]
      exact ⟨rfl, valEnd.bad (Besides.of_below hb1) (Run.one (step_end (by omega)))⟩
    have H1 : Hid (RR rb w1 a c b i ∧ Besides rb w w1) := ⟨HR.out.heap hb1, Besides.of_below hb1⟩
    have HS : Hid (step b st i = opn b st i) := Lib.hid (step_ready HRD.out hlt)
    have HW : Hid (w.heap.size ≤ w1.heap.size) := Lib.hid hb1.size
    clear hb1 HR
    obtain ⟨c0, c1, f1⟩ := H1.out.1.cells
    have hst0 : (st.length : Int) ≤ 32 := by omega
    by_cases h105 : byt b i = 105
    · rw [h105]
      have HE : Hid (step b st i = scal b st i) := Lib.hid (by rw [HS.out, opn, if_neg (by rw [h105]; decide), if_neg (by rw [h105]; decide)])
      go_wp2_with fail
      refine (number45 rb a c b i w1 H1.out.1 hlt).mono ?_
      intro e w2 hp
      obtain ⟨hb2, ⟨n, j, hd, rfl, hr2⟩ | ⟨p, er, hd, rfl⟩⟩ := hp.cases
      case inr => exact ⟨rfl, valEnd.bad (H1.out.2.trans hb2) (Run.one (by rw [HE.out, scal_nbad h105 hd]))⟩
      have HF : Hid (valEnd b st i rb w w2 a c (fun u => u) (.returned (.iface 99 (.int .i64 n)))) := Lib.hid (valEnd.ok (t := tNum n) (H1.out.2.trans hb2) (.inl ⟨rfl, rfl⟩) hr2 (numb_lt hd) (Run.one (by rw [HE.out, scal_num h105 hd])) (tok_num n))
      clear hp hb2 hr2 hd HE H1 c0 c1 f1
      go_wp2
      go_ret
      exact HF.out
    by_cases h108 : byt b i = 108
    · rw [h108]
      by_cases h32 : st.length = 32
      · have HE : Hid (step b st i = .bad i 24) := Lib.hid (by rw [HS.out, opn, if_pos h108, if_pos (by omega)])
        have h32' : (st.length : Int) = 32 := by omega
        go_wp2_with fail
        refine (giveUp44 rb _ _ _).mono ?_
        rintro e w' ⟨rfl, rfl⟩
        exact ⟨rfl, valEnd.bad H1.out.2 (Run.one HE.out)⟩
      · have h32' : (st.length : Int) < 32 := by omega
        have HC := Lib.hid (list48 b N HI.out rb a c st i w1 (by omega) H1.out.1 hlt (by omega) HRD.out h108)
        go_wp2_with fail
        refine (isDigit46 108 _).mono ?_
        rintro e w2 ⟨rfl, rfl⟩
        rw [show dig 108 = false from by decide]
        go_wp2_with fail
        refine HC.out.mono ?_
        rintro e w3 ⟨hb3, ⟨t, u, j2, rfl, hrn, hrr, hlt2, hrun, htok⟩ | ⟨p, er, rfl, hrun⟩⟩
        case inr => exact ⟨rfl, valEnd.bad (H1.out.2.trans hb3) hrun⟩
        have HF : Hid (valEnd b st i rb w w3 a c (fun u => u) (.returned (.iface 102 u))) := Lib.hid (valEnd.ok (H1.out.2.trans hb3) (RN.move (fun x hx _ => Nat.le_trans HW.out hx) (Nat.le_refl _) (fun _ _ _ => rfl) _ _ hrn) hrr hlt2 hrun htok)
        clear hrn hrr hrun htok hb3 HC H1 c0 c1 f1
        go_wp2
        go_ret
        exact HF.out
    by_cases h100 : byt b i = 100
    · rw [h100]
      by_cases h32 : st.length = 32
      · have HE : Hid (step b st i = .bad i 24) := Lib.hid (by rw [HS.out, opn, if_neg h108, if_pos h100, if_pos (by omega)])
        have h32' : (st.length : Int) = 32 := by omega
        go_wp2_with fail
        refine (giveUp44 rb _ _ _).mono ?_
        rintro e w' ⟨rfl, rfl⟩
        exact ⟨rfl, valEnd.bad H1.out.2 (Run.one HE.out)⟩
      · have h32' : (st.length : Int) < 32 := by omega
        have HC := Lib.hid (dict49 b N HI.out rb a c st i w1 (by omega) H1.out.1 hlt (by omega) HRD.out h100)
        go_wp2_with fail
        refine (isDigit46 100 _).mono ?_
        rintro e w2 ⟨rfl, rfl⟩
        rw [show dig 100 = false from by decide]
        go_wp2_with fail
        refine HC.out.mono ?_
        rintro e w3 ⟨hb3, ⟨t, u, j2, rfl, hrn, hrr, hlt2, hrun, htok⟩ | ⟨p, er, rfl, hrun⟩⟩
        case inr => exact ⟨rfl, valEnd.bad (H1.out.2.trans hb3) hrun⟩
        have HF : Hid (valEnd b st i rb w w3 a c (fun u => u) (.returned (.iface 105 u))) := Lib.hid (valEnd.ok (H1.out.2.trans hb3) (RN.move (fun x hx _ => Nat.le_trans HW.out hx) (Nat.le_refl _) (fun _ _ _ => rfl) _ _ hrn) hrr hlt2 hrun htok)
        clear hrn hrr hrun htok hb3 HC H1 c0 c1 f1
        go_wp2
        go_ret
        exact HF.out
    have HE : Hid (step b st i = scal b st i) := Lib.hid (by rw [HS.out, opn, if_neg h108, if_neg h100])
    have z105 : ((byt b i).toNat : Int) ≠ 105 := u8_ne h105
    have z108 : ((byt b i).toNat : Int) ≠ 108 := u8_ne h108
    have z100 : ((byt b i).toNat : Int) ≠ 100 := u8_ne h100
    go_wp2_with fail
    refine (isDigit46 (byt b i) _).mono ?_
    rintro e w2 ⟨rfl, rfl⟩
    cases hdg : dig (byt b i) with
    | true =>
      go_wp2_with fail
      refine (word47 rb a c b i w2 H1.out.1).mono ?_
      intro e w3 hp
      obtain ⟨hb2, ⟨s, j, hd, rfl, hr2⟩ | ⟨p, er, hd, rfl⟩⟩ := hp.cases
      case inr => exact ⟨rfl, valEnd.bad (H1.out.2.trans hb2) (Run.one (by rw [HE.out, scal_sbad hdg hd]))⟩
      have hsl := strg_lt hd
      have HF : Hid (valEnd b st i rb w w3 a c (fun u => u) (.returned (.iface 100 (.string s)))) := Lib.hid (valEnd.ok (t := tStr s) (H1.out.2.trans hb2) (.inr (.inl ⟨rfl, rfl⟩)) hr2 hsl.1 (Run.one (by rw [HE.out, scal_str hdg hd])) (tok_str s (by omega)))
      clear hp hb2 hr2 hd HE H1 c0 c1 f1
      go_wp2
      go_ret
      exact HF.out
    | false =>
      go_wp2_with fail
      refine (giveUp44 rb _ _ _).mono ?_
      rintro e w' ⟨rfl, rfl⟩
      exact ⟨rfl, valEnd.bad H1.out.2 (Run.one (by rw [HE.out, scal, if_neg h105, if_neg (by rw [hdg]; decide)]))⟩
end Go.Proofs.YtdlnnnlmlaploaaDoor
