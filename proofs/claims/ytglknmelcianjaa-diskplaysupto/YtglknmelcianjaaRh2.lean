import Derived.Test.YtglknmelcianjaaRg2
namespace Go.Proofs.Ytglknmelcianjaa
open Go.RowKit
section
variable {S : Nat → Prop} {w w' : World} {q lb cap : Nat} {wv : Value} {ps : List (Wt × Value)} {lf : Int} {D : Dk}
/-- no writes and no fuse are left -/
theorem RI.clear2 (h : RI S w q lb cap wv ps lf D) : RI S ((w.setCell ⟨q, 1, none⟩ (.slice none 0 0)).setCell ⟨q, 2, none⟩ (.bool false)) q lb cap (.slice none 0 0) [] lf ⟨D.last, [], none⟩ :=
  h.clear.put 2 _ _ _ rfl rfl ⟨h.gd.mul, h.gd.pos, h.gd.max, fun x hx => by simp at hx, fun k hk => by cases hk⟩ (fun k hk => by cases hk) rfl
/-- the disk behind a crash -/
def crE (keep : List Bool) (torn : Int) (cut : Int) (D : Dk) : Dk := ⟨crD keep torn (if torn = -1 then 0 else cut.toNat) D.last D.ws, [], none⟩
theorem crN_len (keep : List Bool) (torn : Int) (cn n : Nat) (l : List UInt8) (x : Wt) (hs : 64 * x.at_ + 64 ≤ l.length) (hd : x.data.length = 64) : (crN keep torn cn n l x).length = l.length := by
  unfold crN
  split
  · rfl
  split
  · exact sp_len _ _ _ (by rw [List.length_take]; omega)
  split
  · exact sp_len _ _ _ (by omega)
  · rfl
theorem crD_nil (keep : List Bool) (torn : Int) (cn : Nat) (last : List UInt8) : crD keep torn cn last [] = last := by
  rw [crD_eq]
  conv => rhs; rw [← lf_self last]
  exact lf_congr fun i _ => crB_none rfl
set_option maxHeartbeats 4000000 in
set_option maxRecDepth 100000 in
theorem rcrashT (h : RI S w q lb cap wv ps lf D) (kv : Value) (keep : List Bool) (hk : RBo w kv keep) (hkl : keep.length = D.ws.length) (hks : ∀ g, kv.ownBlock = some g → keep ≠ [] → ¬ S g) (hn : ps.length ≤ 1073741824) (torn cut : Int) (h1 : -1 ≤ torn) (h2 : torn < D.ws.length) (h3 : torn ≠ -1 → 0 ≤ cut ∧ cut ≤ 64) :
    Calls Try.prog 36 #[.pointer (some ⟨q, 0, none⟩), kv, .int .i64 torn, .int .i64 cut] w fun e w' => e = .returned (.int .i64 0) ∧ RK S w' q (crE keep torn cut D) ∧ Fr (fun k => ¬ S k) w w' := by
  obtain ⟨cn, hcn, hcn1, hcn2⟩ : ∃ cn : Nat, cn = (if torn = -1 then 0 else cut.toNat) ∧ cn ≤ 64 ∧ (torn ≠ -1 → cut = (cn : Int)) := by
    refine ⟨_, rfl, ?_, ?_⟩
    · split
      · omega
      · have := h3 (by assumption); omega
    · intro ht
      rw [if_neg ht]
      have := h3 ht
      omega
  have HE : Hid (crE keep torn cut D = ⟨crD keep torn cn D.last D.ws, [], none⟩) := by
    show crE keep torn cut D = _
    unfold crE
    rw [← hcn]
  have hwl : D.ws.length = ps.length := by rw [h.ws, List.length_map]
  rw [hwl] at h2 hkl
  have H : Hid (RI S w q lb cap wv ps lf D) := h
  obtain ⟨wa, wc', hwv⟩ := h.wform
  have HWV := Lib.hid hwv
  have c10 := h.c1
  rw [hwv] at c10
  have HK0 := Lib.hid hk
  have HKS := Lib.hid hks
  have hkl0 := hkl
  obtain ⟨ka, kc, rfl, -, -⟩ := hk
  rw [hkl] at HK0 HKS ⊢
  have HKL := Lib.hid hkl0
  clear hkl0
  generalize hpn : ps.length = n at *
  have HPN := Lib.hid hpn
  have HC1 := Lib.hid hcn1
  have HC2 := Lib.hid hcn2
  have ht1 : decide (torn < -1) = false := decide_eq_false (by omega)
  have ht2 : decide ((n : Int) ≤ torn) = false := decide_eq_false (by omega)
  have HT : Hid (-1 ≤ torn ∧ torn < (n : Int)) := ⟨h1, h2⟩
  have H3 := Lib.hid h3
  clear h hwv hpn hks hcn hcn1 hcn2 hwl h1 h2 h3 hkl
  rcases ht3 : (torn != -1) with _ | _
  all_goals
    have HT3 := Lib.hid ht3
    first
    | (have h3 := H3.out (bne_iff_ne.1 ht3)
       have ht5 : decide (cut < 0) = false := decide_eq_false (by omega)
       have ht6 : decide ((64 : Int) < cut) = false := decide_eq_false (by omega))
    | skip
    go_enter Try.func36, Try.ntmps36
    go_wp2_with fail
    go_loopw [10] (fun t wr => ∃ i : Nat, i ≤ n ∧ t = .int .i64 i ∧ Hid (RI S wr q lb cap wv ps lf ⟨crD keep torn cn D.last (D.ws.take i), D.ws, D.fu⟩ ∧ Fr (fun k => ¬ S k) w wr)) (fun t _ => n - (intOf t).toNat)
    case atStart => exact ⟨0, Nat.zero_le _, rfl, ⟨by rw [List.take_zero, crD_nil]; exact H.out, Fr.refl _ _⟩⟩
    case round =>
      obtain ⟨i, hi, rfl, HI⟩ := hrel
      clear c10 ht1 ht2 ht3
      have c1 := HI.out.1.c1
      rw [HWV.out] at c1
      by_cases hlt : i < n
      · have hip : i < ps.length := by rw [HPN.out]; exact hlt
        obtain ⟨p, hp⟩ : ∃ p, ps[i]? = some p := ⟨_, List.getElem?_eq_getElem hip⟩
        obtain ⟨gw, c, hwv, hrg⟩ := HI.out.1.at hp
        have hwv2 := HWV.out
        rw [hwv] at hwv2
        simp only [Value.slice.injEq] at hwv2
        obtain ⟨rfl, -, rfl⟩ := hwv2
        obtain ⟨hwsi, hpm, hs, hd⟩ := HI.out.1.wat hp
        have hil := crD_len keep torn cn D.last (D.ws.take i)
        have htk : D.ws.take i ++ [p.1] = D.ws.take (i + 1) := by
          obtain ⟨e1, e2⟩ := List.getElem?_eq_some_iff.1 hwsi
          rw [List.take_succ_eq_append_getElem e1, e2]
        have hwi : (D.ws.take i).length = i := by
          obtain ⟨e1, e2⟩ := List.getElem?_eq_some_iff.1 hwsi
          rw [List.length_take]; exact Nat.min_eq_left (Nat.le_of_lt e1)
        have hsn := crD_snoc keep torn cn D.last (D.ws.take i) p.1 H.out.gd.mul (by rw [← hil]; exact hs) hd (fun y hy => (H.out.gd.ws y (List.mem_of_mem_take hy)).2) HC1.out
        rw [htk, hwi] at hsn
        unfold crN at hsn
        have HSN := Lib.hid hsn
        have HCal : Hid (∀ m : Nat, m ≤ 64 → Calls Try.prog 46 #[.pointer (some ⟨q, 0, none⟩), .agg #[.int .i64 (p.1.at_ : Int), p.2, .bool p.1.dead], .int .i64 (m : Int)] wr fun e w' => e = .returned (.tuple #[]) ∧ OW 0 w' (.slice (some ⟨lb, 0, none⟩) (crD keep torn cn D.last (D.ws.take i)).length cap) (sp (crD keep torn cn D.last (D.ws.take i)) (64 * p.1.at_) (p.1.data.take m)) ∧ Fr (fun k => k ≠ lb) wr w') := fun m hm =>
          layT wr q lb cap p.1.at_ (crD keep torn cn D.last (D.ws.take i)) p.1.data p.2 p.1.dead m HI.out.1.c0 (fun e => HI.out.1.lbq e.symm) HI.out.1.lt HI.out.1.las (HI.out.1.dat p hpm).1 hd (fun g hg => ((HI.out.1.dat p hpm).2 g hg).1) hs HI.out.1.gd.max hm
        have HNx : Hid (∀ w2 l2, l2 = crD keep torn cn D.last (D.ws.take (i + 1)) → OW 0 w2 (.slice (some ⟨lb, 0, none⟩) (crD keep torn cn D.last (D.ws.take i)).length cap) l2 → Fr (fun k => k ≠ lb) wr w2 → RI S w2 q lb cap wv ps lf ⟨crD keep torn cn D.last (D.ws.take (i + 1)), D.ws, D.fu⟩ ∧ Fr (fun k => ¬ S k) w w2) := fun w2 l2 e2 ho hf => by
          subst e2
          exact ⟨HI.out.1.laid hf (by show _ = (crD keep torn cn D.last (D.ws.take i)).length; rw [crD_len, crD_len]) ho, HI.out.2.trans hf (fun k _ hk e => hk (by rw [e]; exact HI.out.1.sl))⟩
        have HD := Lib.hid hd
        have HO := Lib.hid HI.out.1.las
        have HKx : Hid (∃ gk ok, ka = some ⟨gk, ok, none⟩ ∧ wr.cell? ⟨gk, ok + i, none⟩ = some (.bool (keep.getD i false))) := by
          obtain ⟨a', c', e', _, hx⟩ := HK0.out.fr' HI.out.2 HKS.out
          simp only [Value.slice.injEq] at e'
          obtain ⟨rfl, -, rfl⟩ := e'
          rcases hx with hx | ⟨gk, ok, e9, _, h9⟩
          · have := HKL.out; rw [hx] at this; simp at this; omega
          · exact ⟨gk, ok, e9, h9 i (by rw [HKL.out]; exact hlt)⟩
        clear htk hil hwsi hs hd hwv hpm hsn hwi
        obtain ⟨k0, k1, k2⟩ := rangeC hrg
        clear hrg
        cases hdd : p.1.dead with
        | true =>
          rw [hdd] at k2
          have HN := Lib.hid (HNx.out wr (crD keep torn cn D.last (D.ws.take i)) (by have := HSN.out; rw [if_pos hdd] at this; exact this) HO.out (Fr.refl _ _))
          clear HNx HCal HSN HO HKx hdd HI hp
          go_wp2
          exact ⟨⟨i + 1, by omega, by go_num, HN⟩, by simp [intOf]; omega⟩
        | false =>
          rw [hdd] at k2
          have hsn := HSN.out
          rw [if_neg (by rw [hdd]; decide)] at hsn
          have HCb := HCal
          rw [hdd] at HCb
          by_cases htt : (i : Int) = torn
          · rw [if_pos htt] at hsn
            have htb : ((i : Int) == torn) = true := beq_iff_eq.2 htt
            have hcut := HC2.out (by omega)
            have hcal := HCb.out cn HC1.out
            rw [← hcut] at hcal
            have HC := Lib.hid hcal
            have HN2 : Hid (∀ w2, OW 0 w2 (.slice (some ⟨lb, 0, none⟩) (crD keep torn cn D.last (D.ws.take i)).length cap) (sp (crD keep torn cn D.last (D.ws.take i)) (64 * p.1.at_) (p.1.data.take cn)) → Fr (fun k => k ≠ lb) wr w2 → RI S w2 q lb cap wv ps lf ⟨crD keep torn cn D.last (D.ws.take (i + 1)), D.ws, D.fu⟩ ∧ Fr (fun k => ¬ S k) w w2) := fun w2 ho hf => HNx.out w2 _ hsn ho hf
            clear hcal hsn HNx HCal HCb HSN HO HKx hdd HI hp hcut htt
            generalize (p.1.at_ : Int) = pat at *
            generalize p.2 = pv at *
            go_wp2_with fail
            refine HC.out.mono ?_
            rintro e w2 ⟨rfl, ho2, hf2⟩
            have HN := Lib.hid (HN2.out w2 ho2 hf2)
            clear ho2 hf2 HN2 HC k0 k1 k2 c1
            go_wp2
            exact ⟨⟨i + 1, by omega, by go_num, HN⟩, by simp [intOf]; omega⟩
          · rw [if_neg htt] at hsn
            have htb : ((i : Int) == torn) = false := beq_eq_false_iff_ne.2 htt
            obtain ⟨gk, ok, rfl, kk⟩ := HKx.out
            cases hkp : keep.getD i false with
            | true =>
              rw [hkp] at kk
              rw [if_pos hkp] at hsn
              have hcal := HCb.out 64 (Nat.le_refl _)
              rw [List.take_of_length_le (Nat.le_of_eq HD.out)] at hcal
              have HC := Lib.hid hcal
              have HN2 : Hid (∀ w2, OW 0 w2 (.slice (some ⟨lb, 0, none⟩) (crD keep torn cn D.last (D.ws.take i)).length cap) (sp (crD keep torn cn D.last (D.ws.take i)) (64 * p.1.at_) p.1.data) → Fr (fun k => k ≠ lb) wr w2 → RI S w2 q lb cap wv ps lf ⟨crD keep torn cn D.last (D.ws.take (i + 1)), D.ws, D.fu⟩ ∧ Fr (fun k => ¬ S k) w w2) := fun w2 ho hf => HNx.out w2 _ hsn ho hf
              clear hcal hsn HNx HCal HCb HSN HO HKx hdd HI hp htt hkp
              generalize (p.1.at_ : Int) = pat at *
              generalize p.2 = pv at *
              go_wp2_with fail
              refine HC.out.mono ?_
              rintro e w2 ⟨rfl, ho2, hf2⟩
              have HN := Lib.hid (HN2.out w2 ho2 hf2)
              clear ho2 hf2 HN2 HC k0 k1 k2 c1 kk
              go_wp2
              exact ⟨⟨i + 1, by omega, by go_num, HN⟩, by simp [intOf]; omega⟩
            | false =>
              rw [hkp] at kk
              rw [if_neg (by rw [hkp]; decide)] at hsn
              have HN := Lib.hid (HNx.out wr _ hsn HO.out (Fr.refl _ _))
              clear hsn HNx HCal HCb HSN HO HKx hdd HI hp htt hkp
              go_wp2
              exact ⟨⟨i + 1, by omega, by go_num, HN⟩, by simp [intOf]; omega⟩
      · have hlen : D.ws.length = i := by
          have := H.out.ws
          rw [this, List.length_map, HPN.out]; omega
        have hin : n = i := by omega
        subst hin
        have HR : Hid (RI S ((wr.setCell ⟨q, 1, none⟩ (.slice none 0 0)).setCell ⟨q, 2, none⟩ (.bool false)) q lb cap (.slice none 0 0) [] lf ⟨crD keep torn cn D.last D.ws, [], none⟩ ∧ Fr (fun k => ¬ S k) w ((wr.setCell ⟨q, 1, none⟩ (.slice none 0 0)).setCell ⟨q, 2, none⟩ (.bool false))) := by
          have h1 := HI.out
          rw [List.take_of_length_le (by omega)] at h1
          exact ⟨h1.1.clear2, (h1.2.setCell q 1 _ (fun _ hk => hk h1.1.sq)).setCell q 2 _ (fun _ hk => hk h1.1.sq)⟩
        have fz1 := HI.out.1.frz 1
        have c2 := HI.out.1.clear.c2
        have fz2 := HI.out.1.clear.frz 2
        clear HI hlen
        go_wp2
        go_ret
        refine ⟨rfl, ?_, HR.out.2⟩
        rw [HE.out]
        exact ⟨_, _, _, _, _, HR.out.1⟩
end
end Go.Proofs.Ytglknmelcianjaa
