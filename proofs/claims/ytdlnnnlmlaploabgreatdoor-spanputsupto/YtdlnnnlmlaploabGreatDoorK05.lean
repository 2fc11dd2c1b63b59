import Derived.Test.YtdlnnnlmlaploabGreatDoorK04
import Derived.Test.YtdlnnnlmlaploabGreatDoorK03
import Derived.Test.YtdlnnnlmlaploabGreatDoorK01
import Derived.Laws.OwnMore
import Derived.Laws.IdiomStrings
import Derived.Test.YtdlnnnlmlaploabGreatDoorK00
namespace Go.Proofs.YtdlnnnlmlaploabGreatDoor
open Go.RowKit Go.Deep
def fitB (l:List UInt8) (m:Bool):Bool:=decide (dval 0 l ≤ if m = true then 9223372036854775808 else 9223372036854775807)
theorem fit_short {l:List UInt8} (m:Bool) (hd:allDig l) (h:l.length < 19):fitB l m = true:=by
  have:=dval_lt l 0 hd
  have h3:10 ^ l.length ≤ 10 ^ 18:=Nat.pow_le_pow_right (by omega) (by omega)
  unfold fitB
  cases m <;> simp <;> omega
theorem fit_long {l:List UInt8} (m:Bool) (hd:allDig l) (h:19 < l.length) (h0:byt l 0 ≠ 48):fitB l m = false:=by
  cases l with
  | nil=>simp at h
  | cons x r =>
    have hx:=hd x (List.mem_cons_self ..)
    have h1:x.toNat ≠ 48:=fun e=>h0 (UInt8.toNat_inj.1 e)
    have h2:=dval_ge r (0 * 10 + (x.toNat - 48))
    have h3:10 ^ 19 ≤ 10 ^ r.length:=Nat.pow_le_pow_right (by omega) (by simp at h; omega)
    have h4:1 * 10 ^ r.length ≤ (0 * 10 + (x.toNat - 48)) * 10 ^ r.length:=Nat.mul_le_mul_right _ (by omega)
    unfold fitB
    rw [dval_cons]
    generalize dval (0 * 10 + (x.toNat - 48)) r = q at *
    have hq:10000000000000000000 ≤ q:=by omega
    cases m <;> simp <;> omega
def mostL:List UInt8:=[57,50,50,51,51,55,50,48,51,54,56,53,52,55,55,53,56,48,55]
def leastL:List UInt8:=[57,50,50,51,51,55,50,48,51,54,56,53,52,55,55,53,56,48,56]
theorem most_val:dval 0 mostL = 9223372036854775807:=by decide +kernel
theorem least_val:dval 0 leastL = 9223372036854775808:=by decide +kernel
theorem most_all:allDig mostL:=by intro c hc; revert c; decide +kernel
theorem least_all:allDig leastL:=by intro c hc; revert c; decide +kernel
theorem fit_most {l:List UInt8} (hd:allDig l) (h:l.length = 19):fitB l false = (Op.bytesLess l mostL || l == mostL):=by
  have:=less_dval l mostL 0 hd most_all (by rw [h]; rfl)
  rw [most_val] at this
  unfold fitB
  simp only [Bool.false_eq_true,if_false]
  cases e:(Op.bytesLess l mostL || l == mostL) with
  | true=>exact decide_eq_true (this.1 e)
  | false=>exact decide_eq_false (fun h=>by rw [this.2 h] at e; cases e)
theorem fit_least {l:List UInt8} (hd:allDig l) (h:l.length = 19):fitB l true = (Op.bytesLess l leastL || l == leastL):=by
  have:=less_dval l leastL 0 hd least_all (by rw [h]; rfl)
  rw [least_val] at this
  unfold fitB
  simp only [if_true]
  cases e:(Op.bytesLess l leastL || l == leastL) with
  | true=>exact decide_eq_true (this.1 e)
  | false=>exact decide_eq_false (fun h=>by rw [this.2 h] at e; cases e)
set_option maxRecDepth 10000 in
theorem fits57 (l:List UInt8) (m:Bool) (w:World) (hd:allDig l) (hl:l.length ≤ 1048576) (h0:1 < l.length → byt l 0 ≠ 48) :
    Calls Tryz.prog 94 #[.string ⟨l.toArray⟩,.bool m] w fun e w'=>w' = w∧e = .returned (.bool (fitB l m)):=by
  have hs:=ba_size l
  by_cases h19:l.length = 19
  · have z:(l.length:Int) = 19:=by omega
    cases m with
    | true =>
      rw [fit_least hd h19]
      clear h19
      go_enter Tryz.func94,Tryz.ntmps94
      go_wp2
      go_ret
      exact ⟨rfl,rfl⟩
    | false =>
      rw [fit_most hd h19]
      clear h19
      go_enter Tryz.func94,Tryz.ntmps94
      go_wp2
      go_ret
      exact ⟨rfl,rfl⟩
  · have z:(l.length:Int) ≠ 19:=by omega
    by_cases hlt:l.length < 19
    · rw [fit_short m hd hlt]
      have z2:(l.length:Int) < 19:=by omega
      go_enter Tryz.func94,Tryz.ntmps94
      go_wp2
      go_ret
      exact ⟨rfl,by simp⟩
    · rw [fit_long m hd (by omega) (h0 (by omega))]
      have z2:¬ (l.length:Int) < 19:=by omega
      go_enter Tryz.func94,Tryz.ntmps94
      go_wp2
      go_ret
      exact ⟨rfl,by simp⟩
def sgn (mb:Bool):List UInt8:=if mb = true then [45] else []
def sval (mb:Bool) (d:List UInt8):Int:=if mb = true then -(dval 0 d:Int) else (dval 0 d:Int)
theorem atoi_fit {d:List UInt8} (mb:Bool) (hd:allDig d) (hn:d ≠ []):(fitB d mb = true → Lib.atoiAll (sgn mb ++ d) = .ok (sval mb d))∧(fitB d mb = false → ∀ v,Lib.atoiAll (sgn mb ++ d) ≠ .ok v):=by
  cases mb with
  | true =>
    obtain ⟨p1,p2⟩:=atoi_neg hd hn
    constructor
    · intro h
      have h':dval 0 d ≤ 9223372036854775808:=by simpa [fitB] using h
      exact p1 h'
    · intro h
      have h':9223372036854775808 < dval 0 d:=by simpa [fitB] using h
      exact p2 h'
  | false =>
    obtain ⟨p1,p2⟩:=atoi_pos hd hn
    constructor
    · intro h
      have h':dval 0 d ≤ 9223372036854775807:=by simpa [fitB] using h
      exact p1 (by omega)
    · intro h
      have h':9223372036854775807 < dval 0 d:=by simpa [fitB] using h
      exact p2 (by omega)
def NT (b:List UInt8) (i F:Nat) (mb:Bool):Prop:=(b.length ≤ F + run b F → numb b i = .bad b.length 21)∧(F + run b F < b.length → (run b F = 0 ∨ byt b (F + run b F) ≠ 101) → numb b i = .bad (F + run b F) 22) ∧
  (F + run b F < b.length → 0 < run b F → byt b (F + run b F) = 101 → byt b F = 48 → (1 < run b F ∨ mb = true) → numb b i = .bad i 23) ∧
  (F + run b F < b.length → 0 < run b F → byt b (F + run b F) = 101 → fitB (cut b F (F + run b F)) mb = false → numb b i = .bad i 23) ∧
  (F + run b F < b.length → 0 < run b F → byt b (F + run b F) = 101 → ¬ (byt b F = 48∧(1 < run b F ∨ mb = true)) → fitB (cut b F (F + run b F)) mb = true → numb b i = .ok (sval mb (cut b F (F + run b F))) (F + run b F + 1))
theorem nt_of {b:List UInt8} {i F:Nat} {mb:Bool} (h1:i + 1 < b.length) (hs:(if byt b (i + 1) = 45 then [45] else []:List UInt8) = sgn mb) (hF:F = i + 1 + (sgn mb).length) (hFl:F ≤ b.length):NT b i F mb:=by
  have e:=numb_sg h1
  rw [hs, ← hF] at e
  have hcl:=cut_length (b:=b) (i:=F) (run_le hFl)
  have hall:=cut_all b F hFl
  have hne:0 < run b F → cut b F (F + run b F) ≠ []:=by intro h e; rw [e] at hcl; simp at hcl; omega
  refine ⟨fun h=>?_,fun h h2=>?_,fun h hr he h48 h2=>?_,fun h hr he hf=>?_,fun h hr he h48 hf=>?_⟩
  · rw [e,digs_far h]
  · rw [e,digs_off h h2]
  · have hd:=digs_at hr h he
    cases ha:Lib.atoiAll (sgn mb ++ cut b F (F + run b F)) with
    | ok v =>
      refine numb_bad h1 hs (by rw [← hF]; exact hd) ha ?_
      rcases Nat.lt_or_ge 1 (run b F) with h3 | h3
      · left; rw [padd_cut hFl hr]; simp [h48,h3]
      · right
        rcases h2 with h2 | rfl
        · omega
        · have hr1:run b F = 1:=by omega
          have:cut b F (F + run b F) = [48]:=by
            rw [hr1]
            have:=cut_succ (b:=b) (i:=F) (k:=0) (by omega)
            rw [cut_zero] at this
            rw [this]
            simpa using h48
          rw [this]; rfl
    | «syntax»=>exact numb_no h1 hs (by rw [← hF]; exact hd) (fun v hv=>by rw [ha] at hv; cases hv)
    | range=>exact numb_no h1 hs (by rw [← hF]; exact hd) (fun v hv=>by rw [ha] at hv; cases hv)
  · exact numb_no h1 hs (by rw [← hF]; exact digs_at hr h he) ((atoi_fit mb hall (hne hr)).2 hf)
  · refine numb_ok h1 hs (by rw [← hF]; exact digs_at hr h he) ((atoi_fit mb hall (hne hr)).1 hf) ?_ ?_
    · rw [padd_cut hFl hr]
      by_cases e1:1 < run b F
      · by_cases e2:byt b F = 48
        · exact absurd ⟨e2,.inl e1⟩ h48
        · simp [e2]
      · simp [e1]
    · intro h5
      cases mb with
      | true =>
        have h6:cut b F (F + run b F) = [48]:=by simpa [sgn] using h5
        have h7:=byt_cut (b:=b) (i:=F) (j:=F + run b F) (k:=0) (by omega)
        rw [h6] at h7
        exact h48 ⟨by simpa [byt] using h7.symm,.inr rfl⟩
      | false =>
        have h6:cut b F (F + run b F) = [45,48]:=by simpa [sgn] using h5
        have h7:=hall 45 (by rw [h6]; simp)
        simp at h7
theorem ba_at (l:List UInt8) (m:Nat) (h:m < (⟨l.toArray⟩:ByteArray).size):(⟨l.toArray⟩:ByteArray)[m] = byt l m:=by
  rw [ba_size] at h
  show l.toArray[m] = _
  simp [byt,List.getD,List.getElem?_eq_getElem h]
theorem take_succ' (d:List UInt8) (m:Nat) (h:m < d.length):d.take (m + 1) = d.take m ++ [byt d m]:=by
  rw [List.take_add_one]
  simp [byt,List.getD,List.getElem?_eq_getElem h]
theorem dval_append (x y:List UInt8) (a:Nat):dval a (x ++ y) = dval (dval a x) y:=List.foldl_append ..
theorem fit_take {d:List UInt8} {mb:Bool} (_:allDig d) (hf:fitB d mb = true) {m:Nat} (h:m < d.length):dval 0 (d.take m) * 10 + ((byt d m).toNat - 48) ≤ 9223372036854775808∧(mb = false → dval 0 (d.take m) * 10 + ((byt d m).toNat - 48) ≤ 9223372036854775807):=by
  have e:dval 0 d = dval (dval 0 (d.take m) * 10 + ((byt d m).toNat - 48)) (d.drop (m + 1)):=by
    rw [← dval_snoc, ← take_succ' d m h, ← dval_append,List.take_append_drop]
  have h2:=dval_le (d.drop (m + 1)) (dval 0 (d.take m) * 10 + ((byt d m).toNat - 48))
  rw [← e] at h2
  unfold fitB at hf
  cases mb with
  | true =>
    have h3:dval 0 d ≤ 9223372036854775808:=by simpa using hf
    exact ⟨by omega,fun h=>by cases h⟩
  | false =>
    have h3:dval 0 d ≤ 9223372036854775807:=by simpa using hf
    exact ⟨by omega,fun _=>by omega⟩
set_option maxRecDepth 10000 in
set_option maxHeartbeats 1000000 in
theorem number50 (a:Option Addr) (c:Nat) (b:List UInt8) (i:Nat) (w:World) (h:TX w a c b) (hi:i < b.length) :
    Calls Tryz.prog 83 #[.slice a b.length c,.int .i64 i] w fun e w'=>w' = w∧pcT (numb b i) (fun n=>.int .i64 n) (.int .i64 0) e:=by
  obtain ⟨g,o,rfl,hcell⟩:=h.byte hi
  have HC:=Lib.hid hcell
  have hl:=h.2.1
  have hcap:=h.1
  clear h hcell
  by_cases h1:i + 1 < b.length
  · have hc1:=HC.out (i + 1) h1
    have z1:(i:Int) + 1 < (b.length:Int):=by omega
    have z0:(0:Int) ≤ (i:Int) + 1:=by omega
    by_cases hm:byt b (i + 1) = 45
    · rw [hm] at hc1
      have HT:Hid (NT b i (i + 1 + 1) true):=Lib.hid (nt_of h1 (by rw [if_pos hm]; rfl) rfl (by omega))
      have hFl:(i + 1 + 1) ≤ b.length:=by omega
      go_enter Tryz.func83,Tryz.ntmps83
      go_wp2
      rw [show (i:Int) + 1 + 1 = (((i + 1 + 1):Nat):Int) from by omega]
      clear hc1 z1 z0 hm
      generalize (i + 1 + 1) = F at *
      have hrl:=run_le hFl
      go_loopw [7] (fun v wr=>∃ m:Nat,m ≤ run b F∧v = .int .i64 ((F + m:Nat):Int)∧wr = w) (fun v _=>b.length - (intOf v).toNat)
      case atStart=>exact ⟨0,Nat.zero_le _,rfl,rfl⟩
      case round =>
        obtain ⟨m,hm,rfl,rfl⟩:=hrel
        by_cases hend:F + m < b.length∧dig (byt b (F + m)) = true
        · obtain ⟨h1,h2⟩:=hend
          have hmr:m < run b F:=by
            rcases Nat.lt_or_ge m (run b F) with h | h
            · exact h
            · have e:m = run b F:=by omega
              subst e
              rw [run_end h1] at h2; cases h2
          have hc:=HC.out (F + m) h1
          generalize hkm:F + m = k at *
          have k0:(0:Int) ≤ (k:Int):=by omega
          have k1:(k:Int) < (b.length:Int):=by omega
          go_wp2_with fail
          refine (digit36 _ _).mono ?_
          rintro e w2 ⟨rfl,rfl⟩
          rw [h2]
          go_wp2
          exact ⟨⟨m + 1,by omega,by rw [← hkm]; congr 1,trivial⟩,by simp [intOf]; omega⟩
        · have hmr:m = run b F:=by
            rcases Nat.lt_or_ge m (run b F) with h | h
            · exact absurd (run_lt h) hend
            · omega
          subst hmr
          have hFK:F ≤ F + run b F:=by omega
          clear hm
          generalize hK:F + run b F = K at *
          have K0:(0:Int) ≤ (K:Int):=by omega
          by_cases hKn:K < b.length
          · have hc:=HC.out K hKn
            have hdf:dig (byt b K) = false:=by
              rcases Bool.eq_false_or_eq_true (dig (byt b K)) with h | h
              · exact absurd ⟨hKn,h⟩ hend
              · exact h
            have K1:(K:Int) < (b.length:Int):=by omega
            have K2:¬ ((b.length:Int) ≤ (K:Int)):=by omega
            clear hend
            go_wp2_with fail
            refine (digit36 _ _).mono ?_
            rintro e w2 ⟨rfl,rfl⟩
            rw [hdf]
            by_cases hKF:K = F
            · have HE:Hid (numb b i = .bad F 22):=Lib.hid (by have h:=HT.out.2.1 (by omega) (.inl (by omega)); rw [hK,hKF] at h; exact h)
              have z:(K:Int) = (F:Int):=by omega
              clear hKF
              go_wp2
              refine bodyPost_ret (results_tmp3 rfl _ _ _) rfl ?_
              exact ⟨rfl,pcT.bad HE.out⟩
            have zKF:((K:Int) == (F:Int)) = false:=by simp; omega
            by_cases h101:byt b K = 101
            · rw [h101] at hc
              have hF0:(0:Int) ≤ (F:Int):=by omega
              have hF1:(F:Int) ≤ (K:Int):=by omega
              have hF2:(K:Int) ≤ (c:Int):=by omega
              have hF3:K ≤ c:=by omega
              have hF4:F ≤ K:=by omega
              have hF5:¬ c = F:=by omega
              have hcv:=conv_cut (g:=g) (o:=o) (i:=F) (j:=K) (cap:=c - F) (b:=b) (w:=w2) (by omega) HC.out 9 Tryz.underlying9
              have hdl:(cut b F K).length = K - F:=cut_length (by omega)
              have hall:allDig (cut b F K):=hK ▸ cut_all b F (by omega)
              have hby:∀ k,k < K - F → byt (cut b F K) k = byt b (F + k):=fun k hk=>byt_cut hk
              have HN:=Lib.hid (HT.out.2.2)
              rw [hK] at HN
              have HC2:Hid (∀ k,k < K - F → byt (cut b F K) k = byt b (F + k)):=hby
              have HA:Hid (allDig (cut b F K)):=hall
              have hbs:=ba_size (cut b F K)
              rw [hdl] at hbs
              have hFlt:F < K:=by omega
              have hLp:0 < K - F:=by omega
              clear HT hall hby hKF
              generalize cut b F K = d at *
              have hba:=ba_zero d
              have hb0:byt d 0 = byt b F:=HC2.out 0 (by omega)
              by_cases h48:byt b F = 48
              · have h0v:∀ h,(({ data:=d.toArray }:ByteArray)[0]'h) = 48:=fun h=>by rw [hba h,hb0,h48]
                have HE:Hid (numb b i = .bad i 23):=Lib.hid (HN.out.1 hKn (by omega) h101 h48 (.inr rfl))
                clear hba hb0 HN
                by_cases hL:(1:Int) < ((K - F:Nat):Int)
                · go_wp2
                  refine bodyPost_ret (results_tmp3 rfl _ _ _) rfl ?_
                  exact ⟨rfl,pcT.bad HE.out⟩
                · go_wp2
                  refine bodyPost_ret (results_tmp3 rfl _ _ _) rfl ?_
                  exact ⟨rfl,pcT.bad HE.out⟩
              · have h0v:∀ h,(({ data:=d.toArray }:ByteArray)[0]'h) = byt b F:=fun h=>by rw [hba h,hb0]
                have hzb:(((byt b F).toNat:Int) == 48) = false:=beq_eq_false_iff_ne.2 (u8_ne h48)
                clear hba
                go_wp2_with fail
                refine (fits57 d true w2 HA.out (by omega) (fun _=>by rw [hb0]; exact h48)).mono ?_
                rintro e w3 ⟨rfl,rfl⟩
                cases hfb:fitB d true with
                | false =>
                  have HE:Hid (numb b i = .bad i 23):=Lib.hid (HN.out.2.1 hKn (by omega) h101 hfb)
                  go_wp2
                  refine bodyPost_ret (results_tmp3 rfl _ _ _) rfl ?_
                  exact ⟨rfl,pcT.bad HE.out⟩
                | true =>
                  have HE:Hid (numb b i = .ok (sval true d) (K + 1)):=Lib.hid (HN.out.2.2 hKn (by omega) h101 (fun h=>h48 h.1) hfb)
                  have HFB:=Lib.hid hfb
                  clear hcv hfb HN
                  go_wp2
                  go_loopw [12,13] (fun v u wr=>∃ m:Nat,m ≤ K - F∧v = .int .i64 (sval true (d.take m))∧u = .int .i64 (m:Int)∧wr = w3) (fun _ u _=>K - F - (intOf u).toNat)
                  case atStart=>exact ⟨0,Nat.zero_le _,by simp [sval,dval_nil],rfl,rfl⟩
                  case round =>
                    clear h0v hb0
                    obtain ⟨m,hm,rfl,rfl,rfl⟩:=hrel
                    by_cases hmL:m < K - F
                    · have hjv:∀ h,(({ data:=d.toArray }:ByteArray)[m]'h) = byt b (F + m):=fun h=>by rw [ba_at d m h]; exact HC2.out m hmL
                      have hdm:=(dig_iff _).1 (run_lt (b:=b) (i:=F) (k:=m) (by omega)).2
                      have hbd:=fit_take HA.out HFB.out (m:=m) (by omega)
                      rw [HC2.out m hmL] at hbd
                      have HNX:Hid (((dval 0 (d.take (m + 1)):Nat):Int) = 10 * ((dval 0 (d.take m):Nat):Int) + (((byt b (F + m)).toNat:Int) - 48)):=Lib.hid (by rw [take_succ' d m (by omega),dval_snoc,HC2.out m hmL]; omega)
                      obtain ⟨hbd1,hbd2⟩:=hbd
                      unfold sval
                      simp only [if_true]
                      generalize dval 0 (d.take m) = x at *
                      have m0:(0:Int) ≤ (m:Int):=by omega
                      have m1:(m:Int) < ((K - F:Nat):Int):=by omega
                      have q0:(48:Int) ≤ ((byt b (F + m)).toNat:Int):=by omega
                      have q1:((byt b (F + m)).toNat:Int) ≤ 57:=by omega
                      have q2:10 * (x:Int) + (((byt b (F + m)).toNat:Int) - 48) ≤ 9223372036854775808:=by omega
                      have q3:10 * (x:Int) ≤ 9223372036854775808:=by omega
                      go_wp2
                      exact ⟨⟨m + 1,by omega,congrArg (Value.int .i64) (by have:=HNX.out; omega),rfl,trivial⟩,by simp [intOf]; omega⟩
                    · obtain rfl:m = K - F:=by omega
                      rw [List.take_of_length_le (by omega)]
                      go_wp2
                      refine bodyPost_ret (results_tmp3 rfl _ _ _) rfl ?_
                      exact ⟨rfl,pcT.ok HE.out⟩
            · have HE:Hid (numb b i = .bad K 22):=Lib.hid (hK ▸ HT.out.2.1 (by omega) (.inr (by rw [hK]; exact h101)))
              have z:(((byt b K).toNat:Int) != 101) = true:=bne_iff_ne.2 (u8_ne h101)
              go_wp2
              refine bodyPost_ret (results_tmp3 rfl _ _ _) rfl ?_
              exact ⟨rfl,pcT.bad HE.out⟩
          · have HE:Hid (numb b i = .bad b.length 21):=Lib.hid (HT.out.1 (by omega))
            have K1:¬ (K:Int) < (b.length:Int):=by omega
            have K2:(b.length:Int) ≤ (K:Int):=by omega
            clear hend
            go_wp2
            refine bodyPost_ret (results_tmp3 rfl _ _ _) rfl ?_
            exact ⟨rfl,pcT.bad HE.out⟩
    · have hz45:(((byt b (i + 1)).toNat:Int) == 45) = false:=beq_eq_false_iff_ne.2 (u8_ne hm)
      have HT:Hid (NT b i (i + 1) false):=Lib.hid (nt_of h1 (by rw [if_neg hm]; rfl) rfl (by omega))
      have hFl:(i + 1) ≤ b.length:=by omega
      go_enter Tryz.func83,Tryz.ntmps83
      go_wp2
      rw [show (i:Int) + 1 = (((i + 1):Nat):Int) from by omega]
      clear hc1 z1 z0 hm hz45
      generalize (i + 1) = F at *
      have hrl:=run_le hFl
      go_loopw [7] (fun v wr=>∃ m:Nat,m ≤ run b F∧v = .int .i64 ((F + m:Nat):Int)∧wr = w) (fun v _=>b.length - (intOf v).toNat)
      case atStart=>exact ⟨0,Nat.zero_le _,rfl,rfl⟩
      case round =>
        obtain ⟨m,hm,rfl,rfl⟩:=hrel
        by_cases hend:F + m < b.length∧dig (byt b (F + m)) = true
        · obtain ⟨h1,h2⟩:=hend
          have hmr:m < run b F:=by
            rcases Nat.lt_or_ge m (run b F) with h | h
            · exact h
            · have e:m = run b F:=by omega
              subst e
              rw [run_end h1] at h2; cases h2
          have hc:=HC.out (F + m) h1
          generalize hkm:F + m = k at *
          have k0:(0:Int) ≤ (k:Int):=by omega
          have k1:(k:Int) < (b.length:Int):=by omega
          go_wp2_with fail
          refine (digit36 _ _).mono ?_
          rintro e w2 ⟨rfl,rfl⟩
          rw [h2]
          go_wp2
          exact ⟨⟨m + 1,by omega,by rw [← hkm]; congr 1,trivial⟩,by simp [intOf]; omega⟩
        · have hmr:m = run b F:=by
            rcases Nat.lt_or_ge m (run b F) with h | h
            · exact absurd (run_lt h) hend
            · omega
          subst hmr
          have hFK:F ≤ F + run b F:=by omega
          clear hm
          generalize hK:F + run b F = K at *
          have K0:(0:Int) ≤ (K:Int):=by omega
          by_cases hKn:K < b.length
          · have hc:=HC.out K hKn
            have hdf:dig (byt b K) = false:=by
              rcases Bool.eq_false_or_eq_true (dig (byt b K)) with h | h
              · exact absurd ⟨hKn,h⟩ hend
              · exact h
            have K1:(K:Int) < (b.length:Int):=by omega
            have K2:¬ ((b.length:Int) ≤ (K:Int)):=by omega
            clear hend
            go_wp2_with fail
            refine (digit36 _ _).mono ?_
            rintro e w2 ⟨rfl,rfl⟩
            rw [hdf]
            by_cases hKF:K = F
            · have HE:Hid (numb b i = .bad F 22):=Lib.hid (by have h:=HT.out.2.1 (by omega) (.inl (by omega)); rw [hK,hKF] at h; exact h)
              have z:(K:Int) = (F:Int):=by omega
              clear hKF
              go_wp2
              refine bodyPost_ret (results_tmp3 rfl _ _ _) rfl ?_
              exact ⟨rfl,pcT.bad HE.out⟩
            have zKF:((K:Int) == (F:Int)) = false:=by simp; omega
            by_cases h101:byt b K = 101
            · rw [h101] at hc
              have hF0:(0:Int) ≤ (F:Int):=by omega
              have hF1:(F:Int) ≤ (K:Int):=by omega
              have hF2:(K:Int) ≤ (c:Int):=by omega
              have hF3:K ≤ c:=by omega
              have hF4:F ≤ K:=by omega
              have hF5:¬ c = F:=by omega
              have hcv:=conv_cut (g:=g) (o:=o) (i:=F) (j:=K) (cap:=c - F) (b:=b) (w:=w2) (by omega) HC.out 9 Tryz.underlying9
              have hdl:(cut b F K).length = K - F:=cut_length (by omega)
              have hall:allDig (cut b F K):=hK ▸ cut_all b F (by omega)
              have hby:∀ k,k < K - F → byt (cut b F K) k = byt b (F + k):=fun k hk=>byt_cut hk
              have HN:=Lib.hid (HT.out.2.2)
              rw [hK] at HN
              have HC2:Hid (∀ k,k < K - F → byt (cut b F K) k = byt b (F + k)):=hby
              have HA:Hid (allDig (cut b F K)):=hall
              have hbs:=ba_size (cut b F K)
              rw [hdl] at hbs
              have hFlt:F < K:=by omega
              have hLp:0 < K - F:=by omega
              clear HT hall hby hKF
              generalize cut b F K = d at *
              have hba:=ba_zero d
              have hb0:byt d 0 = byt b F:=HC2.out 0 (by omega)
              by_cases h48:byt b F = 48
              · have h0v:∀ h,(({ data:=d.toArray }:ByteArray)[0]'h) = 48:=fun h=>by rw [hba h,hb0,h48]
                clear hba
                by_cases hL:1 < K - F
                · have HE:Hid (numb b i = .bad i 23):=Lib.hid (HN.out.1 hKn (by omega) h101 h48 (.inl (by omega)))
                  have hL2:(1:Int) < ((K - F:Nat):Int):=by omega
                  clear hb0
                  go_wp2
                  refine bodyPost_ret (results_tmp3 rfl _ _ _) rfl ?_
                  exact ⟨rfl,pcT.bad HE.out⟩
                · have hL2:¬ (1:Int) < ((K - F:Nat):Int):=by omega
                  go_wp2_with fail
                  refine (fits57 d false w2 HA.out (by omega) (fun h=>absurd h (by omega))).mono ?_
                  rintro e w3 ⟨rfl,rfl⟩
                  cases hfb:fitB d false with
                  | false =>
                    have HE:Hid (numb b i = .bad i 23):=Lib.hid (HN.out.2.1 hKn (by omega) h101 hfb)
                    go_wp2
                    refine bodyPost_ret (results_tmp3 rfl _ _ _) rfl ?_
                    exact ⟨rfl,pcT.bad HE.out⟩
                  | true =>
                    have HE:Hid (numb b i = .ok (sval false d) (K + 1)):=Lib.hid (HN.out.2.2 hKn (by omega) h101 (fun h=>by rcases h.2 with h | h; omega; cases h) hfb)
                    have HFB:=Lib.hid hfb
                    clear hcv hfb HN
                    go_wp2
                    go_loopw [12,13] (fun v u wr=>∃ m:Nat,m ≤ K - F∧v = .int .i64 (sval false (d.take m))∧u = .int .i64 (m:Int)∧wr = w3) (fun _ u _=>K - F - (intOf u).toNat)
                    case atStart=>exact ⟨0,Nat.zero_le _,by simp [sval,dval_nil],rfl,rfl⟩
                    case round =>
                      clear h0v hb0
                      obtain ⟨m,hm,rfl,rfl,rfl⟩:=hrel
                      by_cases hmL:m < K - F
                      · have hjv:∀ h,(({ data:=d.toArray }:ByteArray)[m]'h) = byt b (F + m):=fun h=>by rw [ba_at d m h]; exact HC2.out m hmL
                        have hdm:=(dig_iff _).1 (run_lt (b:=b) (i:=F) (k:=m) (by omega)).2
                        have hbd:=fit_take HA.out HFB.out (m:=m) (by omega)
                        rw [HC2.out m hmL] at hbd
                        have HNX:Hid (((dval 0 (d.take (m + 1)):Nat):Int) = 10 * ((dval 0 (d.take m):Nat):Int) + (((byt b (F + m)).toNat:Int) - 48)):=Lib.hid (by rw [take_succ' d m (by omega),dval_snoc,HC2.out m hmL]; omega)
                        obtain ⟨hbd1,hbd2⟩:=hbd
                        unfold sval
                        simp only [Bool.false_eq_true,if_false]
                        generalize dval 0 (d.take m) = x at *
                        have m0:(0:Int) ≤ (m:Int):=by omega
                        have m1:(m:Int) < ((K - F:Nat):Int):=by omega
                        have q0:(48:Int) ≤ ((byt b (F + m)).toNat:Int):=by omega
                        have q1:((byt b (F + m)).toNat:Int) ≤ 57:=by omega
                        have hbd3:=hbd2 rfl
                        have q2:10 * (x:Int) + (((byt b (F + m)).toNat:Int) - 48) ≤ 9223372036854775807:=by omega
                        have q3:10 * (x:Int) ≤ 9223372036854775807:=by omega
                        go_wp2
                        exact ⟨⟨m + 1,by omega,congrArg (Value.int .i64) (by have:=HNX.out; omega),rfl,trivial⟩,by simp [intOf]; omega⟩
                      · obtain rfl:m = K - F:=by omega
                        rw [List.take_of_length_le (by omega)]
                        go_wp2
                        refine bodyPost_ret (results_tmp3 rfl _ _ _) rfl ?_
                        exact ⟨rfl,pcT.ok HE.out⟩
              · have h0v:∀ h,(({ data:=d.toArray }:ByteArray)[0]'h) = byt b F:=fun h=>by rw [hba h,hb0]
                have hzb:(((byt b F).toNat:Int) == 48) = false:=beq_eq_false_iff_ne.2 (u8_ne h48)
                clear hba
                go_wp2_with fail
                refine (fits57 d false w2 HA.out (by omega) (fun _=>by rw [hb0]; exact h48)).mono ?_
                rintro e w3 ⟨rfl,rfl⟩
                cases hfb:fitB d false with
                | false =>
                  have HE:Hid (numb b i = .bad i 23):=Lib.hid (HN.out.2.1 hKn (by omega) h101 hfb)
                  go_wp2
                  refine bodyPost_ret (results_tmp3 rfl _ _ _) rfl ?_
                  exact ⟨rfl,pcT.bad HE.out⟩
                | true =>
                  have HE:Hid (numb b i = .ok (sval false d) (K + 1)):=Lib.hid (HN.out.2.2 hKn (by omega) h101 (fun h=>h48 h.1) hfb)
                  have HFB:=Lib.hid hfb
                  clear hcv hfb HN
                  go_wp2
                  go_loopw [12,13] (fun v u wr=>∃ m:Nat,m ≤ K - F∧v = .int .i64 (sval false (d.take m))∧u = .int .i64 (m:Int)∧wr = w3) (fun _ u _=>K - F - (intOf u).toNat)
                  case atStart=>exact ⟨0,Nat.zero_le _,by simp [sval,dval_nil],rfl,rfl⟩
                  case round =>
                    clear h0v hb0
                    obtain ⟨m,hm,rfl,rfl,rfl⟩:=hrel
                    by_cases hmL:m < K - F
                    · have hjv:∀ h,(({ data:=d.toArray }:ByteArray)[m]'h) = byt b (F + m):=fun h=>by rw [ba_at d m h]; exact HC2.out m hmL
                      have hdm:=(dig_iff _).1 (run_lt (b:=b) (i:=F) (k:=m) (by omega)).2
                      have hbd:=fit_take HA.out HFB.out (m:=m) (by omega)
                      rw [HC2.out m hmL] at hbd
                      have HNX:Hid (((dval 0 (d.take (m + 1)):Nat):Int) = 10 * ((dval 0 (d.take m):Nat):Int) + (((byt b (F + m)).toNat:Int) - 48)):=Lib.hid (by rw [take_succ' d m (by omega),dval_snoc,HC2.out m hmL]; omega)
                      obtain ⟨hbd1,hbd2⟩:=hbd
                      unfold sval
                      simp only [Bool.false_eq_true,if_false]
                      generalize dval 0 (d.take m) = x at *
                      have m0:(0:Int) ≤ (m:Int):=by omega
                      have m1:(m:Int) < ((K - F:Nat):Int):=by omega
                      have q0:(48:Int) ≤ ((byt b (F + m)).toNat:Int):=by omega
                      have q1:((byt b (F + m)).toNat:Int) ≤ 57:=by omega
                      have hbd3:=hbd2 rfl
                      have q2:10 * (x:Int) + (((byt b (F + m)).toNat:Int) - 48) ≤ 9223372036854775807:=by omega
                      have q3:10 * (x:Int) ≤ 9223372036854775807:=by omega
                      go_wp2
                      exact ⟨⟨m + 1,by omega,congrArg (Value.int .i64) (by have:=HNX.out; omega),rfl,trivial⟩,by simp [intOf]; omega⟩
                    · obtain rfl:m = K - F:=by omega
                      rw [List.take_of_length_le (by omega)]
                      go_wp2
                      refine bodyPost_ret (results_tmp3 rfl _ _ _) rfl ?_
                      exact ⟨rfl,pcT.ok HE.out⟩
            · have HE:Hid (numb b i = .bad K 22):=Lib.hid (hK ▸ HT.out.2.1 (by omega) (.inr (by rw [hK]; exact h101)))
              have z:(((byt b K).toNat:Int) != 101) = true:=bne_iff_ne.2 (u8_ne h101)
              go_wp2
              refine bodyPost_ret (results_tmp3 rfl _ _ _) rfl ?_
              exact ⟨rfl,pcT.bad HE.out⟩
          · have HE:Hid (numb b i = .bad b.length 21):=Lib.hid (HT.out.1 (by omega))
            have K1:¬ (K:Int) < (b.length:Int):=by omega
            have K2:(b.length:Int) ≤ (K:Int):=by omega
            clear hend
            go_wp2
            refine bodyPost_ret (results_tmp3 rfl _ _ _) rfl ?_
            exact ⟨rfl,pcT.bad HE.out⟩
  · have HE:Hid (numb b i = .bad b.length 21):=Lib.hid (by rw [numb,if_pos (by omega)])
    have hin:i + 1 = b.length:=by omega
    have z1:(i:Int) + 1 = (b.length:Int):=by omega
    clear h1
    go_enter Tryz.func83,Tryz.ntmps83
    go_wp2
    go_loopw [7] (fun v wr=>v = .int .i64 (b.length:Int)∧wr = w) (fun _ _=>0)
    case atStart=>exact ⟨by rw [← z1],rfl⟩
    case round =>
      obtain ⟨rfl,rfl⟩:=hrel
      go_wp2
      refine bodyPost_ret (results_tmp3 rfl _ _ _) rfl ?_
      exact ⟨rfl,pcT.bad HE.out⟩
def scP (b:List UInt8) (i:Nat):Pc T:=if byt b i = 105 then (match numb b i with | .bad p e=>.bad p e | .ok n j=>.ok (tNum n) j) else (match strg b i with | .bad p e=>.bad p e | .ok s j=>.ok (tStr s) j)
theorem scal_bad {b:List UInt8} {st:List Fr} {i p:Nat} {e:Int} (hx:byt b i = 105 ∨ dig (byt b i) = true) (h:scP b i = .bad p e):scal b st i = .bad p e:=by
  unfold scP at h
  by_cases h105:byt b i = 105
  · rw [if_pos h105] at h
    cases hn:numb b i with
    | bad p' e'=>rw [hn] at h; cases h; exact scal_nbad h105 hn
    | ok n j=>rw [hn] at h; cases h
  · rw [if_neg h105] at h
    have hd:dig (byt b i) = true:=by rcases hx with h | h; exact absurd h h105; exact h
    cases hn:strg b i with
    | bad p' e'=>rw [hn] at h; cases h; exact scal_sbad hd hn
    | ok n j=>rw [hn] at h; cases h
theorem scal_ok {b:List UInt8} {st:List Fr} {i j:Nat} {t:T} (hx:byt b i = 105 ∨ dig (byt b i) = true) (h:scP b i = .ok t j):scal b st i = deliver st t j∧i < j:=by
  unfold scP at h
  by_cases h105:byt b i = 105
  · rw [if_pos h105] at h
    cases hn:numb b i with
    | bad p' e'=>rw [hn] at h; cases h
    | ok n j=>rw [hn] at h; cases h; exact ⟨scal_num h105 hn,numb_lt hn⟩
  · rw [if_neg h105] at h
    have hd:dig (byt b i) = true:=by rcases hx with h | h; exact absurd h h105; exact h
    cases hn:strg b i with
    | bad p' e'=>rw [hn] at h; cases h
    | ok n j=>rw [hn] at h; cases h; exact ⟨scal_str hd hn,(strg_lt hn).1⟩
def zV:Value:=.agg #[.int .i64 0,.int .i64 0,.string { data:=#[] },.slice none 0 0,.slice none 0 0]
theorem pcT.cases {α:Type} {r:Pc α} {val:α → Value} {zero:Value} {e:Ending} (h:pcT r val zero e):(∃ x j,r = .ok x j∧e = .returned (.tuple #[val x,.int .i64 (j:Nat),.int .i64 0])) ∨ ∃ (p:Nat) (er:Int),r = .bad p er∧e = .returned (.tuple #[zero,.int .i64 (p:Nat),.int .i64 er]):=by
  cases r with
  | ok x j=>exact .inl ⟨x,j,rfl,h⟩
  | bad p er=>exact .inr ⟨p,er,rfl,h⟩
theorem results_cell3 {fn:Func} {p u v:Tmp} (h:fn.results = #[.cell p 55,.tmp u,.tmp v]) (tmps:Array Value) (w:World) (g:Nat) (cs:Array Value)
    (hp:tmps.getD p undef = .pointer (some ⟨g,0,none⟩)) (hg:w.heap[g]? = some (.cells cs 55 (0,0))) (hs:cs.size = 5):(results fn tmps).run Tryz.prog w = .ok (.tuple #[.agg cs,tmps.getD u undef,tmps.getD v undef]) w:=by
  have hp':tmps[p]?.getD undef = .pointer (some ⟨g,0,none⟩):=by simpa using hp
  have hi:(Tryz.prog.info? 55).map (·.size) = some cs.size:=by rw [hs]; exact info25s
  simp [results,h,hp',asAddr,run_loadVar_row w g 55 55 cs (0,0) _ hg Tryz.underlying55 rfl hi]
theorem below_set5 {B:Nat} {w w1:World} {b0 b1 b2 b3 b4:Value} (h:Below B w w1):Below B w (((((w1.setCell ⟨B,0,none⟩ b0).setCell ⟨B,1,none⟩ b1).setCell ⟨B,2,none⟩ b2).setCell ⟨B,3,none⟩ b3).setCell ⟨B,4,none⟩ b4):=
  ((((h.setCell (Nat.le_refl _) _).setCell (Nat.le_refl _) _).setCell (Nat.le_refl _) _).setCell (Nat.le_refl _) _).setCell (Nat.le_refl _) _
theorem digs_er {b:List UInt8} {en:UInt8} {i p:Nat} {e:Int} (h:digs b en i = .bad p e):e = 21 ∨ e = 22:=by
  unfold digs at h
  split at h
  · cases h; exact .inl rfl
  · split at h
    · cases h; exact .inr rfl
    · cases h
theorem numb_er {b:List UInt8} {i p:Nat} {e:Int} (h:numb b i = .bad p e):e = 21 ∨ e = 22 ∨ e = 23:=by
  by_cases hl:i + 1 < b.length
  · rw [numb_sg hl] at h
    generalize (if byt b (i + 1) = 45 then [45] else []:List UInt8) = sg at h
    cases hd:digs b 101 (i + 1 + sg.length) with
    | bad p' e'=>rw [hd] at h; cases h; rcases digs_er hd with h | h <;> simp [h]
    | ok d k =>
      rw [hd] at h
      dsimp only at h
      cases ha:Lib.atoiAll (sg ++ d) with
      | ok v =>
        rw [ha] at h
        dsimp only at h
        by_cases hc:padd d = true ∨ sg ++ d = [45,48]
        · rw [if_pos hc] at h; cases h; simp
        · rw [if_neg hc] at h; cases h
      | «syntax»=>rw [ha] at h; cases h; simp
      | range=>rw [ha] at h; cases h; simp
  · rw [numb,if_pos (by omega)] at h; cases h; simp
theorem strg_er {b:List UInt8} {i p:Nat} {e:Int} (h:strg b i = .bad p e):e = 21 ∨ e = 22 ∨ e = 23:=by
  unfold strg at h
  cases hd:digs b 58 i with
  | bad p' e'=>rw [hd] at h; cases h; rcases digs_er hd with h | h <;> simp [h]
  | ok d k =>
    rw [hd] at h
    dsimp only at h
    by_cases hp:padd d = true
    · rw [if_pos hp] at h; cases h; simp
    · rw [if_neg hp] at h
      cases ha:Lib.atoiAll d with
      | ok v =>
        rw [ha] at h
        dsimp only at h
        by_cases hc:(b.length:Int) - k < v
        · rw [if_pos hc] at h; cases h; simp
        · rw [if_neg hc] at h; cases h
      | «syntax»=>rw [ha] at h; cases h; simp
      | range=>rw [ha] at h; cases h; simp
set_option maxRecDepth 10000 in
set_option maxHeartbeats 1000000 in
theorem scalar38 (a:Option Addr) (c:Nat) (b:List UInt8) (i:Nat) (w:World) (h:TX w a c b) (hi:i < b.length) (hx:byt b i = 105 ∨ dig (byt b i) = true) :
    Calls Tryz.prog 73 #[.slice a b.length c,.int .i64 i] w fun e w'=>Below w.heap.size w w'∧pcT (scP b i) (fun t=>.agg #[.int .i64 t.k,.int .i64 t.n,.string t.s,.slice none 0 0,.slice none 0 0]) zV e:=by
  have HT:=Lib.hid h
  obtain ⟨g,o,rfl,hcell⟩:=h.byte hi
  have hc:=hcell i hi
  have i0:(0:Int) ≤ (i:Int):=by omega
  have i1:(i:Int) < (b.length:Int):=by omega
  clear h hcell
  by_cases h105:byt b i = 105
  · rw [h105] at hc
    have hc':=fun ob=>cell_alloc_old (o:=ob) hc
    go_enter Tryz.func73,Tryz.ntmps73
    go_wp2_with fail
    clear hc hc'
    have HX:Hid (obj (w.alloc (Obj.cells #[.int .i64 0,.int .i64 0,.string { data:=#[] },.slice none 0 0,.slice none 0 0] 55)) w.heap.size (.int .i64 0) (.int .i64 0) (.string { data:=#[] }) (.slice none 0 0) (.slice none 0 0)∧Below w.heap.size w (w.alloc (Obj.cells #[.int .i64 0,.int .i64 0,.string { data:=#[] },.slice none 0 0,.slice none 0 0] 55))):=⟨heap_new _ _,(Below.refl _ _).alloc (Nat.le_refl _) _⟩
    generalize (w.alloc (Obj.cells #[.int .i64 0,.int .i64 0,.string { data:=#[] },.slice none 0 0,.slice none 0 0] 55)) = w1 at *
    generalize hH:w.heap.size = H at *
    refine (number50 _ c b i w1 (HT.out.keep (hH ▸ HX.out.2)) hi).mono ?_
    rintro e w2 ⟨rfl,hp⟩
    obtain ⟨c0,c1,c2,c3,c4⟩:=HX.out.1.cells
    have f0:=HX.out.1.frozen 0
    have f1:=HX.out.1.frozen 1
    have f2:=HX.out.1.frozen 2
    have f3:=HX.out.1.frozen 3
    have f4:=HX.out.1.frozen 4
    rcases hp.cases with ⟨n,j,hn,rfl⟩ | ⟨p,er,hn,rfl⟩
    · have HE:Hid (scP b i = .ok (tNum n) j):=Lib.hid (by rw [scP,if_pos h105,hn])
      clear hp hn
      go_wp2
      refine bodyPost_ret (v:=.tuple #[.agg #[.int .i64 1,.int .i64 n,.string { data:=#[] },.slice none 0 0,.slice none 0 0],.int .i64 j,.int .i64 0]) (results_cell3 Tryz.results73 _ _ H _ rfl (((((HX.out.1.set0 _).set1 _).set2 _).set3 _).set4 _) rfl) rfl ?_
      exact ⟨by rw [hH]; exact below_set5 HX.out.2,pcT.ok HE.out⟩
    · have HE:Hid (scP b i = .bad p er):=Lib.hid (by rw [scP,if_pos h105,hn])
      have her:(er != 0) = true:=by rcases numb_er hn with h | h | h <;> subst h <;> rfl
      clear hp hn
      go_wp2
      refine bodyPost_ret (v:=.tuple #[zV,.int .i64 p,.int .i64 er]) (results_cell3 Tryz.results73 _ _ H _ rfl (((((HX.out.1.set0 _).set1 _).set2 _).set3 _).set4 _) rfl) rfl ?_
      exact ⟨by rw [hH]; exact below_set5 HX.out.2,pcT.bad HE.out⟩
  · have hd:dig (byt b i) = true:=by rcases hx with h | h; exact absurd h h105; exact h
    have hz105:(((byt b i).toNat:Int) == 105) = false:=beq_eq_false_iff_ne.2 (u8_ne h105)
    have hc':=fun ob=>cell_alloc_old (o:=ob) hc
    go_enter Tryz.func73,Tryz.ntmps73
    go_wp2_with fail
    clear hc hc'
    have HX:Hid (obj (w.alloc (Obj.cells #[.int .i64 0,.int .i64 0,.string { data:=#[] },.slice none 0 0,.slice none 0 0] 55)) w.heap.size (.int .i64 0) (.int .i64 0) (.string { data:=#[] }) (.slice none 0 0) (.slice none 0 0)∧Below w.heap.size w (w.alloc (Obj.cells #[.int .i64 0,.int .i64 0,.string { data:=#[] },.slice none 0 0,.slice none 0 0] 55))):=⟨heap_new _ _,(Below.refl _ _).alloc (Nat.le_refl _) _⟩
    generalize (w.alloc (Obj.cells #[.int .i64 0,.int .i64 0,.string { data:=#[] },.slice none 0 0,.slice none 0 0] 55)) = w1 at *
    generalize hH:w.heap.size = H at *
    refine (str37 _ c b i w1 (HT.out.keep (hH ▸ HX.out.2)) hi hd).mono ?_
    rintro e w2 ⟨rfl,hp⟩
    obtain ⟨c0,c1,c2,c3,c4⟩:=HX.out.1.cells
    have f0:=HX.out.1.frozen 0
    have f1:=HX.out.1.frozen 1
    have f2:=HX.out.1.frozen 2
    have f3:=HX.out.1.frozen 3
    have f4:=HX.out.1.frozen 4
    rcases hp.cases with ⟨n,j,hn,rfl⟩ | ⟨p,er,hn,rfl⟩
    · have HE:Hid (scP b i = .ok (tStr n) j):=Lib.hid (by rw [scP,if_neg h105,hn])
      clear hp hn
      go_wp2
      refine bodyPost_ret (v:=.tuple #[.agg #[.int .i64 2,.int .i64 0,.string n,.slice none 0 0,.slice none 0 0],.int .i64 j,.int .i64 0]) (results_cell3 Tryz.results73 _ _ H _ rfl (((((HX.out.1.set0 _).set1 _).set2 _).set3 _).set4 _) rfl) rfl ?_
      exact ⟨by rw [hH]; exact below_set5 HX.out.2,pcT.ok HE.out⟩
    · have HE:Hid (scP b i = .bad p er):=Lib.hid (by rw [scP,if_neg h105,hn])
      have her:(er != 0) = true:=by rcases strg_er hn with h | h | h <;> subst h <;> rfl
      clear hp hn
      go_wp2
      refine bodyPost_ret (v:=.tuple #[zV,.int .i64 p,.int .i64 er]) (results_cell3 Tryz.results73 _ _ H _ rfl (((((HX.out.1.set0 _).set1 _).set2 _).set3 _).set4 _) rfl) rfl ?_
      exact ⟨by rw [hH]; exact below_set5 HX.out.2,pcT.bad HE.out⟩
set_option maxHeartbeats 400000 in
theorem closed35 (d:Bool) (s:ByteArray) (m:Bool) (w:World) (la da:Option Addr) (ln lc dn dc:Nat) :
    Calls Tryz.prog 70 #[.agg #[.int .i64 (if d = true then 4 else 3),.slice la ln lc,.slice da dn dc,.string s,.bool m]] w fun e w'=>Below w.heap.size w w'∧e = .returned (if d = true then .agg #[.int .i64 4,.int .i64 0,.string { data:=#[] },.slice none 0 0,.slice da dn dc] else .agg #[.int .i64 3,.int .i64 0,.string { data:=#[] },.slice la ln lc,.slice none 0 0]):=by
  cases d with
  | true =>
    simp only [if_true]
    go_enter Tryz.func70,Tryz.ntmps70
    go_wp2
    refine bodyPost_ret (v:=.agg #[.int .i64 4,.int .i64 0,.string { data:=#[] },.slice none 0 0,.slice da dn dc]) (results_cell_row Tryz.results70 _ _ (w.heap.size + 1) 55 _ (0,0) _ rfl ?_ Tryz.underlying55 rfl info25s) rfl ⟨((Below.refl _ _).alloc (Nat.le_refl _) _).alloc (by simp) _,rfl⟩
    have:=heap_new (w.alloc (Obj.cells #[.int .i64 4,.slice la ln lc,.slice da dn dc,.string s,.bool m] 111)) (Obj.cells #[.int .i64 4,.int .i64 0,.string { data:=#[] },.slice none 0 0,.slice da dn dc] 55)
    simpa using this
  | false =>
    simp only [Bool.false_eq_true,if_false]
    go_enter Tryz.func70,Tryz.ntmps70
    go_wp2
    refine bodyPost_ret (v:=.agg #[.int .i64 3,.int .i64 0,.string { data:=#[] },.slice la ln lc,.slice none 0 0]) (results_cell_row Tryz.results70 _ _ (w.heap.size + 1) 55 _ (0,0) _ rfl ?_ Tryz.underlying55 rfl info25s) rfl ⟨((Below.refl _ _).alloc (Nat.le_refl _) _).alloc (by simp) _,rfl⟩
    have:=heap_new (w.alloc (Obj.cells #[.int .i64 3,.slice la ln lc,.slice da dn dc,.string s,.bool m] 111)) (Obj.cells #[.int .i64 3,.int .i64 0,.string { data:=#[] },.slice la ln lc,.slice none 0 0] 55)
    simpa using this
def RB (w:World) (v:Value) (l:List UInt8):Prop:=
  ∃ a c,v = .slice a l.length c∧l.length ≤ c∧(l = [] ∨ ∃ g o,a = some ⟨g,o,none⟩∧g < w.heap.size∧∀ i,i < l.length → w.cell? ⟨g,o + i,none⟩ = some (.int .u8 ((byt l i).toNat:Int)))
theorem RB.keep {w w':World} {v:Value} {l:List UInt8} (h:RB w v l) (hb:Below w.heap.size w w'):RB w' v l:=by
  obtain ⟨a,c,rfl,hc,h⟩:=h
  refine ⟨a,c,rfl,hc,?_⟩
  rcases h with h | ⟨g,o,h1,h2,h3⟩
  · exact .inl h
  · exact .inr ⟨g,o,h1,Nat.lt_of_lt_of_le h2 hb.size,fun i hi=>(World.cell?_of_block (w:=w) (hb.block g h2)).trans (h3 i hi)⟩
theorem OW.rb {B:Nat} {w:World} {v:Value} {l:List UInt8} (h:OW B w v l):RB w v l:=by
  have h':=h
  rcases h.2 with ⟨rfl,h0⟩ | ⟨g,cap,cur,rfl,_,hg,hc,_⟩
  · have:l = []:=List.length_eq_zero_iff.1 h0
    subst this; exact ⟨none,0,rfl,Nat.le_refl _,.inl rfl⟩
  · refine ⟨_,cap,rfl,hc,.inr ⟨g,0,rfl,(Array.getElem?_eq_some_iff.1 hg).1,fun i hi=>?_⟩⟩
    have:=World.ownsRow.cellAt h' i (by omega)
    rw [Nat.zero_add,this]
    have e:byt l i = l[i]:=by unfold byt; simp [List.getD,List.getElem?_eq_getElem hi]
    rw [e]
    simp [Lib.byteCells,List.getElem?_eq_getElem hi]
theorem OW.form' {B:Nat} {w:World} {v:Value} {l:List UInt8} (h:OW B w v l):∃ a c,v = .slice a l.length c:=by
  obtain ⟨a,c,h,_⟩:=h.rb
  exact ⟨a,c,h⟩
set_option maxHeartbeats 400000 in
theorem same9 (v1 v2:Value) (l:List UInt8) (w:World) (hl:l.length ≤ 140737488351232) (h1:RB w v1 l) (h2:RB w v2 l) :
    Calls Tryz.prog 9 #[v1,v2] w fun e w'=>e = .returned (.bool true)∧∃ n,w' = w.drewN n:=by
  obtain ⟨a1,c1,rfl,_,h1⟩:=h1
  obtain ⟨a2,c2,rfl,_,h2⟩:=h2
  have HH:Hid ((l = [] ∨ ∃ g o,a1 = some ⟨g,o,none⟩∧g < w.heap.size∧∀ i,i < l.length → w.cell? ⟨g,o + i,none⟩ = some (.int .u8 ((byt l i).toNat:Int))) ∧
     (l = [] ∨ ∃ g o,a2 = some ⟨g,o,none⟩∧g < w.heap.size∧∀ i,i < l.length → w.cell? ⟨g,o + i,none⟩ = some (.int .u8 ((byt l i).toNat:Int)))):=⟨h1,h2⟩
  clear h1 h2
  generalize hn:l.length = n at *
  have HN:Hid (l.length = n):=hn
  clear hn
  go_enter Tryz.func9,Tryz.ntmps9
  go_wp2
  go_loopw [5] (fun i wr=>∃ k nq:Nat,k ≤ n∧i = .int .i64 k∧wr = w.drewN nq) (fun i _=>n - (intOf i).toNat)
  case atStart=>exact ⟨0,0,Nat.zero_le _,rfl,rfl⟩
  case round =>
    obtain ⟨k,nq,hk,rfl,rfl⟩:=hrel
    by_cases hlt:k < n
    · rcases HH.out.1 with h | ⟨g1,o1,rfl,_,h1⟩
      · have:=HN.out; rw [h] at this; simp at this; omega
      rcases HH.out.2 with h | ⟨g2,o2,rfl,_,h2⟩
      · have:=HN.out; rw [h] at this; simp at this; omega
      have g1:=h1 k hlt
      have g2:=h2 k hlt
      generalize ((byt l k).toNat:Int) = x at g1 g2
      clear h1 h2 HH HN
      go_wp2
      go_quiet (fail)
      go_wp2
      exact ⟨⟨k + 1,_,by omega,by go_num,rfl⟩,by simp [intOf]; omega⟩
    · go_wp2
      go_ret
      exact ⟨rfl,nq,rfl⟩
def t0:T:=.mk 0 0 { data:=#[] } 0 (fun _=>.no) 0 (fun _=>{ data:=#[] }) (fun _=>.no)
theorem t0_ok:t0.ok:=⟨by show ByteArray.size _ ≤ _; decide,Nat.zero_le _,Nat.zero_le _,fun i hi=>absurd hi (Nat.not_lt_zero _),fun i hi=>absurd hi (Nat.not_lt_zero _)⟩
def OUT (b:List UInt8) (t:T) (k:Nat) (er:Int):Prop:=
  (er = 0∧Run b (.go [] 0) (.val t k)∧b.length ≤ 1048576) ∨ (t = t0∧((Run b (.go [] 0) (.bad k er)∧b.length ≤ 1048576) ∨ (1048576 < b.length∧k = 0∧er = 20)))
theorem rv_t0 (S:Nat → Prop) (w:World):RV S w t0 (.slice none 0 0) (.slice none 0 0):=
  ⟨⟨none,0,rfl,.inl rfl⟩,⟨none,0,rfl,.inl rfl⟩⟩
def EVw (w:World):Prop:=(∃ t p,w.cell? ⟨3,0,none⟩ = some (.iface t p))∧∃ t p,w.cell? ⟨4,0,none⟩ = some (.iface t p)
theorem EVw.keep {w w':World} (h:EVw w) (hb:Below w.heap.size w w'):EVw w':=by
  obtain ⟨⟨t,p,h1⟩,⟨t',p',h2⟩⟩:=h
  exact ⟨⟨t,p,(hb.cell (World.block_lt_of_cell? w _ h1)).trans h1⟩,⟨t',p',(hb.cell (World.block_lt_of_cell? w _ h2)).trans h2⟩⟩
set_option maxRecDepth 10000 in
set_option maxHeartbeats 4000000 in
theorem prefix12 (v:Value) (b:List UInt8) (w:World) (hr:RB w v b) (hev:EVw w) :
    Calls Tryz.prog 81 #[v] w fun e w'=>∃ t x y k er,e = .returned (.tuple #[vv t x y,.int .i64 (k:Nat),.int .i64 er])∧RV (fun _=>True) w' t x y∧t.ok∧OUT b t k er∧Below w.heap.size w w':=by
  have hb0:Below w.heap.size w (w.alloc (Obj.cells #[.int .i64 0,.int .i64 0,.string { data:=#[] },.slice none 0 0,.slice none 0 0] 55)):=(Below.refl _ _).alloc (Nat.le_refl _) _
  have HX:Hid (obj (w.alloc (Obj.cells #[.int .i64 0,.int .i64 0,.string { data:=#[] },.slice none 0 0,.slice none 0 0] 55)) w.heap.size (.int .i64 0) (.int .i64 0) (.string { data:=#[] }) (.slice none 0 0) (.slice none 0 0)∧Below w.heap.size w (w.alloc (Obj.cells #[.int .i64 0,.int .i64 0,.string { data:=#[] },.slice none 0 0,.slice none 0 0] 55))∧(w.alloc (Obj.cells #[.int .i64 0,.int .i64 0,.string { data:=#[] },.slice none 0 0,.slice none 0 0] 55)).heap.size = w.heap.size + 1∧RB (w.alloc (Obj.cells #[.int .i64 0,.int .i64 0,.string { data:=#[] },.slice none 0 0,.slice none 0 0] 55)) v b∧EVw (w.alloc (Obj.cells #[.int .i64 0,.int .i64 0,.string { data:=#[] },.slice none 0 0,.slice none 0 0] 55))):=
    ⟨heap_new _ _,hb0,by simp,hr.keep hb0,hev.keep hb0⟩
  clear hb0 hev
  obtain ⟨a,c,rfl,_⟩:=hr
  go_enter Tryz.func81,Tryz.ntmps81
  go_wp2_with fail
  generalize (w.alloc (Obj.cells #[.int .i64 0,.int .i64 0,.string { data:=#[] },.slice none 0 0,.slice none 0 0] 55)) = w0 at *
  generalize hH:w.heap.size = H at *
  have HH:=Lib.hid hH
  clear hH
  obtain ⟨a',c',hv',hcap,hx⟩:=HX.out.2.2.2.1
  injection hv' with e1 e2 e3
  subst e1 e3
  refine (read20 a c b w0 hcap HX.out.2.2.2.2 hx).mono ?_
  rintro e w2 ⟨hb2,hp⟩
  have OB:Hid (obj w2 H (.int .i64 0) (.int .i64 0) (.string { data:=#[] }) (.slice none 0 0) (.slice none 0 0)∧Below H w w2):=by
    obtain ⟨q1,q2,q3,_⟩:=HX.out
    exact ⟨q1.keep (hb2.block _ q1.lt),q2.trans (hb2.mono (by omega))⟩
  obtain ⟨c0,c1,c2,c3,c4⟩:=OB.out.1.cells
  have cf0:=OB.out.1.frozen 0
  have cf1:=OB.out.1.frozen 1
  have cf2:=OB.out.1.frozen 2
  have cf3:=OB.out.1.frozen 3
  have cf4:=OB.out.1.frozen 4
  have hsz:=HX.out.2.2.1
  clear HX hx hb2
  rcases hp with ⟨t,x,y,j,rfl,hrv,htok,hrun,hlen⟩ | ⟨p,er,rfl,hbad⟩
  · obtain ⟨⟨xa,xn,xc,rfl⟩,⟨ya,yn,yc,rfl⟩⟩:=hrv.slices
    have HE:Hid (RV (fun x=>w0.heap.size ≤ x) w2 t (.slice xa xn xc) (.slice ya yn yc)∧TOK t∧Run b (.go [] 0) (.val t j)∧b.length ≤ 1048576):=⟨hrv,htok,hrun,hlen⟩
    clear hrv htok hrun hlen
    unfold vv
    go_wp2
    refine bodyPost_ret (v:=.tuple #[vv t (.slice xa xn xc) (.slice ya yn yc),.int .i64 (j:Nat),.int .i64 0]) (results_cell3 Tryz.results81 _ _ H _ rfl (((((OB.out.1.set0 _).set1 _).set2 _).set3 _).set4 _) rfl) rfl ?_
    refine ⟨t,_,_,j,0,rfl,?_,HE.out.2.1.2.2,.inl ⟨rfl,HE.out.2.2⟩,by rw [HH.out]; exact below_set5 OB.out.2⟩
    refine RV.keep (w:=w2) (fun _ _=>trivial) (by simp) (fun k hk hl=>?_) _ _ _ HE.out.1
    have hn:k ≠ H:=by omega
    rw [Below.heap_setCell _ _ _ _ hn,Below.heap_setCell _ _ _ _ hn,Below.heap_setCell _ _ _ _ hn,Below.heap_setCell _ _ _ _ hn,Below.heap_setCell _ _ _ _ hn]
  · have HE:Hid ((Run b (.go [] 0) (.bad p er)∧b.length ≤ 1048576) ∨ (1048576 < b.length∧p = 0∧er = 20)):=hbad
    clear hbad
    go_wp2
    refine bodyPost_ret (v:=.tuple #[vv t0 (.slice none 0 0) (.slice none 0 0),.int .i64 (p:Nat),.int .i64 er]) (results_cell3 Tryz.results81 _ _ H _ rfl (((((OB.out.1.set0 _).set1 _).set2 _).set3 _).set4 _) rfl) rfl ?_
    exact ⟨t0,_,_,p,er,rfl,rv_t0 _ _,t0_ok,.inr ⟨rfl,HE.out⟩,by rw [HH.out]; exact below_set5 OB.out.2⟩
end Go.Proofs.YtdlnnnlmlaploabGreatDoor
