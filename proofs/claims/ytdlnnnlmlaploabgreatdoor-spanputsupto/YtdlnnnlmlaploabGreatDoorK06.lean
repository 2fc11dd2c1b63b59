import Derived.Test.YtdlnnnlmlaploabGreatDoorK05
import Derived.Test.YtdlnnnlmlaploabGreatDoorK03
import Derived.Test.YtdlnnnlmlaploabGreatDoorK02
import Derived.Lib.Hide
namespace Go.Proofs.YtdlnnnlmlaploabGreatDoor
open Go.RowKit Go.Deep
def DOUT (b:List UInt8) (t:T) (k:Nat) (er:Int):Prop:=
  (er = 0∧k = 0∧b.length ≤ 1048576∧∃ n,Run b (.go [] 0) (.val t n)∧b.length ≤ n) ∨
  (t = t0∧((er = 26∧k < b.length∧b.length ≤ 1048576∧∃ u,Run b (.go [] 0) (.val u k)) ∨ (Run b (.go [] 0) (.bad k er)∧b.length ≤ 1048576) ∨ (1048576 < b.length∧k = 0∧er = 20)))
theorem DOUT.unique {b:List UInt8} {t t':T} {k k':Nat} {er er':Int} (h:DOUT b t k er) (h':DOUT b t' k' er'):t = t'∧k = k'∧er = er':=by
  rcases h with ⟨rfl,rfl,h2,n,h1,h3⟩ | ⟨rfl,⟨rfl,h3,h2,u,h1⟩ | ⟨h1,h2⟩ | ⟨h1,rfl,rfl⟩⟩
  · rcases h' with ⟨rfl,rfl,g2,m,g1,g3⟩ | ⟨rfl,⟨rfl,g3,g2,u',g1⟩ | ⟨g1,g2⟩ | ⟨g1,rfl,rfl⟩⟩
    · have:=Run.unique h1 g1 trivial trivial
      injection this with e1 e2
      exact ⟨e1,rfl,rfl⟩
    · have:=Run.unique h1 g1 trivial trivial
      injection this with e1 e2
      omega
    · have:=Run.unique h1 g1 trivial trivial
      cases this
    · omega
  · rcases h' with ⟨rfl,rfl,g2,m,g1,g3⟩ | ⟨rfl,⟨rfl,g3,g2,u',g1⟩ | ⟨g1,g2⟩ | ⟨g1,rfl,rfl⟩⟩
    · have:=Run.unique h1 g1 trivial trivial
      injection this with e1 e2
      omega
    · have:=Run.unique h1 g1 trivial trivial
      injection this with e1 e2
      exact ⟨rfl,e2,rfl⟩
    · have:=Run.unique h1 g1 trivial trivial
      cases this
    · omega
  · rcases h' with ⟨rfl,rfl,g2,m,g1,g3⟩ | ⟨rfl,⟨rfl,g3,g2,u',g1⟩ | ⟨g1,g2⟩ | ⟨g1,rfl,rfl⟩⟩
    · have:=Run.unique h1 g1 trivial trivial
      cases this
    · have:=Run.unique h1 g1 trivial trivial
      cases this
    · have:=Run.unique h1 g1 trivial trivial
      injection this with e1 e2
      exact ⟨rfl,e1,e2⟩
    · omega
  · rcases h' with ⟨rfl,rfl,g2,m,g1,g3⟩ | ⟨rfl,⟨rfl,g3,g2,u',g1⟩ | ⟨g1,g2⟩ | ⟨g1,rfl,rfl⟩⟩
    · omega
    · omega
    · omega
    · exact ⟨rfl,rfl,rfl⟩
theorem step_er {b:List UInt8} {st:List Fr} {i p:Nat} {e:Int} (h:step b st i = .bad p e):21 ≤ e∧e ≤ 25:=by
  have hscal:∀ st,scal b st i = .bad p e → 21 ≤ e∧e ≤ 25:=by
    intro st h
    unfold scal at h
    split at h
    · cases hn:numb b i with
      | ok n j=>rw [hn] at h; cases st <;> cases h
      | bad p' e'=>rw [hn] at h; cases h; have:=numb_er hn; omega
    · split at h
      · cases hn:strg b i with
        | ok n j=>rw [hn] at h; cases st <;> cases h
        | bad p' e'=>rw [hn] at h; cases h; have:=strg_er hn; omega
      · cases h; omega
  have hopn:∀ st,opn b st i = .bad p e → 21 ≤ e∧e ≤ 25:=by
    intro st h
    unfold opn at h
    split at h
    · split at h
      · cases h; omega
      · cases h
    · split at h
      · split at h
        · cases h; omega
        · cases h
      · exact hscal st h
  unfold step at h
  split at h
  · cases h; omega
  · match st with
    | []=>exact hopn _ h
    | f :: r =>
      dsimp only at h
      split at h
      · split at h
        · cases r <;> cases h
        · unfold keyy at h
          split at h
          · cases h; omega
          · cases hn:strg b i with
            | ok n j =>
              rw [hn] at h
              dsimp only at h
              split at h
              · cases h; omega
              · cases h
            | bad p' e'=>rw [hn] at h; cases h; have:=strg_er hn; omega
      · split at h
        · cases r <;> cases h
        · exact hopn _ h
theorem run_er0 {b:List UInt8} {o q:Out} (h:Run b o q):(∀ k er,o = .bad k er → 21 ≤ er∧er ≤ 25) → ∀ k er,q = .bad k er → 21 ≤ er∧er ≤ 25:=by
  induction h with
  | refl o=>exact fun h=>h
  | more _ ih=>exact fun _=>ih fun k er he=>step_er he
theorem run_er {b:List UInt8} {st:List Fr} {i k:Nat} {er:Int} (h:Run b (.go st i) (.bad k er)):21 ≤ er∧er ≤ 25:=
  run_er0 h (fun k er he=>by cases he) k er rfl
theorem out_good {b:List UInt8} {t:T} {k:Nat} (h:OUT b t k 0):Run b (.go [] 0) (.val t k)∧b.length ≤ 1048576:=by
  rcases h with ⟨_,h1,h2⟩ | ⟨_,⟨h1,_⟩ | ⟨_,_,h3⟩⟩
  · exact ⟨h1,h2⟩
  · exact absurd (run_er h1).1 (by omega)
  · omega
theorem out_bad {b:List UInt8} {t:T} {k:Nat} {er:Int} (h:OUT b t k er) (he:er ≠ 0):DOUT b t0 k er:=by
  rcases h with ⟨h0,_⟩ | ⟨rfl,⟨h1,h2⟩ | ⟨h1,h2,h3⟩⟩
  · exact absurd h0 he
  · exact .inr ⟨rfl,.inr (.inl ⟨h1,h2⟩)⟩
  · exact .inr ⟨rfl,.inr (.inr ⟨h1,h2,h3⟩)⟩
theorem objAlloc {w:World} {b:Nat} {c0 c1 c2 c3 c4:Value} (h:obj w b c0 c1 c2 c3 c4) (o:Obj):obj (w.alloc o) b c0 c1 c2 c3 c4:=h.keep (Below.heap_alloc _ _ _ h.lt)
theorem byt_app {b m:List UInt8} {i:Nat} (h:i < b.length):byt (b ++ m) i = byt b i:=by
  simp [byt,List.getD,List.getElem?_append_left h]
theorem run_app {b m:List UInt8} {i:Nat} (h:i + run b i < b.length):run (b ++ m) i = run b i:=by
  unfold run at h ⊢
  rw [List.drop_append_of_le_length (by omega),List.takeWhile_append,if_neg (by rw [List.length_drop]; omega)]
theorem cut_app {b m:List UInt8} {i j:Nat} (hj:j ≤ b.length):cut (b ++ m) i j = cut b i j:=by
  unfold cut
  by_cases hi:i ≤ b.length
  · rw [List.drop_append_of_le_length hi,List.take_append_of_le_length (by rw [List.length_drop]; omega)]
  · rw [show j - i = 0 by omega]; simp
theorem digs_ext {b m:List UInt8} {en:UInt8} {i:Nat} (h:∀ p,digs b en i ≠ .bad p 21):digs (b ++ m) en i = digs b en i:=by
  have hl:¬ b.length ≤ i + run b i:=fun e=>h b.length (by unfold digs; rw [if_pos e])
  have hr:=run_app (m:=m) (show i + run b i < b.length by omega)
  unfold digs
  rw [hr,if_neg hl,if_neg (by rw [List.length_append]; omega),byt_app (by omega),cut_app (by omega)]
theorem digs_okx {b:List UInt8} {en:UInt8} {i j:Nat} {d:List UInt8} (h:digs b en i = .ok d j):i < j∧j ≤ b.length:=by
  unfold digs at h
  split at h
  · cases h
  · split at h
    · cases h
    · injection h with _ h2; omega
theorem strg_ext {b m:List UInt8} {i:Nat} (h:∀ p,strg b i ≠ .bad p 21):strg (b ++ m) i = strg b i:=by
  have hd:∀ p,digs b 58 i ≠ .bad p 21:=fun p e=>h p (by unfold strg; rw [e])
  have e:=digs_ext (m:=m) hd
  unfold strg at h ⊢
  rw [e]
  cases hd2:digs b 58 i with
  | bad p e=>rfl
  | ok d j =>
    rw [hd2] at h
    dsimp only at h ⊢
    have hj:=(digs_okx hd2).2
    by_cases hp:padd d = true
    · rw [if_pos hp,if_pos hp]
    · rw [if_neg hp] at h
      rw [if_neg hp,if_neg hp]
      cases ha:Lib.atoiAll d with
      | ok n =>
        rw [ha] at h
        dsimp only at h ⊢
        have hn:¬ (b.length:Int) - j < n:=fun e=>h b.length (by rw [if_pos e])
        rw [if_neg hn,if_neg (by rw [List.length_append]; omega),cut_app (by omega)]
      | «syntax»=>rw [ha] at h; exact absurd rfl (h b.length)
      | range=>rw [ha] at h; exact absurd rfl (h b.length)
theorem numb_ext {b m:List UInt8} {i:Nat} (h:∀ p,numb b i ≠ .bad p 21):numb (b ++ m) i = numb b i:=by
  have hl:¬ b.length ≤ i + 1:=fun e=>h b.length (by rw [numb,if_pos e])
  have hl2:i + 1 < b.length:=by omega
  rw [numb_sg hl2] at h ⊢
  rw [numb_sg (by rw [List.length_append]; omega),byt_app hl2]
  generalize (if byt b (i + 1) = 45 then [45] else []:List UInt8) = sg at h ⊢
  rw [digs_ext (fun p e=>h p (by rw [e]))]
theorem scal_ext {b m:List UInt8} {st:List Fr} {i:Nat} (hi:i < b.length) (h:∀ p,scal b st i ≠ .bad p 21):scal (b ++ m) st i = scal b st i:=by
  unfold scal at h ⊢
  rw [byt_app hi]
  by_cases h1:byt b i = 105
  · rw [if_pos h1] at h
    rw [if_pos h1,if_pos h1,numb_ext (fun p e=>h p (by rw [e]))]
  · rw [if_neg h1] at h
    rw [if_neg h1,if_neg h1]
    by_cases h2:dig (byt b i) = true
    · rw [if_pos h2] at h
      rw [if_pos h2,if_pos h2,strg_ext (fun p e=>h p (by rw [e]))]
    · rw [if_neg h2,if_neg h2]
theorem opn_ext {b m:List UInt8} {st:List Fr} {i:Nat} (hi:i < b.length) (h:∀ p,opn b st i ≠ .bad p 21):opn (b ++ m) st i = opn b st i:=by
  unfold opn at h ⊢
  rw [byt_app hi]
  by_cases h1:byt b i = 108
  · rw [if_pos h1,if_pos h1]
  · rw [if_neg h1] at h
    rw [if_neg h1,if_neg h1]
    by_cases h2:byt b i = 100
    · rw [if_pos h2,if_pos h2]
    · rw [if_neg h2] at h
      rw [if_neg h2,if_neg h2]
      exact scal_ext hi h
theorem keyy_ext {b m:List UInt8} {f:Fr} {r:List Fr} {i:Nat} (hi:i < b.length) (h:∀ p,keyy b f r i ≠ .bad p 21):keyy (b ++ m) f r i = keyy b f r i:=by
  unfold keyy at h ⊢
  rw [byt_app hi]
  by_cases h1:dig (byt b i) = false
  · rw [if_pos h1,if_pos h1]
  · rw [if_neg h1] at h
    rw [if_neg h1,if_neg h1,strg_ext (fun p e=>h p (by rw [e]))]
theorem step_ext {b m:List UInt8} {st:List Fr} {i:Nat} (h:∀ p,step b st i ≠ .bad p 21):step (b ++ m) st i = step b st i:=by
  have hl:¬ b.length ≤ i:=fun e=>h b.length (by unfold step; rw [if_pos e])
  have hi:i < b.length:=by omega
  unfold step at h ⊢
  rw [if_neg hl] at h
  rw [if_neg hl,if_neg (by rw [List.length_append]; omega)]
  match st with
  | []=>exact opn_ext hi h
  | f :: r =>
    dsimp only at h ⊢
    rw [byt_app hi]
    by_cases h1:f.d = true∧f.has = false
    · rw [if_pos h1] at h
      rw [if_pos h1,if_pos h1]
      by_cases h2:byt b i = 101
      · rw [if_pos h2,if_pos h2]
      · rw [if_neg h2] at h
        rw [if_neg h2,if_neg h2]
        exact keyy_ext hi h
    · rw [if_neg h1] at h
      rw [if_neg h1,if_neg h1]
      by_cases h2:f.d = false∧byt b i = 101
      · rw [if_pos h2,if_pos h2]
      · rw [if_neg h2] at h
        rw [if_neg h2,if_neg h2]
        exact opn_ext hi h
def Fp (b:List UInt8) (p:Nat) (e:Int):Prop:=(e = 21∧p = b.length) ∨ (e ≠ 21∧p < b.length)
theorem digs_fp {b:List UInt8} {en:UInt8} {i p:Nat} {e:Int} (h:digs b en i = .bad p e):Fp b p e:=by
  unfold digs at h
  split at h
  · injection h with h1 h2; exact .inl ⟨h2.symm,h1.symm⟩
  · split at h
    · injection h with h1 h2; exact .inr ⟨by omega,by omega⟩
    · cases h
theorem numb_fp {b:List UInt8} {i p:Nat} {e:Int} (hi:i < b.length) (h:numb b i = .bad p e):Fp b p e:=by
  by_cases hl:i + 1 < b.length
  · rw [numb_sg hl] at h
    generalize (if byt b (i + 1) = 45 then [45] else []:List UInt8) = sg at h
    cases hd:digs b 101 (i + 1 + sg.length) with
    | bad p' e'=>rw [hd] at h; injection h with h1 h2; subst h1 h2; exact digs_fp hd
    | ok d k =>
      rw [hd] at h
      dsimp only at h
      split at h
      · split at h
        · injection h with h1 h2; exact .inr ⟨by omega,by omega⟩
        · cases h
      · injection h with h1 h2; exact .inr ⟨by omega,by omega⟩
  · rw [numb,if_pos (by omega)] at h; injection h with h1 h2; exact .inl ⟨h2.symm,h1.symm⟩
def catN (f:Nat → List UInt8):Nat → List UInt8
  | 0=>[]
  | n + 1=>catN f n ++ f n
def wtx (s:ByteArray):List UInt8:=Lib.itoa s.size ++ 58 :: s.data.toList
def txt:T → List UInt8
  | .no=>[]
  | .mk k n s ln l dn ky dv=>if k = 1 then 105 :: (Lib.itoa n ++ [101]) else if k = 2 then wtx s else if k = 3 then 108 :: (catN (fun i=>txt (l i)) ln ++ [101]) else 100 :: (catN (fun i=>wtx (ky i) ++ txt (dv i)) dn ++ [101])
def T.rng:T → Prop
  | .no=>True
  | .mk _ n _ ln l dn _ dv=>-9223372036854775808 ≤ n∧n ≤ 9223372036854775807∧ln ≤ 2147483647∧dn ≤ 2147483647∧(∀ i,i < ln → (l i).rng)∧(∀ i,i < dn → (dv i).rng)
theorem OW.alloc {B:Nat} {w:World} {v:Value} {l:List UInt8} (h:OW B w v l) (o:Obj):OW B (w.alloc o) v l:=World.ownsRow.alloc h o
theorem TB.on {B:Nat} {w w':World} (h:TB B w) (hb:Below B w w'):TB B w':=Lib.TabBelow.on h hb
set_option maxHeartbeats 1000000 in
theorem word100 (B:Nat) (s:ByteArray) (sv:Value) (l:List UInt8) (w:World) (hown:OW B w sv l) (hB:B ≤ w.heap.size) (hT:TB B w) (hlim:l.length + s.size ≤ 100000000000000) :
    Calls Tryz.prog 145 #[.string s,sv] w fun e w'=>∃ v',e = .returned v'∧OW B w' v' (l ++ wtx s)∧BW B w w':=by
  have hlen:=Lib.itoa_length_le s.size (by omega) (by omega)
  go_enter Tryz.func145,Tryz.ntmps145
  go_wp2_with fail
  refine (appendInt97 B s.size (by omega) (by omega) sv _ w hown hB (by omega) hT).mono ?_
  rintro e w2 ⟨v2,rfl,ho2,hb2⟩
  have hB2:B ≤ w2.heap.size:=Nat.le_trans hB hb2.1.size
  go_wp2_with (at_builtin; first | refine append_byte rfl _ _ rfl rfl (ho2.alloc _) w2.heap.size 58 rfl (by go_simp) (by simp; omega) (by simp; omega) ?_)
  intro v3 w3 ho3 hb3
  have hb3':BW B w w3:=(hb2.alloc hB2 _).trans hb3
  have hB3:B ≤ w3.heap.size:=Nat.le_trans hB hb3'.1.size
  clear hb2 hb3 ho2
  go_wp2_with (at_builtin; refine append_str rfl _ _ rfl rfl ho3 s rfl hB3 (by simp; omega) ?_)
  intro v4 w4 ho4 hb4
  go_wp2
  go_ret
  exact ⟨v4,rfl,by simpa [wtx] using ho4,hb3'.trans hb4⟩
theorem meth56 (u : Value) (w : World) : Sem.run Tryz.prog (method 303 102 u "torrent/bencode.text") w = .ok (145, u) w := by kernel_rfl
theorem catN_le {f:Nat → List UInt8}:∀ {n j:Nat},j < n → (catN f j).length + (f j).length ≤ (catN f n).length
  | 0,_,h=>absurd h (Nat.not_lt_zero _)
  | n + 1,j,h=>by
    show _ ≤ (catN f n ++ f n).length
    rw [List.length_append]
    rcases Nat.lt_succ_iff_lt_or_eq.1 h with h | rfl
    · have:=catN_le (f:=f) h; omega
    · exact Nat.le_refl _
def unp (d:List UInt8):Prop:=d.length = 1 ∨ byt d 0 ≠ 48
theorem ofNat_dig {c:UInt8} (h:48 ≤ c.toNat∧c.toNat ≤ 57):UInt8.ofNat (48 + (c.toNat - 48)) = c:=by
  rw [show 48 + (c.toNat - 48) = c.toNat by omega]; exact UInt8.ofNat_toNat
theorem dval_pos:∀ {d:List UInt8},allDig d → d ≠ [] → byt d 0 ≠ 48 → 1 ≤ dval 0 d
  | [],_,h,_=>absurd rfl h
  | c :: r,ha,_,h0=>by
    have hc:=ha c (List.mem_cons_self ..)
    have hne:c.toNat ≠ 48:=fun e=>h0 (UInt8.toNat_inj.1 e)
    rw [dval_cons]
    exact Nat.le_trans (by omega) (dval_le r _)
theorem dec_dval:∀ (n:Nat) (d:List UInt8),d.length = n → d ≠ [] → allDig d → unp d → Lib.decDigits (dval 0 d) = d
  | 0,d,hn,h,_,_=>absurd (List.length_eq_zero_iff.1 hn) h
  | n + 1,d,hn,_,ha,hu=>by
    obtain ⟨x,c,rfl⟩:∃ x c,d = x ++ [c]:=⟨d.dropLast,d.getLast (by intro e; subst e; cases hn),(List.dropLast_concat_getLast _).symm⟩
    have hc:=ha c (by simp)
    rw [dval_snoc]
    by_cases hx:x = []
    · subst hx
      rw [dval_nil,Nat.zero_mul,Nat.zero_add,Lib.decDigits,dif_pos (by omega),ofNat_dig hc]; rfl
    · have hax:allDig x:=fun y hy=>ha y (by simp [hy])
      have hlx:0 < x.length:=List.length_pos_iff.2 hx
      have h0:byt x 0 ≠ 48:=by
        rcases hu with h | h
        · simp at h; exact absurd h hx
        · have:byt (x ++ [c]) 0 = byt x 0:=byt_app hlx
          rwa [this] at h
      have hp:=dval_pos hax hx h0
      rw [Lib.decDigits,dif_neg (by omega),show (dval 0 x * 10 + (c.toNat - 48)) / 10 = dval 0 x by omega,show (dval 0 x * 10 + (c.toNat - 48)) % 10 = c.toNat - 48 by omega,ofNat_dig hc,
        dec_dval n x (by simp at hn; omega) hx hax (.inr h0)]
theorem padd_unp {d:List UInt8} (hn:d ≠ []) (h:¬ padd d = true):unp d:=by
  have hl:=List.length_pos_iff.2 hn
  by_cases h1:d.length = 1
  · exact .inl h1
  · refine .inr fun e=>h ?_
    unfold padd; simp [e]; omega
theorem atoi_back {d:List UInt8} {n:Int} (ha:allDig d) (hn:d ≠ []) (hp:¬ padd d = true) (h:Lib.atoiAll d = .ok n):Lib.itoa n = d∧0 ≤ n∧n ≤ 9223372036854775807:=by
  by_cases hl:dval 0 d < 9223372036854775808
  · rw [(atoi_pos ha hn).1 hl] at h
    injection h with h
    subst h
    exact ⟨by rw [Lib.itoa_nonneg]; exact dec_dval _ d rfl hn ha (padd_unp hn hp),by omega,by omega⟩
  · exact absurd h ((atoi_pos ha hn).2 (by omega) n)
theorem atoi_back_neg {d:List UInt8} {n:Int} (ha:allDig d) (hn:d ≠ []) (hp:¬ padd d = true) (hz:45 :: d ≠ [45,48]) (h:Lib.atoiAll (45 :: d) = .ok n):Lib.itoa n = 45 :: d∧-9223372036854775808 ≤ n∧n ≤ 0:=by
  by_cases hl:dval 0 d ≤ 9223372036854775808
  · rw [(atoi_neg ha hn).1 hl] at h
    injection h with h
    subst h
    have hu:=padd_unp hn hp
    have h1:1 ≤ dval 0 d:=by
      rcases hu with h | h
      · match d,h with
        | [c],_ =>
          have hc:=ha c (by simp)
          rw [dval_cons,dval_nil]
          have:c ≠ 48:=fun e=>hz (by rw [e])
          have:c.toNat ≠ 48:=fun e=>this (UInt8.toNat_inj.1 e)
          omega
      · exact dval_pos ha hn h
    exact ⟨by rw [Lib.itoa_neg _ h1,dec_dval _ d rfl hn ha hu],by omega,by omega⟩
  · exact absurd h ((atoi_neg ha hn).2 (by omega) n)
theorem take_cut {b:List UInt8} {i j:Nat} (h:i ≤ j):b.take j = b.take i ++ cut b i j:=by
  unfold cut
  rw [← List.take_append_drop i (b.take j),List.take_take,Nat.min_eq_left h,List.drop_take]
theorem cut_one {b:List UInt8} {i:Nat} (h:i < b.length):cut b i (i + 1) = [byt b i]:=by
  unfold cut byt
  rw [Nat.add_sub_cancel_left,List.drop_eq_getElem_cons h,List.take_succ_cons,List.take_zero]
  simp [List.getD,List.getElem?_eq_getElem h]
theorem take_one {b:List UInt8} {i:Nat} (h:i < b.length):b.take (i + 1) = b.take i ++ [byt b i]:=by
  rw [take_cut (Nat.le_succ i),cut_one h]
theorem digs_txt {b:List UInt8} {en:UInt8} {i j:Nat} {d:List UInt8} (h:digs b en i = .ok d j):b.take j = b.take i ++ (d ++ [en])∧allDig d∧d ≠ []∧i < j∧j ≤ b.length:=by
  unfold digs at h
  split at h
  · cases h
  · rename_i h1
    split at h
    · cases h
    · rename_i h2
      injection h with hd hj
      subst hd hj
      have hr:run b i ≠ 0:=fun e=>h2 (.inl e)
      have hb:byt b (i + run b i) = en:=Classical.byContradiction fun e=>h2 (.inr e)
      have hl:i + run b i < b.length:=by omega
      have hcl:=cut_length (b:=b) (i:=i) (j:=i + run b i) (by omega)
      refine ⟨by rw [take_one hl,take_cut (Nat.le_add_right i (run b i)),hb,List.append_assoc],fun c hc=>?_,fun e=>by rw [e] at hcl; simp at hcl; omega,by omega,by omega⟩
      obtain ⟨k,hk,rfl⟩:=List.getElem_of_mem hc
      have hk':k < run b i:=by rw [hcl] at hk; omega
      have h3:=(run_lt hk').2
      have h4:byt (cut b i (i + run b i)) k = byt b (i + k):=byt_cut (by omega)
      have h5:byt (cut b i (i + run b i)) k = (cut b i (i + run b i))[k]:=by unfold byt; simp [List.getD,List.getElem?_eq_getElem hk]
      rw [← h5,h4]
      exact (dig_iff _).1 h3
theorem strg_txt {b:List UInt8} {i j:Nat} {s:ByteArray} (h:strg b i = .ok s j):b.take j = b.take i ++ wtx s∧i < j∧j ≤ b.length∧s.size ≤ b.length:=by
  unfold strg at h
  cases hd:digs b 58 i with
  | bad p e=>rw [hd] at h; cases h
  | ok d j0 =>
    obtain ⟨h1,h2,h3,h4,h5⟩:=digs_txt hd
    rw [hd] at h
    dsimp only at h
    split at h
    · cases h
    · rename_i hp
      cases ha:Lib.atoiAll d with
      | «syntax»=>rw [ha] at h; cases h
      | range=>rw [ha] at h; cases h
      | ok n =>
        rw [ha] at h
        dsimp only at h
        split at h
        · cases h
        · rename_i hn
          injection h with hs hj
          obtain ⟨hb,hn0,hn1⟩:=atoi_back h2 h3 hp ha
          have hlen:(cut b j0 (j0 + n.toNat)).length = n.toNat:=by rw [cut_length (by omega)]; omega
          have hsz:s.size = n.toNat:=by rw [← hs]; show (cut b j0 (j0 + n.toNat)).toArray.size = _; simpa using hlen
          have hsd:s.data.toList = cut b j0 (j0 + n.toNat):=by rw [← hs]
          subst hj
          refine ⟨?_,by omega,by omega,by omega⟩
          rw [take_cut (Nat.le_add_right j0 n.toNat),h1]
          unfold wtx
          rw [hsz,hsd,show ((n.toNat:Nat):Int) = n by omega,hb]
          simp
theorem numb_txt {b:List UInt8} {i j:Nat} {n:Int} (hi:i < b.length) (hb:byt b i = 105) (h:numb b i = .ok n j):b.take j = b.take i ++ txt (tNum n)∧i < j∧j ≤ b.length∧-9223372036854775808 ≤ n∧n ≤ 9223372036854775807:=by
  have ht:txt (tNum n) = 105 :: (Lib.itoa n ++ [101]):=rfl
  by_cases hl:i + 1 < b.length
  · rw [numb_sg hl] at h
    by_cases h45:byt b (i + 1) = 45
    · rw [if_pos h45] at h
      cases hd:digs b 101 (i + 1 + ([45]:List UInt8).length) with
      | bad p e=>rw [hd] at h; cases h
      | ok d j0 =>
        obtain ⟨h1,h2,h3,h4,h5⟩:=digs_txt hd
        rw [hd] at h
        dsimp only at h
        cases ha:Lib.atoiAll ([45] ++ d) with
        | «syntax»=>rw [ha] at h; cases h
        | range=>rw [ha] at h; cases h
        | ok v =>
          rw [ha] at h
          dsimp only at h
          split at h
          · cases h
          · rename_i hp
            injection h with hv hj
            subst hv hj
            obtain ⟨e1,e2,e3⟩:=atoi_back_neg h2 h3 (fun e=>hp (.inl e)) (fun e=>hp (.inr e)) ha
            refine ⟨?_,by simp at h4; omega,h5,e2,by omega⟩
            rw [h1,ht,e1]
            have:b.take (i + 1 + [(45:UInt8)].length) = b.take i ++ [105] ++ [45]:=by
              show b.take (i + 1 + 1) = _
              rw [take_one hl,take_one hi,hb,h45]
            rw [this]; simp
    · rw [if_neg h45] at h
      cases hd:digs b 101 (i + 1 + ([]:List UInt8).length) with
      | bad p e=>rw [hd] at h; cases h
      | ok d j0 =>
        obtain ⟨h1,h2,h3,h4,h5⟩:=digs_txt hd
        rw [hd] at h
        dsimp only at h
        rw [List.nil_append] at h
        cases ha:Lib.atoiAll d with
        | «syntax»=>rw [ha] at h; cases h
        | range=>rw [ha] at h; cases h
        | ok v =>
          rw [ha] at h
          dsimp only at h
          split at h
          · cases h
          · rename_i hp
            injection h with hv hj
            subst hv hj
            obtain ⟨e1,e2,e3⟩:=atoi_back h2 h3 (fun e=>hp (.inl e)) ha
            refine ⟨?_,by simp at h4; omega,h5,by omega,by omega⟩
            rw [h1,ht,e1]
            have:b.take (i + 1 + ([]:List UInt8).length) = b.take i ++ [105]:=by
              show b.take (i + 1) = _
              rw [take_one hi,hb]
            rw [this]; simp
  · rw [numb,if_pos (by omega)] at h; cases h
def Gd (t:T) (ar:Nat):Prop:=wk t ar = 0∧t.small∧t.rng
def Fr.tx (f:Fr):List UInt8:=
  if f.d = true then 100 :: (catN (fun i=>wtx (f.ps.getD i (ByteArray.empty,.no)).1 ++ txt (f.ps.getD i (ByteArray.empty,.no)).2) f.ps.length ++ (if f.has = true then wtx f.key else []))
  else 108 :: catN (fun i=>txt (f.ls.getD i .no)) f.ls.length
def stx:List Fr → List UInt8
  | []=>[]
  | f :: r=>stx r ++ f.tx
def AW:List Fr → Prop
  | []=>True
  | f :: _=>f.d = true → f.has = true
structure FO (i:Nat) (f:Fr) (ar:Nat):Prop where
  dep:ar < 32
  ll:f.ls.length ≤ i
  pl:f.ps.length ≤ i
  lg:∀ p,p < f.ls.length → Gd (f.ls.getD p .no) (ar + 1)
  pg:∀ p,p < f.ps.length → Gd (f.ps.getD p (ByteArray.empty,.no)).2 (ar + 1)
  ri:∀ p,p + 1 < f.ps.length → leB (f.ps.getD (p + 1) (ByteArray.empty,.no)).1 (f.ps.getD p (ByteArray.empty,.no)).1 = false
  la:f.has = true → f.ps ≠ [] → leB f.key (f.ps.getLastD (ByteArray.empty,.no)).1 = false
def SO (i:Nat):List Fr → Prop
  | []=>True
  | f :: r=>FO i f r.length∧AW r∧SO i r
def OI (b:List UInt8):Out → Prop
  | .go st i=>i ≤ b.length∧b.take i = stx st∧SO i st
  | .val t i=>i ≤ b.length∧b.take i = txt t∧Gd t 0
  | .bad _ _=>True
theorem FO.up {i j:Nat} (h:i ≤ j) {f:Fr} {ar:Nat} (g:FO i f ar):FO j f ar:=⟨g.dep,Nat.le_trans g.ll h,Nat.le_trans g.pl h,g.lg,g.pg,g.ri,g.la⟩
theorem SO.up {i j:Nat} (h:i ≤ j):∀ {st:List Fr},SO i st → SO j st
  | [],_=>trivial
  | _ :: _,g=>⟨g.1.up h,g.2.1,SO.up h g.2.2⟩
theorem getD_lt {α:Type} {l:List α} {x a:α} {i:Nat} (h:i < l.length):(l ++ [x]).getD i a = l.getD i a:=by
  simp [List.getD,List.getElem?_append_left h]
theorem getD_at {α:Type} {l:List α} {x a:α}:(l ++ [x]).getD l.length a = x:=by
  simp [List.getD]
theorem last_getD {α:Type} {l:List α} {a:α}:l.getLastD a = l.getD (l.length - 1) a:=by
  rw [List.getLastD_eq_getLast?,List.getLast?_eq_getElem?]; rfl
theorem catN_congr {f g:Nat → List UInt8}:∀ {n:Nat},(∀ i,i < n → f i = g i) → catN f n = catN g n
  | 0,_=>rfl
  | n + 1,h=>by unfold catN; rw [catN_congr (fun i hi=>h i (by omega)),h n (by omega)]
theorem empty_nil:ByteArray.empty.toList = []:=by decide +kernel
theorem txt_dict (l:List (ByteArray × T)):txt (tDict l) = 100 :: (catN (fun i=>wtx (l.getD i (ByteArray.empty,.no)).1 ++ txt (l.getD i (ByteArray.empty,.no)).2) l.length ++ [101]):=rfl
theorem txt_list (l:List T):txt (tList l) = 108 :: (catN (fun i=>txt (l.getD i .no)) l.length ++ [101]):=rfl
theorem fstE_nil {f:Nat → Int}:∀ {n:Nat},(∀ i,i < n → f i = 0) → fstE f n = 0
  | 0,_=>rfl
  | n + 1,h=>by unfold fstE; rw [fstE_nil (fun i hi=>h i (by omega)),if_pos rfl,h n (by omega)]
theorem join_tx {f:Fr} {t:T} (h:f.d = true → f.has = true):(f.join t).tx = f.tx ++ txt t:=by
  unfold Fr.join Fr.tx
  by_cases hd:f.d = true
  · rw [if_pos hd,if_pos hd,if_pos (h hd)]
    dsimp only
    rw [if_pos rfl,List.length_append,List.length_singleton,catN]
    rw [catN_congr (g:=fun i=>wtx (f.ps.getD i (ByteArray.empty,.no)).1 ++ txt (f.ps.getD i (ByteArray.empty,.no)).2) (fun i hi=>by rw [getD_lt hi]),getD_at]
    simp
  · rw [if_neg hd,if_neg hd]
    dsimp only
    rw [if_neg (by decide),List.length_append,List.length_singleton,catN]
    rw [catN_congr (g:=fun i=>txt (f.ls.getD i .no)) (fun i hi=>by rw [getD_lt hi]),getD_at]
    simp
theorem close_tx {f:Fr} (h:f.d = true → f.has = false):txt f.close = f.tx ++ [101]:=by
  unfold Fr.close Fr.tx
  by_cases hd:f.d = true
  · rw [if_pos hd,if_pos hd,if_neg (by rw [h hd]; decide)]
    rw [txt_dict,List.append_nil]
    rfl
  · rw [if_neg hd,if_neg hd]
    rw [txt_list]
    rfl
theorem gd_list {l:List T} {ar:Nat} (hd:ar < 32) (hl:l.length ≤ 2147483647) (h:∀ p,p < l.length → Gd (l.getD p .no) (ar + 1)):Gd (tList l) ar:=by
  refine ⟨?_,⟨hl,Nat.zero_le _,fun i hi=>(h i hi).2.1,fun i hi=>absurd hi (Nat.not_lt_zero _)⟩,⟨by decide,by decide,hl,Nat.zero_le _,fun i hi=>(h i hi).2.2,fun i hi=>absurd hi (Nat.not_lt_zero _)⟩⟩
  unfold tList wk
  have h1:fstE (fun i=>wk (l.getD i .no) ((ar:Int) + 1)) l.length = 0:=fstE_nil fun i hi=>(h i hi).1
  have h2:ownB 3 0 ByteArray.empty l.length 0 = true:=by
    rw [ownB_iff]
    exact ⟨by decide,by decide,.inr rfl,.inr empty_nil,.inl rfl,.inr rfl⟩
  rw [if_neg (by rw [h2]; decide),if_neg (by decide),if_neg (by omega),if_neg (by rw [h1]; decide)]
  rfl
theorem gd_dict {l:List (ByteArray × T)} {ar:Nat} (hd:ar < 32) (hl:l.length ≤ 2147483647) (h:∀ p,p < l.length → Gd (l.getD p (ByteArray.empty,.no)).2 (ar + 1))
    (hr:∀ p,p + 1 < l.length → leB (l.getD (p + 1) (ByteArray.empty,.no)).1 (l.getD p (ByteArray.empty,.no)).1 = false):Gd (tDict l) ar:=by
  refine ⟨?_,⟨Nat.zero_le _,hl,fun i hi=>absurd hi (Nat.not_lt_zero _),fun i hi=>(h i hi).2.1⟩,⟨by decide,by decide,Nat.zero_le _,hl,fun i hi=>absurd hi (Nat.not_lt_zero _),fun i hi=>(h i hi).2.2⟩⟩
  unfold tDict wk
  have h2:ownB 4 0 ByteArray.empty 0 l.length = true:=by
    rw [ownB_iff]
    exact ⟨by decide,by decide,.inr rfl,.inr empty_nil,.inr rfl,.inl rfl⟩
  rw [if_neg (by rw [h2]; decide),if_neg (by decide),if_neg (by omega),if_neg (by simp [fstE])]
  refine fstE_nil fun i hi=>?_
  have hk:keyBad (fun i=>(l.getD i (ByteArray.empty,.no)).1) i = false:=by
    match i,hi with
    | 0,_=>rfl
    | p + 1,hi=>exact hr p hi
  rw [if_neg (by rw [hk]; decide)]
  exact (h i hi).1
theorem gd_num {n:Int} {ar:Nat} (h0:-9223372036854775808 ≤ n) (h1:n ≤ 9223372036854775807):Gd (tNum n) ar:=by
  refine ⟨?_,⟨Nat.zero_le _,Nat.zero_le _,fun i hi=>absurd hi (Nat.not_lt_zero _),fun i hi=>absurd hi (Nat.not_lt_zero _)⟩,⟨h0,h1,Nat.zero_le _,Nat.zero_le _,fun i hi=>absurd hi (Nat.not_lt_zero _),fun i hi=>absurd hi (Nat.not_lt_zero _)⟩⟩
  unfold tNum wk
  have h2:ownB 1 n ByteArray.empty 0 0 = true:=by
    rw [ownB_iff]
    exact ⟨by decide,by decide,.inl rfl,.inr empty_nil,.inr rfl,.inr rfl⟩
  rw [if_neg (by rw [h2]; decide),if_pos (by decide)]
theorem gd_str {s:ByteArray} {ar:Nat}:Gd (tStr s) ar:=by
  refine ⟨?_,⟨Nat.zero_le _,Nat.zero_le _,fun i hi=>absurd hi (Nat.not_lt_zero _),fun i hi=>absurd hi (Nat.not_lt_zero _)⟩,⟨by decide,by decide,Nat.zero_le _,Nat.zero_le _,fun i hi=>absurd hi (Nat.not_lt_zero _),fun i hi=>absurd hi (Nat.not_lt_zero _)⟩⟩
  unfold tStr wk
  have h2:ownB 2 0 s 0 0 = true:=by
    rw [ownB_iff]
    exact ⟨by decide,by decide,.inr rfl,.inl rfl,.inr rfl,.inr rfl⟩
  rw [if_neg (by rw [h2]; decide),if_pos (by decide)]
theorem gd_close {i:Nat} {f:Fr} {ar:Nat} (h:FO i f ar) (hi:i ≤ 2147483647):Gd f.close ar:=by
  unfold Fr.close
  split
  · exact gd_dict h.dep (Nat.le_trans h.pl hi) h.pg h.ri
  · exact gd_list h.dep (Nat.le_trans h.ll hi) h.lg
theorem fo_join {i j:Nat} (hij:i < j) {f:Fr} {t:T} {ar:Nat} (h:FO i f ar) (hw:f.d = true → f.has = true) (hg:Gd t (ar + 1)):FO j (f.join t) ar:=by
  unfold Fr.join
  split
  · rename_i hd
    refine ⟨h.dep,Nat.zero_le _,?_,fun p hp=>absurd hp (Nat.not_lt_zero _),?_,?_,fun e=>by cases e⟩
    · have:=h.pl
      dsimp only; rw [List.length_append,List.length_singleton]; omega
    · dsimp only
      intro p hp
      rw [List.length_append,List.length_singleton] at hp
      by_cases hpl:p < f.ps.length
      · rw [getD_lt hpl]; exact h.pg p hpl
      · rw [show p = f.ps.length by omega,getD_at]; exact hg
    · dsimp only
      intro p hp
      rw [List.length_append,List.length_singleton] at hp
      by_cases hpl:p + 1 < f.ps.length
      · rw [getD_lt hpl,getD_lt (by omega)]; exact h.ri p hpl
      · have hpe:p + 1 = f.ps.length:=by omega
        have hne:f.ps ≠ []:=by intro e; rw [e] at hpe; simp at hpe
        have:=h.la (hw hd) hne
        rw [last_getD, ← hpe,Nat.add_sub_cancel] at this
        rw [hpe,getD_at,getD_lt (by omega)]
        exact this
  · refine ⟨h.dep,?_,Nat.zero_le _,?_,fun p hp=>absurd hp (Nat.not_lt_zero _),fun p hp=>absurd hp (Nat.not_lt_zero _),fun e=>by cases e⟩
    · have:=h.ll
      dsimp only; rw [List.length_append,List.length_singleton]; omega
    · dsimp only
      intro p hp
      rw [List.length_append,List.length_singleton] at hp
      by_cases hpl:p < f.ls.length
      · rw [getD_lt hpl]; exact h.lg p hpl
      · rw [show p = f.ls.length by omega,getD_at]; exact hg
theorem oi_deliver {b:List UInt8} {i j:Nat} (hij:i < j) (hj:j ≤ b.length) {st:List Fr} {t:T} (h:SO i st) (hw:AW st) (ht:b.take j = stx st ++ txt t) (hg:Gd t st.length):OI b (deliver st t j):=by
  match st,h,hw,ht,hg with
  | [],_,_,ht,hg=>exact ⟨hj,ht,hg⟩
  | f :: r,h,hw,ht,hg =>
    refine ⟨hj,?_,fo_join hij h.1 hw hg,h.2.1,SO.up (by omega) h.2.2⟩
    rw [ht]
    show stx r ++ f.tx ++ txt t = stx r ++ (f.join t).tx
    rw [join_tx hw,List.append_assoc]
theorem oi_open {b:List UInt8} {i:Nat} (hi:i < b.length) {st:List Fr} (h:SO i st) (hw:AW st) (ht:b.take i = stx st) {d:Bool} {c:UInt8} (hd:st.length < 32) (hc:byt b i = c) (hx:({ d:=d }:Fr).tx = [c]):OI b (.go ({ d:=d } :: st) (i + 1)):=by
  refine ⟨hi,?_,⟨hd,Nat.zero_le _,Nat.zero_le _,fun p hp=>absurd hp (Nat.not_lt_zero _),fun p hp=>absurd hp (Nat.not_lt_zero _),fun p hp=>absurd hp (Nat.not_lt_zero _),fun e=>by cases e⟩,hw,SO.up (by omega) h⟩
  rw [take_one hi,ht,hc]
  show _ = stx st ++ ({ d:=d }:Fr).tx
  rw [hx]
theorem oi_opn {b:List UInt8} {i:Nat} (hi:i < b.length) {st:List Fr} (h:SO i st) (hw:AW st) (ht:b.take i = stx st):OI b (opn b st i):=by
  unfold opn
  split
  · rename_i hc
    split
    · trivial
    · rename_i hd
      exact oi_open hi h hw ht (by omega) hc rfl
  · split
    · rename_i hc
      split
      · trivial
      · rename_i hd
        exact oi_open hi h hw ht (by omega) hc rfl
    · unfold scal
      split
      · rename_i hc
        cases hn:numb b i with
        | bad p e=>trivial
        | ok n j =>
          obtain ⟨h1,h2,h3,h4,h5⟩:=numb_txt hi hc hn
          exact oi_deliver h2 h3 h hw (by rw [h1,ht]) (gd_num h4 h5)
      · split
        · cases hn:strg b i with
          | bad p e=>trivial
          | ok s j =>
            obtain ⟨h1,h2,h3,_⟩:=strg_txt hn
            exact oi_deliver h2 h3 h hw (by rw [h1,ht]; rfl) gd_str
        · trivial
theorem oi_close {b:List UInt8} {i:Nat} (hi:i < b.length) (hlim:b.length ≤ 2147483647) {f:Fr} {r:List Fr} (h:SO i (f :: r)) (ht:b.take i = stx (f :: r)) (hc:byt b i = 101) (hh:f.d = true → f.has = false):OI b (deliver r f.close (i + 1)):=by
  refine oi_deliver (Nat.lt_succ_self i) hi h.2.2 h.2.1 ?_ (gd_close h.1 (by omega))
  rw [take_one hi,ht,hc,close_tx hh]
  show stx r ++ f.tx ++ [101] = _
  rw [List.append_assoc]
theorem oi_step {b:List UInt8} (hlim:b.length ≤ 2147483647) {st:List Fr} {i:Nat} (h:OI b (.go st i)):OI b (step b st i):=by
  obtain ⟨_,ht,hs⟩:=h
  unfold step
  split
  · trivial
  · have hi:i < b.length:=by omega
    match st,ht,hs with
    | [],ht,hs=>exact oi_opn hi hs trivial ht
    | f :: r,ht,hs =>
      dsimp only
      split
      · rename_i hf
        split
        · rename_i hc
          exact oi_close hi hlim hs ht hc fun _=>hf.2
        · unfold keyy
          split
          · trivial
          · cases hn:strg b i with
            | bad p e=>trivial
            | ok s j =>
              obtain ⟨h1,h2,h3,_⟩:=strg_txt hn
              dsimp only
              split
              · trivial
              · rename_i hk
                refine ⟨h3,?_,⟨hs.1.dep,Nat.le_trans hs.1.ll (by omega),Nat.le_trans hs.1.pl (by omega),hs.1.lg,hs.1.pg,hs.1.ri,fun _ hne=>?_⟩,hs.2.1,SO.up (by omega) hs.2.2⟩
                · rw [h1,ht]
                  show stx r ++ f.tx ++ wtx s = stx r ++ _
                  rw [List.append_assoc]
                  congr 1
                  unfold Fr.tx
                  dsimp only
                  rw [if_pos hf.1,if_pos hf.1,if_neg (by rw [hf.2]; decide),if_pos rfl]
                  simp
                · cases hb:leB s (f.ps.getLastD (ByteArray.empty,.no)).1 with
                  | false=>rfl
                  | true=>exact absurd ⟨hne,hb⟩ hk
      · rename_i hf
        split
        · rename_i hc
          exact oi_close hi hlim hs ht hc.2 fun e=>by rw [hc.1] at e; cases e
        · refine oi_opn hi hs (fun e=>?_) ht
          cases hh:f.has with
          | true=>rfl
          | false=>exact absurd ⟨e,hh⟩ hf
theorem oi_run {b:List UInt8} (hlim:b.length ≤ 2147483647) {o q:Out} (h:Run b o q):OI b o → OI b q:=by
  induction h with
  | refl o=>exact fun h=>h
  | more _ ih=>exact fun h=>ih (oi_step hlim h)
theorem run_txt {b:List UInt8} (hlim:b.length ≤ 2147483647) {t:T} {n:Nat} (h:Run b (.go [] 0) (.val t n)):n ≤ b.length∧b.take n = txt t∧Gd t 0:=
  oi_run hlim h ⟨Nat.zero_le _,rfl,trivial⟩
theorem dout_txt {b:List UInt8} {t:T} {k:Nat} (h:DOUT b t k 0):b = txt t∧Gd t 0∧b.length ≤ 1048576:=by
  rcases h with ⟨_,_,hl,n,hr,hn⟩ | ⟨_,⟨e,_⟩ | ⟨hr,_⟩ | ⟨_,_,e⟩⟩
  · obtain ⟨h1,h2,h3⟩:=run_txt (by omega) hr
    refine ⟨?_,h3,hl⟩
    rw [← h2,List.take_of_length_le hn]
  · cases e
  · have:=run_er hr; omega
  · cases e
theorem dec_all (m:Nat):allDig (Lib.decDigits m)∧Lib.decDigits m ≠ []∧dval 0 (Lib.decDigits m) = m∧unp (Lib.decDigits m)∧(1 ≤ m → byt (Lib.decDigits m) 0 ≠ 48):=by
  induction m using Nat.strongRecOn with
  | _ m ih =>
    have tn:∀ k,k < 10 → (UInt8.ofNat (48 + k)).toNat = 48 + k:=fun k hk=>by rw [UInt8.toNat_ofNat',Nat.mod_eq_of_lt (by omega)]
    by_cases h:m < 10
    · rw [Lib.decDigits_one h]
      refine ⟨fun c hc=>?_,by simp,?_,.inl rfl,fun h1 e=>?_⟩
      · rw [List.mem_singleton.1 hc,tn m h]; omega
      · rw [dval_cons,dval_nil,tn m h]; omega
      · have e':(UInt8.ofNat (48 + m)).toNat = 48:=congrArg UInt8.toNat e
        rw [tn m h] at e'; omega
    · obtain ⟨h1,h2,h3,h4,h5⟩:=ih (m / 10) (by omega)
      rw [Lib.decDigits,dif_neg h]
      have hp:=h5 (by omega)
      have hl:=List.length_pos_iff.2 h2
      refine ⟨fun c hc=>?_,by simp,?_,.inr ?_,fun _=>?_⟩
      · rcases List.mem_append.1 hc with hc | hc
        · exact h1 c hc
        · rw [List.mem_singleton.1 hc,tn _ (by omega)]; omega
      · rw [dval_snoc,h3,tn _ (by omega)]; omega
      · rw [byt_app hl]; exact hp
      · rw [byt_app hl]; exact hp
theorem unp_padd {d:List UInt8} (h:unp d):¬ padd d = true:=by
  unfold padd
  rcases h with h | h
  · simp [h]
  · simp [h]
theorem drop_cons {b:List UInt8} {i:Nat} {c:UInt8} {r:List UInt8} (h:b.drop i = c :: r):byt b i = c∧i < b.length∧b.drop (i + 1) = r:=by
  have hi:i < b.length:=by
    rcases Nat.lt_or_ge i b.length with g | g
    · exact g
    · rw [List.drop_eq_nil_of_le g] at h; cases h
  rw [List.drop_eq_getElem_cons hi] at h
  injection h with h1 h2
  refine ⟨?_,hi,h2⟩
  unfold byt; simp [List.getD,List.getElem?_eq_getElem hi,h1]
theorem drop_app {b x y:List UInt8} {i:Nat} (h:b.drop i = x ++ y):b.drop (i + x.length) = y:=by
  rw [← List.drop_drop,h,List.drop_left]
theorem digs_rd {b d r:List UInt8} {en:UInt8} {i:Nat} (h:b.drop i = d ++ en :: r) (ha:allDig d) (hn:d ≠ []) (he:dig en = false):digs b en i = .ok d (i + d.length + 1):=by
  have hr:run b i = d.length:=by
    unfold run
    rw [h,List.takeWhile_append_of_pos (fun c hc=>(dig_iff c).2 (ha c hc)),List.takeWhile_cons_of_neg (by simp [he]),List.append_nil]
  have h2:=drop_cons (drop_app h)
  have hc:cut b i (i + d.length) = d:=by
    unfold cut; rw [h,Nat.add_sub_cancel_left,List.take_left]
  unfold digs
  rw [hr,if_neg (by omega),if_neg (by
    rintro (e | e)
    · exact hn (List.length_eq_zero_iff.1 e)
    · exact e h2.1),hc]
theorem head_dig {b d r:List UInt8} {i:Nat} (h:b.drop i = d ++ r) (ha:allDig d) (hn:d ≠ []):dig (byt b i) = true∧i < b.length:=by
  match d,hn with
  | c :: d',_ =>
    have:=drop_cons h
    rw [this.1]
    exact ⟨(dig_iff c).2 (ha c (by simp)),this.2.1⟩
theorem strg_rd {b r:List UInt8} {s:ByteArray} {i:Nat} (hs:s.size ≤ 140737488351232) (h:b.drop i = wtx s ++ r):strg b i = .ok s (i + (wtx s).length)∧dig (byt b i) = true∧i < b.length:=by
  unfold wtx at h ⊢
  rw [Lib.itoa_nonneg] at h ⊢
  obtain ⟨h1,h2,h3,h4,_⟩:=dec_all s.size
  generalize Lib.decDigits s.size = d at *
  rw [List.append_assoc,List.cons_append] at h
  have hd:=digs_rd (en:=58) h h1 h2 (by decide)
  have hh:=head_dig h h1 h2
  have hr:=(drop_cons (drop_app h)).2.2
  have hlt:=(drop_cons (drop_app h)).2.1
  have hlen:s.data.toList.length = s.size:=by rw [Array.length_toList]; rfl
  have hbl:=congrArg List.length hr
  rw [List.length_drop,List.length_append,hlen] at hbl
  refine ⟨?_,hh⟩
  unfold strg
  rw [hd]
  dsimp only
  rw [if_neg (unp_padd h4),(atoi_pos h1 h2).1 (by omega),h3]
  dsimp only
  rw [if_neg (by omega)]
  have hc:cut b (i + d.length + 1) (i + d.length + 1 + ((s.size:Nat):Int).toNat) = s.data.toList:=by
    unfold cut
    rw [hr,Nat.add_sub_cancel_left,Int.toNat_natCast, ← hlen,List.take_left]
  rw [hc]
  congr 1
  rw [List.length_append,List.length_cons,hlen,Int.toNat_natCast]; omega
theorem numb_rd {b r:List UInt8} {n:Int} {i:Nat} (h0:-9223372036854775808 ≤ n) (h1:n ≤ 9223372036854775807) (h:b.drop i = 105 :: (Lib.itoa n ++ [101]) ++ r) :
    numb b i = .ok n (i + (Lib.itoa n).length + 2)∧byt b i = 105∧i < b.length:=by
  rw [List.cons_append] at h
  obtain ⟨e1,e2,e3⟩:=drop_cons h
  refine ⟨?_,e1,e2⟩
  rw [List.append_assoc] at e3
  by_cases hn:0 ≤ n
  · obtain ⟨u,rfl⟩:∃ u:Nat,n = u:=⟨n.toNat,by omega⟩
    rw [Lib.itoa_nonneg] at e3 ⊢
    obtain ⟨g1,g2,g3,g4,_⟩:=dec_all u
    generalize Lib.decDigits u = d at *
    have hh:=head_dig e3 g1 g2
    have h45:¬ byt b (i + 1) = 45:=fun e=>by rw [e] at hh; exact absurd hh.1 (by decide)
    rw [numb_sg hh.2,if_neg h45]
    have hd:=digs_rd (en:=101) e3 g1 g2 (by decide)
    rw [show i + 1 + ([]:List UInt8).length = i + 1 from rfl,hd]
    dsimp only
    rw [List.nil_append,(atoi_pos g1 g2).1 (by omega),g3]
    dsimp only
    rw [if_neg (by
      rintro (e | e)
      · exact unp_padd g4 e
      · have:=g1 45 (by rw [e]; simp)
        exact absurd this.1 (by decide))]
    congr 1
    omega
  · obtain ⟨u,hu,rfl⟩:∃ u:Nat,1 ≤ u∧n = -(u:Int):=⟨(-n).toNat,by omega,by omega⟩
    rw [Lib.itoa_neg u hu] at e3 ⊢
    obtain ⟨g1,g2,g3,g4,g5⟩:=dec_all u
    generalize Lib.decDigits u = d at *
    rw [List.cons_append] at e3
    obtain ⟨f1,f2,f3⟩:=drop_cons e3
    rw [numb_sg f2,if_pos f1]
    have hd:=digs_rd (en:=101) f3 g1 g2 (by decide)
    rw [show i + 1 + ([45]:List UInt8).length = i + 1 + 1 from rfl,hd]
    dsimp only
    rw [List.singleton_append,(atoi_neg g1 g2).1 (by omega),g3]
    dsimp only
    rw [if_neg (by
      rintro (e | e)
      · exact unp_padd g4 e
      · injection e with _ e
        rw [e] at g3
        have:dval 0 [48] = 0:=rfl
        omega)]
    rw [List.length_cons]
    congr 1
    omega
def lsN {α:Type} (f:Nat → α):Nat → List α
  | 0=>[]
  | n + 1=>lsN f n ++ [f n]
theorem lsN_len {α:Type} (f:Nat → α):∀ n,(lsN f n).length = n
  | 0=>rfl
  | n + 1=>by unfold lsN; rw [List.length_append,lsN_len f n]; rfl
theorem lsN_get {α:Type} (f:Nat → α) (a:α):∀ {n i:Nat},i < n → (lsN f n).getD i a = f i
  | 0,_,h=>absurd h (Nat.not_lt_zero _)
  | n + 1,i,h=>by
    unfold lsN
    by_cases hi:i < n
    · rw [getD_lt (by rw [lsN_len]; exact hi)]; exact lsN_get f a hi
    · have:i = n:=by omega
      subst this
      have:=getD_at (l:=lsN f i) (x:=f i) (a:=a)
      rwa [lsN_len] at this
def nrm:T → T
  | .no=>.no
  | .mk k n s ln l dn ky dv=>if k = 1 then tNum n else if k = 2 then tStr s else if k = 3 then tList (lsN (fun i=>nrm (l i)) ln) else tDict (lsN (fun i=>(ky i,nrm (dv i))) dn)
def T.full:T → Prop
  | .no=>False
  | .mk _ _ _ ln l dn _ dv=>(∀ i,i < ln → (l i).full)∧(∀ i,i < dn → (dv i).full)
theorem fstE_all {f:Nat → Int}:∀ {n:Nat},fstE f n = 0 → ∀ i,i < n → f i = 0
  | 0,_,i,hi=>absurd hi (Nat.not_lt_zero _)
  | n + 1,h,i,hi=>by
    unfold fstE at h
    split at h
    · rename_i h0
      by_cases e:i = n
      · subst e; exact h
      · exact fstE_all h0 i (by omega)
    · rename_i h0; exact absurd h h0
theorem wk_mk {k n:Int} {s:ByteArray} {ln:Nat} {l:Nat → T} {dn:Nat} {ky:Nat → ByteArray} {dv:Nat → T} {ar:Int} (h:wk (.mk k n s ln l dn ky dv) ar = 0) :
    (1 ≤ k∧k ≤ 4∧Own k n s ln dn)∧(3 ≤ k → ar < 32∧(∀ i,i < ln → wk (l i) (ar + 1) = 0)∧∀ i,i < dn → keyBad ky i = false∧wk (dv i) (ar + 1) = 0):=by
  unfold wk at h
  split at h
  · cases h
  · rename_i ho
    have hO:=(ownB_iff k n s ln dn).1 (by revert ho; cases ownB k n s ln dn <;> simp)
    refine ⟨hO,fun hk=>?_⟩
    rw [if_neg (by omega)] at h
    split at h
    · cases h
    · rename_i ha
      split at h
      · rename_i hf; exact absurd h hf
      · rename_i hf
        have hf0:=Classical.not_not.1 hf
        refine ⟨by omega,fstE_all hf0,fun i hi=>?_⟩
        have:=fstE_all h i hi
        split at this
        · cases this
        · rename_i hb
          exact ⟨by revert hb; cases keyBad ky i <;> simp,this⟩
theorem step_opn {b:List UInt8} {st:List Fr} {i:Nat} (hi:i < b.length) (hw:AW st) (h101:byt b i ≠ 101):step b st i = opn b st i:=by
  unfold step
  rw [if_neg (by omega)]
  match st,hw with
  | [],_=>rfl
  | f :: r,hw =>
    dsimp only
    rw [if_neg (fun h=>by have:=hw h.1; rw [this] at h; cases h.2),if_neg (fun h=>h101 h.2)]
theorem catN_split {g:Nat → List UInt8} {j:Nat}:∀ {n:Nat},j < n → ∃ z,catN g n = catN g j ++ (g j ++ z)
  | 0,h=>absurd h (Nat.not_lt_zero _)
  | n + 1,h=>by
    by_cases e:j = n
    · subst e; exact ⟨[],by rw [catN,List.append_nil]⟩
    · obtain ⟨z,hz⟩:=catN_split (g:=g) (j:=j) (n:=n) (by omega)
      exact ⟨z ++ g n,by rw [catN,hz]; simp⟩
def RDS (t:T):Prop:=∀ (b r:List UInt8) (st:List Fr) (i:Nat),wk t st.length = 0 → t.full → t.rng → t.ok → AW st → b.drop i = txt t ++ r → Run b (.go st i) (deliver st (nrm t) (i + (txt t).length))
theorem reads (t:T):RDS t:=by
  induction t with
  | no=>intro b r st i _ h; exact h.elim
  | mk k n s ln l dn ky dv il id =>
    intro b r st i hw hf hr hk haw hx
    obtain ⟨⟨k1,k4,_⟩,hc⟩:=wk_mk hw
    obtain ⟨r1,r2,_,_,r5,r6⟩:=hr
    obtain ⟨o1,_,_,o4,o5⟩:=hk
    by_cases e1:k = 1
    · subst e1
      have ht:txt (.mk 1 n s ln l dn ky dv) = 105 :: (Lib.itoa n ++ [101]):=rfl
      have hn:nrm (.mk 1 n s ln l dn ky dv) = tNum n:=rfl
      rw [ht] at hx
      obtain ⟨h1,h2,h3⟩:=numb_rd r1 r2 hx
      refine .one ?_
      rw [step_opn h3 haw (by rw [h2]; decide),ht,hn]
      unfold opn scal
      rw [if_neg (by rw [h2]; decide),if_neg (by rw [h2]; decide),if_pos h2,h1]
      dsimp only
      congr 1
      simp; omega
    · by_cases e2:k = 2
      · subst e2
        have ht:txt (.mk 2 n s ln l dn ky dv) = wtx s:=rfl
        have hn:nrm (.mk 2 n s ln l dn ky dv) = tStr s:=rfl
        rw [ht] at hx
        obtain ⟨h1,h2,h3⟩:=strg_rd o1 hx
        have hne:∀ c,dig c = false → byt b i ≠ c:=fun c hc e=>by rw [e,hc] at h2; cases h2
        refine .one ?_
        rw [step_opn h3 haw (hne _ (by decide)),ht,hn]
        unfold opn scal
        rw [if_neg (hne _ (by decide)),if_neg (hne _ (by decide)),if_neg (hne _ (by decide)),if_pos h2,h1]
      · obtain ⟨hd,cl,cd⟩:=hc (by omega)
        by_cases e3:k = 3
        · subst e3
          have ht:txt (.mk 3 n s ln l dn ky dv) = 108 :: (catN (fun i=>txt (l i)) ln ++ [101]):=rfl
          have hn:nrm (.mk 3 n s ln l dn ky dv) = tList (lsN (fun i=>nrm (l i)) ln):=rfl
          rw [ht,List.cons_append] at hx
          obtain ⟨h1,h2,h3⟩:=drop_cons hx
          rw [List.append_assoc] at h3
          have ho:step b st i = .go ({ d:=false } :: st) (i + 1):=by
            rw [step_opn h2 haw (by rw [h1]; decide)]
            unfold opn
            rw [if_pos h1,if_neg (by omega)]
          have hloop:∀ j,j ≤ ln → Run b (.go ({ d:=false } :: st) (i + 1)) (.go ({ d:=false,ls:=lsN (fun i=>nrm (l i)) j } :: st) (i + 1 + (catN (fun i=>txt (l i)) j).length)):=by
            intro j
            induction j with
            | zero=>exact fun _=>.refl _
            | succ j ih =>
              intro hj
              refine (ih (by omega)).trans ?_
              obtain ⟨z,hz⟩:=catN_split (g:=fun i=>txt (l i)) (j:=j) (n:=ln) (by omega)
              rw [hz,List.append_assoc] at h3
              have h4:=drop_app h3
              rw [List.append_assoc] at h4
              have:=il j b _ ({ d:=false,ls:=lsN (fun i=>nrm (l i)) j } :: st) _ (cl j (by omega)) (hf.1 j (by omega)) (r5 j (by omega)) (o4 j (by omega)) (fun e=>by cases e) h4
              rw [catN,List.length_append, ← Nat.add_assoc]
              exact this
          refine (Run.one ho).trans ((hloop ln (Nat.le_refl _)).trans (.one ?_))
          have h5:=drop_cons (drop_app h3)
          unfold step
          rw [if_neg (by omega)]
          dsimp only
          rw [if_neg (by simp),if_pos ⟨rfl,h5.1⟩,hn,ht]
          unfold Fr.close
          rw [if_neg (by simp)]
          dsimp only
          congr 1
          simp; omega
        · obtain rfl:k = 4:=by omega
          have ht:txt (.mk 4 n s ln l dn ky dv) = 100 :: (catN (fun i=>wtx (ky i) ++ txt (dv i)) dn ++ [101]):=rfl
          have hn:nrm (.mk 4 n s ln l dn ky dv) = tDict (lsN (fun i=>(ky i,nrm (dv i))) dn):=rfl
          rw [ht,List.cons_append] at hx
          obtain ⟨h1,h2,h3⟩:=drop_cons hx
          rw [List.append_assoc] at h3
          have ho:step b st i = .go ({ d:=true } :: st) (i + 1):=by
            rw [step_opn h2 haw (by rw [h1]; decide)]
            unfold opn
            rw [if_neg (by rw [h1]; decide),if_pos h1,if_neg (by omega)]
          have hloop:∀ j,j ≤ dn → Run b (.go ({ d:=true } :: st) (i + 1)) (.go ({ d:=true,ps:=lsN (fun i=>(ky i,nrm (dv i))) j } :: st) (i + 1 + (catN (fun i=>wtx (ky i) ++ txt (dv i)) j).length)):=by
            intro j
            induction j with
            | zero=>exact fun _=>.refl _
            | succ j ih =>
              intro hj
              refine (ih (by omega)).trans ?_
              obtain ⟨z,hz⟩:=catN_split (g:=fun i=>wtx (ky i) ++ txt (dv i)) (j:=j) (n:=dn) (by omega)
              rw [hz,List.append_assoc] at h3
              have h4:=drop_app h3
              rw [List.append_assoc,List.append_assoc] at h4
              obtain ⟨s1,s2,s3⟩:=strg_rd (o5 j (by omega)).1 h4
              have hne:∀ c,dig c = false → byt b (i + 1 + (catN (fun i=>wtx (ky i) ++ txt (dv i)) j).length) ≠ c:=fun c hc e=>by rw [e,hc] at s2; cases s2
              have hkey:step b ({ d:=true,ps:=lsN (fun i=>(ky i,nrm (dv i))) j } :: st) (i + 1 + (catN (fun i=>wtx (ky i) ++ txt (dv i)) j).length) = .go ({ d:=true,ps:=lsN (fun i=>(ky i,nrm (dv i))) j,key:=ky j,has:=true } :: st) (i + 1 + (catN (fun i=>wtx (ky i) ++ txt (dv i)) j).length + (wtx (ky j)).length):=by
                unfold step
                rw [if_neg (by omega)]
                dsimp only
                rw [if_pos ⟨rfl,rfl⟩,if_neg (hne _ (by decide))]
                unfold keyy
                rw [if_neg (by rw [s2]; decide),s1]
                dsimp only
                rw [if_neg]
                rintro ⟨g1,g2⟩
                match j,g1,g2 with
                | 0,g1,_=>exact g1 rfl
                | q + 1,_,g2 =>
                  rw [last_getD,lsN_len,Nat.add_sub_cancel,lsN_get _ _ (Nat.lt_succ_self q)] at g2
                  have:=(cd (q + 1) (by omega)).1
                  rw [show keyBad ky (q + 1) = leB (ky (q + 1)) (ky q) from rfl,g2] at this
                  cases this
              refine (Run.one hkey).trans ?_
              have h5:=drop_app h4
              have:=id j b _ ({ d:=true,ps:=lsN (fun i=>(ky i,nrm (dv i))) j,key:=ky j,has:=true } :: st) _ (cd j (by omega)).2 (hf.2 j (by omega)) (r6 j (by omega)) (o5 j (by omega)).2 (fun _=>rfl) h5
              rw [catN,List.length_append,List.length_append, ← Nat.add_assoc, ← Nat.add_assoc]
              exact this
          refine (Run.one ho).trans ((hloop dn (Nat.le_refl _)).trans (.one ?_))
          have h5:=drop_cons (drop_app h3)
          unfold step
          rw [if_neg (by omega)]
          dsimp only
          rw [if_pos ⟨rfl,rfl⟩,if_pos h5.1,hn,ht]
          unfold Fr.close
          rw [if_pos rfl]
          dsimp only
          congr 1
          simp; omega
structure Sp where
  kind:Int:=0
  fr:Nat:=0
  to:Nat:=0
  dep:Nat:=0
  up:Int:=-1
  nth:Nat:=0
  key:ByteArray:=ByteArray.empty
def kids (g:Nat → Nat → List Sp):Nat → List Sp
  | 0=>[]
  | n + 1=>kids g n ++ g n (kids g n).length
theorem kids_congr {g h:Nat → Nat → List Sp}:∀ {n:Nat},(∀ i m,i < n → g i m = h i m) → kids g n = kids h n
  | 0,_=>rfl
  | n + 1,e=>by unfold kids; rw [kids_congr (fun i m hi=>e i m (by omega)),e n _ (by omega)]
def walkT:T → Nat → Sp → List Sp
  | .no=>fun _ _=>[]
  | .mk k n s ln l dn ky dv=>fun here sp =>
    { sp with kind:=k,to:=sp.fr + (txt (.mk k n s ln l dn ky dv)).length } ::
      (kids (fun i m=>walkT (l i) (here + 1 + m) { fr:=sp.fr + 1 + (catN (fun i=>txt (l i)) i).length,dep:=sp.dep + 1,up:=here,nth:=i }) ln ++
       kids (fun i m=>walkT (dv i) (here + 1 + (kids (fun i m=>walkT (l i) (here + 1 + m) { fr:=sp.fr + 1 + (catN (fun i=>txt (l i)) i).length,dep:=sp.dep + 1,up:=here,nth:=i }) ln).length + m)
         { fr:=sp.fr + 1 + (catN (fun i=>txt (l i)) ln).length + (catN (fun i=>wtx (ky i) ++ txt (dv i)) i).length + (wtx (ky i)).length,dep:=sp.dep + 1,up:=here,nth:=i,key:=ky i }) dn)
def Fr.kidsP (ps:List (ByteArray × T)) (here:Nat) (sp:Sp):List Sp:=
  kids (fun i m=>walkT (ps.getD i (ByteArray.empty,.no)).2 (here + 1 + m)
    { fr:=sp.fr + 1 + (catN (fun i=>wtx (ps.getD i (ByteArray.empty,.no)).1 ++ txt (ps.getD i (ByteArray.empty,.no)).2) i).length + (wtx (ps.getD i (ByteArray.empty,.no)).1).length,dep:=sp.dep + 1,up:=here,nth:=i,key:=(ps.getD i (ByteArray.empty,.no)).1 }) ps.length
def Fr.kidsL (ls:List T) (here:Nat) (sp:Sp):List Sp:=
  kids (fun i m=>walkT (ls.getD i .no) (here + 1 + m) { fr:=sp.fr + 1 + (catN (fun i=>txt (ls.getD i .no)) i).length,dep:=sp.dep + 1,up:=here,nth:=i }) ls.length
def Fr.kd (f:Fr):Int:=if f.d = true then 4 else 3
def Fr.num (f:Fr):Nat:=if f.d = true then f.ps.length else f.ls.length
def Fr.ky (f:Fr):ByteArray:=if f.d = true then f.key else ByteArray.empty
def Fr.rest (f:Fr) (here:Nat) (sp:Sp):List Sp:=if f.d = true then Fr.kidsP f.ps here sp else Fr.kidsL f.ls here sp
def Fr.sps (f:Fr) (here:Nat) (sp:Sp):List Sp:={ sp with kind:=f.kd,to:=0 } :: f.rest here sp
def due:List Fr → Int → Nat → Sp
  | [],_,i=>{ fr:=i }
  | f :: r,up,i=>{ fr:=i,dep:=r.length + 1,up:=up,nth:=f.num,key:=f.ky }
def stS:List Fr → List Sp × Int
  | []=>([], -1)
  | f :: r=>((stS r).1 ++ f.sps (stS r).1.length (due r (stS r).2 (stx r).length),(stS r).1.length)
def dueS (st:List Fr):Sp:=due st (stS st).2 (stx st).length
theorem walkT_list (l:List T) (here:Nat) (sp:Sp):walkT (tList l) here sp = { sp with kind:=3,to:=sp.fr + (txt (tList l)).length } :: Fr.kidsL l here sp:=by
  show _ :: (_ ++ []) = _
  rw [List.append_nil]; rfl
theorem walkT_dict (l:List (ByteArray × T)) (here:Nat) (sp:Sp):walkT (tDict l) here sp = { sp with kind:=4,to:=sp.fr + (txt (tDict l)).length } :: Fr.kidsP l here sp:=by
  show _ :: ([] ++ kids _ _) = _
  rw [List.nil_append]; rfl
theorem close_sps (f:Fr) (here:Nat) (sp:Sp):walkT f.close here sp = { sp with kind:=f.kd,to:=sp.fr + (txt f.close).length } :: f.rest here sp:=by
  unfold Fr.close Fr.kd Fr.rest
  by_cases hd:f.d = true
  · simp only [if_pos hd]; exact walkT_dict ..
  · simp only [if_neg hd]; exact walkT_list ..
theorem join_sps {f:Fr} {t:T} (h:f.d = true → f.has = true) (here i dep:Nat) (sp:Sp) (hi:i = sp.fr + f.tx.length) (hdep:sp.dep = dep) :
    (f.join t).sps here sp = f.sps here sp ++ walkT t (here + (f.sps here sp).length) { fr:=i,dep:=dep + 1,up:=here,nth:=f.num,key:=f.ky }:=by
  unfold Fr.sps Fr.join Fr.kd Fr.rest Fr.num Fr.ky Fr.tx at *
  subst hdep
  by_cases hd:f.d = true
  · simp only [if_pos hd,if_pos (h hd), ↓reduceIte] at hi ⊢
    rw [List.cons_append]
    congr 1
    unfold Fr.kidsP
    rw [List.length_append,List.length_singleton,kids,getD_at]
    rw [kids_congr (h:=fun i m=>walkT (f.ps.getD i (ByteArray.empty,.no)).2 (here + 1 + m)
      { fr:=sp.fr + 1 + (catN (fun i=>wtx (f.ps.getD i (ByteArray.empty,.no)).1 ++ txt (f.ps.getD i (ByteArray.empty,.no)).2) i).length + (wtx (f.ps.getD i (ByteArray.empty,.no)).1).length,dep:=sp.dep + 1,up:=here,nth:=i,key:=(f.ps.getD i (ByteArray.empty,.no)).1 })
      (fun i m hi=>by
        rw [getD_lt hi,catN_congr (f:=fun i=>wtx ((f.ps ++ [(f.key,t)]).getD i (ByteArray.empty,.no)).1 ++ txt ((f.ps ++ [(f.key,t)]).getD i (ByteArray.empty,.no)).2) (g:=fun i=>wtx (f.ps.getD i (ByteArray.empty,.no)).1 ++ txt (f.ps.getD i (ByteArray.empty,.no)).2) (fun j hj=>by rw [getD_lt (by omega)])])]
    congr 1
    rw [catN_congr (f:=fun i=>wtx ((f.ps ++ [(f.key,t)]).getD i (ByteArray.empty,.no)).1 ++ txt ((f.ps ++ [(f.key,t)]).getD i (ByteArray.empty,.no)).2) (g:=fun i=>wtx (f.ps.getD i (ByteArray.empty,.no)).1 ++ txt (f.ps.getD i (ByteArray.empty,.no)).2) (fun j hj=>by rw [getD_lt (by omega)])]
    rw [List.length_cons]
    congr 1
    · omega
    · congr 1
      rw [hi,List.length_cons,List.length_append]; dsimp only; omega
  · simp only [if_neg hd,Bool.false_eq_true, ↓reduceIte] at hi ⊢
    rw [List.cons_append]
    congr 1
    unfold Fr.kidsL
    rw [List.length_append,List.length_singleton,kids,getD_at]
    rw [kids_congr (h:=fun i m=>walkT (f.ls.getD i .no) (here + 1 + m) { fr:=sp.fr + 1 + (catN (fun i=>txt (f.ls.getD i .no)) i).length,dep:=sp.dep + 1,up:=here,nth:=i })
      (fun i m hi=>by
        rw [getD_lt hi,catN_congr (f:=fun i=>txt ((f.ls ++ [t]).getD i .no)) (g:=fun i=>txt (f.ls.getD i .no)) (fun j hj=>by rw [getD_lt (by omega)])])]
    congr 1
    rw [catN_congr (f:=fun i=>txt ((f.ls ++ [t]).getD i .no)) (g:=fun i=>txt (f.ls.getD i .no)) (fun j hj=>by rw [getD_lt (by omega)])]
    rw [List.length_cons]
    congr 1
    · omega
    · congr 1
      rw [hi,List.length_cons]; omega
theorem due_dep (st:List Fr) (u:Int) (i:Nat):(due st u i).dep = st.length:=by cases st <;> rfl
theorem due_fr (st:List Fr) (u:Int) (i:Nat):(due st u i).fr = i:=by cases st <;> rfl
theorem stS_join {f:Fr} {r:List Fr} {t:T} (h:f.d = true → f.has = true) :
    (stS (f.join t :: r)).1 = (stS (f :: r)).1 ++ walkT t (stS (f :: r)).1.length (dueS (f :: r)):=by
  show (stS r).1 ++ (f.join t).sps _ _ = ((stS r).1 ++ f.sps _ _) ++ walkT t ((stS r).1 ++ f.sps _ _).length _
  rw [join_sps h _ (stx (f :: r)).length r.length _ (by rw [due_fr]; show (stx r ++ f.tx).length = _; rw [List.length_append]) (due_dep ..),List.append_assoc,List.length_append]
  rfl
def endS (f:Fr) (r:List Fr):Sp:={ dueS r with kind:=f.kd,to:=(stx r).length + (txt f.close).length }
theorem stS_close {f:Fr} {r:List Fr}:(stS r).1 ++ walkT f.close (stS r).1.length (dueS r) = (stS r).1 ++ endS f r :: f.rest (stS r).1.length (dueS r):=by
  rw [close_sps]
  congr 2
  simp only [endS,dueS,due_fr]
theorem stS_top {f:Fr} {r:List Fr}:(stS (f :: r)).1 = (stS r).1 ++ { dueS r with kind:=f.kd,to:=0 } :: f.rest (stS r).1.length (dueS r):=rfl
theorem stS_open {d:Bool} {r:List Fr}:(stS ({ d:=d } :: r)).1 = (stS r).1 ++ [{ dueS r with kind:=(if d = true then 4 else 3),to:=0 }]:=by
  rw [stS_top]
  cases d <;> rfl
theorem walkT_num (n:Int) (here:Nat) (sp:Sp):walkT (tNum n) here sp = [{ sp with kind:=1,to:=sp.fr + (txt (tNum n)).length }]:=rfl
theorem walkT_str (s:ByteArray) (here:Nat) (sp:Sp):walkT (tStr s) here sp = [{ sp with kind:=2,to:=sp.fr + (txt (tStr s)).length }]:=rfl
def Pc.up {α:Type} (i:Nat):Pc α → Pc α
  | .ok a j=>.ok a (i + j)
  | .bad p e=>.bad (i + p) e
theorem run_drop (b:List UInt8) (i k:Nat):run (b.drop i) k = run b (i + k):=by unfold run; rw [List.drop_drop]
theorem bytDrop (b:List UInt8) (i k:Nat):byt (b.drop i) k = byt b (i + k):=by
  unfold byt; simp [List.getD,List.getElem?_drop]
theorem cut_drop (b:List UInt8) (i j k:Nat):cut (b.drop i) j k = cut b (i + j) (i + k):=by
  unfold cut; rw [List.drop_drop,show i + k - (i + j) = k - j by omega]
theorem digs_drop {b:List UInt8} {i:Nat} (h:i ≤ b.length) (en:UInt8) (k:Nat):digs b en (i + k) = (digs (b.drop i) en k).up i:=by
  unfold digs
  rw [run_drop,bytDrop,cut_drop,List.length_drop]
  by_cases h1:b.length ≤ i + k + run b (i + k)
  · rw [if_pos h1,if_pos (show b.length - i ≤ k + run b (i + k) by omega)]
    show _ = Pc.bad _ _
    rw [show i + (b.length - i) = b.length by omega]
  · rw [if_neg h1,if_neg (show ¬ b.length - i ≤ k + run b (i + k) by omega),show i + (k + run b (i + k)) = i + k + run b (i + k) by omega]
    split
    · show _ = Pc.bad _ _
      rw [show i + (k + run b (i + k)) = i + k + run b (i + k) by omega]
    · show _ = Pc.ok _ _
      rw [show i + (k + run b (i + k) + 1) = i + k + run b (i + k) + 1 by omega]
theorem strg_drop {b:List UInt8} {i:Nat} (h:i ≤ b.length) (k:Nat):strg b (i + k) = (strg (b.drop i) k).up i:=by
  unfold strg
  rw [digs_drop h]
  cases hd:digs (b.drop i) 58 k with
  | bad p e=>rfl
  | ok d j =>
    show (if padd d = true then Pc.bad (i + k) 23 else _) = Pc.up i (if padd d = true then _ else _)
    split
    · rfl
    · cases hn:Lib.atoiAll d with
      | ok n =>
        dsimp only
        rw [List.length_drop,cut_drop]
        have e1:((b.length - i:Nat):Int) - (j:Int) = (b.length:Int) - ((i + j:Nat):Int):=by omega
        rw [e1,Nat.add_assoc]
        split
        · show _ = Pc.bad _ _
          rw [show i + (b.length - i) = b.length by omega]
        · rfl
      | _ =>
        show _ = Pc.bad _ _
        rw [List.length_drop,show i + (b.length - i) = b.length by omega]
theorem numb_drop {b:List UInt8} {i:Nat} (h:i ≤ b.length) (k:Nat):numb b (i + k) = (numb (b.drop i) k).up i:=by
  unfold numb
  rw [List.length_drop]
  by_cases h1:b.length ≤ i + k + 1
  · rw [if_pos h1,if_pos (show b.length - i ≤ k + 1 by omega)]
    show _ = Pc.bad _ _
    rw [show i + (b.length - i) = b.length by omega]
  · rw [if_neg h1,if_neg (show ¬ b.length - i ≤ k + 1 by omega),bytDrop,Nat.add_assoc i k 1]
    generalize (if byt b (i + (k + 1)) = 45 then [45] else ([]:List UInt8)) = sg
    dsimp only
    rw [Nat.add_assoc i (k + 1),digs_drop h]
    cases hd:digs (b.drop i) 101 (k + 1 + sg.length) with
    | bad p e=>rfl
    | ok d j =>
      show (match Lib.atoiAll (sg ++ d) with | .ok n=>_ | _=>_) = Pc.up i (match Lib.atoiAll (sg ++ d) with | .ok n=>_ | _=>_)
      cases hn:Lib.atoiAll (sg ++ d) with
      | ok n =>
        dsimp only
        split <;> rfl
      | _=>rfl
def leafO (b:List UInt8) (i:Nat):Out:=step (b.drop i) [] 0
theorem byt_end {b:List UInt8} {i:Nat} (h:b.length ≤ i):byt b i = 0:=by
  unfold byt; rw [List.getD,List.getElem?_eq_none h]; rfl
theorem leaf_eq {b:List UInt8} {i:Nat} (hi:i < b.length) (h1:byt b i ≠ 108) (h2:byt b i ≠ 100):leafO b i = scal (b.drop i) [] 0:=by
  unfold leafO step
  rw [List.length_drop,if_neg (by omega)]
  show opn (b.drop i) [] 0 = _
  unfold opn
  rw [bytDrop,Nat.add_zero,if_neg h1,if_neg h2]
theorem leaf_end {b:List UInt8} {i:Nat} (hi:b.length ≤ i):leafO b i = .bad 0 21:=by
  unfold leafO step
  rw [List.length_drop,if_pos (by omega),show b.length - i = 0 by omega]
theorem scal_drop {b:List UInt8} {i:Nat} (h:i ≤ b.length) (st:List Fr) :
    scal b st i = match scal (b.drop i) [] 0 with | .val t j=>deliver st t (i + j) | .bad p e=>.bad (i + p) e | .go _ _=>.go [] 0:=by
  unfold scal
  rw [bytDrop,Nat.add_zero]
  have hn:=numb_drop h 0
  have hs:=strg_drop h 0
  rw [Nat.add_zero] at hn hs
  rw [hn,hs]
  split
  · cases numb (b.drop i) 0 <;> rfl
  · split
    · cases strg (b.drop i) 0 <;> rfl
    · rfl
theorem scal_fin (b:List UInt8):(scal b [] 0).fin:=by
  unfold scal
  split
  · cases numb b 0 <;> trivial
  · split
    · cases strg b 0 <;> trivial
    · trivial
theorem leaf_fin {b:List UInt8} {i:Nat} (h1:byt b i ≠ 108) (h2:byt b i ≠ 100):(leafO b i).fin:=by
  by_cases hi:i < b.length
  · rw [leaf_eq hi h1 h2]; exact scal_fin _
  · rw [leaf_end (by omega)]; trivial
theorem leaf_run {b:List UInt8} {i:Nat} (h1:byt b i ≠ 108) (h2:byt b i ≠ 100) {o:Out} (h:Run (b.drop i) (.go [] 0) o) (ho:o.fin):o = leafO b i:=
  Run.unique h (Run.one rfl) ho (leaf_fin h1 h2)
def Waits (b:List UInt8) (st:List Fr) (i:Nat):Prop:=∀ f r,st = f :: r → (f.d = true → f.has = true)∧(f.d = false → byt b i ≠ 101)
theorem waits_nil (b:List UInt8) (i:Nat):Waits b [] i:=fun _ _ e=>by cases e
theorem step_waits {b:List UInt8} {st:List Fr} {i:Nat} (hi:i < b.length) (h:Waits b st i):step b st i = opn b st i:=by
  unfold step
  rw [if_neg (by omega)]
  match st,h with
  | [],_=>rfl
  | f :: r,h =>
    obtain ⟨h1,h2⟩:=h f r rfl
    dsimp only
    rw [if_neg (fun e=>by rw [h1 e.1] at e; cases e.2),if_neg (fun e=>h2 e.1 e.2)]
theorem step_leaf {b:List UInt8} {st:List Fr} {i:Nat} (hi:i ≤ b.length) (h:Waits b st i) (h1:byt b i ≠ 108) (h2:byt b i ≠ 100) :
    step b st i = match leafO b i with | .val t j=>deliver st t (i + j) | .bad p e=>.bad (i + p) e | .go _ _=>.go [] 0:=by
  by_cases hl:i < b.length
  · rw [leaf_eq hl h1 h2,step_waits hl h]
    unfold opn
    rw [if_neg h1,if_neg h2]
    exact scal_drop hi st
  · rw [leaf_end (by omega)]
    unfold step
    rw [if_pos (by omega)]
    show _ = Out.bad (i + 0) 21
    rw [show i + 0 = b.length by omega]
theorem sx_list {b:List UInt8} {st:List Fr} {i:Nat} (hi:i < b.length) (h:Waits b st i) (h1:byt b i = 108) :
    step b st i = if 32 ≤ st.length then .bad i 24 else .go ({ d:=false } :: st) (i + 1):=by
  rw [step_waits hi h]; unfold opn; rw [if_pos h1]
theorem sx_dict {b:List UInt8} {st:List Fr} {i:Nat} (hi:i < b.length) (h:Waits b st i) (h1:byt b i = 100) :
    step b st i = if 32 ≤ st.length then .bad i 24 else .go ({ d:=true } :: st) (i + 1):=by
  rw [step_waits hi h]; unfold opn; rw [if_neg (by rw [h1]; decide),if_pos h1]
theorem sx_end {b:List UInt8} {f:Fr} {r:List Fr} {i:Nat} (hi:i < b.length) (h:f.d = true → f.has = false) (h1:byt b i = 101) :
    step b (f :: r) i = deliver r f.close (i + 1):=by
  unfold step
  rw [if_neg (by omega)]
  dsimp only
  cases hd:f.d with
  | true=>rw [if_pos ⟨rfl,h hd⟩,if_pos h1]
  | false=>rw [if_neg (fun e=>by cases e.1),if_pos ⟨rfl,h1⟩]
theorem sx_key {b:List UInt8} {f:Fr} {r:List Fr} {i:Nat} (hi:i ≤ b.length) (hd:f.d = true) (hh:f.has = false) (h0:byt b i ≠ 101) (h1:byt b i ≠ 108) (h2:byt b i ≠ 100) (h3:byt b i ≠ 105) :
    step b (f :: r) i = match leafO b i with
      | .val t j=>if f.ps ≠ []∧leB t.s (f.ps.getLastD (ByteArray.empty,.no)).1 = true then .bad i 25 else .go ({ f with key:=t.s,has:=true } :: r) (i + j)
      | .bad p e=>.bad (i + p) e | .go _ _=>.go [] 0:=by
  by_cases hl:i < b.length
  · rw [leaf_eq hl h1 h2]
    unfold step
    rw [if_neg (by omega)]
    dsimp only
    rw [if_pos ⟨hd,hh⟩,if_neg h0]
    unfold keyy scal
    rw [bytDrop,Nat.add_zero,if_neg h3]
    have hs:=strg_drop hi 0
    rw [Nat.add_zero] at hs
    rw [hs]
    cases dig (byt b i) with
    | false=>rfl
    | true =>
      cases strg (b.drop i) 0 <;> rfl
  · rw [leaf_end (by omega)]
    unfold step
    rw [if_pos (by omega)]
    show _ = Out.bad (i + 0) 21
    rw [show i + 0 = b.length by omega]
structure SR (B rb:Nat) (w:World) (a:Option Addr) (c:Nat) (b:List UInt8) (i n:Nat) (ov:Value) (k:Nat) (us:List Value):Prop where
  bk:blk w rb 78 #[.slice a b.length c,.int .i64 i,.int .i64 n,ov]
  own:w.ownsRow B 98 12 ov k us
  low:B ≤ rb
  ne:ov.ownBlock ≠ some rb
  le:i ≤ b.length
  lim:b.length ≤ 1048576
  cap:b.length ≤ c
  tx:b = [] ∨ ∃ g o,a = some ⟨g,o,none⟩∧g < B∧∀ j,j < b.length → w.cell? ⟨g,o + j,none⟩ = some (.int .u8 ((byt b j).toNat:Int))
  ev:EVw w
  evB:4 < B
theorem SR.keep {B rb:Nat} {w w':World} {a:Option Addr} {c:Nat} {b:List UInt8} {i n:Nat} {ov:Value} {k:Nat} {us:List Value} (h:SR B rb w a c b i n ov k us) (hb:Below w.heap.size w w'):SR B rb w' a c b i n ov k us where
  bk:=h.bk.keep (hb.block _ h.bk.lt)
  own:=own_keep h.own (fun x _ hx=>hb.block x hx)
  low:=h.low
  ne:=h.ne
  le:=h.le
  lim:=h.lim
  cap:=h.cap
  tx:=by
    rcases h.tx with e | ⟨g,o,h1,h2,h3⟩
    · exact .inl e
    · exact .inr ⟨g,o,h1,h2,fun j hj=>(hb.cell (World.block_lt_of_cell? w _ (h3 j hj))).trans (h3 j hj)⟩
  ev:=h.ev.keep hb
  evB:=h.evB
theorem SR.cells {B rb:Nat} {w:World} {a:Option Addr} {c:Nat} {b:List UInt8} {i n:Nat} {ov:Value} {k:Nat} {us:List Value} (h:SR B rb w a c b i n ov k us) :
    w.cell? ⟨rb,0,none⟩ = some (.slice a b.length c)∧w.cell? ⟨rb,1,none⟩ = some (.int .i64 i)∧w.cell? ⟨rb,2,none⟩ = some (.int .i64 n)∧w.cell? ⟨rb,3,none⟩ = some ov∧w.frozen? ⟨rb,1,none⟩ = false∧w.frozen? ⟨rb,2,none⟩ = false∧w.frozen? ⟨rb,3,none⟩ = false:=
  ⟨h.bk.cell 0,h.bk.cell 1,h.bk.cell 2,h.bk.cell 3,h.bk.frozen 1,h.bk.frozen 2,h.bk.frozen 3⟩
theorem SR.set {B rb:Nat} {w:World} {a:Option Addr} {c:Nat} {b:List UInt8} {i n:Nat} {ov:Value} {k:Nat} {us:List Value} (h:SR B rb w a c b i n ov k us) {o:Nat} {u:Value} {i' n':Nat} (hi:i' ≤ b.length)
    (he:#[.slice a b.length c,.int .i64 i,.int .i64 n,ov].setIfInBounds o u = #[.slice a b.length c,.int .i64 i',.int .i64 n',ov]):SR B rb (w.setCell ⟨rb,o,none⟩ u) a c b i' n' ov k us where
  bk:=he ▸ h.bk.set o u
  own:=by
    refine ⟨h.own.1,?_⟩
    rcases h.own.2 with e | ⟨g,cap,cur,q1,q2,q3,q4⟩
    · exact .inl e
    · exact .inr ⟨g,cap,cur,q1,q2,(Below.heap_setCell _ _ _ _ (fun e=>h.ne (by rw [q1]; show some g = some rb; rw [show g = rb from e]))).trans q3,q4⟩
  low:=h.low
  ne:=h.ne
  le:=hi
  lim:=h.lim
  cap:=h.cap
  tx:=by
    rcases h.tx with e | ⟨g,o',h1,h2,h3⟩
    · exact .inl e
    · exact .inr ⟨g,o',h1,h2,fun j hj=>(World.cell?_of_block (w:=w) (Below.heap_setCell _ _ _ _ (by have:=h.low; show g ≠ rb; omega))).trans (h3 j hj)⟩
  ev:=by
    obtain ⟨⟨t,p,h1⟩,⟨t',p',h2⟩⟩:=h.ev
    have:=h.low; have:=h.evB
    exact ⟨⟨t,p,(World.cell?_of_block (w:=w) (Below.heap_setCell _ _ _ _ (by show (3:Nat) ≠ rb; omega))).trans h1⟩,⟨t',p',(World.cell?_of_block (w:=w) (Below.heap_setCell _ _ _ _ (by show (4:Nat) ≠ rb; omega))).trans h2⟩⟩
  evB:=h.evB
set_option maxHeartbeats 1000000 in
theorem next41 {B rb:Nat} {w:World} {a:Option Addr} {c:Nat} {b:List UInt8} {i n:Nat} {ov:Value} {k:Nat} {us:List Value} (h:SR B rb w a c b i n ov k us) :
    Calls Tryz.prog 48 #[.pointer (some ⟨rb,0,none⟩)] w fun e w'=>e = .returned (.int .u8 ((byt b i).toNat:Int))∧Below w.heap.size w w':=by
  obtain ⟨c0,c1,_⟩:=h.cells
  have hn:=h.le
  have hl:=h.lim
  by_cases hlt:i < b.length
  · rcases h.tx with e | ⟨g,o,rfl,hg,k0⟩
    · rw [e] at hlt; simp at hlt
    have k1:=k0 i hlt
    have i0:(0:Int) ≤ (i:Int):=by omega
    have i1:(i:Int) < (b.length:Int):=by omega
    have i2:((i:Int) == (b.length:Int)) = false:=by simp; omega
    generalize ((byt b i).toNat:Int) = z at *
    clear h k0
    go_enter Tryz.func48,Tryz.ntmps48
    go_wp2
    go_quiet (fail)
    go_wp2
    go_quiet (fail)
    go_wp2
    go_ret
    exact ⟨rfl,⟨rfl,rfl,rfl,Nat.le_refl _,fun _ _=>rfl⟩⟩
  · obtain rfl:i = b.length:=by omega
    have hz:byt b b.length = 0:=byt_end (Nat.le_refl _)
    rw [hz]
    clear h
    go_enter Tryz.func48,Tryz.ntmps48
    go_wp2
    go_quiet (fail)
    go_wp2
    go_ret
    exact ⟨rfl,⟨rfl,rfl,rfl,Nat.le_refl _,fun _ _=>rfl⟩⟩
theorem digs_le {b:List UInt8} {en:UInt8} {i p:Nat} {e:Int} (hi:i ≤ b.length) (h:digs b en i = .bad p e):p ≤ b.length:=by
  have:=run_le hi
  unfold digs at h
  split at h
  · cases h; exact Nat.le_refl _
  · split at h
    · cases h; exact this
    · cases h
theorem strg_le {b:List UInt8} {i p:Nat} {e:Int} (hi:i ≤ b.length) (h:strg b i = .bad p e):p ≤ b.length:=by
  unfold strg at h
  cases hd:digs b 58 i with
  | bad p' e'=>rw [hd] at h; cases h; exact digs_le hi hd
  | ok d j =>
    rw [hd] at h
    dsimp only at h
    split at h
    · cases h; exact hi
    · split at h
      · split at h
        · cases h; exact Nat.le_refl _
        · cases h
      · cases h; exact Nat.le_refl _
theorem numb_le {b:List UInt8} {i p:Nat} {e:Int} (hi:i ≤ b.length) (h:numb b i = .bad p e):p ≤ b.length:=by
  unfold numb at h
  split at h
  · cases h; exact Nat.le_refl _
  · rename_i hl
    generalize hs:(if byt b (i + 1) = 45 then [45] else ([]:List UInt8)) = sg at h
    have hsl:sg.length ≤ 1:=by rw [← hs]; split <;> simp
    dsimp only at h
    cases hd:digs b 101 (i + 1 + sg.length) with
    | bad p' e'=>rw [hd] at h; cases h; exact digs_le (by omega) hd
    | ok d j =>
      rw [hd] at h
      dsimp only at h
      split at h
      · split at h
        · cases h; exact hi
        · cases h
      · cases h; exact hi
theorem leaf_bad {b:List UInt8} {i p:Nat} {e:Int} (hi:i ≤ b.length) (h1:byt b i ≠ 108) (h2:byt b i ≠ 100) (h:leafO b i = .bad p e):i + p ≤ b.length:=by
  by_cases hl:i < b.length
  · rw [leaf_eq hl h1 h2] at h
    have hk:p ≤ (b.drop i).length:=by
      unfold scal at h
      split at h
      · cases hn:numb (b.drop i) 0 with
        | bad p' e'=>rw [hn] at h; cases h; exact numb_le (Nat.zero_le _) hn
        | ok n j=>rw [hn] at h; cases h
      · split at h
        · cases hn:strg (b.drop i) 0 with
          | bad p' e'=>rw [hn] at h; cases h; exact strg_le (Nat.zero_le _) hn
          | ok n j=>rw [hn] at h; cases h
        · cases h; exact Nat.zero_le _
    rw [List.length_drop] at hk; omega
  · rw [leaf_end (by omega)] at h; cases h; omega
theorem leaf_val {b:List UInt8} {i k:Nat} {t:T} (hi:i ≤ b.length) (hlim:b.length ≤ 1048576) (h1:byt b i ≠ 108) (h2:byt b i ≠ 100) (h:leafO b i = .val t k) :
    i + k ≤ b.length∧(txt t).length = k∧(t = tNum t.n ∨ t = tStr t.s):=by
  have hr:Run (b.drop i) (.go [] 0) (.val t k):=Run.one h
  obtain ⟨q1,q2,_⟩:=run_txt (by rw [List.length_drop]; omega) hr
  refine ⟨by rw [List.length_drop] at q1; omega,by rw [← q2,List.length_take]; omega,?_⟩
  by_cases hl:i < b.length
  · rw [leaf_eq hl h1 h2] at h
    unfold scal at h
    split at h
    · cases hn:numb (b.drop i) 0 with
      | bad p' e'=>rw [hn] at h; cases h
      | ok n j=>rw [hn] at h; injection h with h; subst h; exact .inl rfl
    · split at h
      · cases hn:strg (b.drop i) 0 with
        | bad p' e'=>rw [hn] at h; cases h
        | ok s j=>rw [hn] at h; injection h with h; subst h; exact .inr rfl
      · cases h
  · rw [leaf_end (by omega)] at h; cases h
theorem leaf_walk {t:T} (h:t = tNum t.n ∨ t = tStr t.s) (here:Nat) (sp:Sp):walkT t here sp = [{ sp with kind:=t.k,to:=sp.fr + (txt t).length }]:=by
  rcases h with h | h
  · rw [h]; rfl
  · rw [h]; rfl
theorem leaf_out {b:List UInt8} {i k:Nat} {t:T} {er:Int} (hlim:b.length ≤ 1048576) (h1:byt b i ≠ 108) (h2:byt b i ≠ 100) (h:OUT (b.drop i) t k er) :
    (er = 0∧leafO b i = .val t k) ∨ (er ≠ 0∧leafO b i = .bad k er):=by
  rcases h with ⟨rfl,h,_⟩ | ⟨_,⟨h,_⟩ | ⟨h,_⟩⟩
  · exact .inl ⟨rfl,(leaf_run h1 h2 h trivial).symm⟩
  · refine .inr ⟨?_,(leaf_run h1 h2 h trivial).symm⟩
    have:=run_er h; omega
  · rw [List.length_drop] at h; omega
end Go.Proofs.YtdlnnnlmlaploabGreatDoor
