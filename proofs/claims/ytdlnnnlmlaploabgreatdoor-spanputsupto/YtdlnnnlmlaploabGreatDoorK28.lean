import Derived.Test.YtdlnnnlmlaploabGreatDoorK26
import Derived.Test.YtdlnnnlmlaploabGreatDoorK27
namespace Go.Proofs.YtdlnnnlmlaploabGreatDoor
open Go.RowKit Go.Deep
theorem spl_psp {b v n:List UInt8} {p:List (Int × ByteArray)} {t t2:T} {k k2:Nat} {w:World} {val:Value} {er:Int} {B:Nat} (hd:DOUT b t k 0) (hd2:DOUT v t2 k2 0) (hz:(wiT t2 p t).2 = 0) (hP:Pd (wiT t2 p t).1) (hn:n = txt (wiT t2 p t).1) (hs:SPL n B w val er):PSP b v p w val er:=by
  subst hn
  refine ⟨t,k,0,hd,.inr ⟨rfl,t2,k2,0,hd2,.inr ⟨rfl,.inr ⟨hz,?_⟩⟩⟩⟩
  obtain ⟨t',k',e0,h1,h2⟩:=hs
  have hi:=dout_iff hP h1
  rcases h2 with ⟨h2,h3,h4⟩ | ⟨h2,h3,h4⟩
  · exact .inl ⟨fun h=>h2 (hi.2 h),h3,h4⟩
  · exact .inr ⟨hi.1 h2,h3,B,h4⟩
theorem take_len {A B:List UInt8} {F:Nat} (h:F = A.length):(A ++ B).take F = A:=by rw [h,List.take_left]
theorem drop_len {A B:List UInt8} {F:Nat} (h:F = A.length):(A ++ B).drop F = B:=by rw [h,List.drop_left]
theorem put_found {b v:List UInt8} {p:List (Int × ByteArray)} {t t2:T} {k kk:Nat} {q:Vi} {d:Nat} {k2 n2:Int} {s2:ByteArray} {ln:Nat} {l:Nat → T} {dn:Nat} {ky:Nat → ByteArray} {dv:Nat → T} {F fi U:Nat} (hd:DOUT b t k 0) (hd2:DOUT v t2 kk 0) (hF:FOL p t q d k2 n2 s2 ln l dn ky dv F fi) (hp:d = p.length) (hU:U = F + (txt (.mk k2 n2 s2 ln l dn ky dv)).length) {B:Nat} {w:World} {val:Value} {er:Int} (hs:SPL (b.take F ++ v ++ b.drop U) B w val er):PSP b v p w val er:=by
  obtain ⟨_,hP⟩:=dout_nrm hd
  obtain ⟨_,hP2⟩:=dout_nrm hd2
  have hD:=hF.desc
  rw [hp,List.take_length] at hD
  obtain ⟨w1,w2⟩:=hD.wi (x:=t2) [] hP.vt
  rw [List.append_nil] at w1 w2
  obtain ⟨A,B',a1,a2,a3,a4⟩:=w2 rfl
  have hb:=(dout_txt hd).1
  have hv:=(dout_txt hd2).1
  refine spl_psp hd hd2 w1 (a4 hP hP2) ?_ hs
  have hFA:F = A.length:=by omega
  have e2:(wiT t2 [] (.mk k2 n2 s2 ln l dn ky dv)).1 = t2:=rfl
  rw [a2,e2,hb,a1,take_len hFA,hv,hU,hFA]
  have:(A ++ (txt (.mk k2 n2 s2 ln l dn ky dv) ++ B')).drop (A.length + (txt (.mk k2 n2 s2 ln l dn ky dv)).length) = B':=by
    rw [← List.append_assoc]; exact drop_len (by rw [List.length_append])
  rw [this,List.append_assoc]
theorem put_stuck {b v:List UInt8} {p:List (Int × ByteArray)} {t t2:T} {k kk:Nat} {q:Vi} {d:Nat} {k2 n2:Int} {s2:ByteArray} {ln:Nat} {l:Nat → T} {dn:Nat} {ky:Nat → ByteArray} {dv:Nat → T} {F fi:Nat} (hd:DOUT b t k 0) (hd2:DOUT v t2 kk 0) (hF:FOL p t q d k2 n2 s2 ln l dn ky dv F fi) (hp:d < p.length) {er:Int} (he:(er = 31∧k2 ≠ 3∧k2 ≠ 4) ∨ (er = 30∧(k2 = 3 ∨ k2 = 4)∧d + 1 ≠ p.length)) (w:World):PSP b v p w (.slice none 0 0) er:=by
  obtain ⟨_,hP⟩:=dout_nrm hd
  have hget:p[d]? = some p[d]:=List.getElem?_eq_getElem hp
  have hsp:p = p.take d ++ (p[d] :: p.drop (d + 1)):=by rw [List.getElem_cons_drop]; exact (List.take_append_drop d p).symm
  obtain ⟨w1,_⟩:=hF.desc.wi (x:=t2) (p[d] :: p.drop (d + 1)) hP.vt
  rw [← hsp] at w1
  refine ⟨t,k,0,hd,.inr ⟨rfl,t2,kk,0,hd2,.inr ⟨rfl,.inl ?_⟩⟩⟩
  have hee:(wiT t2 p t).2 = er:=by
    rw [w1]
    rcases he with ⟨rfl,h3,h4⟩ | ⟨rfl,hk,hne⟩
    · rw [wiT_leaf h3 h4]
    · have hem:(p.drop (d + 1)).isEmpty = false:=by
        cases h:p.drop (d + 1) with
        | nil=>exact absurd (List.drop_eq_nil_iff.1 h) (by omega)
        | cons _ _=>rfl
      rcases hk with rfl | rfl
      · rw [wiT_list_no (fun i hi e=>hF.nl rfl p[d].1 p[d].2 (by rw [hget]) i hi e) (.inr hem)]
      · rw [wiT_dict_no (fun i hi e=>hF.nd rfl p[d].1 p[d].2 (by rw [hget]) i hi e) hem]
  exact ⟨by rw [hee]; rcases he with ⟨rfl,_⟩ | ⟨rfl,_⟩ <;> decide,hee.symm,rfl⟩
theorem put_add {b v:List UInt8} {p:List (Int × ByteArray)} {t t2:T} {k kk:Nat} {q:Vi} {d:Nat} {k2 n2:Int} {s2:ByteArray} {ln:Nat} {l:Nat → T} {dn:Nat} {ky:Nat → ByteArray} {dv:Nat → T} {F fi:Nat} (hd:DOUT b t k 0) (hd2:DOUT v t2 kk 0) (hF:FOL p t q d k2 n2 s2 ln l dn ky dv F fi) {at':Int} {key:ByteArray} (hget:p[d]? = some (at',key)) (hp:d + 1 = p.length) (hks:key.size ≤ 10000000000000) {B:Nat} {w:World} {val:Value} {er:Int} (hs:ADP b v F at' key k2 ln l dn ky dv B w val er):PSP b v p w val er:=by
  obtain ⟨_,hP⟩:=dout_nrm hd
  obtain ⟨_,hP2⟩:=dout_nrm hd2
  have hlt:d < p.length:=by omega
  have hpd:p[d] = (at',key):=by have:=List.getElem?_eq_getElem hlt; rw [hget] at this; exact (Option.some.inj this).symm
  have hsp:p = p.take d ++ [(at',key)]:=by
    have h1:p.drop (d + 1) = []:=List.drop_eq_nil_of_le (by omega)
    have h2:p.take d ++ (p[d] :: p.drop (d + 1)) = p:=by rw [List.getElem_cons_drop]; exact List.take_append_drop d p
    rw [h1,hpd] at h2
    exact h2.symm
  obtain ⟨w1,w2⟩:=hF.desc.wi (x:=t2) [(at',key)] hP.vt
  rw [← hsp] at w1 w2
  have hb:=(dout_txt hd).1
  have hv:=(dout_txt hd2).1
  have hbl:=(dout_txt hd).2.2
  obtain ⟨_,hPu,_⟩:=hF.desc.own 0 (dout_nrm hd).1 hP (dout_txt hd).2.1.1
  have hlen:∀ A B':List UInt8,txt t = A ++ (txt (.mk k2 n2 s2 ln l dn ky dv) ++ B') → (txt (.mk k2 n2 s2 ln l dn ky dv)).length ≤ 1048576:=fun A B' h=>by
    have:=congrArg List.length (hb.trans h)
    simp only [List.length_append] at this
    omega
  rcases hs with ⟨rfl,⟨hne,rfl,rfl⟩ | ⟨ha,hs⟩⟩ | ⟨rfl,j0,j1,j2,j3,hs⟩
  · have hee:(wiT t2 p t).2 = 30:=by
      rw [w1,wiT_list_no (fun i hi e=>hF.nl rfl at' key hget i hi e) (.inl hne)]
    exact ⟨t,k,0,hd,.inr ⟨rfl,t2,kk,0,hd2,.inr ⟨rfl,.inl ⟨by rw [hee]; decide,hee.symm,rfl⟩⟩⟩⟩
  · obtain ⟨u',u1,u2,u3⟩:=wiT_list_end (x:=t2) (q:=(at',key)) (n:=n2) (s:=s2) (l:=l) (dn:=dn) (ky:=ky) (dv:=dv) ha
    rw [u1] at w1 w2
    obtain ⟨A,B',a1,a2,a3,a4⟩:=w2 rfl
    have hl0:=hlen A B' a1
    have hln:ln ≤ (catN (fun i=>txt (l i)) ln).length:=catN_ge fun i hi=>txt_pos (hPu.kid hi).vt (hPu.kid hi).full
    have hge:=txt_ge hPu.vt
    refine spl_psp hd hd2 w1 (a4 hP (u3 hPu hP2 (by omega))) ?_ hs
    have e1:txt (.mk 3 n2 s2 ln l dn ky dv) = 108 :: (catN (fun i=>txt (l i)) ln ++ [101]):=rfl
    have hE:b = (A ++ 108 :: catN (fun i=>txt (l i)) ln) ++ ([101] ++ B'):=by rw [hb,a1,e1]; simp
    have hF2:F + 1 + (catN (fun i=>txt (l i)) ln).length = (A ++ 108 :: catN (fun i=>txt (l i)) ln).length:=by rw [List.length_append,List.length_cons]; omega
    rw [a2]
    show _ = A ++ (txt u' ++ B')
    rw [u2,hE,take_len hF2,drop_len hF2,hv]
    simp
  · obtain ⟨u',z,u1,u2,u3,u4⟩:=wiT_dict_ins (x:=t2) (q:=(at',key)) (n:=n2) (s:=s2) (l:=l) hF.vt (fun i hi e=>hF.nd rfl at' key hget i hi e) j1 j2 j3
    rw [u1] at w1 w2
    obtain ⟨A,B',a1,a2,a3,a4⟩:=w2 rfl
    have hl0:=hlen A B' a1
    have hdn:dn ≤ (catN (fun i=>wtx (ky i) ++ txt (dv i)) dn).length:=catN_ge fun i hi=>by rw [List.length_append]; have:=txt_pos (hPu.pair hi).1.vt (hPu.pair hi).1.full; omega
    have hge:=txt_ge hPu.vt
    have hPy:Pd (wiT t2 p t).1:=a4 hP (u4 hPu hP2 (by show key.size ≤ _; omega) (by omega))
    have e1:txt (.mk 4 n2 s2 ln l dn ky dv) = 100 :: (catN (fun i=>wtx (ky i) ++ txt (dv i)) dn ++ [101]):=rfl
    have hy:txt (wiT t2 p t).1 = A ++ ((100 :: (catN (fun i=>wtx (ky i) ++ txt (dv i)) j0 ++ (wtx key ++ (txt t2 ++ (z ++ [101]))))) ++ B'):=by rw [a2]; show A ++ (txt u' ++ B') = _; rw [u3]
    rcases hs with ⟨hlong,rfl,rfl⟩ | ⟨_,hs⟩
    · refine ⟨t,k,0,hd,.inr ⟨rfl,t2,kk,0,hd2,.inr ⟨rfl,.inr ⟨w1,.inl ⟨fun h=>?_,rfl,rfl⟩⟩⟩⟩⟩
      have:=h.2
      rw [hy] at this
      simp only [List.length_append,List.length_cons] at this
      omega
    · refine spl_psp hd hd2 w1 hPy ?_ hs
      have hE:b = (A ++ 100 :: catN (fun i=>wtx (ky i) ++ txt (dv i)) j0) ++ (z ++ ([101] ++ B')):=by rw [hb,a1,e1,u2]; simp
      have hF2:F + 1 + (catN (fun i=>wtx (ky i) ++ txt (dv i)) j0).length = (A ++ 100 :: catN (fun i=>wtx (ky i) ++ txt (dv i)) j0).length:=by rw [List.length_append,List.length_cons]; omega
      rw [hy,hE,take_len hF2,drop_len hF2,hv]
      simp
theorem part_own {b:List UInt8} {p:List (Int × ByteArray)} {t:T} {k:Nat} {q:Vi} {d:Nat} {k2 n2:Int} {s2:ByteArray} {ln:Nat} {l:Nat → T} {dn:Nat} {ky:Nat → ByteArray} {dv:Nat → T} {F fi U:Nat} (hd:DOUT b t k 0) (hF:FOL p t q d k2 n2 s2 ln l dn ky dv F fi) (hU:U = F + (txt (.mk k2 n2 s2 ln l dn ky dv)).length):DOUT ((b.drop F).take (U - F)) (.mk k2 n2 s2 ln l dn ky dv) 0 0∧F < U∧U ≤ b.length:=by
  obtain ⟨hn,hP⟩:=dout_nrm hd
  obtain ⟨h1,h2,h3⟩:=hF.desc.own 0 hn hP (dout_txt hd).2.1.1
  obtain ⟨A,B,e1,e2,_,_⟩:=hF.desc.text (Nat.le_refl _) hP.vt
  have hb:=(dout_txt hd).1
  have hbl:=(dout_txt hd).2.2
  have hFA:F = A.length:=by omega
  have hpos:=txt_pos h2.vt h2.full
  have hlb:b.length = A.length + (txt (.mk k2 n2 s2 ln l dn ky dv)).length + B.length:=by
    rw [hb,e1,List.length_append,List.length_append]
  have hc:(b.drop F).take (U - F) = txt (.mk k2 n2 s2 ln l dn ky dv):=by
    rw [hb,e1,hU,hFA,List.append_assoc,List.drop_left,Nat.add_sub_cancel_left,List.take_left]
  refine ⟨?_,by omega,by omega⟩
  rw [hc]
  have:=dout_written h3 h2.full h2.rng h2.ok (by omega)
  rw [← h1] at this
  exact this
set_option maxRecDepth 10000 in
set_option maxHeartbeats 4000000 in
theorem put7 (a va:Option Addr) (c vc:Nat) (b v:List UInt8) (w:World) (pa:Option Addr) (pc:Nat) (p:List (Int × ByteArray)) (hr:RB w (.slice a b.length c) b) (hrv:RB w (.slice va v.length vc) v) (hvs:Value.slice va v.length vc = .slice none 0 0 ∨ ∃ ad n c,Value.slice va v.length vc = .slice (some ad) n c) (hev:EVw w) (hT:TB w.heap.size w) (hP:PSA w.heap.size w (.slice pa p.length pc) p) (hp:p.length ≤ 140737488351232) (hks:∀ q ∈ p,q.2.size ≤ 10000000000000) :
    Calls Tryz.prog 7 #[.slice a b.length c,.slice pa p.length pc,.slice va v.length vc] w fun e w'=>∃ val er,e = .returned (.tuple #[val,.int .i64 er])∧PSP b v p w' val er∧Below w.heap.size w w':=by
  have HR:=Lib.hid (And.intro hr (And.intro hrv (And.intro hvs (And.intro hev (And.intro hT hP)))))
  have HK:=Lib.hid hks
  clear hr hrv hvs hev hT hP hks
  go_enter Tryz.func7,Tryz.ntmps7
  go_wp2_with fail
  refine (check21 _ b w HR.out.1 HR.out.2.2.2.1).mono ?_
  rintro e w1 ⟨t,k,e0,rfl,hd,hb1⟩
  have H1:Hid (DOUT b t k e0∧Below w.heap.size w w1):=⟨hd,hb1⟩
  clear hd hb1
  by_cases he:e0 = 0
  case neg =>
    have he':(e0 != 0) = true:=by simpa using he
    have HE:Hid (∀ w',PSP b v p w' (.slice none 0 0) e0):=fun w'=>⟨t,k,e0,H1.out.1,.inl ⟨he,rfl,rfl⟩⟩
    go_wp2
    go_ret2
    exact ⟨_,_,rfl,HE.out _,H1.out.2⟩
  subst he
  go_wp2_with fail
  refine (check21 _ v w1 (HR.out.2.1.keep H1.out.2) (HR.out.2.2.2.1.keep H1.out.2)).mono ?_
  rintro e w2 ⟨t2,k2,e2,rfl,hd2,hb2⟩
  have H2:Hid (DOUT b t k 0∧DOUT v t2 k2 e2∧Below w.heap.size w w2):=⟨H1.out.1,hd2,H1.out.2.trans (hb2.mono H1.out.2.size)⟩
  clear hd2 hb2 H1
  by_cases he:e2 = 0
  case neg =>
    have he':(e2 != 0) = true:=by simpa using he
    have HE:Hid (∀ w',PSP b v p w' (.slice none 0 0) 33):=fun w'=>⟨t,k,0,H2.out.1,.inr ⟨rfl,t2,k2,e2,H2.out.2.1,.inl ⟨he,rfl,rfl⟩⟩⟩
    go_wp2
    go_ret2
    exact ⟨_,_,rfl,HE.out _,H2.out.2.2⟩
  subst he
  have hlim:b.length ≤ 1048576:=(dout_txt H2.out.1).2.2
  have hvl:v.length ≤ 1048576:=(dout_txt H2.out.2.1).2.2
  have HC:=Lib.hid (follow22 a c b w2 pa p.length pc p (HR.out.1.keep H2.out.2.2) (HR.out.2.2.2.1.keep H2.out.2.2) hlim (HR.out.2.2.2.2.2.on H2.out.2.2) hp)
  go_wp2_with fail
  refine HC.out.mono ?_
  rintro e w3 ⟨h,pp,e4,hFin,hb3,rfl⟩
  obtain ⟨d,u1,u2,u3,ln,l,dn,ky,dv,F,fi,hFO⟩:=follow_led hlim hFin H2.out.1
  obtain ⟨⟨qkd,qfr,qto,qdp,qup,qnt,qky,qpl,qfi⟩,hq⟩:∃ q,(fwF p h).1 = q:=⟨_,rfl⟩
  rw [hq] at hFO ⊢
  clear hq hFin HC
  have H3:Hid (DOUT b t k 0∧DOUT v t2 k2 0∧Below w.heap.size w w3∧FOL p t ⟨qkd,qfr,qto,qdp,qup,qnt,qky,qpl,qfi⟩ d u1 u2 u3 ln l dn ky dv F fi):=⟨H2.out.1,H2.out.2.1,H2.out.2.2.trans (hb3.mono H2.out.2.2.size),hFO⟩
  clear hb3 H2
  have e1:qkd = u1:=hFO.kd
  have e2:qfr = (F:Int):=hFO.fr
  have e3:qto = ((F + (txt (.mk u1 u2 u3 ln l dn ky dv)).length:Nat):Int):=hFO.to
  have e4':qdp = (d:Int):=hFO.dp
  have hdle:d ≤ p.length:=hFO.dle
  clear hFO
  subst e1 e2 e4'
  generalize hU:F + (txt (.mk qkd u2 u3 ln l dn ky dv)).length = U at *
  have HU:=Lib.hid hU
  clear hU
  subst e3
  have HPO:=Lib.hid (part_own H3.out.1 H3.out.2.2.2 HU.out.symm)
  obtain ⟨_,hFU,hUb⟩:=HPO.out
  have HBx:Hid (Below w.heap.size w (w3.alloc (Obj.cells (Vi.cs ⟨qkd,F,U,d,qup,qnt,qky,qpl,qfi⟩) 45))∧blk (w3.alloc (Obj.cells (Vi.cs ⟨qkd,F,U,d,qup,qnt,qky,qpl,qfi⟩) 45)) w3.heap.size 45 (Vi.cs ⟨qkd,F,U,d,qup,qnt,qky,qpl,qfi⟩)):=⟨H3.out.2.2.1.alloc H3.out.2.2.1.size _,heap_new _ _⟩
  obtain ⟨a',c',ea,hcc,hcell⟩:=HR.out.1
  cases ea
  rcases hcell with h0 | ⟨g,o,rfl,hg,hcl⟩
  · exfalso
    rw [h0] at hUb
    simp at hUb
    omega
  clear hcl hcc hg
  have c1:(w3.alloc (Obj.cells (Vi.cs ⟨qkd,F,U,d,qup,qnt,qky,qpl,qfi⟩) 45)).cell? ⟨w3.heap.size,1,none⟩ = some (.int .i64 F):=HBx.out.2.cell 1
  have c2:(w3.alloc (Obj.cells (Vi.cs ⟨qkd,F,U,d,qup,qnt,qky,qpl,qfi⟩) 45)).cell? ⟨w3.heap.size,2,none⟩ = some (.int .i64 U):=HBx.out.2.cell 2
  have c3:(w3.alloc (Obj.cells (Vi.cs ⟨qkd,F,U,d,qup,qnt,qky,qpl,qfi⟩) 45)).cell? ⟨w3.heap.size,3,none⟩ = some (.int .i64 d):=HBx.out.2.cell 3
  by_cases hdp:d = p.length
  · -- found
    have hE0:(if (⟨qkd,F,U,d,qup,qnt,qky,qpl,qfi⟩:Vi).dp = (p.length:Int) then (0:Int) else if nestB (⟨qkd,F,U,d,qup,qnt,qky,qpl,qfi⟩:Vi) = true then 30 else 31) = 0:=if_pos (by show (d:Int) = _; omega)
    have HC:=Lib.hid (spliceX g o c b F U va vc v (w3.alloc (Obj.cells (Vi.cs ⟨qkd,F,U,d,qup,qnt,qky,qpl,qfi⟩) 45)) (by omega) hUb (fun e=>by rw [e] at hUb; simp at hUb; omega) hlim (by omega) (HR.out.1.keep HBx.out.1) (HR.out.2.1.keep HBx.out.1) HR.out.2.2.1 (HR.out.2.2.2.1.keep HBx.out.1))
    rw [hE0]
    have HDP:=Lib.hid hdp
    clear hE0 hdp
    go_wp2_with fail
    refine HC.out.mono ?_
    rintro e w5 ⟨val,er,rfl,hs,hb5⟩
    have HE:Hid (PSP b v p w5 val er∧Below w.heap.size w w5):=⟨put_found H3.out.1 H3.out.2.1 H3.out.2.2.2 HDP.out HU.out.symm hs,HBx.out.1.trans (hb5.mono HBx.out.1.size)⟩
    obtain ⟨va3,vn3,vc3,rfl⟩:∃ a n c,val = .slice a n c:=by
      obtain ⟨_,_,_,_,h2⟩:=hs
      rcases h2 with ⟨_,_,rfl⟩ | ⟨_,_,h4⟩
      · exact ⟨_,_,_,rfl⟩
      · obtain ⟨a4,c4,rfl⟩:=ow_slice h4
        exact ⟨_,_,_,rfl⟩
    clear hs hb5 HC
    go_wp2
    go_ret2
    exact ⟨_,_,rfl,HE.out.1,HE.out.2⟩
  · have hlt:d < p.length:=by omega
    have hnd:¬ ((d:Int) = (p.length:Int)):=by omega
    by_cases hk:qkd = 3 ∨ qkd = 4
    · have hE0:(if (⟨qkd,F,U,d,qup,qnt,qky,qpl,qfi⟩:Vi).dp = (p.length:Int) then (0:Int) else if nestB (⟨qkd,F,U,d,qup,qnt,qky,qpl,qfi⟩:Vi) = true then 30 else 31) = 30:=by
        rw [if_neg (by show ¬ ((d:Int) = _); omega),if_pos (by rcases hk with rfl | rfl <;> rfl)]
      by_cases hd1:d + 1 = p.length
      · obtain ⟨pa',pc',ep,hpcell⟩:=HR.out.2.2.2.2.2
        cases ep
        rcases hpcell with h0 | ⟨pg,po,rfl,hpg,hpc⟩
        · rw [h0] at hlt; simp at hlt
        obtain ⟨at',key,hget⟩:∃ at' key,p[d]? = some (at',key):=⟨p[d].1,p[d].2,List.getElem?_eq_getElem hlt⟩
        obtain ⟨z1,z2⟩:=hpc d at' key hget
        have hbk:=HBx.out.1.block pg hpg
        have pc1:(w3.alloc (Obj.cells (Vi.cs ⟨qkd,F,U,d,qup,qnt,qky,qpl,qfi⟩) 45)).cell? ⟨pg,po + d * 2,none⟩ = some (.int .i64 at'):=(World.cell?_of_block (w:=w) hbk).trans z1
        have pc2:(w3.alloc (Obj.cells (Vi.cs ⟨qkd,F,U,d,qup,qnt,qky,qpl,qfi⟩) 45)).cell? ⟨pg,po + d * 2 + 1,none⟩ = some (.string key):=(World.cell?_of_block (w:=w) hbk).trans z2
        have hksz:key.size ≤ 10000000000000:=HK.out (at',key) (List.mem_of_getElem? hget)
        have HC:=Lib.hid (add21 (w:=(w3.alloc (Obj.cells (Vi.cs ⟨qkd,F,U,d,qup,qnt,qky,qpl,qfi⟩) 45)).drew) g o c b v ⟨qkd,F,U,d,qup,qnt,qky,qpl,qfi⟩ F U rfl rfl hFU hUb hlim (HR.out.1.keep HBx.out.1.drew) va vc (HR.out.2.1.keep HBx.out.1.drew) HR.out.2.2.1 hvl (HR.out.2.2.2.1.keep HBx.out.1.drew) (tb_up (HR.out.2.2.2.2.1.on HBx.out.1.drew) HBx.out.1.size) HPO.out.1 H3.out.2.2.2.vt HU.out.symm rfl hk at' key hksz)
        rw [hE0]
        have d0:(0:Int) ≤ (d:Int):=by omega
        have d1:(d:Int) < (p.length:Int):=by omega
        have d2:((d:Int) == (p.length:Int) - 1) = true:=by rw [beq_iff_eq]; omega
        have HGT:=Lib.hid hget
        clear hE0 z1 z2 hpc hbk hget
        have b0:(w3.alloc (Obj.cells (Vi.cs ⟨qkd,F,U,d,qup,qnt,qky,qpl,qfi⟩) 45)).cell? ⟨w3.heap.size,0,none⟩ = some (.int .i64 qkd):=HBx.out.2.cell 0
        have b1:(w3.alloc (Obj.cells (Vi.cs ⟨qkd,F,U,d,qup,qnt,qky,qpl,qfi⟩) 45)).cell? ⟨w3.heap.size,1,none⟩ = some (.int .i64 F):=HBx.out.2.cell 1
        have b2:(w3.alloc (Obj.cells (Vi.cs ⟨qkd,F,U,d,qup,qnt,qky,qpl,qfi⟩) 45)).cell? ⟨w3.heap.size,2,none⟩ = some (.int .i64 U):=HBx.out.2.cell 2
        have b3:(w3.alloc (Obj.cells (Vi.cs ⟨qkd,F,U,d,qup,qnt,qky,qpl,qfi⟩) 45)).cell? ⟨w3.heap.size,3,none⟩ = some (.int .i64 d):=HBx.out.2.cell 3
        have b4:(w3.alloc (Obj.cells (Vi.cs ⟨qkd,F,U,d,qup,qnt,qky,qpl,qfi⟩) 45)).cell? ⟨w3.heap.size,4,none⟩ = some (.int .i64 qup):=HBx.out.2.cell 4
        have b5:(w3.alloc (Obj.cells (Vi.cs ⟨qkd,F,U,d,qup,qnt,qky,qpl,qfi⟩) 45)).cell? ⟨w3.heap.size,5,none⟩ = some (.int .i64 qnt):=HBx.out.2.cell 5
        have b6:(w3.alloc (Obj.cells (Vi.cs ⟨qkd,F,U,d,qup,qnt,qky,qpl,qfi⟩) 45)).cell? ⟨w3.heap.size,6,none⟩ = some (.string qky):=HBx.out.2.cell 6
        have b7:(w3.alloc (Obj.cells (Vi.cs ⟨qkd,F,U,d,qup,qnt,qky,qpl,qfi⟩) 45)).cell? ⟨w3.heap.size,7,none⟩ = some (.int .i64 qpl):=HBx.out.2.cell 7
        have b8:(w3.alloc (Obj.cells (Vi.cs ⟨qkd,F,U,d,qup,qnt,qky,qpl,qfi⟩) 45)).cell? ⟨w3.heap.size,8,none⟩ = some (.int .i64 qfi):=HBx.out.2.cell 8
        go_wp2_with fail
        refine wp_region_held_drew (S:=fun w'=>w'.cell? ⟨w3.heap.size,0,none⟩ = some (.int .i64 qkd)∧w'.cell? ⟨w3.heap.size,1,none⟩ = some (.int .i64 F)∧w'.cell? ⟨w3.heap.size,2,none⟩ = some (.int .i64 U)∧w'.cell? ⟨w3.heap.size,3,none⟩ = some (.int .i64 d)∧w'.cell? ⟨w3.heap.size,4,none⟩ = some (.int .i64 qup)∧w'.cell? ⟨w3.heap.size,5,none⟩ = some (.int .i64 qnt)∧w'.cell? ⟨w3.heap.size,6,none⟩ = some (.string qky)∧w'.cell? ⟨w3.heap.size,7,none⟩ = some (.int .i64 qpl)∧w'.cell? ⟨w3.heap.size,8,none⟩ = some (.int .i64 qfi)∧w'.cell? ⟨pg,po + d * 2,none⟩ = some (.int .i64 at')∧w'.cell? ⟨pg,po + d * 2 + 1,none⟩ = some (.string key)) (by kernel_rfl) (⟨b0,b1,b2,b3,b4,b5,b6,b7,b8,pc1,pc2⟩) (fun hHeld=>?_)
        refine wpAnyH_take (i:=0) (v:=.slice (some ⟨g,o,none⟩) b.length c) rfl (by kernel_rfl) (by kernel_rfl) (by kernel_rfl) (fun _ _ _ h=>h) (Or.inl ⟨by rfl,fun w hw=>by go_simp⟩) hHeld ?_
        simp only [Act.put,List.getElem_toArray,List.getElem_cons_zero,List.setIfInBounds_toArray,List.set_cons_zero,List.set_cons_succ]
        refine wpAnyH_take (i:=1) (v:=.agg #[.int .i64 qkd,.int .i64 F,.int .i64 U,.int .i64 d,.int .i64 qup,.int .i64 qnt,.string qky,.int .i64 qpl,.int .i64 qfi]) rfl (by kernel_rfl) (by kernel_rfl) (by kernel_rfl) (fun _ _ _ h=>h) (Or.inl ⟨by rfl,fun w hw=>by obtain ⟨c0,c1,c2,c3,c4,c5,c6,c7,c8,_⟩:=hw; go_simp⟩) hHeld ?_
        simp only [Act.put,List.getElem_toArray,List.getElem_cons_zero,List.getElem_cons_succ,List.setIfInBounds_toArray,List.set_cons_zero,List.set_cons_succ]
        refine wpAnyH_take (i:=2) (v:=.slice (some ⟨pg,po,none⟩) p.length pc) rfl (by kernel_rfl) (by kernel_rfl) (by kernel_rfl) (fun _ _ _ h=>h) (Or.inl ⟨by rfl,fun w hw=>by go_simp⟩) hHeld ?_
        simp only [Act.put,List.getElem_toArray,List.getElem_cons_zero,List.getElem_cons_succ,List.setIfInBounds_toArray,List.set_cons_zero,List.set_cons_succ]
        refine wpAnyH_take (i:=3) (v:=.pointer (some ⟨w3.heap.size,0,none⟩)) rfl (by kernel_rfl) (by kernel_rfl) (by kernel_rfl) (fun _ _ _ h=>h) (Or.inl ⟨by rfl,fun w hw=>by go_simp⟩) hHeld ?_
        simp only [Act.put,List.getElem_toArray,List.getElem_cons_zero,List.getElem_cons_succ,List.setIfInBounds_toArray,List.set_cons_zero,List.set_cons_succ]
        refine wpAnyH_take (i:=4) (v:=.pointer (some ⟨w3.heap.size,3,none⟩)) rfl (by kernel_rfl) (by kernel_rfl) (by kernel_rfl) (fun _ _ _ h=>h) (Or.inl ⟨by rfl,fun w hw=>by go_simp⟩) hHeld ?_
        simp only [Act.put,List.getElem_toArray,List.getElem_cons_zero,List.getElem_cons_succ,List.setIfInBounds_toArray,List.set_cons_zero,List.set_cons_succ]
        refine wpAnyH_take (i:=5) (v:=.int .i64 d) rfl (by kernel_rfl) (by kernel_rfl) (by kernel_rfl) (fun _ _ _ h=>h) (Or.inl ⟨by rfl,fun w hw=>by obtain ⟨_,_,_,c3,_⟩:=hw; go_simp⟩) hHeld ?_
        simp only [Act.put,List.getElem_toArray,List.getElem_cons_zero,List.getElem_cons_succ,List.setIfInBounds_toArray,List.set_cons_zero,List.set_cons_succ]
        refine wpAnyH_take (i:=6) (v:=.pointer (some ⟨pg,po + d * 2,none⟩)) rfl (by kernel_rfl) (by kernel_rfl) (by kernel_rfl) (fun _ _ _ h=>h) (Or.inl ⟨by rfl,fun w hw=>by go_simp⟩) hHeld ?_
        simp only [Act.put,List.getElem_toArray,List.getElem_cons_zero,List.getElem_cons_succ,List.setIfInBounds_toArray,List.set_cons_zero,List.set_cons_succ]
        refine wpAnyH_take (i:=7) (v:=.agg #[.int .i64 at',.string key]) rfl (by kernel_rfl) (by kernel_rfl) (by kernel_rfl) (fun _ _ _ h=>h) (Or.inl ⟨by rfl,fun w hw=>by obtain ⟨_,_,_,_,_,_,_,_,_,c0,c1⟩:=hw; go_simp⟩) hHeld ?_
        simp only [Act.put,List.getElem_toArray,List.getElem_cons_zero,List.getElem_cons_succ,List.setIfInBounds_toArray,List.set_cons_zero,List.set_cons_succ]
        refine wpAnyH_take (i:=8) (v:=.slice va v.length vc) rfl (by kernel_rfl) (by kernel_rfl) (by kernel_rfl) (fun _ _ _ h=>h) (Or.inl ⟨by rfl,fun w hw=>by go_simp⟩) hHeld ?_
        simp only [Act.put,List.getElem_toArray,List.getElem_cons_zero,List.getElem_cons_succ,List.setIfInBounds_toArray,List.set_cons_zero,List.set_cons_succ]
        refine wpAnyH_ready (rs:=[9]) (by kernel_rfl) (by simp) ?_
        refine AllReadyH.cons (o:=_) rfl (fun K hK=>?_) AllReadyH.nil
        go_simp
        refine HC.out.mono ?_
        rintro e w5 ⟨val,er,rfl,hs,hb5⟩
        have HE:Hid (PSP b v p w5 val er∧Below w.heap.size w w5):=⟨put_add H3.out.1 H3.out.2.1 H3.out.2.2.2 HGT.out hd1 hksz hs,HBx.out.1.drew.trans (hb5.mono HBx.out.1.size)⟩
        obtain ⟨va3,vn3,vc3,rfl⟩:∃ a n c,val = .slice a n c:=by
          rcases hs with ⟨_,⟨_,_,rfl⟩ | ⟨_,hs⟩⟩ | ⟨_,_,_,_,_,⟨_,_,rfl⟩ | ⟨_,hs⟩⟩
          · exact ⟨_,_,_,rfl⟩
          · obtain ⟨_,_,_,_,h2⟩:=hs
            rcases h2 with ⟨_,_,rfl⟩ | ⟨_,_,h4⟩
            · exact ⟨_,_,_,rfl⟩
            · obtain ⟨a4,c4,rfl⟩:=ow_slice h4
              exact ⟨_,_,_,rfl⟩
          · exact ⟨_,_,_,rfl⟩
          · obtain ⟨_,_,_,_,h2⟩:=hs
            rcases h2 with ⟨_,_,rfl⟩ | ⟨_,_,h4⟩
            · exact ⟨_,_,_,rfl⟩
            · obtain ⟨a4,c4,rfl⟩:=ow_slice h4
              exact ⟨_,_,_,rfl⟩
        refine hK.out _ _ (⟨Below.cellS hb5 (Nat.le_refl _) b0,Below.cellS hb5 (Nat.le_refl _) b1,Below.cellS hb5 (Nat.le_refl _) b2,Below.cellS hb5 (Nat.le_refl _) b3,Below.cellS hb5 (Nat.le_refl _) b4,Below.cellS hb5 (Nat.le_refl _) b5,Below.cellS hb5 (Nat.le_refl _) b6,Below.cellS hb5 (Nat.le_refl _) b7,Below.cellS hb5 (Nat.le_refl _) b8,Below.cellS hb5 (Nat.le_refl _) pc1,Below.cellS hb5 (Nat.le_refl _) pc2⟩) (fun hHeld=>?_)
        clear hK K hs hb5
        refine wpAnyH_take (i:=10) (v:=.slice va3 vn3 vc3) rfl (by kernel_rfl) (by kernel_rfl) (by kernel_rfl) (fun _ _ _ h=>h) (Or.inl ⟨by rfl,fun w hw=>by go_simp⟩) hHeld ?_
        simp only [Act.put,List.getElem_toArray,List.getElem_cons_zero,List.getElem_cons_succ,List.setIfInBounds_toArray,List.set_cons_zero,List.set_cons_succ]
        refine wpAnyH_take (i:=11) (v:=.int .i64 er) rfl (by kernel_rfl) (by kernel_rfl) (by kernel_rfl) (fun _ _ _ h=>h) (Or.inl ⟨by rfl,fun w hw=>by go_simp⟩) hHeld ?_
        simp only [Act.put,List.getElem_toArray,List.getElem_cons_zero,List.getElem_cons_succ,List.setIfInBounds_toArray,List.set_cons_zero,List.set_cons_succ]
        refine wpAnyH_take (i:=12) (v:=.slice va3 vn3 vc3) rfl (by kernel_rfl) (by kernel_rfl) (by kernel_rfl) (fun _ _ _ h=>h) (Or.inl ⟨by rfl,fun w hw=>by go_simp⟩) hHeld ?_
        simp only [Act.put,List.getElem_toArray,List.getElem_cons_zero,List.getElem_cons_succ,List.setIfInBounds_toArray,List.set_cons_zero,List.set_cons_succ]
        refine wpAnyH_take (i:=13) (v:=.int .i64 er) rfl (by kernel_rfl) (by kernel_rfl) (by kernel_rfl) (fun _ _ _ h=>h) (Or.inl ⟨by rfl,fun w hw=>by go_simp⟩) hHeld ?_
        simp only [Act.put,List.getElem_toArray,List.getElem_cons_zero,List.getElem_cons_succ,List.setIfInBounds_toArray,List.set_cons_zero,List.set_cons_succ]
        refine wpAnyH_done (by kernel_rfl) ?_ _
        clear HC hHeld b0 b1 b2 b3 b4 b5 b6 b7 b8 pc1 pc2 c1 c2 c3
        go_wp2
        go_ret2
        exact ⟨_,_,rfl,HE.out.1,HE.out.2⟩
      · have hd2:((d:Int) == (p.length:Int) - 1) = false:=beq_eq_false_iff_ne.2 (by omega)
        have HE:Hid (∀ w',PSP b v p w' (.slice none 0 0) 30):=fun w'=>put_stuck H3.out.1 H3.out.2.1 H3.out.2.2.2 hlt (.inr ⟨rfl,hk,hd1⟩) w'
        rw [hE0]
        clear hE0
        go_wp2
        go_ret2
        exact ⟨_,_,rfl,HE.out _,HBx.out.1⟩
    · have hE0:(if (⟨qkd,F,U,d,qup,qnt,qky,qpl,qfi⟩:Vi).dp = (p.length:Int) then (0:Int) else if nestB (⟨qkd,F,U,d,qup,qnt,qky,qpl,qfi⟩:Vi) = true then 30 else 31) = 31:=by
        rw [if_neg (by show ¬ ((d:Int) = _); omega),if_neg (by unfold nestB; simp; omega)]
      have HE:Hid (∀ w',PSP b v p w' (.slice none 0 0) 31):=fun w'=>put_stuck H3.out.1 H3.out.2.1 H3.out.2.2.2 hlt (.inl ⟨rfl,fun h=>hk (.inl h),fun h=>hk (.inr h)⟩) w'
      rw [hE0]
      clear hE0
      go_wp2
      go_ret2
      exact ⟨_,_,rfl,HE.out _,HBx.out.1⟩
theorem psp_rb {b v:List UInt8} {p:List (Int × ByteArray)} {w w':World} {x x':Value} {er er':Int} (h:PSP b v p w x er) (h':PSP b v p w' x' er'):er = er'∧∃ l,RB w x l∧RB w' x' l∧l.length ≤ 1048576:=by
  have nil:∀ W:World,RB W (.slice none 0 0) []:=fun W=>⟨none,0,rfl,Nat.le_refl _,.inl rfl⟩
  obtain ⟨t,k,e0,hd,h⟩:=h
  obtain ⟨t1,k1,e1,hd1,h'⟩:=h'
  obtain ⟨rfl,rfl,rfl⟩:=hd.unique hd1
  rcases h with ⟨n0,rfl,rfl⟩ | ⟨z0,t2,k2,e2,hd2,h⟩
  · rcases h' with ⟨_,rfl,rfl⟩ | ⟨z,_⟩
    · exact ⟨rfl, [],nil _,nil _,by simp⟩
    · exact absurd z n0
  · rcases h' with ⟨n0,_⟩ | ⟨_,t3,k3,e3,hd3,h'⟩
    · exact absurd z0 n0
    · obtain ⟨rfl,rfl,rfl⟩:=hd2.unique hd3
      rcases h with ⟨n2,rfl,rfl⟩ | ⟨z2,h⟩
      · rcases h' with ⟨_,rfl,rfl⟩ | ⟨z,_⟩
        · exact ⟨rfl, [],nil _,nil _,by simp⟩
        · exact absurd z n2
      · rcases h' with ⟨n2,_⟩ | ⟨_,h'⟩
        · exact absurd z2 n2
        · rcases h with ⟨n3,rfl,rfl⟩ | ⟨z3,h⟩
          · rcases h' with ⟨_,rfl,rfl⟩ | ⟨z,_⟩
            · exact ⟨rfl, [],nil _,nil _,by simp⟩
            · exact absurd z n3
          · rcases h' with ⟨n3,_⟩ | ⟨_,h'⟩
            · exact absurd z3 n3
            · rcases h with ⟨n4,rfl,rfl⟩ | ⟨z4,rfl,B,ho⟩
              · rcases h' with ⟨_,rfl,rfl⟩ | ⟨z,_⟩
                · exact ⟨rfl, [],nil _,nil _,by simp⟩
                · exact absurd z n4
              · rcases h' with ⟨n4,_⟩ | ⟨_,rfl,B',ho'⟩
                · exact absurd z4 n4
                · exact ⟨rfl,_,ho.rb,ho'.rb,z4.2⟩
structure HLv (w W:World) (va:Option Addr) (vc:Nat) (va1:Option Addr) (vc1:Nat) (v:List UInt8):Prop where
  rv:RB W (.slice va v.length vc) v
  rw':RB W (.slice va1 v.length vc1) v
theorem HLv.on {w W W':World} {va:Option Addr} {vc:Nat} {va1:Option Addr} {vc1:Nat} {v:List UInt8} (h:HLv w W va vc va1 vc1 v) (hb:Below W.heap.size W W'):HLv w W' va vc va1 vc1 v:=⟨h.rv.keep hb,h.rw'.keep hb⟩
set_option maxRecDepth 10000 in
set_option maxHeartbeats 2000000 in
theorem puts3 (HWI:Hid AWI) (bv pv vv':Value) (b v:List UInt8) (p:List (Int × ByteArray)) (w:World) (hr:RB w bv b) (hs:bv = .slice none 0 0 ∨ ∃ ad n c,bv = .slice (some ad) n c) (hl:b.length ≤ 140737488351232) (hrv:RB w vv' v) (hsv:vv' = .slice none 0 0 ∨ ∃ ad n c,vv' = .slice (some ad) n c) (hlv:v.length ≤ 140737488351232) (hP:PSA w.heap.size w pv p) (hPs:pv = .slice none 0 0 ∨ ∃ ad n c,pv = .slice (some ad) n c) (hp:p.length * 24 ≤ 140737488355328) (hks:∀ q ∈ p,q.2.size ≤ 10000000000000) (hev:EVw w) (hT:TB w.heap.size w) :
    Calls Tryz.prog 3 #[bv,pv,vv'] w fun e w'=>e = .returned (.bool true)∧Below w.heap.size w w':=by
  have HR:=Lib.hid (And.intro hr (And.intro hs (And.intro hev (And.intro hT (And.intro hP (And.intro hPs (And.intro hrv hsv)))))))
  have HK:=Lib.hid hks
  obtain ⟨a,c,rfl,_⟩:=hr
  obtain ⟨pa,pc,rfl,_⟩:=hP
  obtain ⟨va,vc,rfl,_⟩:=hrv
  have hp2:p.length ≤ 140737488351232:=by omega
  clear hs hev hT hPs hsv hks
  go_enter Tryz.func3,Tryz.ntmps3
  go_wp2_with fail
  refine (twin13 _ b w HR.out.1 HR.out.2.1 hl).mono ?_
  rintro e w1 ⟨v1,rfl,ho,hb1⟩
  obtain ⟨a1,c1,rfl⟩:=ho.form'
  have H1:Hid (RB w1 (.slice a1 b.length c1) b∧Below w.heap.size w w1):=⟨ho.rb,hb1⟩
  clear ho hb1
  go_wp2_with fail
  refine (twin13 _ v w1 (HR.out.2.2.2.2.2.2.1.keep H1.out.2) HR.out.2.2.2.2.2.2.2 hlv).mono ?_
  rintro e w2 ⟨v2,rfl,ho,hb2⟩
  obtain ⟨va1,vc1,rfl⟩:=ho.form'
  have H2:Hid (RB w2 (.slice a1 b.length c1) b∧RB w2 (.slice va1 v.length vc1) v∧Below w.heap.size w w2):=⟨H1.out.1.keep hb2,ho.rb,H1.out.2.trans (hb2.mono H1.out.2.size)⟩
  clear ho hb2 H1
  go_wp2_with fail
  refine (twinSteps15 _ p w2 (HR.out.2.2.2.2.1.on H2.out.2.2) HR.out.2.2.2.2.2.1 hp).mono ?_
  rintro e w3 ⟨v3,rfl,ho,hb3⟩
  obtain ⟨pa1,pc1,rfl,hcap⟩:∃ pa1 pc1,v3 = .slice pa1 p.length pc1∧p.length ≤ pc1:=by
    obtain ⟨_,h⟩:=ho
    rcases h with ⟨rfl,h0⟩ | ⟨g,cap,cur,rfl,hB,hg,hc,hm,hs,ht⟩
    · exact ⟨none,0,by rw [h0],by omega⟩
    · exact ⟨_,cap,rfl,by omega⟩
  have H3:Hid (HLaw w w3 a c a1 c1 b pa pc pa1 pc1 p∧HLv w w3 va vc va1 vc1 v):=by
    have hB:=H2.out.2.2.trans (hb3.mono H2.out.2.2.size)
    exact ⟨⟨HR.out.1.keep hB,H2.out.1.keep hb3,HR.out.2.2.2.2.1.on hB,(PSA.of_own ho).1,HR.out.2.2.1.keep hB,tb_up (HR.out.2.2.2.1.on hB) hB.size,hB⟩,⟨HR.out.2.2.2.2.2.2.1.keep hB,H2.out.2.1.keep hb3⟩⟩
  have HSV:=Lib.hid HR.out.2.2.2.2.2.2.2
  clear ho hb3 H2 HR
  go_wp2_with fail
  refine (put7 a va c vc b v w3 pa pc p H3.out.1.rb H3.out.2.rv HSV.out H3.out.1.ev H3.out.1.tb H3.out.1.pp hp2 HK.out).mono ?_
  rintro e w4 ⟨v4,er4,rfl,hp4,hb4⟩
  have H4:Hid (HLaw w w4 a c a1 c1 b pa pc pa1 pc1 p∧HLv w w4 va vc va1 vc1 v∧PSP b v p w4 v4 er4):=⟨H3.out.1.on hb4,H3.out.2.on hb4,hp4⟩
  clear hb4 hp4 H3
  go_wp2_with fail
  refine (put8 HWI a1 va1 c1 vc1 b v w4 pa1 pc1 p H4.out.1.rc H4.out.2.1.rw' hl hlv H4.out.1.tb H4.out.1.pw hcap hp2 HK.out).mono ?_
  rintro e w5 ⟨v5,er5,rfl,hp5,hb5⟩
  obtain ⟨rfl,l,hl4,hl5,hll⟩:=psp_rb H4.out.2.2 hp5
  have H5:Hid (HLaw w w5 a c a1 c1 b pa pc pa1 pc1 p∧HLv w w5 va vc va1 vc1 v∧RB w5 v4 l∧RB w5 v5 l):=⟨H4.out.1.on hb5,H4.out.2.1.on hb5,hl4.keep hb5,hl5⟩
  clear hb5 hp5 hl4 hl5 H4
  go_wp2_with fail
  refine (same9 _ _ l _ (by omega) H5.out.2.2.1 H5.out.2.2.2).mono ?_
  rintro e w6 ⟨rfl,nq,rfl⟩
  have H6:Hid (HLaw w (w5.drewN nq) a c a1 c1 b pa pc pa1 pc1 p∧HLv w (w5.drewN nq) va vc va1 vc1 v):=⟨H5.out.1.on ⟨rfl,rfl,rfl,Nat.le_refl _,fun _ _=>rfl⟩,H5.out.2.1.on ⟨rfl,rfl,rfl,Nat.le_refl _,fun _ _=>rfl⟩⟩
  clear H5
  generalize w5.drewN nq = w6 at *
  go_wp2_with fail
  refine (same9 _ _ b _ hl H6.out.1.rb H6.out.1.rc).mono ?_
  rintro e w7 ⟨rfl,nq2,rfl⟩
  have H7:Hid (HLaw w (w6.drewN nq2) a c a1 c1 b pa pc pa1 pc1 p∧HLv w (w6.drewN nq2) va vc va1 vc1 v):=⟨H6.out.1.on ⟨rfl,rfl,rfl,Nat.le_refl _,fun _ _=>rfl⟩,H6.out.2.on ⟨rfl,rfl,rfl,Nat.le_refl _,fun _ _=>rfl⟩⟩
  clear H6
  generalize w6.drewN nq2 = w7 at *
  go_wp2_with fail
  refine (same9 _ _ v _ hlv H7.out.2.rv H7.out.2.rw').mono ?_
  rintro e w8 ⟨rfl,nq3,rfl⟩
  have H8:Hid (HLaw w (w7.drewN nq3) a c a1 c1 b pa pc pa1 pc1 p):=H7.out.1.on ⟨rfl,rfl,rfl,Nat.le_refl _,fun _ _=>rfl⟩
  clear H7
  generalize w7.drewN nq3 = w8 at *
  go_wp2_with fail
  refine (stepsSame19 _ _ p _ hp2 H8.out.pp H8.out.pw).mono ?_
  rintro e w9 ⟨rfl,hb9⟩
  have HC:Hid (Below w.heap.size w w9):=H8.out.bel.trans (hb9.mono H8.out.bel.size)
  clear H8 hb9
  go_wp2
  go_ret
  exact ⟨rfl,HC.out⟩
end Go.Proofs.YtdlnnnlmlaploabGreatDoor
