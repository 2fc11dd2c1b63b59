import Derived.Test.YtfjjpbebnoghmaaGreatDoorK00
import Derived.Test.YtfjjpbebnoghmaaGreatDoorK36
import Derived.Test.YtfjjpbebnoghmaaGreatDoorK29
import Derived.Test.YtfjjpbebnoghmaaGreatDoorK25
import Derived.Test.YtfjjpbebnoghmaaGreatDoorK30
import Derived.Test.YtfjjpbebnoghmaaGreatDoorK10
import Derived.Test.YtfjjpbebnoghmaaGreatDoorK24
import Derived.Test.YtfjjpbebnoghmaaGreatDoorK35
import Derived.Test.YtfjjpbebnoghmaaGreatDoorK34
namespace Go.Proofs.YtfjjpbebnoghmaaGreatDoor
open Go.RowKit
theorem val_i {m:Mv} (h:valE m = 0):0≤m.i:=by
  unfold valE at h
  cases hr:rowFor m.k with
  | none=>rw [hr] at h; simp at h
  | some r =>
    rw [hr] at h
    simp only at h
    have hf:frn (blks r.cs m) = false:=by
      cases hx:frn (blks r.cs m) with
      | false=>rfl
      | true=>rw [hx] at h; simp at h
    rw [hf] at h
    simp only [Bool.false_eq_true,if_false] at h
    have hl:lks r.cs m = true:=by
      cases hx:lks r.cs m with
      | true=>rfl
      | false=>rw [hx] at h; simp at h
    have hm:=(rowFor_mem hr).1
    clear h hr
    simp only [rws,List.mem_cons,List.not_mem_nil,or_false] at hm
    rcases hm with rfl | rfl | rfl | rfl | rfl | rfl | rfl | rfl | rfl | rfl | rfl | rfl | rfl | rfl <;> (simp [Kr.cs,List.takeWhile,blks,blk,frn] at hf; simp [Kr.cs,List.takeWhile,lks,lk,rng] at hl; omega)
theorem FP.says {w w':World} {g R:Nat} {P:Pv} {L:List Int} {H:List UInt8} {p s:Nat} {held:List UInt8} {hv:Value} (h:FP w g R P L H p s held hv) (f:Fm.Fr (fun k=>k≠g) w w') {a b c:Bool} (hk:PK w' g { P with wc:=a,wi:=b,wb:=c }):FP w' g R { P with wc:=a,wi:=b,wb:=c } L H p s held hv:=by
  have hgR:=h.gR
  exact ⟨hk,h.stp,h.why,h.gR,h.g1,h.b0,h.b1,h.lok,own_at h.lo (fun k hk _=>f.block k (own_ge h.lo hk).2 (h.lj k hk).1),h.lj,own_at h.ho (fun k hk _=>f.block k (own_ge h.ho hk).2 (h.hj k hk).1),h.hj,h.hl,(f.block R h.rk.lt (by omega)).trans h.rk,h.st,own_at h.ow (fun k hk _=>f.block k (own_ge h.ow hk).2 (by have:=(own_ge h.ow hk).1; omega)),h.nil,h.kt.fr f h.g1,MT.fr h.mt f h.g1⟩
theorem QP.says {w w':World} {g S:Nat} {Q:Rv} {L:List Int} {H A:List UInt8} {av:Value} (h:QP w g S Q L H A av) (f:Fm.Fr (fun k=>k≠g) w w') (k:Int) (hk:RQ w' g (Q.say k)):QP w' g S (Q.say k) L H A av:=by
  have hgS:=h.gS
  exact ⟨hk,h.go,h.rp,h.gS,h.b0,h.b1,h.lok,own_at h.lo (fun k hk _=>f.block k (own_ge h.lo hk).2 (h.lj k hk).1),h.lj,own_at h.ho (fun k hk _=>f.block k (own_ge h.ho hk).2 (h.hj k hk).1),h.hj,h.hl,(f.block S h.rf.lt (by omega)).trans h.rf,own_at h.ow (fun k hk _=>f.block k (own_ge h.ow hk).2 (by have:=(own_ge h.ow hk).1; omega)),h.nil⟩
theorem BB.say {w:World} {g R:Nat} {P:Pv} {G S:Nat} {Q:Rv} {H:List UInt8} {Z Y:Nat→Prop} {n:Nat} (h:BB w g R P G S Q H Z Y n) (bd:∀ k,Z k∨Y k→1 < k∧k < w.heap.size) (dj:∀ k,Z k→¬ Y k) (m1 m:Mv) (D hb:List UInt8) (hm1:MM w m1 D hb) (he:m1 = { m with d:=m1.d,h:=m1.h }) (hml:sln m1.h≤140737488351232) :
    Calls Tryz.prog 27 #[.pointer (some ⟨g,0,none⟩),.agg m1.cs] w fun e w1=>∃ v fin t,e = .returned (.tuple #[v,.int .i64 fin])∧OW w.heap.size w1 v t∧t.length≤140737488351232∧Fm.Fr (fun k=>¬ Z k) w w1 ∧
      ∀ (_:MM w1 m D hb),Calls Tryz.prog 28 #[.pointer (some ⟨G,0,none⟩),.agg m.cs] w1 fun e' w2=>∃ v2 P' Q',e' = .returned (.tuple #[v2,.int .i64 fin])∧OW w1.heap.size w2 v2 t∧Fm.Fr (fun k=>¬ Y k) w1 w2∧BB w2 g R P' G S Q' H Z Y n:=by
  have yz:∀ k,Y k→¬ Z k:=fun k hy hz=>dj k hz hy
  have nil0:∀ (B:Nat) (u:World),OW B u (.slice none 0 0) []:=fun _ _=>World.ownsRow_nil _ _ _ _
  by_cases hw:P.why = 0
  · obtain ⟨L,p,s,held,hv,A,av,met0,bs0,c⟩:=h.al hw
    have hpl:PL w g P L:=⟨h.pk,c.fp.b0,c.fp.b1,Bs.OZ.rz c.fp.lo,c.fp.lok⟩
    have hsd1:sln m1.d≤140737488351232:=by rw [hm1.sd]; exact hm1.dl
    have k1:m1.k = m.k:=by rw [he]
    by_cases hok:valE m1 = 0∧mayE L P m1 D = true
    · obtain ⟨hv0,hmy⟩:=hok
      obtain ⟨d1,d2,d3,d4⟩:=val_bd hv0
      refine (sayOk w g P L hpl hw c.fp.kt c.fp.mt m1 D hb hm1 ⟨d1,d2,d3,d4,hm1.dl⟩ hmy hv0 hml hsd1).mono ?_
      rintro e w1 ⟨v,rfl,hv1,pk1,f1⟩
      have hbk:=back_way m1 hm1.ok D hb hv0 hm1.sd hm1.sh
      have ht:wirB [⟨m1,D,hb⟩] = frm (encB m1 D hb):=by simp [wirB,Mg.fr]
      have hfl:(frm (encB m1 D hb)).length≤140737488351232:=by
        unfold frm
        rw [List.length_append,be4_len]
        have:=hbk.2.2.2.2
        omega
      rw [ht] at hv1
      have f1':Fm.Fr (fun k=>¬ Z k) w w1:=f1.mono (fun k _ hk e=>hk (by rw [e]; exact h.zg))
      refine ⟨v,0,_,rfl,hv1,hfl,f1',fun hm=>?_⟩
      have e1:sln m1.d = sln m.d:=by rw [hm1.sd,hm.sd]
      have e2:sln m1.h = sln m.h:=by have a:=hm1.sh; have b:=hm.sh; omega
      have hval:valE m = 0:=by rw [he,valE_same m _ _ e1 e2] at hv0; exact hv0
      have henc:encB m1 D hb = encB m D hb:=by
        conv=>lhs; rw [he]
        exact encB_same m _ _ D hb e1 e2
      have hmay:rmE L Q.b Q.c Q.ac Q.sd m D = true:=by
        rw [may_same (P:=P) (val_i hval) c.b h.c h.ac c.sd]
        have:mayE L P m1 D = mayE L P m D:=by rw [he]; rfl
        rw [← this]
        exact hmy
      have qp1:QP w1 G S Q L H A av:=c.qp.frZ f1' (yz G h.yg) (yz S c.yS) (fun k hk=>yz k (c.yl k hk)) (fun k hk=>yz k (h.yh k hk)) (fun k hk=>yz k (c.ya k hk))
      have hpq:PQ w1 G Q L:=⟨qp1.rq,qp1.b0,qp1.b1,Bs.OZ.rz qp1.lo,qp1.lok⟩
      obtain ⟨d1,d2,d3,d4⟩:=val_bd hval
      refine (rsayOk w1 G Q L hpq qp1.go m D hb hm ⟨d1,d2,d3,d4,hm.dl⟩ hval hmay (by rw [← henc]; exact hbk.2.2.2.2)).mono ?_
      rintro e w2 ⟨v2,rfl,hv2,rq2,f2⟩
      have f2':Fm.Fr (fun k=>¬ Y k) w1 w2:=f2.mono (fun k _ hk e=>hk (by rw [e]; exact h.yg))
      have zy:∀ k,Z k→k≠G:=fun k hz e=>dj k hz (by rw [e]; exact h.yg)
      have h01:(0:Nat)≠G∧(1:Nat)≠G:=by have:=(bd G (.inr h.yg)).1; omega
      have fp1:=c.fp.says f1 pk1
      have fp2:=fp1.frZ f2 (zy g h.zg) (zy R c.zR) h01.1 h01.2 (fun k hk=>zy k (c.zl k hk)) (fun k hk=>zy k (h.zh k hk)) (fun k hk=>zy k (c.zv k hk))
      have qp2:=qp1.says f2 m.k rq2
      obtain ⟨s1,s2,s3⟩:=say_same Q m.k
      rw [h.ac,h.ai,c.sd] at s1 s2 s3
      refine ⟨v2,_,_,rfl,by rw [henc]; exact hv2,f2',⟨fp2.pk,h.zg,h.b0,fp2.ho,h.zh,h.hl,rq2,h.yg,qp2.ho,h.yh,h.sh,h.gone,h.why,?_,?_,h.c,h.i,h.inf,fun _=>⟨L,p,s,held,hv,A,av,met0,bs0,fp2,qp2,c.rd,c.al,c.hd,?_,c.b,c.zR,c.zl,c.zv,c.yS,c.yl,c.ya⟩⟩⟩
      · show _ = (sy m1.k P.wc P.wi P.wb).1
        rw [k1]
        exact s1
      · show _ = (sy m1.k P.wc P.wi P.wb).2.1
        rw [k1]
        exact s2
      · show _ = (sy m1.k P.wc P.wi P.wb).2.2
        rw [k1]
        exact s3
    · have hno:valE m1≠0∨mayE L P m1 D = false:=by
        by_cases h0:valE m1 = 0
        · right
          cases hx:mayE L P m1 D with
          | false=>rfl
          | true=>exact absurd ⟨h0,hx⟩ hok
        · exact .inl h0
      refine (sayNo w g P L hpl hw c.fp.kt c.fp.mt m1 D hb hm1 hno hml hsd1).mono ?_
      rintro e w1 ⟨rfl,b1⟩
      refine ⟨_,_, [],rfl,nil0 _ _,Nat.zero_le _,Fm.Fr.of_below b1,fun hm=>?_⟩
      have e1:sln m1.d = sln m.d:=by rw [hm1.sd,hm.sd]
      have e2:sln m1.h = sln m.h:=by have a:=hm1.sh; have b:=hm.sh; omega
      have hval:valE m1 = valE m:=by
        conv=>lhs; rw [he]
        exact valE_same m _ _ e1 e2
      have hB:=h.below b1
      have qp1:QP w1 G S Q L H A av:=c.qp.frZ (T:=fun _=>True) (Fm.Fr.of_below b1) trivial trivial (fun _ _=>trivial) (fun _ _=>trivial) (fun _ _=>trivial)
      have hpq:PQ w1 G Q L:=⟨qp1.rq,qp1.b0,qp1.b1,Bs.OZ.rz qp1.lo,qp1.lok⟩
      rw [hval]
      by_cases h0:valE m = 0
      · rw [if_pos h0]
        have hmay:rmE L Q.b Q.c Q.ac Q.sd m D = false:=by
          rw [may_same (P:=P) (val_i h0) c.b h.c h.ac c.sd]
          have:mayE L P m1 D = mayE L P m D:=by rw [he]; rfl
          rw [← this]
          rcases hno with h9 | h9
          · exact absurd (hval.trans h0) h9
          · exact h9
        obtain ⟨d1,d2,d3,d4⟩:=val_bd h0
        refine (rsayMay w1 G Q L hpq qp1.go m D hb hm ⟨d1,d2,d3,d4,hm.dl⟩ h0 hmay).mono ?_
        rintro e w2 ⟨rfl,b2⟩
        exact ⟨_,P,Q,rfl,nil0 _ _,Fm.Fr.of_below b2,hB.below b2⟩
      · rw [if_neg h0]
        refine (rsayNo w1 G Q L hpq qp1.go m D hb hm h0).mono ?_
        rintro e w2 ⟨rfl,b2⟩
        exact ⟨_,P,Q,rfl,nil0 _ _,Fm.Fr.of_below b2,hB.below b2⟩
  · refine (sayGone w g P h.pk (by have:=h.b0; omega) hw m1).mono ?_
    rintro e w1 ⟨rfl,b1⟩
    refine ⟨_,_, [],rfl,nil0 _ _,Nat.zero_le _,Fm.Fr.of_below b1,fun hm=>?_⟩
    have hgo:Q.gone = true:=by rw [h.gone]; simp [hw]
    have hB:=h.below b1
    refine (rsayGone w1 G Q hB.rq hgo m).mono ?_
    rintro e w2 ⟨rfl,b2⟩
    exact ⟨_,P,Q,rfl,nil0 _ _,Fm.Fr.of_below b2,hB.below b2⟩
theorem BB.state {w:World} {g R:Nat} {P:Pv} {G S:Nat} {Q:Rv} {H:List UInt8} {Z Y:Nat→Prop} {n:Nat} (h:BB w g R P G S Q H Z Y n) :
    Calls Tryz.prog 30 #[.pointer (some ⟨g,0,none⟩)] w fun e w1=>∃ hv,e = .returned (stc P.sh (P.why != 0) P.why P.wc P.wi P.ic P.ii hv)∧OW w.heap.size w1 hv H∧Below w.heap.size w w1∧BB w1 g R P G S Q H Z Y n ∧
      ∀ w1',BB w1' g R P G S Q H Z Y n→Calls Tryz.prog 31 #[.pointer (some ⟨G,0,none⟩)] w1' fun e' w2=>∃ hv2,e' = .returned (stc P.sh (P.why != 0) P.why P.wc P.wi P.ic P.ii hv2)∧OW w1'.heap.size w2 hv2 H∧Below w1'.heap.size w1' w2:=by
  refine (stateT w g P h.pk (by have:=h.b0; omega) H h.hs.rb h.hl).mono ?_
  rintro e w1 ⟨hv,rfl,h1,h2⟩
  refine ⟨hv,rfl,h1,h2,h.below h2,fun w1' h3=>?_⟩
  refine (rStateT w1' G Q h3.rq H h3.hq.rb h.hl).mono ?_
  rintro e w2 ⟨hv2,rfl,h4,h5⟩
  refine ⟨hv2,?_,h4,h5⟩
  unfold Rv.st stc
  rw [h.sh,h.gone,h.why,h.ac,h.ai,h.c,h.i]
theorem BB.greet {w:World} {g R:Nat} {P:Pv} {G S:Nat} {Q:Rv} {H:List UInt8} {Z Y:Nat→Prop} {n:Nat} (h:BB w g R P G S Q H Z Y n) (me:List UInt8) (hme:me.length = 20) :
    Calls Tryz.prog 33 #[.pointer (some ⟨g,0,none⟩),.agg (bc me)] w fun e w1=>∃ v t,e = .returned v∧OW w.heap.size w1 v t∧t.length≤140737488351232∧Below w.heap.size w w1 ∧
      ∀ w1',BB w1' g R P G S Q H Z Y n→Calls Tryz.prog 34 #[.pointer (some ⟨G,0,none⟩),.agg (bc me)] w1' fun e' w2=>∃ v2,e' = .returned v2∧OW w1'.heap.size w2 v2 t∧Below w1'.heap.size w1' w2:=by
  refine (greetP w g P h.pk (by have:=h.b0; omega) me hme).mono ?_
  rintro e w1 ⟨v,rfl,h1,h2⟩
  refine ⟨v,_,rfl,h1,?_,h2,fun w1' h3=>?_⟩
  · have:=h.pk.1
    simp only [List.length_append,this,hme]
    decide
  refine (rgreetT w1' G Q h3.rq me hme).mono ?_
  rintro e w2 ⟨v2,rfl,h4,h5⟩
  refine ⟨v2,rfl,?_,h5⟩
  rw [← h.inf]
  exact h4
set_option maxHeartbeats 400000 in
theorem openN (w:World):Calls Tryz.prog 39 #[.pointer none] w fun e w'=>e = .returned (.int .i64 1)∧w' = w:=by
  have HM:Hid (Calls Tryz.prog 56 #[.pointer none] w fun e w'=>e = .returned (.bool true)∧w' = w):=missingN w
  go_enter Tryz.func39,Tryz.ntmps39
  go_wp2_with fail
  refine HM.out.mono ?_
  rintro e w1 ⟨rfl,rfl⟩
  go_wp2
  go_ret
  exact ⟨rfl,rfl⟩
set_option maxHeartbeats 400000 in
theorem feedNilP (w:World) (a:Option Addr) (n c:Nat):Calls Tryz.prog 20 #[.pointer none,.slice a n c] w fun e w'=>e = .returned (.tuple #[.slice none 0 0,.int .i64 1])∧w' = w:=by
  have HO:Hid (Calls Tryz.prog 39 #[.pointer none] w fun e w'=>e = .returned (.int .i64 1)∧w' = w):=openN w
  go_enter Tryz.func20,Tryz.ntmps20
  go_wp2_with fail
  refine HO.out.mono ?_
  rintro e w1 ⟨rfl,rfl⟩
  go_wp2
  go_ret2
  exact ⟨rfl,rfl⟩
set_option maxHeartbeats 400000 in
theorem sayNilP (w:World) (m:Mv):Calls Tryz.prog 27 #[.pointer none,.agg m.cs] w fun e w'=>e = .returned (.tuple #[.slice none 0 0,.int .i64 1])∧Below w.heap.size w w':=by
  have HB:Hid (Below w.heap.size w (w.alloc (.cells m.cs 40))):=(Below.refl _ _).alloc (Nat.le_refl _) _
  have HO:Hid (Calls Tryz.prog 39 #[.pointer none] (w.alloc (.cells m.cs 40)) fun e w'=>e = .returned (.int .i64 1)∧w' = w.alloc (.cells m.cs 40)):=openN _
  generalize m.cs = mcs at *
  go_enter Tryz.func27,Tryz.ntmps27
  go_wp2_with fail
  refine HO.out.mono ?_
  rintro e w0 ⟨rfl,rfl⟩
  go_wp2
  go_ret2
  exact ⟨rfl,HB.out⟩
set_option maxHeartbeats 1000000 in
set_option maxRecDepth 100000 in
theorem stateNilP (w:World):Calls Tryz.prog 30 #[.pointer none] w fun e w'=>e = .returned (.agg z8)∧Below w.heap.size w w':=by
  have hg:(w.alloc (.cells z8 61)).heap[w.heap.size]? = some (.cells z8 61 (0,0)):=heapNew w _
  have HB:Hid (Below w.heap.size w ((w.alloc (.cells z8 61)).setRow w.heap.size z8)):=belowSetRow ((Below.refl _ _).alloc (Nat.le_refl _) _) (Nat.le_refl _) _
  have hg2:=heapSetRow _ _ _ z8 _ hg
  have hi:(Tryz.prog.info? 61).map (·.size) = some z8.size:=by kernel_rfl
  have ho:z8.all (·.oneCell') = true:=by kernel_rfl
  have HM:Hid (Calls Tryz.prog 56 #[.pointer none] (w.alloc (.cells z8 61)) fun e w'=>e = .returned (.bool true)∧w' = w.alloc (.cells z8 61)):=missingN _
  go_enter Tryz.func30,Tryz.ntmps30
  go_wp2_with fail
  refine HM.out.mono ?_
  rintro e w1 ⟨rfl,rfl⟩
  go_wp2_with (first |(refine wpList_store_row rfl 61 _ _ rfl w.heap.size z8 rfl rfl 61 z8 hg hi rfl ho ?_))
  (try simp only [Exit.inBlock,Exit.then]); refine bodyPost_ret (results_state rfl _ _ w.heap.size z8 rfl hg2 rfl) rfl ?_
  exact ⟨rfl,HB.out⟩
set_option maxHeartbeats 1000000 in
set_option maxRecDepth 100000 in
theorem greetNilP (w:World) (me:List UInt8):Calls Tryz.prog 33 #[.pointer none,.agg (bc me)] w fun e w'=>e = .returned (.slice none 0 0)∧Below w.heap.size w w':=by
  have HB:Hid (Below w.heap.size w (w.alloc (.cells (bc me) 41))):=(Below.refl _ _).alloc (Nat.le_refl _) _
  have HM:Hid (Calls Tryz.prog 56 #[.pointer none] (w.alloc (.cells (bc me) 41)) fun e w'=>e = .returned (.bool true)∧w' = w.alloc (.cells (bc me) 41)):=missingN _
  generalize bc me = mb at *
  go_enter Tryz.func33,Tryz.ntmps33
  go_wp2_with fail
  refine HM.out.mono ?_
  rintro e w1 ⟨rfl,rfl⟩
  go_wp2
  go_ret
  exact ⟨rfl,HB.out⟩
structure BT (w:World) (pv qv:Value) (Z Y:Nat→Prop) (n:Nat):Prop where
  bd:∀ k,Z k∨Y k→1 < k∧k < w.heap.size
  dj:∀ k,Z k→¬ Y k
  st:(pv = .pointer none∧qv = .pointer none)∨∃ g R P G S Q H,pv = .pointer (some ⟨g,0,none⟩)∧qv = .pointer (some ⟨G,0,none⟩)∧BB w g R P G S Q H Z Y n
theorem BT.fr {w w':World} {pv qv:Value} {Z Y T:Nat→Prop} {n:Nat} (h:BT w pv qv Z Y n) (f:Fm.Fr T w w') (hz:∀ k,Z k→T k) (hy:∀ k,Y k→T k) (h0:T 0) (h1:T 1):BT w' pv qv Z Y n:=
  ⟨fun k hk=>⟨(h.bd k hk).1,Nat.lt_of_lt_of_le (h.bd k hk).2 f.size⟩,h.dj,h.st.imp id (fun ⟨g,R,P,G,S,Q,H,a,b,c⟩=>⟨g,R,P,G,S,Q,H,a,b,c.fr f hz hy h0 h1⟩)⟩
theorem BT.below {w w':World} {pv qv:Value} {Z Y:Nat→Prop} {n:Nat} (h:BT w pv qv Z Y n) (hb:Below w.heap.size w w'):BT w' pv qv Z Y n:=h.fr (T:=fun _=>True) (Fm.Fr.of_below hb) (fun _ _=>trivial) (fun _ _=>trivial) trivial trivial
theorem BT.more {w:World} {pv qv:Value} {Z Y:Nat→Prop} {n m:Nat} (h:BT w pv qv Z Y n) (hn:n≤m):BT w pv qv Z Y m:=
  ⟨h.bd,h.dj,h.st.imp id (fun ⟨g,R,P,G,S,Q,H,a,b,c⟩=>⟨g,R,P,G,S,Q,H,a,b,c.mono (fun _ x=>x) (fun _ x=>x) hn⟩)⟩
theorem BT.feed {w:World} {pv qv:Value} {Z Y:Nat→Prop} {n:Nat} (h:BT w pv qv Z Y n) (bv:Value) (l:List UInt8) (hb:Fm.RN (fun k=>¬ Z k) w bv l) (hn:n + l.length≤16777216) :
    Calls Tryz.prog 20 #[pv,bv] w fun e w1=>∃ ev fin es,e = .returned (.tuple #[ev,.int .i64 fin])∧EVS w.heap.size w1 ev es∧(es.filterMap (fun e=>e.x.m.d.ownBlock)).Nodup∧es.length≤107374182∧Fm.Fr (fun k=>¬ Z k) w w1 ∧
      ∀ dv,RB w1 dv l→Calls Tryz.prog 21 #[qv,dv] w1 fun e' w2=>∃ kv ys,e' = .returned (.tuple #[kv,.int .i64 fin])∧EVS w1.heap.size w2 kv ys∧EvQ es ys∧Fm.Fr (fun k=>¬ Y k) w1 w2 ∧
        BT w2 pv qv (fun k=>Z k∨(w.heap.size≤k∧k < w1.heap.size∧¬ eb ev es k)) (fun k=>Y k∨(w1.heap.size≤k∧k < w2.heap.size)) (n + l.length):=by
  obtain ⟨bd,dj,⟨rfl,rfl⟩ | ⟨g,R,P,G,S,Q,H,rfl,rfl,h⟩⟩:=h
  · obtain ⟨a,c,rfl,_⟩:=hb
    refine (feedNilP w a l.length c).mono ?_
    rintro e w1 ⟨rfl,rfl⟩
    refine ⟨_,_, [],rfl,EVS.nil _ _,List.nodup_nil,Nat.zero_le _,Fm.Fr.refl _ _,fun dv hdv=>?_⟩
    refine (rfeedNil w1 dv).mono ?_
    rintro e w2 ⟨rfl,rfl⟩
    refine ⟨_, [],rfl,EVS.nil _ _,⟨rfl,fun k x y h=>by simp at h⟩,Fm.Fr.refl _ _,⟨fun k hk=>?_,fun k hk hy=>?_,.inl ⟨rfl,rfl⟩⟩⟩
    · rcases hk with (hk | ⟨_,h2,_⟩) |(hk | ⟨_,h2⟩)
      · exact bd k (.inl hk)
      · omega
      · exact bd k (.inr hk)
      · omega
    · rcases hk with hk | ⟨_,h2,_⟩
      · rcases hy with hy | ⟨_,h2⟩
        · exact dj k hk hy
        · omega
      · omega
  · refine (h.feed bd dj bv l hb hn).mono ?_
    rintro e w1 ⟨ev,fin,es,rfl,h1,h2,h3,h4,h5⟩
    refine ⟨ev,fin,es,rfl,h1,h2,h3,h4,fun dv hdv=>(h5 dv hdv).mono ?_⟩
    rintro e w2 ⟨kv,ys,P',Q',H',rfl,q1,q2,q3,q4⟩
    have hs1:=h4.size
    have hs2:=q3.size
    have hg1:=(bd g (.inl h.zg)).1
    have hgl:=h.pk.lt
    refine ⟨kv,ys,rfl,q1,q2,q3,⟨fun k hk=>?_,fun k hk hy=>?_,.inr ⟨g,R,P',G,S,Q',H',rfl,rfl,q4⟩⟩⟩
    · rcases hk with (hk | ⟨a1,a2,_⟩) |(hk | ⟨a1,a2⟩)
      · have:=bd k (.inl hk); omega
      · omega
      · have:=bd k (.inr hk); omega
      · omega
    · rcases hk with hk | ⟨a1,a2,_⟩
      · rcases hy with hy | ⟨b1,b2⟩
        · exact dj k hk hy
        · have:=bd k (.inl hk); omega
      · rcases hy with hy | ⟨b1,b2⟩
        · have:=bd k (.inr hy); omega
        · omega
theorem BT.say {w:World} {pv qv:Value} {Z Y:Nat→Prop} {n:Nat} (h:BT w pv qv Z Y n) (m1 m:Mv) (D hb:List UInt8) (hm1:MM w m1 D hb) (he:m1 = { m with d:=m1.d,h:=m1.h }) (hml:sln m1.h≤140737488351232) :
    Calls Tryz.prog 27 #[pv,.agg m1.cs] w fun e w1=>∃ v fin t,e = .returned (.tuple #[v,.int .i64 fin])∧OW w.heap.size w1 v t∧t.length≤140737488351232∧Fm.Fr (fun k=>¬ Z k) w w1 ∧
      ∀ (_:MM w1 m D hb),Calls Tryz.prog 28 #[qv,.agg m.cs] w1 fun e' w2=>∃ v2,e' = .returned (.tuple #[v2,.int .i64 fin])∧OW w1.heap.size w2 v2 t∧Fm.Fr (fun k=>¬ Y k) w1 w2∧BT w2 pv qv Z Y n:=by
  obtain ⟨bd,dj,⟨rfl,rfl⟩ | ⟨g,R,P,G,S,Q,H,rfl,rfl,h⟩⟩:=h
  · refine (sayNilP w m1).mono ?_
    rintro e w1 ⟨rfl,b1⟩
    refine ⟨_,_, [],rfl,World.ownsRow_nil _ _ _ _,Nat.zero_le _,Fm.Fr.of_below b1,fun hm=>?_⟩
    refine (rsayNil w1 m).mono ?_
    rintro e w2 ⟨rfl,b2⟩
    exact ⟨_,rfl,World.ownsRow_nil _ _ _ _,Fm.Fr.of_below b2,⟨fun k hk=>⟨(bd k hk).1,Nat.lt_of_lt_of_le (bd k hk).2 (Nat.le_trans b1.size b2.size)⟩,dj,.inl ⟨rfl,rfl⟩⟩⟩
  · refine (h.say bd dj m1 m D hb hm1 he hml).mono ?_
    rintro e w1 ⟨v,fin,t,rfl,h1,h2,h3,h4⟩
    refine ⟨v,fin,t,rfl,h1,h2,h3,fun hm=>(h4 hm).mono ?_⟩
    rintro e w2 ⟨v2,P',Q',rfl,q1,q2,q3⟩
    exact ⟨v2,rfl,q1,q2,⟨fun k hk=>⟨(bd k hk).1,Nat.lt_of_lt_of_le (bd k hk).2 (Nat.le_trans h3.size q2.size)⟩,dj,.inr ⟨g,R,P',G,S,Q',H,rfl,rfl,q3⟩⟩⟩
theorem BT.state {w:World} {pv qv:Value} {Z Y:Nat→Prop} {n:Nat} (h:BT w pv qv Z Y n) :
    Calls Tryz.prog 30 #[pv] w fun e w1=>∃ a b y c d e' f hv H,e = .returned (stc a b y c d e' f hv)∧OW w.heap.size w1 hv H∧H.length≤140737488351232∧Below w.heap.size w w1 ∧
      ∀ w1',Below w.heap.size w w1'→Calls Tryz.prog 31 #[qv] w1' fun e2 w2=>∃ hv2,e2 = .returned (stc a b y c d e' f hv2)∧OW w1'.heap.size w2 hv2 H∧Below w1'.heap.size w1' w2:=by
  obtain ⟨bd,dj,⟨rfl,rfl⟩ | ⟨g,R,P,G,S,Q,H,rfl,rfl,h⟩⟩:=h
  · refine (stateNilP w).mono ?_
    rintro e w1 ⟨rfl,b1⟩
    refine ⟨false,false,0,false,false,false,false,.slice none 0 0, [],rfl,World.ownsRow_nil _ _ _ _,Nat.zero_le _,b1,fun w1' _=>?_⟩
    refine (rstateNil w1').mono ?_
    rintro e w2 ⟨rfl,b2⟩
    exact ⟨.slice none 0 0,rfl,World.ownsRow_nil _ _ _ _,b2⟩
  · refine h.state.mono ?_
    rintro e w1 ⟨hv,rfl,h1,h2,h3,h4⟩
    exact ⟨_,_,_,_,_,_,_,hv,H,rfl,h1,h.hl,h2,fun w1' hb=>h4 w1' (h.below hb)⟩
theorem BT.greet {w:World} {pv qv:Value} {Z Y:Nat→Prop} {n:Nat} (h:BT w pv qv Z Y n) (me:List UInt8) (hme:me.length = 20) :
    Calls Tryz.prog 33 #[pv,.agg (bc me)] w fun e w1=>∃ v t,e = .returned v∧OW w.heap.size w1 v t∧t.length≤140737488351232∧Below w.heap.size w w1 ∧
      ∀ w1',Below w.heap.size w w1'→Calls Tryz.prog 34 #[qv,.agg (bc me)] w1' fun e' w2=>∃ v2,e' = .returned v2∧OW w1'.heap.size w2 v2 t∧Below w1'.heap.size w1' w2:=by
  obtain ⟨bd,dj,⟨rfl,rfl⟩ | ⟨g,R,P,G,S,Q,H,rfl,rfl,h⟩⟩:=h
  · refine (greetNilP w me).mono ?_
    rintro e w1 ⟨rfl,b1⟩
    refine ⟨_, [],rfl,World.ownsRow_nil _ _ _ _,Nat.zero_le _,b1,fun w1' _=>?_⟩
    refine (rgreetNil w1' me).mono ?_
    rintro e w2 ⟨rfl,b2⟩
    exact ⟨_,rfl,World.ownsRow_nil _ _ _ _,b2⟩
  · refine (h.greet me hme).mono ?_
    rintro e w1 ⟨v,t,rfl,h1,h2,h3,h4⟩
    exact ⟨v,t,rfl,h1,h2,h3,fun w1' hb=>h4 w1' (h.below hb)⟩
structure Oo where
  k:Int
  on:Bool
  dv:Value
  D:List UInt8
  x:Mg
  me:List UInt8
def Oo.ls (u:Oo):List Value:=.int .i64 u.k :: .bool u.on :: u.dv :: (u.x.m.ls ++ Lib.byteCells u.me)
def Oo.cs (u:Oo):Array Value:=u.ls.toArray
structure RU (w:World) (u:Oo):Prop where
  d:RB w u.dv u.D
  m:MM w u.x.m u.x.D u.x.hb
  me:u.me.length = 20
  dl:u.D.length≤1048576
theorem RU.keep {w w':World} {u:Oo} (h:RU w u) (hb:Below w.heap.size w w'):RU w' u:=⟨h.d.keep hb,h.m.keep hb,h.me,h.dl⟩
def UB (w:World) (g:Nat) (u:Oo):Prop:=w.heap[g]? = some (.cells u.cs 43 (0,0))
theorem UB.lt {w:World} {g:Nat} {u:Oo} (h:UB w g u):g < w.heap.size:=(Array.getElem?_eq_some_iff.1 h).1
theorem UB.at {w:World} {g:Nat} {u:Oo} (h:UB w g u) (j:Nat):w.cell? ⟨g,j,none⟩ = u.ls[j]?:=by
  simp only [World.cell?,(show w.heap[g]? = _ from h)]
  simp [Oo.cs]
theorem UB.c0 {w:World} {g:Nat} {u:Oo} (h:UB w g u):w.cell? ⟨g,0,none⟩ = some (.int .i64 u.k):=h.at 0
theorem UB.c2 {w:World} {g:Nat} {u:Oo} (h:UB w g u):w.cell? ⟨g,2,none⟩ = some u.dv:=h.at 2
theorem UB.msg {w:World} {g:Nat} {u:Oo} (h:UB w g u):w.rangeAt g 3 u.x.m.ls:=fun j v hj=>by
  rw [h.at (3 + j)]
  have hlt:=(List.getElem?_eq_some_iff.1 hj).1
  show (.int .i64 u.k :: .bool u.on :: u.dv :: (u.x.m.ls ++ Lib.byteCells u.me))[3 + j]? = some v
  rw [Nat.add_comm]
  simp only [List.getElem?_cons_succ]
  rw [List.getElem?_append_left hlt]
  exact hj
theorem UB.meR {w:World} {g:Nat} {u:Oo} (h:UB w g u) (ok:u.x.m.ok):w.rangeAt g 43 (Lib.byteCells u.me):=fun j v hj=>by
  rw [h.at (43 + j)]
  show (.int .i64 u.k :: .bool u.on :: u.dv :: (u.x.m.ls ++ Lib.byteCells u.me))[43 + j]? = some v
  rw [show 43 + j = (40 + j) + 1 + 1 + 1 by omega]
  simp only [List.getElem?_cons_succ]
  rw [List.getElem?_append_right (by rw [ok_ls ok]; omega),ok_ls ok,show 40 + j - 40 = j by omega]
  exact hj
theorem UB.keep {w w':World} {g:Nat} {u:Oo} (h:UB w g u) (hb:w'.heap[g]? = w.heap[g]?):UB w' g u:=hb.trans h
theorem UB.below {w w':World} {g:Nat} {u:Oo} (h:UB w g u) (hb:Below w.heap.size w w'):UB w' g u:=h.keep (hb.block g h.lt)
theorem info_msgL {m:Mv} (ok:m.ok):(Tryz.prog.info? 40).map (·.size) = some m.ls.length:=by
  have:=info_msg ok
  rw [ok.size] at this
  rw [ok_ls ok]
  exact this
theorem info_meL {l:List UInt8} (h:l.length = 20):(Tryz.prog.info? 41).map (·.size) = some (Lib.byteCells l).length:=by rw [bcl_len,h]; exact info20
theorem BT.low {w w':World} {pv qv:Value} {Z Y:Nat→Prop} {n B:Nat} (h:BT w pv qv Z Y n) (hk:∀ k,Z k∨Y k→k < B) (hB:1 < B) (hb:Below B w w'):BT w' pv qv Z Y n:=
  h.fr (T:=fun k=>k < B) ⟨hb.os,hb.tape,hb.output,hb.size,fun k _ h=>hb.block k h⟩ (fun k x=>hk k (.inl x)) (fun k x=>hk k (.inr x)) (by omega) hB
def SEnd (w:World) (pv qv:Value) (Z Y:Nat→Prop) (n:Nat) (w':World):Prop:=∃ Z' Y',BT w' pv qv Z' Y' n∧Fm.Fr (fun k=>¬ Z k∧¬ Y k) w w'∧∀ k,Z' k∨Y' k→(Z k∨Y k)∨w.heap.size≤k
theorem SEnd.below {w w':World} {pv qv:Value} {Z Y:Nat→Prop} {n m:Nat} (h:BT w pv qv Z Y n) (hb:Below w.heap.size w w') (hn:n≤m):SEnd w pv qv Z Y m w':=⟨Z,Y,(h.below hb).more hn,Fm.Fr.of_below hb,fun _ h=>.inl h⟩
set_option maxHeartbeats 1000000 in
set_option maxRecDepth 100000 in
theorem stepGreet (W w:World) (pv qv:Value) (Z Y:Nat→Prop) (n:Nat) (u:Oo) (ru:RU W u) (bt:BT w pv qv Z Y n) (hk:u.k = 4) :
    Calls Tryz.prog 10 #[pv,qv,.agg u.cs] w fun e w'=>e = .returned (.bool true)∧SEnd w pv qv Z Y (n + u.D.length) w':=by
  have HBT:=Lib.hid bt
  have b0:Below w.heap.size w (w.alloc (.cells u.cs 43)):=(Below.refl _ _).alloc (Nat.le_refl _) _
  have HB0:=Lib.hid b0
  have hu:UB (w.alloc (.cells u.cs 43)) w.heap.size u:=heapNew w _
  have HU:=Lib.hid hu
  have c0:=hu.c0
  rw [hk] at c0
  have HR:=Lib.hid (hu.meR ru.m.ok)
  have hi20:=info_meL ru.me
  have HG:=Lib.hid ((bt.below b0).greet u.me ru.me)
  have HOK:=Lib.hid ru.m.ok
  clear hu b0 bt hk ru
  go_enter Tryz.func10,Tryz.ntmps10
  go_wp2_with (first |(refine wpList_load_mid rfl 41 _ rfl w.heap.size 43 rfl (Lib.byteCells u.me) _ HR.out Tryz.underlying41 rfl hi20 ?_))
  refine HG.out.mono ?_
  rintro e w1 ⟨v,t,rfl,o1,tl,b1,hsec⟩
  obtain ⟨va,vc,rfl⟩:=o1.form
  have HU1:Hid (UB w1 w.heap.size u):=HU.out.below b1
  have HR1:=Lib.hid (HU1.out.meR HOK.out)
  have H1:=Lib.hid (And.intro o1 (And.intro tl (And.intro b1 (hsec w1 b1))))
  clear o1 tl b1 hsec HR HG c0
  go_wp2_with (first |(refine wpList_load_mid rfl 41 _ rfl w.heap.size 43 rfl (Lib.byteCells u.me) _ HR1.out Tryz.underlying41 rfl hi20 ?_))
  refine H1.out.2.2.2.mono ?_
  rintro e w2 ⟨v2,rfl,o2,b2⟩
  obtain ⟨xa,xc,rfl⟩:=o2.form
  have HS:=Lib.hid (same _ _ t w2 H1.out.2.1 (H1.out.1.rb.keep b2) o2.rb)
  have HB2:=Lib.hid b2
  have HO1:Hid (OW (w.alloc (.cells u.cs 43)).heap.size w2 (.slice va t.length vc) t):=H1.out.1.grow b2
  clear o2 b2
  go_wp2_with fail
  refine HS.out.mono ?_
  rintro e w3 ⟨rfl,nq,rfl⟩
  have HSp:=Lib.hid (spoilBytesT (w2.drewN nq) (w.alloc (.cells u.cs 43)).heap.size (.slice va t.length vc) t (HO1.out.grow (belowDrew _ _)) H1.out.2.1)
  go_wp2_with fail
  refine HSp.out.mono ?_
  rintro e w4 ⟨rfl, -,f4⟩
  have HE:Hid (SEnd w pv qv Z Y (n + u.D.length) w4):=by
    have h1:=HB0.out.trans (H1.out.2.2.1.mono HB0.out.size)
    have h2:=h1.trans (HB2.out.mono h1.size)
    have h3:=h2.trans ((belowDrew w2 nq).mono h2.size)
    refine SEnd.below HBT.out (below_fr h3 f4 h3.size (fun k hk e=>?_)) (Nat.le_add_right _ _)
    have:=(own_ge HO1.out e).1
    have:=HB0.out.size
    omega
  clear f4 HSp HS HO1 HB2 H1 HU1 HR1
  go_wp2
  go_ret
  exact ⟨rfl,HE.out⟩
set_option maxHeartbeats 1000000 in
set_option maxRecDepth 100000 in
theorem stepNone (w:World) (pv qv:Value) (Z Y:Nat→Prop) (n:Nat) (u:Oo) (bt:BT w pv qv Z Y n) (k1:¬ u.k = 1) (k2:¬ u.k = 2) (k3:¬ u.k = 3) (k4:¬ u.k = 4) :
    Calls Tryz.prog 10 #[pv,qv,.agg u.cs] w fun e w'=>e = .returned (.bool true)∧SEnd w pv qv Z Y (n + u.D.length) w':=by
  have b0:Below w.heap.size w (w.alloc (.cells u.cs 43)):=(Below.refl _ _).alloc (Nat.le_refl _) _
  have hu:UB (w.alloc (.cells u.cs 43)) w.heap.size u:=heapNew w _
  have c0:=hu.c0
  have HE:Hid (SEnd w pv qv Z Y (n + u.D.length) (w.alloc (.cells u.cs 43))):=SEnd.below bt b0 (Nat.le_add_right _ _)
  have q1:(u.k == 1) = false:=by simp [k1]
  have q2:(u.k == 2) = false:=by simp [k2]
  have q3:(u.k == 3) = false:=by simp [k3]
  have q4:(u.k == 4) = false:=by simp [k4]
  clear hu b0 bt
  generalize u.k = kk at *
  go_enter Tryz.func10,Tryz.ntmps10
  go_wp2
  go_ret
  exact ⟨rfl,HE.out⟩
def stL (a b:Bool) (y:Int) (c d e f:Bool) (hv:Value):Array Value:=#[.bool a,.bool b,.int .i64 y,.bool c,.bool d,.bool e,.bool f,hv]
theorem stc_eq (a b:Bool) (y:Int) (c d e f:Bool) (hv:Value):stc a b y c d e f hv = .agg (stL a b y c d e f hv):=rfl
theorem info_st:(Tryz.prog.info? 61).map (·.size) = some 8:=by kernel_rfl
theorem stL_one (a b:Bool) (y:Int) (c d e f:Bool) (p:Option Addr) (n q:Nat):(stL a b y c d e f (.slice p n q)).all (·.oneCell') = true:=by
  simp [stL,Value.oneCell']
set_option maxHeartbeats 1000000 in
set_option maxRecDepth 100000 in
theorem stepState (w:World) (pv qv:Value) (Z Y:Nat→Prop) (n:Nat) (u:Oo) (bt:BT w pv qv Z Y n) (hk:u.k = 3) :
    Calls Tryz.prog 10 #[pv,qv,.agg u.cs] w fun e w'=>e = .returned (.bool true)∧SEnd w pv qv Z Y (n + u.D.length) w':=by
  have HBT:=Lib.hid bt
  have b0:Below w.heap.size w (w.alloc (.cells u.cs 43)):=(Below.refl _ _).alloc (Nat.le_refl _) _
  have HB0:=Lib.hid b0
  have hu:UB (w.alloc (.cells u.cs 43)) w.heap.size u:=heapNew w _
  have c0:=hu.c0
  rw [hk] at c0
  have HG:=Lib.hid (bt.below b0).state
  clear hu b0 bt hk
  go_enter Tryz.func10,Tryz.ntmps10
  go_wp2_with fail
  refine HG.out.mono ?_
  rintro e w1 ⟨a,b,y,c,d,e',f,v,H,rfl,o1,hl,b1,hsec⟩
  obtain ⟨va,vc,rfl⟩:=o1.form
  rw [stc_eq]
  have hz1:=heapNew w1 (.cells (#[.bool false,.bool false,.int .i64 0,.bool false,.bool false,.bool false,.bool false,.slice none 0 0]:Array Value) 61)
  have hi1:(Tryz.prog.info? 61).map (·.size) = some (stL a b y c d e' f (.slice va H.length vc)).size:=info_st
  have hs1:(#[.bool false,.bool false,.int .i64 0,.bool false,.bool false,.bool false,.bool false,.slice none 0 0]:Array Value).size = (stL a b y c d e' f (.slice va H.length vc)).size:=rfl
  have ho1:=stL_one a b y c d e' f va H.length vc
  have bX:Below w1.heap.size w1 ((w1.alloc (.cells (#[.bool false,.bool false,.int .i64 0,.bool false,.bool false,.bool false,.bool false,.slice none 0 0]:Array Value) 61)).setRow w1.heap.size (stL a b y c d e' f (.slice va H.length vc))):=belowSetRow ((Below.refl _ _).alloc (Nat.le_refl _) _) (Nat.le_refl _) _
  have hgX:=heapSetRow _ _ _ (stL a b y c d e' f (.slice va H.length vc)) _ hz1
  obtain ⟨X1,hX1⟩:∃ X,X = (w1.alloc (.cells (#[.bool false,.bool false,.int .i64 0,.bool false,.bool false,.bool false,.bool false,.slice none 0 0]:Array Value) 61)).setRow w1.heap.size (stL a b y c d e' f (.slice va H.length vc)):=⟨_,rfl⟩
  have HX1:=Lib.hid hX1
  rw [← hX1] at bX hgX
  have bY:Below (w.alloc (.cells u.cs 43)).heap.size (w.alloc (.cells u.cs 43)) X1:=b1.trans (bX.mono b1.size)
  have H1:Hid (OW (w.alloc (.cells u.cs 43)).heap.size X1 (.slice va H.length vc) H∧H.length≤140737488351232∧Below (w.alloc (.cells u.cs 43)).heap.size (w.alloc (.cells u.cs 43)) X1∧SV X1 w1.heap.size (stL a b y c d e' f (.slice va H.length vc))):=⟨o1.grow bX,hl,bY,hgX⟩
  have H2:=Lib.hid (hsec X1 bY)
  clear o1 hl b1 hsec HG c0 bX hgX bY hX1
  go_wp2_with (first |(refine wpList_store_row rfl 61 _ _ rfl w1.heap.size (stL a b y c d e' f (.slice va H.length vc)) rfl rfl 61 (#[.bool false,.bool false,.int .i64 0,.bool false,.bool false,.bool false,.bool false,.slice none 0 0]:Array Value) hz1 hi1 hs1 ho1 ?_; rw [← HX1.out]))
  refine H2.out.mono ?_
  rintro e w2 ⟨v2,rfl,o2,b2⟩
  obtain ⟨xa,xc,rfl⟩:=o2.form
  rw [stc_eq]
  clear hz1 HX1 H2
  have hz2:=heapNew w2 (.cells (#[.bool false,.bool false,.int .i64 0,.bool false,.bool false,.bool false,.bool false,.slice none 0 0]:Array Value) 61)
  have hi2:(Tryz.prog.info? 61).map (·.size) = some (stL a b y c d e' f (.slice xa H.length xc)).size:=info_st
  have hs2:(#[.bool false,.bool false,.int .i64 0,.bool false,.bool false,.bool false,.bool false,.slice none 0 0]:Array Value).size = (stL a b y c d e' f (.slice xa H.length xc)).size:=rfl
  have ho2:=stL_one a b y c d e' f xa H.length xc
  have bX:Below w2.heap.size w2 ((w2.alloc (.cells (#[.bool false,.bool false,.int .i64 0,.bool false,.bool false,.bool false,.bool false,.slice none 0 0]:Array Value) 61)).setRow w2.heap.size (stL a b y c d e' f (.slice xa H.length xc))):=belowSetRow ((Below.refl _ _).alloc (Nat.le_refl _) _) (Nat.le_refl _) _
  have hgX:=heapSetRow _ _ _ (stL a b y c d e' f (.slice xa H.length xc)) _ hz2
  obtain ⟨X2,hX2⟩:∃ X,X = (w2.alloc (.cells (#[.bool false,.bool false,.int .i64 0,.bool false,.bool false,.bool false,.bool false,.slice none 0 0]:Array Value) 61)).setRow w2.heap.size (stL a b y c d e' f (.slice xa H.length xc)):=⟨_,rfl⟩
  have HX2:=Lib.hid hX2
  rw [← hX2] at bX hgX
  have bY:Below X1.heap.size X1 X2:=b2.trans (bX.mono b2.size)
  have hsv:SV X2 w1.heap.size (stL a b y c d e' f (.slice va H.length vc)):=SV.keep H1.out.2.2.2 bY
  have H3:Hid (SV X2 w1.heap.size (stL a b y c d e' f (.slice va H.length vc))∧OW (w.alloc (.cells u.cs 43)).heap.size X2 (.slice va H.length vc) H∧Below (w.alloc (.cells u.cs 43)).heap.size (w.alloc (.cells u.cs 43)) X2):=⟨hsv,H1.out.1.grow bY,H1.out.2.2.1.trans (bY.mono H1.out.2.2.1.size)⟩
  have HSS:=Lib.hid (stateSameT X2 a b y c d e' f (.slice va H.length vc) (.slice xa H.length xc) H (H1.out.1.grow bY).rb (o2.grow bX).rb H1.out.2.1)
  rw [stc_eq,stc_eq] at HSS
  have hl1:X2.heap[w1.heap.size]? = some (.cells (stL a b y c d e' f (.slice va H.length vc)) 61 (0,0)):=hsv
  have hl2:X2.heap[w2.heap.size]? = some (.cells (stL a b y c d e' f (.slice xa H.length xc)) 61 (0,0)):=hgX
  clear o2 b2 bX hgX hX2 bY hsv
  go_wp2_with (first |(refine wpList_store_row rfl 61 _ _ rfl w2.heap.size (stL a b y c d e' f (.slice xa H.length xc)) rfl rfl 61 (#[.bool false,.bool false,.int .i64 0,.bool false,.bool false,.bool false,.bool false,.slice none 0 0]:Array Value) hz2 hi2 hs2 ho2 ?_; rw [← HX2.out]) |(refine wpList_load_row rfl 61 _ rfl w1.heap.size rfl 61 (stL a b y c d e' f (.slice va H.length vc)) (0,0) _ hl1 Tryz.underlying61 rfl hi1 ?_) |(refine wpList_load_row rfl 61 _ rfl w2.heap.size rfl 61 (stL a b y c d e' f (.slice xa H.length xc)) (0,0) _ hl2 Tryz.underlying61 rfl hi2 ?_))
  refine HSS.out.mono ?_
  rintro e w3 ⟨rfl,b3⟩
  have c7:w3.cell? ⟨w1.heap.size,7,none⟩ = some (.slice va H.length vc):=(SV.keep H3.out.1 b3).cell 7
  have HSp:=Lib.hid (spoilBytesT w3 (w.alloc (.cells u.cs 43)).heap.size (.slice va H.length vc) H (H3.out.2.1.grow b3) H1.out.2.1)
  have HB3:=Lib.hid b3
  have HO3:=Lib.hid (H3.out.2.1.grow b3)
  clear b3 hz2 hl1 hl2 HX2 HSS
  go_wp2_with fail
  refine HSp.out.mono ?_
  rintro e w4 ⟨rfl, -,f4⟩
  have HE:Hid (SEnd w pv qv Z Y (n + u.D.length) w4):=by
    have h1:=HB0.out.trans (H3.out.2.2.mono HB0.out.size)
    have h2:=h1.trans (HB3.out.mono h1.size)
    refine SEnd.below HBT.out (below_fr h2 f4 h2.size (fun k hk e=>?_)) (Nat.le_add_right _ _)
    have:=(own_ge HO3.out e).1
    have:=HB0.out.size
    omega
  clear f4 HSp
  go_wp2
  go_ret
  exact ⟨rfl,HE.out⟩
theorem fr_low {T:Nat→Prop} {w a b:World} {B:Nat} (h1:Fm.Fr T w a) (h2:Below B a b) (hB:w.heap.size≤B):Fm.Fr T w b:=
  ⟨h2.os.trans h1.os,h2.tape.trans h1.tape,h2.output.trans h1.output,Nat.le_trans h1.size h2.size,fun k hk hT=>(h2.block k (by omega)).trans (h1.block k hk hT)⟩
theorem OMw.mm {B:Nat} {w:World} {m:Mv} {D hb:List UInt8} (h:OMw B w m D hb) (hd:D.length≤140737488351232) (hh:hb.length≤140737488351232):MM w m D hb:=⟨h.ok,h.d.rb,h.h.rh,hd,hh⟩
theorem OMw.fr {B:Nat} {T:Nat→Prop} {w w':World} {m:Mv} {D hb:List UInt8} (h:OMw B w m D hb) (f:Fm.Fr T w w') (hk:∀ k,B≤k→T k):OMw B w' m D hb:=by
  refine ⟨h.ok,h.d.frS f (fun k e=>hk k (own_ge h.d e).1),?_⟩
  obtain ⟨n,e,hh⟩:=h.h
  exact ⟨n,e,rowFr hh f (fun k e=>hk k (own_ge hh e).1)⟩
theorem load_mid_if {ops:Array Oper} {rest:List Oper} {o:Oper} {a:Act} {w:World} {Q:Exit→Act→World→Prop} (hw:Region.wanted o (yielded ops a.tmps) = true) (ty:TypeId) (x:Operand) (ho:o.op = .load ty x)
    (b off:Nat) (hx:a.eval x = .pointer (some ⟨b,off,none⟩)) (cs:List Value) (d:TypeDesc) (hc:w.rangeAt b off cs) (hu:Tryz.prog.underlying ty = some d) (hd:d.isRow = true) (hi:(Tryz.prog.info? ty).map (·.size) = some cs.length)
    (h:wpList Tryz.prog ops Q rest (a.put o.dst (.agg cs.toArray)) w):wpList Tryz.prog ops Q (o :: rest) a w:=by
  unfold wpList
  rw [if_pos hw]
  exact .inl (wp_load_mid ty x ho b off hx cs d hc hu hd hi h)
set_option maxHeartbeats 2000000 in
set_option maxRecDepth 100000 in
theorem stepSay (W w:World) (pv qv:Value) (Z Y:Nat→Prop) (n:Nat) (u:Oo) (hW:Below W.heap.size W w) (hWs:W.heap.size≤w.heap.size) (hz:∀ k,Z k∨Y k→W.heap.size≤k) (ru:RU W u) (bt:BT w pv qv Z Y n) (hk:u.k = 2) :
    Calls Tryz.prog 10 #[pv,qv,.agg u.cs] w fun e w'=>e = .returned (.bool true)∧SEnd w pv qv Z Y (n + u.D.length) w':=by
  have HBT:=Lib.hid bt
  have HRU:=Lib.hid ru
  have HWz:=Lib.hid (And.intro hW (And.intro hWs hz))
  have b0:Below w.heap.size w (w.alloc (.cells u.cs 43)):=(Below.refl _ _).alloc (Nat.le_refl _) _
  have HB0:=Lib.hid b0
  have hu:UB (w.alloc (.cells u.cs 43)) w.heap.size u:=heapNew w _
  have HU:=Lib.hid hu
  have c0:=hu.c0
  rw [hk] at c0
  have HR:=Lib.hid hu.msg
  have hiM:=info_msgL ru.m.ok
  have hw0:=ru.keep hW
  have HTw:=Lib.hid (twinW _ u.x.m u.x.D u.x.hb (hw0.keep b0).m)
  have hcs:u.x.m.ls.toArray = u.x.m.cs:=rfl
  clear hu b0 bt hk hW ru hw0 hz
  go_enter Tryz.func10,Tryz.ntmps10
  go_wp2_with (first |(refine wpList_load_mid rfl 40 _ rfl w.heap.size 3 rfl u.x.m.ls _ HR.out Tryz.underlying40 rfl hiM ?_))
  refine HTw.out.mono ?_
  rintro e w1 ⟨d',h',rfl,om,b1⟩
  obtain ⟨m1,hm1⟩:∃ m,m = ({ u.x.m with d:=d',h:=h' }:Mv):=⟨_,rfl⟩
  rw [← hm1] at om ⊢
  have HM1:=Lib.hid hm1
  have hz1:=heapNew w1 (.cells z40 40)
  have hi1:=info_msg om.ok
  have ho1:=om.ok.one
  have hs1:z40.size = m1.cs.size:=om.ok.size.symm
  have hgX:=heapSetRow _ _ _ m1.cs _ hz1
  have bX:Below w1.heap.size w1 ((w1.alloc (.cells z40 40)).setRow w1.heap.size m1.cs):=belowSetRow ((Below.refl _ _).alloc (Nat.le_refl _) _) (Nat.le_refl _) _
  obtain ⟨X1,hX1⟩:∃ X,X = (w1.alloc (.cells z40 40)).setRow w1.heap.size m1.cs:=⟨_,rfl⟩
  have HX1:=Lib.hid hX1
  rw [← hX1] at bX hgX
  have bY:Below (w.alloc (.cells u.cs 43)).heap.size (w.alloc (.cells u.cs 43)) X1:=b1.trans (bX.mono b1.size)
  have bW:Below w.heap.size w X1:=HB0.out.trans (bY.mono HB0.out.size)
  have om1:OMw (w.alloc (.cells u.cs 43)).heap.size X1 m1 u.x.D u.x.hb:=om.fr (T:=fun _=>True) (Fm.Fr.of_below bX) (fun _ _=>trivial)
  have HBx:Hid (Below w.heap.size w X1∧UB X1 w.heap.size u∧MB X1 w1.heap.size m1∧OMw (w.alloc (.cells u.cs 43)).heap.size X1 m1 u.x.D u.x.hb∧w.heap.size < w1.heap.size∧w1.heap.size < X1.heap.size):=⟨bW,HU.out.below bY,hgX,om1,Nat.lt_of_lt_of_le (by simp) b1.size,(Array.getElem?_eq_some_iff.1 hgX).1⟩
  have mm1:MM X1 m1 u.x.D u.x.hb:=om1.mm HRU.out.m.dl HRU.out.m.hl
  have HS:=Lib.hid ((HBT.out.below bW).say m1 u.x.m u.x.D u.x.hb mm1 (by rw [hm1]) (by have h1:=mm1.sh; have h2:=HRU.out.m.hl; omega))
  have hl1:X1.heap[w1.heap.size]? = some (.cells m1.cs 40 (0,0)):=hgX
  clear om b1 bX hgX bY bW om1 mm1 hX1 hm1 HTw HR c0
  go_wp2_with (first |(refine wpList_store_row rfl 40 _ _ rfl w1.heap.size m1.cs rfl rfl 40 z40 hz1 hi1 hs1 ho1 ?_; rw [← HX1.out]) |(refine load_msg_if rfl _ rfl w1.heap.size rfl m1.cs hl1 hi1 ?_))
  refine HS.out.mono ?_
  rintro e w2 ⟨v,fin,t,rfl,o2,tl,f2,hsec⟩
  obtain ⟨va,vc,rfl⟩:=o2.form
  have nz:∀ k,w.heap.size≤k→¬ Z k∧¬ Y k:=fun k hk=>⟨fun h=>by have:=(HBT.out.bd k (.inl h)).2; omega,fun h=>by have:=(HBT.out.bd k (.inr h)).2; omega⟩
  have HNZ:=Lib.hid nz
  have bW2:Below W.heap.size W w2:=by
    have h1:=HWz.out.1.trans (HBx.out.1.mono HWz.out.2.1)
    exact below_fr h1 f2 h1.size (fun k hk h=>by have:=HWz.out.2.2 k (.inl h); omega)
  have hu2:UB w2 w.heap.size u:=HBx.out.2.1.keep (f2.block _ HBx.out.2.1.lt (nz _ (Nat.le_refl _)).1)
  have H2:Hid (Below W.heap.size W w2∧UB w2 w.heap.size u∧MB w2 w1.heap.size m1∧OMw (w.alloc (.cells u.cs 43)).heap.size w2 m1 u.x.D u.x.hb∧OW X1.heap.size w2 (.slice va t.length vc) t∧t.length≤140737488351232∧Fm.Fr (fun k=>¬ Z k∧¬ Y k) w w2):=⟨bW2,hu2,(f2.block _ HBx.out.2.2.2.2.2 (nz _ (by have:=HBx.out.2.2.2.2.1; omega)).1).trans HBx.out.2.2.1,HBx.out.2.2.2.1.fr f2 (fun k hk=>(nz k (by have:=HB0.out.size; omega)).1),o2,tl,(Fm.Fr.of_below HBx.out.1).trans (f2.mono (fun k _ (h:¬ Z k∧¬ Y k)=>h.1)) (fun _ _ x=>x)⟩
  have HRS:=Lib.hid (hsec (HRU.out.keep bW2).m)
  have HR2:=Lib.hid hu2.msg
  clear o2 tl f2 hsec bW2 hu2 HS nz hz1 HX1 hl1
  go_wp2_with (first |(refine wpList_load_mid rfl 40 _ rfl w.heap.size 3 rfl u.x.m.ls _ HR2.out Tryz.underlying40 rfl hiM ?_))
  refine HRS.out.mono ?_
  rintro e w3 ⟨v2,rfl,o3,f3,bt3⟩
  obtain ⟨xa,xc,rfl⟩:=o3.form
  have bW3:Below W.heap.size W w3:=below_fr H2.out.1 f3 H2.out.1.size (fun k hk h=>by have:=HWz.out.2.2 k (.inr h); omega)
  have hu3:UB w3 w.heap.size u:=H2.out.2.1.keep (f3.block _ H2.out.2.1.lt (HNZ.out _ (Nat.le_refl _)).2)
  have hm3:MB w3 w1.heap.size m1:=(f3.block _ (Array.getElem?_eq_some_iff.1 H2.out.2.2.1).1 (HNZ.out _ (by have:=HBx.out.2.2.2.2.1; omega)).2).trans H2.out.2.2.1
  have om3:OMw (w.alloc (.cells u.cs 43)).heap.size w3 m1 u.x.D u.x.hb:=H2.out.2.2.2.1.fr f3 (fun k hk=>(HNZ.out k (by have:=HB0.out.size; omega)).2)
  have ov3:OW X1.heap.size w3 (.slice va t.length vc) t:=H2.out.2.2.2.2.1.frS f3 (fun k hk=>(HNZ.out k (by have:=(own_ge H2.out.2.2.2.2.1 hk).1; have:=HBx.out.2.2.2.2; omega)).2)
  have H3:Hid (Below W.heap.size W w3∧UB w3 w.heap.size u∧MB w3 w1.heap.size m1∧OMw (w.alloc (.cells u.cs 43)).heap.size w3 m1 u.x.D u.x.hb∧OW X1.heap.size w3 (.slice va t.length vc) t∧BT w3 pv qv Z Y n∧Fm.Fr (fun k=>¬ Z k∧¬ Y k) w w3):=⟨bW3,hu3,hm3,om3,ov3,bt3,H2.out.2.2.2.2.2.2.trans (f3.mono (fun k _ (h:¬ Z k∧¬ Y k)=>h.2)) (fun _ _ x=>x)⟩
  have HSm:=Lib.hid (same _ _ t w3 H2.out.2.2.2.2.2.1 ov3.rb o3.rb)
  have he31:∀ nq,(w3.drewN nq).heap[w1.heap.size]? = some (.cells m1.cs 40 (0,0)):=fun nq=>hm3
  have HR3:Hid (∀ nq,(w3.drewN nq).rangeAt w.heap.size 3 u.x.m.ls):=fun nq=>hu3.msg
  have HMS:Hid (∀ nq,Calls Tryz.prog 29 #[.agg m1.cs,.agg u.x.m.cs] (w3.drewN nq) fun e w'=>e = .returned (.bool true)∧Below (w3.drewN nq).heap.size (w3.drewN nq) w'):=fun nq=>by
    have k1:=(om3.mm HRU.out.m.dl HRU.out.m.hl).keep (belowDrew w3 nq)
    have k2:=((HRU.out.keep bW3).m).keep (belowDrew w3 nq)
    refine msameT _ m1 u.x.m _ _ k1 k2 ?_
    rw [HM1.out]
  clear bW3 hu3 hm3 om3 ov3 o3 f3 bt3 HRS HR2
  go_wp2_with fail
  refine HSm.out.mono ?_
  rintro e w4 ⟨rfl,nq,rfl⟩
  have hl4:=he31 nq
  have HR4:=Lib.hid (HR3.out nq)
  go_wp2_with (first |(refine load_msg_if rfl _ rfl w1.heap.size rfl m1.cs hl4 hi1 ?_) |(refine load_mid_if rfl 40 _ rfl w.heap.size 3 rfl u.x.m.ls _ HR4.out Tryz.underlying40 rfl hiM ?_))
  refine (HMS.out nq).mono ?_
  rintro e w5 ⟨rfl,b5⟩
  have b35:Below w3.heap.size w3 w5:=(belowDrew w3 nq).trans b5
  have ov5:OW X1.heap.size w5 (.slice va t.length vc) t:=H3.out.2.2.2.2.1.grow b35
  have om5:OMw (w.alloc (.cells u.cs 43)).heap.size w5 m1 u.x.D u.x.hb:=H3.out.2.2.2.1.fr (T:=fun _=>True) (Fm.Fr.of_below b35) (fun _ _=>trivial)
  have hm5:MB w5 w1.heap.size m1:=(b35.block _ (Array.getElem?_eq_some_iff.1 H3.out.2.2.1).1).trans H3.out.2.2.1
  have H5:Hid (Below w3.heap.size w3 w5∧OW X1.heap.size w5 (.slice va t.length vc) t∧OMw (w.alloc (.cells u.cs 43)).heap.size w5 m1 u.x.D u.x.hb∧MB w5 w1.heap.size m1):=⟨b35,ov5,om5,hm5⟩
  have HSp:=Lib.hid (spoilBytesT w5 X1.heap.size (.slice va t.length vc) t ov5 H2.out.2.2.2.2.2.1)
  clear b5 b35 ov5 om5 hm5 HMS he31 hl4 HR4 HR3 HSm
  go_wp2_with fail
  refine HSp.out.mono ?_
  rintro e w6 ⟨rfl, -,f6⟩
  have hvb:∀ k,(Value.slice va t.length vc).ownBlock = some k→X1.heap.size≤k:=fun k hk=>(own_ge H5.out.2.1 hk).1
  have hm6:MB w6 w1.heap.size m1:=(f6.block _ (Array.getElem?_eq_some_iff.1 H5.out.2.2.2).1 (fun e=>by have:=hvb _ e; have:=HBx.out.2.2.2.2.2; omega)).trans H5.out.2.2.2
  have od6:OW (w.alloc (.cells u.cs 43)).heap.size w6 m1.d u.x.D:=H5.out.2.2.1.d.frS f6 (fun k hk e=>by
    have h1:=hvb _ e
    have h2:=(own_ge HBx.out.2.2.2.1.d hk).2
    omega)
  have c4:=hm6.c4
  obtain ⟨da,dn,dc,hda⟩:=H5.out.2.2.1.ok.d
  rw [hda] at c4 od6
  have HSp2:=Lib.hid (spoilBytesT w6 (w.alloc (.cells u.cs 43)).heap.size (.slice da dn dc) u.x.D od6 HRU.out.m.dl)
  have b6:Below w.heap.size w5 w6:=⟨f6.os,f6.tape,f6.output,f6.size,fun k hk=>f6.block k (by have:=H5.out.1.size; have:=H3.out.2.2.2.2.2.2.size; omega) (fun e=>by have:=hvb _ e; have:=HBx.out.1.size; omega)⟩
  have H6:Hid (OW (w.alloc (.cells u.cs 43)).heap.size w6 (.slice da dn dc) u.x.D∧Below w.heap.size w5 w6):=⟨od6,b6⟩
  clear f6 hm6 od6 HSp hda hvb b6
  go_wp2_with fail
  refine HSp2.out.mono ?_
  rintro e w7 ⟨rfl, -,f7⟩
  have HE:Hid (SEnd w pv qv Z Y (n + u.D.length) w7):=by
    have hs3:=H3.out.2.2.2.2.2.2.size
    have h1:Below w.heap.size w3 w6:=(H5.out.1.mono hs3).trans H6.out.2
    have h2:Below w.heap.size w3 w7:=below_fr h1 f7 (Nat.le_trans hs3 h1.size) (fun k hk e=>by
      have:=(own_ge H6.out.1 e).1
      have:=HB0.out.size
      omega)
    by_cases hex:1 < w.heap.size
    · exact ⟨Z,Y,(H3.out.2.2.2.2.2.1.low (fun k hk=>(HBT.out.bd k hk).2) hex h2).more (Nat.le_add_right _ _),fr_low H3.out.2.2.2.2.2.2 h2 (Nat.le_refl _),fun _ h=>.inl h⟩
    · refine ⟨Z,Y,⟨fun k hk=>?_,HBT.out.dj,?_⟩,fr_low H3.out.2.2.2.2.2.2 h2 (Nat.le_refl _),fun _ h=>.inl h⟩
      · have:=HBT.out.bd k hk
        omega
      · rcases HBT.out.st with h | ⟨g,R,P,G,S,Q,H,_,_,hb⟩
        · exact .inl h
        · have:=HBT.out.bd g (.inl hb.zg)
          omega
  clear f7 HSp2
  go_wp2
  go_ret
  exact ⟨rfl,HE.out⟩
end Go.Proofs.YtfjjpbebnoghmaaGreatDoor
