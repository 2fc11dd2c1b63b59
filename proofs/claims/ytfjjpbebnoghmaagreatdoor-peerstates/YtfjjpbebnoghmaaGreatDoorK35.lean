import Derived.Test.YtfjjpbebnoghmaaGreatDoorK00
import Derived.Test.YtfjjpbebnoghmaaGreatDoorK34
import Derived.Test.YtfjjpbebnoghmaaGreatDoorK29
namespace Go.Proofs.YtfjjpbebnoghmaaGreatDoor
open Go.RowKit
theorem hparts2 {w:World} {gh:Nat} {h:List UInt8} (hg:w.rangeAt gh 0 (Lib.byteCells h)):w.rangeAt gh 8 (Lib.byteCells (hinf h))∧w.rangeAt gh 28 (Lib.byteCells (hpeer h)):=by
  have key:∀ (j:Nat) (v:Value),(Lib.byteCells h)[j]? = some v→w.cell? ⟨gh,j,none⟩ = some v:=fun j v hj=>by
    have:=hg j v hj
    rwa [Nat.zero_add] at this
  refine ⟨fun j v hj=>?_,fun j v hj=>?_⟩
  · have hj':j < 20:=by
      have:=(List.getElem?_eq_some_iff.1 hj).1
      rw [bcl_len] at this
      unfold hinf at this
      rw [List.length_take] at this
      omega
    unfold hinf at hj
    simp only [Lib.byteCells,List.map_take,List.map_drop] at hj
    rw [List.getElem?_take_of_lt hj',List.getElem?_drop] at hj
    exact key _ v hj
  · unfold hpeer at hj
    simp only [Lib.byteCells,List.map_drop] at hj
    rw [List.getElem?_drop] at hj
    exact key _ v hj
theorem HQ.shake {X:World} {g:Nat} {Q:Rv} {L:List Int} {H:List UInt8} (h:HQ X g Q L H):HQ ((X.setCell ⟨g,24,none⟩ (.bool true)).drew) g { Q with sh:=true } L H∧Fm.Fr (fun k=>k≠g) X ((X.setCell ⟨g,24,none⟩ (.bool true)).drew):=by
  have hf:Fm.Fr (fun k=>k≠g) X ((X.setCell ⟨g,24,none⟩ (.bool true)).drew):=frT ((Fm.Fr.refl (fun k=>k≠g) X).setCell g 24 _ (fun e=>e rfl)) (Fm.Fr.of_below (belowDrew _ 1))
  exact ⟨⟨(h.rq.set 2 _ { Q with sh:=true } rfl rfl rfl rfl).keep rfl,h.b0,h.b1,h.lz.fr (Fe.of_fr hf),h.lok,h.hz.fr (Fe.of_fr hf),h.hl⟩,hf⟩
theorem rangeFr2 {w w':World} {g o:Nat} {xs:List Value} (h:w.rangeAt g o xs) (f:w'.heap[g]? = w.heap[g]?):w'.rangeAt g o xs:=fun j v hj=>(World.cell?_of_block (w:=w) f).trans (h j v hj)
set_option maxHeartbeats 4000000 in
set_option maxRecDepth 100000 in
theorem rfeed1 (wz:World) (g S:Nat) (Q:Rv) (L:List Int) (H A l:List UInt8) (av bv:Value) (hp:QP wz g S Q L H A av) (hr:RB wz bv l) (hl:A.length + l.length≤16777216) (h:List UInt8)
    {met0 bs0 bs:List (List UInt8)} {h' h2:Bool} {r r2:List UInt8} {er:Int} (rd0:Fm.Rd true A met0 bs0 h' r 0) (rd1:Fm.Rd h' (r ++ l) [h] bs h2 r2 er) :
    Calls Tryz.prog 21 #[.pointer (some ⟨g,0,none⟩),bv] wz fun e w'=>∃ ev fin w1 av',e = .returned (.tuple #[ev,.int .i64 fin])∧RPa wz S (A ++ l) av av' er w1∧((hinf h≠Q.info∧ev = .slice none 0 0∧fin = 171∧RQ w' g { Q with gone:=true,why:=171 }∧Fm.Fr (fun k=>k≠g) w1 w')∨(hinf h = Q.info∧RFe w1 g { Q with sh:=true } L ⟨Q.c,Q.i,Q.hd,H⟩ bs [hev h] er ev fin w')):=by
  have HPu:Hid (Calls Tryz.prog 43 #[.pointer (some ⟨S,0,none⟩),bv] wz fun e w'=>∃ mv bsv,e = .returned (.tuple #[mv,bsv,.int .i64 er])∧Fm.RPO wz S true (A ++ l) av mv bsv er [h] bs w'):=Fm.refPush wz S true av bv A l hp.rf hp.ow hp.nil hr hl rd0 rd1
  have HP:Hid (QP wz g S Q L H A av):=hp
  have hfa:=rd_facts (rd0.app rfl rd1)
  have HBL:Hid (∀ b ∈ bs,b.length≤32768):=(rd_facts rd1).2.2.1
  have hbn:bs.length≤16777216:=by
    have h4:=hfa.2.2.2
    rw [List.length_append,List.length_append] at h4
    omega
  have cR:=hp.rq.at 1 rfl
  rw [hp.rp] at cR
  have cG:=hp.rq.at 3 rfl
  rw [hp.go] at cG
  obtain ⟨ba,bn,bcp,rfl⟩:∃ a n c,bv = .slice a n c:=by obtain ⟨a,c,e,_⟩:=hr; exact ⟨a,_,c,e⟩
  clear hp hfa rd0 rd1 hr
  obtain ⟨q0,hq0⟩:∃ q:Qs,q = ⟨Q.c,Q.i,Q.hd,H⟩:=⟨_,rfl⟩
  rw [← hq0]
  obtain ⟨Q0,hQ0⟩:∃ x:Rv,x = { Q with sh:=true }:=⟨_,rfl⟩
  rw [← hQ0]
  obtain ⟨pre,hpre⟩:∃ p:List Ev,p = [hev h]:=⟨_,rfl⟩
  rw [← hpre]
  have HQq:Hid (q0 = ⟨Q.c,Q.i,Q.hd,H⟩∧pre = [hev h]∧Q0 = { Q with sh:=true }):=⟨hq0,hpre,hQ0⟩
  clear hq0 hpre hQ0
  go_enter Tryz.func21,Tryz.ntmps21
  go_wp2_with fail
  refine HPu.out.mono ?_
  rintro e w ⟨mv,bsv,rfl,po⟩
  obtain ⟨av',rf1,ow1,nil1,at1⟩:=po.rf
  have HPA:Hid (RPa wz S (A ++ l) av av' er w):=⟨rf1,ow1,nil1,at1,po.fr⟩
  have hc:HQ w g Q L H:=HP.out.hq po.fr
  obtain ⟨gm,c0,rfl,hMR,hgm,hh,hgl⟩:∃ gm c0,mv = .slice (some ⟨gm,0,none⟩) 1 c0∧w.rangeAt gm 0 (Lib.byteCells h)∧gm≠g∧h.length = 48∧gm < w.heap.size:=by
    rcases po.sm with ⟨h9,_⟩ | ⟨B,hm⟩
    · cases h9
    · have h48:=hm.2 h (by simp)
      have hrow:=hm.1
      rcases hrow.2 with ⟨_,h0⟩ | ⟨gm,cap,cur,rfl,_,h3,_⟩
      · simp at h0
      refine ⟨gm,cap,rfl,fun j v hj=>?_,tag_ne h3 hc.rq.2 (by decide),h48,(Array.getElem?_eq_some_iff.1 h3).1⟩
      have hj':j < 48:=by
        have:=(List.getElem?_eq_some_iff.1 hj).1
        rw [bcl_len,h48] at this
        exact this
      have q:=World.ownsRow.cellAt hrow j (by simp; omega)
      rw [Nat.zero_add,q]
      simpa using hj
  have HBS:Hid (Sg g w (fun u=>Fm.RBS u bsv bs)):=fun u hf=>po.rb u hf.size (fun k h1 h2=>hf.block k h2 (by have:=HP.out.rq.lt; omega))
  obtain ⟨va,vc,rfl,_⟩:=HBS.out.now
  have HGW:Hid (g < w.heap.size):=hc.rq.lt
  have HCC:Hid (HQ w g Q L H):=hc
  have HHL:Hid (h.length = 48∧gm≠g∧gm < w.heap.size):=⟨hh,hgm,hgl⟩
  have HPT:=Lib.hid (hparts2 hMR)
  have hP20:Q.info.length = 20:=hc.rq.1
  have hl20:=hinf_len hh
  have hi20:(Tryz.prog.info? 41).map (·.size) = some (Lib.byteCells (hinf h)).length:=by rw [bcl_len,hl20]; exact info20
  have hi20b:(Tryz.prog.info? 41).map (·.size) = some (Lib.byteCells Q.info).length:=by rw [bcl_len,hP20]; exact info20
  have HRI:Hid (w.rangeAt g 2 (Lib.byteCells Q.info)):=hc.rq.infoR
  clear hc po rf1 ow1 nil1 at1 HPu cR cG hMR hgm hh hgl
  go_wp2_with fail
  go_loopw [9,10] (fun v t wr=>(t = .int .i64 0∧v = .slice none 0 0∧w = wr)∨(∃ a0 c0,t = .int .i64 1∧v = .slice a0 1 c0∧Hid (hinf h = Q.info∧LQ w g Q0 L q0 bs pre 0 Q0 q0 [] [] (.slice a0 1 c0) wr))) (fun _ t _=>1 - (intOf t).toNat)
  case atStart=>exact .inl ⟨rfl,rfl,rfl⟩
  case round =>
    rcases hrel with ⟨rfl,rfl,rfl⟩ | ⟨a0,c1,rfl,rfl,HL⟩
    · by_cases heq:hinf h = Q.info
      · have hdec:decide (hinf h = Q.info) = true:=decide_eq_true heq
        have HEQ:=Lib.hid heq
        clear heq
        go_upto_region 10 with fail
        refine wp_region_held_drew (S:=fun u=>u.rangeAt gm 8 (Lib.byteCells (hinf h))∧u.rangeAt g 2 (Lib.byteCells Q.info)) (by kernel_rfl) (⟨HPT.out.1,HRI.out⟩) (fun hHeld=>?_)
        refine tkB (i:=0) (v:=.slice (some ⟨gm,0,none⟩) 1 c0) rfl hHeld ?_
        simp only [Act.put,zq1,zq2,zq4,zq5,zq6]
        refine tkB (i:=1) (v:=.int .i64 0) rfl hHeld ?_
        simp only [Act.put,zq1,zq2,zq3,zq4,zq5,zq6]
        refine tkB (i:=2) (v:=.pointer (some ⟨gm,0,none⟩)) rfl hHeld ?_
        simp only [Act.put,zq1,zq2,zq3,zq4,zq5,zq6]
        refine tkB (i:=3) (v:=.pointer (some ⟨gm,8,none⟩)) rfl hHeld ?_
        simp only [Act.put,zq1,zq2,zq3,zq4,zq5,zq6]
        refine tkA (i:=4) (v:=.agg (bc (hinf h))) rfl (yieldsIf_load_mid (by rfl) _ _ rfl _ _ rfl _ _ (fun u hw=>hw.1) Tryz.underlying41 rfl hi20) hHeld ?_
        simp only [Act.put,zq1,zq2,zq3,zq4,zq5,zq6]
        refine tkB (i:=5) (v:=.pointer (some ⟨g,0,none⟩)) rfl hHeld ?_
        simp only [Act.put,zq1,zq2,zq3,zq4,zq5,zq6]
        refine tkB (i:=6) (v:=.pointer (some ⟨g,0,none⟩)) rfl hHeld ?_
        simp only [Act.put,zq1,zq2,zq3,zq4,zq5,zq6]
        refine tkB (i:=7) (v:=.pointer (some ⟨g,2,none⟩)) rfl hHeld ?_
        simp only [Act.put,zq1,zq2,zq3,zq4,zq5,zq6]
        refine tkA (i:=8) (v:=.agg (bc Q.info)) rfl (yieldsIf_load_mid (by rfl) _ _ rfl _ _ rfl _ _ (fun u hw=>hw.2) Tryz.underlying41 rfl hi20b) hHeld ?_
        simp only [Act.put,zq1,zq2,zq3,zq4,zq5,zq6]
        refine tkA (i:=9) (v:=.bool false) rfl (Or.inl ⟨by rfl,fun w hw=>by have hq:=equal_20 w 9998 (hinf h) Q.info hl20 hP20; rw [hdec] at hq; go_simp⟩) hHeld ?_
        simp only [Act.put,zq1,zq2,zq3,zq4,zq5,zq6]
        refine wpAnyH_done (by kernel_rfl) ?_ _
        clear hHeld
        obtain ⟨HS7,HF7⟩:=HCC.out.shake
        have HS7h:=Lib.hid HS7
        have HF7h:=Lib.hid HF7
        have HR28:Hid (((w.setCell ⟨g,24,none⟩ (.bool true)).drew).rangeAt gm 28 (Lib.byteCells (hpeer h))):=rangeFr2 HPT.out.2 (HF7.block gm HHL.out.2.2 HHL.out.2.1)
        have hi28:(Tryz.prog.info? 41).map (·.size) = some (Lib.byteCells (hpeer h)).length:=by rw [bcl_len,hpeer_len HHL.out.1]; exact info20
        have hT:Tryz.prog.built 100 [(0,.bool true),(1,.agg (bc (hpeer h)))] = some (Ev.ls (hev h)).toArray:=builtH (hpeer h) (hpeer_len HHL.out.1)
        have hT61:(Ev.ls (hev h)).toArray.size = 61:=Ev.len (hev_ok w.heap.size w HHL.out.1)
        have c24:w.drew.cell? ⟨g,24,none⟩ = some (.bool Q.sh):=HCC.out.rq.at 2 rfl
        have f24:w.drew.frozen? ⟨g,24,none⟩ = false:=HCC.out.rq.fr 24
        clear HS7 HF7
        generalize hTT:(Ev.ls (hev h)).toArray = TT at *
        have HTe:Hid ((Ev.ls (hev h)).toArray = TT):=hTT
        clear hTT
        obtain ⟨W7,hW7⟩:∃ u,u = (w.setCell ⟨g,24,none⟩ (.bool true)).drew:=⟨_,rfl⟩
        have HW7:Hid (W7 = (w.setCell ⟨g,24,none⟩ (.bool true)).drew):=hW7
        rw [← hW7] at HS7h HF7h HR28
        clear hW7
        have b8:Below W7.heap.size W7 (W7.alloc (.cells TT 100)):=(Below.refl _ _).alloc (Nat.le_refl _) _
        have hzz:w.heap.size≤(W7.alloc (.cells TT 100)).heap.size:=Nat.le_trans HF7h.out.size b8.size
        have HV8:Hid (EVS w.heap.size (W7.alloc (.cells TT 100)) (.slice none 0 0) []∧(W7.alloc (.cells TT 100)).heap[W7.heap.size]? = some (.cells (Ev.ls (hev h)).toArray 100 (0,0))∧OEv w.heap.size (W7.alloc (.cells TT 100)) (hev h)∧w.heap.size≤(W7.alloc (.cells TT 100)).heap.size∧([]:List Ev).length < 107374182):=⟨EVS.nil _ _,by rw [HTe.out]; exact heapNew _ _,hev_ok _ _ HHL.out.1,hzz,by decide⟩
        have HB8:=Lib.hid b8
        clear b8
        go_upto_region 13 with fail
        rw [← HW7.out]
        go_wp2_with (first |(refine wpList_load_mid rfl 41 _ rfl gm 28 rfl (Lib.byteCells (hpeer h)) _ HR28.out Tryz.underlying41 rfl hi28 ?_) |(refine built_ev2 rfl _ _ rfl _ _ rfl rfl TT hT ?_) |(refine build_ev rfl _ rfl TT rfl hT61 ?_) |(at_builtin; refine append_ev rfl _ _ rfl rfl HV8.out.1 W7.heap.size (hev h) rfl HV8.out.2.1 HV8.out.2.2.1 HV8.out.2.2.2.1 HV8.out.2.2.2.2 ?_; intro v6 w6 ev6 b6 s6 o6))
        rw [List.nil_append] at ev6
        obtain ⟨a6,c6,rfl⟩:=ev6.form
        have HNx:Hid (hinf h = Q.info∧LQ w g Q0 L q0 bs pre 0 Q0 q0 [] [] (.slice a6 1 c6) w6):=by
          have hb6:Below w.heap.size W7 w6:=(HB8.out.mono HF7h.out.size).trans b6
          have f7:Fm.Fr (fun k=>k≠g) w W7:=HF7h.out
          have hf6:Fm.Fr (fun k=>k≠g) w w6:=⟨hb6.os.trans f7.os,hb6.tape.trans f7.tape,hb6.output.trans f7.output,Nat.le_trans f7.size hb6.size,fun k hk hg=>(hb6.block k hk).trans (f7.block k hk hg)⟩
          have hfe:Fe g W7 w6:=(Fe.of_below HB8.out).trans ⟨o6.1,o6.2.1,o6.2.2.1,o6.2.2.2,fun k hk _ hn=>s6 k hk hn⟩
          have h5:=HS7h.out
          have hc6:HQ w6 g { Q with sh:=true } L H:=h5.fr hfe (h5.rq.keep (hb6.block g HGW.out))
          refine ⟨HEQ.out,hf6,by rw [HQq.out.2.2,HQq.out.1]; exact hc6,by rw [HQq.out.2.2,HQq.out.1],by rw [HQq.out.2.1]; exact ev6,EvM.nil,fun xs' q' e hx=>hx,by rw [HQq.out.2.1]; exact Nat.le_refl _,.inl ⟨rfl,rfl⟩⟩
        clear ev6 b6 s6 o6 HV8 HB8 hT hT61 HTe HR28 hzz c24 f24
        go_wp2
        exact ⟨.inr ⟨a6,c6,rfl,rfl,HNx⟩,by simp [intOf]⟩
      · have hdec:decide (hinf h = Q.info) = false:=decide_eq_false heq
        have HEQ:=Lib.hid heq
        clear heq
        go_upto_region 10 with fail
        refine wp_region_held_drew (S:=fun u=>u.rangeAt gm 8 (Lib.byteCells (hinf h))∧u.rangeAt g 2 (Lib.byteCells Q.info)) (by kernel_rfl) (⟨HPT.out.1,HRI.out⟩) (fun hHeld=>?_)
        refine tkB (i:=0) (v:=.slice (some ⟨gm,0,none⟩) 1 c0) rfl hHeld ?_
        simp only [Act.put,zq1,zq2,zq4,zq5,zq6]
        refine tkB (i:=1) (v:=.int .i64 0) rfl hHeld ?_
        simp only [Act.put,zq1,zq2,zq3,zq4,zq5,zq6]
        refine tkB (i:=2) (v:=.pointer (some ⟨gm,0,none⟩)) rfl hHeld ?_
        simp only [Act.put,zq1,zq2,zq3,zq4,zq5,zq6]
        refine tkB (i:=3) (v:=.pointer (some ⟨gm,8,none⟩)) rfl hHeld ?_
        simp only [Act.put,zq1,zq2,zq3,zq4,zq5,zq6]
        refine tkA (i:=4) (v:=.agg (bc (hinf h))) rfl (yieldsIf_load_mid (by rfl) _ _ rfl _ _ rfl _ _ (fun u hw=>hw.1) Tryz.underlying41 rfl hi20) hHeld ?_
        simp only [Act.put,zq1,zq2,zq3,zq4,zq5,zq6]
        refine tkB (i:=5) (v:=.pointer (some ⟨g,0,none⟩)) rfl hHeld ?_
        simp only [Act.put,zq1,zq2,zq3,zq4,zq5,zq6]
        refine tkB (i:=6) (v:=.pointer (some ⟨g,0,none⟩)) rfl hHeld ?_
        simp only [Act.put,zq1,zq2,zq3,zq4,zq5,zq6]
        refine tkB (i:=7) (v:=.pointer (some ⟨g,2,none⟩)) rfl hHeld ?_
        simp only [Act.put,zq1,zq2,zq3,zq4,zq5,zq6]
        refine tkA (i:=8) (v:=.agg (bc Q.info)) rfl (yieldsIf_load_mid (by rfl) _ _ rfl _ _ rfl _ _ (fun u hw=>hw.2) Tryz.underlying41 rfl hi20b) hHeld ?_
        simp only [Act.put,zq1,zq2,zq3,zq4,zq5,zq6]
        refine tkA (i:=9) (v:=.bool true) rfl (Or.inl ⟨by rfl,fun w hw=>by have hq:=equal_20 w 9998 (hinf h) Q.info hl20 hP20; rw [hdec] at hq; go_simp⟩) hHeld ?_
        simp only [Act.put,zq1,zq2,zq3,zq4,zq5,zq6]
        refine wpAnyH_done (by kernel_rfl) ?_ _
        clear hHeld
        go_wp2_with fail
        refine (failT w.drew g Q (HCC.out.rq.keep rfl) 171).mono ?_
        rintro e w5 ⟨rfl,k5,f5⟩
        have HF5:=Lib.hid (And.intro k5 f5)
        clear k5 f5
        go_wp2
        go_ret2
        exact ⟨_,_,w,av',rfl,HPA.out,.inl ⟨HEQ.out,rfl,rfl,HF5.out.1,frT (Fm.Fr.of_below (belowDrew _ 1)) HF5.out.2⟩⟩
    · have HEQ:Hid (hinf h = Q.info):=HL.out.1
      have HI0:Hid (LQ w g Q0 L q0 bs pre 0 Q0 q0 [] [] (.slice a0 1 c1) wr):=HL.out.2
      clear HL
      go_wp2_with fail
      go_loopw [9,11] (fun v t wr=>∃ (n:Nat) (Q':Rv) (q:Qs) (es:List Ev) (xs:List Mg),n≤bs.length∧t = .int .i64 n∧Hid (LQ w g Q0 L q0 bs pre n Q' q es xs v wr)) (fun _ t _=>bs.length - (intOf t).toNat)
      case atStart=>exact ⟨0,Q0,q0, [], [],Nat.zero_le _,rfl,HI0⟩
      case round =>
        obtain ⟨n,Q',q,es,xs,hn,rfl,H⟩:=hrel
        clear HI0
        obtain ⟨ea,ec,rfl⟩:=H.out.ev.form
        obtain ⟨nE,hnE⟩:∃ k,k = (pre ++ es).length:=⟨_,rfl⟩
        rw [← hnE] at H ⊢
        have HNE:Hid (nE = (pre ++ es).length):=hnE
        clear hnE
        by_cases hlt:n < bs.length
        · have hx:bs[n]? = some bs[n]:=List.getElem?_eq_getElem hlt
          generalize hbn:bs[n] = y at hx
          have hyl:y.length≤32768:=HBL.out y (List.mem_of_getElem? hx)
          obtain ⟨a',c',e',_,hR⟩:=HBS.out _ H.out.fr
          simp only [Value.slice.injEq] at e'
          obtain ⟨rfl, -,rfl⟩:=e'
          rcases hR with h | ⟨gb,ob,rfl,hgb,hR⟩
          · rw [h] at hlt; simp at hlt
          obtain ⟨bu,hcu,hbu⟩:=hR n hlt
          have hgd:bs.getD n [] = y:=by rw [List.getD_eq_getElem?_getD,hx]; rfl
          rw [hgd] at hbu
          obtain ⟨ba,bc',rfl,_⟩:=id hbu
          have HY:Hid (bs[n]? = some y∧RB wr (.slice ba y.length bc') y):=⟨hx,hbu⟩
          have hpn:=H.out.ln
          clear hR hbu hx hgd hbn
          go_wp2_with fail
          refine (rDecodeT wr _ y (by omega) HY.out.2).mono ?_
          rintro e w2 ⟨d1,h1,rfl,q1,q2,q3⟩
          have M1:OMg w.heap.size w2 (mgOf y d1 h1):=OMg.of_dec H.out.fr.size q1 q2
          have e1:({ (decS y).m with d:=d1,h:=h1 }:Mv) = (mgOf y d1 h1).m:=rfl
          rw [e1]
          have HMB:Hid (MBd (mgOf y d1 h1).m (decS y).D.length∧(mgOf y d1 h1).D = (decS y).D∧mgOf y d1 h1 = mgOf y d1 h1∧0≤(mgOf y d1 h1).m.i∧(mgOf y d1 h1).m.i≤4294967295):=⟨mbd_of y d1 h1,rfl,rfl,(decS_bd y).i0,(decS_bd y).i1⟩
          have hz2:=heapNew w2 (.cells z40 40)
          have hi1:=info_msg M1.ok
          have ho1:=M1.ok.one
          have hs1:z40.size = (mgOf y d1 h1).m.cs.size:=M1.ok.size.symm
          have hc:=heapSetRow _ _ _ (mgOf y d1 h1).m.cs _ hz2
          have bX:Below w2.heap.size w2 ((w2.alloc (.cells z40 40)).setRow w2.heap.size (mgOf y d1 h1).m.cs):=belowSetRow ((Below.refl _ _).alloc (Nat.le_refl _) _) (Nat.le_refl _) _
          obtain ⟨X8,hX8⟩:∃ X,X = (w2.alloc (.cells z40 40)).setRow w2.heap.size (mgOf y d1 h1).m.cs:=⟨_,rfl⟩
          have HX8:Hid (X8 = (w2.alloc (.cells z40 40)).setRow w2.heap.size (mgOf y d1 h1).m.cs):=hX8
          rw [← hX8] at hc bX
          have HB8:Hid (Below wr.heap.size wr X8):=q3.trans (bX.mono q3.size)
          have HM8:Hid (OMg w.heap.size X8 (mgOf y d1 h1)∧MB X8 w2.heap.size (mgOf y d1 h1).m):=⟨M1.grow bX,hc⟩
          have HSZ2:Hid (w.heap.size≤w2.heap.size):=Nat.le_trans H.out.fr.size q3.size
          clear bX hX8 q1 q2 q3 M1 e1
          by_cases h0:decE y = 0
          · rw [h0]
            have HE0:Hid (decE y = 0):=h0
            clear h0
            have HLG:Hid (Calls Tryz.prog 46 #[.pointer (some ⟨g,0,none⟩),.agg (mgOf y d1 h1).m.cs] X8 fun e w'=>e = .returned (.int .i64 (rlE L Q'.b Q'.hd (mgOf y d1 h1).m (decS y).D))∧Below X8.heap.size X8 w'):=rlegalT X8 g Q' L (H.out.hc.below HB8.out).pq (mgOf y d1 h1).m (decS y).D HM8.out.1.d.rb HMB.out.1
            have hle:rlE L Q'.b Q'.hd (mgOf y d1 h1).m (decS y).D = legE L Q0.b q.b (decS y).m (decS y).D:=by
              have h2:=H.out.sh
              have e1:Q'.b = Q0.b:=by rw [h2]
              have e2:Q'.hd = q.b:=by rw [h2]
              rw [e1,e2]
              exact leg_of HE0.out L Q0.b q.b d1 h1
            rw [hle] at HLG
            clear hle
            go_wp2_with (first |(refine wpList_store_row rfl 40 _ _ rfl w2.heap.size (mgOf y d1 h1).m.cs rfl rfl 40 z40 hz2 hi1 hs1 ho1 ?_; rw [← HX8.out]) |(refine load_msg_if rfl _ rfl w2.heap.size rfl (mgOf y d1 h1).m.cs hc hi1 ?_))
            refine HLG.out.mono ?_
            rintro e w3 ⟨rfl,b3⟩
            have HW3:Hid (Below wr.heap.size wr w3):=HB8.out.trans (b3.mono HB8.out.size)
            have HM3:Hid (OMg w.heap.size w3 (mgOf y d1 h1)∧MB w3 w2.heap.size (mgOf y d1 h1).m):=⟨HM8.out.1.grow b3,HM8.out.2.below b3⟩
            clear hc b3 HLG HX8 hz2 ho1 hs1 HB8 HM8
            by_cases hl0:legE L Q0.b q.b (decS y).m (decS y).D = 0
            · rw [hl0]
              have HL0:Hid (legE L Q0.b q.b (decS y).m (decS y).D = 0):=hl0
              clear hl0
              have HC3:Hid (HQ w3 g Q' L q.H):=H.out.hc.below HW3.out
              have HTK:Hid (Calls Tryz.prog 47 #[.pointer (some ⟨g,0,none⟩),.agg (mgOf y d1 h1).m.cs] w3 fun e w'=>e = .returned (.tuple #[])∧∃ hv H',RQ w' g (Q'.eff (mgOf y d1 h1).m.k hv)∧HNq w3 w' L.length Q' q.H (mgOf y d1 h1).m (decS y).D hv H'∧Fm.Fr (fun k=>k≠g) w3 w'):=effT w3 g Q' L q.H HC3.out (mgOf y d1 h1).m HM3.out.1.ok (decS y).D HM3.out.1.d.rb (decS_len y).1 HMB.out.2.2.2.1 HMB.out.2.2.2.2
              have hc3:=HM3.out.2
              go_wp2_with (first |(refine load_msg_if rfl _ rfl w2.heap.size rfl (mgOf y d1 h1).m.cs hc3 hi1 ?_))
              refine HTK.out.mono ?_
              rintro e w4 ⟨rfl,hv,H',k4,hn4,f4⟩
              have hgw:g < w.heap.size:=HGW.out
              have hw2:w.heap.size≤w2.heap.size:=HSZ2.out
              have hc4:MB w4 w2.heap.size (mgOf y d1 h1).m:=(f4.block w2.heap.size HM3.out.2.lt (by omega)).trans HM3.out.2
              have HF4:Hid (Fm.Fr (fun k=>k≠g) w w4):=frT H.out.fr (frT (Fm.Fr.of_below HW3.out) f4)
              have kk:∀ k,w.heap.size≤k→k < wr.heap.size→w4.heap[k]? = wr.heap[k]?:=fun k h1 h2=>(frT (Fm.Fr.of_below HW3.out) f4).block k h2 (by omega)
              have kk3:∀ k,w.heap.size≤k→k < w3.heap.size→w4.heap[k]? = w3.heap[k]?:=fun k h1 h2=>f4.block k h2 (by omega)
              have HEV:Hid (EVS w.heap.size w4 (.slice ea nE ec) (pre ++ es)):=H.out.ev.fr kk
              have HMG:Hid (OMg w.heap.size w4 (mgOf y d1 h1)):=HM3.out.1.fr kk3
              have HTT:Hid (HQ w4 g (Q'.eff (decS y).m.k hv) L H'∧Hstep L.length q (decS y).m (decS y).D ⟨(sy (decS y).m.k q.c q.i q.b).1,(sy (decS y).m.k q.c q.i q.b).2.1,(sy (decS y).m.k q.c q.i q.b).2.2,H'⟩):=HQ.took (m:=(mgOf y d1 h1).m) HC3.out k4 hn4 f4 (decS_len y).1
              have HP4:Hid (MB w4 w2.heap.size (mgOf y d1 h1).m):=hc4
              have HHO:Hid ((hv = Q0.hs∧H' = q0.H)∨OW w.heap.size w4 hv H'):=HNq.ho hn4 H.out.ho HGW.out (Nat.le_trans H.out.fr.size HW3.out.size) (Fe.of_fr (frT (Fm.Fr.of_below HW3.out) f4))
              clear k4 hn4 f4 kk kk3 HTK hc3 hc4 HC3 HM3 HW3
              have c0:w4.cell? ⟨w2.heap.size,0,none⟩ = some (.int .i64 (decS y).m.k):=HP4.out.c0
              by_cases k1000:(decS y).m.k = 1000
              · have HNx:=Lib.hid (H.out.next HY.out.1 HE0.out HL0.out HF4.out HTT.out.1 HTT.out.2 HEV.out (es':=es) (by rw [if_pos k1000,List.append_nil]; exact H.out.em) (by have:=H.out.ln; omega) HHO.out)
                rw [k1000] at c0
                clear k1000
                go_wp2
                exact ⟨⟨n + 1,_,_,_,_,by omega,by go_num,HNx⟩,by simp [intOf]; omega⟩
              · have hk1:((decS y).m.k != 1000) = true:=by simp [k1000]
                have hT:Tryz.prog.built 100 [(2,.agg (mgOf y d1 h1).m.cs)] = some (Ev.ls ⟨false,zr 20,mgOf y d1 h1⟩).toArray:=builtM (mgOf y d1 h1).m HMG.out.ok
                have hT61:(Ev.ls ⟨false,zr 20,mgOf y d1 h1⟩).toArray.size = 61:=Ev.len (B:=w.heap.size) (w:=w4) ⟨rfl,HMG.out⟩
                have HLN:Hid (xs ++ (if (decS y).m.k = 1000 then [] else [⟨(decS y).m,(decS y).D,(decS y).hb⟩]) = xs ++ [⟨(decS y).m,(decS y).D,(decS y).hb⟩]):=by
                  show _ = _
                  rw [if_neg k1000]
                have hc4:=HP4.out
                clear k1000
                generalize hTT:(Ev.ls ⟨false,zr 20,mgOf y d1 h1⟩).toArray = TT at *
                have HTe:Hid ((Ev.ls ⟨false,zr 20,mgOf y d1 h1⟩).toArray = TT):=hTT
                clear hTT
                have b5:Below w4.heap.size w4 (w4.alloc (.cells TT 100)):=(Below.refl _ _).alloc (Nat.le_refl _) _
                have HV5:Hid (EVS w.heap.size (w4.alloc (.cells TT 100)) (.slice ea nE ec) (pre ++ es)∧(w4.alloc (.cells TT 100)).heap[w4.heap.size]? = some (.cells (Ev.ls ⟨false,zr 20,mgOf y d1 h1⟩).toArray 100 (0,0))∧OEv w.heap.size (w4.alloc (.cells TT 100)) ⟨false,zr 20,mgOf y d1 h1⟩∧w.heap.size≤(w4.alloc (.cells TT 100)).heap.size∧(pre ++ es).length < 107374182):=⟨HEV.out.fr (fun k _ hk=>b5.block k hk),by rw [HTe.out]; exact heapNew _ _,⟨rfl,HMG.out.grow b5⟩,Nat.le_trans HF4.out.size b5.size,by have:=H.out.ln; omega⟩
                have HB5:=Lib.hid b5
                clear b5 HEV HMG
                go_wp2_with (first |(refine load_msg_if rfl _ rfl w2.heap.size rfl (mgOf y d1 h1).m.cs hc4 hi1 ?_) |(refine built_ev rfl _ rfl _ rfl TT hT ?_) |(refine build_ev rfl _ rfl TT rfl hT61 ?_) |(at_builtin; refine append_ev rfl _ _ rfl rfl HV5.out.1 w4.heap.size ⟨false,zr 20,mgOf y d1 h1⟩ rfl HV5.out.2.1 HV5.out.2.2.1 HV5.out.2.2.2.1 HV5.out.2.2.2.2 ?_; intro v6 w6 ev6 b6 s6 o6))
                obtain ⟨a6,c6,rfl⟩:=ev6.form
                have HNx:Hid (LQ w g Q0 L q0 bs pre (n + 1) (Q'.eff (decS y).m.k hv) ⟨(sy (decS y).m.k q.c q.i q.b).1,(sy (decS y).m.k q.c q.i q.b).2.1,(sy (decS y).m.k q.c q.i q.b).2.2,H'⟩ (es ++ [⟨false,zr 20,mgOf y d1 h1⟩]) (xs ++ (if (decS y).m.k = 1000 then [] else [⟨(decS y).m,(decS y).D,(decS y).hb⟩])) (.slice a6 ((pre ++ es) ++ [(⟨false,zr 20,mgOf y d1 h1⟩:Ev)]).length c6) w6):=by
                  have hb6:Below w.heap.size w4 w6:=(HB5.out.mono HF4.out.size).trans b6
                  have hf6:Fm.Fr (fun k=>k≠g) w w6:=⟨hb6.os.trans HF4.out.os,hb6.tape.trans HF4.out.tape,hb6.output.trans HF4.out.output,Nat.le_trans HF4.out.size hb6.size,fun k hk hg=>(hb6.block k hk).trans (HF4.out.block k hk hg)⟩
                  have hfe:Fe g w4 w6:=(Fe.of_below HB5.out).trans ⟨o6.1,o6.2.1,o6.2.2.1,o6.2.2.2,fun k hk _ hn=>s6 k hk hn⟩
                  have h5:=HTT.out.1
                  have hc6:HQ w6 g (Q'.eff (decS y).m.k hv) L H':=h5.fr hfe (h5.rq.keep (hb6.block g HGW.out))
                  refine H.out.next HY.out.1 HE0.out HL0.out hf6 hc6 HTT.out.2 (by rw [← List.append_assoc]; exact ev6) (by rw [HLN.out]; exact H.out.em.snoc y d1 h1) ?_ (HHO.out.imp id (fun o=>o.fe HGW.out hfe))
                  have:=H.out.ln
                  simp only [List.length_append,List.length_cons,List.length_nil] at this ⊢
                  omega
                clear ev6 b6 s6 o6 HV5 HB5 hT hT61 hc4 HTe c0
                obtain ⟨n6,hn6⟩:∃ k,k = ((pre ++ es) ++ [(⟨false,zr 20,mgOf y d1 h1⟩:Ev)]).length:=⟨_,rfl⟩
                rw [← hn6] at HNx ⊢
                clear hn6
                go_wp2
                exact ⟨⟨n + 1,_,_,_,_,by omega,by go_num,HNx⟩,by simp [intOf]; omega⟩
            · have hne:(legE L Q0.b q.b (decS y).m (decS y).D != 0) = true:=by simp [hl0]
              have hend:=H.out.done HW3.out (legE L Q0.b q.b (decS y).m (decS y).D) (by rw [drop_at HY.out.1]; exact Hr.ill q y _ HE0.out hl0)
              have HEn:Hid (QE w g Q0 L q0 bs pre (.slice ea nE ec) (legE L Q0.b q.b (decS y).m (decS y).D) w3 Q'):=hend.1
              have HRq:Hid (RQ w3 g Q'):=hend.2
              have HL1:Hid (legE L Q0.b q.b (decS y).m (decS y).D≠0):=hl0
              clear hend
              generalize legE L Q0.b q.b (decS y).m (decS y).D = er1 at *
              clear hl0
              go_wp2_with fail
              refine (failT w3 g Q' HRq.out er1).mono ?_
              rintro e w5 ⟨rfl,k5,f5⟩
              have HF5:=Lib.hid (And.intro k5 f5)
              clear k5 f5
              go_wp2
              go_ret2
              exact ⟨_,_,w,av',rfl,HPA.out,.inr ⟨HEQ.out,RFe.fail HEn.out HL1.out HF5.out.1 HF5.out.2⟩⟩
          · have hne:(decE y == 0) = false:=by simp [h0]
            have hne2:(decE y != 0) = true:=by simp [h0]
            have hend:=H.out.done HB8.out (decE y) (by rw [drop_at HY.out.1]; exact Hr.dec q y _ h0)
            have HEn:Hid (QE w g Q0 L q0 bs pre (.slice ea nE ec) (decE y) X8 Q'):=hend.1
            have HRq:Hid (RQ X8 g Q'):=hend.2
            have HL1:Hid (decE y≠0):=h0
            clear hend
            generalize decE y = er1 at *
            clear h0 hc
            go_wp2_with (first |(refine wpList_store_row rfl 40 _ _ rfl w2.heap.size (mgOf y d1 h1).m.cs rfl rfl 40 z40 hz2 hi1 hs1 ho1 ?_; rw [← HX8.out]))
            refine (failT X8 g Q' HRq.out er1).mono ?_
            rintro e w5 ⟨rfl,k5,f5⟩
            have HF5:=Lib.hid (And.intro k5 f5)
            clear k5 f5
            go_wp2
            go_ret2
            exact ⟨_,_,w,av',rfl,HPA.out,.inr ⟨HEQ.out,RFe.fail HEn.out HL1.out HF5.out.1 HF5.out.2⟩⟩
        · have hnn:bs.length = n:=by omega
          have hend:=H.out.done (Below.refl _ _) 0 (by rw [List.drop_eq_nil_of_le (by omega)]; exact Hr.nil q)
          have HEn:Hid (QE w g Q0 L q0 bs pre (.slice ea nE ec) 0 wr Q'):=hend.1
          have HRq:Hid (RQ wr g Q'):=hend.2
          clear H hend
          by_cases her:er = 0
          · have HER:=Lib.hid her
            rw [her]
            clear her
            go_wp2
            go_ret2
            have hz:=HER.out
            rw [hz] at HPA ⊢
            exact ⟨_,_,w,av',rfl,HPA.out,.inr ⟨HEQ.out,RFe.ok HEn.out⟩⟩
          · have hne:(er != 0) = true:=by simp [her]
            have HER:=Lib.hid her
            clear her
            go_wp2_with fail
            refine (failT wr g Q' HRq.out er).mono ?_
            rintro e w5 ⟨rfl,k5,f5⟩
            have HF5:=Lib.hid (And.intro k5 f5)
            clear k5 f5
            go_wp2
            go_ret2
            exact ⟨_,_,w,av',rfl,HPA.out,.inr ⟨HEQ.out,RFe.last HEn.out HER.out HF5.out.1 HF5.out.2⟩⟩
theorem load_hash_if {ops:Array Oper} {rest:List Oper} {o:Oper} {a:Act} {w:World} {Q:Exit→Act→World→Prop} (hw:Region.wanted o (yielded ops a.tmps) = true) (x:Operand) (ho:o.op = .load 25 x)
    (g:Nat) (hx:a.eval x = .pointer (some ⟨g,0,none⟩)) (r:List UInt8) (hg:w.heap[g]? = some (.cells (bc r) 25 (0,0))) (hl:r.length = 32)
    (h:wpList Tryz.prog ops Q rest (a.put o.dst (.agg (bc r))) w):wpList Tryz.prog ops Q (o :: rest) a w:=by
  unfold wpList
  rw [if_pos hw]
  exact .inl (wp_load_row 25 x ho g hx 25 (bc r) (0,0) _ hg Tryz.underlying25 rfl (by rw [bc_size,hl]; exact info_hash) h)
def SV (u:World) (q:Nat) (cs:Array Value):Prop:=u.heap[q]? = some (.cells cs 61 (0,0))
theorem SV.cell {u:World} {q:Nat} {cs:Array Value} (h:SV u q cs) (j:Nat):u.cell? ⟨q,j,none⟩ = cs[j]?:=by
  unfold World.cell?
  unfold SV at h
  simp only [h]
  rfl
theorem SV.keep {u u':World} {q:Nat} {cs:Array Value} (h:SV u q cs) (hb:Below u.heap.size u u'):SV u' q cs:=(hb.block q (Array.getElem?_eq_some_iff.1 h).1).trans h
theorem three (w:World) (A B C:Obj):(((w.alloc A).alloc B).alloc C).heap[w.heap.size]? = some A∧(((w.alloc A).alloc B).alloc C).heap[w.heap.size + 1]? = some B∧(((w.alloc A).alloc B).alloc C).heap[w.heap.size + 1 + 1]? = some C∧(((w.alloc A).alloc B).alloc C).heap.size = w.heap.size + 3:=by
  have z1:(w.alloc A).heap.size = w.heap.size + 1:=by simp
  have z2:((w.alloc A).alloc B).heap.size = w.heap.size + 1 + 1:=by simp
  have bB:Below (w.alloc A).heap.size (w.alloc A) ((w.alloc A).alloc B):=(Below.refl _ _).alloc (Nat.le_refl _) _
  have bC:Below ((w.alloc A).alloc B).heap.size ((w.alloc A).alloc B) (((w.alloc A).alloc B).alloc C):=(Below.refl _ _).alloc (Nat.le_refl _) _
  refine ⟨(bC.block _ (by omega)).trans ((bB.block _ (by omega)).trans (heapNew w A)),(bC.block _ (by omega)).trans ?_,?_,by simp⟩
  · rw [← z1]; exact heapNew _ B
  · rw [← z2]; exact heapNew _ C
def eb (v:Value) (es:List Ev) (k:Nat):Prop:=v.ownBlock = some k∨∃ e ∈ es,e.x.m.d.ownBlock = some k∨e.x.m.h.ownBlock = some k
def HSh (w:World) (v:Value):Prop:=∃ n,n≤1024∧((v = .slice none 0 0∧n = 0)∨∃ g cap cs,v = .slice (some ⟨g,0,none⟩) n cap∧w.heap[g]? = some (.cells cs 25 (0,0))∧n * 32≤cs.size∧n≤cap)
theorem HSh.of {B:Nat} {w:World} {x:Mg} (h:OMg B w x):HSh w x.m.h:=by
  obtain ⟨n,en,hh⟩:=h.h
  have hl:=h.hl
  refine ⟨n,by omega,?_⟩
  rcases hh.2 with h1 | ⟨g,cap,cur,h1,_,h3,h4,_,h6,_⟩
  · exact .inl h1
  · exact .inr ⟨g,cap,cur,h1,h3,by rw [h6]; exact Nat.mul_le_mul_right _ h4,h4⟩
theorem HSh.fr {S:Nat→Prop} {w w':World} {v:Value} (h:HSh w v) (f:Fm.Fr S w w') (hs:∀ k cs,w.heap[k]? = some (.cells cs 25 (0,0))→S k):HSh w' v:=by
  obtain ⟨n,hn,h⟩:=h
  refine ⟨n,hn,h.imp id ?_⟩
  rintro ⟨g,cap,cs,h1,h2,h3⟩
  exact ⟨g,cap,cs,h1,(f.block g (Array.getElem?_eq_some_iff.1 h2).1 (hs g cs h2)).trans h2,h3⟩
theorem HSh.set {w:World} {v:Value} (h:HSh w v) (G o:Nat) (us:List Value) {cur:Array Value} {t:TypeId} (hG:w.heap[G]? = some (.cells cur t (0,0))):HSh (w.setCells G o us) v:=by
  obtain ⟨n,hn,h⟩:=h
  refine ⟨n,hn,h.imp id ?_⟩
  rintro ⟨g,cap,cs,h1,h2,h3,h4⟩
  by_cases e:g = G
  · subst e
    rw [hG] at h2
    simp only [Option.some.injEq,Obj.cells.injEq] at h2
    obtain ⟨rfl,rfl,_⟩:=h2
    exact ⟨g,cap,_,h1,setCells_heap us w g o cur _ hG,by rw [setR_size]; exact h3,h4⟩
  · exact ⟨g,cap,cs,h1,(setCells_other us w G o g e).trans h2,h3,h4⟩
theorem Ev.g25 {e:Ev} (h:e.peer.length = 20):e.ls[25]? = some e.x.m.d:=by
  unfold Ev.ls
  rw [List.getElem?_cons_succ,List.getElem?_append_right (by rw [bcl_len,h]; omega),bcl_len,h]
  rfl
theorem Ev.g60 {e:Ev} (h:e.peer.length = 20) (ok:e.x.m.ok):e.ls[60]? = some e.x.m.h:=by
  unfold Ev.ls
  rw [List.getElem?_cons_succ,List.getElem?_append_right (by rw [bcl_len,h]; omega),bcl_len,h]
  exact ls_tail (o:=5) (n:=32) (j:=2) rfl (by rw [bcl_len,ok.r])
theorem fm_ne {α:Type} (f:α→Option Nat):∀ {l:List α} (_:(l.filterMap f).Nodup) (i j:Nat) (_:i < j) {x y:α} (_:l[i]? = some x) (_:l[j]? = some y) {k:Nat} (_:f x = some k),f y≠some k
  | [],_,i,_,_,_,_,hx,_,_,_=>by simp at hx
  | a :: l,hn,0,j + 1,_,x,y,hx,hy,k,hk=>by
    simp only [List.getElem?_cons_zero,Option.some.injEq] at hx
    subst hx
    rw [List.getElem?_cons_succ] at hy
    rw [List.filterMap_cons_some hk,List.nodup_cons] at hn
    exact fun e=>hn.1 (List.mem_filterMap.2 ⟨y,List.mem_of_getElem? hy,e⟩)
  | a :: l,hn,i + 1,j + 1,hij,x,y,hx,hy,k,hk=>by
    rw [List.getElem?_cons_succ] at hx hy
    refine fm_ne f (l:=l) ?_ i j (by omega) hx hy hk
    cases h:f a with
    | none=>rwa [List.filterMap_cons_none h] at hn
    | some b=>rw [List.filterMap_cons_some h,List.nodup_cons] at hn; exact hn.2
structure SE (w:World) (B G:Nat) (es:List Ev) (i di:Nat) (wr:World):Prop where
  rg:∀ j e,i≤j→es[j]? = some e→wr.rangeAt G (j * 61) e.ls
  th:∃ cs,wr.heap[G]? = some (.cells cs 100 (0,0))∧es.length * 61≤cs.size
  da:∀ j e,di≤j→es[j]? = some e→OW B wr e.x.m.d e.x.D
  ha:∀ j e,i≤j→es[j]? = some e→HSh wr e.x.m.h
  fr:Fm.Fr (fun k=>k≠G∧∀ e ∈ es,e.x.m.d.ownBlock≠some k∧e.x.m.h.ownBlock≠some k) w wr
theorem SE.start {w:World} {B G n c:Nat} {es:List Ev} (h:EVS B w (.slice (some ⟨G,0,none⟩) n c) es) (hn:n = es.length):SE w B G es 0 0 w:=by
  refine ⟨fun j e _ he=>h.at hn he,?_,fun j e _ he=>(h.2 e (List.mem_of_getElem? he)).mg.d,fun j e _ he=>HSh.of (h.2 e (List.mem_of_getElem? he)).mg,Fm.Fr.refl _ _⟩
  rcases h.1.2 with ⟨h1,_⟩ | ⟨g,cap,cur,h1,_,h3,h4,_,h6,_⟩
  · cases h1
  · simp only [Value.slice.injEq,Option.some.injEq,Addr.mk.injEq] at h1
    obtain ⟨⟨rfl,_⟩,_,_⟩:=h1
    exact ⟨cur,h3,by rw [h6]; exact Nat.mul_le_mul_right _ h4⟩
theorem rangeFr {S:Nat→Prop} {w w':World} {g o:Nat} {xs:List Value} (h:w.rangeAt g o xs) (f:Fm.Fr S w w') (hs:S g) (hg:g < w.heap.size):w'.rangeAt g o xs:=fun j v hj=>(World.cell?_of_block (w:=w) (f.block g hg hs)).trans (h j v hj)
theorem SE.spoil {w:World} {B G:Nat} {es:List Ev} {i:Nat} {wr w':World} (h:SE w B G es i i wr) (hn:(es.filterMap (fun e=>e.x.m.d.ownBlock)).Nodup) {e:Ev} (he:es[i]? = some e) (f:Fm.Fr (fun k=>e.x.m.d.ownBlock≠some k) wr w'):SE w B G es i (i + 1) w':=by
  obtain ⟨cs,hG,hsz⟩:=h.th
  have hd:=h.da i e (Nat.le_refl _) he
  have tg:∀ k cs t,wr.heap[k]? = some (.cells cs t (0,0))→t≠5→e.x.m.d.ownBlock≠some k:=fun k cs t hk ht hb=>by
    obtain ⟨_,_,cs',h5⟩:=rowTag hd hb
    exact tag_ne hk h5 ht rfl
  have hGne:e.x.m.d.ownBlock≠some G:=tg G cs _ hG (by decide)
  have hGl:=(Array.getElem?_eq_some_iff.1 hG).1
  refine ⟨fun j y hj hy=>rangeFr (h.rg j y hj hy) f hGne hGl,⟨cs,(f.block G hGl hGne).trans hG,hsz⟩,fun j y hj hy=>(h.da j y (by omega) hy).frS f (fun k hk hb=>?_),fun j y hj hy=>(h.ha j y hj hy).fr f (fun k cs' hk=>tg k cs' _ hk (by decide)),⟨f.os.trans h.fr.os,f.tape.trans h.fr.tape,f.output.trans h.fr.output,Nat.le_trans h.fr.size f.size,fun k hk hs=>(f.block k (Nat.lt_of_lt_of_le hk h.fr.size) (hs.2 e (List.mem_of_getElem? he)).1).trans (h.fr.block k hk hs)⟩⟩
  exact fm_ne (fun e:Ev=>e.x.m.d.ownBlock) hn i j (by omega) he hy hb hk
theorem SE.hash {w:World} {B G:Nat} {es:List Ev} {i di:Nat} {wr:World} (h:SE w B G es i di wr) {e:Ev} (he:es[i]? = some e) {g:Nat} (hg:e.x.m.h.ownBlock = some g) (hne:∃ cs,wr.heap[g]? = some (.cells cs 25 (0,0))) (o:Nat) (us:List Value):SE w B G es i di (wr.setCells g o us):=by
  obtain ⟨cs,hG,hsz⟩:=h.th
  obtain ⟨cs2,hg2⟩:=hne
  have hGg:G≠g:=tag_ne hG hg2 (by decide)
  obtain ⟨k1,k2,k3,k4⟩:=setCells_rest us wr g o
  have f:Fm.Fr (fun k=>k≠g) wr (wr.setCells g o us):=⟨k1,k2,k3,Nat.le_of_eq k4.symm,fun k _ hk=>setCells_other us wr g o k hk⟩
  refine ⟨fun j y hj hy=>World.rangeAt_setCells_apart (h.rg j y hj hy) g o us (.inl hGg),⟨cs,(setCells_other us wr g o G hGg).trans hG,hsz⟩,fun j y hj hy=>(h.da j y hj hy).frS f (fun k hk hb=>?_),fun j y hj hy=>(h.ha j y hj hy).set g o us hg2,⟨f.os.trans h.fr.os,f.tape.trans h.fr.tape,f.output.trans h.fr.output,Nat.le_trans h.fr.size f.size,fun k hk hs=>(f.block k (Nat.lt_of_lt_of_le hk h.fr.size) (fun e'=>(hs.2 e (List.mem_of_getElem? he)).2 (by rw [e']; exact hg))).trans (h.fr.block k hk hs)⟩⟩
  obtain ⟨_,_,cs',h5⟩:=rowTag (h.da j y hj hy) hk
  rw [hb] at h5
  exact tag_ne hg2 h5 (by decide) rfl
theorem SE.put {w:World} {B G:Nat} {es:List Ev} {i:Nat} {wr:World} (h:SE w B G es i (i + 1) wr) (us:List Value) (hu:us.length = 61):SE w B G es (i + 1) (i + 1) (wr.setCells G (i * 61) us):=by
  obtain ⟨cs,hG,hsz⟩:=h.th
  obtain ⟨k1,k2,k3,k4⟩:=setCells_rest us wr G (i * 61)
  have f:Fm.Fr (fun k=>k≠G) wr (wr.setCells G (i * 61) us):=⟨k1,k2,k3,Nat.le_of_eq k4.symm,fun k _ hk=>setCells_other us wr G (i * 61) k hk⟩
  refine ⟨fun j y hj hy=>World.rangeAt_setCells_apart (h.rg j y (by omega) hy) G _ us (.inr (.inr (by rw [hu]; omega))),⟨_,setCells_heap us wr G _ cs _ hG,by rw [setR_size]; exact hsz⟩,fun j y hj hy=>(h.da j y hj hy).frS f (fun k hk hb=>?_),fun j y hj hy=>(h.ha j y (by omega) hy).set G _ us hG,⟨f.os.trans h.fr.os,f.tape.trans h.fr.tape,f.output.trans h.fr.output,Nat.le_trans h.fr.size f.size,fun k hk hs=>(f.block k (Nat.lt_of_lt_of_le hk h.fr.size) hs.1).trans (h.fr.block k hk hs)⟩⟩
  obtain ⟨_,_,cs',h5⟩:=rowTag (h.da j y hj hy) hk
  rw [hb] at h5
  exact tag_ne hG h5 (by decide) rfl
def zeh:List Value:=Ev.ls ⟨true,zr 20,⟨zm, [], []⟩⟩
theorem zeh_built:Tryz.prog.built 100 [(0,.bool true)] = some zeh.toArray:=by kernel_rfl
theorem zeh_len:zeh.length = 61:=by kernel_rfl
theorem zeh_one:zeh.toArray.all (·.oneCell') = true:=by kernel_rfl
def h9:List Value:=Lib.byteCells (9 :: List.replicate 31 (0:UInt8))
theorem h9_built:Tryz.prog.built 25 [(0,.int .u8 9)] = some h9.toArray:=by kernel_rfl
theorem h9_len:h9.length = 32:=by kernel_rfl
theorem h9_one:h9.toArray.all (·.oneCell') = true:=by kernel_rfl
theorem built_one {ops:Array Oper} {rest:List Oper} {o:Oper} {a:Act} {w:World} {Q:Exit→Act→World→Prop} (hg:o.guard = none) (t:TypeId) (x0:Operand) (ho:o.op = .build t #[(0,x0)]) (v0:Value) (h0:a.eval x0 = v0) (T:Array Value)
    (hT:Tryz.prog.built t [(0,v0)] = some T) (h:wpList Tryz.prog ops Q rest (a.put o.dst (.agg T)) w):wpList Tryz.prog ops Q (o :: rest) a w:=by
  have e:(#[(0,x0)].map fun (i,y)=>(i,a.eval y)).toList = [(0,v0)]:=by simp [h0]
  exact wpList_build hg _ _ ho (by rw [e,hT]; rfl) (by rw [e,hT]; exact h)
set_option maxHeartbeats 2000000 in
set_option maxRecDepth 100000 in
theorem spoilEventsT (w:World) (B:Nat) (v:Value) (es:List Ev) (h:EVS B w v es) (hd:(es.filterMap (fun e=>e.x.m.d.ownBlock)).Nodup) (hn:es.length≤107374182) :
    Calls Tryz.prog 25 #[v] w fun e w'=>e = .returned (.tuple #[])∧Fm.Fr (fun k=>¬ eb v es k) w w':=by
  have HV:=Lib.hid h
  have HD:=Lib.hid hd
  obtain ⟨a,c,rfl⟩:=h.form
  rcases h.1.2 with ⟨e0,h0⟩ | ⟨G,cap,cur,e0,_⟩
  · simp only [Value.slice.injEq] at e0
    obtain ⟨rfl, -,rfl⟩:=e0
    generalize es.length = n at *
    subst h0
    clear h hd hn
    go_enter Tryz.func25,Tryz.ntmps25
    go_wp2
    go_loopw [2] (fun t wr=>t = .int .i64 0∧w = wr) (fun _ _=>0)
    case atStart=>exact ⟨rfl,rfl⟩
    case round =>
      obtain ⟨rfl,rfl⟩:=hrel
      go_wp2
      go_end0
      exact ⟨rfl,Fm.Fr.refl _ _⟩
  · simp only [Value.slice.injEq] at e0
    obtain ⟨rfl, -,rfl⟩:=e0
    have HI0:=Lib.hid (SE.start h rfl)
    generalize hnn:es.length = n at *
    have HN:=Lib.hid hnn
    clear h hd hnn
    have HTE:Hid (zeh.toArray.size = 61):=(by rw [List.size_toArray,zeh_len]:_ = _)
    have HTH:Hid (h9.toArray.size = 32):=(by rw [List.size_toArray,h9_len]:_ = _)
    obtain ⟨TE,hTE⟩:∃ x,x = zeh.toArray:=⟨_,rfl⟩
    obtain ⟨TH,hTH⟩:∃ x,x = h9.toArray:=⟨_,rfl⟩
    have bE:=zeh_built
    have bH:=h9_built
    have oE:=zeh_one
    have oH:=h9_one
    rw [← hTE] at bE oE
    rw [← hTH] at bH oH
    have iE:(Tryz.prog.info? 100).map (·.size) = some TE.size:=by
      obtain ⟨i0,hi,hz0,hz1,hz2⟩:=info_parts info_evP
      rw [hTE,HTE.out,hi,Option.map_some,hz1]
    have iH:(Tryz.prog.info? 25).map (·.size) = some TH.size:=by rw [hTH,HTH.out]; exact info_hash
    have zE:Hid (TE.size = 61∧TE.toList.length = 61):=by rw [hTE]; exact ⟨HTE.out,by rw [Array.length_toList]; exact HTE.out⟩
    have zH:Hid (TH.size = 32):=by rw [hTH]; exact HTH.out
    clear hTE hTH HTE HTH
    go_enter Tryz.func25,Tryz.ntmps25
    go_wp2
    go_loopw [2] (fun t wr=>∃ i:Nat,i≤n∧t = .int .i64 i∧Hid (SE w B G es i i wr)) (fun t _=>n - (intOf t).toNat)
    case atStart=>exact ⟨0,Nat.zero_le _,rfl,HI0⟩
    case round =>
      clear HI0
      obtain ⟨i,hi,rfl,HI⟩:=hrel
      by_cases hlt:i < n
      · as_aux_lemma =>
        obtain ⟨e,he⟩:∃ e,es[i]? = some e:=⟨_,List.getElem?_eq_getElem (by rw [HN.out]; exact hlt)⟩
        have HE:=Lib.hid he
        have oe:=HV.out.2 e (List.mem_of_getElem? he)
        have HOE:=Lib.hid oe
        have cd:wr.cell? ⟨G,i * 61 + 25,none⟩ = some e.x.m.d:=HI.out.rg i e (Nat.le_refl _) he 25 _ (Ev.g25 oe.pr)
        have hod:=HI.out.da i e (Nat.le_refl _) he
        obtain ⟨da,dn,dc,ed⟩:=hod.form3
        have HSB:=Lib.hid (spoilBytesT wr B _ e.x.D hod (by have:=oe.mg.dl; omega))
        rw [ed] at cd
        rw [ed] at HSB
        have HED:=Lib.hid ed
        clear hod oe he ed
        go_wp2_with fail
        refine HSB.out.mono ?_
        rintro e9 w3 ⟨rfl,_,f3⟩
        have HI3:Hid (SE w B G es i (i + 1) w3):=HI.out.spoil HD.out HE.out (by rw [HED.out]; exact f3)
        clear f3 HSB cd HI HED
        obtain ⟨ha,hn,hc,eh⟩:=HOE.out.mg.ok.h
        have HEH:=Lib.hid eh
        clear eh
        have ch:∀ u,SE w B G es i (i + 1) u→u.cell? ⟨G,i * 61 + 60,none⟩ = some (.slice ha hn hc):=fun u hu=>by
          have:=hu.rg i e (Nat.le_refl _) HE.out 60 _ (Ev.g60 HOE.out.pr HOE.out.mg.ok)
          rwa [HEH.out] at this
        have HCH:=Lib.hid ch
        clear ch
        go_wp2
        go_loopw [3] (fun t wr=>∃ k:Nat,k≤hn∧t = .int .i64 k∧Hid (SE w B G es i (i + 1) wr)) (fun t _=>hn - (intOf t).toNat)
        case atStart=>exact ⟨0,Nat.zero_le _,rfl,HI3⟩
        case round =>
          clear HI3
          obtain ⟨k,hk,rfl,HK⟩:=hrel
          have c60:=HCH.out wr HK.out
          have hsh:=HK.out.ha i e (Nat.le_refl _) HE.out
          rw [HEH.out] at hsh
          obtain ⟨nh,hnh,hsh⟩:=hsh
          by_cases hkl:k < hn
          · rcases hsh with ⟨e1,_⟩ | ⟨g,cap,cs,e1,hg,hsz,hcap⟩
            · simp only [Value.slice.injEq] at e1
              omega
            simp only [Value.slice.injEq] at e1
            obtain ⟨rfl,rfl,rfl⟩:=e1
            have ht:wr.there g (k * 32) TH.size:=by rw [zH.out]; exact there_row hg (by omega)
            have HK2:Hid (SE w B G es i (i + 1) (wr.setCells g (k * 32) TH.toList)):=HK.out.hash HE.out (by rw [HEH.out]; rfl) ⟨cs,hg⟩ _ _
            clear HK hg hsz
            go_wp2_with (first |(refine built_one rfl 25 _ rfl _ rfl TH bH ?_) |(refine wpList_store_mid rfl 25 _ _ rfl g (k * 32) TH rfl rfl ht iH oH ?_))
            exact ⟨⟨k + 1,by omega,by go_num,HK2⟩,by simp [intOf]; omega⟩
          · obtain ⟨cs,hG,hsz⟩:=HK.out.th
            have ht:wr.there G (i * 61) TE.size:=by rw [zE.out.1]; exact there_row hG (by have:=HN.out; omega)
            have HK2:Hid (SE w B G es (i + 1) (i + 1) (wr.setCells G (i * 61) TE.toList)):=HK.out.put _ zE.out.2
            clear HK hG hsz hsh hnh
            go_wp2_with (first |(refine built_one rfl 100 _ rfl _ rfl TE bE ?_) |(refine wpList_store_mid rfl 100 _ _ rfl G (i * 61) TE rfl rfl ht iE oE ?_))
            exact ⟨⟨i + 1,by omega,by go_num,HK2⟩,by simp [intOf]; omega⟩
      · have HF:Hid (Fm.Fr (fun k=>¬ eb (.slice (some ⟨G,0,none⟩) n c) es k) w wr):=HI.out.fr.mono (fun k _ h=>⟨fun e=>h (.inl (by rw [e]; rfl)),fun e he=>⟨fun x=>h (.inr ⟨e,he,.inl x⟩),fun x=>h (.inr ⟨e,he,.inr x⟩)⟩⟩)
        clear HI
        go_wp2
        go_end0
        exact ⟨rfl,HF.out⟩
def Dq (es:List Ev) (hs:Value):Prop:=(es.filterMap (fun e=>e.x.m.d.ownBlock)).Nodup∧(∀ e ∈ es, ∀ k,e.x.m.d.ownBlock = some k→hs.ownBlock≠some k)∧(es.filterMap (fun e=>e.x.m.h.ownBlock)).Nodup
theorem Dq.of {h0 h1:Value} {es pre:List Ev} {w1 w2:World} {ev:Value} (hd:Dj h0 h1 es) (he:EVS w1.heap.size w2 ev (pre ++ es)) (hp:∀ e ∈ pre,e.x.m.d.ownBlock = none∧e.x.m.h.ownBlock = none) (hl:∀ k,h0.ownBlock = some k→k < w1.heap.size):Dq (pre ++ es) h1:=by
  have e0:pre.filterMap (fun e=>e.x.m.d.ownBlock) = []:=by
    rw [List.filterMap_eq_nil_iff]
    exact fun e he=>(hp e he).1
  have e1:pre.filterMap (fun e=>e.x.m.h.ownBlock) = []:=by
    rw [List.filterMap_eq_nil_iff]
    exact fun e he=>(hp e he).2
  refine ⟨by rw [List.filterMap_append,e0,List.nil_append]; exact hd.1,fun e he' k hk hq=>?_,by rw [List.filterMap_append,e1,List.nil_append]; exact hd.2.2⟩
  rcases hd.2.1 with h | h
  · rw [h] at hq
    have q1:=hl k hq
    have q2:=(own_ge (he.2 e he').mg.d hk).1
    omega
  · rcases List.mem_append.1 he' with h1 | h1
    · rw [(hp e h1).1] at hk; cases hk
    · exact h e h1 k hk hq
end Go.Proofs.YtfjjpbebnoghmaaGreatDoor
