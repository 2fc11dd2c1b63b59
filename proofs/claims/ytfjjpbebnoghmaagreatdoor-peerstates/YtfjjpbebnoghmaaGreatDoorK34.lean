import Derived.Test.YtfjjpbebnoghmaaGreatDoorK00
import Derived.Test.YtfjjpbebnoghmaaGreatDoorK33
import Derived.Test.YtfjjpbebnoghmaaGreatDoorK20
import Derived.Deep.MidRow
import Derived.ArgAppend
import Derived.Laws.OwnMore
namespace Go.Proofs.YtfjjpbebnoghmaaGreatDoor
open Go.RowKit
def RPa (w:World) (S:Nat) (T:List UInt8) (av av':Value) (er:Int) (w1:World):Prop:=
  Fm.RF w1 S true av' er∧OW (S + 1) w1 av' T∧(T = []→av' = .slice none 0 0)∧(av'.ownBlock = av.ownBlock∨∀ k,av'.ownBlock = some k→w.heap.size≤k)∧Fm.Fr (fun k=>k≠S∧av.ownBlock≠some k) w w1
set_option maxHeartbeats 4000000 in
set_option maxRecDepth 100000 in
theorem rfeed0 (wz:World) (g S:Nat) (Q0:Rv) (L:List Int) (H A l:List UInt8) (av bv:Value) (hp:QP wz g S Q0 L H A av) (hr:RB wz bv l) (hl:A.length + l.length≤16777216)
    {met0 bs0 bs:List (List UInt8)} {h' h2:Bool} {r r2:List UInt8} {er:Int} (rd0:Fm.Rd true A met0 bs0 h' r 0) (rd1:Fm.Rd h' (r ++ l) [] bs h2 r2 er) :
    Calls Tryz.prog 21 #[.pointer (some ⟨g,0,none⟩),bv] wz fun e w'=>∃ ev fin w1 av',e = .returned (.tuple #[ev,.int .i64 fin])∧RPa wz S (A ++ l) av av' er w1∧RFe w1 g Q0 L ⟨Q0.c,Q0.i,Q0.hd,H⟩ bs [] er ev fin w':=by
  have HPu:Hid (Calls Tryz.prog 43 #[.pointer (some ⟨S,0,none⟩),bv] wz fun e w'=>∃ mv bsv,e = .returned (.tuple #[mv,bsv,.int .i64 er])∧Fm.RPO wz S true (A ++ l) av mv bsv er [] bs w'):=Fm.refPush wz S true av bv A l hp.rf hp.ow hp.nil hr hl rd0 rd1
  have HP:Hid (QP wz g S Q0 L H A av):=hp
  have hfa:=rd_facts (rd0.app rfl rd1)
  have HBL:Hid (∀ b ∈ bs,b.length≤32768):=(rd_facts rd1).2.2.1
  have hbn:bs.length≤16777216:=by
    have h4:=hfa.2.2.2
    rw [List.length_append,List.length_append] at h4
    omega
  have cR:=hp.rq.at 1 rfl
  rw [hp.rp] at cR
  have cG:=hp.rq.at 3 rfl
  rw [hp.go] at cG
  obtain ⟨ba,bn,bcp,rfl⟩:∃ a n c,bv = .slice a n c:=by obtain ⟨a,c,e,_⟩:=hr; exact ⟨a,_,c,e⟩
  clear hp hfa rd0 rd1 hr
  obtain ⟨q0,hq0⟩:∃ q:Qs,q = ⟨Q0.c,Q0.i,Q0.hd,H⟩:=⟨_,rfl⟩
  rw [← hq0]
  obtain ⟨pre,hpre⟩:∃ p:List Ev,p = []:=⟨_,rfl⟩
  rw [← hpre]
  have HQq:Hid (q0 = ⟨Q0.c,Q0.i,Q0.hd,H⟩∧pre = []):=⟨hq0,hpre⟩
  clear hq0 hpre
  go_enter Tryz.func21,Tryz.ntmps21
  go_wp2_with fail
  refine HPu.out.mono ?_
  rintro e w ⟨mv,bsv,rfl,po⟩
  obtain ⟨av',rf1,ow1,nil1,at1⟩:=po.rf
  have HPA:Hid (RPa wz S (A ++ l) av av' er w):=⟨rf1,ow1,nil1,at1,po.fr⟩
  have hc:HQ w g Q0 L H:=HP.out.hq po.fr
  obtain ⟨ma,c0,rfl⟩:∃ a c,mv = .slice a 0 c:=by
    rcases po.sm with ⟨_,h⟩ | ⟨B,h⟩
    · exact h
    · exact h.form
  have HBS:Hid (Sg g w (fun u=>Fm.RBS u bsv bs)):=fun u hf=>po.rb u hf.size (fun k h1 h2=>hf.block k h2 (by have:=HP.out.rq.lt; omega))
  have HI0:Hid (LQ w g Q0 L q0 bs pre 0 Q0 q0 [] [] (.slice none 0 0) w):=⟨Fm.Fr.refl _ _,by rw [HQq.out.1]; exact hc,by rw [HQq.out.1],by rw [HQq.out.2]; exact EVS.nil _ _,EvM.nil,fun xs' q' e h=>h,by rw [HQq.out.2]; exact Nat.zero_le _,.inl ⟨rfl,rfl⟩⟩
  obtain ⟨va,vc,rfl,_⟩:=HBS.out.now
  have HGW:Hid (g < w.heap.size):=hc.rq.lt
  clear hc po rf1 ow1 nil1 at1 HPu cR cG
  go_wp2_with fail
  go_loopw [9,10] (fun v t wr=>v = .slice none 0 0∧t = .int .i64 0∧w = wr) (fun _ _ _=>0)
  case atStart=>exact ⟨rfl,rfl,rfl⟩
  case round =>
    obtain ⟨rfl,rfl,rfl⟩:=hrel
    go_wp2_with fail
    go_loopw [9,11] (fun v t wr=>∃ (n:Nat) (Q':Rv) (q:Qs) (es:List Ev) (xs:List Mg),n≤bs.length∧t = .int .i64 n∧Hid (LQ w g Q0 L q0 bs pre n Q' q es xs v wr)) (fun _ t _=>bs.length - (intOf t).toNat)
    case atStart=>exact ⟨0,Q0,q0, [], [],Nat.zero_le _,rfl,HI0⟩
    case round =>
      obtain ⟨n,Q',q,es,xs,hn,rfl,H⟩:=hrel
      clear HI0
      obtain ⟨ea,ec,rfl⟩:=H.out.ev.form
      obtain ⟨nE,hnE⟩:∃ k,k = (pre ++ es).length:=⟨_,rfl⟩
      rw [← hnE] at H ⊢
      have HNE:Hid (nE = (pre ++ es).length):=hnE
      clear hnE
      by_cases hlt:n < bs.length
      · have hx:bs[n]? = some bs[n]:=List.getElem?_eq_getElem hlt
        generalize hbn:bs[n] = y at hx
        have hyl:y.length≤32768:=HBL.out y (List.mem_of_getElem? hx)
        obtain ⟨a',c',e',_,hR⟩:=HBS.out _ H.out.fr
        simp only [Value.slice.injEq] at e'
        obtain ⟨rfl, -,rfl⟩:=e'
        rcases hR with h | ⟨gb,ob,rfl,hgb,hR⟩
        · rw [h] at hlt; simp at hlt
        obtain ⟨bu,hcu,hbu⟩:=hR n hlt
        have hgd:bs.getD n [] = y:=by rw [List.getD_eq_getElem?_getD,hx]; rfl
        rw [hgd] at hbu
        obtain ⟨ba,bc',rfl,_⟩:=id hbu
        have HY:Hid (bs[n]? = some y∧RB wr (.slice ba y.length bc') y):=⟨hx,hbu⟩
        have hpn:=H.out.ln
        clear hR hbu hx hgd hbn
        go_wp2_with fail
        refine (rDecodeT wr _ y (by omega) HY.out.2).mono ?_
        rintro e w2 ⟨d1,h1,rfl,q1,q2,q3⟩
        have M1:OMg w.heap.size w2 (mgOf y d1 h1):=OMg.of_dec H.out.fr.size q1 q2
        have e1:({ (decS y).m with d:=d1,h:=h1 }:Mv) = (mgOf y d1 h1).m:=rfl
        rw [e1]
        have HMB:Hid (MBd (mgOf y d1 h1).m (decS y).D.length∧(mgOf y d1 h1).D = (decS y).D∧mgOf y d1 h1 = mgOf y d1 h1∧0≤(mgOf y d1 h1).m.i∧(mgOf y d1 h1).m.i≤4294967295):=⟨mbd_of y d1 h1,rfl,rfl,(decS_bd y).i0,(decS_bd y).i1⟩
        have hz2:=heapNew w2 (.cells z40 40)
        have hi1:=info_msg M1.ok
        have ho1:=M1.ok.one
        have hs1:z40.size = (mgOf y d1 h1).m.cs.size:=M1.ok.size.symm
        have hc:=heapSetRow _ _ _ (mgOf y d1 h1).m.cs _ hz2
        have bX:Below w2.heap.size w2 ((w2.alloc (.cells z40 40)).setRow w2.heap.size (mgOf y d1 h1).m.cs):=belowSetRow ((Below.refl _ _).alloc (Nat.le_refl _) _) (Nat.le_refl _) _
        obtain ⟨X8,hX8⟩:∃ X,X = (w2.alloc (.cells z40 40)).setRow w2.heap.size (mgOf y d1 h1).m.cs:=⟨_,rfl⟩
        have HX8:Hid (X8 = (w2.alloc (.cells z40 40)).setRow w2.heap.size (mgOf y d1 h1).m.cs):=hX8
        rw [← hX8] at hc bX
        have HB8:Hid (Below wr.heap.size wr X8):=q3.trans (bX.mono q3.size)
        have HM8:Hid (OMg w.heap.size X8 (mgOf y d1 h1)∧MB X8 w2.heap.size (mgOf y d1 h1).m):=⟨M1.grow bX,hc⟩
        have HSZ2:Hid (w.heap.size≤w2.heap.size):=Nat.le_trans H.out.fr.size q3.size
        clear bX hX8 q1 q2 q3 M1 e1
        by_cases h0:decE y = 0
        · rw [h0]
          have HE0:Hid (decE y = 0):=h0
          clear h0
          have HLG:Hid (Calls Tryz.prog 46 #[.pointer (some ⟨g,0,none⟩),.agg (mgOf y d1 h1).m.cs] X8 fun e w'=>e = .returned (.int .i64 (rlE L Q'.b Q'.hd (mgOf y d1 h1).m (decS y).D))∧Below X8.heap.size X8 w'):=rlegalT X8 g Q' L (H.out.hc.below HB8.out).pq (mgOf y d1 h1).m (decS y).D HM8.out.1.d.rb HMB.out.1
          have hle:rlE L Q'.b Q'.hd (mgOf y d1 h1).m (decS y).D = legE L Q0.b q.b (decS y).m (decS y).D:=by
            have h2:=H.out.sh
            have e1:Q'.b = Q0.b:=by rw [h2]
            have e2:Q'.hd = q.b:=by rw [h2]
            rw [e1,e2]
            exact leg_of HE0.out L Q0.b q.b d1 h1
          rw [hle] at HLG
          clear hle
          go_wp2_with (first |(refine wpList_store_row rfl 40 _ _ rfl w2.heap.size (mgOf y d1 h1).m.cs rfl rfl 40 z40 hz2 hi1 hs1 ho1 ?_; rw [← HX8.out]) |(refine load_msg_if rfl _ rfl w2.heap.size rfl (mgOf y d1 h1).m.cs hc hi1 ?_))
          refine HLG.out.mono ?_
          rintro e w3 ⟨rfl,b3⟩
          have HW3:Hid (Below wr.heap.size wr w3):=HB8.out.trans (b3.mono HB8.out.size)
          have HM3:Hid (OMg w.heap.size w3 (mgOf y d1 h1)∧MB w3 w2.heap.size (mgOf y d1 h1).m):=⟨HM8.out.1.grow b3,HM8.out.2.below b3⟩
          clear hc b3 HLG HX8 hz2 ho1 hs1 HB8 HM8
          by_cases hl0:legE L Q0.b q.b (decS y).m (decS y).D = 0
          · rw [hl0]
            have HL0:Hid (legE L Q0.b q.b (decS y).m (decS y).D = 0):=hl0
            clear hl0
            have HC3:Hid (HQ w3 g Q' L q.H):=H.out.hc.below HW3.out
            have HTK:Hid (Calls Tryz.prog 47 #[.pointer (some ⟨g,0,none⟩),.agg (mgOf y d1 h1).m.cs] w3 fun e w'=>e = .returned (.tuple #[])∧∃ hv H',RQ w' g (Q'.eff (mgOf y d1 h1).m.k hv)∧HNq w3 w' L.length Q' q.H (mgOf y d1 h1).m (decS y).D hv H'∧Fm.Fr (fun k=>k≠g) w3 w'):=effT w3 g Q' L q.H HC3.out (mgOf y d1 h1).m HM3.out.1.ok (decS y).D HM3.out.1.d.rb (decS_len y).1 HMB.out.2.2.2.1 HMB.out.2.2.2.2
            have hc3:=HM3.out.2
            go_wp2_with (first |(refine load_msg_if rfl _ rfl w2.heap.size rfl (mgOf y d1 h1).m.cs hc3 hi1 ?_))
            refine HTK.out.mono ?_
            rintro e w4 ⟨rfl,hv,H',k4,hn4,f4⟩
            have hgw:g < w.heap.size:=HGW.out
            have hw2:w.heap.size≤w2.heap.size:=HSZ2.out
            have hc4:MB w4 w2.heap.size (mgOf y d1 h1).m:=(f4.block w2.heap.size HM3.out.2.lt (by omega)).trans HM3.out.2
            have HF4:Hid (Fm.Fr (fun k=>k≠g) w w4):=frT H.out.fr (frT (Fm.Fr.of_below HW3.out) f4)
            have kk:∀ k,w.heap.size≤k→k < wr.heap.size→w4.heap[k]? = wr.heap[k]?:=fun k h1 h2=>(frT (Fm.Fr.of_below HW3.out) f4).block k h2 (by omega)
            have kk3:∀ k,w.heap.size≤k→k < w3.heap.size→w4.heap[k]? = w3.heap[k]?:=fun k h1 h2=>f4.block k h2 (by omega)
            have HEV:Hid (EVS w.heap.size w4 (.slice ea nE ec) (pre ++ es)):=H.out.ev.fr kk
            have HMG:Hid (OMg w.heap.size w4 (mgOf y d1 h1)):=HM3.out.1.fr kk3
            have HTT:Hid (HQ w4 g (Q'.eff (decS y).m.k hv) L H'∧Hstep L.length q (decS y).m (decS y).D ⟨(sy (decS y).m.k q.c q.i q.b).1,(sy (decS y).m.k q.c q.i q.b).2.1,(sy (decS y).m.k q.c q.i q.b).2.2,H'⟩):=HQ.took (m:=(mgOf y d1 h1).m) HC3.out k4 hn4 f4 (decS_len y).1
            have HP4:Hid (MB w4 w2.heap.size (mgOf y d1 h1).m):=hc4
            have HHO:Hid ((hv = Q0.hs∧H' = q0.H)∨OW w.heap.size w4 hv H'):=HNq.ho hn4 H.out.ho HGW.out (Nat.le_trans H.out.fr.size HW3.out.size) (Fe.of_fr (frT (Fm.Fr.of_below HW3.out) f4))
            clear k4 hn4 f4 kk kk3 HTK hc3 hc4 HC3 HM3 HW3
            have c0:w4.cell? ⟨w2.heap.size,0,none⟩ = some (.int .i64 (decS y).m.k):=HP4.out.c0
            by_cases k1000:(decS y).m.k = 1000
            · have HNx:=Lib.hid (H.out.next HY.out.1 HE0.out HL0.out HF4.out HTT.out.1 HTT.out.2 HEV.out (es':=es) (by rw [if_pos k1000,List.append_nil]; exact H.out.em) (by have:=H.out.ln; omega) HHO.out)
              rw [k1000] at c0
              clear k1000
              go_wp2
              exact ⟨⟨n + 1,_,_,_,_,by omega,by go_num,HNx⟩,by simp [intOf]; omega⟩
            · have hk1:((decS y).m.k != 1000) = true:=by simp [k1000]
              have hT:Tryz.prog.built 100 [(2,.agg (mgOf y d1 h1).m.cs)] = some (Ev.ls ⟨false,zr 20,mgOf y d1 h1⟩).toArray:=builtM (mgOf y d1 h1).m HMG.out.ok
              have hT61:(Ev.ls ⟨false,zr 20,mgOf y d1 h1⟩).toArray.size = 61:=Ev.len (B:=w.heap.size) (w:=w4) ⟨rfl,HMG.out⟩
              have HLN:Hid (xs ++ (if (decS y).m.k = 1000 then [] else [⟨(decS y).m,(decS y).D,(decS y).hb⟩]) = xs ++ [⟨(decS y).m,(decS y).D,(decS y).hb⟩]):=by
                show _ = _
                rw [if_neg k1000]
              have hc4:=HP4.out
              clear k1000
              generalize hTT:(Ev.ls ⟨false,zr 20,mgOf y d1 h1⟩).toArray = TT at *
              have HTe:Hid ((Ev.ls ⟨false,zr 20,mgOf y d1 h1⟩).toArray = TT):=hTT
              clear hTT
              have b5:Below w4.heap.size w4 (w4.alloc (.cells TT 100)):=(Below.refl _ _).alloc (Nat.le_refl _) _
              have HV5:Hid (EVS w.heap.size (w4.alloc (.cells TT 100)) (.slice ea nE ec) (pre ++ es)∧(w4.alloc (.cells TT 100)).heap[w4.heap.size]? = some (.cells (Ev.ls ⟨false,zr 20,mgOf y d1 h1⟩).toArray 100 (0,0))∧OEv w.heap.size (w4.alloc (.cells TT 100)) ⟨false,zr 20,mgOf y d1 h1⟩∧w.heap.size≤(w4.alloc (.cells TT 100)).heap.size∧(pre ++ es).length < 107374182):=⟨HEV.out.fr (fun k _ hk=>b5.block k hk),by rw [HTe.out]; exact heapNew _ _,⟨rfl,HMG.out.grow b5⟩,Nat.le_trans HF4.out.size b5.size,by have:=H.out.ln; omega⟩
              have HB5:=Lib.hid b5
              clear b5 HEV HMG
              go_wp2_with (first |(refine load_msg_if rfl _ rfl w2.heap.size rfl (mgOf y d1 h1).m.cs hc4 hi1 ?_) |(refine built_ev rfl _ rfl _ rfl TT hT ?_) |(refine build_ev rfl _ rfl TT rfl hT61 ?_) |(at_builtin; refine append_ev rfl _ _ rfl rfl HV5.out.1 w4.heap.size ⟨false,zr 20,mgOf y d1 h1⟩ rfl HV5.out.2.1 HV5.out.2.2.1 HV5.out.2.2.2.1 HV5.out.2.2.2.2 ?_; intro v6 w6 ev6 b6 s6 o6))
              obtain ⟨a6,c6,rfl⟩:=ev6.form
              have HNx:Hid (LQ w g Q0 L q0 bs pre (n + 1) (Q'.eff (decS y).m.k hv) ⟨(sy (decS y).m.k q.c q.i q.b).1,(sy (decS y).m.k q.c q.i q.b).2.1,(sy (decS y).m.k q.c q.i q.b).2.2,H'⟩ (es ++ [⟨false,zr 20,mgOf y d1 h1⟩]) (xs ++ (if (decS y).m.k = 1000 then [] else [⟨(decS y).m,(decS y).D,(decS y).hb⟩])) (.slice a6 ((pre ++ es) ++ [(⟨false,zr 20,mgOf y d1 h1⟩:Ev)]).length c6) w6):=by
                have hb6:Below w.heap.size w4 w6:=(HB5.out.mono HF4.out.size).trans b6
                have hf6:Fm.Fr (fun k=>k≠g) w w6:=⟨hb6.os.trans HF4.out.os,hb6.tape.trans HF4.out.tape,hb6.output.trans HF4.out.output,Nat.le_trans HF4.out.size hb6.size,fun k hk hg=>(hb6.block k hk).trans (HF4.out.block k hk hg)⟩
                have hfe:Fe g w4 w6:=(Fe.of_below HB5.out).trans ⟨o6.1,o6.2.1,o6.2.2.1,o6.2.2.2,fun k hk _ hn=>s6 k hk hn⟩
                have h5:=HTT.out.1
                have hc6:HQ w6 g (Q'.eff (decS y).m.k hv) L H':=h5.fr hfe (h5.rq.keep (hb6.block g HGW.out))
                refine H.out.next HY.out.1 HE0.out HL0.out hf6 hc6 HTT.out.2 (by rw [← List.append_assoc]; exact ev6) (by rw [HLN.out]; exact H.out.em.snoc y d1 h1) ?_ (HHO.out.imp id (fun o=>o.fe HGW.out hfe))
                have:=H.out.ln
                simp only [List.length_append,List.length_cons,List.length_nil] at this ⊢
                omega
              clear ev6 b6 s6 o6 HV5 HB5 hT hT61 hc4 HTe c0
              obtain ⟨n6,hn6⟩:∃ k,k = ((pre ++ es) ++ [(⟨false,zr 20,mgOf y d1 h1⟩:Ev)]).length:=⟨_,rfl⟩
              rw [← hn6] at HNx ⊢
              clear hn6
              go_wp2
              exact ⟨⟨n + 1,_,_,_,_,by omega,by go_num,HNx⟩,by simp [intOf]; omega⟩
          · have hne:(legE L Q0.b q.b (decS y).m (decS y).D != 0) = true:=by simp [hl0]
            have hend:=H.out.done HW3.out (legE L Q0.b q.b (decS y).m (decS y).D) (by rw [drop_at HY.out.1]; exact Hr.ill q y _ HE0.out hl0)
            have HEn:Hid (QE w g Q0 L q0 bs pre (.slice ea nE ec) (legE L Q0.b q.b (decS y).m (decS y).D) w3 Q'):=hend.1
            have HRq:Hid (RQ w3 g Q'):=hend.2
            have HL1:Hid (legE L Q0.b q.b (decS y).m (decS y).D≠0):=hl0
            clear hend
            generalize legE L Q0.b q.b (decS y).m (decS y).D = er1 at *
            clear hl0
            go_wp2_with fail
            refine (failT w3 g Q' HRq.out er1).mono ?_
            rintro e w5 ⟨rfl,k5,f5⟩
            have HF5:=Lib.hid (And.intro k5 f5)
            clear k5 f5
            go_wp2
            go_ret2
            exact ⟨_,_,w,av',rfl,HPA.out,RFe.fail HEn.out HL1.out HF5.out.1 HF5.out.2⟩
        · have hne:(decE y == 0) = false:=by simp [h0]
          have hne2:(decE y != 0) = true:=by simp [h0]
          have hend:=H.out.done HB8.out (decE y) (by rw [drop_at HY.out.1]; exact Hr.dec q y _ h0)
          have HEn:Hid (QE w g Q0 L q0 bs pre (.slice ea nE ec) (decE y) X8 Q'):=hend.1
          have HRq:Hid (RQ X8 g Q'):=hend.2
          have HL1:Hid (decE y≠0):=h0
          clear hend
          generalize decE y = er1 at *
          clear h0 hc
          go_wp2_with (first |(refine wpList_store_row rfl 40 _ _ rfl w2.heap.size (mgOf y d1 h1).m.cs rfl rfl 40 z40 hz2 hi1 hs1 ho1 ?_; rw [← HX8.out]))
          refine (failT X8 g Q' HRq.out er1).mono ?_
          rintro e w5 ⟨rfl,k5,f5⟩
          have HF5:=Lib.hid (And.intro k5 f5)
          clear k5 f5
          go_wp2
          go_ret2
          exact ⟨_,_,w,av',rfl,HPA.out,RFe.fail HEn.out HL1.out HF5.out.1 HF5.out.2⟩
      · have hnn:bs.length = n:=by omega
        have hend:=H.out.done (Below.refl _ _) 0 (by rw [List.drop_eq_nil_of_le (by omega)]; exact Hr.nil q)
        have HEn:Hid (QE w g Q0 L q0 bs pre (.slice ea nE ec) 0 wr Q'):=hend.1
        have HRq:Hid (RQ wr g Q'):=hend.2
        clear H hend
        by_cases her:er = 0
        · have HER:=Lib.hid her
          rw [her]
          clear her
          go_wp2
          go_ret2
          have hz:=HER.out
          rw [hz] at HPA ⊢
          exact ⟨_,_,w,av',rfl,HPA.out,RFe.ok HEn.out⟩
        · have hne:(er != 0) = true:=by simp [her]
          have HER:=Lib.hid her
          clear her
          go_wp2_with fail
          refine (failT wr g Q' HRq.out er).mono ?_
          rintro e w5 ⟨rfl,k5,f5⟩
          have HF5:=Lib.hid (And.intro k5 f5)
          clear k5 f5
          go_wp2
          go_ret2
          exact ⟨_,_,w,av',rfl,HPA.out,RFe.last HEn.out HER.out HF5.out.1 HF5.out.2⟩
def EvQ (es ys:List Ev):Prop:=es.length = ys.length∧∀ (k:Nat) (x y:Ev),es[k]? = some x→ys[k]? = some y→y.hello = x.hello∧y.peer = x.peer∧y.x.D = x.x.D∧y.x.hb = x.x.hb∧y.x.m = { x.x.m with d:=y.x.m.d,h:=y.x.m.h }
theorem EvH.same {es ys:List Ev} {met:List (List UInt8)} {xs:List Mg} (h1:EvH es met xs) (h2:EvH ys met xs):EvQ es ys:=by
  obtain ⟨es',rfl,e1⟩:=h1
  obtain ⟨ys',rfl,e2⟩:=h2
  have q1:=e1.1
  have q2:=e2.1
  refine ⟨by rw [List.length_append,List.length_append]; omega,fun k x y hx hy=>?_⟩
  by_cases hk:k < (met.map hev).length
  · rw [List.getElem?_append_left hk] at hx hy
    rw [hx] at hy
    obtain rfl:=Option.some.inj hy
    exact ⟨rfl,rfl,rfl,rfl,rfl⟩
  · rw [List.getElem?_append_right (by omega)] at hx hy
    have hlt:=(List.getElem?_eq_some_iff.1 hx).1
    obtain ⟨z,hz⟩:∃ z,xs[k - (met.map hev).length]? = some z:=⟨_,List.getElem?_eq_getElem (by omega)⟩
    obtain ⟨a1,a2,a3,a4,a5⟩:=e1.2 _ x z hx hz
    obtain ⟨b1,b2,b3,b4,b5⟩:=e2.2 _ y z hy hz
    refine ⟨b1.trans a1.symm,b2.trans a2.symm,b3.trans a3.symm,b4.trans a4.symm,?_⟩
    rw [a5]
    exact b5
theorem flat61 (es:List Ev) (h:∀ x ∈ es,x.ls.length = 61) (i:Nat) (x:Ev) (hi:es[i]? = some x) (j:Nat) (hj:j < 61):(es.flatMap Ev.ls)[i * 61 + j]? = x.ls[j]?:=by
  induction es generalizing i with
  | nil=>simp at hi
  | cons y es ih =>
    have hy:=h y (by simp)
    rw [List.flatMap_cons]
    cases i with
    | zero =>
      simp at hi
      subst hi
      rw [Nat.zero_mul,Nat.zero_add,List.getElem?_append_left (by omega)]
    | succ i =>
      rw [List.getElem?_append_right (by omega),show (i + 1) * 61 + j - y.ls.length = i * 61 + j by omega]
      exact ih (fun x hx=>h x (by simp [hx])) i (by simpa using hi)
theorem EVS.at {B:Nat} {w:World} {g n c:Nat} {es:List Ev} (h:EVS B w (.slice (some ⟨g,0,none⟩) n c) es) (hn:n = es.length) {k:Nat} {x:Ev} (hk:es[k]? = some x):w.rangeAt g (k * 61) x.ls:=by
  subst hn
  intro j u hu
  have h61:x.ls.length = 61:=Ev.len (h.2 x (List.mem_of_getElem? hk))
  have hj:=(List.getElem?_eq_some_iff.1 hu).1
  have hkl:=(List.getElem?_eq_some_iff.1 hk).1
  rw [World.ownsRow.cellAt h.1 (k * 61 + j) (by omega),flat61 es (fun y hy=>Ev.len (h.2 y hy)) k x hk j (by omega)]
  exact hu
theorem pr_of {u:World} {g o:Nat} {x:Ev} (h:u.rangeAt g o x.ls):u.rangeAt g (o + 1) (Lib.byteCells x.peer):=fun j v hj=>by
  rw [Nat.add_assoc,Nat.add_comm 1 j]
  refine h (j + 1) v ?_
  unfold Ev.ls
  rw [List.getElem?_cons_succ,List.getElem?_append_left (List.getElem?_eq_some_iff.1 hj).1]
  exact hj
theorem ms_of {u:World} {g o:Nat} {x:Ev} (h20:x.peer.length = 20) (h:u.rangeAt g o x.ls):u.rangeAt g (o + 21) x.x.m.ls:=fun j v hj=>by
  rw [Nat.add_assoc,Nat.add_comm 21 j]
  refine h (j + 21) v ?_
  unfold Ev.ls
  rw [show j + 21 = (j + 20) + 1 from rfl,List.getElem?_cons_succ,List.getElem?_append_right (by rw [bcl_len,h20]; omega),bcl_len,h20,show j + 20 - 20 = j by omega]
  exact hj
set_option maxHeartbeats 4000000 in
set_option maxRecDepth 100000 in
theorem eventsSameT (w:World) (B B':Nat) (v1 v2:Value) (es ys:List Ev) (h1:EVS B w v1 es) (h2:EVS B' w v2 ys) (hq:EvQ es ys) (hl:es.length≤107374182) :
    Calls Tryz.prog 22 #[v1,v2] w fun e w'=>e = .returned (.bool true)∧Below w.heap.size w w':=by
  have H1:=Lib.hid h1
  have H2:=Lib.hid h2
  have HQ:=Lib.hid hq
  obtain ⟨a1,c1,rfl⟩:=h1.form
  obtain ⟨a2,c2,rfl⟩:=h2.form
  rw [← hq.1] at H2 ⊢
  clear h1 h2 hq
  obtain ⟨n,hn⟩:∃ n,n = es.length:=⟨_,rfl⟩
  have HN:=Lib.hid hn
  rw [← hn] at H1 H2 hl ⊢
  clear hn
  go_enter Tryz.func22,Tryz.ntmps22
  go_wp2
  go_loopw [5] (fun t wr=>∃ k:Nat,k≤n∧t = .int .i64 k∧Hid (Below w.heap.size w wr)) (fun t _=>n - (intOf t).toNat)
  case atStart=>exact ⟨0,Nat.zero_le _,rfl,Below.refl _ _⟩
  case round =>
    obtain ⟨k,hk,rfl,HBW⟩:=hrel
    by_cases hlt:k < n
    · obtain ⟨x,hx⟩:∃ x,es[k]? = some x:=⟨_,List.getElem?_eq_getElem (by rw [← HN.out]; exact hlt)⟩
      obtain ⟨y,hy⟩:∃ y,ys[k]? = some y:=⟨_,List.getElem?_eq_getElem (by rw [← HQ.out.1, ← HN.out]; exact hlt)⟩
      obtain ⟨g1,rfl⟩:∃ g1,a1 = some ⟨g1,0,none⟩:=by
        rcases H1.out.1.2 with ⟨h,_⟩ | ⟨g,cap,cur,h,_⟩
        · simp at h; omega
        · simp at h; exact ⟨g,h.1⟩
      obtain ⟨g2,rfl⟩:∃ g2,a2 = some ⟨g2,0,none⟩:=by
        rcases H2.out.1.2 with ⟨h,_⟩ | ⟨g,cap,cur,h,_⟩
        · simp at h; omega
        · simp at h; exact ⟨g,h.1⟩
      have heq:=HQ.out.2 k x y hx hy
      have o1:=H1.out.2 x (List.mem_of_getElem? hx)
      have o2:=H2.out.2 y (List.mem_of_getElem? hy)
      have r1:=H1.out.at HN.out hx
      have r2:=H2.out.at (HN.out.trans HQ.out.1) hy
      have hl20:=o1.pr
      have hx20:=o1.pr
      have hy20:=o2.pr
      have hi20:(Tryz.prog.info? 41).map (·.size) = some (Lib.byteCells x.peer).length:=by rw [bcl_len,hl20]; exact info20
      have him1:(Tryz.prog.info? 40).map (·.size) = some x.x.m.ls.length:=by rw [info_msg o1.mg.ok,Mv.cs,List.size_toArray]
      have him2:(Tryz.prog.info? 40).map (·.size) = some y.x.m.ls.length:=by rw [info_msg o2.mg.ok,Mv.cs,List.size_toArray]
      have keep:∀ (u u':World) (g:Nat) (o:Nat) (xs:List Value),xs.length = 61→u.rangeAt g o xs→Below u.heap.size u u'→u'.rangeAt g o xs:=fun u u' g o xs _ hr hb j v hj=>(World.cell?_of_block (w:=u) (hb.block g (World.block_lt_of_cell? u _ (hr j v hj)))).trans (hr j v hj)
      have HV:Hid (wr.rangeAt g1 (k * 61) (Ev.ls x)∧wr.rangeAt g2 (k * 61) (Ev.ls y)):=⟨keep w wr g1 _ _ (Ev.len o1) r1 HBW.out,keep w wr g2 _ _ (Ev.len o2) r2 HBW.out⟩
      have HKP:Hid (∀ w5,Below (wr.drewN 1).heap.size (wr.drewN 1) w5→w5.rangeAt g1 (k * 61) (Ev.ls x)∧w5.rangeAt g2 (k * 61) (Ev.ls y)):=fun w5 b5=>⟨keep (wr.drewN 1) w5 g1 _ _ (Ev.len o1) HV.out.1 b5,keep (wr.drewN 1) w5 g2 _ _ (Ev.len o2) HV.out.2 b5⟩
      have HMS:=Lib.hid (msameT (wr.drewN 1) x.x.m y.x.m x.x.D x.x.hb (o1.mg.mm.keep (belowN HBW.out 1)) (by have:=o2.mg.mm; rw [heq.2.2.1,heq.2.2.2.1] at this; exact this.keep (belowN HBW.out 1)) heq.2.2.2.2)
      have hkn:(k:Int) < (n:Int):=by omega
      have hk0:(0:Int)≤(k:Int):=by omega
      have HEQ:=Lib.hid heq
      clear o1 o2 r1 r2 keep hx hy H1 H2 heq
      go_upto_region 6 with fail
      refine wp_region_held_drew (S:=fun u=>u.rangeAt g1 (k * 61) (Ev.ls x)∧u.rangeAt g2 (k * 61) (Ev.ls y)) (by kernel_rfl) (HV.out) (fun hHeld=>?_)
      refine tkB (i:=0) (v:=.slice (some ⟨g1,0,none⟩) n c1) rfl hHeld ?_
      simp only [Act.put,zq1,zq2,zq4,zq5,zq6]
      refine tkB (i:=1) (v:=.int .i64 (k:Int)) rfl hHeld ?_
      simp only [Act.put,zq1,zq2,zq3,zq4,zq5,zq6]
      refine tkA (i:=2) (v:=.pointer (some ⟨g1,k * 61,none⟩)) rfl (Or.inl ⟨by rfl,fun w hw=>by have hq:=hkn; have hq2:=hk0; go_simp⟩) hHeld ?_
      simp only [Act.put,zq1,zq2,zq3,zq4,zq5,zq6]
      refine tkB (i:=3) (v:=.pointer (some ⟨g1,k * 61,none⟩)) rfl hHeld ?_
      simp only [Act.put,zq1,zq2,zq3,zq4,zq5,zq6]
      refine tkA (i:=4) (v:=.bool x.hello) rfl (Or.inl ⟨by rfl,fun w hw=>by have hq:w.cell? ⟨g1,k * 61,none⟩ = some (.bool x.hello):=hw.1 0 _ rfl; go_simp⟩) hHeld ?_
      simp only [Act.put,zq1,zq2,zq3,zq4,zq5,zq6]
      refine tkB (i:=5) (v:=.slice (some ⟨g2,0,none⟩) n c2) rfl hHeld ?_
      simp only [Act.put,zq1,zq2,zq3,zq4,zq5,zq6]
      refine tkB (i:=6) (v:=.int .i64 (k:Int)) rfl hHeld ?_
      simp only [Act.put,zq1,zq2,zq3,zq4,zq5,zq6]
      refine tkA (i:=7) (v:=.pointer (some ⟨g2,k * 61,none⟩)) rfl (Or.inl ⟨by rfl,fun w hw=>by have hq:=hkn; have hq2:=hk0; go_simp⟩) hHeld ?_
      simp only [Act.put,zq1,zq2,zq3,zq4,zq5,zq6]
      refine tkB (i:=8) (v:=.pointer (some ⟨g2,k * 61,none⟩)) rfl hHeld ?_
      simp only [Act.put,zq1,zq2,zq3,zq4,zq5,zq6]
      refine tkA (i:=9) (v:=.bool x.hello) rfl (Or.inl ⟨by rfl,fun w hw=>by have hq:w.cell? ⟨g2,k * 61,none⟩ = some (.bool y.hello):=hw.2 0 _ rfl; rw [HEQ.out.1] at hq; go_simp⟩) hHeld ?_
      simp only [Act.put,zq1,zq2,zq3,zq4,zq5,zq6]
      refine tkB (i:=10) (v:=.bool false) rfl hHeld ?_
      simp only [Act.put,zq1,zq2,zq3,zq4,zq5,zq6]
      refine tkB (i:=11) (v:=.bool false) rfl hHeld ?_
      simp only [Act.put,zq1,zq2,zq3,zq4,zq5,zq6]
      refine tkB (i:=12) (v:=.slice (some ⟨g1,0,none⟩) n c1) rfl hHeld ?_
      simp only [Act.put,zq1,zq2,zq3,zq4,zq5,zq6]
      refine tkB (i:=13) (v:=.int .i64 (k:Int)) rfl hHeld ?_
      simp only [Act.put,zq1,zq2,zq3,zq4,zq5,zq6]
      refine tkA (i:=14) (v:=.pointer (some ⟨g1,k * 61,none⟩)) rfl (Or.inl ⟨by rfl,fun w hw=>by have hq:=hkn; have hq2:=hk0; go_simp⟩) hHeld ?_
      simp only [Act.put,zq1,zq2,zq3,zq4,zq5,zq6]
      refine tkB (i:=15) (v:=.pointer (some ⟨g1,k * 61 + 1,none⟩)) rfl hHeld ?_
      simp only [Act.put,zq1,zq2,zq3,zq4,zq5,zq6]
      refine tkA (i:=16) (v:=.agg (bc x.peer)) rfl (yieldsIf_load_mid (by rfl) _ _ rfl _ _ rfl _ _ (fun u hw=>pr_of hw.1) Tryz.underlying41 rfl hi20) hHeld ?_
      simp only [Act.put,zq1,zq2,zq3,zq4,zq5,zq6]
      refine tkB (i:=17) (v:=.slice (some ⟨g2,0,none⟩) n c2) rfl hHeld ?_
      simp only [Act.put,zq1,zq2,zq3,zq4,zq5,zq6]
      refine tkB (i:=18) (v:=.int .i64 (k:Int)) rfl hHeld ?_
      simp only [Act.put,zq1,zq2,zq3,zq4,zq5,zq6]
      refine tkA (i:=19) (v:=.pointer (some ⟨g2,k * 61,none⟩)) rfl (Or.inl ⟨by rfl,fun w hw=>by have hq:=hkn; have hq2:=hk0; go_simp⟩) hHeld ?_
      simp only [Act.put,zq1,zq2,zq3,zq4,zq5,zq6]
      refine tkB (i:=20) (v:=.pointer (some ⟨g2,k * 61 + 1,none⟩)) rfl hHeld ?_
      simp only [Act.put,zq1,zq2,zq3,zq4,zq5,zq6]
      refine tkA (i:=21) (v:=.agg (bc x.peer)) rfl (yieldsIf_load_mid (by rfl) _ _ rfl _ _ rfl _ _ (fun u hw=>HEQ.out.2.1 ▸ pr_of hw.2) Tryz.underlying41 rfl hi20) hHeld ?_
      simp only [Act.put,zq1,zq2,zq3,zq4,zq5,zq6]
      refine tkA (i:=22) (v:=.bool false) rfl (Or.inl ⟨by rfl,fun w hw=>by have hq:=equal_20 w 9998 x.peer x.peer hl20 hl20; rw [decide_eq_true rfl] at hq; go_simp⟩) hHeld ?_
      simp only [Act.put,zq1,zq2,zq3,zq4,zq5,zq6]
      refine tkB (i:=23) (v:=.bool false) rfl hHeld ?_
      simp only [Act.put,zq1,zq2,zq3,zq4,zq5,zq6]
      refine tkB (i:=24) (v:=.bool false) rfl hHeld ?_
      simp only [Act.put,zq1,zq2,zq3,zq4,zq5,zq6]
      refine tkB (i:=25) (v:=.slice (some ⟨g1,0,none⟩) n c1) rfl hHeld ?_
      simp only [Act.put,zq1,zq2,zq3,zq4,zq5,zq6]
      refine tkB (i:=26) (v:=.int .i64 (k:Int)) rfl hHeld ?_
      simp only [Act.put,zq1,zq2,zq3,zq4,zq5,zq6]
      refine tkA (i:=27) (v:=.pointer (some ⟨g1,k * 61,none⟩)) rfl (Or.inl ⟨by rfl,fun w hw=>by have hq:=hkn; have hq2:=hk0; go_simp⟩) hHeld ?_
      simp only [Act.put,zq1,zq2,zq3,zq4,zq5,zq6]
      refine tkB (i:=28) (v:=.pointer (some ⟨g1,k * 61 + 21,none⟩)) rfl hHeld ?_
      simp only [Act.put,zq1,zq2,zq3,zq4,zq5,zq6]
      refine tkA (i:=29) (v:=.agg x.x.m.cs) rfl (yieldsIf_load_mid (by rfl) _ _ rfl _ _ rfl _ _ (fun u hw=>ms_of hx20 hw.1) Tryz.underlying40 rfl him1) hHeld ?_
      simp only [Act.put,zq1,zq2,zq3,zq4,zq5,zq6]
      refine tkB (i:=30) (v:=.slice (some ⟨g2,0,none⟩) n c2) rfl hHeld ?_
      simp only [Act.put,zq1,zq2,zq3,zq4,zq5,zq6]
      refine tkB (i:=31) (v:=.int .i64 (k:Int)) rfl hHeld ?_
      simp only [Act.put,zq1,zq2,zq3,zq4,zq5,zq6]
      refine tkA (i:=32) (v:=.pointer (some ⟨g2,k * 61,none⟩)) rfl (Or.inl ⟨by rfl,fun w hw=>by have hq:=hkn; have hq2:=hk0; go_simp⟩) hHeld ?_
      simp only [Act.put,zq1,zq2,zq3,zq4,zq5,zq6]
      refine tkB (i:=33) (v:=.pointer (some ⟨g2,k * 61 + 21,none⟩)) rfl hHeld ?_
      simp only [Act.put,zq1,zq2,zq3,zq4,zq5,zq6]
      refine tkA (i:=34) (v:=.agg y.x.m.cs) rfl (yieldsIf_load_mid (by rfl) _ _ rfl _ _ rfl _ _ (fun u hw=>ms_of hy20 hw.2) Tryz.underlying40 rfl him2) hHeld ?_
      simp only [Act.put,zq1,zq2,zq3,zq4,zq5,zq6]
      refine wpAnyH_ready (rs:=[35]) (by kernel_rfl) (by simp) ?_
      refine AllReadyH.cons (o:=_) rfl (fun K hK=>?_) AllReadyH.nil
      go_simp
      refine (HMS.out).mono ?_
      rintro e w5 ⟨rfl,b5⟩
      have HV5:Hid (w5.rangeAt g1 (k * 61) (Ev.ls x)∧w5.rangeAt g2 (k * 61) (Ev.ls y)):=HKP.out w5 b5
      have HB5:Hid (Below w.heap.size w w5):=(belowN HBW.out 1).trans (b5.mono HBW.out.size)
      clear b5
      go_wp2_with fail
      refine hK.out _ _ (HV5.out) (fun hHeld=>?_)
      clear hK K
      refine tkB (i:=36) (v:=.bool false) rfl hHeld ?_
      simp only [Act.put,zq1,zq2,zq3,zq4,zq5,zq6]
      refine tkB (i:=37) (v:=.bool false) rfl hHeld ?_
      simp only [Act.put,zq1,zq2,zq3,zq4,zq5,zq6]
      refine wpAnyH_done (by kernel_rfl) ?_ _
      clear hHeld
      go_wp2
      exact ⟨⟨k + 1,by omega,by go_num,HB5⟩,by simp [intOf]; omega⟩
    · obtain rfl:k = n:=by omega
      go_wp2
      go_ret
      exact ⟨rfl,HBW.out⟩
theorem OW.atP {B:Nat} {w:World} {g n cap:Nat} {l:List UInt8} (h:OW B w (.slice (some ⟨g,0,none⟩) n cap) l) (k:Nat) (hk:k < l.length):w.cell? ⟨g,k,none⟩ = some (.int .u8 ((byt l k).toNat:Int))∧w.frozen? ⟨g,k,none⟩ = false:=by
  constructor
  · obtain ⟨a',c',e,_,hh⟩:=h.rb
    simp only [Value.slice.injEq] at e
    obtain ⟨rfl,_,_⟩:=e
    rcases hh with hh | ⟨g',o',e',_,hh⟩
    · subst hh; simp at hk
    simp only [Option.some.injEq,Addr.mk.injEq] at e'
    obtain ⟨rfl,rfl,_⟩:=e'
    have:=hh k hk
    rwa [Nat.zero_add] at this
  · rcases h.2 with ⟨e,_⟩ | ⟨g',cap',cur,e,_,h3,_⟩
    · cases e
    · cases e
      simp [World.frozen?,h3]
theorem OW.putP {B:Nat} {w:World} {g n cap:Nat} {l:List UInt8} (h:OW B w (.slice (some ⟨g,0,none⟩) n cap) l) (k:Nat) (c:UInt8):OW B (w.setCell ⟨g,k,none⟩ (.int .u8 (c.toNat:Int))) (.slice (some ⟨g,0,none⟩) n cap) (l.set k c):=by
  rcases h.2 with ⟨e,_⟩ | ⟨g',cap',cur,e,h2,h3,h4,h5,h6,h7⟩
  · cases e
  simp only [Value.slice.injEq,Option.some.injEq,Addr.mk.injEq] at e
  obtain ⟨⟨rfl,_⟩,rfl,rfl⟩:=e
  refine ⟨by simp [Lib.byteCells],.inr ⟨g,cap,cur.setIfInBounds k (.int .u8 (c.toNat:Int)),by rw [List.length_set],h2,heap_setCell_same w g k cur 5 _ h3,by rw [List.length_set]; exact h4,h5,by simpa using h6,?_⟩⟩
  rw [List.length_set,Array.toList_setIfInBounds,List.take_set,h7]
  simp [Lib.byteCells,List.map_set]
structure Sp (w0:World) (B:Nat) (g n cap:Nat) (wr:World):Prop where
  ow:∃ m:List UInt8,m.length = n∧OW B wr (.slice (some ⟨g,0,none⟩) n cap) m
  fr:Fm.Fr (fun k=>k≠g) w0 wr
theorem Sp.start {w:World} {B g n cap:Nat} {l:List UInt8} (h:OW B w (.slice (some ⟨g,0,none⟩) n cap) l) (hn:l.length = n):Sp w B g n cap w:=⟨⟨l,hn,h⟩,Fm.Fr.refl _ _⟩
theorem Sp.at {w0 wr:World} {B g n cap:Nat} (h:Sp w0 B g n cap wr) (k:Nat) (hk:k < n):∃ x:Int,0≤x∧x < 256∧wr.cell? ⟨g,k,none⟩ = some (.int .u8 x)∧wr.frozen? ⟨g,k,none⟩ = false∧∀ z:Int,0≤z→z < 256→Sp w0 B g n cap (wr.setCell ⟨g,k,none⟩ (.int .u8 z)):=by
  obtain ⟨m,hm,ho⟩:=h.ow
  obtain ⟨q1,q2⟩:=ho.atP k (by omega)
  refine ⟨_,by omega,by have:=(byt m k).toNat_lt; omega,q1,q2,fun z h0 h1=>⟨⟨m.set k (UInt8.ofNat z.toNat),by rw [List.length_set]; exact hm,?_⟩,h.fr.setCell g k _ (fun x=>x rfl)⟩⟩
  have ez:z = (((UInt8.ofNat z.toNat).toNat:Nat):Int):=by rw [UInt8.toNat_ofNat',Nat.mod_eq_of_lt (by omega)]; omega
  have:=ho.putP k (UInt8.ofNat z.toNat)
  rw [← ez] at this
  exact this
set_option maxHeartbeats 1000000 in
set_option maxRecDepth 100000 in
theorem spoilBytesT (w:World) (B:Nat) (v:Value) (l:List UInt8) (h:OW B w v l) (hl:l.length≤140737488351232) :
    Calls Tryz.prog 24 #[v] w fun e w'=>e = .returned (.tuple #[])∧(∃ m:List UInt8,m.length = l.length∧OW B w' v m)∧Fm.Fr (fun k=>v.ownBlock≠some k) w w':=by
  rcases h.2 with ⟨rfl,h0⟩ | ⟨g,cap,cur,rfl,_,_⟩
  · have hl0:l = []:=List.length_eq_zero_iff.1 h0
    subst hl0
    have HW:=Lib.hid h
    clear h
    go_enter Tryz.func24,Tryz.ntmps24
    go_wp2
    go_loopw [2] (fun t wr=>t = .int .i64 0∧w = wr) (fun _ _=>0)
    case atStart=>exact ⟨rfl,rfl⟩
    case round =>
      obtain ⟨rfl,rfl⟩:=hrel
      go_wp2
      go_end0
      exact ⟨rfl,⟨[],rfl,HW.out⟩,Fm.Fr.refl _ _⟩
  · have HI0:=Lib.hid (Sp.start h rfl)
    generalize l.length = n at *
    clear h
    go_enter Tryz.func24,Tryz.ntmps24
    go_wp2
    go_loopw [2] (fun t wr=>∃ k:Nat,k≤n∧t = .int .i64 k∧Hid (Sp w B g n cap wr)) (fun t _=>n - (intOf t).toNat)
    case atStart=>exact ⟨0,Nat.zero_le _,rfl,HI0⟩
    case round =>
      obtain ⟨k,hk,rfl,HI⟩:=hrel
      by_cases hlt:k < n
      · obtain ⟨x,hx0,hx1,hc,hf,hput⟩:=HI.out.at k hlt
        have hsub:IntKind.u8.wrap (255 - x) = 255 - x:=by
          unfold IntKind.wrap
          simp [IntKind.signed,IntKind.bits]
          omega
        have HP:=Lib.hid (hput (255 - x) (by omega) (by omega))
        have hkn:(k:Int) < (n:Int):=by omega
        clear hput
        go_wp2
        exact ⟨⟨k + 1,by omega,by go_num,HP⟩,by simp [intOf]; omega⟩
      · go_wp2
        go_end0
        obtain ⟨m,hm,ho⟩:=HI.out.ow
        exact ⟨rfl,⟨m,hm,ho⟩,HI.out.fr.mono (fun k' _ h=>by simpa [Value.ownBlock,eq_comm] using h)⟩
theorem setR_size:∀ (us:List Value) (cur:Array Value) (o:Nat),(setR cur o us).size = cur.size
  | [],_,_=>rfl
  | u :: us,cur,o=>by unfold setR; rw [setR_size us,Array.size_setIfInBounds]
def nv:Value:=.slice none 0 0
theorem rowFr {S:Nat→Prop} {B e size n:Nat} {w w':World} {v:Value} {us:List Value} (h:w.ownsRow B e size v n us) (hf:Fm.Fr S w w') (hs:∀ g,v.ownBlock = some g→S g):w'.ownsRow B e size v n us:=by
  refine ⟨h.1,?_⟩
  rcases h.2 with h1 | ⟨g,cap,cur,h1,h2,h3,h4⟩
  · exact .inl h1
  · exact .inr ⟨g,cap,cur,h1,h2,(hf.block g (Array.getElem?_eq_some_iff.1 h3).1 (hs g (by rw [h1]; rfl))).trans h3,h4⟩
theorem OW.frS {S:Nat→Prop} {B:Nat} {w w':World} {v:Value} {l:List UInt8} (h:OW B w v l) (hf:Fm.Fr S w w') (hs:∀ g,v.ownBlock = some g→S g):OW B w' v l:=rowFr h hf hs
theorem rowTag {w:World} {B e size n:Nat} {v:Value} {us:List Value} (h:w.ownsRow B e size v n us) {g:Nat} (hg:v.ownBlock = some g):B≤g∧g < w.heap.size∧∃ cs,w.heap[g]? = some (.cells cs e (0,0)):=by
  rcases h.2 with ⟨rfl,_⟩ | ⟨q,cap,cur,rfl,h2,h3,_⟩
  · simp [Value.ownBlock] at hg
  · simp [Value.ownBlock] at hg
    subst hg
    exact ⟨h2,(Array.getElem?_eq_some_iff.1 h3).1,cur,h3⟩
theorem tag_ne {w:World} {g g':Nat} {cs cs':Array Value} {t t':TypeId} {f f':Nat × Nat} (h:w.heap[g]? = some (.cells cs t f)) (h':w.heap[g']? = some (.cells cs' t' f')) (ht:t≠t'):g≠g':=by
  rintro rfl
  rw [h] at h'
  simp only [Option.some.injEq,Obj.cells.injEq] at h'
  exact ht h'.2.1
structure FL (B:Nat) (w:World) (vs:List Value) (L:List (List UInt8)):Prop where
  len:vs.length = L.length
  each:∀ j,j < L.length→OW B w (vs.getD j nv) (L.getD j [])
  ap:∀ i j g,i < L.length→j < L.length→i≠j→(vs.getD i nv).ownBlock = some g→(vs.getD j nv).ownBlock≠some g
end Go.Proofs.YtfjjpbebnoghmaaGreatDoor
