import Derived.Test.YtfjjpbebnoghmaaGreatDoorK00
import Derived.Test.YtfjjpbebnoghmaaGreatDoorK19
namespace Go.Proofs.YtfjjpbebnoghmaaGreatDoor
open Go.RowKit
theorem info20:(Tryz.prog.info? 41).map (·.size) = some 20:=by kernel_rfl
theorem info48:(Tryz.prog.info? 97).map (·.size) = some 48:=by kernel_rfl
theorem built_ev2 {ops:Array Oper} {rest:List Oper} {o:Oper} {a:Act} {w:World} {Q:Exit→Act→World→Prop} (hg:o.guard = none) (x0 x1:Operand) (ho:o.op = .build 100 #[(0,x0),(1,x1)]) (v0 v1:Value) (h0:a.eval x0 = v0) (h1:a.eval x1 = v1) (T:Array Value)
    (hT:Tryz.prog.built 100 [(0,v0),(1,v1)] = some T) (h:wpList Tryz.prog ops Q rest (a.put o.dst (.agg T)) w):wpList Tryz.prog ops Q (o :: rest) a w:=by
  have e:(#[(0,x0),(1,x1)].map fun (i,y)=>(i,a.eval y)).toList = [(0,v0),(1,v1)]:=by simp [h0,h1]
  exact wpList_build hg _ _ ho (by rw [e,hT]; rfl) (by rw [e,hT]; exact h)
theorem HC.shake {X:World} {g:Nat} {P:Pv} {L:List Int} {H:List UInt8} (h:HC X g P L H):HC ((X.setCell ⟨g,23,none⟩ (.bool true)).drew) g { P with sh:=true } L H∧Fm.Fr (fun k=>k≠g) X ((X.setCell ⟨g,23,none⟩ (.bool true)).drew):=by
  have hf:Fm.Fr (fun k=>k≠g) X ((X.setCell ⟨g,23,none⟩ (.bool true)).drew):=frT ((Fm.Fr.refl (fun k=>k≠g) X).setCell g 23 _ (fun e=>e rfl)) (Fm.Fr.of_below (belowDrew _ 1))
  exact ⟨⟨(h.pk.set 3 _ { P with sh:=true } rfl rfl).keep rfl,h.g1,h.b0,h.b1,h.lz.fr (Fe.of_fr hf),h.lok,h.hz.fr (Fe.of_fr hf),h.hl,h.kt.fr hf h.g1,MT.fr h.mt hf h.g1⟩,hf⟩
set_option maxHeartbeats 4000000 in
set_option maxRecDepth 100000 in
theorem hear1 (w:World) (g:Nat) (P:Pv) (L:List Int) (H:List UInt8) (hc:HC w g P L H) (bsv:Value) (bs:List (List UInt8)) (hb:Sg g w (fun u=>Fm.RBS u bsv bs)) (hbl:∀ b ∈ bs,b.length≤32768) (hbn:bs.length≤16777216) (gm c0:Nat) (h:List UInt8) (hh:h.length = 48) (hm:w.rangeAt gm 0 (Lib.byteCells h)) :
    Calls Tryz.prog 41 #[.pointer (some ⟨g,0,none⟩),.slice (some ⟨gm,0,none⟩) 1 c0,bsv] w fun e w'=>∃ ev er,e = .returned (.tuple #[ev,.int .i64 er])∧((hinf h≠P.info∧ev = .slice none 0 0∧er = 171∧Below w.heap.size w w')∨(hinf h = P.info∧HE w g { P with sh:=true } L ⟨P.ic,P.ii,P.ib,H⟩ bs [hev h] ev er w')):=by
  have HBS:Hid (Sg g w (fun u=>Fm.RBS u bsv bs)):=hb
  have HBL:Hid (∀ b ∈ bs,b.length≤32768):=hbl
  obtain ⟨q0,hq0⟩:∃ q:Qs,q = ⟨P.ic,P.ii,P.ib,H⟩:=⟨_,rfl⟩
  rw [← hq0]
  have HQ0:Hid (q0 = ⟨P.ic,P.ii,P.ib,H⟩):=hq0
  obtain ⟨P0,hP0⟩:∃ x:Pv,x = { P with sh:=true }:=⟨_,rfl⟩
  rw [← hP0]
  have HP0:Hid (P0 = { P with sh:=true }):=hP0
  obtain ⟨pre,hpre⟩:∃ p:List Ev,p = [hev h]:=⟨_,rfl⟩
  rw [← hpre]
  have HPR:Hid (pre = [hev h]):=hpre
  obtain ⟨va,vc,rfl,_⟩:=hb.now
  have HGW:Hid (g < w.heap.size):=hc.pk.lt
  have HCC:Hid (HC w g P L H):=hc
  have HMR:Hid (w.rangeAt gm 0 (Lib.byteCells h)):=hm
  have HHL:Hid (h.length = 48):=hh
  have hP20:P.info.length = 20:=hc.pk.1
  have hl20:=hinf_len hh
  have hi48:(Tryz.prog.info? 97).map (·.size) = some (Lib.byteCells h).length:=by rw [bcl_len,hh]; exact info48
  have hi48b:(Tryz.prog.info? 97).map (·.size) = some (bc h).size:=by rw [bc_size,hh]; exact info48
  have hi20:(Tryz.prog.info? 41).map (·.size) = some (Lib.byteCells (hinf h)).length:=by rw [bcl_len,hl20]; exact info20
  have hi20b:(Tryz.prog.info? 41).map (·.size) = some (Lib.byteCells P.info).length:=by rw [bcl_len,hP20]; exact info20
  have hz48:=heapNew w (.cells (#[.int .u8 0,.int .u8 0,.int .u8 0,.int .u8 0,.int .u8 0,.int .u8 0,.int .u8 0,.int .u8 0,.int .u8 0,.int .u8 0,.int .u8 0,.int .u8 0,.int .u8 0,.int .u8 0,.int .u8 0,.int .u8 0,.int .u8 0,.int .u8 0,.int .u8 0,.int .u8 0,.int .u8 0,.int .u8 0,.int .u8 0,.int .u8 0,.int .u8 0,.int .u8 0,.int .u8 0,.int .u8 0,.int .u8 0,.int .u8 0,.int .u8 0,.int .u8 0,.int .u8 0,.int .u8 0,.int .u8 0,.int .u8 0,.int .u8 0,.int .u8 0,.int .u8 0,.int .u8 0,.int .u8 0,.int .u8 0,.int .u8 0,.int .u8 0,.int .u8 0,.int .u8 0,.int .u8 0,.int .u8 0]:Array Value) 97)
  have hs48:(#[.int .u8 0,.int .u8 0,.int .u8 0,.int .u8 0,.int .u8 0,.int .u8 0,.int .u8 0,.int .u8 0,.int .u8 0,.int .u8 0,.int .u8 0,.int .u8 0,.int .u8 0,.int .u8 0,.int .u8 0,.int .u8 0,.int .u8 0,.int .u8 0,.int .u8 0,.int .u8 0,.int .u8 0,.int .u8 0,.int .u8 0,.int .u8 0,.int .u8 0,.int .u8 0,.int .u8 0,.int .u8 0,.int .u8 0,.int .u8 0,.int .u8 0,.int .u8 0,.int .u8 0,.int .u8 0,.int .u8 0,.int .u8 0,.int .u8 0,.int .u8 0,.int .u8 0,.int .u8 0,.int .u8 0,.int .u8 0,.int .u8 0,.int .u8 0,.int .u8 0,.int .u8 0,.int .u8 0,.int .u8 0]:Array Value).size = (bc h).size:=by rw [bc_size,hh]; rfl
  have ho48:(bc h).all (·.oneCell') = true:=all_oneCell_toArray (Lib.byteCells_one h)
  have hX0:=heapSetRow _ _ _ (bc h) _ hz48
  have bX:Below w.heap.size w ((w.alloc (.cells (#[.int .u8 0,.int .u8 0,.int .u8 0,.int .u8 0,.int .u8 0,.int .u8 0,.int .u8 0,.int .u8 0,.int .u8 0,.int .u8 0,.int .u8 0,.int .u8 0,.int .u8 0,.int .u8 0,.int .u8 0,.int .u8 0,.int .u8 0,.int .u8 0,.int .u8 0,.int .u8 0,.int .u8 0,.int .u8 0,.int .u8 0,.int .u8 0,.int .u8 0,.int .u8 0,.int .u8 0,.int .u8 0,.int .u8 0,.int .u8 0,.int .u8 0,.int .u8 0,.int .u8 0,.int .u8 0,.int .u8 0,.int .u8 0,.int .u8 0,.int .u8 0,.int .u8 0,.int .u8 0,.int .u8 0,.int .u8 0,.int .u8 0,.int .u8 0,.int .u8 0,.int .u8 0,.int .u8 0,.int .u8 0]:Array Value) 97)).setRow w.heap.size (bc h)):=belowSetRow ((Below.refl _ _).alloc (Nat.le_refl _) _) (Nat.le_refl _) _
  obtain ⟨X,hX⟩:∃ x,x = (w.alloc (.cells (#[.int .u8 0,.int .u8 0,.int .u8 0,.int .u8 0,.int .u8 0,.int .u8 0,.int .u8 0,.int .u8 0,.int .u8 0,.int .u8 0,.int .u8 0,.int .u8 0,.int .u8 0,.int .u8 0,.int .u8 0,.int .u8 0,.int .u8 0,.int .u8 0,.int .u8 0,.int .u8 0,.int .u8 0,.int .u8 0,.int .u8 0,.int .u8 0,.int .u8 0,.int .u8 0,.int .u8 0,.int .u8 0,.int .u8 0,.int .u8 0,.int .u8 0,.int .u8 0,.int .u8 0,.int .u8 0,.int .u8 0,.int .u8 0,.int .u8 0,.int .u8 0,.int .u8 0,.int .u8 0,.int .u8 0,.int .u8 0,.int .u8 0,.int .u8 0,.int .u8 0,.int .u8 0,.int .u8 0,.int .u8 0]:Array Value) 97)).setRow w.heap.size (bc h):=⟨_,rfl⟩
  have HX:Hid (X = (w.alloc (.cells (#[.int .u8 0,.int .u8 0,.int .u8 0,.int .u8 0,.int .u8 0,.int .u8 0,.int .u8 0,.int .u8 0,.int .u8 0,.int .u8 0,.int .u8 0,.int .u8 0,.int .u8 0,.int .u8 0,.int .u8 0,.int .u8 0,.int .u8 0,.int .u8 0,.int .u8 0,.int .u8 0,.int .u8 0,.int .u8 0,.int .u8 0,.int .u8 0,.int .u8 0,.int .u8 0,.int .u8 0,.int .u8 0,.int .u8 0,.int .u8 0,.int .u8 0,.int .u8 0,.int .u8 0,.int .u8 0,.int .u8 0,.int .u8 0,.int .u8 0,.int .u8 0,.int .u8 0,.int .u8 0,.int .u8 0,.int .u8 0,.int .u8 0,.int .u8 0,.int .u8 0,.int .u8 0,.int .u8 0,.int .u8 0]:Array Value) 97)).setRow w.heap.size (bc h)):=hX
  rw [← hX] at hX0 bX
  have HX0:=Lib.hid hX0
  have HBX:=Lib.hid bX
  have HPX:=Lib.hid (hparts (hX0))
  have HCX:=Lib.hid (hc.below bX)
  have HR8:Hid (X.rangeAt w.heap.size 8 (Lib.byteCells (hinf h))):=HPX.out.1
  have HRI:Hid (X.rangeAt g 0 (Lib.byteCells P.info)):=HCX.out.pk.infoR
  clear hb hbl hpre hq0 hP0 hc hm bX hX hX0
  go_enter Tryz.func41,Tryz.ntmps41
  go_wp2_with fail
  go_loopw [8,17] (fun v t wr=>(t = .int .i64 0∧v = .slice none 0 0∧w = wr)∨(∃ a0 c0,t = .int .i64 1∧v = .slice a0 1 c0∧Hid (hinf h = P.info∧LI w g P0 L q0 bs pre 0 P0 q0 [] [] (.slice a0 1 c0) wr))) (fun _ t _=>1 - (intOf t).toNat)
  case atStart=>exact .inl ⟨rfl,rfl,rfl⟩
  case round =>
    rcases hrel with ⟨rfl,rfl,rfl⟩ | ⟨a0,c1,rfl,rfl,HL⟩
    · by_cases heq:hinf h = P.info
      · have hdec:decide (hinf h = P.info) = true:=decide_eq_true heq
        have HEQ:=Lib.hid heq
        clear heq
        go_upto_region 5 with (first |(refine wpList_load_mid rfl 97 _ rfl gm 0 rfl (Lib.byteCells h) _ HMR.out Tryz.underlying97 rfl hi48 ?_) |(refine wpList_store_row rfl 97 _ _ rfl w.heap.size (bc h) rfl rfl 97 (#[.int .u8 0,.int .u8 0,.int .u8 0,.int .u8 0,.int .u8 0,.int .u8 0,.int .u8 0,.int .u8 0,.int .u8 0,.int .u8 0,.int .u8 0,.int .u8 0,.int .u8 0,.int .u8 0,.int .u8 0,.int .u8 0,.int .u8 0,.int .u8 0,.int .u8 0,.int .u8 0,.int .u8 0,.int .u8 0,.int .u8 0,.int .u8 0,.int .u8 0,.int .u8 0,.int .u8 0,.int .u8 0,.int .u8 0,.int .u8 0,.int .u8 0,.int .u8 0,.int .u8 0,.int .u8 0,.int .u8 0,.int .u8 0,.int .u8 0,.int .u8 0,.int .u8 0,.int .u8 0,.int .u8 0,.int .u8 0,.int .u8 0,.int .u8 0,.int .u8 0,.int .u8 0,.int .u8 0,.int .u8 0]:Array Value) hz48 hi48b hs48 ho48 ?_; rw [← HX.out]))
        refine wp_region_held_drew (S:=fun u=>u.rangeAt w.heap.size 8 (Lib.byteCells (hinf h))∧u.rangeAt g 0 (Lib.byteCells P.info)) (by kernel_rfl) (⟨HR8.out,HRI.out⟩) (fun hHeld=>?_)
        refine tkB (i:=0) (v:=.pointer (some ⟨w.heap.size,8,none⟩)) rfl hHeld ?_
        simp only [Act.put,zq1,zq2,zq4,zq5,zq6]
        refine tkA (i:=1) (v:=.agg (bc (hinf h))) rfl (yieldsIf_load_mid (by rfl) _ _ rfl _ _ rfl _ _ (fun u hw=>hw.1) Tryz.underlying41 rfl hi20) hHeld ?_
        simp only [Act.put,zq1,zq2,zq3,zq4,zq5,zq6]
        refine tkB (i:=2) (v:=.pointer (some ⟨g,0,none⟩)) rfl hHeld ?_
        simp only [Act.put,zq1,zq2,zq3,zq4,zq5,zq6]
        refine tkB (i:=3) (v:=.pointer (some ⟨g,0,none⟩)) rfl hHeld ?_
        simp only [Act.put,zq1,zq2,zq3,zq4,zq5,zq6]
        refine tkB (i:=4) (v:=.pointer (some ⟨g,0,none⟩)) rfl hHeld ?_
        simp only [Act.put,zq1,zq2,zq3,zq4,zq5,zq6]
        refine tkB (i:=5) (v:=.pointer (some ⟨g,0,none⟩)) rfl hHeld ?_
        simp only [Act.put,zq1,zq2,zq3,zq4,zq5,zq6]
        refine tkA (i:=6) (v:=.agg (bc P.info)) rfl (yieldsIf_load_mid (by rfl) _ _ rfl _ _ rfl _ _ (fun u hw=>hw.2) Tryz.underlying41 rfl hi20b) hHeld ?_
        simp only [Act.put,zq1,zq2,zq3,zq4,zq5,zq6]
        refine tkA (i:=7) (v:=.bool false) rfl (Or.inl ⟨by rfl,fun w hw=>by have hq:=equal_20 w 9998 (hinf h) P.info hl20 hP20; rw [hdec] at hq; go_simp⟩) hHeld ?_
        simp only [Act.put,zq1,zq2,zq3,zq4,zq5,zq6]
        refine wpAnyH_done (by kernel_rfl) ?_ _
        clear hHeld
        obtain ⟨HS7,HF7⟩:=HCX.out.shake
        have HS7h:=Lib.hid HS7
        have HF7h:=Lib.hid HF7
        have hg7:((X.setCell ⟨g,23,none⟩ (.bool true)).drew).heap[w.heap.size]? = some (.cells (bc h) 97 (0,0)):=(HF7.block w.heap.size (Array.getElem?_eq_some_iff.1 HX0.out).1 (by have:=HGW.out; omega)).trans HX0.out
        have HR28:=Lib.hid (hparts hg7).2
        have hi28:(Tryz.prog.info? 41).map (·.size) = some (Lib.byteCells (hpeer h)).length:=by rw [bcl_len,hpeer_len HHL.out]; exact info20
        have hT:Tryz.prog.built 100 [(0,.bool true),(1,.agg (bc (hpeer h)))] = some (Ev.ls (hev h)).toArray:=builtH (hpeer h) (hpeer_len HHL.out)
        have hT61:(Ev.ls (hev h)).toArray.size = 61:=Ev.len (hev_ok w.heap.size w HHL.out)
        have c23:X.drew.cell? ⟨g,23,none⟩ = some (.bool P.sh):=HCX.out.pk.cells.2.2.2.1
        have f23:X.drew.frozen? ⟨g,23,none⟩ = false:=HCX.out.pk.fr 23
        clear HS7 HF7 hg7
        generalize hTT:(Ev.ls (hev h)).toArray = TT at *
        have HTe:Hid ((Ev.ls (hev h)).toArray = TT):=hTT
        clear hTT
        obtain ⟨W7,hW7⟩:∃ u,u = (X.setCell ⟨g,23,none⟩ (.bool true)).drew:=⟨_,rfl⟩
        have HW7:Hid (W7 = (X.setCell ⟨g,23,none⟩ (.bool true)).drew):=hW7
        rw [← hW7] at HS7h HF7h HR28
        clear hW7
        have b8:Below W7.heap.size W7 (W7.alloc (.cells TT 100)):=(Below.refl _ _).alloc (Nat.le_refl _) _
        have hzz:w.heap.size≤(W7.alloc (.cells TT 100)).heap.size:=Nat.le_trans (Nat.le_trans HBX.out.size HF7h.out.size) b8.size
        have HV8:Hid (EVS w.heap.size (W7.alloc (.cells TT 100)) (.slice none 0 0) []∧(W7.alloc (.cells TT 100)).heap[W7.heap.size]? = some (.cells (Ev.ls (hev h)).toArray 100 (0,0))∧OEv w.heap.size (W7.alloc (.cells TT 100)) (hev h)∧w.heap.size≤(W7.alloc (.cells TT 100)).heap.size∧([]:List Ev).length < 107374182):=⟨EVS.nil _ _,by rw [HTe.out]; exact heapNew _ _,hev_ok _ _ HHL.out,hzz,by decide⟩
        have HB8:=Lib.hid b8
        clear b8
        go_upto_region 8 with fail
        rw [← HW7.out]
        go_wp2_with (first |(refine wpList_load_mid rfl 41 _ rfl w.heap.size 28 rfl (Lib.byteCells (hpeer h)) _ HR28.out Tryz.underlying41 rfl hi28 ?_) |(refine built_ev2 rfl _ _ rfl _ _ rfl rfl TT hT ?_) |(refine build_ev rfl _ rfl TT rfl hT61 ?_) |(at_builtin; refine append_ev rfl _ _ rfl rfl HV8.out.1 W7.heap.size (hev h) rfl HV8.out.2.1 HV8.out.2.2.1 HV8.out.2.2.2.1 HV8.out.2.2.2.2 ?_; intro v6 w6 ev6 b6 s6 o6))
        rw [List.nil_append] at ev6
        obtain ⟨a6,c6,rfl⟩:=ev6.form
        have HNx:Hid (hinf h = P.info∧LI w g P0 L q0 bs pre 0 P0 q0 [] [] (.slice a6 1 c6) w6):=by
          have hb6:Below w.heap.size W7 w6:=(HB8.out.mono (Nat.le_trans HBX.out.size HF7h.out.size)).trans b6
          have f7:Fm.Fr (fun k=>k≠g) w W7:=frT (Fm.Fr.of_below HBX.out) HF7h.out
          have hf6:Fm.Fr (fun k=>k≠g) w w6:=⟨hb6.os.trans f7.os,hb6.tape.trans f7.tape,hb6.output.trans f7.output,Nat.le_trans f7.size hb6.size,fun k hk hg=>(hb6.block k hk).trans (f7.block k hk hg)⟩
          have hfe:Fe g W7 w6:=(Fe.of_below HB8.out).trans ⟨o6.1,o6.2.1,o6.2.2.1,o6.2.2.2,fun k hk _ hn=>s6 k hk hn⟩
          have h5:=HS7h.out
          have hc6:HC w6 g { P with sh:=true } L H:=h5.fr hfe (h5.pk.keep (hb6.block g HGW.out)) (h5.kt.below hb6 (by have:=HGW.out; have:=h5.g1; omega)) ⟨Nat.lt_of_lt_of_le h5.mt.1 hb6.size,fun j hj=>(World.cell?_of_block (w:=W7) (hb6.block 1 (by have:=HGW.out; have:=h5.g1; omega))).trans (h5.mt.2 j hj)⟩
          refine ⟨HEQ.out,hf6,by rw [HP0.out,HQ0.out]; exact hc6,by rw [HP0.out,HQ0.out],by rw [HPR.out]; exact ev6,EvM.nil,fun xs' q' e hx=>hx,by rw [HPR.out]; exact Nat.le_refl _,.inl ⟨rfl,rfl⟩,⟨List.nodup_nil,.inl rfl,List.nodup_nil⟩⟩
        clear ev6 b6 s6 o6 HV8 HB8 hT hT61 HTe HR28 hzz c23 f23
        go_wp2
        exact ⟨.inr ⟨a6,c6,rfl,rfl,HNx⟩,by simp [intOf]⟩
      · have hdec:decide (hinf h = P.info) = false:=decide_eq_false heq
        have HEQ:=Lib.hid heq
        clear heq
        go_upto_region 5 with (first |(refine wpList_load_mid rfl 97 _ rfl gm 0 rfl (Lib.byteCells h) _ HMR.out Tryz.underlying97 rfl hi48 ?_) |(refine wpList_store_row rfl 97 _ _ rfl w.heap.size (bc h) rfl rfl 97 (#[.int .u8 0,.int .u8 0,.int .u8 0,.int .u8 0,.int .u8 0,.int .u8 0,.int .u8 0,.int .u8 0,.int .u8 0,.int .u8 0,.int .u8 0,.int .u8 0,.int .u8 0,.int .u8 0,.int .u8 0,.int .u8 0,.int .u8 0,.int .u8 0,.int .u8 0,.int .u8 0,.int .u8 0,.int .u8 0,.int .u8 0,.int .u8 0,.int .u8 0,.int .u8 0,.int .u8 0,.int .u8 0,.int .u8 0,.int .u8 0,.int .u8 0,.int .u8 0,.int .u8 0,.int .u8 0,.int .u8 0,.int .u8 0,.int .u8 0,.int .u8 0,.int .u8 0,.int .u8 0,.int .u8 0,.int .u8 0,.int .u8 0,.int .u8 0,.int .u8 0,.int .u8 0,.int .u8 0,.int .u8 0]:Array Value) hz48 hi48b hs48 ho48 ?_; rw [← HX.out]))
        refine wp_region_held_drew (S:=fun u=>u.rangeAt w.heap.size 8 (Lib.byteCells (hinf h))∧u.rangeAt g 0 (Lib.byteCells P.info)) (by kernel_rfl) (⟨HR8.out,HRI.out⟩) (fun hHeld=>?_)
        refine tkB (i:=0) (v:=.pointer (some ⟨w.heap.size,8,none⟩)) rfl hHeld ?_
        simp only [Act.put,zq1,zq2,zq4,zq5,zq6]
        refine tkA (i:=1) (v:=.agg (bc (hinf h))) rfl (yieldsIf_load_mid (by rfl) _ _ rfl _ _ rfl _ _ (fun u hw=>hw.1) Tryz.underlying41 rfl hi20) hHeld ?_
        simp only [Act.put,zq1,zq2,zq3,zq4,zq5,zq6]
        refine tkB (i:=2) (v:=.pointer (some ⟨g,0,none⟩)) rfl hHeld ?_
        simp only [Act.put,zq1,zq2,zq3,zq4,zq5,zq6]
        refine tkB (i:=3) (v:=.pointer (some ⟨g,0,none⟩)) rfl hHeld ?_
        simp only [Act.put,zq1,zq2,zq3,zq4,zq5,zq6]
        refine tkB (i:=4) (v:=.pointer (some ⟨g,0,none⟩)) rfl hHeld ?_
        simp only [Act.put,zq1,zq2,zq3,zq4,zq5,zq6]
        refine tkB (i:=5) (v:=.pointer (some ⟨g,0,none⟩)) rfl hHeld ?_
        simp only [Act.put,zq1,zq2,zq3,zq4,zq5,zq6]
        refine tkA (i:=6) (v:=.agg (bc P.info)) rfl (yieldsIf_load_mid (by rfl) _ _ rfl _ _ rfl _ _ (fun u hw=>hw.2) Tryz.underlying41 rfl hi20b) hHeld ?_
        simp only [Act.put,zq1,zq2,zq3,zq4,zq5,zq6]
        refine tkA (i:=7) (v:=.bool true) rfl (Or.inl ⟨by rfl,fun w hw=>by have hq:=equal_20 w 9998 (hinf h) P.info hl20 hP20; rw [hdec] at hq; go_simp⟩) hHeld ?_
        simp only [Act.put,zq1,zq2,zq3,zq4,zq5,zq6]
        refine wpAnyH_done (by kernel_rfl) ?_ _
        clear hHeld
        go_wp2
        go_ret2
        exact ⟨_,_,rfl,.inl ⟨HEQ.out,rfl,rfl,belowN HBX.out 1⟩⟩
    · have HI0:Hid (LI w g P0 L q0 bs pre 0 P0 q0 [] [] (.slice a0 1 c1) wr):=HL.out.2
      have HEQ:Hid (hinf h = P.info):=HL.out.1
      clear HL
      obtain ⟨w1,hw1⟩:∃ x,x = wr:=⟨_,rfl⟩
      subst hw1
      go_wp2_with fail
      go_loopw [8,41] (fun v t wr=>∃ (n:Nat) (P':Pv) (q:Qs) (es:List Ev) (xs:List Mg),n≤bs.length∧t = .int .i64 n∧Hid (LI w g P0 L q0 bs pre n P' q es xs v wr)) (fun _ t _=>bs.length - (intOf t).toNat)
      case atStart=>exact ⟨0,P0,q0, [], [],Nat.zero_le _,rfl,HI0⟩
      case round =>
        obtain ⟨n,P',q,es,xs,hn,rfl,H⟩:=hrel
        clear HI0
        obtain ⟨ea,ec,rfl⟩:=H.out.ev.form
        obtain ⟨nE,hnE⟩:∃ k,k = (pre ++ es).length:=⟨_,rfl⟩
        rw [← hnE] at H ⊢
        have HNE:Hid (nE = (pre ++ es).length):=hnE
        clear hnE
        by_cases hlt:n < bs.length
        · have hx:bs[n]? = some bs[n]:=List.getElem?_eq_getElem hlt
          generalize hbn:bs[n] = y at hx
          have hyl:y.length≤32768:=HBL.out y (List.mem_of_getElem? hx)
          obtain ⟨a',c',e',_,hR⟩:=HBS.out _ H.out.fr
          simp only [Value.slice.injEq] at e'
          obtain ⟨rfl, -,rfl⟩:=e'
          rcases hR with h | ⟨gb,ob,rfl,hgb,hR⟩
          · rw [h] at hlt; simp at hlt
          obtain ⟨bu,hcu,hbu⟩:=hR n hlt
          have hgd:bs.getD n [] = y:=by rw [List.getD_eq_getElem?_getD,hx]; rfl
          rw [hgd] at hbu
          obtain ⟨ba,bc',rfl,_⟩:=id hbu
          have HY:Hid (bs[n]? = some y∧RB wr (.slice ba y.length bc') y):=⟨hx,hbu⟩
          have hpn:=H.out.ln
          clear hR hbu hx hgd hbn
          go_wp2_with fail
          refine (decodeT wr _ y (by omega) HY.out.2 H.out.hc.kt).mono ?_
          rintro e w2 ⟨d1,h1,rfl,q1,q2,q3⟩
          have HD1:Hid ((∀ k,d1.ownBlock = some k→wr.heap.size≤k∧k < w2.heap.size)∧(∀ k,h1.ownBlock = some k→wr.heap.size≤k)):=⟨fun k hk=>ownb_ge q1 hk,fun k hk=>by obtain ⟨_,_,hh⟩:=q2; exact (ownb_ge hh hk).1⟩
          have M1:OMg w.heap.size w2 (mgOf y d1 h1):=OMg.of_dec H.out.fr.size q1 q2
          have e1:({ (decS y).m with d:=d1,h:=h1 }:Mv) = (mgOf y d1 h1).m:=rfl
          rw [e1]
          have HMB:Hid (MBd (mgOf y d1 h1).m (decS y).D.length∧(mgOf y d1 h1).D = (decS y).D∧mgOf y d1 h1 = mgOf y d1 h1∧0≤(mgOf y d1 h1).m.i∧(mgOf y d1 h1).m.i≤4294967295):=⟨mbd_of y d1 h1,rfl,rfl,(decS_bd y).i0,(decS_bd y).i1⟩
          have hz2:=heapNew w2 (.cells z40 40)
          have hi1:=info_msg M1.ok
          have ho1:=M1.ok.one
          have hs1:z40.size = (mgOf y d1 h1).m.cs.size:=M1.ok.size.symm
          have hc:=heapSetRow _ _ _ (mgOf y d1 h1).m.cs _ hz2
          have bX:Below w2.heap.size w2 ((w2.alloc (.cells z40 40)).setRow w2.heap.size (mgOf y d1 h1).m.cs):=belowSetRow ((Below.refl _ _).alloc (Nat.le_refl _) _) (Nat.le_refl _) _
          obtain ⟨X8,hX8⟩:∃ X,X = (w2.alloc (.cells z40 40)).setRow w2.heap.size (mgOf y d1 h1).m.cs:=⟨_,rfl⟩
          have HX8:Hid (X8 = (w2.alloc (.cells z40 40)).setRow w2.heap.size (mgOf y d1 h1).m.cs):=hX8
          rw [← hX8] at hc bX
          have HB8:Hid (Below wr.heap.size wr X8):=q3.trans (bX.mono q3.size)
          have HM8:Hid (OMg w.heap.size X8 (mgOf y d1 h1)∧MB X8 w2.heap.size (mgOf y d1 h1).m):=⟨M1.grow bX,hc⟩
          have HSZ2:Hid (w.heap.size≤w2.heap.size):=Nat.le_trans H.out.fr.size q3.size
          clear bX hX8 q1 q2 q3 M1 e1
          by_cases h0:decE y = 0
          · rw [h0]
            have HE0:Hid (decE y = 0):=h0
            clear h0
            have HLG:Hid (Calls Tryz.prog 70 #[.pointer (some ⟨g,0,none⟩),.agg (mgOf y d1 h1).m.cs] X8 fun e w'=>e = .returned (.int .i64 (legE L P'.b P'.ib (mgOf y d1 h1).m (decS y).D))∧Below X8.heap.size X8 w'):=legalT X8 g P' L (H.out.hc.below HB8.out).pl (mgOf y d1 h1).m HM8.out.1.ok (decS y).D HM8.out.1.d.rb HMB.out.1 (H.out.hc.below HB8.out).mt
            have hle:legE L P'.b P'.ib (mgOf y d1 h1).m (decS y).D = legE L P0.b q.b (decS y).m (decS y).D:=by
              have h1:=H.out.sh
              have e1:P'.b = P0.b:=by rw [h1]
              have e2:P'.ib = q.b:=by rw [h1]
              rw [e1,e2]
              rfl
            rw [hle] at HLG
            clear hle
            go_wp2_with (first |(refine wpList_store_row rfl 40 _ _ rfl w2.heap.size (mgOf y d1 h1).m.cs rfl rfl 40 z40 hz2 hi1 hs1 ho1 ?_; rw [← HX8.out]) |(refine load_msg_if rfl _ rfl w2.heap.size rfl (mgOf y d1 h1).m.cs hc hi1 ?_))
            refine HLG.out.mono ?_
            rintro e w3 ⟨rfl,b3⟩
            have HW3:Hid (Below wr.heap.size wr w3):=HB8.out.trans (b3.mono HB8.out.size)
            have HM3:Hid (OMg w.heap.size w3 (mgOf y d1 h1)∧MB w3 w2.heap.size (mgOf y d1 h1).m):=⟨HM8.out.1.grow b3,HM8.out.2.below b3⟩
            clear hc b3 HLG HX8 hz2 ho1 hs1 HB8 HM8
            by_cases hl0:legE L P0.b q.b (decS y).m (decS y).D = 0
            · rw [hl0]
              have HL0:Hid (legE L P0.b q.b (decS y).m (decS y).D = 0):=hl0
              clear hl0
              have HC3:Hid (HC w3 g P' L q.H):=H.out.hc.below HW3.out
              have HTK:Hid (Calls Tryz.prog 71 #[.pointer (some ⟨g,0,none⟩),.agg (mgOf y d1 h1).m.cs] w3 fun e w'=>e = .returned (.tuple #[])∧∃ hv H',PK w' g (P'.took hv (mgOf y d1 h1).m.k)∧HN w3 w' L.length P' q.H (mgOf y d1 h1).m (decS y).D hv H'∧Fm.Fr (fun k=>k≠g) w3 w'):=takeT w3 g P' L HC3.out.pl q.H HC3.out.hz.now HC3.out.hl (mgOf y d1 h1).m (decS y).D HM3.out.1.d.rb (by have:=(decS_len y).1; omega) HC3.out.mt (by have:=HMB.out.2.2.2.1; omega) (by have:=HMB.out.2.2.2.2; omega)
              have hc3:=HM3.out.2
              go_wp2_with (first |(refine load_msg_if rfl _ rfl w2.heap.size rfl (mgOf y d1 h1).m.cs hc3 hi1 ?_))
              refine HTK.out.mono ?_
              rintro e w4 ⟨rfl,hv,H',k4,hn4,f4⟩
              have hgw:g < w.heap.size:=HGW.out
              have hw2:w.heap.size≤w2.heap.size:=HSZ2.out
              have hc4:MB w4 w2.heap.size (mgOf y d1 h1).m:=(f4.block w2.heap.size HM3.out.2.lt (by omega)).trans HM3.out.2
              have HF4:Hid (Fm.Fr (fun k=>k≠g) w w4):=frT H.out.fr (frT (Fm.Fr.of_below HW3.out) f4)
              have kk:∀ k,w.heap.size≤k→k < wr.heap.size→w4.heap[k]? = wr.heap[k]?:=fun k h1 h2=>(frT (Fm.Fr.of_below HW3.out) f4).block k h2 (by omega)
              have kk3:∀ k,w.heap.size≤k→k < w3.heap.size→w4.heap[k]? = w3.heap[k]?:=fun k h1 h2=>f4.block k h2 (by omega)
              have HEV:Hid (EVS w.heap.size w4 (.slice ea nE ec) (pre ++ es)):=H.out.ev.fr kk
              have HMG:Hid (OMg w.heap.size w4 (mgOf y d1 h1)):=HM3.out.1.fr kk3
              have HTT:Hid (HC w4 g (P'.took hv (decS y).m.k) L H'∧Hstep L.length q (decS y).m (decS y).D ⟨(sy (decS y).m.k q.c q.i q.b).1,(sy (decS y).m.k q.c q.i q.b).2.1,(sy (decS y).m.k q.c q.i q.b).2.2,H'⟩):=HC.took (m:=(mgOf y d1 h1).m) HC3.out k4 hn4 f4 (decS_len y).1
              have HP4:Hid (MB w4 w2.heap.size (mgOf y d1 h1).m):=hc4
              have HHO:Hid ((hv = P0.hs∧H' = q0.H)∨OW w.heap.size w4 hv H'):=HN.ho hn4 H.out.ho HGW.out (Nat.le_trans H.out.fr.size HW3.out.size) (Fe.of_fr (frT (Fm.Fr.of_below HW3.out) f4))
              have HDJ:Hid (Dj P0.hs hv es∧Dj P0.hs hv (es ++ [⟨false,zr 20,mgOf y d1 h1⟩])):=Dj.step H.out.dj (fun e he=>H.out.ev.2 e (List.mem_append_right _ he)) (mgOf y d1 h1) HD1.out.1 HD1.out.2 (Nat.le_of_lt HM3.out.2.lt) HW3.out.size hn4 H.out.ho
              clear k4 hn4 f4 kk kk3 HTK hc3 hc4 HC3 HM3 HW3
              have c0:w4.cell? ⟨w2.heap.size,0,none⟩ = some (.int .i64 (decS y).m.k):=HP4.out.c0
              by_cases k1000:(decS y).m.k = 1000
              · have HNx:=Lib.hid (H.out.next HY.out.1 HE0.out HL0.out HF4.out HTT.out.1 HTT.out.2 HEV.out (es':=es) (by rw [if_pos k1000,List.append_nil]; exact H.out.em) (by have:=H.out.ln; omega) HHO.out HDJ.out.1)
                rw [k1000] at c0
                clear k1000
                go_wp2
                exact ⟨⟨n + 1,_,_,_,_,by omega,by go_num,HNx⟩,by simp [intOf]; omega⟩
              · have hk1:((decS y).m.k != 1000) = true:=by simp [k1000]
                have hT:Tryz.prog.built 100 [(2,.agg (mgOf y d1 h1).m.cs)] = some (Ev.ls ⟨false,zr 20,mgOf y d1 h1⟩).toArray:=builtM (mgOf y d1 h1).m HMG.out.ok
                have hT61:(Ev.ls ⟨false,zr 20,mgOf y d1 h1⟩).toArray.size = 61:=Ev.len (B:=w.heap.size) (w:=w4) ⟨rfl,HMG.out⟩
                have HLN:Hid (xs ++ (if (decS y).m.k = 1000 then [] else [⟨(decS y).m,(decS y).D,(decS y).hb⟩]) = xs ++ [⟨(decS y).m,(decS y).D,(decS y).hb⟩]):=by
                  show _ = _
                  rw [if_neg k1000]
                have hc4:=HP4.out
                clear k1000
                generalize hTT:(Ev.ls ⟨false,zr 20,mgOf y d1 h1⟩).toArray = TT at *
                have HTe:Hid ((Ev.ls ⟨false,zr 20,mgOf y d1 h1⟩).toArray = TT):=hTT
                clear hTT
                have b5:Below w4.heap.size w4 (w4.alloc (.cells TT 100)):=(Below.refl _ _).alloc (Nat.le_refl _) _
                have HV5:Hid (EVS w.heap.size (w4.alloc (.cells TT 100)) (.slice ea nE ec) (pre ++ es)∧(w4.alloc (.cells TT 100)).heap[w4.heap.size]? = some (.cells (Ev.ls ⟨false,zr 20,mgOf y d1 h1⟩).toArray 100 (0,0))∧OEv w.heap.size (w4.alloc (.cells TT 100)) ⟨false,zr 20,mgOf y d1 h1⟩∧w.heap.size≤(w4.alloc (.cells TT 100)).heap.size∧(pre ++ es).length < 107374182):=⟨HEV.out.fr (fun k _ hk=>b5.block k hk),by rw [HTe.out]; exact heapNew _ _,⟨rfl,HMG.out.grow b5⟩,Nat.le_trans HF4.out.size b5.size,by have:=H.out.ln; omega⟩
                have HB5:=Lib.hid b5
                clear b5 HEV HMG
                go_wp2_with (first |(refine load_msg_if rfl _ rfl w2.heap.size rfl (mgOf y d1 h1).m.cs hc4 hi1 ?_) |(refine built_ev rfl _ rfl _ rfl TT hT ?_) |(refine build_ev rfl _ rfl TT rfl hT61 ?_) |(at_builtin; refine append_ev rfl _ _ rfl rfl HV5.out.1 w4.heap.size ⟨false,zr 20,mgOf y d1 h1⟩ rfl HV5.out.2.1 HV5.out.2.2.1 HV5.out.2.2.2.1 HV5.out.2.2.2.2 ?_; intro v6 w6 ev6 b6 s6 o6))
                obtain ⟨a6,c6,rfl⟩:=ev6.form
                have HNx:Hid (LI w g P0 L q0 bs pre (n + 1) (P'.took hv (decS y).m.k) ⟨(sy (decS y).m.k q.c q.i q.b).1,(sy (decS y).m.k q.c q.i q.b).2.1,(sy (decS y).m.k q.c q.i q.b).2.2,H'⟩ (es ++ [⟨false,zr 20,mgOf y d1 h1⟩]) (xs ++ (if (decS y).m.k = 1000 then [] else [⟨(decS y).m,(decS y).D,(decS y).hb⟩])) (.slice a6 ((pre ++ es) ++ [(⟨false,zr 20,mgOf y d1 h1⟩:Ev)]).length c6) w6):=by
                  have hb6:Below w.heap.size w4 w6:=(HB5.out.mono HF4.out.size).trans b6
                  have hf6:Fm.Fr (fun k=>k≠g) w w6:=⟨hb6.os.trans HF4.out.os,hb6.tape.trans HF4.out.tape,hb6.output.trans HF4.out.output,Nat.le_trans HF4.out.size hb6.size,fun k hk hg=>(hb6.block k hk).trans (HF4.out.block k hk hg)⟩
                  have hfe:Fe g w4 w6:=(Fe.of_below HB5.out).trans ⟨o6.1,o6.2.1,o6.2.2.1,o6.2.2.2,fun k hk _ hn=>s6 k hk hn⟩
                  have h5:=HTT.out.1
                  have hc6:HC w6 g (P'.took hv (decS y).m.k) L H':=h5.fr hfe (h5.pk.keep (hb6.block g HGW.out)) (h5.kt.below hb6 (by have:=HGW.out; have:=h5.g1; omega)) ⟨Nat.lt_of_lt_of_le h5.mt.1 hb6.size,fun j hj=>(World.cell?_of_block (w:=w4) (hb6.block 1 (by have:=HGW.out; have:=h5.g1; omega))).trans (h5.mt.2 j hj)⟩
                  refine H.out.next HY.out.1 HE0.out HL0.out hf6 hc6 HTT.out.2 (by rw [← List.append_assoc]; exact ev6) (by rw [HLN.out]; exact H.out.em.snoc y d1 h1) ?_ (HHO.out.imp id (fun o=>o.fe HGW.out hfe)) HDJ.out.2
                  have:=H.out.ln
                  simp only [List.length_append,List.length_cons,List.length_nil] at this ⊢
                  omega
                clear ev6 b6 s6 o6 HV5 HB5 hT hT61 hc4 HTe c0
                obtain ⟨n6,hn6⟩:∃ k,k = ((pre ++ es) ++ [(⟨false,zr 20,mgOf y d1 h1⟩:Ev)]).length:=⟨_,rfl⟩
                rw [← hn6] at HNx ⊢
                clear hn6
                go_wp2
                exact ⟨⟨n + 1,_,_,_,_,by omega,by go_num,HNx⟩,by simp [intOf]; omega⟩
            · have hne:(legE L P0.b q.b (decS y).m (decS y).D != 0) = true:=by simp [hl0]
              have HEn:Hid (HE w g P0 L q0 bs pre (.slice ea nE ec) (legE L P0.b q.b (decS y).m (decS y).D) w3):=H.out.done HW3.out _ (by rw [drop_at HY.out.1]; exact Hr.ill q y _ HE0.out hl0)
              generalize legE L P0.b q.b (decS y).m (decS y).D = er at *
              clear hl0
              go_wp2
              go_ret2
              exact ⟨_,_,rfl,.inr ⟨HEQ.out,HEn.out⟩⟩
          · have hne:(decE y == 0) = false:=by simp [h0]
            have hne2:(decE y != 0) = true:=by simp [h0]
            have HEn:Hid (HE w g P0 L q0 bs pre (.slice ea nE ec) (decE y) X8):=H.out.done HB8.out _ (by rw [drop_at HY.out.1]; exact Hr.dec q y _ h0)
            generalize decE y = er at *
            clear h0 hc
            go_wp2_with (first |(refine wpList_store_row rfl 40 _ _ rfl w2.heap.size (mgOf y d1 h1).m.cs rfl rfl 40 z40 hz2 hi1 hs1 ho1 ?_; rw [← HX8.out]))
            go_ret2
            exact ⟨_,_,rfl,.inr ⟨HEQ.out,HEn.out⟩⟩
        · have hnn:bs.length = n:=by omega
          have HEn:Hid (HE w g P0 L q0 bs pre (.slice ea nE ec) 0 wr):=H.out.done (Below.refl _ _) 0 (by rw [List.drop_eq_nil_of_le (by omega)]; exact Hr.nil q)
          clear H
          go_wp2
          go_ret2
          exact ⟨_,_,rfl,.inr ⟨HEQ.out,HEn.out⟩⟩
def HRs (w:World) (g:Nat) (P:Pv) (L:List Int) (H:List UInt8) (bs met:List (List UInt8)) (ev:Value) (er:Int) (w':World):Prop:=
  (met = []∧HE w g P L ⟨P.ic,P.ii,P.ib,H⟩ bs [] ev er w') ∨
  ∃ h,met = [h]∧((hinf h≠P.info∧ev = .slice none 0 0∧er = 171∧Below w.heap.size w w')∨(hinf h = P.info∧HE w g { P with sh:=true } L ⟨P.ic,P.ii,P.ib,H⟩ bs [hev h] ev er w'))
theorem hearT (w:World) (g:Nat) (P:Pv) (L:List Int) (H:List UInt8) (hc:HC w g P L H) (B:Nat) (S:Nat→Prop) (hgB:g < B) (hS:∀ k,S k→B≤k) (mv bsv:Value) (met bs:List (List UInt8)) (hm:Fm.OM B w mv met) (hm1:met.length≤1) (hb:Fm.OB B S w bsv bs) (hbl:∀ b ∈ bs,b.length≤32768) (hbn:bs.length≤16777216) :
    Calls Tryz.prog 41 #[.pointer (some ⟨g,0,none⟩),mv,bsv] w fun e w'=>∃ ev er,e = .returned (.tuple #[ev,.int .i64 er])∧HRs w g P L H bs met ev er w':=by
  have hsg:Sg g w (fun u=>Fm.RBS u bsv bs):=fun w' hf=>(hb.keep (T:=S) (fun k hk hlt=>hf.block k hlt (by omega)) hS (fun _ x _=>x)).rbs
  match met,hm1 with
  | [],_ =>
    obtain ⟨a,c,rfl⟩:=hm.form
    refine (hear0 w g P L H hc bsv bs hsg hbl hbn a c).mono ?_
    rintro e w' ⟨ev,er,rfl,h⟩
    exact ⟨ev,er,rfl,.inl ⟨rfl,h⟩⟩
  | [h],_ =>
    have h48:=hm.2 h (by simp)
    have hrow:=hm.1
    rcases hrow.2 with ⟨_,h0⟩ | ⟨gm,cap,cur,rfl,_,h3,_⟩
    · simp at h0
    have hr:w.rangeAt gm 0 (Lib.byteCells h):=fun j v hj=>by
      have hj':j < 48:=by
        have:=(List.getElem?_eq_some_iff.1 hj).1
        rw [bcl_len,h48] at this
        exact this
      have q:=World.ownsRow.cellAt hrow j (by simp; omega)
      rw [Nat.zero_add,q]
      simpa using hj
    refine (hear1 w g P L H hc bsv bs hsg hbl hbn gm cap h h48 hr).mono ?_
    rintro e w' ⟨ev,er,rfl,hx⟩
    exact ⟨ev,er,rfl,.inr ⟨h,rfl,hx⟩⟩
theorem HRs.pk {w:World} {g:Nat} {P:Pv} {L:List Int} {H:List UInt8} {bs met:List (List UInt8)} {ev:Value} {er:Int} {w':World} (h:HRs w g P L H bs met ev er w') (hk:PK w g P):∃ P',PK w' g P':=by
  rcases h with ⟨_,_,_,_,_,P',_,_,_,hc,_⟩ | ⟨_,_,⟨_,_,_,hb⟩ | ⟨_,_,_,_,_,P',_,_,_,hc,_⟩⟩
  · exact ⟨P',hc.pk⟩
  · exact ⟨P,hk.keep (hb.block g hk.lt)⟩
  · exact ⟨P',hc.pk⟩
theorem HRs.form {w:World} {g:Nat} {P:Pv} {L:List Int} {H:List UInt8} {bs met:List (List UInt8)} {ev:Value} {er:Int} {w':World} (h:HRs w g P L H bs met ev er w'):∃ a n c,ev = .slice a n c:=by
  rcases h with ⟨_,_,_,_,_,_,he,_⟩ | ⟨_,_,⟨_,rfl,_⟩ | ⟨_,_,_,_,_,_,he,_⟩⟩
  · obtain ⟨a,c,e⟩:=he.form; exact ⟨a,_,c,e⟩
  · exact ⟨_,_,_,rfl⟩
  · obtain ⟨a,c,e⟩:=he.form; exact ⟨a,_,c,e⟩
def FdE (w:World) (g R:Nat) (P:Pv) (L:List Int) (H:List UInt8) (p s:Nat) (held:List UInt8) (hv:Value) (l:List UInt8) (e:Ending) (w':World):Prop:=
  ∃ ev fin mv bsv er met bs h' r p' s' held' hv' w1 er1 w2,e = .returned (.tuple #[ev,.int .i64 fin])∧Fm.PO w R (p == 2) (Fm.tx p s held ++ l) hv mv bsv er met bs h' r p' s' held' hv' w1∧HRs w1 g P L H bs met ev er1 w2∧fin = (if er1 = 0 then er else er1) ∧
    ((fin = 0∧w' = w2)∨(fin≠0∧∃ P1,PK w2 g P1∧PK w' g { P1 with why:=fin,st:=.pointer none,ln:=.slice none 0 0 }∧Fm.Fr (fun k=>k≠g) w2 w'))
set_option maxHeartbeats 2000000 in
theorem feedT (w:World) (g R:Nat) (P:Pv) (L:List Int) (H:List UInt8) (p s:Nat) (held:List UInt8) (hv:Value) (hf:FP w g R P L H p s held hv) (bv:Value) (l:List UInt8) (hb:Fm.RN (fun k=>hv.ownBlock≠some k) w bv l) (hl:l.length≤16777216) :
    Calls Tryz.prog 20 #[.pointer (some ⟨g,0,none⟩),bv] w (FdE w g R P L H p s held hv l):=by
  have HF:Hid (FP w g R P L H p s held hv):=hf
  have HO:Hid (Calls Tryz.prog 39 #[.pointer (some ⟨g,0,none⟩)] w fun e w'=>e = .returned (.int .i64 0)∧w' = w):=by
    have h:=openT w g P hf.pk (by have:=hf.b0; omega)
    rw [hf.why,if_pos rfl] at h
    exact h
  have HPu:Hid (Calls Tryz.prog 40 #[.pointer (some ⟨R,0,none⟩),bv] w (Fm.PushE w R (p == 2) (Fm.tx p s held ++ l) hv)):=Fm.push w R p s hv bv held l hf.rk hf.st hf.ow hf.nil hb hl
  have c22:=hf.pk.cells.2.2.1
  rw [hf.stp] at c22
  have HTL:Hid ((Fm.tx p s held ++ l).length≤16777216 + 32768 + 68 + 4):=by
    show _≤_
    have h1:(Fm.tx p s held).length≤4 + held.length:=by
      unfold Fm.tx
      split
      · rw [List.length_append]; simp [be4]
      · omega
    rw [List.length_append]
    rcases hf.st with ⟨_,h2,_⟩ | ⟨_,h2⟩ | ⟨_,h2,h3⟩ <;> omega
  obtain ⟨ba,bc',rfl,_⟩:=hb
  clear hf
  go_enter Tryz.func20,Tryz.ntmps20
  go_wp2_with fail
  refine HO.out.mono ?_
  rintro e w0 ⟨rfl,rfl⟩
  go_wp2_with fail
  refine HPu.out.mono ?_
  rintro e w1 ⟨mv,bsv,er,met,bs,h',r,p',s',held',hv',rfl,po⟩
  have HPO:=Lib.hid po
  have hrf:=rd_facts po.rd
  obtain ⟨hc1,_,_⟩:=HF.out.hc po.fr
  have HK1:=Lib.hid hc1.pk
  have HHe:Hid (Calls Tryz.prog 41 #[.pointer (some ⟨g,0,none⟩),mv,bsv] w1 fun e w'=>∃ ev er1,e = .returned (.tuple #[ev,.int .i64 er1])∧HRs w1 g P L H bs met ev er1 w'):=hearT w1 g P L H hc1 w0.heap.size (fun k=>w0.heap.size≤k∧hv'.ownBlock≠some k) HF.out.pk.lt (fun k hk=>hk.1) mv bsv met bs po.om hrf.2.1 po.ob hrf.2.2.1 (by have:=hrf.2.2.2; have:=HTL.out; omega)
  obtain ⟨ma,mc,rfl⟩:=po.om.form
  obtain ⟨sa,sc,rfl⟩:=po.ob.form
  clear po hrf hc1 HPu HO c22
  go_wp2_with fail
  refine HHe.out.mono ?_
  rintro e w2 ⟨ev,er1,rfl,hrs⟩
  obtain ⟨ea,en,ec,rfl⟩:=hrs.form
  obtain ⟨P1,k1⟩:=hrs.pk HK1.out
  have HRS:=Lib.hid hrs
  have HK2:=Lib.hid k1
  have HLv:Hid (∀ y,Calls Tryz.prog 42 #[.pointer (some ⟨g,0,none⟩),.int .i64 y] w2 fun e w'=>e = .returned (.tuple #[])∧PK w' g { P1 with why:=y,st:=.pointer none,ln:=.slice none 0 0 }∧Fm.Fr (fun k=>k≠g) w2 w'):=fun y=>leaveT w2 g P1 k1 y
  clear hrs k1 HHe
  by_cases e0:er1 = 0
  · subst e0
    by_cases e1:er = 0
    · subst e1
      go_wp2
      go_ret2
      exact ⟨_,0,_,_,0,met,bs,h',r,p',s',held',hv',w1,0,w2,rfl,HPO.out,HRS.out,rfl,.inl ⟨rfl,rfl⟩⟩
    · have q1:(er != 0) = true:=by simp [e1]
      have HE1:=Lib.hid e1
      clear e1
      go_wp2_with fail
      refine (HLv.out er).mono ?_
      rintro e w3 ⟨rfl,k3,f3⟩
      have HK3:=Lib.hid (And.intro k3 f3)
      clear k3 f3
      go_wp2
      go_ret2
      exact ⟨_,er,_,_,er,met,bs,h',r,p',s',held',hv',w1,0,w2,rfl,HPO.out,HRS.out,rfl,.inr ⟨HE1.out,P1,HK2.out,HK3.out.1,HK3.out.2⟩⟩
  · have q0:(er1 == 0) = false:=by simp [e0]
    have q1:(er1 != 0) = true:=by simp [e0]
    have HE1:=Lib.hid e0
    clear e0
    go_wp2_with fail
    refine (HLv.out er1).mono ?_
    rintro e w3 ⟨rfl,k3,f3⟩
    have HK3:=Lib.hid (And.intro k3 f3)
    clear k3 f3
    go_wp2
    go_ret2
    exact ⟨_,er1,_,_,er,met,bs,h',r,p',s',held',hv',w1,er1,w2,rfl,HPO.out,HRS.out,by rw [if_neg HE1.out],.inr ⟨HE1.out,P1,HK2.out,HK3.out.1,HK3.out.2⟩⟩
end Go.Proofs.YtfjjpbebnoghmaaGreatDoor
