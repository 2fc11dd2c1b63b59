import Derived.Test.YtfjjpbebnoghmaaGreatDoorK00
import Derived.Test.YtfjjpbebnoghmaaGreatDoorK26
import Derived.Test.YtfjjpbebnoghmaaGreatDoorK27
import Derived.Test.YtfjjpbebnoghmaaGreatDoorK28
import Derived.Test.YtfjjpbebnoghmaaGreatDoorK20
import Derived.Test.YtfjjpbebnoghmaaGreatDoorK25
import Derived.Test.YtfjjpbebnoghmaaGreatDoorK24
namespace Go.Proofs.YtfjjpbebnoghmaaGreatDoor
open Go.RowKit
theorem encB_same (m:Mv) (d h:Value) (D hb:List UInt8) (e1:sln d = sln m.d) (e2:sln h = sln m.h):encB { m with d:=d,h:=h } D hb = encB m D hb:=by
  unfold encB
  rw [valE_same m d h e1 e2]
  have hl:∀ cs,lays cs { m with d:=d,h:=h } D hb = lays cs m D hb:=by
    intro cs
    unfold lays
    congr 2
  simp only [hl]
set_option maxHeartbeats 1000000 in
set_option maxRecDepth 100000 in
theorem rEncodeT (w:World) (m:Mv) (D hb:List UInt8) (hm:MM w m D hb) :
    Calls Tryz.prog 52 #[.agg m.cs] w fun e w'=>∃ v,e = .returned (.tuple #[v,.int .i64 (valE m)])∧OW w.heap.size w' v (encB m D hb)∧Below w.heap.size w w':=by
  by_cases h0:refE m = 0
  · have hv:valE m = 0:=by rw [← ref_val]; exact h0
    have hk:kE m.k = false:=by
      cases hk:kE m.k with
      | false=>rfl
      | true=>simp [refE,hk] at h0
    obtain ⟨r0,r1,r2,r3,r4,r5,r6,r7,r8,r9,r10,r11,r12,r13⟩:=rowFor_lit
    rw [hv]
    rcases kE_cases _ hk with h | h | h | h | h | h | h | h | h | h | h | h | h | h
    · have e:encB m D hb = lays [] m D hb:=by unfold encB; rw [if_pos hv,h,r0]; rfl
      rw [e]; exact rEnc_0 w m D hb hm h0 h
    · have e:encB m D hb = lays [1] m D hb:=by unfold encB; rw [if_pos hv,h,r1]; rfl
      rw [e]; exact rEnc_1 w m D hb hm h0 h
    · have e:encB m D hb = lays [1] m D hb:=by unfold encB; rw [if_pos hv,h,r2]; rfl
      rw [e]; exact rEnc_2 w m D hb hm h0 h
    · have e:encB m D hb = lays [1] m D hb:=by unfold encB; rw [if_pos hv,h,r3]; rfl
      rw [e]; exact rEnc_3 w m D hb hm h0 h
    · have e:encB m D hb = lays [1] m D hb:=by unfold encB; rw [if_pos hv,h,r4]; rfl
      rw [e]; exact rEnc_4 w m D hb hm h0 h
    · have e:encB m D hb = lays [1,3] m D hb:=by unfold encB; rw [if_pos hv,h,r5]; rfl
      rw [e]; exact rEnc_5 w m D hb hm h0 h
    · have e:encB m D hb = lays [1,10] m D hb:=by unfold encB; rw [if_pos hv,h,r6]; rfl
      rw [e]; exact rEnc_6 w m D hb hm h0 h
    · have e:encB m D hb = lays [1,3,4,6] m D hb:=by unfold encB; rw [if_pos hv,h,r7]; rfl
      rw [e]; exact rEnc_7 w m D hb hm h0 h
    · have e:encB m D hb = lays [1,3,4,10] m D hb:=by unfold encB; rw [if_pos hv,h,r8]; rfl
      rw [e]; exact rEnc_8 w m D hb hm h0 h
    · have e:encB m D hb = lays [1,3,4,6] m D hb:=by unfold encB; rw [if_pos hv,h,r9]; rfl
      rw [e]; exact rEnc_9 w m D hb hm h0 h
    · have e:encB m D hb = lays [1,7,8,3,5,9] m D hb:=by unfold encB; rw [if_pos hv,h,r10]; rfl
      rw [e]; exact rEnc_10 w m D hb hm h0 h
    · have e:encB m D hb = lays [1,7,8,3,5,9,11] m D hb:=by unfold encB; rw [if_pos hv,h,r11]; rfl
      rw [e]; exact rEnc_11 w m D hb hm h0 h
    · have e:encB m D hb = lays [1,7,8,3,5,9] m D hb:=by unfold encB; rw [if_pos hv,h,r12]; rfl
      rw [e]; exact rEnc_12 w m D hb hm h0 h
    · have e:encB m D hb = lays [2,10] m D hb:=by unfold encB; rw [if_pos hv,h,r13]; rfl
      rw [e]; exact rEnc_13 w m D hb hm h0 h
  · have hv:valE m≠0:=by rw [← ref_val]; exact h0
    have HE:Hid (encB m D hb = []):=by unfold Hid encB; rw [if_neg hv]
    have b0:Below w.heap.size w (w.alloc (.cells m.cs 40)):=(Below.refl _ _).alloc (Nat.le_refl _) _
    have HA:Hid (MB (w.alloc (.cells m.cs 40)) w.heap.size m∧Below w.heap.size w (w.alloc (.cells m.cs 40))∧w.heap.size < (w.alloc (.cells m.cs 40)).heap.size∧m.ok):=⟨heapNew w _,b0,by simp,hm.ok⟩
    have hc:=HA.out.1.cells
    have him:=info_msg hm.ok
    obtain ⟨ve,hve⟩:∃ ve,valE m = ve:=⟨_,rfl⟩
    have HVE:Hid (valE m = ve∧refE m = valE m):=⟨hve,ref_val m⟩
    rw [hve] at hv
    clear b0 hm hve h0
    go_enter Tryz.func52,Tryz.ntmps52
    go_wp2_with (first |(refine wpList_load_row rfl 40 _ rfl w.heap.size rfl 40 m.cs (0,0) _ hc Tryz.underlying40 rfl him ?_))
    generalize w.alloc (.cells m.cs 40) = w0 at *
    refine (rValidT w0 m HA.out.2.2.2).mono ?_
    rintro e w1 ⟨rfl,b1⟩
    rw [HVE.out.2,HVE.out.1]
    have HB:Hid (Below w.heap.size w w1):=HA.out.2.1.trans (b1.mono (Nat.le_of_lt HA.out.2.2.1))
    clear b1
    go_wp2
    go_ret2
    exact ⟨_,by rw [HVE.out.1]; rfl,by rw [HE.out]; exact World.ownsRow_nil _ _ _ _,HB.out⟩
theorem FP.after {w w1 w2:World} {g R:Nat} {P:Pv} {L:List Int} {H:List UInt8} {p s:Nat} {held:List UInt8} {hv:Value} (hf:FP w g R P L H p s held hv) {T:List UInt8} {h0:Bool} {mv bsv:Value} {met bs:List (List UInt8)} {h':Bool} {r:List UInt8} {p' s':Nat} {held':List UInt8} {hv':Value} (po:Fm.PO w R h0 T hv mv bsv 0 met bs h' r p' s' held' hv' w1)
    (fr2:Fm.Fr (fun k=>k≠g) w1 w2) {P':Pv} {H':List UInt8} (hc:HC w2 g P' L H') (hln:P'.ln = P.ln) (hst:P'.st = P.st) (hwy:P'.why = P.why) (ho:(P'.hs = P.hs∧H' = H)∨OW w1.heap.size w2 P'.hs H'):FP w2 g R P' L H' p' s' held' hv':=by
  obtain ⟨_,hlo,hho⟩:=hf.hc po.fr
  have hgR:=hf.gR
  have hgl:=hf.pk.lt
  have hsz:=po.fr.size
  have hRl:R < w1.heap.size:=po.rk.lt
  have hRw:R < w.heap.size:=hf.rk.lt
  have hat:∀ k,k < w.heap.size→hv.ownBlock≠some k→hv'.ownBlock≠some k:=fun k hk hn e=>by
    rcases po.at_ with h | h
    · rw [h] at e; exact hn e
    · have:=h k e; omega
  refine ⟨hc.pk,hst.trans hf.stp,hwy.trans hf.why,hgR,hf.g1,hc.b0,hc.b1,hf.lok,?_,?_,?_,?_,hc.hl,(fr2.block R hRl (by omega)).trans po.rk,(po.st rfl).1,own_at po.ow (fun k hk _=>fr2.block k (own_ge po.ow hk).2 (by have:=(own_ge po.ow hk).1; omega)),po.nil,hc.kt,hc.mt⟩
  · rw [hln]
    exact own_at hlo (fun k hk _=>fr2.block k (own_ge hlo hk).2 (hf.lj k hk).1)
  · rw [hln]
    exact fun k hk=>⟨(hf.lj k hk).1,(hf.lj k hk).2.1,hat k (own_ge hf.lo hk).2 (hf.lj k hk).2.2⟩
  · rcases ho with ⟨e1,rfl⟩ | ho
    · rw [e1]
      exact own_at hho (fun k hk _=>fr2.block k (own_ge hho hk).2 (hf.hj k hk).1)
    · exact ho.mono (Nat.zero_le _)
  · rcases ho with ⟨e1,rfl⟩ | ho
    · rw [e1]
      exact fun k hk=>⟨(hf.hj k hk).1,(hf.hj k hk).2.1,hat k (own_ge hf.ho hk).2 (hf.hj k hk).2.2⟩
    · intro k hk
      have h1:=(own_ge ho hk).1
      exact ⟨by omega,by omega,fun e=>by have:=(own_ge po.ow e).2; omega⟩
theorem rd_hello {info me:List UInt8} (hi:info.length = 20) (hm:me.length = 20) {met bs:List (List UInt8)} {h':Bool} {r:List UInt8} {e:Int} (x:Fm.Rd true (Fm.sgn ++ (fl8 ++ info ++ me)) met bs h' r e):met = [fl8 ++ info ++ me]∧bs = []∧h' = false∧r = []∧e = 0:=by
  have h48:(fl8 ++ info ++ me).length = 48:=by simp [fl8,hi,hm]
  have hs20:Fm.sgn.length = 20:=rfl
  have hl:(Fm.sgn ++ (fl8 ++ info ++ me)).length = 68:=by rw [List.length_append,h48,hs20]
  have hd:(Fm.sgn ++ (fl8 ++ info ++ me)).drop 68 = []:=List.drop_eq_nil_of_le (by omega)
  have hh:Fm.hel (Fm.sgn ++ (fl8 ++ info ++ me)) = fl8 ++ info ++ me:=by
    unfold Fm.hel
    rw [List.drop_left' hs20,List.take_of_length_le (by omega)]
  have hk:Fm.sok (Fm.sgn ++ (fl8 ++ info ++ me)) 0 = true:=by
    unfold Fm.sok
    rw [show 20 - 0 = 20 from rfl,List.take_left' hs20,hl,List.drop_zero,List.take_of_length_le (by rw [hs20]; decide)]
    simp
  have y:=Fm.Rd.hello (Fm.sgn ++ (fl8 ++ info ++ me)) [] [] false [] 0 hk (by omega) (by rw [hd]; exact Fm.Rd.num [] (by decide))
  rw [hh] at y
  exact y.det x
theorem nd (k:Nat):(Value.slice none 0 0).ownBlock≠some k:=by simp [Value.ownBlock]
theorem FP.below {w w':World} {g R:Nat} {P:Pv} {L:List Int} {H:List UInt8} {p s:Nat} {held:List UInt8} {hv:Value} (h:FP w g R P L H p s held hv) (hb:Below w.heap.size w w'):FP w' g R P L H p s held hv:=
  ⟨h.pk.keep (hb.block g h.pk.lt),h.stp,h.why,h.gR,h.g1,h.b0,h.b1,h.lok,own_at h.lo (fun k hk _=>hb.block k (own_ge h.lo hk).2),h.lj,own_at h.ho (fun k hk _=>hb.block k (own_ge h.ho hk).2),h.hj,h.hl,(hb.block R h.rk.lt).trans h.rk,h.st,own_at h.ow (fun k hk _=>hb.block k (own_ge h.ow hk).2),h.nil,h.kt.below hb h.kt.pos,h.mt.keep hb⟩
theorem below_fr {B:Nat} {S:Nat→Prop} {a b c:World} (h:Below B a b) (f:Fm.Fr S b c) (hB:B≤b.heap.size) (hS:∀ k,k < B→S k):Below B a c:=
  ⟨f.os.trans h.os,f.tape.trans h.tape,f.output.trans h.output,Nat.le_trans h.size f.size,fun k hk=>(f.block k (by omega) (hS k hk)).trans (h.block k hk)⟩
def mayE (L:List Int) (P:Pv) (m:Mv) (D:List UInt8):Bool:=
  if m.k = 5 then (!P.wb && (Bs.ck (L.length:Int) D == 0)) else if m.k = 4 then pce L m.i else if m.k = 7 then (!P.wc && rgp L P.b m.i m.b D.length) else if m.k = 6 then (!P.ic && rgp L P.b m.i m.b m.l) else if m.k = 8 then rgp L P.b m.i m.b m.l else true
set_option maxHeartbeats 4000000 in
set_option maxRecDepth 100000 in
theorem mayT (w:World) (g:Nat) (P:Pv) (L:List Int) (h:PL w g P L) (m:Mv) (ok:m.ok) (D:List UInt8) (hd:RB w m.d D) (hm:MBd m D.length) (hmt:Bs.MT w) :
    Calls Tryz.prog 49 #[.pointer (some ⟨g,0,none⟩),.agg m.cs] w fun e w'=>e = .returned (.bool (mayE L P m D))∧Below w.heap.size w w':=by
  obtain ⟨da,dc,hda,_⟩:=id hd
  have hb:MB (w.alloc (.cells m.cs 40)) w.heap.size m:=heapNew w (.cells m.cs 40)
  have hi:=info_msg ok
  have hil:(Tryz.prog.info? 40).map (·.size) = some m.ls.length:=by rw [hi]; rfl
  have HB:Hid (Below w.heap.size w (w.alloc (.cells m.cs 40))):=(Below.refl _ _).alloc (Nat.le_refl _) _
  have HRng:Hid (∀ u,Below w.heap.size w u→Calls Tryz.prog 87 #[.pointer (some ⟨g,0,none⟩),.agg m.cs] u fun e w'=>e = .returned (.bool (rgp L P.b m.i m.b (lng m.k m.l D.length)))∧Below u.heap.size u w'):=fun u hu=>isRangeT u g P L (h.below hu) m ok D.length dc da hda hm
  have HPce:Hid (∀ u,Below w.heap.size w u→Calls Tryz.prog 86 #[.pointer (some ⟨g,0,none⟩),.int .i64 m.i] u fun e w'=>e = .returned (.bool (pce L m.i))∧w' = u):=fun u hu=>by
    obtain ⟨la,lc,e,_⟩:=h.rz
    exact isPieceT u g P (h.below hu).pk L la lc e m.i
  have HFld:Hid (∀ u,Below w.heap.size w u→Calls Tryz.prog 85 #[.pointer (some ⟨g,0,none⟩),m.d] u fun e w'=>e = .returned (.bool (Bs.ck (L.length:Int) D == 0))∧∃ n,w' = u.drewN n):=fun u hu=>by
    obtain ⟨la,lc,e,_⟩:=h.rz
    exact isFieldT u g P (h.below hu).pk L la lc e h.ok.1 m.d D (hd.keep hu) hm.n1 (MT_below hmt hu)
  have HPk:Hid (∀ u,Below w.heap.size w u→u.cell? ⟨g,27,none⟩ = some (.bool P.wb)∧u.cell? ⟨g,25,none⟩ = some (.bool P.wc)∧u.cell? ⟨g,28,none⟩ = some (.bool P.ic)):=fun u hu=>by
    have s:=(h.below hu).pk.sides
    exact ⟨s.2.2.1,s.1,s.2.2.2.1⟩
  have c0:=hb.c0
  have HS0:=Lib.hid hb
  rw [hda] at HFld
  clear hb h hd hmt ok hi
  by_cases k5:m.k = 5
  · have hL:mayE L P m D = (!P.wb && (Bs.ck (L.length:Int) D == 0)):=by unfold mayE; rw [if_pos k5]
    rw [hL]
    rw [k5] at c0
    clear hL k5 HRng HPce hm
    cases hwb:P.wb
    · rw [hwb] at HPk
      rw [Bool.not_false,Bool.true_and]
      clear hwb
      go_enter Tryz.func49,Tryz.ntmps49
      go_upto_region 7 with fail
      refine wp_region_held_drew (S:=fun u=>MB u w.heap.size m∧Below w.heap.size w u) (by kernel_rfl) (⟨HS0.out.below (belowDrew _ 1),belowN HB.out 1⟩) (fun hHeld=>?_)
      refine tkB (i:=0) (v:=.pointer (some ⟨g,0,none⟩)) rfl hHeld ?_
      simp only [Act.put,zq1,zq2,zq4,zq5,zq6]
      refine tkB (i:=1) (v:=.pointer (some ⟨g,0,none⟩)) rfl hHeld ?_
      simp only [Act.put,zq1,zq2,zq3,zq4,zq5,zq6]
      refine tkB (i:=2) (v:=.pointer (some ⟨g,25,none⟩)) rfl hHeld ?_
      simp only [Act.put,zq1,zq2,zq3,zq4,zq5,zq6]
      refine tkB (i:=3) (v:=.pointer (some ⟨g,27,none⟩)) rfl hHeld ?_
      simp only [Act.put,zq1,zq2,zq3,zq4,zq5,zq6]
      refine tkA (i:=4) (v:=.bool false) rfl (Or.inl ⟨by rfl,fun w hw=>by have hq:=(HPk.out w hw.2).1; go_simp⟩) hHeld ?_
      simp only [Act.put,zq1,zq2,zq3,zq4,zq5,zq6]
      refine tkB (i:=5) (v:=.bool true) rfl hHeld ?_
      simp only [Act.put,zq1,zq2,zq3,zq4,zq5,zq6]
      refine tkB (i:=6) (v:=.bool true) rfl hHeld ?_
      simp only [Act.put,zq1,zq2,zq3,zq4,zq5,zq6]
      refine tkB (i:=7) (v:=.pointer (some ⟨g,0,none⟩)) rfl hHeld ?_
      simp only [Act.put,zq1,zq2,zq3,zq4,zq5,zq6]
      refine tkB (i:=8) (v:=.pointer (some ⟨g,0,none⟩)) rfl hHeld ?_
      simp only [Act.put,zq1,zq2,zq3,zq4,zq5,zq6]
      refine tkB (i:=9) (v:=.pointer (some ⟨g,0,none⟩)) rfl hHeld ?_
      simp only [Act.put,zq1,zq2,zq3,zq4,zq5,zq6]
      refine tkB (i:=10) (v:=.pointer (some ⟨w.heap.size,4,none⟩)) rfl hHeld ?_
      simp only [Act.put,zq1,zq2,zq3,zq4,zq5,zq6]
      refine tkA (i:=11) (v:=.slice da D.length dc) rfl (Or.inl ⟨by rfl,fun w hw=>by have hq:=hw.1.cell 4 (show m.ls[4]? = some m.d from rfl); rw [hda] at hq; go_simp⟩) hHeld ?_
      simp only [Act.put,zq1,zq2,zq3,zq4,zq5,zq6]
      refine wpAnyH_ready (rs:=[12]) (by kernel_rfl) (by simp) ?_
      refine AllReadyH.cons (o:=_) rfl (fun K hK=>?_) AllReadyH.nil
      go_simp
      refine (HFld.out _ hHeld.2).mono ?_
      rintro e w2 ⟨rfl,n2,rfl⟩
      go_wp2_with fail
      refine hK.out _ _ (⟨HS0.out.below (belowDrew _ (1 + n2)),belowN HB.out (1 + n2)⟩) (fun hHeld=>?_)
      clear hK K
      have HS1:=Lib.hid hHeld
      refine tkB (i:=13) (v:=.bool (Bs.ck (L.length:Int) D == 0)) rfl hHeld ?_
      simp only [Act.put,zq1,zq2,zq3,zq4,zq5,zq6]
      refine tkB (i:=14) (v:=.bool (Bs.ck (L.length:Int) D == 0)) rfl hHeld ?_
      simp only [Act.put,zq1,zq2,zq3,zq4,zq5,zq6]
      refine wpAnyH_done (by kernel_rfl) ?_ _
      clear hHeld
      go_wp2
      go_ret
      exact ⟨rfl,HS1.out.2⟩
    · rw [hwb] at HPk
      rw [Bool.not_true,Bool.false_and]
      clear hwb HFld
      go_enter Tryz.func49,Tryz.ntmps49
      go_upto_region 7 with fail
      refine wp_region_held_drew (S:=fun u=>MB u w.heap.size m∧Below w.heap.size w u) (by kernel_rfl) (⟨HS0.out.below (belowDrew _ 1),belowN HB.out 1⟩) (fun hHeld=>?_)
      refine tkB (i:=0) (v:=.pointer (some ⟨g,0,none⟩)) rfl hHeld ?_
      simp only [Act.put,zq1,zq2,zq4,zq5,zq6]
      refine tkB (i:=1) (v:=.pointer (some ⟨g,0,none⟩)) rfl hHeld ?_
      simp only [Act.put,zq1,zq2,zq3,zq4,zq5,zq6]
      refine tkB (i:=2) (v:=.pointer (some ⟨g,25,none⟩)) rfl hHeld ?_
      simp only [Act.put,zq1,zq2,zq3,zq4,zq5,zq6]
      refine tkB (i:=3) (v:=.pointer (some ⟨g,27,none⟩)) rfl hHeld ?_
      simp only [Act.put,zq1,zq2,zq3,zq4,zq5,zq6]
      refine tkA (i:=4) (v:=.bool true) rfl (Or.inl ⟨by rfl,fun w hw=>by have hq:=(HPk.out w hw.2).1; go_simp⟩) hHeld ?_
      simp only [Act.put,zq1,zq2,zq3,zq4,zq5,zq6]
      refine tkB (i:=5) (v:=.bool false) rfl hHeld ?_
      simp only [Act.put,zq1,zq2,zq3,zq4,zq5,zq6]
      refine tkB (i:=6) (v:=.bool false) rfl hHeld ?_
      simp only [Act.put,zq1,zq2,zq3,zq4,zq5,zq6]
      refine tkA (i:=7) (v:=undef) rfl (Or.inr ⟨by rfl,rfl⟩) hHeld ?_
      simp only [Act.put,zq1,zq2,zq3,zq4,zq5,zq6]
      refine tkA (i:=8) (v:=undef) rfl (Or.inr ⟨by rfl,rfl⟩) hHeld ?_
      simp only [Act.put,zq1,zq2,zq3,zq4,zq5,zq6]
      refine tkA (i:=9) (v:=undef) rfl (Or.inr ⟨by rfl,rfl⟩) hHeld ?_
      simp only [Act.put,zq1,zq2,zq3,zq4,zq5,zq6]
      refine tkA (i:=10) (v:=undef) rfl (Or.inr ⟨by rfl,rfl⟩) hHeld ?_
      simp only [Act.put,zq1,zq2,zq3,zq4,zq5,zq6]
      refine tkA (i:=11) (v:=undef) rfl (Or.inr ⟨by rfl,rfl⟩) hHeld ?_
      simp only [Act.put,zq1,zq2,zq3,zq4,zq5,zq6]
      refine tkA (i:=12) (v:=undef) rfl (Or.inr ⟨by rfl,rfl⟩) hHeld ?_
      simp only [Act.put,zq1,zq2,zq3,zq4,zq5,zq6]
      refine tkB (i:=13) (v:=.bool false) rfl hHeld ?_
      simp only [Act.put,zq1,zq2,zq3,zq4,zq5,zq6]
      refine tkB (i:=14) (v:=.bool false) rfl hHeld ?_
      simp only [Act.put,zq1,zq2,zq3,zq4,zq5,zq6]
      refine wpAnyH_done (by kernel_rfl) ?_ _
      clear hHeld
      go_wp2
      go_ret
      exact ⟨rfl,belowN HB.out 1⟩
  have q5:(m.k == 5) = false:=by simp [k5]
  clear HFld
  by_cases k4:m.k = 4
  · have hL:mayE L P m D = pce L m.i:=by unfold mayE; rw [if_neg k5,if_pos k4]
    rw [hL]
    rw [k4] at c0
    clear hL k4 k5 q5 HRng hm HPk
    go_enter Tryz.func49,Tryz.ntmps49
    go_upto_region 8 with fail
    refine wp_region_held_drew (S:=fun u=>MB u w.heap.size m∧Below w.heap.size w u) (by kernel_rfl) (⟨HS0.out.below (belowDrew _ 1),belowN HB.out 1⟩) (fun hHeld=>?_)
    refine tkB (i:=0) (v:=.pointer (some ⟨g,0,none⟩)) rfl hHeld ?_
    simp only [Act.put,zq1,zq2,zq4,zq5,zq6]
    refine tkB (i:=1) (v:=.pointer (some ⟨g,0,none⟩)) rfl hHeld ?_
    simp only [Act.put,zq1,zq2,zq3,zq4,zq5,zq6]
    refine tkB (i:=2) (v:=.pointer (some ⟨g,0,none⟩)) rfl hHeld ?_
    simp only [Act.put,zq1,zq2,zq3,zq4,zq5,zq6]
    refine tkB (i:=3) (v:=.pointer (some ⟨w.heap.size,1,none⟩)) rfl hHeld ?_
    simp only [Act.put,zq1,zq2,zq3,zq4,zq5,zq6]
    refine tkA (i:=4) (v:=.int .i64 m.i) rfl (Or.inl ⟨by rfl,fun w hw=>by have hq:=hw.1.c1; go_simp⟩) hHeld ?_
    simp only [Act.put,zq1,zq2,zq3,zq4,zq5,zq6]
    refine wpAnyH_ready (rs:=[5]) (by kernel_rfl) (by simp) ?_
    refine AllReadyH.cons (o:=_) rfl (fun K hK=>?_) AllReadyH.nil
    go_simp
    refine (HPce.out _ hHeld.2).mono ?_
    rintro e w2 ⟨rfl,rfl⟩
    have HS1:=Lib.hid hHeld
    go_wp2_with fail
    refine hK.out _ _ (hHeld) (fun hHeld=>?_)
    clear hK K
    refine tkB (i:=6) (v:=.bool (pce L m.i)) rfl hHeld ?_
    simp only [Act.put,zq1,zq2,zq3,zq4,zq5,zq6]
    refine wpAnyH_done (by kernel_rfl) ?_ _
    clear hHeld
    go_wp2
    go_ret
    exact ⟨rfl,HS1.out.2⟩
  have q4:(m.k == 4) = false:=by simp [k4]
  clear HPce
  by_cases k7:m.k = 7
  · have hL:mayE L P m D = (!P.wc && rgp L P.b m.i m.b D.length):=by unfold mayE; rw [if_neg k5,if_neg k4,if_pos k7]
    have hz:lng m.k m.l D.length = D.length:=by unfold lng; rw [if_pos k7]
    rw [hL]
    rw [hz] at HRng
    rw [k7] at c0
    clear hL hz k7 k4 k5 q5 q4 hm
    cases hwb:P.wc
    · rw [hwb] at HPk
      rw [Bool.not_false,Bool.true_and]
      clear hwb
      go_enter Tryz.func49,Tryz.ntmps49
      go_upto_region 9 with fail
      refine wp_region_held_drew (S:=fun u=>MB u w.heap.size m∧Below w.heap.size w u) (by kernel_rfl) (⟨HS0.out.below (belowDrew _ 1),belowN HB.out 1⟩) (fun hHeld=>?_)
      refine tkB (i:=0) (v:=.pointer (some ⟨g,0,none⟩)) rfl hHeld ?_
      simp only [Act.put,zq1,zq2,zq4,zq5,zq6]
      refine tkB (i:=1) (v:=.pointer (some ⟨g,0,none⟩)) rfl hHeld ?_
      simp only [Act.put,zq1,zq2,zq3,zq4,zq5,zq6]
      refine tkB (i:=2) (v:=.pointer (some ⟨g,25,none⟩)) rfl hHeld ?_
      simp only [Act.put,zq1,zq2,zq3,zq4,zq5,zq6]
      refine tkB (i:=3) (v:=.pointer (some ⟨g,25,none⟩)) rfl hHeld ?_
      simp only [Act.put,zq1,zq2,zq3,zq4,zq5,zq6]
      refine tkA (i:=4) (v:=.bool false) rfl (Or.inl ⟨by rfl,fun w hw=>by have hq:=(HPk.out w hw.2).2.1; go_simp⟩) hHeld ?_
      simp only [Act.put,zq1,zq2,zq3,zq4,zq5,zq6]
      refine tkB (i:=5) (v:=.bool true) rfl hHeld ?_
      simp only [Act.put,zq1,zq2,zq3,zq4,zq5,zq6]
      refine tkB (i:=6) (v:=.bool true) rfl hHeld ?_
      simp only [Act.put,zq1,zq2,zq3,zq4,zq5,zq6]
      refine tkB (i:=7) (v:=.pointer (some ⟨g,0,none⟩)) rfl hHeld ?_
      simp only [Act.put,zq1,zq2,zq3,zq4,zq5,zq6]
      refine tkB (i:=8) (v:=.pointer (some ⟨g,0,none⟩)) rfl hHeld ?_
      simp only [Act.put,zq1,zq2,zq3,zq4,zq5,zq6]
      refine tkB (i:=9) (v:=.pointer (some ⟨g,0,none⟩)) rfl hHeld ?_
      simp only [Act.put,zq1,zq2,zq3,zq4,zq5,zq6]
      refine tkA (i:=10) (v:=.agg m.cs) rfl (yieldsIf_load_mid (by rfl) _ _ rfl _ _ rfl _ _ (fun u hw=>hw.1.rng0) Tryz.underlying40 rfl hil) hHeld ?_
      simp only [Act.put,zq1,zq2,zq3,zq4,zq5,zq6]
      refine wpAnyH_ready (rs:=[11]) (by kernel_rfl) (by simp) ?_
      refine AllReadyH.cons (o:=_) rfl (fun K hK=>?_) AllReadyH.nil
      go_simp
      refine (HRng.out _ hHeld.2).mono ?_
      rintro e w2 ⟨rfl,b2⟩
      go_wp2_with fail
      refine hK.out _ _ (⟨hHeld.1.below b2,hHeld.2.trans (b2.mono hHeld.2.size)⟩) (fun hHeld=>?_)
      clear hK K
      have HS1:=Lib.hid hHeld
      refine tkB (i:=12) (v:=.bool (rgp L P.b m.i m.b D.length)) rfl hHeld ?_
      simp only [Act.put,zq1,zq2,zq3,zq4,zq5,zq6]
      refine tkB (i:=13) (v:=.bool (rgp L P.b m.i m.b D.length)) rfl hHeld ?_
      simp only [Act.put,zq1,zq2,zq3,zq4,zq5,zq6]
      refine wpAnyH_done (by kernel_rfl) ?_ _
      clear hHeld
      go_wp2
      go_ret
      exact ⟨rfl,HS1.out.2⟩
    · rw [hwb] at HPk
      rw [Bool.not_true,Bool.false_and]
      clear hwb HRng
      go_enter Tryz.func49,Tryz.ntmps49
      go_upto_region 9 with fail
      refine wp_region_held_drew (S:=fun u=>MB u w.heap.size m∧Below w.heap.size w u) (by kernel_rfl) (⟨HS0.out.below (belowDrew _ 1),belowN HB.out 1⟩) (fun hHeld=>?_)
      refine tkB (i:=0) (v:=.pointer (some ⟨g,0,none⟩)) rfl hHeld ?_
      simp only [Act.put,zq1,zq2,zq4,zq5,zq6]
      refine tkB (i:=1) (v:=.pointer (some ⟨g,0,none⟩)) rfl hHeld ?_
      simp only [Act.put,zq1,zq2,zq3,zq4,zq5,zq6]
      refine tkB (i:=2) (v:=.pointer (some ⟨g,25,none⟩)) rfl hHeld ?_
      simp only [Act.put,zq1,zq2,zq3,zq4,zq5,zq6]
      refine tkB (i:=3) (v:=.pointer (some ⟨g,25,none⟩)) rfl hHeld ?_
      simp only [Act.put,zq1,zq2,zq3,zq4,zq5,zq6]
      refine tkA (i:=4) (v:=.bool true) rfl (Or.inl ⟨by rfl,fun w hw=>by have hq:=(HPk.out w hw.2).2.1; go_simp⟩) hHeld ?_
      simp only [Act.put,zq1,zq2,zq3,zq4,zq5,zq6]
      refine tkB (i:=5) (v:=.bool false) rfl hHeld ?_
      simp only [Act.put,zq1,zq2,zq3,zq4,zq5,zq6]
      refine tkB (i:=6) (v:=.bool false) rfl hHeld ?_
      simp only [Act.put,zq1,zq2,zq3,zq4,zq5,zq6]
      refine tkA (i:=7) (v:=undef) rfl (Or.inr ⟨by rfl,rfl⟩) hHeld ?_
      simp only [Act.put,zq1,zq2,zq3,zq4,zq5,zq6]
      refine tkA (i:=8) (v:=undef) rfl (Or.inr ⟨by rfl,rfl⟩) hHeld ?_
      simp only [Act.put,zq1,zq2,zq3,zq4,zq5,zq6]
      refine tkA (i:=9) (v:=undef) rfl (Or.inr ⟨by rfl,rfl⟩) hHeld ?_
      simp only [Act.put,zq1,zq2,zq3,zq4,zq5,zq6]
      refine tkA (i:=10) (v:=undef) rfl (Or.inr ⟨by rfl,rfl⟩) hHeld ?_
      simp only [Act.put,zq1,zq2,zq3,zq4,zq5,zq6]
      refine tkA (i:=11) (v:=undef) rfl (Or.inr ⟨by rfl,rfl⟩) hHeld ?_
      simp only [Act.put,zq1,zq2,zq3,zq4,zq5,zq6]
      refine tkB (i:=12) (v:=.bool false) rfl hHeld ?_
      simp only [Act.put,zq1,zq2,zq3,zq4,zq5,zq6]
      refine tkB (i:=13) (v:=.bool false) rfl hHeld ?_
      simp only [Act.put,zq1,zq2,zq3,zq4,zq5,zq6]
      refine wpAnyH_done (by kernel_rfl) ?_ _
      clear hHeld
      go_wp2
      go_ret
      exact ⟨rfl,belowN HB.out 1⟩
  have q7:(m.k == 7) = false:=by simp [k7]
  have hz:lng m.k m.l D.length = m.l:=by unfold lng; rw [if_neg k7]
  rw [hz] at HRng
  clear hz
  by_cases k6:m.k = 6
  · have hL:mayE L P m D = (!P.ic && rgp L P.b m.i m.b m.l):=by unfold mayE; rw [if_neg k5,if_neg k4,if_neg k7,if_pos k6]
    rw [hL]
    rw [k6] at c0
    have p28:=(HPk.out _ HB.out).2.2
    clear hL k6 k7 k4 k5 q5 q4 q7 hm HPk
    cases hwb:P.ic
    · rw [hwb] at p28
      rw [Bool.not_false,Bool.true_and]
      clear hwb
      go_enter Tryz.func49,Tryz.ntmps49
      go_upto_region 12 with fail
      refine wp_region_held_drew (S:=fun u=>MB u w.heap.size m∧Below w.heap.size w u) (by kernel_rfl) (⟨HS0.out.below (belowDrew _ 1),belowN HB.out 1⟩) (fun hHeld=>?_)
      refine tkB (i:=0) (v:=.pointer (some ⟨g,0,none⟩)) rfl hHeld ?_
      simp only [Act.put,zq1,zq2,zq4,zq5,zq6]
      refine tkB (i:=1) (v:=.pointer (some ⟨g,0,none⟩)) rfl hHeld ?_
      simp only [Act.put,zq1,zq2,zq3,zq4,zq5,zq6]
      refine tkB (i:=2) (v:=.pointer (some ⟨g,0,none⟩)) rfl hHeld ?_
      simp only [Act.put,zq1,zq2,zq3,zq4,zq5,zq6]
      refine tkA (i:=3) (v:=.agg m.cs) rfl (yieldsIf_load_mid (by rfl) _ _ rfl _ _ rfl _ _ (fun u hw=>hw.1.rng0) Tryz.underlying40 rfl hil) hHeld ?_
      simp only [Act.put,zq1,zq2,zq3,zq4,zq5,zq6]
      refine wpAnyH_ready (rs:=[4]) (by kernel_rfl) (by simp) ?_
      refine AllReadyH.cons (o:=_) rfl (fun K hK=>?_) AllReadyH.nil
      go_simp
      refine (HRng.out _ hHeld.2).mono ?_
      rintro e w2 ⟨rfl,b2⟩
      go_wp2_with fail
      refine hK.out _ _ (⟨hHeld.1.below b2,hHeld.2.trans (b2.mono hHeld.2.size)⟩) (fun hHeld=>?_)
      clear hK K
      have HS1:=Lib.hid hHeld
      refine tkB (i:=5) (v:=.bool (rgp L P.b m.i m.b m.l)) rfl hHeld ?_
      simp only [Act.put,zq1,zq2,zq3,zq4,zq5,zq6]
      refine wpAnyH_done (by kernel_rfl) ?_ _
      clear hHeld
      go_wp2
      go_ret
      exact ⟨rfl,HS1.out.2⟩
    · rw [hwb] at p28
      rw [Bool.not_true,Bool.false_and]
      clear hwb HRng
      go_enter Tryz.func49,Tryz.ntmps49
      go_wp2
      go_ret
      exact ⟨rfl,HB.out⟩
  have q6:(m.k == 6) = false:=by simp [k6]
  clear HPk
  by_cases k8:m.k = 8
  · have hL:mayE L P m D = rgp L P.b m.i m.b m.l:=by unfold mayE; rw [if_neg k5,if_neg k4,if_neg k7,if_neg k6,if_pos k8]
    rw [hL]
    rw [k8] at c0
    clear hL k8 k6 k7 k4 k5 q5 q4 q7 q6 hm
    go_enter Tryz.func49,Tryz.ntmps49
    go_upto_region 12 with fail
    refine wp_region_held_drew (S:=fun u=>MB u w.heap.size m∧Below w.heap.size w u) (by kernel_rfl) (⟨HS0.out.below (belowDrew _ 1),belowN HB.out 1⟩) (fun hHeld=>?_)
    refine tkB (i:=0) (v:=.pointer (some ⟨g,0,none⟩)) rfl hHeld ?_
    simp only [Act.put,zq1,zq2,zq4,zq5,zq6]
    refine tkB (i:=1) (v:=.pointer (some ⟨g,0,none⟩)) rfl hHeld ?_
    simp only [Act.put,zq1,zq2,zq3,zq4,zq5,zq6]
    refine tkB (i:=2) (v:=.pointer (some ⟨g,0,none⟩)) rfl hHeld ?_
    simp only [Act.put,zq1,zq2,zq3,zq4,zq5,zq6]
    refine tkA (i:=3) (v:=.agg m.cs) rfl (yieldsIf_load_mid (by rfl) _ _ rfl _ _ rfl _ _ (fun u hw=>hw.1.rng0) Tryz.underlying40 rfl hil) hHeld ?_
    simp only [Act.put,zq1,zq2,zq3,zq4,zq5,zq6]
    refine wpAnyH_ready (rs:=[4]) (by kernel_rfl) (by simp) ?_
    refine AllReadyH.cons (o:=_) rfl (fun K hK=>?_) AllReadyH.nil
    go_simp
    refine (HRng.out _ hHeld.2).mono ?_
    rintro e w2 ⟨rfl,b2⟩
    go_wp2_with fail
    refine hK.out _ _ (⟨hHeld.1.below b2,hHeld.2.trans (b2.mono hHeld.2.size)⟩) (fun hHeld=>?_)
    clear hK K
    have HS1:=Lib.hid hHeld
    refine tkB (i:=5) (v:=.bool (rgp L P.b m.i m.b m.l)) rfl hHeld ?_
    simp only [Act.put,zq1,zq2,zq3,zq4,zq5,zq6]
    refine wpAnyH_done (by kernel_rfl) ?_ _
    clear hHeld
    go_wp2
    go_ret
    exact ⟨rfl,HS1.out.2⟩
  have q8:(m.k == 8) = false:=by simp [k8]
  have hL:mayE L P m D = true:=by unfold mayE; rw [if_neg k5,if_neg k4,if_neg k7,if_neg k6,if_neg k8]
  rw [hL]
  clear hL HRng hm
  go_enter Tryz.func49,Tryz.ntmps49
  go_wp2
  go_ret
  exact ⟨rfl,HB.out⟩
set_option maxRecDepth 100000 in
theorem val_bd {m:Mv} (h:valE m = 0):0≤m.b∧m.b≤4294967295∧0≤m.l∧m.l≤4294967295:=by
  unfold valE at h
  cases hr:rowFor m.k with
  | none=>rw [hr] at h; simp at h
  | some r =>
    rw [hr] at h
    simp only at h
    have hf:frn (blks r.cs m) = false:=by
      cases hx:frn (blks r.cs m) with
      | false=>rfl
      | true=>rw [hx] at h; simp at h
    rw [hf] at h
    simp only [Bool.false_eq_true,if_false] at h
    have hl:lks r.cs m = true:=by
      cases hx:lks r.cs m with
      | true=>rfl
      | false=>rw [hx] at h; simp at h
    have hm:=(rowFor_mem hr).1
    clear h hr
    simp only [rws,List.mem_cons,List.not_mem_nil,or_false] at hm
    rcases hm with rfl | rfl | rfl | rfl | rfl | rfl | rfl | rfl | rfl | rfl | rfl | rfl | rfl | rfl <;> (simp [Kr.cs,List.takeWhile,blks,blk,frn] at hf; simp [Kr.cs,List.takeWhile,lks,lk,rng] at hl; omega)
set_option maxHeartbeats 2000000 in
set_option maxRecDepth 100000 in
theorem sayOk (w:World) (g:Nat) (P:Pv) (L:List Int) (h:PL w g P L) (hw:P.why = 0) (hkt:KT w) (hmt:Bs.MT w) (m:Mv) (D hb0:List UInt8) (hmm:MM w m D hb0) (hbd:MBd m D.length) (hp:mayE L P m D = true) (hv:valE m = 0) (hsh:sln m.h≤140737488351232) (hsd:sln m.d≤140737488351232) :
    Calls Tryz.prog 27 #[.pointer (some ⟨g,0,none⟩),.agg m.cs] w fun e w'=>∃ v,e = .returned (.tuple #[v,.int .i64 0])∧OW w.heap.size w' v (wirB [⟨m,D,hb0⟩])∧PK w' g { P with wc:=(sy m.k P.wc P.wi P.wb).1,wi:=(sy m.k P.wc P.wi P.wb).2.1,wb:=(sy m.k P.wc P.wi P.wb).2.2 }∧Fm.Fr (fun k=>k≠g) w w':=by
  have bA:Below w.heap.size w (w.alloc (.cells m.cs 40)):=(Below.refl _ _).alloc (Nat.le_refl _) _
  have HB:=Lib.hid bA
  have hb:MB (w.alloc (.cells m.cs 40)) w.heap.size m:=heapNew w (.cells m.cs 40)
  have HS0:=Lib.hid hb
  have hi:=info_msg hmm.ok
  have hs40:m.cs.size = 40:=hmm.ok.size
  have HP:Hid (PL w g P L∧KT w∧MM w m D hb0):=⟨h,hkt,hmm⟩
  have hgl:=h.pk.lt
  have HO:Hid (Calls Tryz.prog 39 #[.pointer (some ⟨g,0,none⟩)] (w.alloc (.cells m.cs 40)) fun e w'=>e = .returned (.int .i64 0)∧w' = w.alloc (.cells m.cs 40)):=by
    have h9:=openT (w.alloc (.cells m.cs 40)) g P (h.below bA).pk (by have:=h.b0; omega)
    rw [if_pos hw] at h9
    exact h9
  have HV:Hid (∀ u,Below w.heap.size w u→Calls Tryz.prog 48 #[.agg m.cs] u fun e w'=>e = .returned (.int .i64 0)∧Below u.heap.size u w'):=fun u hu=>by
    have h9:=validT u m hmm.ok (hkt.below hu hkt.pos) hsh hsd
    rw [hv] at h9
    exact h9
  have HMy:Hid (∀ u,Below w.heap.size w u→Calls Tryz.prog 49 #[.pointer (some ⟨g,0,none⟩),.agg m.cs] u fun e w'=>e = .returned (.bool true)∧Below u.heap.size u w'):=fun u hu=>by
    have h9:=mayT u g P L (h.below hu) m hmm.ok D (hmm.d.keep hu) hbd (hmt.keep hu)
    rw [hp] at h9
    exact h9
  have hwE:wirE [⟨m,D,hb0⟩] = 0:=by
    show (if valE m = 0 then wirE [] else valE m) = 0
    rw [if_pos hv]
    rfl
  have HWr:Hid (∀ u,Below w.heap.size w u→Calls Tryz.prog 50 #[.slice (some ⟨u.heap.size,0,none⟩) 1 1] (u.alloc (.cells m.cs 40)) fun e w'=>∃ v,e = .returned (.tuple #[v,.int .i64 0])∧OW (u.alloc (.cells m.cs 40)).heap.size w' v (wirB [⟨m,D,hb0⟩])∧Below (u.alloc (.cells m.cs 40)).heap.size (u.alloc (.cells m.cs 40)) w'):=fun u hu=>by
    have h9:=wireT (u.alloc (.cells m.cs 40)) _ [⟨m,D,hb0⟩] (rms_one (x:=⟨m,D,hb0⟩) (hmm.keep hu)) ((hkt.below hu hkt.pos).below ((Below.refl u.heap.size u).alloc (Nat.le_refl _) _) (hkt.below hu hkt.pos).pos) (show 1≤2147483647 by decide)
    refine h9.mono ?_
    rintro e w' ⟨v,he,ho,hb⟩
    rw [hwE] at he
    rw [if_pos hwE] at ho
    exact ⟨v,he,ho,hb⟩
  clear h hkt hmt hmm hbd hp hv bA hb hwE
  go_enter Tryz.func27,Tryz.ntmps27
  go_wp2_with fail
  refine HO.out.mono ?_
  rintro e w0 ⟨rfl,rfl⟩
  have hg0:=HS0.out
  go_wp2_with (first |(refine load_msg_if rfl _ rfl w.heap.size rfl m.cs hg0 hi ?_))
  refine (HV.out _ HB.out).mono ?_
  rintro e w1 ⟨rfl,b1⟩
  have HB1:=Lib.hid (HB.out.trans (b1.mono HB.out.size))
  have HS1:=Lib.hid (HS0.out.below b1)
  clear b1 hg0 HO HV
  have hg1:=HS1.out
  go_wp2_with (first |(refine load_msg_if rfl _ rfl w.heap.size rfl m.cs hg1 hi ?_))
  refine (HMy.out _ HB1.out).mono ?_
  rintro e w2 ⟨rfl,b2⟩
  have HB2:=Lib.hid (HB1.out.trans (b2.mono HB1.out.size))
  have HS2:=Lib.hid (HS1.out.below b2)
  clear b2 hg1 HMy HS0 HS1 HB1
  have hg2:=HS2.out
  go_wp2_with (first |(refine load_msg_if rfl _ rfl w.heap.size rfl m.cs hg2 hi ?_) |(refine build_msg rfl _ rfl m.cs rfl hs40 ?_))
  refine (HWr.out _ HB2.out).mono ?_
  rintro e w7 ⟨v7,rfl,o7,b7⟩
  obtain ⟨a7,c7,rfl⟩:=o7.form
  have bU:Below w2.heap.size w2 (w2.alloc (.cells m.cs 40)):=(Below.refl _ _).alloc (Nat.le_refl _) _
  have HB7:Hid (Below w.heap.size w w7):=(HB2.out.trans (bU.mono HB2.out.size)).trans (b7.mono (Nat.le_trans HB2.out.size bU.size))
  have HS9:Hid (MB w7 w.heap.size m):=(HS2.out.below bU).below b7
  have HK7:Hid (PK w7 g P):=(HP.out.1.below HB7.out).pk
  have HO7:Hid (OW w.heap.size w7 (.slice a7 (wirB [⟨m,D,hb0⟩]).length c7) (wirB [⟨m,D,hb0⟩])):=o7.mono (Nat.le_trans HB2.out.size bU.size)
  clear o7 b7 bU hg2 HWr HS2 HB2
  generalize hWB:wirB [⟨m,D,hb0⟩] = wB at *
  go_upto_region 12 with fail
  refine wp_region_held_drew (S:=fun u=>MB u w.heap.size m) (by kernel_rfl) (HS9.out.below (belowDrew _ 1)) (fun hHeld=>?_)
  refine tkB (i:=0) (v:=.pointer (some ⟨g,0,none⟩)) rfl hHeld ?_
  simp only [Act.put,zq1,zq2,zq4,zq5,zq6]
  refine tkB (i:=1) (v:=.pointer (some ⟨g,0,none⟩)) rfl hHeld ?_
  simp only [Act.put,zq1,zq2,zq3,zq4,zq5,zq6]
  refine tkB (i:=2) (v:=.pointer (some ⟨g,25,none⟩)) rfl hHeld ?_
  simp only [Act.put,zq1,zq2,zq3,zq4,zq5,zq6]
  refine tkB (i:=3) (v:=.pointer (some ⟨w.heap.size,0,none⟩)) rfl hHeld ?_
  simp only [Act.put,zq1,zq2,zq3,zq4,zq5,zq6]
  refine tkA (i:=4) (v:=.int .i64 m.k) rfl (Or.inl ⟨by rfl,fun w hw=>by have hq:=hw.c0; go_simp⟩) hHeld ?_
  simp only [Act.put,zq1,zq2,zq3,zq4,zq5,zq6]
  refine wpAnyH_ready (rs:=[5]) (by kernel_rfl) (by simp) ?_
  refine AllReadyH.cons (o:=_) rfl (fun K hK=>?_) AllReadyH.nil
  go_simp
  refine (saysW w7.drew g P (HK7.out.keep rfl) m.k).mono ?_
  rintro e w9 ⟨rfl,k9,f9⟩
  have HF9:Hid _:=And.intro k9 f9
  have hm9:MB w9 w.heap.size m:=(f9.block w.heap.size HS9.out.lt (by omega)).trans HS9.out
  clear k9 f9
  go_wp2_with fail
  refine hK.out _ _ hm9 (fun hHeld=>?_)
  clear hK K
  refine wpAnyH_done (by kernel_rfl) ?_ _
  clear hHeld
  have HEnd:Hid (OW w.heap.size w9 (.slice a7 wB.length c7) wB∧PK w9 g { P with wc:=(sy m.k P.wc P.wi P.wb).1,wi:=(sy m.k P.wc P.wi P.wb).2.1,wb:=(sy m.k P.wc P.wi P.wb).2.2 }∧Fm.Fr (fun k=>k≠g) w w9):=⟨OW.frame HO7.out hgl (frT (Fm.Fr.of_below (belowDrew w7 1)) HF9.out.2),HF9.out.1,frT (Fm.Fr.of_below HB7.out) (frT (Fm.Fr.of_below (belowDrew w7 1)) HF9.out.2)⟩
  clear HF9 hm9
  go_wp2
  go_ret2
  have hE:=HEnd.out
  clear HEnd
  first |(subst hWB; exact ⟨_,rfl,hE⟩) | exact ⟨_,rfl,hE⟩
set_option maxHeartbeats 2000000 in
set_option maxRecDepth 100000 in
theorem sayNo (w:World) (g:Nat) (P:Pv) (L:List Int) (h:PL w g P L) (hw:P.why = 0) (hkt:KT w) (hmt:Bs.MT w) (m:Mv) (D hb0:List UInt8) (hmm:MM w m D hb0) (hno:valE m≠0∨mayE L P m D = false) (hsh:sln m.h≤140737488351232) (hsd:sln m.d≤140737488351232) :
    Calls Tryz.prog 27 #[.pointer (some ⟨g,0,none⟩),.agg m.cs] w fun e w'=>e = .returned (.tuple #[.slice none 0 0,.int .i64 (if valE m = 0 then 175 else valE m)])∧Below w.heap.size w w':=by
  have bA:Below w.heap.size w (w.alloc (.cells m.cs 40)):=(Below.refl _ _).alloc (Nat.le_refl _) _
  have HB:=Lib.hid bA
  have hb:MB (w.alloc (.cells m.cs 40)) w.heap.size m:=heapNew w (.cells m.cs 40)
  have HS0:=Lib.hid hb
  have hi:=info_msg hmm.ok
  have HO:Hid (Calls Tryz.prog 39 #[.pointer (some ⟨g,0,none⟩)] (w.alloc (.cells m.cs 40)) fun e w'=>e = .returned (.int .i64 0)∧w' = w.alloc (.cells m.cs 40)):=by
    have h9:=openT (w.alloc (.cells m.cs 40)) g P (h.below bA).pk (by have:=h.b0; omega)
    rw [if_pos hw] at h9
    exact h9
  have HV:Hid (∀ u,Below w.heap.size w u→Calls Tryz.prog 48 #[.agg m.cs] u fun e w'=>e = .returned (.int .i64 (valE m))∧Below u.heap.size u w'):=fun u hu=>validT u m hmm.ok (hkt.below hu hkt.pos) hsh hsd
  by_cases hv:valE m = 0
  · rw [if_pos hv]
    rw [hv] at HV
    have hp:mayE L P m D = false:=hno.elim (fun h=>absurd hv h) id
    have hbd:=val_bd hv
    have HMy:Hid (∀ u,Below w.heap.size w u→Calls Tryz.prog 49 #[.pointer (some ⟨g,0,none⟩),.agg m.cs] u fun e w'=>e = .returned (.bool false)∧Below u.heap.size u w'):=fun u hu=>by
      have h9:=mayT u g P L (h.below hu) m hmm.ok D (hmm.d.keep hu) ⟨hbd.1,hbd.2.1,hbd.2.2.1,hbd.2.2.2,hmm.dl⟩ (hmt.keep hu)
      rw [hp] at h9
      exact h9
    clear h hkt hmt hmm hno hp hv bA hb hbd
    go_enter Tryz.func27,Tryz.ntmps27
    go_wp2_with fail
    refine HO.out.mono ?_
    rintro e w0 ⟨rfl,rfl⟩
    have hg0:=HS0.out
    go_wp2_with (first |(refine load_msg_if rfl _ rfl w.heap.size rfl m.cs hg0 hi ?_))
    refine (HV.out _ HB.out).mono ?_
    rintro e w1 ⟨rfl,b1⟩
    have HB1:=Lib.hid (HB.out.trans (b1.mono HB.out.size))
    have hg1:=HS0.out.below b1
    clear b1 hg0 HO HV
    go_wp2_with (first |(refine load_msg_if rfl _ rfl w.heap.size rfl m.cs hg1 hi ?_))
    refine (HMy.out _ HB1.out).mono ?_
    rintro e w2 ⟨rfl,b2⟩
    have HB2:=Lib.hid (HB1.out.trans (b2.mono HB1.out.size))
    clear b2 hg1 HMy
    go_wp2
    go_ret2
    exact ⟨rfl,HB2.out⟩
  · rw [if_neg hv]
    have hne:(valE m != 0) = true:=by simp [hv]
    generalize valE m = ve at *
    clear h hkt hmt hmm hno hv bA hb
    go_enter Tryz.func27,Tryz.ntmps27
    go_wp2_with fail
    refine HO.out.mono ?_
    rintro e w0 ⟨rfl,rfl⟩
    have hg0:=HS0.out
    go_wp2_with (first |(refine load_msg_if rfl _ rfl w.heap.size rfl m.cs hg0 hi ?_))
    refine (HV.out _ HB.out).mono ?_
    rintro e w1 ⟨rfl,b1⟩
    have HB1:=Lib.hid (HB.out.trans (b1.mono HB.out.size))
    clear b1 hg0 HO HV
    go_wp2
    go_ret2
    exact ⟨rfl,HB1.out⟩
end Go.Proofs.YtfjjpbebnoghmaaGreatDoor
