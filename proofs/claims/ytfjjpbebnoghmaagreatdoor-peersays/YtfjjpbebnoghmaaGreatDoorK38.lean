import Derived.Test.YtfjjpbebnoghmaaGreatDoorK00
import Derived.Test.YtfjjpbebnoghmaaGreatDoorK37
import Derived.Test.YtfjjpbebnoghmaaGreatDoorK33
import Derived.Test.YtfjjpbebnoghmaaGreatDoorK24
import Derived.Deep.Cut
import Derived.Deep.CutRange
import Derived.Test.YtfjjpbebnoghmaaGreatDoorK35
namespace Go.Proofs.YtfjjpbebnoghmaaGreatDoor
open Go.RowKit
def mk4:List UInt8:=[109,97,114,107]
theorem byt_left {D M:List UInt8} {i:Nat} (h:i < D.length):byt (D ++ M) i = byt D i:=by
  unfold byt
  simp [List.getD,List.getElem?_append_left h]
theorem byt_right {D M:List UInt8} {i:Nat}:byt (D ++ M) (D.length + i) = byt M i:=by
  unfold byt
  rw [List.getD_eq_getElem?_getD,List.getD_eq_getElem?_getD,List.getElem?_append_right (by omega),Nat.add_sub_cancel_left]
theorem OW.cutL {B:Nat} {w:World} {gi n vc:Nat} {D M:List UInt8} (h:OW B w (.slice (some ⟨gi,0,none⟩) n vc) (D ++ M)) :
    Fm.RN (fun k=>k = gi) w (.slice (some ⟨gi,0,none⟩) D.length vc) D∧RB w (.slice (some ⟨gi,D.length,none⟩) M.length (vc - D.length)) M∧D.length + M.length≤vc∧n = D.length + M.length:=by
  obtain ⟨a,c,e,hle,_⟩:=h.rb
  simp only [Value.slice.injEq] at e
  obtain ⟨_,rfl,rfl⟩:=e
  rw [List.length_append] at hle
  have hlt:=(own_ge h (k:=gi) rfl).2
  refine ⟨⟨_,_,rfl,by omega,.inr ⟨gi,0,rfl,rfl,hlt,fun i hi=>?_⟩⟩,⟨_,_,rfl,by omega,.inr ⟨gi,D.length,rfl,hlt,fun i hi=>?_⟩⟩,hle,List.length_append⟩
  · rw [Nat.zero_add,(OW.atP h i (by rw [List.length_append]; omega)).1,byt_left hi]
  · rw [(OW.atP h (D.length + i) (by rw [List.length_append]; omega)).1,byt_right]
theorem mk4_rb (w:World):RB (w.alloc (.cells #[.int .u8 109,.int .u8 97,.int .u8 114,.int .u8 107] 5)) (.slice (some ⟨w.heap.size,0,none⟩) 4 4) mk4:=by
  refine ⟨_,_,rfl,by decide,.inr ⟨w.heap.size,0,rfl,by simp,fun i hi=>?_⟩⟩
  have hg:=heapNew w (.cells #[.int .u8 109,.int .u8 97,.int .u8 114,.int .u8 107] 5)
  simp only [World.cell?,hg]
  have hi':i < 4:=hi
  match i,hi' with
  | 0,_ | 1,_ | 2,_ | 3,_=>rfl
set_option maxHeartbeats 2000000 in
set_option maxRecDepth 100000 in
theorem stepFeed (W w:World) (pv qv:Value) (Z Y:Nat→Prop) (n:Nat) (u:Oo) (hW:Below W.heap.size W w) (hWs:W.heap.size≤w.heap.size) (hz:∀ k,Z k∨Y k→W.heap.size≤k) (ru:RU W u) (bt:BT w pv qv Z Y n) (hn:n + u.D.length≤16777216) (hw1:1 < W.heap.size) (hk:u.k = 1) :
    Calls Tryz.prog 10 #[pv,qv,.agg u.cs] w fun e w'=>e = .returned (.bool true)∧SEnd w pv qv Z Y (n + u.D.length) w':=by
  have HBT:=Lib.hid bt
  have HRU:=Lib.hid ru
  have HWz:=Lib.hid (And.intro hW (And.intro hWs hz))
  have HN:=Lib.hid hn
  have HW1:=Lib.hid hw1
  have b0:Below w.heap.size w (w.alloc (.cells u.cs 43)):=(Below.refl _ _).alloc (Nat.le_refl _) _
  have HB0:=Lib.hid b0
  have hu:UB (w.alloc (.cells u.cs 43)) w.heap.size u:=heapNew w _
  have HU:=Lib.hid hu
  have c0:=hu.c0
  rw [hk] at c0
  have c2:=hu.c2
  have hd0:=(ru.keep hW).d.keep b0
  obtain ⟨oa,oc,hdv,_⟩:=id hd0
  rw [hdv] at c2 hd0
  have HD0:=Lib.hid hd0
  have HDV:=Lib.hid hdv
  have HO:Hid (OW (w.alloc (.cells u.cs 43)).heap.size (w.alloc (.cells u.cs 43)) (.slice none 0 0) []):=World.ownsRow_nil _ _ _ _
  have hlim:([]:List UInt8).length + u.D.length≤140737488351232:=by have:=ru.dl; simp; omega
  generalize hnd:u.D.length = nD at *
  have HND:=Lib.hid hnd
  clear hu b0 bt hk hW ru hz hd0 hdv hn hWs hnd hw1
  go_enter Tryz.func10,Tryz.ntmps10
  go_upto_region 5 with (first |(at_builtin; refine append_bytes rfl _ _ rfl rfl HO.out rfl HD0.out (Nat.le_refl _) (by rw [HND.out]; exact hlim) ?_; intro v1 w1 o1 b1; simp only [List.nil_append] at o1; obtain ⟨a1,k1,rfl⟩:=o1.form))
  have H1:Hid (OW (w.alloc (.cells u.cs 43)).heap.size w1 (.slice a1 u.D.length k1) u.D∧Below (w.alloc (.cells u.cs 43)).heap.size (w.alloc (.cells u.cs 43)) w1):=⟨o1,b1⟩
  rw [HND.out]
  clear o1 b1
  have hm4:=mk4_rb w1
  have b1a:Below w1.heap.size w1 (w1.alloc (.cells #[.int .u8 109,.int .u8 97,.int .u8 114,.int .u8 107] 5)):=(Below.refl _ _).alloc (Nat.le_refl _) _
  have HM4:=Lib.hid hm4
  have HO1:Hid (OW (w.alloc (.cells u.cs 43)).heap.size (w1.alloc (.cells #[.int .u8 109,.int .u8 97,.int .u8 114,.int .u8 107] 5)) (.slice a1 nD k1) u.D∧(w.alloc (.cells u.cs 43)).heap.size≤(w1.alloc (.cells #[.int .u8 109,.int .u8 97,.int .u8 114,.int .u8 107] 5)).heap.size∧u.D.length + mk4.length≤140737488351232):=by
    have h1:=H1.out.1.grow b1a
    rw [HND.out] at h1
    exact ⟨h1,Nat.le_trans H1.out.2.size b1a.size,by have:=HRU.out.dl; show u.D.length + 4≤_; omega⟩
  have HB1:Hid (Below (w.alloc (.cells u.cs 43)).heap.size (w.alloc (.cells u.cs 43)) (w1.alloc (.cells #[.int .u8 109,.int .u8 97,.int .u8 114,.int .u8 107] 5))):=H1.out.2.trans (b1a.mono H1.out.2.size)
  clear hm4 b1a c2
  go_upto_region 6 with (first |(at_builtin; refine append_bytes rfl _ _ rfl rfl HO1.out.1 rfl HM4.out HO1.out.2.1 HO1.out.2.2 ?_; intro v2 w2 o2 b2))
  obtain ⟨gi,k2,rfl⟩:∃ gi k2,v2 = .slice (some ⟨gi,0,none⟩) (u.D ++ mk4).length k2:=by
    rcases o2.2 with ⟨_,h0⟩ | ⟨gi,cap,cur,e,_⟩
    · rw [List.length_append] at h0
      have:mk4.length = 4:=rfl
      omega
    · exact ⟨gi,cap,e⟩
  have hlen:(u.D ++ mk4).length = nD + 4:=by rw [List.length_append,HND.out]; rfl
  rw [hlen] at o2 ⊢
  obtain ⟨rn2,rb2,hk2, -⟩:=OW.cutL o2
  rw [HND.out] at rn2 rb2 hk2
  have hgi:=own_ge o2 (k:=gi) rfl
  have b02:Below (w.alloc (.cells u.cs 43)).heap.size (w.alloc (.cells u.cs 43)) w2:=HB1.out.trans b2
  have bw2:Below w.heap.size w w2:=HB0.out.trans (b02.mono HB0.out.size)
  have hs0:w.heap.size < (w.alloc (.cells u.cs 43)).heap.size:=by simp
  have nz:∀ k,w.heap.size≤k→¬ Z k∧¬ Y k:=fun k hk=>⟨fun h=>by have:=(HBT.out.bd k (.inl h)).2; omega,fun h=>by have:=(HBT.out.bd k (.inr h)).2; omega⟩
  have HNZ:=Lib.hid nz
  have HK2:Hid (nD + 4≤k2):=hk2
  have H2:Hid (OW (w.alloc (.cells u.cs 43)).heap.size w2 (.slice (some ⟨gi,0,none⟩) (nD + 4) k2) (u.D ++ mk4)∧Below w.heap.size w w2∧UB w2 w.heap.size u∧w.heap.size < gi∧gi < w2.heap.size):=⟨o2,bw2,HU.out.below b02,by omega,hgi.2⟩
  have HF:=Lib.hid ((HBT.out.below bw2).feed (.slice (some ⟨gi,0,none⟩) nD k2) u.D (rn2.move (T:=fun k=>¬ Z k) (fun k hk=>by rw [hk]; exact (nz gi (by omega)).1) (fun _ _ _ _=>rfl)) (by rw [HND.out]; exact HN.out))
  have c2:=H2.out.2.2.1.c2
  rw [HDV.out] at c2
  have hle2:¬ k2 < nD:=by omega
  clear o2 b2 rn2 rb2 hk2 hgi b02 bw2 hs0 nz hlen HB1 HO1 HM4 H1 HO
  go_wp2_with fail
  refine HF.out.mono ?_
  rintro e w3 ⟨ev,fin,es,rfl,ev3,nd3,el3,f3,hsec⟩
  obtain ⟨ea,ec,rfl⟩:=ev3.form
  have bW3:Below W.heap.size W w3:=by
    have h1:=HWz.out.1.trans (H2.out.2.1.mono HWz.out.2.1)
    exact below_fr h1 f3 h1.size (fun k hk h=>by have:=HWz.out.2.2 k (.inl h); omega)
  have hu3:UB w3 w.heap.size u:=H2.out.2.2.1.keep (f3.block _ H2.out.2.2.1.lt (HNZ.out _ (Nat.le_refl _)).1)
  have c23:=hu3.c2
  rw [HDV.out] at c23
  have hrb3:=(HRU.out.keep bW3).d
  rw [HDV.out] at hrb3
  have HRF:=Lib.hid (hsec _ hrb3)
  have H3:Hid (Below W.heap.size W w3∧UB w3 w.heap.size u∧EVS w2.heap.size w3 (.slice ea es.length ec) es∧(es.filterMap (fun e=>e.x.m.d.ownBlock)).Nodup∧es.length≤107374182∧OW (w.alloc (.cells u.cs 43)).heap.size w3 (.slice (some ⟨gi,0,none⟩) (nD + 4) k2) (u.D ++ mk4)∧w2.heap.size≤w3.heap.size∧Fm.Fr (fun k=>¬ Z k∧¬ Y k) w w3):=⟨bW3,hu3,ev3,nd3,el3,H2.out.1.frS f3 (fun k hk=>by
      simp [Value.ownBlock] at hk
      subst hk
      exact (HNZ.out _ (Nat.le_of_lt H2.out.2.2.2.1)).1),f3.size,(Fm.Fr.of_below H2.out.2.1).trans (f3.mono (fun k _ (h:¬ Z k∧¬ Y k)=>h.1)) (fun _ _ x=>x)⟩
  clear bW3 hu3 hrb3 hsec ev3 nd3 el3 f3 HF c2
  go_wp2_with fail
  refine HRF.out.mono ?_
  rintro e w4 ⟨kv,ys,rfl,ev4,heq,f4,bt4⟩
  obtain ⟨ya,yc,rfl⟩:=ev4.form
  have bW4:Below W.heap.size W w4:=below_fr H3.out.1 f4 H3.out.1.size (fun k hk h=>by have:=HWz.out.2.2 k (.inr h); omega)
  have hu4:UB w4 w.heap.size u:=H3.out.2.1.keep (f4.block _ H3.out.2.1.lt (HNZ.out _ (Nat.le_refl _)).2)
  have in4:OW (w.alloc (.cells u.cs 43)).heap.size w4 (.slice (some ⟨gi,0,none⟩) (nD + 4) k2) (u.D ++ mk4):=H3.out.2.2.2.2.2.1.frS f4 (fun k hk=>by
    simp [Value.ownBlock] at hk
    subst hk
    exact (HNZ.out _ (Nat.le_of_lt H2.out.2.2.2.1)).2)
  have ev34:EVS w2.heap.size w4 (.slice ea es.length ec) es:=H3.out.2.2.1.frS f4 (fun k hk=>(HNZ.out k (by have:=(eb_tag H3.out.2.2.1 hk).1; have:=H2.out.2.1.size; omega)).2)
  have HC2:Hid (∀ x,Below w4.heap.size w4 x→x.cell? ⟨w.heap.size,2,none⟩ = some (.slice oa nD oc)):=fun x hx=>by
    have:=(hu4.below hx).c2
    rw [HDV.out] at this
    exact this
  obtain ⟨rn4,rb4, -, -⟩:=OW.cutL in4
  rw [HND.out] at rn4 rb4
  have HCV:Hid (∀ x,Below w4.heap.size w4 x→(convert 37 9 (.slice (some ⟨gi,nD,none⟩) 4 (k2 - nD))).run Tryz.prog x = .ok (.string ⟨mk4.toArray⟩) x):=fun x hx=>Fm.conv_rb (rb4.keep hx)
  have hdr:=(HRU.out.keep bW4).d
  rw [HDV.out] at hdr
  have HSA:Hid (∀ x,Below w4.heap.size w4 x→Calls Tryz.prog 23 #[.slice (some ⟨gi,0,none⟩) nD k2,.slice oa nD oc] x fun e w'=>e = .returned (.bool true)∧∃ n,w' = x.drewN n):=fun x hx=>same _ _ u.D x (by have:=HRU.out.dl; omega) (rn4.rb.keep hx) (hdr.keep hx)
  have HES:Hid (Calls Tryz.prog 22 #[.slice ea es.length ec,.slice ya ys.length yc] (w4.drewN 1) fun e w'=>e = .returned (.bool true)∧Below (w4.drewN 1).heap.size (w4.drewN 1) w'):=eventsSameT _ w2.heap.size w3.heap.size _ _ es ys (ev34.fr (fun _ _ _=>rfl)) (ev4.fr (fun _ _ _=>rfl)) heq H3.out.2.2.2.2.1
  have H4:Hid (UB w4 w.heap.size u∧OW (w.alloc (.cells u.cs 43)).heap.size w4 (.slice (some ⟨gi,0,none⟩) (nD + 4) k2) (u.D ++ mk4)∧EVS w2.heap.size w4 (.slice ea es.length ec) es∧BT w4 pv qv (fun k=>Z k∨(w2.heap.size≤k∧k < w3.heap.size∧¬ eb (.slice ea es.length ec) es k)) (fun k=>Y k∨(w3.heap.size≤k∧k < w4.heap.size)) (n + nD)∧Fm.Fr (fun k=>¬ Z k∧¬ Y k) w w4):=⟨hu4,in4,ev34,by have h9:=bt4; rw [HND.out] at h9; exact h9,H3.out.2.2.2.2.2.2.2.trans (f4.mono (fun k _ (h:¬ Z k∧¬ Y k)=>h.2)) (fun _ _ x=>x)⟩
  clear bW4 hu4 in4 ev34 rn4 rb4 hdr ev4 heq f4 bt4 HRF c23
  go_upto_region 8 with fail
  refine wp_region_held_drew (S:=fun x=>Below w4.heap.size w4 x) (by kernel_rfl) (belowDrew w4 1) (fun hHeld=>?_)
  refine tkB (i:=0) (v:=.int .i64 fin) rfl hHeld ?_
  simp only [Act.put,zq1,zq2,zq4,zq5,zq6]
  refine tkB (i:=1) (v:=.int .i64 fin) rfl hHeld ?_
  simp only [Act.put,zq1,zq2,zq3,zq4,zq5,zq6]
  refine tkB (i:=2) (v:=.bool true) rfl hHeld ?_
  simp only [Act.put,zq1,zq2,zq3,zq4,zq5,zq6]
  refine tkB (i:=3) (v:=.bool true) rfl hHeld ?_
  simp only [Act.put,zq1,zq2,zq3,zq4,zq5,zq6]
  refine tkB (i:=4) (v:=.slice ea es.length ec) rfl hHeld ?_
  simp only [Act.put,zq1,zq2,zq3,zq4,zq5,zq6]
  refine tkB (i:=5) (v:=.slice ya ys.length yc) rfl hHeld ?_
  simp only [Act.put,zq1,zq2,zq3,zq4,zq5,zq6]
  refine wpAnyH_ready (rs:=[6]) (by kernel_rfl) (by simp) ?_
  refine AllReadyH.cons (o:=_) rfl (fun K hK=>?_) AllReadyH.nil
  go_simp
  refine (HES.out).mono ?_
  rintro e w5 ⟨rfl,b5⟩
  have b45:=Lib.hid ((belowDrew w4 1).trans b5)
  clear b5
  go_wp2_with fail
  refine hK.out _ _ (b45.out) (fun hHeld=>?_)
  clear hK K
  refine tkB (i:=7) (v:=.bool true) rfl hHeld ?_
  simp only [Act.put,zq1,zq2,zq3,zq4,zq5,zq6]
  refine tkB (i:=8) (v:=.bool true) rfl hHeld ?_
  simp only [Act.put,zq1,zq2,zq3,zq4,zq5,zq6]
  refine tkB (i:=9) (v:=.slice (some ⟨gi,0,none⟩) (nD + 4) k2) rfl hHeld ?_
  simp only [Act.put,zq1,zq2,zq3,zq4,zq5,zq6]
  refine tkB (i:=10) (v:=.pointer (some ⟨w.heap.size,2,none⟩)) rfl hHeld ?_
  simp only [Act.put,zq1,zq2,zq3,zq4,zq5,zq6]
  refine tkA (i:=11) (v:=.slice oa nD oc) rfl (Or.inl ⟨by rfl,fun w hw=>by have hq:=HC2.out w hw; go_simp⟩) hHeld ?_
  simp only [Act.put,zq1,zq2,zq3,zq4,zq5,zq6]
  refine tkB (i:=12) (v:=.int .i64 nD) rfl hHeld ?_
  simp only [Act.put,zq1,zq2,zq3,zq4,zq5,zq6]
  refine tkA (i:=13) (v:=.slice (some ⟨gi,0,none⟩) nD k2) rfl (Or.inl ⟨by rfl,fun w hw=>by have hq1:(k2 < nD) = False:=eq_false (by have:=HK2.out; omega); have hq2:=HK2.out; go_simp⟩) hHeld ?_
  simp only [Act.put,zq1,zq2,zq3,zq4,zq5,zq6]
  refine tkB (i:=14) (v:=.pointer (some ⟨w.heap.size,2,none⟩)) rfl hHeld ?_
  simp only [Act.put,zq1,zq2,zq3,zq4,zq5,zq6]
  refine tkA (i:=15) (v:=.slice oa nD oc) rfl (Or.inl ⟨by rfl,fun w hw=>by have hq:=HC2.out w hw; go_simp⟩) hHeld ?_
  simp only [Act.put,zq1,zq2,zq3,zq4,zq5,zq6]
  refine wpAnyH_ready (rs:=[16]) (by kernel_rfl) (by simp) ?_
  refine AllReadyH.cons (o:=_) rfl (fun K hK=>?_) AllReadyH.nil
  go_simp
  refine (HSA.out w5 b45.out).mono ?_
  rintro e w6 ⟨rfl,nq,rfl⟩
  have b46:=Lib.hid (b45.out.trans ((belowDrew w5 nq).mono b45.out.size))
  go_wp2_with fail
  refine hK.out _ _ (b46.out) (fun hHeld=>?_)
  clear hK K
  refine tkB (i:=17) (v:=.bool true) rfl hHeld ?_
  simp only [Act.put,zq1,zq2,zq3,zq4,zq5,zq6]
  refine tkB (i:=18) (v:=.bool true) rfl hHeld ?_
  simp only [Act.put,zq1,zq2,zq3,zq4,zq5,zq6]
  refine tkB (i:=19) (v:=.slice (some ⟨gi,0,none⟩) (nD + 4) k2) rfl hHeld ?_
  simp only [Act.put,zq1,zq2,zq3,zq4,zq5,zq6]
  refine tkB (i:=20) (v:=.pointer (some ⟨w.heap.size,2,none⟩)) rfl hHeld ?_
  simp only [Act.put,zq1,zq2,zq3,zq4,zq5,zq6]
  refine tkA (i:=21) (v:=.slice oa nD oc) rfl (Or.inl ⟨by rfl,fun w hw=>by have hq:=HC2.out w hw; go_simp⟩) hHeld ?_
  simp only [Act.put,zq1,zq2,zq3,zq4,zq5,zq6]
  refine tkB (i:=22) (v:=.int .i64 nD) rfl hHeld ?_
  simp only [Act.put,zq1,zq2,zq3,zq4,zq5,zq6]
  refine tkA (i:=23) (v:=.slice (some ⟨gi,nD,none⟩) 4 (k2 - nD)) rfl (Or.inl ⟨by rfl,fun w hw=>by have hq1:(k2 < nD) = False:=eq_false (by have:=HK2.out; omega); have hq3:(k2 = nD) = False:=eq_false (by have:=HK2.out; omega); have hq4:(nD + 4 < nD) = False:=eq_false (by omega); have hq5:nD + 4 - nD = 4:=(by omega); go_simp; intro hh; omega⟩) hHeld ?_
  simp only [Act.put,zq1,zq2,zq3,zq4,zq5,zq6]
  refine tkA (i:=24) (v:=.string ⟨mk4.toArray⟩) rfl (Or.inl ⟨by rfl,fun w hw=>by have hq:=HCV.out w hw; go_simp⟩) hHeld ?_
  simp only [Act.put,zq1,zq2,zq3,zq4,zq5,zq6]
  refine tkA (i:=25) (v:=.bool true) rfl (Or.inl ⟨by rfl,fun w hw=>by have hq:(mk4 == [109,97,114,107]) = true:=(by decide); go_simp⟩) hHeld ?_
  simp only [Act.put,zq1,zq2,zq3,zq4,zq5,zq6]
  refine tkB (i:=26) (v:=.bool true) rfl hHeld ?_
  simp only [Act.put,zq1,zq2,zq3,zq4,zq5,zq6]
  refine tkB (i:=27) (v:=.bool true) rfl hHeld ?_
  simp only [Act.put,zq1,zq2,zq3,zq4,zq5,zq6]
  refine wpAnyH_done (by kernel_rfl) ?_ _
  clear hHeld
  clear HES HSA HCV HC2
  have b46d:Below w4.heap.size w4 (w5.drewN nq):=b46.out
  have in6:OW (w.alloc (.cells u.cs 43)).heap.size (w5.drewN nq) (.slice (some ⟨gi,0,none⟩) (nD + 4) k2) (u.D ++ mk4):=H4.out.2.1.grow b46d
  have HSp:=Lib.hid (spoilBytesT (w5.drewN nq) _ _ _ in6 (by have:=HRU.out.dl; rw [List.length_append]; have:mk4.length = 4:=rfl; omega))
  have ev6:EVS w2.heap.size (w5.drewN nq) (.slice ea es.length ec) es:=H4.out.2.2.1.fr (fun k _ hk=>b46d.block k hk)
  have HV6:=Lib.hid ev6
  have HB6:=Lib.hid b46d
  clear b46d in6 ev6 b45 b46
  generalize w5.drewN nq = w6 at *
  go_wp2_with fail
  refine HSp.out.mono ?_
  rintro e w7 ⟨rfl, -,f7⟩
  have f7':Fm.Fr (fun k=>k≠gi) w6 w7:=f7.mono (fun k _ hk e=>hk (by simp [Value.ownBlock] at e; exact e.symm))
  have ev7:EVS w2.heap.size w7 (.slice ea es.length ec) es:=HV6.out.frS f7' (fun k hk e=>by have:=(eb_tag HV6.out hk).1; have:=H2.out.2.2.2.2; omega)
  have HSe:=Lib.hid (spoilEventsT w7 w2.heap.size _ es ev7 H3.out.2.2.2.1 H3.out.2.2.2.2.1)
  have HF7:=Lib.hid f7'
  have HV7:=Lib.hid ev7
  clear f7 f7' ev7 HSp
  go_wp2_with fail
  refine HSe.out.mono ?_
  rintro e w8 ⟨rfl,f8⟩
  have HE:Hid (SEnd w pv qv Z Y (n + nD) w8):=by
    have hgi:=H2.out.2.2.2
    have hbd:=HBT.out.bd
    have hs2:=H2.out.2.1.size
    have hw1:=HW1.out
    have hws:=HWz.out.2.1
    have f48:Fm.Fr (fun k=>k≠gi∧¬ eb (.slice ea es.length ec) es k) w4 w8:=((Fm.Fr.of_below (S:=fun k=>k≠gi∧¬ eb (.slice ea es.length ec) es k) HB6.out).trans (HF7.out.mono (fun k _ (h:k≠gi∧¬ eb (.slice ea es.length ec) es k)=>h.1)) (fun _ _ x=>x)).trans (f8.mono (fun k _ (h:k≠gi∧¬ eb (.slice ea es.length ec) es k)=>h.2)) (fun _ _ x=>x)
    have ebl:∀ k,eb (.slice ea es.length ec) es k→w2.heap.size≤k∧k < w3.heap.size:=fun k hk=>⟨(eb_tag H3.out.2.2.1 hk).1,(eb_tag H3.out.2.2.1 hk).2.1⟩
    refine ⟨_,_,H4.out.2.2.2.1.fr f48 (fun k hk=>?_) (fun k hk=>?_) ⟨by omega,fun h=>?_⟩ ⟨?_,fun h=>?_⟩,?_,fun k hk=>?_⟩
    · rcases hk with hk | ⟨h1,h2,h3⟩
      · have h1:=(hbd k (.inl hk)).2
        exact ⟨by omega,fun h=>by have:=(ebl k h).1; omega⟩
      · exact ⟨by omega,h3⟩
    · rcases hk with hk | ⟨h1,h2⟩
      · have h1:=(hbd k (.inr hk)).2
        exact ⟨by omega,fun h=>by have:=(ebl k h).1; omega⟩
      · have:=H3.out.2.2.2.2.2.2.1
        exact ⟨by omega,fun h=>by have:=(ebl k h).2; omega⟩
    · have:=(ebl 0 h).1
      omega
    · have:=HW1.out
      omega
    · have:=(ebl 1 h).1
      have:=HW1.out
      omega
    · exact ⟨f48.os.trans H4.out.2.2.2.2.os,f48.tape.trans H4.out.2.2.2.2.tape,f48.output.trans H4.out.2.2.2.2.output,Nat.le_trans H4.out.2.2.2.2.size f48.size,fun k hk hT=>(f48.block k (Nat.lt_of_lt_of_le hk H4.out.2.2.2.2.size) ⟨by omega,fun h=>by have:=(ebl k h).1; omega⟩).trans (H4.out.2.2.2.2.block k hk hT)⟩
    · rcases hk with (hk | ⟨h1,_⟩) |(hk | ⟨h1,_⟩)
      · exact .inl (.inl hk)
      · exact .inr (by omega)
      · exact .inl (.inr hk)
      · have:=H3.out.2.2.2.2.2.2.1
        exact .inr (by omega)
  clear f8 HSe
  go_wp2
  go_ret
  exact ⟨rfl,HE.out⟩
theorem stepT (W w:World) (pv qv:Value) (Z Y:Nat→Prop) (n:Nat) (u:Oo) (hW:Below W.heap.size W w) (hz:∀ k,Z k∨Y k→W.heap.size≤k) (ru:RU W u) (bt:BT w pv qv Z Y n) (hn:n + u.D.length≤16777216) (hw1:1 < W.heap.size) :
    Calls Tryz.prog 10 #[pv,qv,.agg u.cs] w fun e w'=>e = .returned (.bool true)∧SEnd w pv qv Z Y (n + u.D.length) w':=by
  by_cases k1:u.k = 1
  · exact stepFeed W w pv qv Z Y n u hW hW.size hz ru bt hn hw1 k1
  by_cases k2:u.k = 2
  · exact stepSay W w pv qv Z Y n u hW hW.size hz ru bt k2
  by_cases k3:u.k = 3
  · exact stepState w pv qv Z Y n u bt k3
  by_cases k4:u.k = 4
  · exact stepGreet W w pv qv Z Y n u ru bt k4
  · exact stepNone w pv qv Z Y n u bt k1 k2 k3 k4
theorem BT.new {w1 w2 w3:World} {b v:Int} {h1:List UInt8} {L:List Int} {p q:Value} (hn:NewE w1 w2 b h1 L p) (hr:RNew w2 w3 b v h1 L q) (b12:Below w1.heap.size w1 w2) (b23:Below w2.heap.size w2 w3) (h:1 < w1.heap.size) :
    BT w3 p q (fun k=>w1.heap.size≤k∧k < w2.heap.size) (fun k=>w2.heap.size≤k∧k < w3.heap.size) 0:=by
  have s12:=b12.size
  have s23:=b23.size
  obtain ⟨g,R,P,rfl,hg,fp,i1,i2,i3,i4,i5,i6,i7,i8,i9,hzl,hzh⟩:=hn
  obtain ⟨G,S,lv,hv,rfl,hG,hGS,rq,ol,lj,rf,oh⟩:=hr
  have hgR:=fp.gR
  have hRl:R < w2.heap.size:=fp.rk.lt
  have hSl:S < w3.heap.size:=rf.lt
  have fp3:=fp.below b23
  have hinf:(h1.take 20).length = 20:=by rw [← i1]; exact fp.pk.1
  have nob:∀ k,(Value.slice none 0 0).ownBlock≠some k:=nd
  have ol0:Bs.OZ 0 w3 lv L:=own0 ol
  have oh0:OW 0 w3 hv (List.replicate ((L.length + 7) / 8) 0):=own0 oh
  have qp:QP w3 G S ⟨b,v,h1.take 20,lv,.pointer (some ⟨S,0,none⟩),false,false,0,true,false,true,false,hv,false,false⟩ L (List.replicate ((L.length + 7) / 8) 0) [] (.slice none 0 0):=by
    refine ⟨rq,rfl,rfl,hGS,by rw [← i2]; exact fp.b0,by rw [← i2]; exact fp.b1,fp.lok,ol0,fun k hk=>?_,oh0,fun k hk=>?_,fp.hl,rf,World.ownsRow_nil _ _ _ _,fun _=>rfl⟩
    · have:=lj k hk
      exact ⟨by omega,by omega,nob k⟩
    · have:=(own_ge oh hk).1
      exact ⟨by omega,by omega,nob k⟩
  refine ⟨fun k hk=>by rcases hk with hk | hk <;> omega,fun k hz hy=>by omega,.inr ⟨g,R,P,G,S,_,_,rfl,rfl,⟨fp3.pk,⟨hg,by omega⟩,fp3.b0,fp3.ho,fun k hk=>⟨hzh k hk,(own_ge fp.ho hk).2⟩,fp3.hl,rq,⟨hG,rq.lt⟩,oh0,fun k hk=>?_,i3.symm,by rw [fp.why]; rfl,fp.why.symm,i4.symm,i5.symm,i7.symm,i8.symm,i1.symm,fun _=>⟨L,2,0, [],.slice none 0 0, [],.slice none 0 0, [], [],fp3,qp,Fm.Rd.few [] rfl (by simp),Nat.zero_le _,i9.symm,i6.symm,i2.symm,⟨by omega,hRl⟩,fun k hk=>⟨hzl k hk,(own_ge fp.lo hk).2⟩,fun k hk=>absurd hk (nob k),⟨by omega,hSl⟩,fun k hk=>?_,fun k hk=>absurd hk (nob k)⟩⟩⟩⟩
  · have:=own_ge oh hk
    exact ⟨by omega,this.2⟩
  · have:=lj k hk
    have:=(own_ge ol hk).2
    exact ⟨by omega,this⟩
theorem BT.none (w:World):BT w (.pointer none) (.pointer none) (fun _=>False) (fun _=>False) 0:=⟨fun k hk=>by rcases hk with h | h <;> exact h.elim,fun _ h=>h.elim,.inl ⟨rfl,rfl⟩⟩
structure P2 (w:World) (p q r s:Value) (m:Nat) (wr:World) (Z1 Y1 Z2 Y2:Nat→Prop) (n1 n2:Nat):Prop where
  t1:BT wr p q Z1 Y1 n1
  t2:BT wr r s Z2 Y2 n2
  dj:∀ k,Z1 k∨Y1 k→¬ (Z2 k∨Y2 k)
  nw:∀ k,(Z1 k∨Y1 k)∨(Z2 k∨Y2 k)→w.heap.size≤k
  bl:Below w.heap.size w wr
  n1:n1≤m
  n2:n2≤m
def P2E (w:World) (p q r s:Value) (m:Nat) (wr:World):Prop:=∃ Z1 Y1 Z2 Y2 n1 n2,P2 w p q r s m wr Z1 Y1 Z2 Y2 n1 n2
theorem P2E.below {w wr w':World} {p q r s:Value} {m:Nat} (h:P2E w p q r s m wr) (hb:Below wr.heap.size wr w'):P2E w p q r s m w':=by
  obtain ⟨Z1,Y1,Z2,Y2,n1,n2,h⟩:=h
  exact ⟨Z1,Y1,Z2,Y2,n1,n2,h.t1.below hb,h.t2.below hb,h.dj,h.nw,h.bl.trans (hb.mono h.bl.size),h.n1,h.n2⟩
theorem P2E.step1 {w wr:World} {p q r s:Value} {m d:Nat} (h:P2E w p q r s m wr) (u:Oo) (ru:RU w u) (hd:m + u.D.length≤d) (hm:d≤16777216) (hw1:1 < w.heap.size) :
    Calls Tryz.prog 10 #[p,q,.agg u.cs] wr fun e w'=>e = .returned (.bool true)∧P2E w p q r s d w':=by
  obtain ⟨Z1,Y1,Z2,Y2,n1,n2,h⟩:=h
  have h1:=h.n1
  have h2:=h.n2
  refine (stepT w wr p q Z1 Y1 n1 u h.bl (fun k hk=>h.nw k (.inl hk)) ru h.t1 (by omega) hw1).mono ?_
  rintro e w' ⟨rfl,Z,Y,t,f,hk⟩
  refine ⟨rfl,Z,Y,Z2,Y2,n1 + u.D.length,n2,t,h.t2.fr f (fun k hz=>⟨fun x=>h.dj k (.inl x) (.inl hz),fun x=>h.dj k (.inr x) (.inl hz)⟩) (fun k hy=>⟨fun x=>h.dj k (.inl x) (.inr hy),fun x=>h.dj k (.inr x) (.inr hy)⟩) ⟨fun x=>by have:=(h.t1.bd 0 (.inl x)).1; omega,fun x=>by have:=(h.t1.bd 0 (.inr x)).1; omega⟩ ⟨fun x=>by have:=(h.t1.bd 1 (.inl x)).1; omega,fun x=>by have:=(h.t1.bd 1 (.inr x)).1; omega⟩,fun k hk1 hk2=>?_,fun k hk1=>?_,below_fr h.bl f h.bl.size (fun k hlt=>⟨fun x=>by have:=h.nw k (.inl (.inl x)); omega,fun x=>by have:=h.nw k (.inl (.inr x)); omega⟩),by omega,by omega⟩
  · rcases hk k hk1 with h3 | h3
    · exact h.dj k h3 hk2
    · have:=(h.t2.bd k hk2).2
      omega
  · rcases hk1 with hk1 | hk1
    · rcases hk k hk1 with h3 | h3
      · exact h.nw k (.inl h3)
      · have:=h.bl.size
        omega
    · exact h.nw k (.inr hk1)
theorem P2E.swap {w wr:World} {p q r s:Value} {m:Nat} (h:P2E w p q r s m wr):P2E w r s p q m wr:=by
  obtain ⟨Z1,Y1,Z2,Y2,n1,n2,h⟩:=h
  exact ⟨Z2,Y2,Z1,Y1,n2,n1,h.t2,h.t1,fun k a b=>h.dj k b a,fun k hk=>h.nw k hk.symm,h.bl,h.n2,h.n1⟩
theorem P2E.step2 {w wr:World} {p q r s:Value} {m d:Nat} (h:P2E w p q r s m wr) (u:Oo) (ru:RU w u) (hd:m + u.D.length≤d) (hm:d≤16777216) (hw1:1 < w.heap.size) :
    Calls Tryz.prog 10 #[r,s,.agg u.cs] wr fun e w'=>e = .returned (.bool true)∧P2E w p q r s d w':=by
  refine (h.swap.step1 u ru hd hm hw1).mono ?_
  rintro e w' ⟨rfl,h⟩
  exact ⟨rfl,h.swap⟩
theorem OZ_mono {B B':Nat} {w:World} {v:Value} {l:List Int} (h:Bs.OZ B w v l) (hb:B'≤B):Bs.OZ B' w v l:=by
  refine ⟨h.1,?_⟩
  rcases h.2 with h1 | ⟨g,cap,cur,h1,h2,h3⟩
  · exact .inl h1
  · exact .inr ⟨g,cap,cur,h1,Nat.le_trans hb h2,h3⟩
theorem iz_set (zs:List Int) (k j:Nat) (y:Int) (h:j≠k):Bs.iz (zs.set k y) j = Bs.iz zs j:=by
  unfold Bs.iz
  simp [List.getD,Ne.symm h]
structure IL (w:World) (L:List Int) (k:Nat) (a:Option Addr) (c:Nat) (p q r s:Value) (u:World):Prop where
  own:∃ zs,Bs.OZ w.heap.size u (.slice a L.length c) zs∧∀ j,k≤j→Bs.iz zs j = Bs.iz L j
  one:1 < w.heap.size
  p2:∃ Z1 Y1 Z2 Y2 n1 n2,P2 w p q r s 0 u Z1 Y1 Z2 Y2 n1 n2∧∀ g,a = some ⟨g,0,none⟩→¬ (Z1 g∨Y1 g)∧¬ (Z2 g∨Y2 g)
theorem IL.bel {w:World} {L:List Int} {k:Nat} {a:Option Addr} {c:Nat} {p q r s:Value} {u:World} (h:IL w L k a c p q r s u):Below w.heap.size w u:=by
  obtain ⟨_,_,_,_,_,_,h,_⟩:=h.p2
  exact h.bl
theorem IL.p2e {w:World} {L:List Int} {k:Nat} {a:Option Addr} {c:Nat} {p q r s:Value} {u:World} (h:IL w L k a c p q r s u):P2E w p q r s 0 u:=by
  obtain ⟨Z1,Y1,Z2,Y2,n1,n2,h,_⟩:=h.p2
  exact ⟨Z1,Y1,Z2,Y2,n1,n2,h⟩
theorem IL.at {w:World} {L:List Int} {k:Nat} {a:Option Addr} {c:Nat} {p q r s:Value} {u:World} (h:IL w L k a c p q r s u) (hk:k < L.length) :
    ∃ g,a = some ⟨g,0,none⟩∧w.heap.size≤g∧u.cell? ⟨g,k,none⟩ = some (.int .i64 (Bs.iz L k))∧u.frozen? ⟨g,k,none⟩ = false∧∀ n,IL w L (k + 1) a c p q r s ((u.drewN n).setCell ⟨g,k,none⟩ (.int .i64 1)):=by
  obtain ⟨⟨zs,ho,he⟩,h1,Z1,Y1,Z2,Y2,n1,n2,hp,hd⟩:=h
  obtain ⟨g,rfl,hg,_,hc,hf⟩:=ho.at k hk
  refine ⟨g,rfl,hg,by rw [hc,he k (Nat.le_refl _)],hf,fun n=>⟨⟨zs.set k 1,(ho.grow (belowDrew u n)).stored k 1,fun j hj=>?_⟩,h1,Z1,Y1,Z2,Y2,n1,n2,?_,hd⟩⟩
  · rw [iz_set _ _ _ _ (by omega)]
    exact he j (by omega)
  · have f:Fm.Fr (fun k=>k≠g) u ((u.drewN n).setCell ⟨g,k,none⟩ (.int .i64 1)):=(Fm.Fr.of_below (belowDrew u n)).setCell g k _ (fun e=>e rfl)
    obtain ⟨d1,d2⟩:=hd g rfl
    exact ⟨hp.t1.fr f (fun k hk e=>d1 (.inl (by rw [← e]; exact hk))) (fun k hk e=>d1 (.inr (by rw [← e]; exact hk))) (by omega) (by omega),hp.t2.fr f (fun k hk e=>d2 (.inl (by rw [← e]; exact hk))) (fun k hk e=>d2 (.inr (by rw [← e]; exact hk))) (by omega) (by omega),hp.dj,hp.nw,(belowN hp.bl n).setCell (p:=⟨g,k,none⟩) hg _,hp.n1,hp.n2⟩
structure SP (w:World) (b v:Int) (h1 h2:List UInt8) (u:World):Prop where
  bel:Below w.heap.size w u
  s:u.heap[w.heap.size]? = some (.cells #[.int .i64 b,.int .i64 v] 23 (0,0))
  i:u.heap[w.heap.size + 1]? = some (.cells (bc h1) 25 (0,0))
  j:u.heap[w.heap.size + 2]? = some (.cells (bc h2) 25 (0,0))
  sz:w.heap.size + 3≤u.heap.size
theorem SP.next {w:World} {b v:Int} {h1 h2:List UInt8} {u u':World} (h:SP w b v h1 h2 u) (hb:Below (w.heap.size + 3) u u'):SP w b v h1 h2 u':=
  ⟨h.bel.trans (hb.mono (by omega)),(hb.block w.heap.size (by omega)).trans h.s,(hb.block (w.heap.size + 1) (by omega)).trans h.i,(hb.block (w.heap.size + 2) (by omega)).trans h.j,Nat.le_trans h.sz hb.size⟩
theorem SP.cells {w:World} {b v:Int} {h1 h2:List UInt8} {u:World} (h:SP w b v h1 h2 u):u.cell? ⟨w.heap.size,0,none⟩ = some (.int .i64 b)∧u.cell? ⟨w.heap.size,1,none⟩ = some (.int .i64 v):=by
  have h1:=h.s
  exact ⟨by simp [World.cell?,h1],by simp [World.cell?,h1]⟩
theorem SP.start (b v:Int) (h1 h2:List UInt8) (w:World):SP w b v h1 h2 (((w.alloc (.cells #[.int .i64 b,.int .i64 v] 23)).alloc (.cells (bc h1) 25)).alloc (.cells (bc h2) 25)):=by
  have e1:=allocSize w (.cells #[.int .i64 b,.int .i64 v] 23)
  have e2:=allocSize (w.alloc (.cells #[.int .i64 b,.int .i64 v] 23)) (.cells (bc h1) 25)
  have e3:=allocSize ((w.alloc (.cells #[.int .i64 b,.int .i64 v] 23)).alloc (.cells (bc h1) 25)) (.cells (bc h2) 25)
  refine ⟨(((Below.refl w.heap.size w).alloc (Nat.le_refl _) _).alloc (by omega) _).alloc (by omega) _,?_,?_,?_,by omega⟩
  · rw [heapOld _ _ _ (by omega),heapOld _ _ _ (by omega),heapNew]
  · rw [heapOld _ _ _ (by omega)]
    have h:=heapNew (w.alloc (.cells #[.int .i64 b,.int .i64 v] 23)) (.cells (bc h1) 25)
    rwa [e1] at h
  · have h:=heapNew ((w.alloc (.cells #[.int .i64 b,.int .i64 v] 23)).alloc (.cells (bc h1) 25)) (.cells (bc h2) 25)
    rwa [e2,e1] at h
def dsum (us:List Oo):Nat:=(us.map (fun u=>u.D.length)).sum
theorem dsum_take {us:List Oo} {k:Nat} {u:Oo} (h:us[k]? = some u):dsum (us.take (k + 1)) = dsum (us.take k) + u.D.length:=by
  obtain ⟨hk,rfl⟩:=List.getElem?_eq_some_iff.1 h
  unfold dsum
  rw [List.take_succ_eq_append_getElem hk,List.map_append,List.sum_append]
  simp
theorem dsum_le (us:List Oo) (k:Nat):dsum (us.take k)≤dsum us:=by
  conv=>rhs; rw [← List.take_append_drop k us]
  unfold dsum
  rw [List.map_append,List.sum_append]
  omega
def RSc (w:World) (v:Value) (us:List Oo):Prop:=
  (∃ a c,v = .slice a us.length c∧us.length≤c∧(us = []∨∃ g o,a = some ⟨g,o,none⟩∧g < w.heap.size∧∀ i u,us[i]? = some u→w.rangeAt g (o + i * 63) u.ls))∧∀ u ∈ us,RU w u
theorem Oo.len {u:Oo} (ok:u.x.m.ok) (hm:u.me.length = 20):u.ls.length = 63:=by
  unfold Oo.ls
  simp only [List.length_cons,List.length_append]
  rw [ok_ls ok,bcl_len,hm]
theorem info_op:(Tryz.prog.info? 43).map (·.size) = some 63:=by kernel_rfl
theorem Oo.one {w:World} {u:Oo} (h:RU w u):u.cs.all (·.oneCell') = true:=Array.all_eq_true_iff_forall_mem.2 (fun x hx=>by
  have hx':x ∈ u.ls:=by simpa [Oo.cs] using hx
  unfold Oo.ls at hx'
  rcases List.mem_cons.1 hx' with rfl | hx'
  · rfl
  rcases List.mem_cons.1 hx' with rfl | hx'
  · rfl
  rcases List.mem_cons.1 hx' with rfl | hx'
  · obtain ⟨a,c,e,_⟩:=h.d
    rw [e]
    rfl
  rcases List.mem_append.1 hx' with hx' | hx'
  · exact Array.all_eq_true_iff_forall_mem.1 h.m.ok.one x (by simpa [Mv.cs] using hx')
  · exact Lib.byteCells_one _ x hx')
theorem PP.two {p q:Value} {E:Int} (h1:PP p E) (h2:PP q E):(p = .pointer none∧q = .pointer none)∨∃ x y,p = .pointer (some x)∧q = .pointer (some y):=by
  by_cases hE:E = 0
  · obtain ⟨x,e1⟩:=h1.1 hE
    obtain ⟨y,e2⟩:=h2.1 hE
    exact .inr ⟨x,y,e1,e2⟩
  · exact .inl ⟨h1.2 hE,h2.2 hE⟩
theorem BT.made {w1 w2 w3:World} {b v:Int} {h1:List UInt8} {L:List Int} {p q:Value} (p1:PP p (nwE b v L)) (p2:PP q (nwE b v L)) (hn:nwE b v L = 0→NewE w1 w2 b h1 L p) (hr:nwE b v L = 0→RNew w2 w3 b v h1 L q) (b12:Below w1.heap.size w1 w2) (b23:Below w2.heap.size w2 w3) (h:1 < w1.heap.size) :
    ∃ Z Y,BT w3 p q Z Y 0∧∀ k,Z k∨Y k→w1.heap.size≤k∧k < w3.heap.size:=by
  by_cases hE:nwE b v L = 0
  · have s12:=b12.size
    have s23:=b23.size
    exact ⟨_,_,BT.new (hn hE) (hr hE) b12 b23 h,fun k hk=>by rcases hk with hk | hk <;> omega⟩
  · rw [p1.2 hE,p2.2 hE]
    exact ⟨_,_,BT.none w3,fun k hk=>by rcases hk with h | h <;> exact h.elim⟩
set_option maxHeartbeats 4000000 in
set_option maxRecDepth 100000 in
theorem playT (b v:Int) (h1 h2:List UInt8) (e1:h1.length = 32) (e2:h2.length = 32) (lv mv sv:Value) (L M:List Int) (us:List Oo) (lo hi:Int) (w:World) (hkt:KT w) (hmt:Bs.MT w) (hl:L.length * 8≤140737488351232) (hm:M.length * 8≤140737488351232) (hr:Bs.RZ w lv L) (hr2:Bs.RZ w mv M) (hs:RSc w sv us) (hd:dsum us≤16777216) (hn:us.length≤16777216) :
    Calls Tryz.prog 7 #[Bs.sc b v,.agg (bc h1),lv,.agg (bc h2),mv,sv,.int .i64 lo,.int .i64 hi] w fun e w'=>e = .returned (.bool true)∧Below w.heap.size w w':=by
  have HR:Hid (Bs.RZ w lv L∧Bs.RZ w mv M∧RSc w sv us∧h1.length = 32∧h2.length = 32∧KT w∧Bs.MT w):=⟨hr,hr2,hs,e1,e2,hkt,hmt⟩
  obtain ⟨a1,c1,rfl,_,_⟩:=hr
  obtain ⟨a5,c5,rfl,_,_⟩:=hr2
  obtain ⟨⟨sa,scap,rfl,_⟩,_⟩:=hs
  have hone:1 < w.heap.size:=by have:=hmt.1; have:=hkt.pos; omega
  have HS0:=Lib.hid (SP.start b v h1 h2 w)
  have HO:Hid (Bs.OZ (w.heap.size + 3) (((w.alloc (.cells #[.int .i64 b,.int .i64 v] 23)).alloc (.cells (bc h1) 25)).alloc (.cells (bc h2) 25)) (.slice none 0 0) []):=World.ownsRow_nil _ _ _ _
  have HA:Hid (Bs.RZ (((w.alloc (.cells #[.int .i64 b,.int .i64 v] 23)).alloc (.cells (bc h1) 25)).alloc (.cells (bc h2) 25)) (.slice a1 L.length c1) L):=HR.out.1.keep HS0.out.bel
  have HKT:Hid (∀ u,Below w.heap.size w u→KT u∧Bs.MT u):=fun u hu=>⟨HR.out.2.2.2.2.2.1.below hu HR.out.2.2.2.2.2.1.pos,HR.out.2.2.2.2.2.2.keep hu⟩
  clear hkt hmt e1 e2
  go_enter Tryz.func7,Tryz.ntmps7
  go_upto_region 3 with (first |(at_builtin; refine Bs.append_ints rfl _ _ rfl rfl HO.out rfl HA.out HS0.out.sz (by simp; omega) ?_; intro v1 w1 o1 b1))
  rw [List.nil_append] at o1
  obtain ⟨a2,c2,rfl⟩:=o1.form
  have HS1:=Lib.hid (HS0.out.next b1)
  have HI1:Hid (Bs.OZ (w.heap.size + 3) w1 (.slice a2 L.length c2) L):=o1
  clear HO HA HS0 b1 o1
  have hj:=HS1.out.i
  obtain ⟨q0,q1⟩:=HS1.out.cells
  go_wp2_with (first |(refine load_hash_if rfl _ rfl (w.heap.size + 1) rfl h1 hj HR.out.2.2.2.1 ?_))
  refine (newP b v h1 HR.out.2.2.2.1 _ L w1 hl (HI1.out.rz) (HKT.out w1 HS1.out.bel).1 (HKT.out w1 HS1.out.bel).2).mono ?_
  rintro e w2 ⟨p1,rfl,pp1,b2,nw1⟩
  have HS2:=Lib.hid (HS1.out.next (b2.mono HS1.out.sz))
  have HI1x:=HI1
  have HI2:=Lib.hid (HI1.out.grow b2)
  have HP1:=Lib.hid (And.intro pp1 (And.intro b2 nw1))
  clear hj q0 q1 b2 pp1 nw1 HI1
  have hj:=HS2.out.i
  obtain ⟨q0,q1⟩:=HS2.out.cells
  go_wp2_with (first |(refine load_hash_if rfl _ rfl (w.heap.size + 1) rfl h1 hj HR.out.2.2.2.1 ?_))
  refine (rNewT b v h1 HR.out.2.2.2.1 _ L w2 hl (HR.out.1.keep HS2.out.bel)).mono ?_
  rintro e w3 ⟨p2,rfl,pp2,b3,nw2⟩
  have HS3:=Lib.hid (HS2.out.next (b3.mono HS2.out.sz))
  have HI3:=Lib.hid (HI2.out.grow b3)
  have HP2:=Lib.hid (And.intro pp2 (And.intro b3 nw2))
  clear hj q0 q1 b3 pp2 nw2 HI2
  have hj:=HS3.out.j
  obtain ⟨q0,q1⟩:=HS3.out.cells
  go_wp2_with (first |(refine load_hash_if rfl _ rfl (w.heap.size + 2) rfl h2 hj HR.out.2.2.2.2.1 ?_))
  refine (newP b v h2 HR.out.2.2.2.2.1 _ M w3 hm (HR.out.2.1.keep HS3.out.bel) (HKT.out w3 HS3.out.bel).1 (HKT.out w3 HS3.out.bel).2).mono ?_
  rintro e w4 ⟨p3,rfl,pp3,b4,nw3⟩
  have HS4:=Lib.hid (HS3.out.next (b4.mono HS3.out.sz))
  have HI4:=Lib.hid (HI3.out.grow b4)
  have HP3:=Lib.hid (And.intro pp3 (And.intro b4 nw3))
  clear hj q0 q1 b4 pp3 nw3 HI3
  have hj:=HS4.out.j
  obtain ⟨q0,q1⟩:=HS4.out.cells
  go_wp2_with (first |(refine load_hash_if rfl _ rfl (w.heap.size + 2) rfl h2 hj HR.out.2.2.2.2.1 ?_))
  refine (rNewT b v h2 HR.out.2.2.2.2.1 _ M w4 hm (HR.out.2.1.keep HS4.out.bel)).mono ?_
  rintro e w5 ⟨p4,rfl,pp4,b5,nw4⟩
  have HS5:=Lib.hid (HS4.out.next (b5.mono HS4.out.sz))
  have HI5:=Lib.hid (HI4.out.grow b5)
  have HP4:=Lib.hid (And.intro pp4 (And.intro b5 nw4))
  clear hj q0 q1 b5 pp4 nw4 HI4
  have HIL:Hid (IL w L 0 a2 c2 p1 p2 p3 p4 w5):=by
    have s1:=HS1.out.sz
    have s2:=HP1.out.2.1.size
    have s3:=HP2.out.2.1.size
    have s4:=HP3.out.2.1.size
    have s5:=HP4.out.2.1.size
    obtain ⟨Z1,Y1,t1,k1⟩:=BT.made HP1.out.1 HP2.out.1 HP1.out.2.2 HP2.out.2.2 HP1.out.2.1 HP2.out.2.1 (by omega)
    obtain ⟨Z2,Y2,t2,k2⟩:=BT.made HP3.out.1 HP4.out.1 HP3.out.2.2 HP4.out.2.2 HP3.out.2.1 HP4.out.2.1 (by omega)
    refine ⟨⟨L,OZ_mono HI5.out (by omega),fun j _=>rfl⟩,hone,Z1,Y1,Z2,Y2,0,0,⟨t1.below (HP3.out.2.1.trans (HP4.out.2.1.mono s4)),t2,fun k x y=>?_,fun k hk=>?_,HS5.out.bel,Nat.le_refl _,Nat.le_refl _⟩,fun g hg=>?_⟩
    · have:=k1 k x
      have:=k2 k y
      omega
    · rcases hk with hk | hk
      · have:=k1 k hk
        omega
      · have:=k2 k hk
        omega
    · have hlt:=(own_ge HI1x.out (k:=g) (by rw [hg]; rfl)).2
      refine ⟨fun x=>?_,fun x=>?_⟩
      · have:=k1 g x
        omega
      · have:=k2 g x
        omega
  have HRL:Hid (∀ u,Below w.heap.size w u→Bs.RZ u (.slice a1 L.length c1) L):=fun u hu=>HR.out.1.keep hu
  have HSC:Hid (RSc w (.slice sa us.length scap) us):=HR.out.2.2.1
  have HQ1:=Lib.hid (PP.two HP1.out.1 HP2.out.1)
  have HQ2:=Lib.hid (PP.two HP3.out.1 HP4.out.1)
  clear HP1 HP2 HP3 HP4 HI5 HS1 HS2 HS3 HS4 HS5 HI1x HKT HR
  generalize nwE b v L = E at *
  generalize nwE b v M = E2 at *
  obtain ⟨x1,y1,rfl,rfl,cc1,n1,m1⟩:∃ x y,p1 = .pointer x∧p2 = .pointer y∧∃ c:Bool,x.isNone = c∧y.isNone = c:=by
    rcases HQ1.out with ⟨rfl,rfl⟩ | ⟨x,y,rfl,rfl⟩
    · exact ⟨_,_,rfl,rfl,true,rfl,rfl⟩
    · exact ⟨_,_,rfl,rfl,false,rfl,rfl⟩
  obtain ⟨x2,y2,rfl,rfl,cc2,n2,m2⟩:∃ x y,p3 = .pointer x∧p4 = .pointer y∧∃ c:Bool,x.isNone = c∧y.isNone = c:=by
    rcases HQ2.out with ⟨rfl,rfl⟩ | ⟨x,y,rfl,rfl⟩
    · exact ⟨_,_,rfl,rfl,true,rfl,rfl⟩
    · exact ⟨_,_,rfl,rfl,false,rfl,rfl⟩
  clear HQ1 HQ2
  go_wp2_with fail
  go_loopw [26] (fun t wr=>∃ k:Nat,k≤L.length∧t = .int .i64 k∧Hid (IL w L k a2 c2 (.pointer x1) (.pointer y1) (.pointer x2) (.pointer y2) wr)) (fun t _=>L.length - (intOf t).toNat)
  case atStart=>exact ⟨0,Nat.zero_le _,rfl,HIL⟩
  case round =>
    obtain ⟨k,hk,rfl,H⟩:=hrel
    clear HIL
    by_cases hlt:k < L.length
    · obtain ⟨g2,rfl,_,k1,k2,k3⟩:=H.out.at hlt
      obtain ⟨_,_,hv0,_,hr0⟩:=HRL.out wr H.out.bel
      simp only [Value.slice.injEq] at hv0
      obtain ⟨rfl,_,rfl⟩:=hv0
      rcases hr0 with hnil | ⟨gl,ol,rfl,_,hcl⟩
      · rw [hnil] at hlt; simp at hlt
      have k4:=hcl k hlt
      have K3:=Lib.hid k3
      clear hcl k3 H HRL HSC
      generalize Bs.iz L k = x at *
      go_wp2_with fail
      go_quiet (fail)
      go_wp2
      exact ⟨⟨k + 1,by omega,by go_num,K3.out _⟩,by simp [intOf]; omega⟩
    · have HP0:Hid (P2E w (.pointer x1) (.pointer y1) (.pointer x2) (.pointer y2) (dsum (us.take 0)) wr):=H.out.p2e
      clear H HRL
      obtain ⟨w6,hw6⟩:∃ x,x = wr:=⟨_,rfl⟩
      subst hw6
      go_wp2_with fail
      go_loopw [27] (fun t wr=>∃ i:Nat,i≤us.length∧t = .int .i64 i∧Hid (P2E w (.pointer x1) (.pointer y1) (.pointer x2) (.pointer y2) (dsum (us.take i)) wr)) (fun t _=>us.length - (intOf t).toNat)
      case atStart=>exact ⟨0,Nat.zero_le _,rfl,HP0⟩
      case round =>
        obtain ⟨i,hi2,rfl,H⟩:=hrel
        clear HP0
        by_cases hlt2:i < us.length
        · obtain ⟨u,hu⟩:∃ u,us[i]? = some u:=⟨_,List.getElem?_eq_getElem hlt2⟩
          obtain ⟨⟨sa',sc',es,_,hcl⟩,hru⟩:=HSC.out
          simp only [Value.slice.injEq,true_and] at es
          obtain ⟨rfl,rfl⟩:=es
          rcases hcl with hnil | ⟨gs,os,rfl,hgs,hcl⟩
          · rw [hnil] at hlt2; simp at hlt2
          have ru:=hru u (List.mem_of_getElem? hu)
          have HRu:=Lib.hid ru
          have hbl:Below w.heap.size w wr:=by obtain ⟨_,_,_,_,_,_,h⟩:=H.out; exact h.bl
          have HRG:Hid (wr.rangeAt gs (os + i * 63) u.ls):=rangeFr2 (hcl i u hu) (hbl.block gs hgs)
          have hu63:=Oo.len ru.m.ok ru.me
          have hiO:(Tryz.prog.info? 43).map (·.size) = some u.ls.length:=by rw [hu63]; exact info_op
          have hiO2:(Tryz.prog.info? 43).map (·.size) = some u.cs.size:=by rw [show u.cs.size = u.ls.length from by simp [Oo.cs]]; exact hiO
          have hzz:=heapNew wr (.cells (#[.int .i64 0,.bool false,.slice none 0 0,.int .i64 0,.int .i64 0,.int .i64 0,.int .i64 0,.slice none 0 0,.int .u8 0,.int .u8 0,.int .u8 0,.int .u8 0,.int .u8 0,.int .u8 0,.int .u8 0,.int .u8 0,.int .u8 0,.int .u8 0,.int .u8 0,.int .u8 0,.int .u8 0,.int .u8 0,.int .u8 0,.int .u8 0,.int .u8 0,.int .u8 0,.int .u8 0,.int .u8 0,.int .u8 0,.int .u8 0,.int .u8 0,.int .u8 0,.int .u8 0,.int .u8 0,.int .u8 0,.int .u8 0,.int .u8 0,.int .u8 0,.int .u8 0,.int .u8 0,.int .i64 0,.int .i64 0,.slice none 0 0,.int .u8 0,.int .u8 0,.int .u8 0,.int .u8 0,.int .u8 0,.int .u8 0,.int .u8 0,.int .u8 0,.int .u8 0,.int .u8 0,.int .u8 0,.int .u8 0,.int .u8 0,.int .u8 0,.int .u8 0,.int .u8 0,.int .u8 0,.int .u8 0,.int .u8 0,.int .u8 0]:Array Value) 43)
          have hsz:(#[.int .i64 0,.bool false,.slice none 0 0,.int .i64 0,.int .i64 0,.int .i64 0,.int .i64 0,.slice none 0 0,.int .u8 0,.int .u8 0,.int .u8 0,.int .u8 0,.int .u8 0,.int .u8 0,.int .u8 0,.int .u8 0,.int .u8 0,.int .u8 0,.int .u8 0,.int .u8 0,.int .u8 0,.int .u8 0,.int .u8 0,.int .u8 0,.int .u8 0,.int .u8 0,.int .u8 0,.int .u8 0,.int .u8 0,.int .u8 0,.int .u8 0,.int .u8 0,.int .u8 0,.int .u8 0,.int .u8 0,.int .u8 0,.int .u8 0,.int .u8 0,.int .u8 0,.int .u8 0,.int .i64 0,.int .i64 0,.slice none 0 0,.int .u8 0,.int .u8 0,.int .u8 0,.int .u8 0,.int .u8 0,.int .u8 0,.int .u8 0,.int .u8 0,.int .u8 0,.int .u8 0,.int .u8 0,.int .u8 0,.int .u8 0,.int .u8 0,.int .u8 0,.int .u8 0,.int .u8 0,.int .u8 0,.int .u8 0,.int .u8 0]:Array Value).size = u.cs.size:=by rw [show u.cs.size = u.ls.length from by simp [Oo.cs],hu63]; rfl
          have hone2:=Oo.one ru
          have hgX:=heapSetRow _ _ _ u.cs _ hzz
          have bX:Below wr.heap.size wr ((wr.alloc (.cells (#[.int .i64 0,.bool false,.slice none 0 0,.int .i64 0,.int .i64 0,.int .i64 0,.int .i64 0,.slice none 0 0,.int .u8 0,.int .u8 0,.int .u8 0,.int .u8 0,.int .u8 0,.int .u8 0,.int .u8 0,.int .u8 0,.int .u8 0,.int .u8 0,.int .u8 0,.int .u8 0,.int .u8 0,.int .u8 0,.int .u8 0,.int .u8 0,.int .u8 0,.int .u8 0,.int .u8 0,.int .u8 0,.int .u8 0,.int .u8 0,.int .u8 0,.int .u8 0,.int .u8 0,.int .u8 0,.int .u8 0,.int .u8 0,.int .u8 0,.int .u8 0,.int .u8 0,.int .u8 0,.int .i64 0,.int .i64 0,.slice none 0 0,.int .u8 0,.int .u8 0,.int .u8 0,.int .u8 0,.int .u8 0,.int .u8 0,.int .u8 0,.int .u8 0,.int .u8 0,.int .u8 0,.int .u8 0,.int .u8 0,.int .u8 0,.int .u8 0,.int .u8 0,.int .u8 0,.int .u8 0,.int .u8 0,.int .u8 0,.int .u8 0]:Array Value) 43)).setRow wr.heap.size u.cs):=belowSetRow ((Below.refl _ _).alloc (Nat.le_refl _) _) (Nat.le_refl _) _
          obtain ⟨X,hX⟩:∃ X,X = (wr.alloc (.cells (#[.int .i64 0,.bool false,.slice none 0 0,.int .i64 0,.int .i64 0,.int .i64 0,.int .i64 0,.slice none 0 0,.int .u8 0,.int .u8 0,.int .u8 0,.int .u8 0,.int .u8 0,.int .u8 0,.int .u8 0,.int .u8 0,.int .u8 0,.int .u8 0,.int .u8 0,.int .u8 0,.int .u8 0,.int .u8 0,.int .u8 0,.int .u8 0,.int .u8 0,.int .u8 0,.int .u8 0,.int .u8 0,.int .u8 0,.int .u8 0,.int .u8 0,.int .u8 0,.int .u8 0,.int .u8 0,.int .u8 0,.int .u8 0,.int .u8 0,.int .u8 0,.int .u8 0,.int .u8 0,.int .i64 0,.int .i64 0,.slice none 0 0,.int .u8 0,.int .u8 0,.int .u8 0,.int .u8 0,.int .u8 0,.int .u8 0,.int .u8 0,.int .u8 0,.int .u8 0,.int .u8 0,.int .u8 0,.int .u8 0,.int .u8 0,.int .u8 0,.int .u8 0,.int .u8 0,.int .u8 0,.int .u8 0,.int .u8 0,.int .u8 0]:Array Value) 43)).setRow wr.heap.size u.cs:=⟨_,rfl⟩
          have HX:=Lib.hid hX
          rw [← hX] at bX hgX
          have hub:UB X wr.heap.size u:=hgX
          have cOn:X.cell? ⟨wr.heap.size,1,none⟩ = some (.bool u.on):=hub.at 1
          have HD:Hid (dsum (us.take i) + u.D.length≤dsum (us.take (i + 1))∧dsum (us.take (i + 1))≤16777216):=⟨by rw [dsum_take hu]; exact Nat.le_refl _,Nat.le_trans (dsum_le us (i + 1)) hd⟩
          have HT1:=Lib.hid ((H.out.below bX).step1 u ru HD.out.1 HD.out.2 hone)
          have HT2:=Lib.hid ((H.out.below bX).step2 u ru HD.out.1 HD.out.2 hone)
          have HC0:Hid (∀ w',Below X.heap.size X w'→True):=fun _ _=>trivial
          have hcs:u.ls.toArray = u.cs:=rfl
          clear hX bX hub hcl hru ru hbl hu63 H HSC HC0
          cases hon:u.on
          · rw [hon] at cOn
            go_wp2_with (first |(refine wpList_load_mid rfl 43 _ rfl gs (os + i * 63) rfl u.ls _ HRG.out Tryz.underlying43 rfl hiO ?_) |(refine wpList_store_row rfl 43 _ _ rfl wr.heap.size u.cs rfl rfl 43 (#[.int .i64 0,.bool false,.slice none 0 0,.int .i64 0,.int .i64 0,.int .i64 0,.int .i64 0,.slice none 0 0,.int .u8 0,.int .u8 0,.int .u8 0,.int .u8 0,.int .u8 0,.int .u8 0,.int .u8 0,.int .u8 0,.int .u8 0,.int .u8 0,.int .u8 0,.int .u8 0,.int .u8 0,.int .u8 0,.int .u8 0,.int .u8 0,.int .u8 0,.int .u8 0,.int .u8 0,.int .u8 0,.int .u8 0,.int .u8 0,.int .u8 0,.int .u8 0,.int .u8 0,.int .u8 0,.int .u8 0,.int .u8 0,.int .u8 0,.int .u8 0,.int .u8 0,.int .u8 0,.int .i64 0,.int .i64 0,.slice none 0 0,.int .u8 0,.int .u8 0,.int .u8 0,.int .u8 0,.int .u8 0,.int .u8 0,.int .u8 0,.int .u8 0,.int .u8 0,.int .u8 0,.int .u8 0,.int .u8 0,.int .u8 0,.int .u8 0,.int .u8 0,.int .u8 0,.int .u8 0,.int .u8 0,.int .u8 0,.int .u8 0]:Array Value) hzz hiO2 hsz hone2 ?_; rw [← HX.out]) |(refine wpList_load_row rfl 43 _ rfl wr.heap.size rfl 43 u.cs (0,0) _ hgX Tryz.underlying43 rfl hiO2 ?_))
            refine HT1.out.mono ?_
            rintro e w7 ⟨rfl,hp7⟩
            have HP7:=Lib.hid hp7
            clear hp7 HT1 HT2 HRG hzz hgX HX hiO hiO2 hsz hone2 cOn
            go_wp2
            exact ⟨⟨i + 1,by omega,by go_num,HP7⟩,by simp [intOf]; omega⟩
          · rw [hon] at cOn
            go_wp2_with (first |(refine wpList_load_mid rfl 43 _ rfl gs (os + i * 63) rfl u.ls _ HRG.out Tryz.underlying43 rfl hiO ?_) |(refine wpList_store_row rfl 43 _ _ rfl wr.heap.size u.cs rfl rfl 43 (#[.int .i64 0,.bool false,.slice none 0 0,.int .i64 0,.int .i64 0,.int .i64 0,.int .i64 0,.slice none 0 0,.int .u8 0,.int .u8 0,.int .u8 0,.int .u8 0,.int .u8 0,.int .u8 0,.int .u8 0,.int .u8 0,.int .u8 0,.int .u8 0,.int .u8 0,.int .u8 0,.int .u8 0,.int .u8 0,.int .u8 0,.int .u8 0,.int .u8 0,.int .u8 0,.int .u8 0,.int .u8 0,.int .u8 0,.int .u8 0,.int .u8 0,.int .u8 0,.int .u8 0,.int .u8 0,.int .u8 0,.int .u8 0,.int .u8 0,.int .u8 0,.int .u8 0,.int .u8 0,.int .i64 0,.int .i64 0,.slice none 0 0,.int .u8 0,.int .u8 0,.int .u8 0,.int .u8 0,.int .u8 0,.int .u8 0,.int .u8 0,.int .u8 0,.int .u8 0,.int .u8 0,.int .u8 0,.int .u8 0,.int .u8 0,.int .u8 0,.int .u8 0,.int .u8 0,.int .u8 0,.int .u8 0,.int .u8 0,.int .u8 0]:Array Value) hzz hiO2 hsz hone2 ?_; rw [← HX.out]) |(refine wpList_load_row rfl 43 _ rfl wr.heap.size rfl 43 u.cs (0,0) _ hgX Tryz.underlying43 rfl hiO2 ?_))
            refine HT2.out.mono ?_
            rintro e w7 ⟨rfl,hp7⟩
            have HP7:=Lib.hid hp7
            clear hp7 HT1 HT2 HRG hzz hgX HX hiO hiO2 hsz hone2 cOn
            go_wp2
            exact ⟨⟨i + 1,by omega,by go_num,HP7⟩,by simp [intOf]; omega⟩
        · have HBel:Hid (Below w.heap.size w wr):=by obtain ⟨_,_,_,_,_,_,h⟩:=H.out; exact h.bl
          clear H
          go_wp2
          go_ret
          exact ⟨rfl,HBel.out⟩
end Go.Proofs.YtfjjpbebnoghmaaGreatDoor
