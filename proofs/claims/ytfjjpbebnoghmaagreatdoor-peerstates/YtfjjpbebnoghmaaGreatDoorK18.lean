import Derived.Test.YtfjjpbebnoghmaaGreatDoorK00
import Derived.Test.YtfjjpbebnoghmaaGreatDoorK17
import Derived.Test.YtfjjpbebnoghmaaGreatDoorK16
import Derived.Test.YtfjjpbebnoghmaaGreatDoorK14
namespace Go.Proofs.YtfjjpbebnoghmaaGreatDoor
open Go.RowKit
def legE (L:List Int) (b:Int) (ib:Bool) (m:Mv) (D:List UInt8):Int:=
  if m.k = 5 then (if ib = true then 172 else if Bs.ck (L.length:Int) D = 0 then 0 else 173)
  else if m.k = 7 then (if ctp L b m.i m.b D.length = true then (if rgp L b m.i m.b D.length = true then 0 else 174) else 174)
  else if m.k = 6∨m.k = 8 then (if rgp L b m.i m.b m.l = true then 0 else 174)
  else if m.k = 4 then (if pce L m.i = true then 0 else 174) else 0
theorem MB.rng0 {w:World} {g:Nat} {m:Mv} (h:MB w g m):w.rangeAt g 0 m.ls:=fun j v hj=>by rw [Nat.zero_add]; exact h.cell j hj
theorem MT_below {w w':World} (h:Bs.MT w) (hb:Below w.heap.size w w'):Bs.MT w':=h.keep hb
set_option maxHeartbeats 2000000 in
set_option maxRecDepth 100000 in
theorem legalT (w:World) (g:Nat) (P:Pv) (L:List Int) (h:PL w g P L) (m:Mv) (ok:m.ok) (D:List UInt8) (hd:RB w m.d D) (hm:MBd m D.length) (hmt:Bs.MT w) :
    Calls Tryz.prog 70 #[.pointer (some ⟨g,0,none⟩),.agg m.cs] w fun e w'=>e = .returned (.int .i64 (legE L P.b P.ib m D))∧Below w.heap.size w w':=by
  obtain ⟨da,dc,hda,_⟩:=id hd
  have hb:MB (w.alloc (.cells m.cs 40)) w.heap.size m:=heapNew w (.cells m.cs 40)
  have hi:=info_msg ok
  have hil:(Tryz.prog.info? 40).map (·.size) = some m.ls.length:=by rw [hi]; rfl
  have HB:Hid (Below w.heap.size w (w.alloc (.cells m.cs 40))):=(Below.refl _ _).alloc (Nat.le_refl _) _
  have HCut:Hid (∀ u,Below w.heap.size w u→Calls Tryz.prog 98 #[.pointer (some ⟨g,0,none⟩),.agg m.cs] u fun e w'=>e = .returned (.bool (ctp L P.b m.i m.b (lng m.k m.l D.length)))∧Below u.heap.size u w'):=fun u hu=>isCutT u g P L (h.below hu) m ok D.length dc da hda hm
  have HRng:Hid (∀ u,Below w.heap.size w u→Calls Tryz.prog 87 #[.pointer (some ⟨g,0,none⟩),.agg m.cs] u fun e w'=>e = .returned (.bool (rgp L P.b m.i m.b (lng m.k m.l D.length)))∧Below u.heap.size u w'):=fun u hu=>isRangeT u g P L (h.below hu) m ok D.length dc da hda hm
  have HPce:Hid (∀ u,Below w.heap.size w u→Calls Tryz.prog 86 #[.pointer (some ⟨g,0,none⟩),.int .i64 m.i] u fun e w'=>e = .returned (.bool (pce L m.i))∧w' = u):=fun u hu=>by
    obtain ⟨la,lc,e,_⟩:=h.rz
    exact isPieceT u g P (h.below hu).pk L la lc e m.i
  have HFld:Hid (∀ u,Below w.heap.size w u→Calls Tryz.prog 85 #[.pointer (some ⟨g,0,none⟩),m.d] u fun e w'=>e = .returned (.bool (Bs.ck (L.length:Int) D == 0))∧∃ n,w' = u.drewN n):=fun u hu=>by
    obtain ⟨la,lc,e,_⟩:=h.rz
    exact isFieldT u g P (h.below hu).pk L la lc e h.ok.1 m.d D (hd.keep hu) hm.n1 (MT_below hmt hu)
  have c0:=hb.c0
  have HS0:Hid (MB (w.alloc (.cells m.cs 40)) w.heap.size m):=hb
  have p30:=(h.below HB.out).pk.sides.2.2.2.2.2
  rw [hda] at HFld
  clear hb h hd hmt ok
  by_cases k5:m.k = 5
  · rw [k5] at c0
    have hL:legE L P.b P.ib m D = (if P.ib = true then 172 else if Bs.ck (L.length:Int) D = 0 then 0 else 173):=by unfold legE; rw [if_pos k5]
    rw [hL]
    clear hL k5 HCut HRng HPce hm
    cases hib:P.ib
    · rw [hib] at p30
      simp only [Bool.false_eq_true,if_false]
      by_cases hck:Bs.ck (L.length:Int) D = 0
      · rw [if_pos hck]
        have e:(Bs.ck (L.length:Int) D == 0) = true:=by simp [hck]
        rw [e] at HFld
        clear e hck hib
        go_enter Tryz.func70,Tryz.ntmps70
        go_upto_region 9 with fail
        refine wp_region_held_drew (S:=fun u=>MB u w.heap.size m∧Below w.heap.size w u) (by kernel_rfl) (⟨HS0.out.below (belowDrew _ 1),belowN HB.out 1⟩) (fun hHeld=>?_)
        refine tkB (i:=0) (v:=.pointer (some ⟨g,0,none⟩)) rfl hHeld ?_
        simp only [Act.put,zq1,zq2,zq4,zq5,zq6]
        refine tkB (i:=1) (v:=.pointer (some ⟨g,0,none⟩)) rfl hHeld ?_
        simp only [Act.put,zq1,zq2,zq3,zq4,zq5,zq6]
        refine tkB (i:=2) (v:=.pointer (some ⟨g,0,none⟩)) rfl hHeld ?_
        simp only [Act.put,zq1,zq2,zq3,zq4,zq5,zq6]
        refine tkB (i:=3) (v:=.pointer (some ⟨w.heap.size,4,none⟩)) rfl hHeld ?_
        simp only [Act.put,zq1,zq2,zq3,zq4,zq5,zq6]
        refine tkA (i:=4) (v:=.slice da D.length dc) rfl (Or.inl ⟨by rfl,fun w hw=>by have hq:=hw.1.cell 4 (show m.ls[4]? = some m.d from rfl); rw [hda] at hq; go_simp⟩) hHeld ?_
        simp only [Act.put,zq1,zq2,zq3,zq4,zq5,zq6]
        refine wpAnyH_ready (rs:=[5]) (by kernel_rfl) (by simp) ?_
        refine AllReadyH.cons (o:=_) rfl (fun K hK=>?_) AllReadyH.nil
        go_simp
        refine (HFld.out _ hHeld.2).mono ?_
        rintro e w2 ⟨rfl,n2,rfl⟩
        go_wp2_with fail
        refine hK.out _ _ (⟨HS0.out.below (belowDrew _ (1 + n2)),belowN HB.out (1 + n2)⟩) (fun hHeld=>?_)
        have HS1:=Lib.hid hHeld
        clear hK K
        refine tkB (i:=6) (v:=.bool false) rfl hHeld ?_
        simp only [Act.put,zq1,zq2,zq3,zq4,zq5,zq6]
        refine wpAnyH_done (by kernel_rfl) ?_ _
        clear hHeld
        go_wp2
        go_ret
        exact ⟨rfl,HS1.out.2⟩
      · rw [if_neg hck]
        have e:(Bs.ck (L.length:Int) D == 0) = false:=by simp [hck]
        rw [e] at HFld
        clear e hck hib
        go_enter Tryz.func70,Tryz.ntmps70
        go_upto_region 9 with fail
        refine wp_region_held_drew (S:=fun u=>MB u w.heap.size m∧Below w.heap.size w u) (by kernel_rfl) (⟨HS0.out.below (belowDrew _ 1),belowN HB.out 1⟩) (fun hHeld=>?_)
        refine tkB (i:=0) (v:=.pointer (some ⟨g,0,none⟩)) rfl hHeld ?_
        simp only [Act.put,zq1,zq2,zq4,zq5,zq6]
        refine tkB (i:=1) (v:=.pointer (some ⟨g,0,none⟩)) rfl hHeld ?_
        simp only [Act.put,zq1,zq2,zq3,zq4,zq5,zq6]
        refine tkB (i:=2) (v:=.pointer (some ⟨g,0,none⟩)) rfl hHeld ?_
        simp only [Act.put,zq1,zq2,zq3,zq4,zq5,zq6]
        refine tkB (i:=3) (v:=.pointer (some ⟨w.heap.size,4,none⟩)) rfl hHeld ?_
        simp only [Act.put,zq1,zq2,zq3,zq4,zq5,zq6]
        refine tkA (i:=4) (v:=.slice da D.length dc) rfl (Or.inl ⟨by rfl,fun w hw=>by have hq:=hw.1.cell 4 (show m.ls[4]? = some m.d from rfl); rw [hda] at hq; go_simp⟩) hHeld ?_
        simp only [Act.put,zq1,zq2,zq3,zq4,zq5,zq6]
        refine wpAnyH_ready (rs:=[5]) (by kernel_rfl) (by simp) ?_
        refine AllReadyH.cons (o:=_) rfl (fun K hK=>?_) AllReadyH.nil
        go_simp
        refine (HFld.out _ hHeld.2).mono ?_
        rintro e w2 ⟨rfl,n2,rfl⟩
        go_wp2_with fail
        refine hK.out _ _ (⟨HS0.out.below (belowDrew _ (1 + n2)),belowN HB.out (1 + n2)⟩) (fun hHeld=>?_)
        have HS1:=Lib.hid hHeld
        clear hK K
        refine tkB (i:=6) (v:=.bool true) rfl hHeld ?_
        simp only [Act.put,zq1,zq2,zq3,zq4,zq5,zq6]
        refine wpAnyH_done (by kernel_rfl) ?_ _
        clear hHeld
        go_wp2
        go_ret
        exact ⟨rfl,HS1.out.2⟩
    · rw [hib] at p30
      clear hib HFld
      go_enter Tryz.func70,Tryz.ntmps70
      go_wp2
      go_ret
      exact ⟨rfl,HB.out⟩
  clear HFld p30
  have q5:(m.k == 5) = false:=by simp [k5]
  by_cases k7:m.k = 7
  · have hL:legE L P.b P.ib m D = (if ctp L P.b m.i m.b D.length = true then (if rgp L P.b m.i m.b D.length = true then 0 else 174) else 174):=by unfold legE; rw [if_neg k5,if_pos k7]
    have hz:lng m.k m.l D.length = D.length:=by unfold lng; rw [if_pos k7]
    rw [hL]
    rw [hz] at HCut HRng
    rw [k7] at c0 q5
    clear hL hz k5 k7 HPce hm
    cases hc:ctp L P.b m.i m.b D.length
    · rw [hc] at HCut
      simp only [Bool.false_eq_true,if_false]
      clear hc
      go_enter Tryz.func70,Tryz.ntmps70
      go_upto_region 11 with fail
      refine wp_region_held_drew (S:=fun u=>MB u w.heap.size m∧Below w.heap.size w u) (by kernel_rfl) (⟨HS0.out.below (belowDrew _ 1),belowN HB.out 1⟩) (fun hHeld=>?_)
      refine tkB (i:=0) (v:=.pointer (some ⟨g,0,none⟩)) rfl hHeld ?_
      simp only [Act.put,zq1,zq2,zq4,zq5,zq6]
      refine tkB (i:=1) (v:=.pointer (some ⟨g,0,none⟩)) rfl hHeld ?_
      simp only [Act.put,zq1,zq2,zq3,zq4,zq5,zq6]
      refine tkB (i:=2) (v:=.pointer (some ⟨g,0,none⟩)) rfl hHeld ?_
      simp only [Act.put,zq1,zq2,zq3,zq4,zq5,zq6]
      refine tkA (i:=3) (v:=.agg m.cs) rfl (yieldsIf_load_mid (by rfl) _ _ rfl _ _ rfl _ _ (fun u hw=>hw.1.rng0) Tryz.underlying40 rfl hil) hHeld ?_
      simp only [Act.put,zq1,zq2,zq3,zq4,zq5,zq6]
      refine wpAnyH_ready (rs:=[4]) (by kernel_rfl) (by simp) ?_
      refine AllReadyH.cons (o:=_) rfl (fun K hK=>?_) AllReadyH.nil
      go_simp
      refine (HCut.out _ hHeld.2).mono ?_
      rintro e w2 ⟨rfl,b2⟩
      go_wp2_with fail
      refine hK.out _ _ (⟨hHeld.1.below b2,hHeld.2.trans (b2.mono hHeld.2.size)⟩) (fun hHeld=>?_)
      clear hK K
      have HS1:=Lib.hid hHeld
      refine tkB (i:=5) (v:=.bool true) rfl hHeld ?_
      simp only [Act.put,zq1,zq2,zq3,zq4,zq5,zq6]
      refine wpAnyH_done (by kernel_rfl) ?_ _
      clear hHeld
      go_wp2
      go_ret
      exact ⟨rfl,HS1.out.2⟩
    · rw [hc] at HCut
      simp only [if_true]
      clear hc
      cases hr:rgp L P.b m.i m.b D.length
      · rw [hr] at HRng
        simp only [Bool.false_eq_true,if_false]
        clear hr
        go_enter Tryz.func70,Tryz.ntmps70
        go_upto_region 11 with fail
        refine wp_region_held_drew (S:=fun u=>MB u w.heap.size m∧Below w.heap.size w u) (by kernel_rfl) (⟨HS0.out.below (belowDrew _ 1),belowN HB.out 1⟩) (fun hHeld=>?_)
        refine tkB (i:=0) (v:=.pointer (some ⟨g,0,none⟩)) rfl hHeld ?_
        simp only [Act.put,zq1,zq2,zq4,zq5,zq6]
        refine tkB (i:=1) (v:=.pointer (some ⟨g,0,none⟩)) rfl hHeld ?_
        simp only [Act.put,zq1,zq2,zq3,zq4,zq5,zq6]
        refine tkB (i:=2) (v:=.pointer (some ⟨g,0,none⟩)) rfl hHeld ?_
        simp only [Act.put,zq1,zq2,zq3,zq4,zq5,zq6]
        refine tkA (i:=3) (v:=.agg m.cs) rfl (yieldsIf_load_mid (by rfl) _ _ rfl _ _ rfl _ _ (fun u hw=>hw.1.rng0) Tryz.underlying40 rfl hil) hHeld ?_
        simp only [Act.put,zq1,zq2,zq3,zq4,zq5,zq6]
        refine wpAnyH_ready (rs:=[4]) (by kernel_rfl) (by simp) ?_
        refine AllReadyH.cons (o:=_) rfl (fun K hK=>?_) AllReadyH.nil
        go_simp
        refine (HCut.out _ hHeld.2).mono ?_
        rintro e w2 ⟨rfl,b2⟩
        go_wp2_with fail
        refine hK.out _ _ (⟨hHeld.1.below b2,hHeld.2.trans (b2.mono hHeld.2.size)⟩) (fun hHeld=>?_)
        clear hK K
        have HS1:=Lib.hid hHeld
        refine tkB (i:=5) (v:=.bool false) rfl hHeld ?_
        simp only [Act.put,zq1,zq2,zq3,zq4,zq5,zq6]
        refine wpAnyH_done (by kernel_rfl) ?_ _
        clear hHeld
        go_upto_region 13 with fail
        refine wp_region_held_drew (S:=fun u=>MB u w.heap.size m∧Below w.heap.size w u) (by kernel_rfl) (⟨HS1.out.1.below (belowDrew _ 1),belowN HS1.out.2 1⟩) (fun hHeld=>?_)
        refine tkB (i:=0) (v:=.pointer (some ⟨g,0,none⟩)) rfl hHeld ?_
        simp only [Act.put,zq1,zq2,zq4,zq5,zq6]
        refine tkB (i:=1) (v:=.pointer (some ⟨g,0,none⟩)) rfl hHeld ?_
        simp only [Act.put,zq1,zq2,zq3,zq4,zq5,zq6]
        refine tkB (i:=2) (v:=.pointer (some ⟨g,0,none⟩)) rfl hHeld ?_
        simp only [Act.put,zq1,zq2,zq3,zq4,zq5,zq6]
        refine tkA (i:=3) (v:=.agg m.cs) rfl (yieldsIf_load_mid (by rfl) _ _ rfl _ _ rfl _ _ (fun u hw=>hw.1.rng0) Tryz.underlying40 rfl hil) hHeld ?_
        simp only [Act.put,zq1,zq2,zq3,zq4,zq5,zq6]
        refine wpAnyH_ready (rs:=[4]) (by kernel_rfl) (by simp) ?_
        refine AllReadyH.cons (o:=_) rfl (fun K hK=>?_) AllReadyH.nil
        go_simp
        refine (HRng.out _ hHeld.2).mono ?_
        rintro e w2 ⟨rfl,b2⟩
        go_wp2_with fail
        refine hK.out _ _ (⟨hHeld.1.below b2,hHeld.2.trans (b2.mono hHeld.2.size)⟩) (fun hHeld=>?_)
        clear hK K
        have HS2:=Lib.hid hHeld
        refine tkB (i:=5) (v:=.bool true) rfl hHeld ?_
        simp only [Act.put,zq1,zq2,zq3,zq4,zq5,zq6]
        refine wpAnyH_done (by kernel_rfl) ?_ _
        clear hHeld
        go_wp2
        go_ret
        exact ⟨rfl,HS2.out.2⟩
      · rw [hr] at HRng
        simp only [if_true]
        clear hr
        go_enter Tryz.func70,Tryz.ntmps70
        go_upto_region 11 with fail
        refine wp_region_held_drew (S:=fun u=>MB u w.heap.size m∧Below w.heap.size w u) (by kernel_rfl) (⟨HS0.out.below (belowDrew _ 1),belowN HB.out 1⟩) (fun hHeld=>?_)
        refine tkB (i:=0) (v:=.pointer (some ⟨g,0,none⟩)) rfl hHeld ?_
        simp only [Act.put,zq1,zq2,zq4,zq5,zq6]
        refine tkB (i:=1) (v:=.pointer (some ⟨g,0,none⟩)) rfl hHeld ?_
        simp only [Act.put,zq1,zq2,zq3,zq4,zq5,zq6]
        refine tkB (i:=2) (v:=.pointer (some ⟨g,0,none⟩)) rfl hHeld ?_
        simp only [Act.put,zq1,zq2,zq3,zq4,zq5,zq6]
        refine tkA (i:=3) (v:=.agg m.cs) rfl (yieldsIf_load_mid (by rfl) _ _ rfl _ _ rfl _ _ (fun u hw=>hw.1.rng0) Tryz.underlying40 rfl hil) hHeld ?_
        simp only [Act.put,zq1,zq2,zq3,zq4,zq5,zq6]
        refine wpAnyH_ready (rs:=[4]) (by kernel_rfl) (by simp) ?_
        refine AllReadyH.cons (o:=_) rfl (fun K hK=>?_) AllReadyH.nil
        go_simp
        refine (HCut.out _ hHeld.2).mono ?_
        rintro e w2 ⟨rfl,b2⟩
        go_wp2_with fail
        refine hK.out _ _ (⟨hHeld.1.below b2,hHeld.2.trans (b2.mono hHeld.2.size)⟩) (fun hHeld=>?_)
        clear hK K
        have HS1:=Lib.hid hHeld
        refine tkB (i:=5) (v:=.bool false) rfl hHeld ?_
        simp only [Act.put,zq1,zq2,zq3,zq4,zq5,zq6]
        refine wpAnyH_done (by kernel_rfl) ?_ _
        clear hHeld
        go_upto_region 13 with fail
        refine wp_region_held_drew (S:=fun u=>MB u w.heap.size m∧Below w.heap.size w u) (by kernel_rfl) (⟨HS1.out.1.below (belowDrew _ 1),belowN HS1.out.2 1⟩) (fun hHeld=>?_)
        refine tkB (i:=0) (v:=.pointer (some ⟨g,0,none⟩)) rfl hHeld ?_
        simp only [Act.put,zq1,zq2,zq4,zq5,zq6]
        refine tkB (i:=1) (v:=.pointer (some ⟨g,0,none⟩)) rfl hHeld ?_
        simp only [Act.put,zq1,zq2,zq3,zq4,zq5,zq6]
        refine tkB (i:=2) (v:=.pointer (some ⟨g,0,none⟩)) rfl hHeld ?_
        simp only [Act.put,zq1,zq2,zq3,zq4,zq5,zq6]
        refine tkA (i:=3) (v:=.agg m.cs) rfl (yieldsIf_load_mid (by rfl) _ _ rfl _ _ rfl _ _ (fun u hw=>hw.1.rng0) Tryz.underlying40 rfl hil) hHeld ?_
        simp only [Act.put,zq1,zq2,zq3,zq4,zq5,zq6]
        refine wpAnyH_ready (rs:=[4]) (by kernel_rfl) (by simp) ?_
        refine AllReadyH.cons (o:=_) rfl (fun K hK=>?_) AllReadyH.nil
        go_simp
        refine (HRng.out _ hHeld.2).mono ?_
        rintro e w2 ⟨rfl,b2⟩
        go_wp2_with fail
        refine hK.out _ _ (⟨hHeld.1.below b2,hHeld.2.trans (b2.mono hHeld.2.size)⟩) (fun hHeld=>?_)
        clear hK K
        have HS2:=Lib.hid hHeld
        refine tkB (i:=5) (v:=.bool false) rfl hHeld ?_
        simp only [Act.put,zq1,zq2,zq3,zq4,zq5,zq6]
        refine wpAnyH_done (by kernel_rfl) ?_ _
        clear hHeld
        go_wp2
        go_ret
        exact ⟨rfl,HS2.out.2⟩
  have q7:(m.k == 7) = false:=by simp [k7]
  have hz:lng m.k m.l D.length = m.l:=by unfold lng; rw [if_neg k7]
  rw [hz] at HRng
  clear hz HCut
  by_cases k6:m.k = 6
  · have hL:legE L P.b P.ib m D = (if rgp L P.b m.i m.b m.l = true then 0 else 174):=by unfold legE; rw [if_neg k5,if_neg k7,if_pos (by omega)]
    rw [hL]
    rw [k6] at c0
    clear hL k5 k7 k6 HPce hm q5 q7
    cases hr:rgp L P.b m.i m.b m.l
    · rw [hr] at HRng
      simp only [Bool.false_eq_true,if_false]
      clear hr
      go_enter Tryz.func70,Tryz.ntmps70
      go_upto_region 13 with fail
      refine wp_region_held_drew (S:=fun u=>MB u w.heap.size m∧Below w.heap.size w u) (by kernel_rfl) (⟨HS0.out.below (belowDrew _ 1),belowN HB.out 1⟩) (fun hHeld=>?_)
      refine tkB (i:=0) (v:=.pointer (some ⟨g,0,none⟩)) rfl hHeld ?_
      simp only [Act.put,zq1,zq2,zq4,zq5,zq6]
      refine tkB (i:=1) (v:=.pointer (some ⟨g,0,none⟩)) rfl hHeld ?_
      simp only [Act.put,zq1,zq2,zq3,zq4,zq5,zq6]
      refine tkB (i:=2) (v:=.pointer (some ⟨g,0,none⟩)) rfl hHeld ?_
      simp only [Act.put,zq1,zq2,zq3,zq4,zq5,zq6]
      refine tkA (i:=3) (v:=.agg m.cs) rfl (yieldsIf_load_mid (by rfl) _ _ rfl _ _ rfl _ _ (fun u hw=>hw.1.rng0) Tryz.underlying40 rfl hil) hHeld ?_
      simp only [Act.put,zq1,zq2,zq3,zq4,zq5,zq6]
      refine wpAnyH_ready (rs:=[4]) (by kernel_rfl) (by simp) ?_
      refine AllReadyH.cons (o:=_) rfl (fun K hK=>?_) AllReadyH.nil
      go_simp
      refine (HRng.out _ hHeld.2).mono ?_
      rintro e w2 ⟨rfl,b2⟩
      go_wp2_with fail
      refine hK.out _ _ (⟨hHeld.1.below b2,hHeld.2.trans (b2.mono hHeld.2.size)⟩) (fun hHeld=>?_)
      clear hK K
      have HS1:=Lib.hid hHeld
      refine tkB (i:=5) (v:=.bool true) rfl hHeld ?_
      simp only [Act.put,zq1,zq2,zq3,zq4,zq5,zq6]
      refine wpAnyH_done (by kernel_rfl) ?_ _
      clear hHeld
      go_wp2
      go_ret
      exact ⟨rfl,HS1.out.2⟩
    · rw [hr] at HRng
      simp only [if_true]
      clear hr
      go_enter Tryz.func70,Tryz.ntmps70
      go_upto_region 13 with fail
      refine wp_region_held_drew (S:=fun u=>MB u w.heap.size m∧Below w.heap.size w u) (by kernel_rfl) (⟨HS0.out.below (belowDrew _ 1),belowN HB.out 1⟩) (fun hHeld=>?_)
      refine tkB (i:=0) (v:=.pointer (some ⟨g,0,none⟩)) rfl hHeld ?_
      simp only [Act.put,zq1,zq2,zq4,zq5,zq6]
      refine tkB (i:=1) (v:=.pointer (some ⟨g,0,none⟩)) rfl hHeld ?_
      simp only [Act.put,zq1,zq2,zq3,zq4,zq5,zq6]
      refine tkB (i:=2) (v:=.pointer (some ⟨g,0,none⟩)) rfl hHeld ?_
      simp only [Act.put,zq1,zq2,zq3,zq4,zq5,zq6]
      refine tkA (i:=3) (v:=.agg m.cs) rfl (yieldsIf_load_mid (by rfl) _ _ rfl _ _ rfl _ _ (fun u hw=>hw.1.rng0) Tryz.underlying40 rfl hil) hHeld ?_
      simp only [Act.put,zq1,zq2,zq3,zq4,zq5,zq6]
      refine wpAnyH_ready (rs:=[4]) (by kernel_rfl) (by simp) ?_
      refine AllReadyH.cons (o:=_) rfl (fun K hK=>?_) AllReadyH.nil
      go_simp
      refine (HRng.out _ hHeld.2).mono ?_
      rintro e w2 ⟨rfl,b2⟩
      go_wp2_with fail
      refine hK.out _ _ (⟨hHeld.1.below b2,hHeld.2.trans (b2.mono hHeld.2.size)⟩) (fun hHeld=>?_)
      clear hK K
      have HS1:=Lib.hid hHeld
      refine tkB (i:=5) (v:=.bool false) rfl hHeld ?_
      simp only [Act.put,zq1,zq2,zq3,zq4,zq5,zq6]
      refine wpAnyH_done (by kernel_rfl) ?_ _
      clear hHeld
      go_wp2
      go_ret
      exact ⟨rfl,HS1.out.2⟩
  by_cases k8:m.k = 8
  · have hL:legE L P.b P.ib m D = (if rgp L P.b m.i m.b m.l = true then 0 else 174):=by unfold legE; rw [if_neg k5,if_neg k7,if_pos (by omega)]
    rw [hL]
    rw [k8] at c0
    clear hL k5 k7 k8 HPce hm q5 q7
    cases hr:rgp L P.b m.i m.b m.l
    · rw [hr] at HRng
      simp only [Bool.false_eq_true,if_false]
      clear hr
      go_enter Tryz.func70,Tryz.ntmps70
      go_upto_region 13 with fail
      refine wp_region_held_drew (S:=fun u=>MB u w.heap.size m∧Below w.heap.size w u) (by kernel_rfl) (⟨HS0.out.below (belowDrew _ 1),belowN HB.out 1⟩) (fun hHeld=>?_)
      refine tkB (i:=0) (v:=.pointer (some ⟨g,0,none⟩)) rfl hHeld ?_
      simp only [Act.put,zq1,zq2,zq4,zq5,zq6]
      refine tkB (i:=1) (v:=.pointer (some ⟨g,0,none⟩)) rfl hHeld ?_
      simp only [Act.put,zq1,zq2,zq3,zq4,zq5,zq6]
      refine tkB (i:=2) (v:=.pointer (some ⟨g,0,none⟩)) rfl hHeld ?_
      simp only [Act.put,zq1,zq2,zq3,zq4,zq5,zq6]
      refine tkA (i:=3) (v:=.agg m.cs) rfl (yieldsIf_load_mid (by rfl) _ _ rfl _ _ rfl _ _ (fun u hw=>hw.1.rng0) Tryz.underlying40 rfl hil) hHeld ?_
      simp only [Act.put,zq1,zq2,zq3,zq4,zq5,zq6]
      refine wpAnyH_ready (rs:=[4]) (by kernel_rfl) (by simp) ?_
      refine AllReadyH.cons (o:=_) rfl (fun K hK=>?_) AllReadyH.nil
      go_simp
      refine (HRng.out _ hHeld.2).mono ?_
      rintro e w2 ⟨rfl,b2⟩
      go_wp2_with fail
      refine hK.out _ _ (⟨hHeld.1.below b2,hHeld.2.trans (b2.mono hHeld.2.size)⟩) (fun hHeld=>?_)
      clear hK K
      have HS1:=Lib.hid hHeld
      refine tkB (i:=5) (v:=.bool true) rfl hHeld ?_
      simp only [Act.put,zq1,zq2,zq3,zq4,zq5,zq6]
      refine wpAnyH_done (by kernel_rfl) ?_ _
      clear hHeld
      go_wp2
      go_ret
      exact ⟨rfl,HS1.out.2⟩
    · rw [hr] at HRng
      simp only [if_true]
      clear hr
      go_enter Tryz.func70,Tryz.ntmps70
      go_upto_region 13 with fail
      refine wp_region_held_drew (S:=fun u=>MB u w.heap.size m∧Below w.heap.size w u) (by kernel_rfl) (⟨HS0.out.below (belowDrew _ 1),belowN HB.out 1⟩) (fun hHeld=>?_)
      refine tkB (i:=0) (v:=.pointer (some ⟨g,0,none⟩)) rfl hHeld ?_
      simp only [Act.put,zq1,zq2,zq4,zq5,zq6]
      refine tkB (i:=1) (v:=.pointer (some ⟨g,0,none⟩)) rfl hHeld ?_
      simp only [Act.put,zq1,zq2,zq3,zq4,zq5,zq6]
      refine tkB (i:=2) (v:=.pointer (some ⟨g,0,none⟩)) rfl hHeld ?_
      simp only [Act.put,zq1,zq2,zq3,zq4,zq5,zq6]
      refine tkA (i:=3) (v:=.agg m.cs) rfl (yieldsIf_load_mid (by rfl) _ _ rfl _ _ rfl _ _ (fun u hw=>hw.1.rng0) Tryz.underlying40 rfl hil) hHeld ?_
      simp only [Act.put,zq1,zq2,zq3,zq4,zq5,zq6]
      refine wpAnyH_ready (rs:=[4]) (by kernel_rfl) (by simp) ?_
      refine AllReadyH.cons (o:=_) rfl (fun K hK=>?_) AllReadyH.nil
      go_simp
      refine (HRng.out _ hHeld.2).mono ?_
      rintro e w2 ⟨rfl,b2⟩
      go_wp2_with fail
      refine hK.out _ _ (⟨hHeld.1.below b2,hHeld.2.trans (b2.mono hHeld.2.size)⟩) (fun hHeld=>?_)
      clear hK K
      have HS1:=Lib.hid hHeld
      refine tkB (i:=5) (v:=.bool false) rfl hHeld ?_
      simp only [Act.put,zq1,zq2,zq3,zq4,zq5,zq6]
      refine wpAnyH_done (by kernel_rfl) ?_ _
      clear hHeld
      go_wp2
      go_ret
      exact ⟨rfl,HS1.out.2⟩
  clear HRng
  have q6:(m.k == 6) = false:=by simp [k6]
  have q8:(m.k == 8) = false:=by simp [k8]
  by_cases k4:m.k = 4
  · have hL:legE L P.b P.ib m D = (if pce L m.i = true then 0 else 174):=by unfold legE; rw [if_neg k5,if_neg k7,if_neg (by omega),if_pos k4]
    rw [hL]
    rw [k4] at c0
    clear hL k5 k7 k6 k8 k4 hm q5 q7 q6 q8
    cases hr:pce L m.i
    · rw [hr] at HPce
      simp only [Bool.false_eq_true,if_false]
      clear hr
      go_enter Tryz.func70,Tryz.ntmps70
      go_upto_region 15 with fail
      refine wp_region_held_drew (S:=fun u=>MB u w.heap.size m∧Below w.heap.size w u) (by kernel_rfl) (⟨HS0.out.below (belowDrew _ 1),belowN HB.out 1⟩) (fun hHeld=>?_)
      refine tkB (i:=0) (v:=.pointer (some ⟨g,0,none⟩)) rfl hHeld ?_
      simp only [Act.put,zq1,zq2,zq4,zq5,zq6]
      refine tkB (i:=1) (v:=.pointer (some ⟨g,0,none⟩)) rfl hHeld ?_
      simp only [Act.put,zq1,zq2,zq3,zq4,zq5,zq6]
      refine tkB (i:=2) (v:=.pointer (some ⟨g,0,none⟩)) rfl hHeld ?_
      simp only [Act.put,zq1,zq2,zq3,zq4,zq5,zq6]
      refine tkB (i:=3) (v:=.pointer (some ⟨w.heap.size,1,none⟩)) rfl hHeld ?_
      simp only [Act.put,zq1,zq2,zq3,zq4,zq5,zq6]
      refine tkA (i:=4) (v:=.int .i64 m.i) rfl (Or.inl ⟨by rfl,fun w hw=>by have hq:=hw.1.c1; go_simp⟩) hHeld ?_
      simp only [Act.put,zq1,zq2,zq3,zq4,zq5,zq6]
      refine wpAnyH_ready (rs:=[5]) (by kernel_rfl) (by simp) ?_
      refine AllReadyH.cons (o:=_) rfl (fun K hK=>?_) AllReadyH.nil
      go_simp
      refine (HPce.out _ hHeld.2).mono ?_
      rintro e w2 ⟨rfl,rfl⟩
      have HS1:=Lib.hid hHeld
      go_wp2_with fail
      refine hK.out _ _ (hHeld) (fun hHeld=>?_)
      clear hK K
      refine tkB (i:=6) (v:=.bool true) rfl hHeld ?_
      simp only [Act.put,zq1,zq2,zq3,zq4,zq5,zq6]
      refine wpAnyH_done (by kernel_rfl) ?_ _
      clear hHeld
      go_wp2
      go_ret
      exact ⟨rfl,HS1.out.2⟩
    · rw [hr] at HPce
      simp only [if_true]
      clear hr
      go_enter Tryz.func70,Tryz.ntmps70
      go_upto_region 15 with fail
      refine wp_region_held_drew (S:=fun u=>MB u w.heap.size m∧Below w.heap.size w u) (by kernel_rfl) (⟨HS0.out.below (belowDrew _ 1),belowN HB.out 1⟩) (fun hHeld=>?_)
      refine tkB (i:=0) (v:=.pointer (some ⟨g,0,none⟩)) rfl hHeld ?_
      simp only [Act.put,zq1,zq2,zq4,zq5,zq6]
      refine tkB (i:=1) (v:=.pointer (some ⟨g,0,none⟩)) rfl hHeld ?_
      simp only [Act.put,zq1,zq2,zq3,zq4,zq5,zq6]
      refine tkB (i:=2) (v:=.pointer (some ⟨g,0,none⟩)) rfl hHeld ?_
      simp only [Act.put,zq1,zq2,zq3,zq4,zq5,zq6]
      refine tkB (i:=3) (v:=.pointer (some ⟨w.heap.size,1,none⟩)) rfl hHeld ?_
      simp only [Act.put,zq1,zq2,zq3,zq4,zq5,zq6]
      refine tkA (i:=4) (v:=.int .i64 m.i) rfl (Or.inl ⟨by rfl,fun w hw=>by have hq:=hw.1.c1; go_simp⟩) hHeld ?_
      simp only [Act.put,zq1,zq2,zq3,zq4,zq5,zq6]
      refine wpAnyH_ready (rs:=[5]) (by kernel_rfl) (by simp) ?_
      refine AllReadyH.cons (o:=_) rfl (fun K hK=>?_) AllReadyH.nil
      go_simp
      refine (HPce.out _ hHeld.2).mono ?_
      rintro e w2 ⟨rfl,rfl⟩
      have HS1:=Lib.hid hHeld
      go_wp2_with fail
      refine hK.out _ _ (hHeld) (fun hHeld=>?_)
      clear hK K
      refine tkB (i:=6) (v:=.bool false) rfl hHeld ?_
      simp only [Act.put,zq1,zq2,zq3,zq4,zq5,zq6]
      refine wpAnyH_done (by kernel_rfl) ?_ _
      clear hHeld
      go_wp2
      go_ret
      exact ⟨rfl,HS1.out.2⟩
  · have hL:legE L P.b P.ib m D = 0:=by unfold legE; rw [if_neg k5,if_neg k7,if_neg (by omega),if_neg k4]
    rw [hL]
    have q4:(m.k == 4) = false:=by simp [k4]
    clear hL k5 k7 k6 k8 k4 hm HPce
    generalize m.k = mk at *
    go_enter Tryz.func70,Tryz.ntmps70
    go_wp2
    go_ret
    exact ⟨rfl,HB.out⟩
def HN (w w':World) (n:Nat) (P:Pv) (H:List UInt8) (m:Mv) (D:List UInt8) (hv:Value) (H':List UInt8):Prop:=
  (m.k = 4∧((Bs.gB (n:Int) H m.i = true∧hv = P.hs∧H' = H)∨(Bs.gB (n:Int) H m.i = false∧Bs.PU (n:Int) H m.i true H'∧OW w.heap.size w' hv H'))) ∨
  (m.k = 5∧H' = D∧OW w.heap.size w' hv D)∨(m.k≠4∧m.k≠5∧hv = P.hs∧H' = H)
def Pv.took (P:Pv) (hv:Value) (k:Int):Pv:={ P with hs:=hv,ic:=(sy k P.ic P.ii P.ib).1,ii:=(sy k P.ic P.ii P.ib).2.1,ib:=(sy k P.ic P.ii P.ib).2.2 }
theorem OW.frame {B g:Nat} {w w':World} {v:Value} {l:List UInt8} (h:OW B w v l) (hg:g < B) (hf:Fm.Fr (fun k=>k≠g) w w'):OW B w' v l:=by
  refine ⟨h.1,?_⟩
  rcases h.2 with h1 | ⟨q,cap,cur,h1,h2,h3,h4⟩
  · exact .inl h1
  · exact .inr ⟨q,cap,cur,h1,h2,(hf.block q (Array.getElem?_eq_some_iff.1 h3).1 (by omega)).trans h3,h4⟩
theorem frT {S:Nat→Prop} {a b c:World} (h1:Fm.Fr S a b) (h2:Fm.Fr S b c):Fm.Fr S a c:=h1.trans h2 (fun _ _ h=>h)
set_option maxHeartbeats 2000000 in
set_option maxRecDepth 100000 in
theorem takeT (w:World) (g:Nat) (P:Pv) (L:List Int) (h:PL w g P L) (H:List UInt8) (hr:RB w P.hs H) (hH:H.length≤140737488351232) (m:Mv) (D:List UInt8) (hd:RB w m.d D) (hD:D.length≤140737488351232) (hmt:Bs.MT w) (i0:-9223372036854775808≤m.i) (i1:m.i≤9223372036854775807) :
    Calls Tryz.prog 71 #[.pointer (some ⟨g,0,none⟩),.agg m.cs] w fun e w'=>e = .returned (.tuple #[])∧∃ hv H',PK w' g (P.took hv m.k)∧HN w w' L.length P H m D hv H'∧Fm.Fr (fun k=>k≠g) w w':=by
  obtain ⟨da,dc,hda,_⟩:=id hd
  have hb:MB (w.alloc (.cells m.cs 40)) w.heap.size m:=heapNew w (.cells m.cs 40)
  have HB:Hid (Below w.heap.size w (w.alloc (.cells m.cs 40))):=(Below.refl _ _).alloc (Nat.le_refl _) _
  have HS0:Hid (MB (w.alloc (.cells m.cs 40)) w.heap.size m):=hb
  have hgl:=h.pk.lt
  have HP0:Hid (PL (w.alloc (.cells m.cs 40)) g P L):=h.below HB.out
  have c0:=hb.c0
  have c1:=hb.c1
  have c4:=hb.cell 4 (show m.ls[4]? = some m.d from rfl)
  have hsz:(w.alloc (.cells m.cs 40)).heap.size = w.heap.size + 1:=by show (w.heap.push _).size = _; simp
  rw [hda] at c4
  by_cases k4:m.k = 4
  · have HGn:Hid (Calls Tryz.prog 99 #[.pointer (some ⟨g,0,none⟩),.int .i64 m.i] (w.alloc (.cells m.cs 40)) fun e w'=>e = .returned (.tuple #[])∧∃ hv H',PK w' g { P with hs:=hv }∧((Bs.gB (L.length:Int) H m.i = true∧hv = P.hs∧H' = H)∨(Bs.gB (L.length:Int) H m.i = false∧Bs.PU (L.length:Int) H m.i true H'∧OW (w.alloc (.cells m.cs 40)).heap.size w' hv H'))∧Fm.Fr (fun k=>k≠g) (w.alloc (.cells m.cs 40)) w'):=by
      obtain ⟨la,lc,e,_⟩:=h.rz
      exact gainT _ g P HP0.out.pk L la lc e h.ok.1 H (hr.keep HB.out) hH (hmt.keep HB.out) m.i i0 i1
    have hkk:=k4
    rw [k4] at c0
    clear h hr hd hmt hb
    go_enter Tryz.func71,Tryz.ntmps71
    go_wp2_with fail
    refine HGn.out.mono ?_
    rintro e w1 ⟨rfl,hv,H',k1,hn,f1⟩
    have HM1:MB w1 w.heap.size m:=(f1.block w.heap.size (by omega) (by omega)).trans HS0.out
    have HMM:=Lib.hid HM1
    have HK1:=Lib.hid k1
    have HN1:=Lib.hid hn
    have HF1:=Lib.hid f1
    clear HM1 k1 hn f1 HGn c0 c1 c4 HS0
    go_upto_region 6 with fail
    refine wp_region_held_drew (S:=fun u=>MB u w.heap.size m) (by kernel_rfl) (HMM.out.below (belowDrew w1 1)) (fun hHeld=>?_)
    refine tkB (i:=0) (v:=.pointer (some ⟨g,0,none⟩)) rfl hHeld ?_
    simp only [Act.put,zq1,zq2,zq4,zq5,zq6]
    refine tkB (i:=1) (v:=.pointer (some ⟨g,0,none⟩)) rfl hHeld ?_
    simp only [Act.put,zq1,zq2,zq3,zq4,zq5,zq6]
    refine tkB (i:=2) (v:=.pointer (some ⟨g,28,none⟩)) rfl hHeld ?_
    simp only [Act.put,zq1,zq2,zq3,zq4,zq5,zq6]
    refine tkB (i:=3) (v:=.pointer (some ⟨w.heap.size,0,none⟩)) rfl hHeld ?_
    simp only [Act.put,zq1,zq2,zq3,zq4,zq5,zq6]
    refine tkA (i:=4) (v:=.int .i64 4) rfl (Or.inl ⟨by rfl,fun w hw=>by have hq:=hw.c0; rw [hkk] at hq; go_simp⟩) hHeld ?_
    simp only [Act.put,zq1,zq2,zq3,zq4,zq5,zq6]
    refine wpAnyH_ready (rs:=[5]) (by kernel_rfl) (by simp) ?_
    refine AllReadyH.cons (o:=_) rfl (fun K hK=>?_) AllReadyH.nil
    go_simp
    refine (saysI w1.drew g _ (HK1.out.keep rfl) 4).mono ?_
    rintro e w9 ⟨rfl,k9,f9⟩
    have HF:Hid _:=And.intro k9 f9
    have hm9:MB w9 w.heap.size m:=(f9.block w.heap.size (HMM.out.lt) (by omega)).trans HMM.out
    clear k9 f9
    go_wp2_with fail
    refine hK.out _ _ hm9 (fun hHeld=>?_)
    clear hK K
    refine wpAnyH_done (by kernel_rfl) ?_ _
    clear hHeld
    go_wp2
    go_end0
    refine ⟨rfl,hv,H',by have:=HF.out.1; rw [hkk]; exact this,.inl ⟨hkk,?_⟩,?_⟩
    · rcases HN1.out with h1 | ⟨h1,h2,h3⟩
      · exact .inl h1
      · exact .inr ⟨h1,h2,OW.frame (h3.mono (by omega)) hgl (frT (Fm.Fr.of_below (belowDrew w1 1)) HF.out.2)⟩
    · exact frT (Fm.Fr.of_below HB.out) (frT HF1.out (frT (Fm.Fr.of_below (belowDrew w1 1)) HF.out.2))
  by_cases k5:m.k = 5
  · have HCl:Hid (Calls Tryz.prog 57 #[.slice da D.length dc] (w.alloc (.cells m.cs 40)) fun e w'=>∃ v',e = .returned v'∧Bs.OW (w.alloc (.cells m.cs 40)).heap.size w' v' D∧Below (w.alloc (.cells m.cs 40)).heap.size (w.alloc (.cells m.cs 40)) w'):=by
      have h9:=Bs.clone34 m.d D (w.alloc (.cells m.cs 40)) (bsRB (hd.keep HB.out)) hD
      rw [hda] at h9
      exact h9
    have q4:(m.k == 4) = false:=by simp [k4]
    have hkk:=k5
    rw [k5] at c0 q4
    clear h hr hd hmt hb
    go_enter Tryz.func71,Tryz.ntmps71
    go_wp2_with fail
    refine HCl.out.mono ?_
    rintro e w1 ⟨v1,rfl,o1,b1⟩
    obtain ⟨a1,c1',rfl⟩:=(bsOW o1).form
    have K1:=HP0.out.pk.keep (b1.block g (by omega))
    have c31:=K1.cells.2.2.2.2.2
    have f31:=K1.fr 31
    have HMM0:=Lib.hid (HS0.out.below b1)
    have HK2:Hid (PK (w1.setCell ⟨g,31,none⟩ (.slice a1 D.length c1')) g { P with hs:=.slice a1 D.length c1' }):=K1.set 11 _ _ rfl rfl
    have HF2:Hid (Fm.Fr (fun k=>k≠g) (w.alloc (.cells m.cs 40)) (w1.setCell ⟨g,31,none⟩ (.slice a1 D.length c1'))):=(Fm.Fr.of_below b1).setCell g 31 _ (fun h=>h rfl)
    have HO2:Hid (OW w.heap.size (w1.setCell ⟨g,31,none⟩ (.slice a1 D.length c1')) (.slice a1 D.length c1') D):=OW.setOther ((bsOW o1).mono (by omega)) hgl _ _
    have HM2:Hid (MB (w1.setCell ⟨g,31,none⟩ (.slice a1 D.length c1')) w.heap.size m):=(Below.heap_setCell w1 ⟨g,31,none⟩ _ w.heap.size (by show w.heap.size≠g; omega)).trans HMM0.out
    clear o1 b1 K1 HMM0 HCl
    go_upto_region 6 with fail
    obtain ⟨w2,hw2⟩:∃ u,u = w1.setCell ⟨g,31,none⟩ (.slice a1 D.length c1'):=⟨_,rfl⟩
    rw [← hw2] at HK2 HF2 HO2 HM2 ⊢
    clear hw2 c31 f31 c0 c1 c4 HS0
    refine wp_region_held_drew (S:=fun u=>MB u w.heap.size m) (by kernel_rfl) (HM2.out.below (belowDrew w2 1)) (fun hHeld=>?_)
    refine tkB (i:=0) (v:=.pointer (some ⟨g,0,none⟩)) rfl hHeld ?_
    simp only [Act.put,zq1,zq2,zq4,zq5,zq6]
    refine tkB (i:=1) (v:=.pointer (some ⟨g,0,none⟩)) rfl hHeld ?_
    simp only [Act.put,zq1,zq2,zq3,zq4,zq5,zq6]
    refine tkB (i:=2) (v:=.pointer (some ⟨g,28,none⟩)) rfl hHeld ?_
    simp only [Act.put,zq1,zq2,zq3,zq4,zq5,zq6]
    refine tkB (i:=3) (v:=.pointer (some ⟨w.heap.size,0,none⟩)) rfl hHeld ?_
    simp only [Act.put,zq1,zq2,zq3,zq4,zq5,zq6]
    refine tkA (i:=4) (v:=.int .i64 5) rfl (Or.inl ⟨by rfl,fun w hw=>by have hq:=hw.c0; rw [hkk] at hq; go_simp⟩) hHeld ?_
    simp only [Act.put,zq1,zq2,zq3,zq4,zq5,zq6]
    refine wpAnyH_ready (rs:=[5]) (by kernel_rfl) (by simp) ?_
    refine AllReadyH.cons (o:=_) rfl (fun K hK=>?_) AllReadyH.nil
    go_simp
    refine (saysI w2.drew g _ (HK2.out.keep rfl) 5).mono ?_
    rintro e w9 ⟨rfl,k9,f9⟩
    have HF:Hid _:=And.intro k9 f9
    have hm9:MB w9 w.heap.size m:=(f9.block w.heap.size (HM2.out.lt) (by omega)).trans HM2.out
    clear k9 f9
    go_wp2_with fail
    refine hK.out _ _ hm9 (fun hHeld=>?_)
    clear hK K
    refine wpAnyH_done (by kernel_rfl) ?_ _
    clear hHeld
    go_wp2
    go_end0
    exact ⟨rfl,_,D,by have:=HF.out.1; rw [hkk]; exact this,.inr (.inl ⟨hkk,rfl,OW.frame HO2.out hgl (frT (Fm.Fr.of_below (belowDrew w2 1)) HF.out.2)⟩),frT (Fm.Fr.of_below HB.out) (frT HF2.out (frT (Fm.Fr.of_below (belowDrew w2 1)) HF.out.2))⟩
  · have q4:(m.k == 4) = false:=by simp [k4]
    have q5:(m.k == 5) = false:=by simp [k5]
    have HKK:Hid (m.k≠4∧m.k≠5):=⟨k4,k5⟩
    clear h hr hd hmt hb k4 k5
    go_enter Tryz.func71,Tryz.ntmps71
    go_upto_region 6 with fail
    refine wp_region_held_drew (S:=fun u=>MB u w.heap.size m) (by kernel_rfl) (HS0.out.below (belowDrew (w.alloc (.cells m.cs 40)) 1)) (fun hHeld=>?_)
    refine tkB (i:=0) (v:=.pointer (some ⟨g,0,none⟩)) rfl hHeld ?_
    simp only [Act.put,zq1,zq2,zq4,zq5,zq6]
    refine tkB (i:=1) (v:=.pointer (some ⟨g,0,none⟩)) rfl hHeld ?_
    simp only [Act.put,zq1,zq2,zq3,zq4,zq5,zq6]
    refine tkB (i:=2) (v:=.pointer (some ⟨g,28,none⟩)) rfl hHeld ?_
    simp only [Act.put,zq1,zq2,zq3,zq4,zq5,zq6]
    refine tkB (i:=3) (v:=.pointer (some ⟨w.heap.size,0,none⟩)) rfl hHeld ?_
    simp only [Act.put,zq1,zq2,zq3,zq4,zq5,zq6]
    refine tkA (i:=4) (v:=.int .i64 m.k) rfl (Or.inl ⟨by rfl,fun w hw=>by have hq:=hw.c0; go_simp⟩) hHeld ?_
    simp only [Act.put,zq1,zq2,zq3,zq4,zq5,zq6]
    refine wpAnyH_ready (rs:=[5]) (by kernel_rfl) (by simp) ?_
    refine AllReadyH.cons (o:=_) rfl (fun K hK=>?_) AllReadyH.nil
    go_simp
    refine (saysI (w.alloc (.cells m.cs 40)).drew g _ (HP0.out.pk.keep rfl) m.k).mono ?_
    rintro e w9 ⟨rfl,k9,f9⟩
    have HF:Hid _:=And.intro k9 f9
    have hm9:MB w9 w.heap.size m:=(f9.block w.heap.size (HS0.out.lt) (by omega)).trans HS0.out
    clear k9 f9
    go_wp2_with fail
    refine hK.out _ _ hm9 (fun hHeld=>?_)
    clear hK K
    refine wpAnyH_done (by kernel_rfl) ?_ _
    clear hHeld
    go_wp2
    go_end0
    exact ⟨rfl,P.hs,H,HF.out.1,.inr (.inr ⟨HKK.out.1,HKK.out.2,rfl,rfl⟩),frT (Fm.Fr.of_below HB.out) (frT (Fm.Fr.of_below (belowDrew _ 1)) HF.out.2)⟩
structure OMg (B:Nat) (w:World) (x:Mg):Prop where
  ok:x.m.ok
  d:OW B w x.m.d x.D
  h:OH B w x.m.h x.hb
  dl:x.D.length≤32768
  hl:x.hb.length≤32768
theorem OMg.mm {B:Nat} {w:World} {x:Mg} (h:OMg B w x):MM w x.m x.D x.hb:=⟨h.ok,h.d.rb,h.h.rh,by have:=h.dl; omega,by have:=h.hl; omega⟩
theorem ok_ls {m:Mv} (h:m.ok):m.ls.length = 40:=by have:=h.size; unfold Mv.cs at this; simpa using this
theorem OMg.grow {B:Nat} {w w':World} {x:Mg} (h:OMg B w x) (hb:Below w.heap.size w w'):OMg B w' x:=⟨h.ok,h.d.grow hb,h.h.grow hb,h.dl,h.hl⟩
theorem build_msg {ops:Array Oper} {rest:List Oper} {o:Oper} {a:Act} {w:World} {Q:Exit→Act→World→Prop} (hg:o.guard = none) (x:Operand) (ho:o.op = .buildSlice 107 1 #[(0,x)]) (cs:Array Value) (hv:a.eval x = .agg cs) (hl:cs.size = 40)
    (h:wpList Tryz.prog ops Q rest (a.put o.dst (.slice (some ⟨w.heap.size,0,none⟩) 1 1)) (w.alloc (.cells cs 40))):wpList Tryz.prog ops Q (o :: rest) a w:=by
  obtain ⟨i0,hi,hz0,hz1,hz2⟩:=info_parts info_msgP
  refine wpList_buildSlice hg 107 40 1 _ ho cs i0 _ Tryz.underlying107 hi hz0 (by rw [hz1]; decide) (by rw [hz1]; decide) ?_ h
  rw [hz1]
  have e:(#[(0,x)].map fun (i,y)=>(i,a.eval y)).toList = [(0,.agg cs)]:=by simp [hv]
  rw [e]
  exact fillN 40 cs hl _ (by rw [Array.size_map,Array.size_range])
def mgOf (b:List UInt8) (d h:Value):Mg:=⟨{ (decS b).m with d:=d,h:=h },(decS b).D,(decS b).hb⟩
theorem decS_len (l:List UInt8):(decS l).D.length≤32768∧(decS l).hb.length≤32768:=by
  unfold decS
  by_cases hE:decE l = 0
  · rw [if_pos hE]
    unfold decE at hE
    split at hE
    · omega
    · rename_i h1
      cases hr:rowFor (kindB l) with
      | none=>rw [hr] at hE; simp at hE
      | some r =>
        simp only
        have key:∀ (cs:List Nat) (s:Ds),s.l.length≤32768→s.D.length≤32768→s.hb.length≤32768→(Ds.tks cs s).D.length≤32768∧(Ds.tks cs s).hb.length≤32768:=by
          intro cs
          induction cs with
          | nil=>intro s _ h2 h3; exact ⟨h2,h3⟩
          | cons c cs ih =>
            intro s h1 h2 h3
            refine ih (Ds.tk c s) (Nat.le_trans (rst_le c s.l) h1) ?_ ?_
            · show (dD c s.l s.D).length≤_
              unfold dD; split <;> assumption
            · show (dH c s.l s.hb).length≤_
              unfold dH; split <;> assumption
        exact key r.cs ⟨zmk r.k, [], [],l⟩ (by simp only; omega) (by simp) (by simp)
  · rw [if_neg hE]
    exact ⟨by simp,by simp⟩
theorem OMg.of_dec {B:Nat} {w w':World} {l:List UInt8} {d h:Value} (hB:B≤w.heap.size) (hd:OW w.heap.size w' d (decS l).D) (hh:OH w.heap.size w' h (decS l).hb):OMg B w' (mgOf l d h):=by
  have hm:=MM.of_dec hd hh
  have hl:=decS_len l
  obtain ⟨n,e,h1⟩:=hh
  exact ⟨hm.ok,hd.mono hB,⟨n,e,ownsRow_mono h1 hB⟩,hl.1,hl.2⟩
end Go.Proofs.YtfjjpbebnoghmaaGreatDoor
