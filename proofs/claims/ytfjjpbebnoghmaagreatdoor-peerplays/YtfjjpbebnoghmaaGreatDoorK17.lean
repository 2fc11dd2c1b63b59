import Derived.Test.YtfjjpbebnoghmaaGreatDoorK00
import Derived.Test.YtfjjpbebnoghmaaGreatDoorK16
namespace Go.Proofs.YtfjjpbebnoghmaaGreatDoor
open Go.RowKit
set_option maxHeartbeats 1000000 in
set_option maxRecDepth 100000 in
theorem isCutT (w:World) (g:Nat) (P:Pv) (L:List Int) (h:PL w g P L) (m:Mv) (ok:m.ok) (n c:Nat) (a:Option Addr) (hd:m.d = .slice a n c) (hm:MBd m n) :
    Calls Tryz.prog 98 #[.pointer (some ⟨g,0,none⟩),.agg m.cs] w fun e w'=>e = .returned (.bool (ctp L P.b m.i m.b (lng m.k m.l n)))∧Below w.heap.size w w':=by
  have hb:MB (w.alloc (.cells m.cs 40)) w.heap.size m:=heapNew w (.cells m.cs 40)
  have hi:=info_msg ok
  have HB:Hid (Below w.heap.size w (w.alloc (.cells m.cs 40))):=(Below.refl _ _).alloc (Nat.le_refl _) _
  have HL:Hid (Calls Tryz.prog 107 #[.agg m.cs] (w.alloc (.cells m.cs 40)) fun e w'=>e = .returned (.int .i64 (lng m.k m.l n))∧Below (w.alloc (.cells m.cs 40)).heap.size (w.alloc (.cells m.cs 40)) w'):=lengthT _ m n c a hd
  have HM:Hid (MB (w.alloc (.cells m.cs 40)) w.heap.size m):=hb
  have HP:Hid (PL w g P L):=h
  have hg:=hb
  have hln:0≤lng m.k m.l n∧lng m.k m.l n≤140737488351232:=by unfold lng; have:=hm.l0; have:=hm.l1; have:=hm.n1; split <;> omega
  clear hb h
  generalize lng m.k m.l n = z at *
  obtain ⟨r,hr⟩:∃ r,r = ctp L P.b m.i m.b z:=⟨_,rfl⟩
  rw [← hr]
  have HRr:Hid (r = ctp L P.b m.i m.b z):=hr
  clear hr
  go_enter Tryz.func98,Tryz.ntmps98
  go_wp2_with (first |(refine load_msg_if rfl _ rfl w.heap.size rfl m.cs hg hi ?_))
  refine HL.out.mono ?_
  rintro e w1 ⟨rfl,b1⟩
  have HM1:=Lib.hid (HM.out.below b1)
  have HP1:=Lib.hid ((HP.out.below HB.out).below b1)
  have HB1:=Lib.hid (HB.out.trans (b1.mono HB.out.size))
  clear b1 hg HL HM HP HB
  obtain ⟨c0,_⟩:=HP1.out.pk.cells
  have c1:=HM1.out.c1
  have c2:=HM1.out.c2
  have HI:Hid (∀ u,u = w1.drew→Calls Tryz.prog 86 #[.pointer (some ⟨g,0,none⟩),.int .i64 m.i] u fun e w'=>e = .returned (.bool (pce L m.i))∧w' = u):=fun u hu=>by
    obtain ⟨la,lc,e,_⟩:=HP1.out.rz
    rw [hu]
    exact isPieceT w1.drew g P HP1.out.pk L la lc e m.i
  by_cases hp:pce L m.i = true
  · obtain ⟨j,hj,hji⟩:∃ j:Nat,m.i = (j:Int)∧j < L.length:=by
      unfold pce at hp
      simp only [Bool.and_eq_true,decide_eq_true_eq] at hp
      exact ⟨m.i.toNat,by omega,by omega⟩
    obtain ⟨la,lc,hln',_,hrz⟩:=HP1.out.rz
    rcases hrz with hnil | ⟨gl,ol,rfl,_,hcl⟩
    · rw [hnil] at hji; simp at hji
    have c3:=(HP1.out.pk.cells).2.1
    rw [hln'] at c3
    have c4:=hcl j hji
    have hLj:=HP1.out.ok.2 j hji
    rw [hp] at HI
    have hx:ctp L P.b m.i m.b z = ((m.b % P.b == 0) && (z == P.b || m.b == Bs.iz L j - z)):=by unfold ctp; rw [hp,hj]; simp
    have hr:=HRr.out
    rw [hx] at hr
    rw [hj] at c1 HI
    have hm0:=hm.b0
    have hm1:=hm.b1
    have hp0:=HP1.out.b0
    have hp1:=HP1.out.b1
    have hsub:IntKind.i64.wrap (Bs.iz L j - z) = Bs.iz L j - z:=IntWalk.i64_in _ (by omega)
    have hrm:m.b.tmod P.b = m.b % P.b:=Int.tmod_eq_emod_of_nonneg hm0
    have hmod0:0≤m.b % P.b:=Int.emod_nonneg _ (by omega)
    have hmod1:m.b % P.b < P.b:=Int.emod_lt_of_pos _ (by omega)
    have hwm:IntKind.i64.wrap (m.b % P.b) = m.b % P.b:=IntWalk.i64_in _ (by omega)
    have hpne:(P.b == 0) = false:=by simp; omega
    have hpne2:P.b≠0:=by omega
    clear hx hp hcl hln' hm hd ok HM1 HRr hi
    generalize Bs.iz L j = x at *
    generalize P.b = pb at *
    generalize m.b = mb at *
    cases e0:(mb % pb == 0)
    · rw [e0,Bool.false_and] at hr
      subst hr
      go_upto_region 2 with fail
      refine wp_region_held_drew (S:=fun u=>u.cell? ⟨w.heap.size,1,none⟩ = some (.int .i64 (j:Int))∧u.cell? ⟨w.heap.size,2,none⟩ = some (.int .i64 mb)∧u.cell? ⟨g,20,none⟩ = some (.int .i64 pb)∧u.cell? ⟨g,21,none⟩ = some (.slice (some ⟨gl,ol,none⟩) L.length lc)∧u.cell? ⟨gl,ol + j,none⟩ = some (.int .i64 x)) (by kernel_rfl) (⟨c1,c2,c0,c3,c4⟩) (fun hHeld=>?_)
      refine tkB (i:=0) (v:=.pointer (some ⟨g,0,none⟩)) rfl hHeld ?_
      simp only [Act.put,zq1,zq2,zq4,zq5,zq6]
      refine tkB (i:=1) (v:=.pointer (some ⟨w.heap.size,1,none⟩)) rfl hHeld ?_
      simp only [Act.put,zq1,zq2,zq3,zq4,zq5,zq6]
      refine tkA (i:=2) (v:=.int .i64 (j:Int)) rfl (Or.inl ⟨by rfl,fun w hw=>by have hq:=hw.1; go_simp⟩) hHeld ?_
      simp only [Act.put,zq1,zq2,zq3,zq4,zq5,zq6]
      refine wpAnyH_ready (rs:=[3]) (by kernel_rfl) (by simp) ?_
      refine AllReadyH.cons (o:=_) rfl (fun K hK=>?_) AllReadyH.nil
      go_simp
      refine (HI.out _ rfl).mono ?_
      rintro e w' ⟨rfl,rfl⟩
      go_wp2_with fail
      refine hK.out _ _ (⟨c1,c2,c0,c3,c4⟩) (fun hHeld=>?_)
      clear hK K
      refine tkB (i:=4) (v:=.bool true) rfl hHeld ?_
      simp only [Act.put,zq1,zq2,zq3,zq4,zq5,zq6]
      refine tkB (i:=5) (v:=.pointer (some ⟨w.heap.size,2,none⟩)) rfl hHeld ?_
      simp only [Act.put,zq1,zq2,zq3,zq4,zq5,zq6]
      refine tkA (i:=6) (v:=.int .i64 mb) rfl (Or.inl ⟨by rfl,fun w hw=>by have hq:=hw.2.1; go_simp⟩) hHeld ?_
      simp only [Act.put,zq1,zq2,zq3,zq4,zq5,zq6]
      refine tkB (i:=7) (v:=.pointer (some ⟨g,0,none⟩)) rfl hHeld ?_
      simp only [Act.put,zq1,zq2,zq3,zq4,zq5,zq6]
      refine tkB (i:=8) (v:=.pointer (some ⟨g,0,none⟩)) rfl hHeld ?_
      simp only [Act.put,zq1,zq2,zq3,zq4,zq5,zq6]
      refine tkB (i:=9) (v:=.pointer (some ⟨g,20,none⟩)) rfl hHeld ?_
      simp only [Act.put,zq1,zq2,zq3,zq4,zq5,zq6]
      refine tkA (i:=10) (v:=.int .i64 pb) rfl (Or.inl ⟨by rfl,fun w hw=>by have hq:=hw.2.2.1; go_simp⟩) hHeld ?_
      simp only [Act.put,zq1,zq2,zq3,zq4,zq5,zq6]
      refine tkB (i:=11) (v:=.int .i64 (mb % pb)) rfl hHeld ?_
      simp only [Act.put,zq1,zq2,zq3,zq4,zq5,zq6]
      refine tkB (i:=12) (v:=.bool false) rfl hHeld ?_
      simp only [Act.put,zq1,zq2,zq3,zq4,zq5,zq6]
      refine tkB (i:=13) (v:=.bool false) rfl hHeld ?_
      simp only [Act.put,zq1,zq2,zq3,zq4,zq5,zq6]
      refine tkB (i:=14) (v:=.bool false) rfl hHeld ?_
      simp only [Act.put,zq1,zq2,zq3,zq4,zq5,zq6]
      refine tkA (i:=15) (v:=undef) rfl (Or.inr ⟨by rfl,rfl⟩) hHeld ?_
      simp only [Act.put,zq1,zq2,zq3,zq4,zq5,zq6]
      refine tkA (i:=16) (v:=undef) rfl (Or.inr ⟨by rfl,rfl⟩) hHeld ?_
      simp only [Act.put,zq1,zq2,zq3,zq4,zq5,zq6]
      refine tkA (i:=17) (v:=undef) rfl (Or.inr ⟨by rfl,rfl⟩) hHeld ?_
      simp only [Act.put,zq1,zq2,zq3,zq4,zq5,zq6]
      refine tkA (i:=18) (v:=undef) rfl (Or.inr ⟨by rfl,rfl⟩) hHeld ?_
      simp only [Act.put,zq1,zq2,zq3,zq4,zq5,zq6]
      refine tkA (i:=19) (v:=undef) rfl (Or.inr ⟨by rfl,rfl⟩) hHeld ?_
      simp only [Act.put,zq1,zq2,zq3,zq4,zq5,zq6]
      refine tkA (i:=20) (v:=undef) rfl (Or.inr ⟨by rfl,rfl⟩) hHeld ?_
      simp only [Act.put,zq1,zq2,zq3,zq4,zq5,zq6]
      refine tkA (i:=21) (v:=undef) rfl (Or.inr ⟨by rfl,rfl⟩) hHeld ?_
      simp only [Act.put,zq1,zq2,zq3,zq4,zq5,zq6]
      refine tkA (i:=22) (v:=undef) rfl (Or.inr ⟨by rfl,rfl⟩) hHeld ?_
      simp only [Act.put,zq1,zq2,zq3,zq4,zq5,zq6]
      refine tkA (i:=23) (v:=undef) rfl (Or.inr ⟨by rfl,rfl⟩) hHeld ?_
      simp only [Act.put,zq1,zq2,zq3,zq4,zq5,zq6]
      refine tkA (i:=24) (v:=undef) rfl (Or.inr ⟨by rfl,rfl⟩) hHeld ?_
      simp only [Act.put,zq1,zq2,zq3,zq4,zq5,zq6]
      refine tkA (i:=25) (v:=undef) rfl (Or.inr ⟨by rfl,rfl⟩) hHeld ?_
      simp only [Act.put,zq1,zq2,zq3,zq4,zq5,zq6]
      refine tkA (i:=26) (v:=undef) rfl (Or.inr ⟨by rfl,rfl⟩) hHeld ?_
      simp only [Act.put,zq1,zq2,zq3,zq4,zq5,zq6]
      refine tkA (i:=27) (v:=undef) rfl (Or.inr ⟨by rfl,rfl⟩) hHeld ?_
      simp only [Act.put,zq1,zq2,zq3,zq4,zq5,zq6]
      refine tkA (i:=28) (v:=undef) rfl (Or.inr ⟨by rfl,rfl⟩) hHeld ?_
      simp only [Act.put,zq1,zq2,zq3,zq4,zq5,zq6]
      refine tkA (i:=29) (v:=undef) rfl (Or.inr ⟨by rfl,rfl⟩) hHeld ?_
      simp only [Act.put,zq1,zq2,zq3,zq4,zq5,zq6]
      refine tkA (i:=30) (v:=undef) rfl (Or.inr ⟨by rfl,rfl⟩) hHeld ?_
      simp only [Act.put,zq1,zq2,zq3,zq4,zq5,zq6]
      refine tkA (i:=31) (v:=undef) rfl (Or.inr ⟨by rfl,rfl⟩) hHeld ?_
      simp only [Act.put,zq1,zq2,zq3,zq4,zq5,zq6]
      refine tkA (i:=32) (v:=undef) rfl (Or.inr ⟨by rfl,rfl⟩) hHeld ?_
      simp only [Act.put,zq1,zq2,zq3,zq4,zq5,zq6]
      refine tkA (i:=33) (v:=undef) rfl (Or.inr ⟨by rfl,rfl⟩) hHeld ?_
      simp only [Act.put,zq1,zq2,zq3,zq4,zq5,zq6]
      refine tkA (i:=34) (v:=undef) rfl (Or.inr ⟨by rfl,rfl⟩) hHeld ?_
      simp only [Act.put,zq1,zq2,zq3,zq4,zq5,zq6]
      refine tkA (i:=35) (v:=undef) rfl (Or.inr ⟨by rfl,rfl⟩) hHeld ?_
      simp only [Act.put,zq1,zq2,zq3,zq4,zq5,zq6]
      refine tkB (i:=36) (v:=.bool false) rfl hHeld ?_
      simp only [Act.put,zq1,zq2,zq3,zq4,zq5,zq6]
      refine tkB (i:=37) (v:=.bool false) rfl hHeld ?_
      simp only [Act.put,zq1,zq2,zq3,zq4,zq5,zq6]
      refine wpAnyH_done (by kernel_rfl) ?_ _
      clear hHeld
      go_wp2
      go_ret
      exact ⟨rfl,belowN HB1.out 1⟩
    · rw [e0,Bool.true_and] at hr
      cases e1:(z == pb)
      · rw [e1,Bool.false_or] at hr
        have HRx:Hid ((mb == x - z) = r):=hr.symm
        clear hr
        go_upto_region 2 with fail
        refine wp_region_held_drew (S:=fun u=>u.cell? ⟨w.heap.size,1,none⟩ = some (.int .i64 (j:Int))∧u.cell? ⟨w.heap.size,2,none⟩ = some (.int .i64 mb)∧u.cell? ⟨g,20,none⟩ = some (.int .i64 pb)∧u.cell? ⟨g,21,none⟩ = some (.slice (some ⟨gl,ol,none⟩) L.length lc)∧u.cell? ⟨gl,ol + j,none⟩ = some (.int .i64 x)) (by kernel_rfl) (⟨c1,c2,c0,c3,c4⟩) (fun hHeld=>?_)
        refine tkB (i:=0) (v:=.pointer (some ⟨g,0,none⟩)) rfl hHeld ?_
        simp only [Act.put,zq1,zq2,zq4,zq5,zq6]
        refine tkB (i:=1) (v:=.pointer (some ⟨w.heap.size,1,none⟩)) rfl hHeld ?_
        simp only [Act.put,zq1,zq2,zq3,zq4,zq5,zq6]
        refine tkA (i:=2) (v:=.int .i64 (j:Int)) rfl (Or.inl ⟨by rfl,fun w hw=>by have hq:=hw.1; go_simp⟩) hHeld ?_
        simp only [Act.put,zq1,zq2,zq3,zq4,zq5,zq6]
        refine wpAnyH_ready (rs:=[3]) (by kernel_rfl) (by simp) ?_
        refine AllReadyH.cons (o:=_) rfl (fun K hK=>?_) AllReadyH.nil
        go_simp
        refine (HI.out _ rfl).mono ?_
        rintro e w' ⟨rfl,rfl⟩
        go_wp2_with fail
        refine hK.out _ _ (⟨c1,c2,c0,c3,c4⟩) (fun hHeld=>?_)
        clear hK K
        refine tkB (i:=4) (v:=.bool true) rfl hHeld ?_
        simp only [Act.put,zq1,zq2,zq3,zq4,zq5,zq6]
        refine tkB (i:=5) (v:=.pointer (some ⟨w.heap.size,2,none⟩)) rfl hHeld ?_
        simp only [Act.put,zq1,zq2,zq3,zq4,zq5,zq6]
        refine tkA (i:=6) (v:=.int .i64 mb) rfl (Or.inl ⟨by rfl,fun w hw=>by have hq:=hw.2.1; go_simp⟩) hHeld ?_
        simp only [Act.put,zq1,zq2,zq3,zq4,zq5,zq6]
        refine tkB (i:=7) (v:=.pointer (some ⟨g,0,none⟩)) rfl hHeld ?_
        simp only [Act.put,zq1,zq2,zq3,zq4,zq5,zq6]
        refine tkB (i:=8) (v:=.pointer (some ⟨g,0,none⟩)) rfl hHeld ?_
        simp only [Act.put,zq1,zq2,zq3,zq4,zq5,zq6]
        refine tkB (i:=9) (v:=.pointer (some ⟨g,20,none⟩)) rfl hHeld ?_
        simp only [Act.put,zq1,zq2,zq3,zq4,zq5,zq6]
        refine tkA (i:=10) (v:=.int .i64 pb) rfl (Or.inl ⟨by rfl,fun w hw=>by have hq:=hw.2.2.1; go_simp⟩) hHeld ?_
        simp only [Act.put,zq1,zq2,zq3,zq4,zq5,zq6]
        refine tkB (i:=11) (v:=.int .i64 (mb % pb)) rfl hHeld ?_
        simp only [Act.put,zq1,zq2,zq3,zq4,zq5,zq6]
        refine tkB (i:=12) (v:=.bool true) rfl hHeld ?_
        simp only [Act.put,zq1,zq2,zq3,zq4,zq5,zq6]
        refine tkB (i:=13) (v:=.bool true) rfl hHeld ?_
        simp only [Act.put,zq1,zq2,zq3,zq4,zq5,zq6]
        refine tkB (i:=14) (v:=.bool true) rfl hHeld ?_
        simp only [Act.put,zq1,zq2,zq3,zq4,zq5,zq6]
        refine tkB (i:=15) (v:=.int .i64 z) rfl hHeld ?_
        simp only [Act.put,zq1,zq2,zq3,zq4,zq5,zq6]
        refine tkB (i:=16) (v:=.pointer (some ⟨g,0,none⟩)) rfl hHeld ?_
        simp only [Act.put,zq1,zq2,zq3,zq4,zq5,zq6]
        refine tkB (i:=17) (v:=.pointer (some ⟨g,0,none⟩)) rfl hHeld ?_
        simp only [Act.put,zq1,zq2,zq3,zq4,zq5,zq6]
        refine tkB (i:=18) (v:=.pointer (some ⟨g,20,none⟩)) rfl hHeld ?_
        simp only [Act.put,zq1,zq2,zq3,zq4,zq5,zq6]
        refine tkA (i:=19) (v:=.int .i64 pb) rfl (Or.inl ⟨by rfl,fun w hw=>by have hq:=hw.2.2.1; go_simp⟩) hHeld ?_
        simp only [Act.put,zq1,zq2,zq3,zq4,zq5,zq6]
        refine tkB (i:=20) (v:=.bool false) rfl hHeld ?_
        simp only [Act.put,zq1,zq2,zq3,zq4,zq5,zq6]
        refine tkB (i:=21) (v:=.bool false) rfl hHeld ?_
        simp only [Act.put,zq1,zq2,zq3,zq4,zq5,zq6]
        refine tkB (i:=22) (v:=.pointer (some ⟨w.heap.size,2,none⟩)) rfl hHeld ?_
        simp only [Act.put,zq1,zq2,zq3,zq4,zq5,zq6]
        refine tkA (i:=23) (v:=.int .i64 mb) rfl (Or.inl ⟨by rfl,fun w hw=>by have hq:=hw.2.1; go_simp⟩) hHeld ?_
        simp only [Act.put,zq1,zq2,zq3,zq4,zq5,zq6]
        refine tkB (i:=24) (v:=.pointer (some ⟨g,0,none⟩)) rfl hHeld ?_
        simp only [Act.put,zq1,zq2,zq3,zq4,zq5,zq6]
        refine tkB (i:=25) (v:=.pointer (some ⟨g,0,none⟩)) rfl hHeld ?_
        simp only [Act.put,zq1,zq2,zq3,zq4,zq5,zq6]
        refine tkB (i:=26) (v:=.pointer (some ⟨g,21,none⟩)) rfl hHeld ?_
        simp only [Act.put,zq1,zq2,zq3,zq4,zq5,zq6]
        refine tkA (i:=27) (v:=.slice (some ⟨gl,ol,none⟩) L.length lc) rfl (Or.inl ⟨by rfl,fun w hw=>by have hq:=hw.2.2.2.1; go_simp⟩) hHeld ?_
        simp only [Act.put,zq1,zq2,zq3,zq4,zq5,zq6]
        refine tkB (i:=28) (v:=.pointer (some ⟨w.heap.size,1,none⟩)) rfl hHeld ?_
        simp only [Act.put,zq1,zq2,zq3,zq4,zq5,zq6]
        refine tkA (i:=29) (v:=.int .i64 (j:Int)) rfl (Or.inl ⟨by rfl,fun w hw=>by have hq:=hw.1; go_simp⟩) hHeld ?_
        simp only [Act.put,zq1,zq2,zq3,zq4,zq5,zq6]
        refine tkB (i:=30) (v:=.pointer (some ⟨gl,ol + j,none⟩)) rfl hHeld ?_
        simp only [Act.put,zq1,zq2,zq3,zq4,zq5,zq6]
        refine tkA (i:=31) (v:=.int .i64 x) rfl (Or.inl ⟨by rfl,fun w hw=>by have hq:=hw.2.2.2.2; go_simp⟩) hHeld ?_
        simp only [Act.put,zq1,zq2,zq3,zq4,zq5,zq6]
        refine tkB (i:=32) (v:=.int .i64 z) rfl hHeld ?_
        simp only [Act.put,zq1,zq2,zq3,zq4,zq5,zq6]
        refine tkB (i:=33) (v:=.int .i64 (x - z)) rfl hHeld ?_
        simp only [Act.put,zq1,zq2,zq3,zq4,zq5,zq6]
        refine tkB (i:=34) (v:=.bool (mb == x - z)) rfl hHeld ?_
        simp only [Act.put,zq1,zq2,zq3,zq4,zq5,zq6]
        refine tkB (i:=35) (v:=.bool (mb == x - z)) rfl hHeld ?_
        simp only [Act.put,zq1,zq2,zq3,zq4,zq5,zq6]
        refine tkB (i:=36) (v:=.bool (mb == x - z)) rfl hHeld ?_
        simp only [Act.put,zq1,zq2,zq3,zq4,zq5,zq6]
        refine tkB (i:=37) (v:=.bool (mb == x - z)) rfl hHeld ?_
        simp only [Act.put,zq1,zq2,zq3,zq4,zq5,zq6]
        refine wpAnyH_done (by kernel_rfl) ?_ _
        clear hHeld
        go_wp2
        go_ret
        exact ⟨congrArg (fun y=>Ending.returned (.bool y)) HRx.out,belowN HB1.out 1⟩
      · rw [e1,Bool.true_or] at hr
        subst hr
        go_upto_region 2 with fail
        refine wp_region_held_drew (S:=fun u=>u.cell? ⟨w.heap.size,1,none⟩ = some (.int .i64 (j:Int))∧u.cell? ⟨w.heap.size,2,none⟩ = some (.int .i64 mb)∧u.cell? ⟨g,20,none⟩ = some (.int .i64 pb)∧u.cell? ⟨g,21,none⟩ = some (.slice (some ⟨gl,ol,none⟩) L.length lc)∧u.cell? ⟨gl,ol + j,none⟩ = some (.int .i64 x)) (by kernel_rfl) (⟨c1,c2,c0,c3,c4⟩) (fun hHeld=>?_)
        refine tkB (i:=0) (v:=.pointer (some ⟨g,0,none⟩)) rfl hHeld ?_
        simp only [Act.put,zq1,zq2,zq4,zq5,zq6]
        refine tkB (i:=1) (v:=.pointer (some ⟨w.heap.size,1,none⟩)) rfl hHeld ?_
        simp only [Act.put,zq1,zq2,zq3,zq4,zq5,zq6]
        refine tkA (i:=2) (v:=.int .i64 (j:Int)) rfl (Or.inl ⟨by rfl,fun w hw=>by have hq:=hw.1; go_simp⟩) hHeld ?_
        simp only [Act.put,zq1,zq2,zq3,zq4,zq5,zq6]
        refine wpAnyH_ready (rs:=[3]) (by kernel_rfl) (by simp) ?_
        refine AllReadyH.cons (o:=_) rfl (fun K hK=>?_) AllReadyH.nil
        go_simp
        refine (HI.out _ rfl).mono ?_
        rintro e w' ⟨rfl,rfl⟩
        go_wp2_with fail
        refine hK.out _ _ (⟨c1,c2,c0,c3,c4⟩) (fun hHeld=>?_)
        clear hK K
        refine tkB (i:=4) (v:=.bool true) rfl hHeld ?_
        simp only [Act.put,zq1,zq2,zq3,zq4,zq5,zq6]
        refine tkB (i:=5) (v:=.pointer (some ⟨w.heap.size,2,none⟩)) rfl hHeld ?_
        simp only [Act.put,zq1,zq2,zq3,zq4,zq5,zq6]
        refine tkA (i:=6) (v:=.int .i64 mb) rfl (Or.inl ⟨by rfl,fun w hw=>by have hq:=hw.2.1; go_simp⟩) hHeld ?_
        simp only [Act.put,zq1,zq2,zq3,zq4,zq5,zq6]
        refine tkB (i:=7) (v:=.pointer (some ⟨g,0,none⟩)) rfl hHeld ?_
        simp only [Act.put,zq1,zq2,zq3,zq4,zq5,zq6]
        refine tkB (i:=8) (v:=.pointer (some ⟨g,0,none⟩)) rfl hHeld ?_
        simp only [Act.put,zq1,zq2,zq3,zq4,zq5,zq6]
        refine tkB (i:=9) (v:=.pointer (some ⟨g,20,none⟩)) rfl hHeld ?_
        simp only [Act.put,zq1,zq2,zq3,zq4,zq5,zq6]
        refine tkA (i:=10) (v:=.int .i64 pb) rfl (Or.inl ⟨by rfl,fun w hw=>by have hq:=hw.2.2.1; go_simp⟩) hHeld ?_
        simp only [Act.put,zq1,zq2,zq3,zq4,zq5,zq6]
        refine tkB (i:=11) (v:=.int .i64 (mb % pb)) rfl hHeld ?_
        simp only [Act.put,zq1,zq2,zq3,zq4,zq5,zq6]
        refine tkB (i:=12) (v:=.bool true) rfl hHeld ?_
        simp only [Act.put,zq1,zq2,zq3,zq4,zq5,zq6]
        refine tkB (i:=13) (v:=.bool true) rfl hHeld ?_
        simp only [Act.put,zq1,zq2,zq3,zq4,zq5,zq6]
        refine tkB (i:=14) (v:=.bool true) rfl hHeld ?_
        simp only [Act.put,zq1,zq2,zq3,zq4,zq5,zq6]
        refine tkB (i:=15) (v:=.int .i64 z) rfl hHeld ?_
        simp only [Act.put,zq1,zq2,zq3,zq4,zq5,zq6]
        refine tkB (i:=16) (v:=.pointer (some ⟨g,0,none⟩)) rfl hHeld ?_
        simp only [Act.put,zq1,zq2,zq3,zq4,zq5,zq6]
        refine tkB (i:=17) (v:=.pointer (some ⟨g,0,none⟩)) rfl hHeld ?_
        simp only [Act.put,zq1,zq2,zq3,zq4,zq5,zq6]
        refine tkB (i:=18) (v:=.pointer (some ⟨g,20,none⟩)) rfl hHeld ?_
        simp only [Act.put,zq1,zq2,zq3,zq4,zq5,zq6]
        refine tkA (i:=19) (v:=.int .i64 pb) rfl (Or.inl ⟨by rfl,fun w hw=>by have hq:=hw.2.2.1; go_simp⟩) hHeld ?_
        simp only [Act.put,zq1,zq2,zq3,zq4,zq5,zq6]
        refine tkB (i:=20) (v:=.bool true) rfl hHeld ?_
        simp only [Act.put,zq1,zq2,zq3,zq4,zq5,zq6]
        refine tkB (i:=21) (v:=.bool true) rfl hHeld ?_
        simp only [Act.put,zq1,zq2,zq3,zq4,zq5,zq6]
        refine tkA (i:=22) (v:=undef) rfl (Or.inr ⟨by rfl,rfl⟩) hHeld ?_
        simp only [Act.put,zq1,zq2,zq3,zq4,zq5,zq6]
        refine tkA (i:=23) (v:=undef) rfl (Or.inr ⟨by rfl,rfl⟩) hHeld ?_
        simp only [Act.put,zq1,zq2,zq3,zq4,zq5,zq6]
        refine tkA (i:=24) (v:=undef) rfl (Or.inr ⟨by rfl,rfl⟩) hHeld ?_
        simp only [Act.put,zq1,zq2,zq3,zq4,zq5,zq6]
        refine tkA (i:=25) (v:=undef) rfl (Or.inr ⟨by rfl,rfl⟩) hHeld ?_
        simp only [Act.put,zq1,zq2,zq3,zq4,zq5,zq6]
        refine tkA (i:=26) (v:=undef) rfl (Or.inr ⟨by rfl,rfl⟩) hHeld ?_
        simp only [Act.put,zq1,zq2,zq3,zq4,zq5,zq6]
        refine tkA (i:=27) (v:=undef) rfl (Or.inr ⟨by rfl,rfl⟩) hHeld ?_
        simp only [Act.put,zq1,zq2,zq3,zq4,zq5,zq6]
        refine tkA (i:=28) (v:=undef) rfl (Or.inr ⟨by rfl,rfl⟩) hHeld ?_
        simp only [Act.put,zq1,zq2,zq3,zq4,zq5,zq6]
        refine tkA (i:=29) (v:=undef) rfl (Or.inr ⟨by rfl,rfl⟩) hHeld ?_
        simp only [Act.put,zq1,zq2,zq3,zq4,zq5,zq6]
        refine tkA (i:=30) (v:=undef) rfl (Or.inr ⟨by rfl,rfl⟩) hHeld ?_
        simp only [Act.put,zq1,zq2,zq3,zq4,zq5,zq6]
        refine tkA (i:=31) (v:=undef) rfl (Or.inr ⟨by rfl,rfl⟩) hHeld ?_
        simp only [Act.put,zq1,zq2,zq3,zq4,zq5,zq6]
        refine tkA (i:=32) (v:=undef) rfl (Or.inr ⟨by rfl,rfl⟩) hHeld ?_
        simp only [Act.put,zq1,zq2,zq3,zq4,zq5,zq6]
        refine tkA (i:=33) (v:=undef) rfl (Or.inr ⟨by rfl,rfl⟩) hHeld ?_
        simp only [Act.put,zq1,zq2,zq3,zq4,zq5,zq6]
        refine tkA (i:=34) (v:=undef) rfl (Or.inr ⟨by rfl,rfl⟩) hHeld ?_
        simp only [Act.put,zq1,zq2,zq3,zq4,zq5,zq6]
        refine tkB (i:=35) (v:=.bool true) rfl hHeld ?_
        simp only [Act.put,zq1,zq2,zq3,zq4,zq5,zq6]
        refine tkB (i:=36) (v:=.bool true) rfl hHeld ?_
        simp only [Act.put,zq1,zq2,zq3,zq4,zq5,zq6]
        refine tkB (i:=37) (v:=.bool true) rfl hHeld ?_
        simp only [Act.put,zq1,zq2,zq3,zq4,zq5,zq6]
        refine wpAnyH_done (by kernel_rfl) ?_ _
        clear hHeld
        go_wp2
        go_ret
        exact ⟨rfl,belowN HB1.out 1⟩
  · have hp':pce L m.i = false:=by simpa using hp
    have hr:r = false:=by rw [HRr.out]; unfold ctp; rw [hp']; rfl
    subst hr
    rw [hp'] at HI
    clear hp hp' HRr hm hd ok HM1 hi
    generalize m.i = mi at *
    generalize m.b = mb at *
    go_upto_region 2 with fail
    refine wp_region_held_drew (S:=fun u=>u.cell? ⟨w.heap.size,1,none⟩ = some (.int .i64 mi)) (by kernel_rfl) (c1) (fun hHeld=>?_)
    refine tkB (i:=0) (v:=.pointer (some ⟨g,0,none⟩)) rfl hHeld ?_
    simp only [Act.put,zq1,zq2,zq4,zq5,zq6]
    refine tkB (i:=1) (v:=.pointer (some ⟨w.heap.size,1,none⟩)) rfl hHeld ?_
    simp only [Act.put,zq1,zq2,zq3,zq4,zq5,zq6]
    refine tkA (i:=2) (v:=.int .i64 mi) rfl (Or.inl ⟨by rfl,fun w hw=>by have hq:=hw; go_simp⟩) hHeld ?_
    simp only [Act.put,zq1,zq2,zq3,zq4,zq5,zq6]
    refine wpAnyH_ready (rs:=[3]) (by kernel_rfl) (by simp) ?_
    refine AllReadyH.cons (o:=_) rfl (fun K hK=>?_) AllReadyH.nil
    go_simp
    refine (HI.out _ rfl).mono ?_
    rintro e w' ⟨rfl,rfl⟩
    go_wp2_with fail
    refine hK.out _ _ (c1) (fun hHeld=>?_)
    clear hK K
    refine tkB (i:=4) (v:=.bool false) rfl hHeld ?_
    simp only [Act.put,zq1,zq2,zq3,zq4,zq5,zq6]
    refine tkA (i:=5) (v:=undef) rfl (Or.inr ⟨by rfl,rfl⟩) hHeld ?_
    simp only [Act.put,zq1,zq2,zq3,zq4,zq5,zq6]
    refine tkA (i:=6) (v:=undef) rfl (Or.inr ⟨by rfl,rfl⟩) hHeld ?_
    simp only [Act.put,zq1,zq2,zq3,zq4,zq5,zq6]
    refine tkA (i:=7) (v:=undef) rfl (Or.inr ⟨by rfl,rfl⟩) hHeld ?_
    simp only [Act.put,zq1,zq2,zq3,zq4,zq5,zq6]
    refine tkA (i:=8) (v:=undef) rfl (Or.inr ⟨by rfl,rfl⟩) hHeld ?_
    simp only [Act.put,zq1,zq2,zq3,zq4,zq5,zq6]
    refine tkA (i:=9) (v:=undef) rfl (Or.inr ⟨by rfl,rfl⟩) hHeld ?_
    simp only [Act.put,zq1,zq2,zq3,zq4,zq5,zq6]
    refine tkA (i:=10) (v:=undef) rfl (Or.inr ⟨by rfl,rfl⟩) hHeld ?_
    simp only [Act.put,zq1,zq2,zq3,zq4,zq5,zq6]
    refine tkA (i:=11) (v:=undef) rfl (Or.inr ⟨by rfl,rfl⟩) hHeld ?_
    simp only [Act.put,zq1,zq2,zq3,zq4,zq5,zq6]
    refine tkA (i:=12) (v:=undef) rfl (Or.inr ⟨by rfl,rfl⟩) hHeld ?_
    simp only [Act.put,zq1,zq2,zq3,zq4,zq5,zq6]
    refine tkB (i:=13) (v:=.bool false) rfl hHeld ?_
    simp only [Act.put,zq1,zq2,zq3,zq4,zq5,zq6]
    refine tkB (i:=14) (v:=.bool false) rfl hHeld ?_
    simp only [Act.put,zq1,zq2,zq3,zq4,zq5,zq6]
    refine tkA (i:=15) (v:=undef) rfl (Or.inr ⟨by rfl,rfl⟩) hHeld ?_
    simp only [Act.put,zq1,zq2,zq3,zq4,zq5,zq6]
    refine tkA (i:=16) (v:=undef) rfl (Or.inr ⟨by rfl,rfl⟩) hHeld ?_
    simp only [Act.put,zq1,zq2,zq3,zq4,zq5,zq6]
    refine tkA (i:=17) (v:=undef) rfl (Or.inr ⟨by rfl,rfl⟩) hHeld ?_
    simp only [Act.put,zq1,zq2,zq3,zq4,zq5,zq6]
    refine tkA (i:=18) (v:=undef) rfl (Or.inr ⟨by rfl,rfl⟩) hHeld ?_
    simp only [Act.put,zq1,zq2,zq3,zq4,zq5,zq6]
    refine tkA (i:=19) (v:=undef) rfl (Or.inr ⟨by rfl,rfl⟩) hHeld ?_
    simp only [Act.put,zq1,zq2,zq3,zq4,zq5,zq6]
    refine tkA (i:=20) (v:=undef) rfl (Or.inr ⟨by rfl,rfl⟩) hHeld ?_
    simp only [Act.put,zq1,zq2,zq3,zq4,zq5,zq6]
    refine tkA (i:=21) (v:=undef) rfl (Or.inr ⟨by rfl,rfl⟩) hHeld ?_
    simp only [Act.put,zq1,zq2,zq3,zq4,zq5,zq6]
    refine tkA (i:=22) (v:=undef) rfl (Or.inr ⟨by rfl,rfl⟩) hHeld ?_
    simp only [Act.put,zq1,zq2,zq3,zq4,zq5,zq6]
    refine tkA (i:=23) (v:=undef) rfl (Or.inr ⟨by rfl,rfl⟩) hHeld ?_
    simp only [Act.put,zq1,zq2,zq3,zq4,zq5,zq6]
    refine tkA (i:=24) (v:=undef) rfl (Or.inr ⟨by rfl,rfl⟩) hHeld ?_
    simp only [Act.put,zq1,zq2,zq3,zq4,zq5,zq6]
    refine tkA (i:=25) (v:=undef) rfl (Or.inr ⟨by rfl,rfl⟩) hHeld ?_
    simp only [Act.put,zq1,zq2,zq3,zq4,zq5,zq6]
    refine tkA (i:=26) (v:=undef) rfl (Or.inr ⟨by rfl,rfl⟩) hHeld ?_
    simp only [Act.put,zq1,zq2,zq3,zq4,zq5,zq6]
    refine tkA (i:=27) (v:=undef) rfl (Or.inr ⟨by rfl,rfl⟩) hHeld ?_
    simp only [Act.put,zq1,zq2,zq3,zq4,zq5,zq6]
    refine tkA (i:=28) (v:=undef) rfl (Or.inr ⟨by rfl,rfl⟩) hHeld ?_
    simp only [Act.put,zq1,zq2,zq3,zq4,zq5,zq6]
    refine tkA (i:=29) (v:=undef) rfl (Or.inr ⟨by rfl,rfl⟩) hHeld ?_
    simp only [Act.put,zq1,zq2,zq3,zq4,zq5,zq6]
    refine tkA (i:=30) (v:=undef) rfl (Or.inr ⟨by rfl,rfl⟩) hHeld ?_
    simp only [Act.put,zq1,zq2,zq3,zq4,zq5,zq6]
    refine tkA (i:=31) (v:=undef) rfl (Or.inr ⟨by rfl,rfl⟩) hHeld ?_
    simp only [Act.put,zq1,zq2,zq3,zq4,zq5,zq6]
    refine tkA (i:=32) (v:=undef) rfl (Or.inr ⟨by rfl,rfl⟩) hHeld ?_
    simp only [Act.put,zq1,zq2,zq3,zq4,zq5,zq6]
    refine tkA (i:=33) (v:=undef) rfl (Or.inr ⟨by rfl,rfl⟩) hHeld ?_
    simp only [Act.put,zq1,zq2,zq3,zq4,zq5,zq6]
    refine tkA (i:=34) (v:=undef) rfl (Or.inr ⟨by rfl,rfl⟩) hHeld ?_
    simp only [Act.put,zq1,zq2,zq3,zq4,zq5,zq6]
    refine tkA (i:=35) (v:=undef) rfl (Or.inr ⟨by rfl,rfl⟩) hHeld ?_
    simp only [Act.put,zq1,zq2,zq3,zq4,zq5,zq6]
    refine tkB (i:=36) (v:=.bool false) rfl hHeld ?_
    simp only [Act.put,zq1,zq2,zq3,zq4,zq5,zq6]
    refine tkB (i:=37) (v:=.bool false) rfl hHeld ?_
    simp only [Act.put,zq1,zq2,zq3,zq4,zq5,zq6]
    refine wpAnyH_done (by kernel_rfl) ?_ _
    clear hHeld
    go_wp2
    go_ret
    exact ⟨rfl,belowN HB1.out 1⟩
end Go.Proofs.YtfjjpbebnoghmaaGreatDoor
