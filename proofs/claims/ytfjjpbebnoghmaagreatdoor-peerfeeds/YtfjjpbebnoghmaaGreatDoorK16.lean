import Derived.Test.YtfjjpbebnoghmaaGreatDoorK00
import Derived.Test.YtfjjpbebnoghmaaGreatDoorK15
import Derived.Deep.RegionLaw
import Derived.Deep.RegionHeld3
import Derived.Deep.Cut
import Derived.Deep.CutRange
namespace Go.Proofs.YtfjjpbebnoghmaaGreatDoor
open Go.RowKit
def pce (L:List Int) (i:Int):Bool:=decide (0≤i) && decide (i < (L.length:Int))
def lng (k l:Int) (n:Nat):Int:=if k = 7 then (n:Int) else l
set_option maxHeartbeats 400000 in
theorem isPieceT (w:World) (g:Nat) (P:Pv) (h:PK w g P) (L:List Int) (la:Option Addr) (lc:Nat) (hln:P.ln = .slice la L.length lc) (i:Int) :
    Calls Tryz.prog 86 #[.pointer (some ⟨g,0,none⟩),.int .i64 i] w fun e w'=>e = .returned (.bool (pce L i))∧w' = w:=by
  obtain ⟨_,c1,_⟩:=h.cells
  rw [hln] at c1
  clear h hln
  by_cases c2:0≤i
  · by_cases c3:i < (L.length:Int)
    · have e:pce L i = true:=by unfold pce; simp [c2,c3]
      rw [e]
      clear e
      go_enter Tryz.func86,Tryz.ntmps86
      go_wp2
      go_ret
      exact ⟨rfl,rfl⟩
    · have e:pce L i = false:=by unfold pce; simp [c3]
      rw [e]
      clear e
      go_enter Tryz.func86,Tryz.ntmps86
      go_wp2
      go_ret
      exact ⟨rfl,rfl⟩
  · have e:pce L i = false:=by unfold pce; simp [c2]
    rw [e]
    clear e
    go_enter Tryz.func86,Tryz.ntmps86
    go_wp2
    go_ret
    exact ⟨rfl,rfl⟩
theorem bsRB {w:World} {v:Value} {l:List UInt8} (h:RB w v l):Bs.RB w v l:=by
  obtain ⟨a,c,e,_,h2⟩:=h
  exact ⟨a,c,e,h2⟩
set_option maxHeartbeats 400000 in
theorem isFieldT (w:World) (g:Nat) (P:Pv) (h:PK w g P) (L:List Int) (la:Option Addr) (lc:Nat) (hln:P.ln = .slice la L.length lc) (hl:L.length≤65536) (v:Value) (D:List UInt8) (hr:RB w v D) (hd:D.length≤140737488351232) (hm:Bs.MT w) :
    Calls Tryz.prog 85 #[.pointer (some ⟨g,0,none⟩),v] w fun e w'=>e = .returned (.bool (Bs.ck (L.length:Int) D == 0))∧∃ n,w' = w.drewN n:=by
  obtain ⟨_,c1,_⟩:=h.cells
  rw [hln] at c1
  have HC:Hid (Calls Tryz.prog 106 #[.int .i64 (L.length:Int),v] w fun e w'=>e = .returned (.int .i64 (Bs.ck (L.length:Int) D))∧∃ nq,w' = w.drewN nq):=Bs.check10 (L.length:Int) (by omega) (by omega) v D w (bsRB hr) hm hd
  obtain ⟨a,c,rfl,_⟩:=hr
  clear h hln hm
  generalize Bs.ck (L.length:Int) D = z at *
  go_enter Tryz.func85,Tryz.ntmps85
  go_wp2_with fail
  refine HC.out.mono ?_
  rintro e w1 ⟨rfl,n,rfl⟩
  go_wp2
  go_ret
  exact ⟨rfl,_,rfl⟩
set_option maxHeartbeats 400000 in
theorem lengthT (w:World) (m:Mv) (n c:Nat) (a:Option Addr) (hd:m.d = .slice a n c) :
    Calls Tryz.prog 107 #[.agg m.cs] w fun e w'=>e = .returned (.int .i64 (lng m.k m.l n))∧Below w.heap.size w w':=by
  have hb:MB (w.alloc (.cells m.cs 40)) w.heap.size m:=heapNew w (.cells m.cs 40)
  have c0:=hb.c0
  have c3:=hb.cell 3 (show m.ls[3]? = some (.int .i64 m.l) from rfl)
  have c4:=hb.cell 4 (show m.ls[4]? = some m.d from rfl)
  rw [hd] at c4
  have HB:Hid (Below w.heap.size w (w.alloc (.cells m.cs 40))):=(Below.refl _ _).alloc (Nat.le_refl _) _
  clear hb hd
  by_cases k7:m.k = 7
  · rw [k7] at c0 ⊢
    generalize m.cs = mcs at *
    generalize m.l = ml at *
    clear k7
    go_enter Tryz.func107,Tryz.ntmps107
    go_wp2
    go_ret
    exact ⟨rfl,HB.out⟩
  · have e:lng m.k m.l n = m.l:=by unfold lng; rw [if_neg k7]
    rw [e]
    have q:(m.k == 7) = false:=by simp [k7]
    clear k7 e
    generalize m.k = mk at *
    generalize m.cs = mcs at *
    generalize m.l = ml at *
    go_enter Tryz.func107,Tryz.ntmps107
    go_wp2
    go_ret
    exact ⟨rfl,HB.out⟩
theorem load_msg_if {ops:Array Oper} {rest:List Oper} {o:Oper} {a:Act} {w:World} {Q:Exit→Act→World→Prop} (hw:Region.wanted o (yielded ops a.tmps) = true) (x:Operand) (ho:o.op = .load 40 x)
    (g:Nat) (hx:a.eval x = .pointer (some ⟨g,0,none⟩)) (cs:Array Value) (hg:w.heap[g]? = some (.cells cs 40 (0,0))) (hi:(Tryz.prog.info? 40).map (·.size) = some cs.size)
    (h:wpList Tryz.prog ops Q rest (a.put o.dst (.agg cs)) w):wpList Tryz.prog ops Q (o :: rest) a w:=by
  unfold wpList
  rw [if_pos hw]
  exact .inl (wp_load_row 40 x ho g hx 40 cs (0,0) _ hg Tryz.underlying40 rfl hi h)
def LOk (L:List Int):Prop:=L.length≤65536∧∀ j,j < L.length→1≤Bs.iz L j∧Bs.iz L j≤16777216
structure PL (w:World) (g:Nat) (P:Pv) (L:List Int):Prop where
  pk:PK w g P
  b0:64≤P.b
  b1:P.b≤16384
  rz:Bs.RZ w P.ln L
  ok:LOk L
theorem PL.below {w w':World} {g:Nat} {P:Pv} {L:List Int} (h:PL w g P L) (hb:Below w.heap.size w w'):PL w' g P L:=
  ⟨h.pk.keep (hb.block g h.pk.lt),h.b0,h.b1,h.rz.keep hb,h.ok⟩
def rgp (L:List Int) (b i bg n:Int):Bool:=pce L i && decide (n≤b) && decide (bg≤Bs.iz L i.toNat - n)
def ctp (L:List Int) (b i bg n:Int):Bool:=pce L i && (bg % b == 0) && (n == b || bg == Bs.iz L i.toNat - n)
structure MBd (m:Mv) (n:Nat):Prop where
  b0:0≤m.b
  b1:m.b≤4294967295
  l0:0≤m.l
  l1:m.l≤4294967295
  n1:n≤140737488351232
set_option maxHeartbeats 1000000 in
set_option maxRecDepth 100000 in
theorem isRangeT (w:World) (g:Nat) (P:Pv) (L:List Int) (h:PL w g P L) (m:Mv) (ok:m.ok) (n c:Nat) (a:Option Addr) (hd:m.d = .slice a n c) (hm:MBd m n) :
    Calls Tryz.prog 87 #[.pointer (some ⟨g,0,none⟩),.agg m.cs] w fun e w'=>e = .returned (.bool (rgp L P.b m.i m.b (lng m.k m.l n)))∧Below w.heap.size w w':=by
  have hb:MB (w.alloc (.cells m.cs 40)) w.heap.size m:=heapNew w (.cells m.cs 40)
  have hi:=info_msg ok
  have HB:Hid (Below w.heap.size w (w.alloc (.cells m.cs 40))):=(Below.refl _ _).alloc (Nat.le_refl _) _
  have HL:Hid (Calls Tryz.prog 107 #[.agg m.cs] (w.alloc (.cells m.cs 40)) fun e w'=>e = .returned (.int .i64 (lng m.k m.l n))∧Below (w.alloc (.cells m.cs 40)).heap.size (w.alloc (.cells m.cs 40)) w'):=lengthT _ m n c a hd
  have HM:Hid (MB (w.alloc (.cells m.cs 40)) w.heap.size m):=hb
  have HP:Hid (PL w g P L):=h
  have hg:=hb
  have hln:0≤lng m.k m.l n∧lng m.k m.l n≤140737488351232:=by unfold lng; have:=hm.l0; have:=hm.l1; have:=hm.n1; split <;> omega
  clear hb h
  generalize lng m.k m.l n = z at *
  obtain ⟨r,hr⟩:∃ r,r = rgp L P.b m.i m.b z:=⟨_,rfl⟩
  rw [← hr]
  have HRr:Hid (r = rgp L P.b m.i m.b z):=hr
  clear hr
  go_enter Tryz.func87,Tryz.ntmps87
  go_wp2_with (first |(refine load_msg_if rfl _ rfl w.heap.size rfl m.cs hg hi ?_))
  refine HL.out.mono ?_
  rintro e w1 ⟨rfl,b1⟩
  have HM1:=Lib.hid (HM.out.below b1)
  have HP1:=Lib.hid ((HP.out.below HB.out).below b1)
  have HB1:=Lib.hid (HB.out.trans (b1.mono HB.out.size))
  clear b1 hg HL HM HP HB
  obtain ⟨c0,_⟩:=HP1.out.pk.cells
  have c1:=HM1.out.c1
  have c2:=HM1.out.c2
  have HI:Hid (∀ u,u = w1.drew→Calls Tryz.prog 86 #[.pointer (some ⟨g,0,none⟩),.int .i64 m.i] u fun e w'=>e = .returned (.bool (pce L m.i))∧w' = u):=fun u hu=>by
    obtain ⟨la,lc,e,_⟩:=HP1.out.rz
    rw [hu]
    exact isPieceT w1.drew g P HP1.out.pk L la lc e m.i
  by_cases hp:pce L m.i = true
  · obtain ⟨j,hj,hji⟩:∃ j:Nat,m.i = (j:Int)∧j < L.length:=by
      unfold pce at hp
      simp only [Bool.and_eq_true,decide_eq_true_eq] at hp
      exact ⟨m.i.toNat,by omega,by omega⟩
    obtain ⟨la,lc,hln',_,hrz⟩:=HP1.out.rz
    rcases hrz with hnil | ⟨gl,ol,rfl,_,hcl⟩
    · rw [hnil] at hji; simp at hji
    have c3:=(HP1.out.pk.cells).2.1
    rw [hln'] at c3
    have c4:=hcl j hji
    have hLj:=HP1.out.ok.2 j hji
    rw [hp] at HI
    have hx:rgp L P.b m.i m.b z = (decide (z≤P.b) && decide (m.b≤Bs.iz L j - z)):=by unfold rgp; rw [hp,hj]; simp
    have hr:=HRr.out
    rw [hx] at hr
    rw [hj] at c1 HI
    have hm0:=hm.b0
    have hm1:=hm.b1
    have hsub:IntKind.i64.wrap (Bs.iz L j - z) = Bs.iz L j - z:=IntWalk.i64_in _ (by omega)
    clear hx hp hcl hln' hm hd ok HM1 HRr hi
    generalize Bs.iz L j = x at *
    generalize P.b = pb at *
    generalize m.b = mb at *
    by_cases q1:z≤pb
    · rw [decide_eq_true q1,Bool.true_and] at hr
      have HRx:Hid (decide (mb≤x - z) = r):=hr.symm
      clear hr
      go_wp2_with fail
      go_region_held (fun u=>u.cell? ⟨w.heap.size,1,none⟩ = some (.int .i64 (j:Int))∧u.cell? ⟨w.heap.size,2,none⟩ = some (.int .i64 mb)∧u.cell? ⟨g,20,none⟩ = some (.int .i64 pb)∧u.cell? ⟨g,21,none⟩ = some (.slice (some ⟨gl,ol,none⟩) L.length lc)∧u.cell? ⟨gl,ol + j,none⟩ = some (.int .i64 x)) (exact ⟨c1,c2,c0,c3,c4⟩) (first |(go_at_call 86; refine (HI.out _ rfl).mono ?_; rintro e w' ⟨rfl,rfl⟩))
      all_goals go_wp2
      all_goals go_ret
      all_goals exact ⟨congrArg (fun y=>Ending.returned (.bool y)) HRx.out,belowN HB1.out 1⟩
    · rw [decide_eq_false q1,Bool.false_and] at hr
      subst hr
      go_upto_region 2 with fail
      refine wp_region_held_drew (S:=fun u=>u.cell? ⟨w.heap.size,1,none⟩ = some (.int .i64 (j:Int))∧u.cell? ⟨g,20,none⟩ = some (.int .i64 pb)) (by kernel_rfl) (⟨c1,c0⟩) (fun hHeld=>?_)
      refine tkB (i:=0) (v:=.pointer (some ⟨g,0,none⟩)) rfl hHeld ?_
      simp only [Act.put,zq1,zq2,zq4,zq5,zq6]
      refine tkB (i:=1) (v:=.pointer (some ⟨w.heap.size,1,none⟩)) rfl hHeld ?_
      simp only [Act.put,zq1,zq2,zq3,zq4,zq5,zq6]
      refine tkA (i:=2) (v:=.int .i64 (j:Int)) rfl (Or.inl ⟨by rfl,fun w hw=>by have hq:=hw.1; go_simp⟩) hHeld ?_
      simp only [Act.put,zq1,zq2,zq3,zq4,zq5,zq6]
      refine wpAnyH_ready (rs:=[3]) (by kernel_rfl) (by simp) ?_
      refine AllReadyH.cons (o:=_) rfl (fun K hK=>?_) AllReadyH.nil
      go_simp
      refine (HI.out _ rfl).mono ?_
      rintro e w' ⟨rfl,rfl⟩
      go_wp2_with fail
      refine hK.out _ _ (⟨c1,c0⟩) (fun hHeld=>?_)
      clear hK K
      refine tkB (i:=4) (v:=.bool true) rfl hHeld ?_
      simp only [Act.put,zq1,zq2,zq3,zq4,zq5,zq6]
      refine tkB (i:=5) (v:=.int .i64 z) rfl hHeld ?_
      simp only [Act.put,zq1,zq2,zq3,zq4,zq5,zq6]
      refine tkB (i:=6) (v:=.pointer (some ⟨g,0,none⟩)) rfl hHeld ?_
      simp only [Act.put,zq1,zq2,zq3,zq4,zq5,zq6]
      refine tkB (i:=7) (v:=.pointer (some ⟨g,0,none⟩)) rfl hHeld ?_
      simp only [Act.put,zq1,zq2,zq3,zq4,zq5,zq6]
      refine tkB (i:=8) (v:=.pointer (some ⟨g,20,none⟩)) rfl hHeld ?_
      simp only [Act.put,zq1,zq2,zq3,zq4,zq5,zq6]
      refine tkA (i:=9) (v:=.int .i64 pb) rfl (Or.inl ⟨by rfl,fun w hw=>by have hq:=hw.2; go_simp⟩) hHeld ?_
      simp only [Act.put,zq1,zq2,zq3,zq4,zq5,zq6]
      refine tkB (i:=10) (v:=.bool false) rfl hHeld ?_
      simp only [Act.put,zq1,zq2,zq3,zq4,zq5,zq6]
      refine tkB (i:=11) (v:=.bool false) rfl hHeld ?_
      simp only [Act.put,zq1,zq2,zq3,zq4,zq5,zq6]
      refine tkB (i:=12) (v:=.bool false) rfl hHeld ?_
      simp only [Act.put,zq1,zq2,zq3,zq4,zq5,zq6]
      refine tkA (i:=13) (v:=undef) rfl (Or.inr ⟨by rfl,rfl⟩) hHeld ?_
      simp only [Act.put,zq1,zq2,zq3,zq4,zq5,zq6]
      refine tkA (i:=14) (v:=undef) rfl (Or.inr ⟨by rfl,rfl⟩) hHeld ?_
      simp only [Act.put,zq1,zq2,zq3,zq4,zq5,zq6]
      refine tkA (i:=15) (v:=undef) rfl (Or.inr ⟨by rfl,rfl⟩) hHeld ?_
      simp only [Act.put,zq1,zq2,zq3,zq4,zq5,zq6]
      refine tkA (i:=16) (v:=undef) rfl (Or.inr ⟨by rfl,rfl⟩) hHeld ?_
      simp only [Act.put,zq1,zq2,zq3,zq4,zq5,zq6]
      refine tkA (i:=17) (v:=undef) rfl (Or.inr ⟨by rfl,rfl⟩) hHeld ?_
      simp only [Act.put,zq1,zq2,zq3,zq4,zq5,zq6]
      refine tkA (i:=18) (v:=undef) rfl (Or.inr ⟨by rfl,rfl⟩) hHeld ?_
      simp only [Act.put,zq1,zq2,zq3,zq4,zq5,zq6]
      refine tkA (i:=19) (v:=undef) rfl (Or.inr ⟨by rfl,rfl⟩) hHeld ?_
      simp only [Act.put,zq1,zq2,zq3,zq4,zq5,zq6]
      refine tkA (i:=20) (v:=undef) rfl (Or.inr ⟨by rfl,rfl⟩) hHeld ?_
      simp only [Act.put,zq1,zq2,zq3,zq4,zq5,zq6]
      refine tkA (i:=21) (v:=undef) rfl (Or.inr ⟨by rfl,rfl⟩) hHeld ?_
      simp only [Act.put,zq1,zq2,zq3,zq4,zq5,zq6]
      refine tkA (i:=22) (v:=undef) rfl (Or.inr ⟨by rfl,rfl⟩) hHeld ?_
      simp only [Act.put,zq1,zq2,zq3,zq4,zq5,zq6]
      refine tkA (i:=23) (v:=undef) rfl (Or.inr ⟨by rfl,rfl⟩) hHeld ?_
      simp only [Act.put,zq1,zq2,zq3,zq4,zq5,zq6]
      refine tkA (i:=24) (v:=undef) rfl (Or.inr ⟨by rfl,rfl⟩) hHeld ?_
      simp only [Act.put,zq1,zq2,zq3,zq4,zq5,zq6]
      refine tkA (i:=25) (v:=undef) rfl (Or.inr ⟨by rfl,rfl⟩) hHeld ?_
      simp only [Act.put,zq1,zq2,zq3,zq4,zq5,zq6]
      refine tkB (i:=26) (v:=.bool false) rfl hHeld ?_
      simp only [Act.put,zq1,zq2,zq3,zq4,zq5,zq6]
      refine tkB (i:=27) (v:=.bool false) rfl hHeld ?_
      simp only [Act.put,zq1,zq2,zq3,zq4,zq5,zq6]
      refine wpAnyH_done (by kernel_rfl) ?_ _
      clear hHeld
      go_wp2
      go_ret
      exact ⟨rfl,belowN HB1.out 1⟩
  · have hp':pce L m.i = false:=by simpa using hp
    have hr:r = false:=by rw [HRr.out]; unfold rgp; rw [hp']; rfl
    subst hr
    rw [hp'] at HI
    clear hp hp' HRr hm hd ok HM1 hi
    generalize m.i = mi at *
    generalize m.b = mb at *
    go_upto_region 2 with fail
    refine wp_region_held_drew (S:=fun u=>u.cell? ⟨w.heap.size,1,none⟩ = some (.int .i64 mi)) (by kernel_rfl) (c1) (fun hHeld=>?_)
    refine tkB (i:=0) (v:=.pointer (some ⟨g,0,none⟩)) rfl hHeld ?_
    simp only [Act.put,zq1,zq2,zq4,zq5,zq6]
    refine tkB (i:=1) (v:=.pointer (some ⟨w.heap.size,1,none⟩)) rfl hHeld ?_
    simp only [Act.put,zq1,zq2,zq3,zq4,zq5,zq6]
    refine tkA (i:=2) (v:=.int .i64 mi) rfl (Or.inl ⟨by rfl,fun w hw=>by have hq:=hw; go_simp⟩) hHeld ?_
    simp only [Act.put,zq1,zq2,zq3,zq4,zq5,zq6]
    refine wpAnyH_ready (rs:=[3]) (by kernel_rfl) (by simp) ?_
    refine AllReadyH.cons (o:=_) rfl (fun K hK=>?_) AllReadyH.nil
    go_simp
    refine (HI.out _ rfl).mono ?_
    rintro e w' ⟨rfl,rfl⟩
    go_wp2_with fail
    refine hK.out _ _ (c1) (fun hHeld=>?_)
    clear hK K
    refine tkB (i:=4) (v:=.bool false) rfl hHeld ?_
    simp only [Act.put,zq1,zq2,zq3,zq4,zq5,zq6]
    refine tkA (i:=5) (v:=undef) rfl (Or.inr ⟨by rfl,rfl⟩) hHeld ?_
    simp only [Act.put,zq1,zq2,zq3,zq4,zq5,zq6]
    refine tkA (i:=6) (v:=undef) rfl (Or.inr ⟨by rfl,rfl⟩) hHeld ?_
    simp only [Act.put,zq1,zq2,zq3,zq4,zq5,zq6]
    refine tkA (i:=7) (v:=undef) rfl (Or.inr ⟨by rfl,rfl⟩) hHeld ?_
    simp only [Act.put,zq1,zq2,zq3,zq4,zq5,zq6]
    refine tkA (i:=8) (v:=undef) rfl (Or.inr ⟨by rfl,rfl⟩) hHeld ?_
    simp only [Act.put,zq1,zq2,zq3,zq4,zq5,zq6]
    refine tkA (i:=9) (v:=undef) rfl (Or.inr ⟨by rfl,rfl⟩) hHeld ?_
    simp only [Act.put,zq1,zq2,zq3,zq4,zq5,zq6]
    refine tkA (i:=10) (v:=undef) rfl (Or.inr ⟨by rfl,rfl⟩) hHeld ?_
    simp only [Act.put,zq1,zq2,zq3,zq4,zq5,zq6]
    refine tkB (i:=11) (v:=.bool false) rfl hHeld ?_
    simp only [Act.put,zq1,zq2,zq3,zq4,zq5,zq6]
    refine tkB (i:=12) (v:=.bool false) rfl hHeld ?_
    simp only [Act.put,zq1,zq2,zq3,zq4,zq5,zq6]
    refine tkA (i:=13) (v:=undef) rfl (Or.inr ⟨by rfl,rfl⟩) hHeld ?_
    simp only [Act.put,zq1,zq2,zq3,zq4,zq5,zq6]
    refine tkA (i:=14) (v:=undef) rfl (Or.inr ⟨by rfl,rfl⟩) hHeld ?_
    simp only [Act.put,zq1,zq2,zq3,zq4,zq5,zq6]
    refine tkA (i:=15) (v:=undef) rfl (Or.inr ⟨by rfl,rfl⟩) hHeld ?_
    simp only [Act.put,zq1,zq2,zq3,zq4,zq5,zq6]
    refine tkA (i:=16) (v:=undef) rfl (Or.inr ⟨by rfl,rfl⟩) hHeld ?_
    simp only [Act.put,zq1,zq2,zq3,zq4,zq5,zq6]
    refine tkA (i:=17) (v:=undef) rfl (Or.inr ⟨by rfl,rfl⟩) hHeld ?_
    simp only [Act.put,zq1,zq2,zq3,zq4,zq5,zq6]
    refine tkA (i:=18) (v:=undef) rfl (Or.inr ⟨by rfl,rfl⟩) hHeld ?_
    simp only [Act.put,zq1,zq2,zq3,zq4,zq5,zq6]
    refine tkA (i:=19) (v:=undef) rfl (Or.inr ⟨by rfl,rfl⟩) hHeld ?_
    simp only [Act.put,zq1,zq2,zq3,zq4,zq5,zq6]
    refine tkA (i:=20) (v:=undef) rfl (Or.inr ⟨by rfl,rfl⟩) hHeld ?_
    simp only [Act.put,zq1,zq2,zq3,zq4,zq5,zq6]
    refine tkA (i:=21) (v:=undef) rfl (Or.inr ⟨by rfl,rfl⟩) hHeld ?_
    simp only [Act.put,zq1,zq2,zq3,zq4,zq5,zq6]
    refine tkA (i:=22) (v:=undef) rfl (Or.inr ⟨by rfl,rfl⟩) hHeld ?_
    simp only [Act.put,zq1,zq2,zq3,zq4,zq5,zq6]
    refine tkA (i:=23) (v:=undef) rfl (Or.inr ⟨by rfl,rfl⟩) hHeld ?_
    simp only [Act.put,zq1,zq2,zq3,zq4,zq5,zq6]
    refine tkA (i:=24) (v:=undef) rfl (Or.inr ⟨by rfl,rfl⟩) hHeld ?_
    simp only [Act.put,zq1,zq2,zq3,zq4,zq5,zq6]
    refine tkA (i:=25) (v:=undef) rfl (Or.inr ⟨by rfl,rfl⟩) hHeld ?_
    simp only [Act.put,zq1,zq2,zq3,zq4,zq5,zq6]
    refine tkB (i:=26) (v:=.bool false) rfl hHeld ?_
    simp only [Act.put,zq1,zq2,zq3,zq4,zq5,zq6]
    refine tkB (i:=27) (v:=.bool false) rfl hHeld ?_
    simp only [Act.put,zq1,zq2,zq3,zq4,zq5,zq6]
    refine wpAnyH_done (by kernel_rfl) ?_ _
    clear hHeld
    go_wp2
    go_ret
    exact ⟨rfl,belowN HB1.out 1⟩
theorem bsOW {B:Nat} {w:World} {v:Value} {l:List UInt8} (h:Bs.OW B w v l):OW B w v l:=h
theorem OW.setOther {B g:Nat} {w:World} {v:Value} {l:List UInt8} (h:OW B w v l) (hg:g < B) (x:Value) (i:Nat):OW B (w.setCell ⟨g,i,none⟩ x) v l:=by
  refine ⟨h.1,?_⟩
  rcases h.2 with h1 | ⟨q,cap,cur,h1,h2,h3,h4⟩
  · exact .inl h1
  · refine .inr ⟨q,cap,cur,h1,h2,?_,h4⟩
    rw [Below.heap_setCell w ⟨g,i,none⟩ x q (by show q≠g; omega)]
    exact h3
set_option maxHeartbeats 1000000 in
theorem gainT (w:World) (g:Nat) (P:Pv) (h:PK w g P) (L:List Int) (la:Option Addr) (lc:Nat) (hln:P.ln = .slice la L.length lc) (hl:L.length≤65536) (H:List UInt8) (hr:RB w P.hs H) (hH:H.length≤140737488351232) (hm:Bs.MT w) (i:Int) (g0:-9223372036854775808≤i) (g1:i≤9223372036854775807) :
    Calls Tryz.prog 99 #[.pointer (some ⟨g,0,none⟩),.int .i64 i] w fun e w'=>e = .returned (.tuple #[])∧∃ hv H',PK w' g { P with hs:=hv }∧((Bs.gB (L.length:Int) H i = true∧hv = P.hs∧H' = H)∨(Bs.gB (L.length:Int) H i = false∧Bs.PU (L.length:Int) H i true H'∧OW w.heap.size w' hv H'))∧Fm.Fr (fun k=>k≠g) w w':=by
  have HK:Hid (PK w g P):=h
  obtain ⟨_,c1,_,_,_,c31⟩:=h.cells
  rw [hln] at c1
  have HG:Hid (Calls Tryz.prog 113 #[.int .i64 (L.length:Int),P.hs,.int .i64 i] w.drew fun e w'=>e = .returned (.tuple #[.bool (Bs.gB (L.length:Int) H i),.int .i64 (Bs.gE (L.length:Int) H i)])∧∃ nq,w' = w.drew.drewN nq):=Bs.get11 (L.length:Int) (by omega) (by omega) P.hs H i g0 g1 w.drew (bsRB (hr.keep (belowDrew w 1))) (hm.keep (belowDrew w 1)) hH
  have HPu:Hid (∀ u,Below w.heap.size w u→Calls Tryz.prog 114 #[.int .i64 (L.length:Int),P.hs,.int .i64 i,.bool true] u fun e w'=>∃ v' r,e = .returned (.tuple #[v',.int .i64 (Bs.gE (L.length:Int) H i)])∧Bs.OW u.heap.size w' v' r∧Bs.PU (L.length:Int) H i true r∧Below u.heap.size u w'):=fun u hu=>Bs.put21 (L.length:Int) (by omega) (by omega) P.hs H i g0 g1 true u (bsRB (hr.keep hu)) (hm.keep hu) hH
  obtain ⟨ha,hc,hhs,_⟩:=hr
  have f31:=h.fr 31
  rw [hhs] at c31 HG HPu
  have HU:Hid (∀ u:World,Below w.heap.size w u→PK u g P∧u.cell? ⟨g,21,none⟩ = some (.slice la L.length lc)∧u.cell? ⟨g,31,none⟩ = some (.slice ha H.length hc)):=fun u hu=>by
    have k:=h.keep (hu.block g h.lt)
    exact ⟨k,by rw [← hln]; exact k.cells.2.1,by rw [← hhs]; exact k.cells.2.2.2.2.2⟩
  have hgl:=h.lt
  clear h hm
  generalize Bs.gE (L.length:Int) H i = E at *
  have HV:Hid (∀ b,Bs.gB (L.length:Int) H i = b→Bs.gB (L.length:Int) H i = b):=fun _ h=>h
  cases hgb:Bs.gB (L.length:Int) H i
  · rw [hgb] at HG
    clear HV hgb
    go_enter Tryz.func99,Tryz.ntmps99
    go_upto_region 0 with fail
    refine wp_region_held_drew (S:=fun u=>u.cell? ⟨g,21,none⟩ = some (.slice la L.length lc)∧u.cell? ⟨g,31,none⟩ = some (.slice ha H.length hc)) (by kernel_rfl) (⟨c1,c31⟩) (fun hHeld=>?_)
    refine tkB (i:=0) (v:=.pointer (some ⟨g,0,none⟩)) rfl hHeld ?_
    simp only [Act.put,zq1,zq2,zq4,zq5,zq6]
    refine tkB (i:=1) (v:=.pointer (some ⟨g,0,none⟩)) rfl hHeld ?_
    simp only [Act.put,zq1,zq2,zq3,zq4,zq5,zq6]
    refine tkB (i:=2) (v:=.pointer (some ⟨g,0,none⟩)) rfl hHeld ?_
    simp only [Act.put,zq1,zq2,zq3,zq4,zq5,zq6]
    refine tkB (i:=3) (v:=.pointer (some ⟨g,21,none⟩)) rfl hHeld ?_
    simp only [Act.put,zq1,zq2,zq3,zq4,zq5,zq6]
    refine tkA (i:=4) (v:=.slice la L.length lc) rfl (Or.inl ⟨by rfl,fun w hw=>by have hq:=hw.1; go_simp⟩) hHeld ?_
    simp only [Act.put,zq1,zq2,zq3,zq4,zq5,zq6]
    refine tkB (i:=5) (v:=.int .i64 (L.length:Int)) rfl hHeld ?_
    simp only [Act.put,zq1,zq2,zq3,zq4,zq5,zq6]
    refine tkB (i:=6) (v:=.pointer (some ⟨g,0,none⟩)) rfl hHeld ?_
    simp only [Act.put,zq1,zq2,zq3,zq4,zq5,zq6]
    refine tkB (i:=7) (v:=.pointer (some ⟨g,0,none⟩)) rfl hHeld ?_
    simp only [Act.put,zq1,zq2,zq3,zq4,zq5,zq6]
    refine tkB (i:=8) (v:=.pointer (some ⟨g,31,none⟩)) rfl hHeld ?_
    simp only [Act.put,zq1,zq2,zq3,zq4,zq5,zq6]
    refine tkA (i:=9) (v:=.slice ha H.length hc) rfl (Or.inl ⟨by rfl,fun w hw=>by have hq:=hw.2; go_simp⟩) hHeld ?_
    simp only [Act.put,zq1,zq2,zq3,zq4,zq5,zq6]
    refine tkB (i:=10) (v:=.int .i64 i) rfl hHeld ?_
    simp only [Act.put,zq1,zq2,zq3,zq4,zq5,zq6]
    refine wpAnyH_ready (rs:=[11]) (by kernel_rfl) (by simp) ?_
    refine AllReadyH.cons (o:=_) rfl (fun K hK=>?_) AllReadyH.nil
    go_simp
    refine (HG.out).mono ?_
    rintro e w' ⟨rfl,nq,rfl⟩
    go_wp2_with fail
    refine hK.out _ _ (⟨c1,c31⟩) (fun hHeld=>?_)
    clear hK K
    refine tkB (i:=12) (v:=.tuple #[.bool false,.int .i64 E]) rfl hHeld ?_
    simp only [Act.put,zq1,zq2,zq3,zq4,zq5,zq6]
    refine tkB (i:=13) (v:=.bool false) rfl hHeld ?_
    simp only [Act.put,zq1,zq2,zq3,zq4,zq5,zq6]
    refine tkB (i:=14) (v:=.int .i64 E) rfl hHeld ?_
    simp only [Act.put,zq1,zq2,zq3,zq4,zq5,zq6]
    refine tkB (i:=15) (v:=.bool false) rfl hHeld ?_
    simp only [Act.put,zq1,zq2,zq3,zq4,zq5,zq6]
    refine tkB (i:=16) (v:=.int .i64 E) rfl hHeld ?_
    simp only [Act.put,zq1,zq2,zq3,zq4,zq5,zq6]
    refine wpAnyH_done (by kernel_rfl) ?_ _
    clear hHeld
    have B1:Hid (Below w.heap.size w (w.drewN (1 + nq))):=belowDrew w (1 + nq)
    go_upto_region 2 with fail
    obtain ⟨w1,hw1⟩:∃ u,u = w.drewN (1 + nq):=⟨_,rfl⟩
    rw [← hw1] at B1 ⊢
    clear hw1 c1 c31 f31 HG
    refine wp_region_held_drew (S:=fun u=>u.cell? ⟨g,21,none⟩ = some (.slice la L.length lc)) (by kernel_rfl) ((HU.out _ (belowN B1.out 1)).2.1) (fun hHeld=>?_)
    refine tkB (i:=0) (v:=.pointer (some ⟨g,0,none⟩)) rfl hHeld ?_
    simp only [Act.put,zq1,zq2,zq4,zq5,zq6]
    refine tkB (i:=1) (v:=.pointer (some ⟨g,0,none⟩)) rfl hHeld ?_
    simp only [Act.put,zq1,zq2,zq3,zq4,zq5,zq6]
    refine tkB (i:=2) (v:=.pointer (some ⟨g,0,none⟩)) rfl hHeld ?_
    simp only [Act.put,zq1,zq2,zq3,zq4,zq5,zq6]
    refine tkB (i:=3) (v:=.pointer (some ⟨g,0,none⟩)) rfl hHeld ?_
    simp only [Act.put,zq1,zq2,zq3,zq4,zq5,zq6]
    refine tkB (i:=4) (v:=.pointer (some ⟨g,21,none⟩)) rfl hHeld ?_
    simp only [Act.put,zq1,zq2,zq3,zq4,zq5,zq6]
    refine tkA (i:=5) (v:=.slice la L.length lc) rfl (Or.inl ⟨by rfl,fun w hw=>by have hq:=hw; go_simp⟩) hHeld ?_
    simp only [Act.put,zq1,zq2,zq3,zq4,zq5,zq6]
    refine tkB (i:=6) (v:=.int .i64 (L.length:Int)) rfl hHeld ?_
    simp only [Act.put,zq1,zq2,zq3,zq4,zq5,zq6]
    refine tkB (i:=7) (v:=.pointer (some ⟨g,0,none⟩)) rfl hHeld ?_
    simp only [Act.put,zq1,zq2,zq3,zq4,zq5,zq6]
    refine tkB (i:=8) (v:=.pointer (some ⟨g,0,none⟩)) rfl hHeld ?_
    simp only [Act.put,zq1,zq2,zq3,zq4,zq5,zq6]
    refine tkB (i:=9) (v:=.pointer (some ⟨g,31,none⟩)) rfl hHeld ?_
    simp only [Act.put,zq1,zq2,zq3,zq4,zq5,zq6]
    refine tkB (i:=11) (v:=.int .i64 i) rfl hHeld ?_
    simp only [Act.put,zq1,zq2,zq3,zq4,zq5,zq6]
    have c31:w1.drew.cell? ⟨g,31,none⟩ = some (.slice ha H.length hc):=(HU.out _ (belowN B1.out 1)).2.2
    refine wpAnyH_ready (rs:=[10]) (by kernel_rfl) (by simp) ?_
    refine AllReadyH.cons (o:=_) rfl (fun K hK=>?_) AllReadyH.nil
    go_simp
    refine hK.out _ _ hHeld (fun hHeld=>?_)
    clear hK K c31
    refine wpAnyH_ready (rs:=[12]) (by kernel_rfl) (by simp) ?_
    refine AllReadyH.cons (o:=_) rfl (fun K hK=>?_) AllReadyH.nil
    go_simp
    refine (HPu.out _ (belowN B1.out 1)).mono ?_
    rintro e w3 ⟨v3,r3,rfl,o3,pu3,b3⟩
    obtain ⟨a3,c3,rfl⟩:=(bsOW o3).form
    have B3:Below w.heap.size w w3:=(belowN B1.out 1).trans (b3.mono B1.out.size)
    obtain ⟨K3,c21,c31⟩:=HU.out _ B3
    have f31:=K3.fr 31
    have HE:Hid (PK (w3.setCell ⟨g,31,none⟩ (.slice a3 r3.length c3)) g { P with hs:=.slice a3 r3.length c3 }∧Bs.PU (L.length:Int) H i true r3∧OW w.heap.size (w3.setCell ⟨g,31,none⟩ (.slice a3 r3.length c3)) (.slice a3 r3.length c3) r3∧Fm.Fr (fun k=>k≠g) w (w3.setCell ⟨g,31,none⟩ (.slice a3 r3.length c3))):=⟨K3.set 11 _ _ rfl rfl,pu3,OW.setOther ((bsOW o3).mono B1.out.size) hgl _ _,(Fm.Fr.of_below B3).setCell g 31 _ (fun h=>h rfl)⟩
    clear o3 pu3 b3 B3 K3
    go_wp2_with fail
    refine hK.out _ _ c21 (fun hHeld=>?_)
    clear hK K
    refine tkB (i:=13) (v:=.tuple #[.slice a3 r3.length c3,.int .i64 E]) rfl hHeld ?_
    simp only [Act.put,zq1,zq2,zq3,zq4,zq5,zq6]
    refine tkB (i:=14) (v:=.slice a3 r3.length c3) rfl hHeld ?_
    simp only [Act.put,zq1,zq2,zq3,zq4,zq5,zq6]
    refine tkB (i:=15) (v:=.int .i64 E) rfl hHeld ?_
    simp only [Act.put,zq1,zq2,zq3,zq4,zq5,zq6]
    refine tkB (i:=16) (v:=.pointer (some ⟨g,0,none⟩)) rfl hHeld ?_
    simp only [Act.put,zq1,zq2,zq3,zq4,zq5,zq6]
    refine tkB (i:=17) (v:=.pointer (some ⟨g,31,none⟩)) rfl hHeld ?_
    simp only [Act.put,zq1,zq2,zq3,zq4,zq5,zq6]
    refine wpAnyH_ready (rs:=[18]) (by kernel_rfl) (by simp) ?_
    refine AllReadyH.cons (o:=_) rfl (fun K hK=>?_) AllReadyH.nil
    go_simp
    refine hK.out _ _ (by have q:=HE.out.1.cells.2.1; rw [hln] at q; exact q) (fun hHeld=>?_)
    clear hK K
    refine wpAnyH_done (by kernel_rfl) ?_ _
    clear hHeld
    go_wp2
    go_end0
    exact ⟨rfl,_,r3,HE.out.1,.inr ⟨trivial,HE.out.2.1,HE.out.2.2.1⟩,HE.out.2.2.2⟩
  · rw [hgb] at HG
    clear HV hgb
    go_enter Tryz.func99,Tryz.ntmps99
    go_upto_region 0 with fail
    refine wp_region_held_drew (S:=fun u=>u.cell? ⟨g,21,none⟩ = some (.slice la L.length lc)∧u.cell? ⟨g,31,none⟩ = some (.slice ha H.length hc)) (by kernel_rfl) (⟨c1,c31⟩) (fun hHeld=>?_)
    refine tkB (i:=0) (v:=.pointer (some ⟨g,0,none⟩)) rfl hHeld ?_
    simp only [Act.put,zq1,zq2,zq4,zq5,zq6]
    refine tkB (i:=1) (v:=.pointer (some ⟨g,0,none⟩)) rfl hHeld ?_
    simp only [Act.put,zq1,zq2,zq3,zq4,zq5,zq6]
    refine tkB (i:=2) (v:=.pointer (some ⟨g,0,none⟩)) rfl hHeld ?_
    simp only [Act.put,zq1,zq2,zq3,zq4,zq5,zq6]
    refine tkB (i:=3) (v:=.pointer (some ⟨g,21,none⟩)) rfl hHeld ?_
    simp only [Act.put,zq1,zq2,zq3,zq4,zq5,zq6]
    refine tkA (i:=4) (v:=.slice la L.length lc) rfl (Or.inl ⟨by rfl,fun w hw=>by have hq:=hw.1; go_simp⟩) hHeld ?_
    simp only [Act.put,zq1,zq2,zq3,zq4,zq5,zq6]
    refine tkB (i:=5) (v:=.int .i64 (L.length:Int)) rfl hHeld ?_
    simp only [Act.put,zq1,zq2,zq3,zq4,zq5,zq6]
    refine tkB (i:=6) (v:=.pointer (some ⟨g,0,none⟩)) rfl hHeld ?_
    simp only [Act.put,zq1,zq2,zq3,zq4,zq5,zq6]
    refine tkB (i:=7) (v:=.pointer (some ⟨g,0,none⟩)) rfl hHeld ?_
    simp only [Act.put,zq1,zq2,zq3,zq4,zq5,zq6]
    refine tkB (i:=8) (v:=.pointer (some ⟨g,31,none⟩)) rfl hHeld ?_
    simp only [Act.put,zq1,zq2,zq3,zq4,zq5,zq6]
    refine tkA (i:=9) (v:=.slice ha H.length hc) rfl (Or.inl ⟨by rfl,fun w hw=>by have hq:=hw.2; go_simp⟩) hHeld ?_
    simp only [Act.put,zq1,zq2,zq3,zq4,zq5,zq6]
    refine tkB (i:=10) (v:=.int .i64 i) rfl hHeld ?_
    simp only [Act.put,zq1,zq2,zq3,zq4,zq5,zq6]
    refine wpAnyH_ready (rs:=[11]) (by kernel_rfl) (by simp) ?_
    refine AllReadyH.cons (o:=_) rfl (fun K hK=>?_) AllReadyH.nil
    go_simp
    refine (HG.out).mono ?_
    rintro e w' ⟨rfl,nq,rfl⟩
    go_wp2_with fail
    refine hK.out _ _ (⟨c1,c31⟩) (fun hHeld=>?_)
    clear hK K
    refine tkB (i:=12) (v:=.tuple #[.bool true,.int .i64 E]) rfl hHeld ?_
    simp only [Act.put,zq1,zq2,zq3,zq4,zq5,zq6]
    refine tkB (i:=13) (v:=.bool true) rfl hHeld ?_
    simp only [Act.put,zq1,zq2,zq3,zq4,zq5,zq6]
    refine tkB (i:=14) (v:=.int .i64 E) rfl hHeld ?_
    simp only [Act.put,zq1,zq2,zq3,zq4,zq5,zq6]
    refine tkB (i:=15) (v:=.bool true) rfl hHeld ?_
    simp only [Act.put,zq1,zq2,zq3,zq4,zq5,zq6]
    refine tkB (i:=16) (v:=.int .i64 E) rfl hHeld ?_
    simp only [Act.put,zq1,zq2,zq3,zq4,zq5,zq6]
    refine wpAnyH_done (by kernel_rfl) ?_ _
    clear hHeld
    go_wp2
    go_end0
    exact ⟨rfl,P.hs,H,HK.out,.inl ⟨trivial,rfl,rfl⟩,Fm.Fr.of_below (belowDrew _ _)⟩
end Go.Proofs.YtfjjpbebnoghmaaGreatDoor
