import Derived.Test.YtdlnnnlmlaploabGreatDoorK14
namespace Go.Proofs.YtdlnnnlmlaploabGreatDoor
open Go.RowKit Go.Deep
set_option maxRecDepth 10000 in
set_option maxHeartbeats 1000000 in
theorem due54s {B rb:Nat} {w:World} {a:Option Addr} {c:Nat} {b:List UInt8} {i n m K:Nat} {ov:Value} {us:List Value} (h:SR B rb w a c b i n ov K us) (hn:n ≤ 1048577) (hK:K = m + 1) (hKl:K ≤ 1048577) {pl nt be:Int} {ky:ByteArray} (t7:us[m * 12 + 7]? = some (.int .i64 pl)) (t9:us[m * 12 + 9]? = some (.int .i64 (nt + 1))) (t10:us[m * 12 + 10]? = some (.string ky)) (t11:us[m * 12 + 11]? = some (.int .i64 be)) (hnt0:0 ≤ nt) (hnt1:nt ≤ 1048577) :
    Calls Tryz.prog 64 #[.pointer (some ⟨rb,0,none⟩)] w fun e w'=>e = .returned (.agg (sv9 0 i 0 K pl nt ky n be))∧SR B rb w' a c b i (n + 1) ov K us∧Besides rb w w':=by
  obtain ⟨c0,c1,c2,c3,f1,f2,f3⟩:=h.cells
  have hov:∃ g oc,ov = .slice (some ⟨g,0,none⟩) K oc∧K ≤ oc:=by
    rcases h.own.2 with ⟨_,e⟩ | ⟨g,cap,cur,q1,q2,q3,q4,_⟩
    · omega
    · exact ⟨_,_,q1,q4⟩
  obtain ⟨g,oc,rfl,hoc⟩:=hov
  have k0i:(0:Int) < (K:Int):=by omega
  have k1i:(K:Int) ≤ 1048577:=by omega
  have kmi:(K:Int) - 1 = (m:Int):=by omega
  have m0i:(0:Int) ≤ (m:Int):=by omega
  have m1i:(m:Int) < (K:Int):=by omega
  have hn1:(n:Int) ≤ 1048577:=by omega
  have n1:=World.new_ne w _ c1
  have hb0:Below w.heap.size w (w.alloc zero9):=(Below.refl _ _).alloc (Nat.le_refl _) _
  have HX:=Lib.hid (And.intro h (And.intro hb0 (h.keep hb0)))
  obtain ⟨d0,d1,d2,d3,e1,e2,e3⟩:=HX.out.2.2.cells
  have k0:blk (w.alloc zero9) w.heap.size 45 #[.int .i64 0,.int .i64 0,.int .i64 0,.int .i64 0,.int .i64 0,.int .i64 0,.string { data:=#[] },.int .i64 0,.int .i64 0]:=heap_new w zero9
  have hb1:Below w.heap.size w ((w.alloc zero9).alloc (Obj.cells #[.int .i64 0,.int .i64 0,.int .i64 0,.int .i64 0,.int .i64 0,.int .i64 0,.string { data:=#[] },.int .i64 n,.int .i64 0] 45)):=hb0.alloc (by simp) _
  have HY:Hid (SR B rb ((w.alloc zero9).alloc (Obj.cells #[.int .i64 0,.int .i64 0,.int .i64 0,.int .i64 0,.int .i64 0,.int .i64 0,.string { data:=#[] },.int .i64 n,.int .i64 0] 45)) a c b i n (.slice (some ⟨g,0,none⟩) K oc) K us∧Below w.heap.size w ((w.alloc zero9).alloc (Obj.cells #[.int .i64 0,.int .i64 0,.int .i64 0,.int .i64 0,.int .i64 0,.int .i64 0,.string { data:=#[] },.int .i64 n,.int .i64 0] 45)) ∧
      blk ((w.alloc zero9).alloc (Obj.cells #[.int .i64 0,.int .i64 0,.int .i64 0,.int .i64 0,.int .i64 0,.int .i64 0,.string { data:=#[] },.int .i64 n,.int .i64 0] 45)) w.heap.size 45 #[.int .i64 0,.int .i64 0,.int .i64 0,.int .i64 0,.int .i64 0,.int .i64 0,.string { data:=#[] },.int .i64 0,.int .i64 0] ∧
      blk ((w.alloc zero9).alloc (Obj.cells #[.int .i64 0,.int .i64 0,.int .i64 0,.int .i64 0,.int .i64 0,.int .i64 0,.string { data:=#[] },.int .i64 n,.int .i64 0] 45)) (w.heap.size + 1) 45 #[.int .i64 0,.int .i64 0,.int .i64 0,.int .i64 0,.int .i64 0,.int .i64 0,.string { data:=#[] },.int .i64 n,.int .i64 0]):=
    ⟨h.keep hb1,hb1,k0.keep (Below.heap_alloc _ _ _ k0.lt),by have h2:=heap_new (w.alloc zero9) (Obj.cells #[.int .i64 0,.int .i64 0,.int .i64 0,.int .i64 0,.int .i64 0,.int .i64 0,.string { data:=#[] },.int .i64 n,.int .i64 0] 45); rw [show (w.alloc zero9).heap.size = w.heap.size + 1 from Array.size_push ..] at h2; exact h2⟩
  obtain ⟨_,g1,g2,g3,u1,u2,u3⟩:=HY.out.1.cells
  clear h hb0 hb1 c0 c1 c2 c3 f1 f2 f3 k0
  go_enter Tryz.func64,Tryz.ntmps64
  go_wp2_with fail
  have HZ:=HY
  generalize ((w.alloc (Obj.cells #[.int .i64 0,.int .i64 0,.int .i64 0,.int .i64 0,.int .i64 0,.int .i64 0,.string { data:=#[] },.int .i64 0,.int .i64 0] 45)).alloc (Obj.cells #[.int .i64 0,.int .i64 0,.int .i64 0,.int .i64 0,.int .i64 0,.int .i64 0,.string { data:=#[] },.int .i64 n,.int .i64 0] 45)) = W0 at *
  generalize hH:w.heap.size = H at *
  have hrH:rb ≠ H:=fun e=>n1 e.symm
  have hrH1:rb ≠ H + 1:=by have:=HX.out.1.bk.lt; omega
  have h1r:H + 1 ≠ rb:=fun e=>hrH1 e.symm
  have HW:Hid (SR B rb (W0.setCell ⟨rb,2,none⟩ (.int .i64 ((n:Int) + 1))) a c b i (n + 1) (.slice (some ⟨g,0,none⟩) K oc) K us∧blk (W0.setCell ⟨rb,2,none⟩ (.int .i64 ((n:Int) + 1))) H 45 #[.int .i64 0,.int .i64 0,.int .i64 0,.int .i64 0,.int .i64 0,.int .i64 0,.string { data:=#[] },.int .i64 0,.int .i64 0]∧blk (W0.setCell ⟨rb,2,none⟩ (.int .i64 ((n:Int) + 1))) (H + 1) 45 #[.int .i64 0,.int .i64 0,.int .i64 0,.int .i64 0,.int .i64 0,.int .i64 0,.string { data:=#[] },.int .i64 n,.int .i64 0]∧Besides rb w (W0.setCell ⟨rb,2,none⟩ (.int .i64 ((n:Int) + 1)))):=by
    obtain ⟨q1,q2,q3,q4⟩:=HY.out
    refine ⟨q1.set q1.le rfl,q3.keep (Below.heap_setCell _ _ _ _ hrH.symm),q4.keep (Below.heap_setCell _ _ _ _ hrH1.symm),(Besides.of_below (by rw [hH]; exact q2)).set1⟩
  generalize (W0.setCell ⟨rb,2,none⟩ (.int .i64 ((n:Int) + 1))) = W at *
  have HH:=Lib.hid hH
  clear HY HZ hH d0 d1 d2 d3 e1 e2 e3 g1 g2 g3 u1 u2 u3
  obtain ⟨_,g1,g2,g3,u1,u2,u3⟩:=HW.out.1.cells
  obtain ⟨b0,b1,b2,b3,b4,b5,b6,b7,b8⟩:=HW.out.2.2.1.cells9
  obtain ⟨x0,x1,x2,x3,x4,x5,x6,x7,x8⟩:=HW.out.2.2.1.frozen9
  go_region_held3 (fun w'=>w'.cell? ⟨rb,1,none⟩ = some (.int .i64 i)∧w'.cell? ⟨rb,3,none⟩ = some (.slice (some ⟨g,0,none⟩) K oc)) (go_keep) (fail)
  have HV:Hid (SR B rb (((W.setCell ⟨H + 1,1,none⟩ (.int .i64 i)).setCell ⟨H + 1,3,none⟩ (.int .i64 ((m:Int) + 1))).setCell ⟨H + 1,4,none⟩ (.int .i64 (-1))) a c b i (n + 1) (.slice (some ⟨g,0,none⟩) K oc) K us∧blk (((W.setCell ⟨H + 1,1,none⟩ (.int .i64 i)).setCell ⟨H + 1,3,none⟩ (.int .i64 ((m:Int) + 1))).setCell ⟨H + 1,4,none⟩ (.int .i64 (-1))) H 45 #[.int .i64 0,.int .i64 0,.int .i64 0,.int .i64 0,.int .i64 0,.int .i64 0,.string { data:=#[] },.int .i64 0,.int .i64 0]∧blk (((W.setCell ⟨H + 1,1,none⟩ (.int .i64 i)).setCell ⟨H + 1,3,none⟩ (.int .i64 ((m:Int) + 1))).setCell ⟨H + 1,4,none⟩ (.int .i64 (-1))) (H + 1) 45 #[.int .i64 0,.int .i64 i,.int .i64 0,.int .i64 ((m:Int) + 1),.int .i64 (-1),.int .i64 0,.string { data:=#[] },.int .i64 n,.int .i64 0]∧Besides rb w (((W.setCell ⟨H + 1,1,none⟩ (.int .i64 i)).setCell ⟨H + 1,3,none⟩ (.int .i64 ((m:Int) + 1))).setCell ⟨H + 1,4,none⟩ (.int .i64 (-1)))):=by
    obtain ⟨q1,q2,q3,q4⟩:=HW.out
    have hz:w.heap.size ≤ H + 1:=by have:=HH.out; omega
    have hne:H ≠ H + 1:=by omega
    have s1:=HX.out.1.setFar q4 q1 hz 1 (.int .i64 i)
    have m1:=Besides.setOld (o:=1) (u:=.int .i64 i) hz q4
    have s2:=HX.out.1.setFar m1 s1 hz 3 (.int .i64 ((m:Int) + 1))
    have m2:=Besides.setOld (o:=3) (u:=.int .i64 ((m:Int) + 1)) hz m1
    have s3:=HX.out.1.setFar m2 s2 hz 4 (.int .i64 (-1))
    have m3:=Besides.setOld (o:=4) (u:=.int .i64 (-1)) hz m2
    exact ⟨s3,((q2.keep (Below.heap_setCell _ _ _ _ hne)).keep (Below.heap_setCell _ _ _ _ hne)).keep (Below.heap_setCell _ _ _ _ hne),((q3.set 1 _).set 3 _).set 4 _,m3⟩
  generalize (((W.setCell ⟨H + 1,1,none⟩ (.int .i64 i)).setCell ⟨H + 1,3,none⟩ (.int .i64 ((m:Int) + 1))).setCell ⟨H + 1,4,none⟩ (.int .i64 (-1))) = V at *
  clear HW b0 b1 b2 b3 b4 b5 b6 b7 b8 x0 x1 x2 x3 x4 x5 x6 x7 x8 g1 g2 g3 u1 u2 u3
  obtain ⟨b0,b1,b2,b3,b4,b5,b6,b7,b8⟩:=HV.out.2.2.1.cells9
  obtain ⟨x0,x1,x2,x3,x4,x5,x6,x7,x8⟩:=HV.out.2.2.1.frozen9
  obtain ⟨_,g1,g2,g3,u1,u2,u3⟩:=HV.out.1.cells
  have hgl:=own_lt HV.out.1.own (g:=g) rfl
  obtain ⟨_,_,hcl⟩:=own_form HV.out.1.own (g:=g) rfl
  have r7:=hcl _ _ t7
  have r9:=hcl _ _ t9
  have r10:=hcl _ _ t10
  have r11:=hcl _ _ t11
  have hg1:H + 1 ≠ g:=by
    have:=own_lt HX.out.1.own (g:=g) rfl
    have:=HH.out
    omega
  have km2:(m:Int) + 1 - 1 = (m:Int):=by omega
  have km3:(m:Int) < (m:Int) + 1:=by omega
  clear hcl t7 t9 t10 t11
  go_wp2_with fail
  go_quiet (fail)
  go_wp2_with fail
  go_region_held3 (fun w'=>w'.cell? ⟨g,m * 12 + 7,none⟩ = some (.int .i64 pl)∧w'.cell? ⟨g,m * 12 + 9,none⟩ = some (.int .i64 (nt + 1))∧w'.cell? ⟨g,m * 12 + 10,none⟩ = some (.string ky)∧w'.cell? ⟨g,m * 12 + 11,none⟩ = some (.int .i64 be)) (go_keep) (fail)
  have hwn:IntKind.i64.wrap nt = nt:=IntWalk.i64_in _ (by omega)
  rw [hwn]
  have HU:Hid (SR B rb (((((V.drewN (1 + nq + 1)).setCell ⟨H + 1,4,none⟩ (.int .i64 pl)).setCell ⟨H + 1,5,none⟩ (.int .i64 nt)).setCell ⟨H + 1,6,none⟩ (.string ky)).setCell ⟨H + 1,8,none⟩ (.int .i64 be)) a c b i (n + 1) (.slice (some ⟨g,0,none⟩) K oc) K us∧blk (((((V.drewN (1 + nq + 1)).setCell ⟨H + 1,4,none⟩ (.int .i64 pl)).setCell ⟨H + 1,5,none⟩ (.int .i64 nt)).setCell ⟨H + 1,6,none⟩ (.string ky)).setCell ⟨H + 1,8,none⟩ (.int .i64 be)) H 45 #[.int .i64 0,.int .i64 0,.int .i64 0,.int .i64 0,.int .i64 0,.int .i64 0,.string { data:=#[] },.int .i64 0,.int .i64 0]∧blk (((((V.drewN (1 + nq + 1)).setCell ⟨H + 1,4,none⟩ (.int .i64 pl)).setCell ⟨H + 1,5,none⟩ (.int .i64 nt)).setCell ⟨H + 1,6,none⟩ (.string ky)).setCell ⟨H + 1,8,none⟩ (.int .i64 be)) (H + 1) 45 #[.int .i64 0,.int .i64 i,.int .i64 0,.int .i64 ((m:Int) + 1),.int .i64 pl,.int .i64 nt,.string ky,.int .i64 n,.int .i64 be]∧Besides rb w (((((V.drewN (1 + nq + 1)).setCell ⟨H + 1,4,none⟩ (.int .i64 pl)).setCell ⟨H + 1,5,none⟩ (.int .i64 nt)).setCell ⟨H + 1,6,none⟩ (.string ky)).setCell ⟨H + 1,8,none⟩ (.int .i64 be))):=by
    obtain ⟨q1,q2,q3,q4⟩:=HV.out
    have hz:w.heap.size ≤ H + 1:=by have:=HH.out; omega
    have hne:H ≠ H + 1:=by omega
    have hd:Below V.heap.size V (V.drewN (1 + nq + 1)):=⟨rfl,rfl,rfl,Nat.le_refl _,fun _ _=>rfl⟩
    have s0:=q1.keep hd
    have m0:Besides rb w (V.drewN (1 + nq + 1)):=⟨q4.os,q4.tape,q4.output,q4.size,q4.block⟩
    have p2:blk (V.drewN (1 + nq + 1)) H 45 _:=q2.keep rfl
    have p3:blk (V.drewN (1 + nq + 1)) (H + 1) 45 _:=q3.keep rfl
    have s1:=HX.out.1.setFar m0 s0 hz 4 (.int .i64 pl)
    have m1:=Besides.setOld (o:=4) (u:=.int .i64 pl) hz m0
    have s2:=HX.out.1.setFar m1 s1 hz 5 (.int .i64 nt)
    have m2:=Besides.setOld (o:=5) (u:=.int .i64 nt) hz m1
    have s3:=HX.out.1.setFar m2 s2 hz 6 (.string ky)
    have m3:=Besides.setOld (o:=6) (u:=.string ky) hz m2
    have s4:=HX.out.1.setFar m3 s3 hz 8 (.int .i64 be)
    have m4:=Besides.setOld (o:=8) (u:=.int .i64 be) hz m3
    have e4:=p3.s4 (.int .i64 pl)
    have e5:=e4.s5 (.int .i64 nt)
    have e6:=e5.s6 (.string ky)
    have e8:=e6.s8 (.int .i64 be)
    exact ⟨s4,(((p2.keep (Below.heap_setCell _ _ _ _ hne)).keep (Below.heap_setCell _ _ _ _ hne)).keep (Below.heap_setCell _ _ _ _ hne)).keep (Below.heap_setCell _ _ _ _ hne),e8,m4⟩
  generalize ((((V.drewN (1 + nq + 1)).setCell ⟨H + 1,4,none⟩ (.int .i64 pl)).setCell ⟨H + 1,5,none⟩ (.int .i64 nt)).setCell ⟨H + 1,6,none⟩ (.string ky)).setCell ⟨H + 1,8,none⟩ (.int .i64 be) = U at *
  clear HV b0 b1 b2 b3 b4 b5 b6 b7 b8 x0 x1 x2 x3 x4 x5 x6 x7 x8 g1 g2 g3 u1 u2 u3 r7 r9 r10 r11
  obtain ⟨b0,b1,b2,b3,b4,b5,b6,b7,b8⟩:=HU.out.2.2.1.cells9
  obtain ⟨z0,z1,z2,z3,z4,z5,z6,z7,z8⟩:=HU.out.2.1.cells9
  obtain ⟨x0,x1,x2,x3,x4,x5,x6,x7,x8⟩:=HU.out.2.1.frozen9
  go_wp2
  obtain ⟨y1,y2,y3⟩:=HX.out.1.box9 HU.out.2.2.2 HU.out.1 (Nat.le_of_eq HH.out) HU.out.2.1 (.int .i64 0) (.int .i64 i) (.int .i64 0) (.int .i64 ((m:Int) + 1)) (.int .i64 pl) (.int .i64 nt) (.string ky) (.int .i64 n) (.int .i64 be)
  generalize hX:set9 U H (.int .i64 0) (.int .i64 i) (.int .i64 0) (.int .i64 ((m:Int) + 1)) (.int .i64 pl) (.int .i64 nt) (.string ky) (.int .i64 n) (.int .i64 be) = X at *
  unfold set9 at hX
  rw [hX]
  refine bodyPost_ret (v:=.agg (sv9 0 i 0 ((m:Int) + 1) pl nt ky n be)) (results_cell47 Tryz.results64 _ _ H _ rfl y3 rfl) rfl ?_
  exact ⟨by rw [hK]; rfl,y1,y2⟩
end Go.Proofs.YtdlnnnlmlaploabGreatDoor
