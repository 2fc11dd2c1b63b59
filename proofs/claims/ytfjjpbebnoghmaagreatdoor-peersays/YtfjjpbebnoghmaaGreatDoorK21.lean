import Derived.Test.YtfjjpbebnoghmaaGreatDoorK00
import Derived.Test.YtfjjpbebnoghmaaGreatDoorK20
import Derived.Test.YtfjjpbebnoghmaaGreatDoorK16
namespace Go.Proofs.YtfjjpbebnoghmaaGreatDoor
open Go.RowKit
def setR:Array Value→Nat→List Value→Array Value
  | cur,_, []=>cur
  | cur,o,u :: us=>setR (cur.setIfInBounds o u) (o + 1) us
theorem setCells_other:∀ (us:List Value) (w:World) (g o k:Nat),k≠g→(w.setCells g o us).heap[k]? = w.heap[k]?
  | [],_,_,_,_,_=>rfl
  | u :: us,w,g,o,k,h=>by
    unfold World.setCells
    rw [setCells_other us _ g (o + 1) k h]
    exact Below.heap_setCell _ _ _ _ (fun e=>h e)
theorem setCells_rest:∀ (us:List Value) (w:World) (g o:Nat),(w.setCells g o us).os = w.os∧(w.setCells g o us).tape = w.tape∧(w.setCells g o us).output = w.output∧(w.setCells g o us).heap.size = w.heap.size
  | [],_,_,_=>⟨rfl,rfl,rfl,rfl⟩
  | u :: us,w,g,o=>by
    unfold World.setCells
    obtain ⟨h1,h2,h3,h4⟩:=setCells_rest us (w.setCell ⟨g,o,none⟩ u) g (o + 1)
    exact ⟨h1,h2,h3,by rw [h4]; simp⟩
theorem setCells_heap:∀ (us:List Value) (w:World) (g o:Nat) (cur:Array Value) (t:TypeId),w.heap[g]? = some (.cells cur t (0,0))→(w.setCells g o us).heap[g]? = some (.cells (setR cur o us) t (0,0))
  | [],_,_,_,_,_,h=>h
  | u :: us,w,g,o,cur,t,h=>by
    unfold World.setCells setR
    exact setCells_heap us _ g (o + 1) _ t (heap_setCell_same w g o cur t u h)
theorem if_tt {c:Prop} [Decidable c] {A B:Prop} (hc:c) (h:A):if c then A else B:=by rw [if_pos hc]; exact h
theorem yieldsIf_built8 {ops:Array Oper} {S:World→Prop} {op:Oper} {a:Act} (hw:Region.wanted op (yielded ops a.tmps) = true) (t:TypeId) (x0 x1 x2 x3 x4 x5 x6 x7:Operand) (ho:op.op = .build t #[(0,x0),(1,x1),(2,x2),(3,x3),(4,x4),(5,x5),(6,x6),(7,x7)]) (v0 v1 v2 v3 v4 v5 v6 v7:Value)
    (h0:a.eval x0 = v0) (h1:a.eval x1 = v1) (h2:a.eval x2 = v2) (h3:a.eval x3 = v3) (h4:a.eval x4 = v4) (h5:a.eval x5 = v5) (h6:a.eval x6 = v6) (h7:a.eval x7 = v7) (T:Array Value)
    (hT:Tryz.prog.built t [(0,v0),(1,v1),(2,v2),(3,v3),(4,v4),(5,v5),(6,v6),(7,v7)] = some T):YieldsIf Tryz.prog ops S op (.agg T) a:=
  .inl ⟨hw,fun w _=>by
    have hf:Tryz.prog.built t (#[(0,x0),(1,x1),(2,x2),(3,x3),(4,x4),(5,x5),(6,x6),(7,x7)].map fun (i,x)=>(i,a.eval x)).toList = some T:=by
      rw [← hT]
      simp [h0,h1,h2,h3,h4,h5,h6,h7]
    have h:=run_build w t _ T hf
    unfold execOp
    simp only [ho,Sem.run_bind,h,Result.andThen_ok,Sem.run_pure]⟩
theorem st_built (a b:Bool) (y:Int) (c d e f:Bool) (x:Option Addr) (n k:Nat):Tryz.prog.built 61 [(0,.bool a),(1,.bool b),(2,.int .i64 y),(3,.bool c),(4,.bool d),(5,.bool e),(6,.bool f),(7,.slice x n k)] = some #[.bool a,.bool b,.int .i64 y,.bool c,.bool d,.bool e,.bool f,.slice x n k]:=by kernel_rfl
theorem st_info:(Tryz.prog.info? 61).map (·.size) = some 8:=by kernel_rfl
theorem there_row {w:World} {b o n:Nat} {cs:Array Value} {t:TypeId} (hg:w.heap[b]? = some (.cells cs t (0,0))) (h:o + n≤cs.size):w.there b o n:=fun j hj=>by
  have hlt:o + j < cs.size:=by omega
  exact ⟨by simp [World.cell?,hg,hlt],by simp [World.frozen?,hg]⟩
theorem results_state {fn:Func} {p:Tmp} (h:fn.results = #[.cell p 61]) (tmps:Array Value) (w:World) (g:Nat) (cs:Array Value)
    (hp:tmps.getD p undef = .pointer (some ⟨g,0,none⟩)) (hg:w.heap[g]? = some (.cells cs 61 (0,0))) (hs:cs.size = 8):(results fn tmps).run Tryz.prog w = .ok (.agg cs) w:=by
  have hp':tmps[p]?.getD undef = .pointer (some ⟨g,0,none⟩):=by simpa using hp
  simp [results,h,hp',asAddr,run_loadVar_row w g 61 61 cs (0,0) _ hg Tryz.underlying61 rfl (by rw [hs]; exact st_info)]
def z8:Array Value:=#[.bool false,.bool false,.int .i64 0,.bool false,.bool false,.bool false,.bool false,.slice none 0 0]
set_option maxHeartbeats 2000000 in
set_option maxRecDepth 100000 in
theorem stateT (w:World) (g:Nat) (P:Pv) (h:PK w g P) (hb:0 < P.b) (H:List UInt8) (hr:RB w P.hs H) (hH:H.length≤140737488351232) :
    Calls Tryz.prog 30 #[.pointer (some ⟨g,0,none⟩)] w fun e w'=>∃ hv,e = .returned (.agg #[.bool P.sh,.bool (P.why != 0),.int .i64 P.why,.bool P.wc,.bool P.wi,.bool P.ic,.bool P.ii,hv])∧OW w.heap.size w' hv H∧Below w.heap.size w w':=by
  have bA:Below w.heap.size w (w.alloc (.cells z8 61)):=(Below.refl _ _).alloc (Nat.le_refl _) _
  have HBA:=Lib.hid bA
  have HK1:=Lib.hid (h.keep (bA.block g h.lt))
  have HM:Hid (Calls Tryz.prog 56 #[.pointer (some ⟨g,0,none⟩)] (w.alloc (.cells z8 61)) fun e w'=>e = .returned (.bool false)∧w' = w.alloc (.cells z8 61)):=missingT _ g P HK1.out hb
  obtain ⟨ha,hcp,hhs,_⟩:=id hr
  have HCl:Hid (Calls Tryz.prog 57 #[.slice ha H.length hcp] (w.alloc (.cells z8 61)).drew fun e w'=>∃ v',e = .returned v'∧Bs.OW (w.alloc (.cells z8 61)).drew.heap.size w' v' H∧Below (w.alloc (.cells z8 61)).drew.heap.size (w.alloc (.cells z8 61)).drew w'):=by
    have h9:=Bs.clone34 P.hs H (w.alloc (.cells z8 61)).drew (bsRB ((hr.keep bA).keep (belowDrew _ 1))) hH
    rw [hhs] at h9
    exact h9
  have hres2:∀ w2,Below (w.alloc (.cells z8 61)).drew.heap.size (w.alloc (.cells z8 61)).drew w2→w2.heap[w.heap.size]? = some (.cells z8 61 (0,0)):=fun w2 b2=>(b2.block w.heap.size (by show w.heap.size < (w.heap.push _).size; simp)).trans (heapNew w _)
  have hgl:=h.lt
  have hkeep:∀ w2,Below (w.alloc (.cells z8 61)).drew.heap.size (w.alloc (.cells z8 61)).drew w2→∀ us,PK (w2.setCells w.heap.size 0 us) g P:=fun w2 b2 us=>(HK1.out.keep (b2.block g HK1.out.lt)).keep (setCells_other us w2 w.heap.size 0 g (by omega))
  clear bA h hr
  go_enter Tryz.func30,Tryz.ntmps30
  go_wp2_with fail
  refine HM.out.mono ?_
  rintro e w1 ⟨rfl,rfl⟩
  go_upto_region 3 with fail
  refine wp_region_held_drew (S:=fun u=>PK u g P) (by kernel_rfl) (HK1.out.keep rfl) (fun hHeld=>?_)
  refine tkB (i:=0) (v:=.pointer (some ⟨g,0,none⟩)) rfl hHeld ?_
  simp only [Act.put,zq1,zq2,zq4,zq5,zq6]
  refine tkB (i:=1) (v:=.pointer (some ⟨g,0,none⟩)) rfl hHeld ?_
  simp only [Act.put,zq1,zq2,zq3,zq4,zq5,zq6]
  refine tkB (i:=2) (v:=.pointer (some ⟨g,23,none⟩)) rfl hHeld ?_
  simp only [Act.put,zq1,zq2,zq3,zq4,zq5,zq6]
  refine tkA (i:=3) (v:=.bool P.sh) rfl (Or.inl ⟨by rfl,fun w hw=>by have hq:=hw.cells.2.2.2.1; go_simp⟩) hHeld ?_
  simp only [Act.put,zq1,zq2,zq3,zq4,zq5,zq6]
  refine tkB (i:=4) (v:=.pointer (some ⟨g,0,none⟩)) rfl hHeld ?_
  simp only [Act.put,zq1,zq2,zq3,zq4,zq5,zq6]
  refine tkB (i:=5) (v:=.pointer (some ⟨g,0,none⟩)) rfl hHeld ?_
  simp only [Act.put,zq1,zq2,zq3,zq4,zq5,zq6]
  refine tkB (i:=6) (v:=.pointer (some ⟨g,24,none⟩)) rfl hHeld ?_
  simp only [Act.put,zq1,zq2,zq3,zq4,zq5,zq6]
  refine tkA (i:=7) (v:=.int .i64 P.why) rfl (Or.inl ⟨by rfl,fun w hw=>by have hq:=hw.cells.2.2.2.2.1; go_simp⟩) hHeld ?_
  simp only [Act.put,zq1,zq2,zq3,zq4,zq5,zq6]
  refine tkB (i:=8) (v:=.bool (P.why != 0)) rfl hHeld ?_
  simp only [Act.put,zq1,zq2,zq3,zq4,zq5,zq6]
  refine tkB (i:=9) (v:=.pointer (some ⟨g,0,none⟩)) rfl hHeld ?_
  simp only [Act.put,zq1,zq2,zq3,zq4,zq5,zq6]
  refine tkB (i:=10) (v:=.pointer (some ⟨g,0,none⟩)) rfl hHeld ?_
  simp only [Act.put,zq1,zq2,zq3,zq4,zq5,zq6]
  refine tkB (i:=11) (v:=.pointer (some ⟨g,24,none⟩)) rfl hHeld ?_
  simp only [Act.put,zq1,zq2,zq3,zq4,zq5,zq6]
  refine tkA (i:=12) (v:=.int .i64 P.why) rfl (Or.inl ⟨by rfl,fun w hw=>by have hq:=hw.cells.2.2.2.2.1; go_simp⟩) hHeld ?_
  simp only [Act.put,zq1,zq2,zq3,zq4,zq5,zq6]
  refine tkB (i:=13) (v:=.pointer (some ⟨g,0,none⟩)) rfl hHeld ?_
  simp only [Act.put,zq1,zq2,zq3,zq4,zq5,zq6]
  refine tkB (i:=14) (v:=.pointer (some ⟨g,0,none⟩)) rfl hHeld ?_
  simp only [Act.put,zq1,zq2,zq3,zq4,zq5,zq6]
  refine tkB (i:=15) (v:=.pointer (some ⟨g,25,none⟩)) rfl hHeld ?_
  simp only [Act.put,zq1,zq2,zq3,zq4,zq5,zq6]
  refine tkB (i:=16) (v:=.pointer (some ⟨g,25,none⟩)) rfl hHeld ?_
  simp only [Act.put,zq1,zq2,zq3,zq4,zq5,zq6]
  refine tkA (i:=17) (v:=.bool P.wc) rfl (Or.inl ⟨by rfl,fun w hw=>by have hq:=hw.sides.1; go_simp⟩) hHeld ?_
  simp only [Act.put,zq1,zq2,zq3,zq4,zq5,zq6]
  refine tkB (i:=18) (v:=.pointer (some ⟨g,0,none⟩)) rfl hHeld ?_
  simp only [Act.put,zq1,zq2,zq3,zq4,zq5,zq6]
  refine tkB (i:=19) (v:=.pointer (some ⟨g,0,none⟩)) rfl hHeld ?_
  simp only [Act.put,zq1,zq2,zq3,zq4,zq5,zq6]
  refine tkB (i:=20) (v:=.pointer (some ⟨g,25,none⟩)) rfl hHeld ?_
  simp only [Act.put,zq1,zq2,zq3,zq4,zq5,zq6]
  refine tkB (i:=21) (v:=.pointer (some ⟨g,26,none⟩)) rfl hHeld ?_
  simp only [Act.put,zq1,zq2,zq3,zq4,zq5,zq6]
  refine tkA (i:=22) (v:=.bool P.wi) rfl (Or.inl ⟨by rfl,fun w hw=>by have hq:=hw.sides.2.1; go_simp⟩) hHeld ?_
  simp only [Act.put,zq1,zq2,zq3,zq4,zq5,zq6]
  refine tkB (i:=23) (v:=.pointer (some ⟨g,0,none⟩)) rfl hHeld ?_
  simp only [Act.put,zq1,zq2,zq3,zq4,zq5,zq6]
  refine tkB (i:=24) (v:=.pointer (some ⟨g,0,none⟩)) rfl hHeld ?_
  simp only [Act.put,zq1,zq2,zq3,zq4,zq5,zq6]
  refine tkB (i:=25) (v:=.pointer (some ⟨g,28,none⟩)) rfl hHeld ?_
  simp only [Act.put,zq1,zq2,zq3,zq4,zq5,zq6]
  refine tkB (i:=26) (v:=.pointer (some ⟨g,28,none⟩)) rfl hHeld ?_
  simp only [Act.put,zq1,zq2,zq3,zq4,zq5,zq6]
  refine tkA (i:=27) (v:=.bool P.ic) rfl (Or.inl ⟨by rfl,fun w hw=>by have hq:=hw.sides.2.2.2.1; go_simp⟩) hHeld ?_
  simp only [Act.put,zq1,zq2,zq3,zq4,zq5,zq6]
  refine tkB (i:=28) (v:=.pointer (some ⟨g,0,none⟩)) rfl hHeld ?_
  simp only [Act.put,zq1,zq2,zq3,zq4,zq5,zq6]
  refine tkB (i:=29) (v:=.pointer (some ⟨g,0,none⟩)) rfl hHeld ?_
  simp only [Act.put,zq1,zq2,zq3,zq4,zq5,zq6]
  refine tkB (i:=30) (v:=.pointer (some ⟨g,28,none⟩)) rfl hHeld ?_
  simp only [Act.put,zq1,zq2,zq3,zq4,zq5,zq6]
  refine tkB (i:=31) (v:=.pointer (some ⟨g,29,none⟩)) rfl hHeld ?_
  simp only [Act.put,zq1,zq2,zq3,zq4,zq5,zq6]
  refine tkA (i:=32) (v:=.bool P.ii) rfl (Or.inl ⟨by rfl,fun w hw=>by have hq:=hw.sides.2.2.2.2.1; go_simp⟩) hHeld ?_
  simp only [Act.put,zq1,zq2,zq3,zq4,zq5,zq6]
  refine tkB (i:=33) (v:=.pointer (some ⟨g,0,none⟩)) rfl hHeld ?_
  simp only [Act.put,zq1,zq2,zq3,zq4,zq5,zq6]
  refine tkB (i:=34) (v:=.pointer (some ⟨g,0,none⟩)) rfl hHeld ?_
  simp only [Act.put,zq1,zq2,zq3,zq4,zq5,zq6]
  refine tkB (i:=35) (v:=.pointer (some ⟨g,31,none⟩)) rfl hHeld ?_
  simp only [Act.put,zq1,zq2,zq3,zq4,zq5,zq6]
  refine tkA (i:=36) (v:=.slice ha H.length hcp) rfl (Or.inl ⟨by rfl,fun w hw=>by have hq:=hw.cells.2.2.2.2.2; rw [hhs] at hq; go_simp⟩) hHeld ?_
  simp only [Act.put,zq1,zq2,zq3,zq4,zq5,zq6]
  refine wpAnyH_ready (rs:=[37]) (by kernel_rfl) (by simp) ?_
  refine AllReadyH.cons (o:=_) rfl (fun K hK=>?_) AllReadyH.nil
  go_simp
  refine HCl.out.mono ?_
  rintro e w2 ⟨v2,rfl,o2,b2⟩
  obtain ⟨a2,c2,rfl⟩:=(bsOW o2).form
  have HO2:=Lib.hid (And.intro o2 b2)
  have K2:=HK1.out.keep (b2.block g HK1.out.lt)
  clear o2 b2
  go_wp2_with fail
  refine hK.out _ _ K2 (fun hHeld=>?_)
  clear hK K K2
  refine tkA (i:=38) (v:=.agg #[.bool P.sh,.bool (P.why != 0),.int .i64 P.why,.bool P.wc,.bool P.wi,.bool P.ic,.bool P.ii,.slice a2 H.length c2]) rfl (yieldsIf_built8 (by rfl) 61 _ _ _ _ _ _ _ _ rfl (.bool P.sh) (.bool (P.why != 0)) (.int .i64 P.why) (.bool P.wc) (.bool P.wi) (.bool P.ic) (.bool P.ii) (.slice a2 H.length c2) rfl rfl rfl rfl rfl rfl rfl rfl _ (st_built _ _ _ _ _ _ _ _ _ _)) hHeld ?_
  simp only [Act.put,zq1,zq2,zq3,zq4,zq5,zq6]
  refine wpAnyH_ready (rs:=[39]) (by kernel_rfl) (by simp) ?_
  refine AllReadyH.cons (o:=_) rfl (fun K hK=>?_) AllReadyH.nil
  refine if_tt (by rfl) ?_
  refine wp_store_mid 61 _ _ rfl w.heap.size 0 #[.bool P.sh,.bool (P.why != 0),.int .i64 P.why,.bool P.wc,.bool P.wi,.bool P.ic,.bool P.ii,.slice a2 H.length c2] rfl rfl ?_ st_info (by simp [Value.oneCell']) ?_
  · exact there_row (o:=0) (n:=8) (hres2 w2 HO2.out.2) (by decide)
  have K3:PK (w2.setCells w.heap.size 0 (#[.bool P.sh,.bool (P.why != 0),.int .i64 P.why,.bool P.wc,.bool P.wi,.bool P.ic,.bool P.ii,.slice a2 H.length c2]:Array Value).toList) g P:=hkeep w2 HO2.out.2 _
  refine hK.out _ _ K3 (fun hHeld=>?_)
  clear hK K K3
  refine wpAnyH_done (by kernel_rfl) ?_ _
  clear hHeld
  have hset:(w2.setCells w.heap.size 0 (#[Value.bool P.sh,.bool (P.why != 0),.int .i64 P.why,.bool P.wc,.bool P.wi,.bool P.ic,.bool P.ii,.slice a2 H.length c2]:Array Value).toList).heap[w.heap.size]? = some (.cells #[.bool P.sh,.bool (P.why != 0),.int .i64 P.why,.bool P.wc,.bool P.wi,.bool P.ic,.bool P.ii,.slice a2 H.length c2] 61 (0,0)):=setCells_heap _ w2 w.heap.size 0 z8 61 (hres2 w2 HO2.out.2)
  have hrest:=setCells_rest (#[Value.bool P.sh,.bool (P.why != 0),.int .i64 P.why,.bool P.wc,.bool P.wi,.bool P.ic,.bool P.ii,.slice a2 H.length c2]:Array Value).toList w2 w.heap.size 0
  have hoth:=fun k hk=>setCells_other (#[Value.bool P.sh,.bool (P.why != 0),.int .i64 P.why,.bool P.wc,.bool P.wi,.bool P.ic,.bool P.ii,.slice a2 H.length c2]:Array Value).toList w2 w.heap.size 0 k hk
  have HS9:=Lib.hid (And.intro hset (And.intro hrest hoth))
  obtain ⟨w9,hw9⟩:∃ u,u = w2.setCells w.heap.size 0 (#[Value.bool P.sh,.bool (P.why != 0),.int .i64 P.why,.bool P.wc,.bool P.wi,.bool P.ic,.bool P.ii,.slice a2 H.length c2]:Array Value).toList:=⟨_,rfl⟩
  rw [← hw9] at HS9 ⊢
  clear hset hrest hoth hw9 hkeep
  have hsz1:(w.alloc (.cells z8 61)).drew.heap.size = w.heap.size + 1:=by show (w.heap.push _).size = _; simp
  have HEnd:Hid (OW w.heap.size w9 (.slice a2 H.length c2) H∧Below w.heap.size w w9):=by
    have b2:=HO2.out.2
    have bT:Below w.heap.size w w2:=(belowN HBA.out 1).trans (b2.mono (by rw [hsz1]; omega))
    refine ⟨OW.mono (B:=w.heap.size + 1) (ownsRow_fr (w:=w2) ((bsOW HO2.out.1).mono (by rw [hsz1]; exact Nat.le_refl _)) (fun k hk _=>HS9.out.2.2 k (by omega))) (by omega),⟨HS9.out.2.1.1.trans bT.os,HS9.out.2.1.2.1.trans bT.tape,HS9.out.2.1.2.2.1.trans bT.output,by rw [HS9.out.2.1.2.2.2]; exact bT.size,fun k hk=>(HS9.out.2.2 k (by omega)).trans (bT.block k hk)⟩⟩
  go_wp2_with fail
  (try simp only [Exit.inBlock,Exit.then]); refine bodyPost_ret (results_state rfl _ _ w.heap.size _ rfl HS9.out.1 rfl) rfl ?_
  exact ⟨_,rfl,HEnd.out.1,HEnd.out.2⟩
structure Rv where
  b:Int
  v:Int
  info:List UInt8
  ln:Value
  r:Value
  sh:Bool
  gone:Bool
  why:Int
  ac:Bool
  ai:Bool
  c:Bool
  i:Bool
  hs:Value
  hd:Bool
  sd:Bool
def Rv.tl (Q:Rv):List Value:=[Q.ln,Q.r,.bool Q.sh,.bool Q.gone,.int .i64 Q.why,.bool Q.ac,.bool Q.ai,.bool Q.c,.bool Q.i,Q.hs,.bool Q.hd,.bool Q.sd]
def Rv.ls (Q:Rv):List Value:=([.int .i64 Q.b,.int .i64 Q.v] ++ Lib.byteCells Q.info) ++ Q.tl
def RQ (w:World) (g:Nat) (Q:Rv):Prop:=Q.info.length = 20∧w.heap[g]? = some (.cells Q.ls.toArray 63 (0,0))
theorem RQ.lt {w:World} {g:Nat} {Q:Rv} (h:RQ w g Q):g < w.heap.size:=(Array.getElem?_eq_some_iff.1 h.2).1
theorem RQ.h22 {w:World} {g:Nat} {Q:Rv} (h:RQ w g Q):([Value.int .i64 Q.b,.int .i64 Q.v] ++ Lib.byteCells Q.info).length = 22:=by rw [List.length_append,bcl_len,h.1]; rfl
theorem RQ.at {w:World} {g:Nat} {Q:Rv} (h:RQ w g Q) (j:Nat) {v:Value} (hj:Q.tl[j]? = some v):w.cell? ⟨g,22 + j,none⟩ = some v:=by
  have e:Q.ls[22 + j]? = some v:=by
    unfold Rv.ls
    rw [List.getElem?_append_right (by rw [h.h22]; omega),h.h22,show 22 + j - 22 = j by omega]
    exact hj
  simp [World.cell?,h.2,e]
theorem RQ.c0 {w:World} {g:Nat} {Q:Rv} (h:RQ w g Q):w.cell? ⟨g,0,none⟩ = some (.int .i64 Q.b):=by
  have e:Q.ls[0]? = some (.int .i64 Q.b):=rfl
  simp [World.cell?,h.2,e]
theorem RQ.fr {w:World} {g:Nat} {Q:Rv} (h:RQ w g Q) (i:Nat):w.frozen? ⟨g,i,none⟩ = false:=by simp [World.frozen?,h.2]
theorem RQ.keep {w w':World} {g:Nat} {Q:Rv} (h:RQ w g Q) (hb:w'.heap[g]? = w.heap[g]?):RQ w' g Q:=⟨h.1,hb.trans h.2⟩
theorem RQ.set {w:World} {g:Nat} {Q:Rv} (h:RQ w g Q) (j:Nat) (v:Value) (Q':Rv) (hb:Q'.b = Q.b) (hv:Q'.v = Q.v) (hi:Q'.info = Q.info) (ht:Q'.tl = Q.tl.set j v):RQ (w.setCell ⟨g,22 + j,none⟩ v) g Q':=by
  refine ⟨by rw [hi]; exact h.1,?_⟩
  rw [setCell_eq_setRow w g (22 + j) _ _ _ v h.2,setRow_heap w g _ _ _ _ h.2]
  congr 2
  unfold Rv.ls
  rw [hi,ht,hb,hv]
  apply Array.ext'
  rw [Array.toList_setIfInBounds]
  show (([Value.int .i64 Q.b,.int .i64 Q.v] ++ Lib.byteCells Q.info) ++ Q.tl).set (22 + j) v = _
  rw [List.set_append_right _ _ (by rw [h.h22]; omega),h.h22,show 22 + j - 22 = j by omega]
set_option maxHeartbeats 400000 in
theorem failT (w:World) (g:Nat) (Q:Rv) (h:RQ w g Q) (y:Int) :
    Calls Tryz.prog 44 #[.pointer (some ⟨g,0,none⟩),.int .i64 y] w fun e w'=>e = .returned (.int .i64 y)∧RQ w' g { Q with gone:=true,why:=y }∧Fm.Fr (fun k=>k≠g) w w':=by
  have HK:Hid (RQ w g Q):=h
  have c3:=h.at 3 rfl
  have c4:=h.at 4 rfl
  have f3:=h.fr 25
  have f4:=h.fr 26
  clear h
  go_enter Tryz.func44,Tryz.ntmps44
  go_wp2
  go_ret
  exact ⟨rfl,(HK.out.set 3 _ { Q with gone:=true } rfl rfl rfl rfl).set 4 _ _ rfl rfl rfl rfl,((Fm.Fr.refl (fun k=>k≠g) w).setCell g 25 _ (fun h=>h rfl)).setCell g 26 _ (fun h=>h rfl)⟩
structure PQ (w:World) (g:Nat) (Q:Rv) (L:List Int):Prop where
  rq:RQ w g Q
  b0:64≤Q.b
  b1:Q.b≤16384
  rz:Bs.RZ w Q.ln L
  ok:LOk L
theorem PQ.below {w w':World} {g:Nat} {Q:Rv} {L:List Int} (h:PQ w g Q L) (hb:Below w.heap.size w w'):PQ w' g Q L:=
  ⟨h.rq.keep (hb.block g h.rq.lt),h.b0,h.b1,h.rz.keep hb,h.ok⟩
set_option maxHeartbeats 1000000 in
set_option maxRecDepth 100000 in
theorem liesT (w:World) (g:Nat) (Q:Rv) (L:List Int) (h:PQ w g Q L) (i bg n:Int) (hb0:0≤bg) (hb1:bg≤4294967295) (hn0:0≤n) (hn1:n≤140737488351232) :
    Calls Tryz.prog 81 #[.pointer (some ⟨g,0,none⟩),.int .i64 i,.int .i64 bg,.int .i64 n] w fun e w'=>e = .returned (.bool (rgp L Q.b i bg n))∧w' = w:=by
  have c0:=h.rq.c0
  have c22:=h.rq.at 0 rfl
  obtain ⟨la,lc,hln,_,hrz⟩:=h.rz
  rw [hln] at c22
  have hbn:¬ bg < 0:=by omega
  have hnn:¬ n < 0:=by omega
  by_cases hp:pce L i = true
  · obtain ⟨j,hj,hji⟩:∃ j:Nat,i = (j:Int)∧j < L.length:=by
      unfold pce at hp
      simp only [Bool.and_eq_true,decide_eq_true_eq] at hp
      exact ⟨i.toNat,by omega,by omega⟩
    rcases hrz with hnil | ⟨gl,ol,rfl,_,hcl⟩
    · rw [hnil] at hji; simp at hji
    have c4:=hcl j hji
    have hLj:=h.ok.2 j hji
    have hx:rgp L Q.b i bg n = (decide (n≤Q.b) && decide (bg≤Bs.iz L j - n)):=by unfold rgp; rw [hp,hj]; simp
    rw [hx]
    subst hj
    have hsub:IntKind.i64.wrap (Bs.iz L j - bg) = Bs.iz L j - bg:=IntWalk.i64_in _ (by omega)
    clear hx hp hcl hln h
    generalize Bs.iz L j = x at *
    generalize Q.b = pb at *
    generalize L.length = nl at *
    by_cases q1:n≤pb
    · rw [decide_eq_true q1,Bool.true_and]
      by_cases q2:bg≤x
      · by_cases q3:n≤x - bg
        · have e3:decide (bg≤x - n) = true:=decide_eq_true (by omega)
          rw [e3]
          go_enter Tryz.func81,Tryz.ntmps81
          go_wp2
          go_ret
          exact ⟨rfl,rfl⟩
        · have e3:decide (bg≤x - n) = false:=decide_eq_false (by omega)
          rw [e3]
          go_enter Tryz.func81,Tryz.ntmps81
          go_wp2
          go_ret
          exact ⟨rfl,rfl⟩
      · have e3:decide (bg≤x - n) = false:=decide_eq_false (by omega)
        rw [e3]
        go_enter Tryz.func81,Tryz.ntmps81
        go_wp2
        go_ret
        exact ⟨rfl,rfl⟩
    · rw [decide_eq_false q1,Bool.false_and]
      go_enter Tryz.func81,Tryz.ntmps81
      go_wp2
      go_ret
      exact ⟨rfl,rfl⟩
  · have hx:rgp L Q.b i bg n = false:=by unfold rgp; simp [hp]
    rw [hx]
    have hpp:i < 0∨(0≤i∧(L.length:Int)≤i):=by
      unfold pce at hp
      simp only [Bool.and_eq_true,decide_eq_true_eq] at hp
      omega
    clear hx hp hrz hln h
    generalize L.length = nl at *
    rcases hpp with q | ⟨q0,q⟩
    · go_enter Tryz.func81,Tryz.ntmps81
      go_wp2
      go_ret
      exact ⟨rfl,rfl⟩
    · have q':¬ i < 0:=by omega
      go_enter Tryz.func81,Tryz.ntmps81
      go_wp2
      go_ret
      exact ⟨rfl,rfl⟩
def blE (L:List Int) (b i bg n:Int):Bool:=rgp L b i bg n && (bg % b == 0) && decide (bg < Bs.iz L i.toNat) && (n == b || n == Bs.iz L i.toNat - bg)
theorem blE_eq {L:List Int} {b i bg n:Int} (hn:1≤n):blE L b i bg n = (ctp L b i bg n && rgp L b i bg n):=by
  unfold blE ctp rgp
  by_cases hp:pce L i = true
  · rw [hp]
    generalize Bs.iz L i.toNat = x
    rw [Bool.eq_iff_iff]
    simp only [Bool.true_and,Bool.and_eq_true,Bool.or_eq_true,beq_iff_eq,decide_eq_true_eq]
    omega
  · simp [hp]
set_option maxHeartbeats 1000000 in
set_option maxRecDepth 100000 in
theorem blockT (w:World) (g:Nat) (Q:Rv) (L:List Int) (h:PQ w g Q L) (i bg n:Int) (hb0:0≤bg) (hb1:bg≤4294967295) (hn0:0≤n) (hn1:n≤140737488351232) :
    Calls Tryz.prog 82 #[.pointer (some ⟨g,0,none⟩),.int .i64 i,.int .i64 bg,.int .i64 n] w fun e w'=>e = .returned (.bool (blE L Q.b i bg n))∧w' = w:=by
  have HL:Hid (Calls Tryz.prog 81 #[.pointer (some ⟨g,0,none⟩),.int .i64 i,.int .i64 bg,.int .i64 n] w fun e w'=>e = .returned (.bool (rgp L Q.b i bg n))∧w' = w):=liesT w g Q L h i bg n hb0 hb1 hn0 hn1
  have c0:=h.rq.c0
  have c22:=h.rq.at 0 rfl
  have hb64:=h.b0
  have hbm:=h.b1
  obtain ⟨la,lc,hln,_,hrz⟩:=h.rz
  rw [hln] at c22
  by_cases hr:rgp L Q.b i bg n = true
  · have hp:pce L i = true:=by
      unfold rgp at hr
      simp only [Bool.and_eq_true] at hr
      exact hr.1.1
    obtain ⟨j,hj,hji⟩:∃ j:Nat,i = (j:Int)∧j < L.length:=by
      unfold pce at hp
      simp only [Bool.and_eq_true,decide_eq_true_eq] at hp
      exact ⟨i.toNat,by omega,by omega⟩
    rcases hrz with hnil | ⟨gl,ol,rfl,_,hcl⟩
    · rw [hnil] at hji; simp at hji
    have c4:=hcl j hji
    have hLj:=h.ok.2 j hji
    have hx:blE L Q.b i bg n = ((bg % Q.b == 0) && decide (bg < Bs.iz L j) && (n == Q.b || n == Bs.iz L j - bg)):=by unfold blE; rw [hr,hj]; simp
    rw [hx]
    rw [hr] at HL
    subst hj
    have hmod:bg.tmod Q.b = bg % Q.b:=Int.tmod_eq_emod_of_nonneg hb0
    have hm0:0≤bg % Q.b:=Int.emod_nonneg _ (by omega)
    have hm1:bg % Q.b < Q.b:=Int.emod_lt_of_pos _ (by omega)
    have hw1:IntKind.i64.wrap (bg % Q.b) = bg % Q.b:=IntWalk.i64_in _ (by omega)
    have hsub:IntKind.i64.wrap (Bs.iz L j - bg) = Bs.iz L j - bg:=IntWalk.i64_in _ (by omega)
    have hbne:Q.b≠0:=by omega
    clear hx hp hcl hln h hr
    generalize Bs.iz L j = x at *
    generalize hpb:Q.b = pb at *
    generalize bg % pb = md at *
    generalize L.length = nl at *
    by_cases q1:md = 0
    · subst q1
      by_cases q2:bg < x
      · rw [decide_eq_true q2]
        have q2':¬ x≤bg:=by omega
        by_cases q3:n = pb
        · have e3:(n == pb) = true:=beq_iff_eq.2 q3
          rw [e3]
          clear e3
          subst q3
          go_enter Tryz.func82,Tryz.ntmps82
          go_wp2_with fail
          refine HL.out.mono ?_
          rintro e w1 ⟨rfl,rfl⟩
          go_wp2
          go_ret
          exact ⟨rfl,rfl⟩
        · have e3:(n == pb) = false:=beq_eq_false_iff_ne.2 q3
          rw [e3]
          by_cases q4:n = x - bg
          · have e4:(n == x - bg) = true:=beq_iff_eq.2 q4
            rw [e4]
            clear e4
            subst q4
            go_enter Tryz.func82,Tryz.ntmps82
            go_wp2_with fail
            refine HL.out.mono ?_
            rintro e w1 ⟨rfl,rfl⟩
            go_wp2
            go_ret
            exact ⟨rfl,rfl⟩
          · have e4:(n == x - bg) = false:=beq_eq_false_iff_ne.2 q4
            rw [e4]
            go_enter Tryz.func82,Tryz.ntmps82
            go_wp2_with fail
            refine HL.out.mono ?_
            rintro e w1 ⟨rfl,rfl⟩
            go_wp2
            go_ret
            exact ⟨rfl,rfl⟩
      · rw [decide_eq_false q2]
        have q2':x≤bg:=by omega
        go_enter Tryz.func82,Tryz.ntmps82
        go_wp2_with fail
        refine HL.out.mono ?_
        rintro e w1 ⟨rfl,rfl⟩
        go_wp2
        go_ret
        exact ⟨rfl,rfl⟩
    · have e1:(md == 0) = false:=beq_eq_false_iff_ne.2 q1
      rw [e1]
      go_enter Tryz.func82,Tryz.ntmps82
      go_wp2_with fail
      refine HL.out.mono ?_
      rintro e w1 ⟨rfl,rfl⟩
      go_wp2
      go_ret
      exact ⟨rfl,rfl⟩
  · have hx:blE L Q.b i bg n = false:=by unfold blE; simp [hr]
    rw [hx]
    rw [Bool.not_eq_true] at hr
    rw [hr] at HL
    clear hx hr hrz hln h
    go_enter Tryz.func82,Tryz.ntmps82
    go_wp2_with fail
    refine HL.out.mono ?_
    rintro e w1 ⟨rfl,rfl⟩
    go_wp2
    go_ret
    exact ⟨rfl,rfl⟩
def qtE (k:Int):Bool:=k == -1 || k == 1000
set_option maxHeartbeats 1000000 in
set_option maxRecDepth 100000 in
theorem quietT (w:World) (m:Mv) (ok:m.ok) :
    Calls Tryz.prog 54 #[.agg m.cs] w fun e w'=>e = .returned (.bool (qtE m.k))∧Below w.heap.size w w':=by
  have hb:MB (w.alloc (.cells m.cs 40)) w.heap.size m:=heapNew w (.cells m.cs 40)
  have hi:=info_msg ok
  have cK:=hb.cell 0 rfl
  have HB:Hid (Below w.heap.size w (w.alloc (.cells m.cs 40))):=(Below.refl _ _).alloc (Nat.le_refl _) _
  clear hb
  generalize m.k = mk at *
  by_cases k1:mk = -1
  · have e1:qtE mk = true:=by unfold qtE; rw [k1]; rfl
    rw [e1]
    subst k1
    go_enter Tryz.func54,Tryz.ntmps54
    go_wp2
    go_ret
    exact ⟨rfl,HB.out⟩
  · have e1:qtE mk = (mk == 1000):=by unfold qtE; rw [beq_eq_false_iff_ne.2 k1]; rfl
    rw [e1]
    by_cases k2:mk = 1000
    · subst k2
      go_enter Tryz.func54,Tryz.ntmps54
      go_wp2
      go_ret
      exact ⟨rfl,HB.out⟩
    · rw [beq_eq_false_iff_ne.2 k2]
      go_enter Tryz.func54,Tryz.ntmps54
      go_wp2
      go_ret
      refine ⟨?_,HB.out⟩
      show Ending.returned (Value.bool (mk == -1 || mk == 1000)) = _
      rw [beq_eq_false_iff_ne.2 k1,beq_eq_false_iff_ne.2 k2]
      rfl
end Go.Proofs.YtfjjpbebnoghmaaGreatDoor
