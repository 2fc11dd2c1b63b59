import Derived.Test.YtfjjpbebnoghmaaGreatDoorK00
import Derived.Test.YtfjjpbebnoghmaaGreatDoorK23
import Derived.Test.YtfjjpbebnoghmaaGreatDoorK18
import Derived.Test.YtfjjpbebnoghmaaGreatDoorK21
import Derived.Laws.CopyOwn
import Derived.Deep.RegionHeld3
import Derived.Deep.Cut
import Derived.Deep.CutRange
import Derived.Lib.BufferWrite
namespace Go.Proofs.YtfjjpbebnoghmaaGreatDoor
open Go.RowKit
set_option maxHeartbeats 4000000 in
set_option maxRecDepth 100000 in
theorem effC (w:World) (g:Nat) (Q:Rv) (h:RQ w g Q) (m:Mv) (ok:m.ok) (kk:m.k = 5) (D:List UInt8) (hd:RB w m.d D) (hD:D.length≤140737488351232) :
    Calls Tryz.prog 47 #[.pointer (some ⟨g,0,none⟩),.agg m.cs] w fun e w'=>e = .returned (.tuple #[])∧∃ hv,RQ w' g (Q.eff m.k hv)∧OW w.heap.size w' hv D∧Fm.Fr (fun k=>k≠g) w w':=by
  have hb:MB (w.alloc (.cells m.cs 40)) w.heap.size m:=heapNew w (.cells m.cs 40)
  have HB:Hid (Below w.heap.size w (w.alloc (.cells m.cs 40))):=(Below.refl _ _).alloc (Nat.le_refl _) _
  have HQ:Hid (∀ u,Calls Tryz.prog 54 #[.agg m.cs] u fun e w'=>e = .returned (.bool (qtE m.k))∧Below u.heap.size u w'):=fun u=>quietT u m ok
  have hi:=info_msg ok
  have c0:=hb.c0
  have hgw:w.heap.size≠g:=Nat.ne_of_gt h.lt
  have hgl:g < w.heap.size:=h.lt
  have HM0:Hid (MB (w.alloc (.cells m.cs 40)) w.heap.size m):=hb
  have HR0:Hid (RQ (w.alloc (.cells m.cs 40)) g Q):=h.keep (HB.out.block g h.lt)
  rw [kk] at c0 HQ ⊢
  have hq:qtE 5 = false:=by decide
  rw [hq] at HQ
  have hQ:∀ hv,Q.eff 5 hv = { Q with hs:=hv,hd:=true }:=fun hv=>by simp [Rv.eff,hq]
  clear h ok kk hq
  obtain ⟨da,dc,hda,_⟩:=id hd
  have c4:=hb.cell 4 (show m.ls[4]? = some m.d from rfl)
  rw [hda] at c4 hd
  have HO:Hid (OW (w.alloc (.cells m.cs 40)).heap.size (w.alloc (.cells m.cs 40)) (.slice none 0 0) []∧RB (w.alloc (.cells m.cs 40)) (.slice da D.length dc) D∧([]:List UInt8).length + D.length≤140737488351232):=⟨World.ownsRow_nil _ _ _ _,hd.keep HB.out,by simpa using hD⟩
  clear hb hd
  go_enter Tryz.func47,Tryz.ntmps47
  go_upto_region 16 with (first |(at_builtin; refine append_bytes rfl _ _ rfl rfl HO.out.1 rfl HO.out.2.1 (Nat.le_refl _) HO.out.2.2 ?_; intro v1 w1 o1 b1; simp only [List.nil_append] at o1; obtain ⟨ca,cn,cc,rfl⟩:=o1.form3))
  have HR1:Hid (RQ w1 g Q):=HR0.out.keep (b1.block g HR0.out.lt)
  have HM1:Hid (MB w1 w.heap.size m):=HM0.out.below b1
  have HF1:Hid (Fm.Fr (fun k=>k≠g) w w1):=Fm.Fr.of_below (HB.out.trans (b1.mono HB.out.size))
  have HO1:Hid (OW w.heap.size w1 (.slice ca cn cc) D):=o1.mono HB.out.size
  clear o1 b1 HO
  have cS:=HR1.out.at 9 (show Q.tl[9]? = some Q.hs from rfl)
  have fS:=HR1.out.fr 31
  have HR2:Hid (RQ (w1.setCell ⟨g,31,none⟩ (.slice ca cn cc)) g { Q with hs:=.slice ca cn cc }):=HR1.out.set 9 (.slice ca cn cc) { Q with hs:=.slice ca cn cc } rfl rfl rfl rfl
  have HO2:Hid (OW w.heap.size (w1.setCell ⟨g,31,none⟩ (.slice ca cn cc)) (.slice ca cn cc) D):=OW.setOther HO1.out hgl _ _
  have HF2:Hid (Fm.Fr (fun k=>k≠g) w (w1.setCell ⟨g,31,none⟩ (.slice ca cn cc))):=HF1.out.setCell g 31 _ (fun h=>h rfl)
  have hg2:(w1.setCell ⟨g,31,none⟩ (.slice ca cn cc)).heap[w.heap.size]? = some (.cells m.cs 40 (0,0)):=(Fm.setCell_other hgw).trans HM1.out
  have cH2:=HR2.out.at 10 (show ({ Q with hs:=.slice ca cn cc }:Rv).tl[10]? = some (.bool Q.hd) from rfl)
  have fH2:=HR2.out.fr 32
  cases hhd:Q.hd
  · rw [hhd] at cH2
    go_wp2_with (first |(refine load_msg_if rfl _ rfl w.heap.size rfl m.cs hg2 hi ?_))
    refine (HQ.out _).mono ?_
    rintro e w5 ⟨rfl,b5⟩
    have HR3:Hid (RQ w5 g { Q with hs:=.slice ca cn cc }):=HR2.out.keep (b5.block g HR2.out.lt)
    have cH3:=HR3.out.at 10 (show ({ Q with hs:=.slice ca cn cc }:Rv).tl[10]? = some (.bool Q.hd) from rfl)
    rw [hhd] at cH3
    have fH3:=HR3.out.fr 32
    have HF3:Hid (Fm.Fr (fun k=>k≠g) w w5):=HF2.out.trans (Fm.Fr.of_below b5) (fun _ _ h=>h)
    have HO3:=Lib.hid (HO2.out.grow b5)
    clear b5 cH2 fH2 hg2 cS fS
    go_wp2
    go_end0
    refine ⟨rfl,_,?_,OW.setOther HO3.out hgl _ _,HF3.out.setCell g 32 _ (fun h=>h rfl)⟩
    rw [hQ]
    exact HR3.out.set 10 (.bool true) _ rfl rfl rfl rfl
  · rw [hhd] at cH2
    go_wp2
    go_end0
    refine ⟨rfl,_,?_,OW.setOther HO2.out hgl _ _,HF2.out.setCell g 32 _ (fun h=>h rfl)⟩
    rw [hQ]
    exact HR2.out.set 10 (.bool true) _ rfl rfl rfl rfl
set_option maxHeartbeats 4000000 in
set_option maxRecDepth 100000 in
theorem effB (w:World) (g:Nat) (Q:Rv) (L:List Int) (h':PQ w g Q L) (m:Mv) (ok:m.ok) (kk:m.k = 4) (H:List UInt8) (hr:RB w Q.hs H) (hH:H.length≤140737488351232) (g0:-9223372036854775808≤m.i) (g1:m.i≤9223372036854775807) :
    Calls Tryz.prog 47 #[.pointer (some ⟨g,0,none⟩),.agg m.cs] w fun e w'=>e = .returned (.tuple #[])∧∃ hv,RQ w' g (Q.eff m.k hv)∧(∃ r,Bs.PU (L.length:Int) H m.i true r∧OW w.heap.size w' hv r)∧Fm.Fr (fun k=>k≠g) w w':=by
  have h:=h'.rq
  have hl16:=h'.ok.1
  obtain ⟨la,lc,hln,_⟩:=id h'.rz
  obtain ⟨ha,hc,hhs,_⟩:=id hr
  have HPu:Hid (∀ u,Below w.heap.size w u→Calls Tryz.prog 83 #[.int .i64 (L.length:Int),Q.hs,.int .i64 m.i,.bool true] u fun e w'=>∃ v' r,e = .returned (.tuple #[v',.int .i64 (Bs.gE (L.length:Int) H m.i)])∧Bs.OW u.heap.size w' v' r∧Bs.PU (L.length:Int) H m.i true r∧Below u.heap.size u w'):=fun u hu=>Bs.put22 _ (by omega) (by omega) _ _ _ g0 g1 _ u (bsRB (hr.keep hu)) hH
  rw [hhs] at HPu
  clear h' hr
  have hb:MB (w.alloc (.cells m.cs 40)) w.heap.size m:=heapNew w (.cells m.cs 40)
  have HB:Hid (Below w.heap.size w (w.alloc (.cells m.cs 40))):=(Below.refl _ _).alloc (Nat.le_refl _) _
  have HQ:Hid (∀ u,Calls Tryz.prog 54 #[.agg m.cs] u fun e w'=>e = .returned (.bool (qtE m.k))∧Below u.heap.size u w'):=fun u=>quietT u m ok
  have hi:=info_msg ok
  have c0:=hb.c0
  have hgw:w.heap.size≠g:=Nat.ne_of_gt h.lt
  have hgl:g < w.heap.size:=h.lt
  have HM0:Hid (MB (w.alloc (.cells m.cs 40)) w.heap.size m):=hb
  have HR0:Hid (RQ (w.alloc (.cells m.cs 40)) g Q):=h.keep (HB.out.block g h.lt)
  rw [kk] at c0 HQ ⊢
  have hq:qtE 4 = false:=by decide
  rw [hq] at HQ
  have hQ:∀ hv,Q.eff 4 hv = { Q with hs:=hv,hd:=true }:=fun hv=>by simp [Rv.eff,hq]
  clear h ok kk hq
  generalize hmi:m.i = mi at *
  have HGE:Hid (∃ E,E = Bs.gE (L.length:Int) H mi):=⟨_,rfl⟩
  obtain ⟨E,hE⟩:=HGE.out
  rw [← hE] at HPu
  clear hb HGE hE
  go_enter Tryz.func47,Tryz.ntmps47
  go_upto_region 11 with fail
  refine wp_region_held_drew (S:=fun u=>RQ u g Q∧MB u w.heap.size m∧Below w.heap.size w u) (by kernel_rfl) (⟨HR0.out.keep ((belowDrew _ 1).block g HR0.out.lt),HM0.out.below (belowDrew _ 1),belowN HB.out 1⟩) (fun hHeld=>?_)
  refine tkB (i:=0) (v:=.pointer (some ⟨g,0,none⟩)) rfl hHeld ?_
  simp only [Act.put,zq1,zq2,zq4,zq5,zq6]
  refine tkB (i:=1) (v:=.pointer (some ⟨g,0,none⟩)) rfl hHeld ?_
  simp only [Act.put,zq1,zq2,zq3,zq4,zq5,zq6]
  refine tkB (i:=2) (v:=.pointer (some ⟨g,22,none⟩)) rfl hHeld ?_
  simp only [Act.put,zq1,zq2,zq3,zq4,zq5,zq6]
  refine tkA (i:=3) (v:=.slice la L.length lc) rfl (Or.inl ⟨by rfl,fun w hw=>by have hq:=hw.1.at 0 (show Q.tl[0]? = some Q.ln from rfl); rw [hln] at hq; go_simp⟩) hHeld ?_
  simp only [Act.put,zq1,zq2,zq3,zq4,zq5,zq6]
  refine tkB (i:=4) (v:=.int .i64 (L.length:Int)) rfl hHeld ?_
  simp only [Act.put,zq1,zq2,zq3,zq4,zq5,zq6]
  refine tkB (i:=5) (v:=.pointer (some ⟨g,0,none⟩)) rfl hHeld ?_
  simp only [Act.put,zq1,zq2,zq3,zq4,zq5,zq6]
  refine tkB (i:=6) (v:=.pointer (some ⟨g,0,none⟩)) rfl hHeld ?_
  simp only [Act.put,zq1,zq2,zq3,zq4,zq5,zq6]
  refine tkB (i:=7) (v:=.pointer (some ⟨g,24,none⟩)) rfl hHeld ?_
  simp only [Act.put,zq1,zq2,zq3,zq4,zq5,zq6]
  refine tkB (i:=8) (v:=.pointer (some ⟨g,31,none⟩)) rfl hHeld ?_
  simp only [Act.put,zq1,zq2,zq3,zq4,zq5,zq6]
  refine tkA (i:=9) (v:=.slice ha H.length hc) rfl (Or.inl ⟨by rfl,fun w hw=>by have hq:=hw.1.at 9 (show Q.tl[9]? = some Q.hs from rfl); rw [hhs] at hq; go_simp⟩) hHeld ?_
  simp only [Act.put,zq1,zq2,zq3,zq4,zq5,zq6]
  refine tkB (i:=10) (v:=.pointer (some ⟨w.heap.size,1,none⟩)) rfl hHeld ?_
  simp only [Act.put,zq1,zq2,zq3,zq4,zq5,zq6]
  refine tkA (i:=11) (v:=.int .i64 mi) rfl (Or.inl ⟨by rfl,fun w hw=>by have hq:=hw.2.1.cell 1 (show m.ls[1]? = some (.int .i64 m.i) from rfl); rw [hmi] at hq; go_simp⟩) hHeld ?_
  simp only [Act.put,zq1,zq2,zq3,zq4,zq5,zq6]
  refine wpAnyH_ready (rs:=[12]) (by kernel_rfl) (by simp) ?_
  refine AllReadyH.cons (o:=_) rfl (fun K hK=>?_) AllReadyH.nil
  go_simp
  refine (HPu.out _ hHeld.2.2).mono ?_
  rintro e w' ⟨v3,r3,rfl,o3,pu3,b3⟩
  obtain ⟨a3,c3,rfl⟩:=(bsOW o3).form
  have B3:=hHeld.2.2.trans (b3.mono hHeld.2.2.size)
  have HR1:Hid (RQ w' g Q):=hHeld.1.keep (b3.block g hHeld.1.lt)
  have HM1:Hid (MB w' w.heap.size m):=hHeld.2.1.below b3
  have HO1:Hid (OW w.heap.size w' (.slice a3 r3.length c3) r3):=(bsOW o3).mono hHeld.2.2.size
  have HF1:Hid (Fm.Fr (fun k=>k≠g) w w'):=Fm.Fr.of_below B3
  clear o3 b3 hHeld
  go_wp2_with fail
  refine hK.out _ _ (⟨HR1.out,HM1.out,B3⟩) (fun hHeld=>?_)
  clear hK K
  refine tkB (i:=13) (v:=.tuple #[.slice a3 r3.length c3,.int .i64 E]) rfl hHeld ?_
  simp only [Act.put,zq1,zq2,zq3,zq4,zq5,zq6]
  refine tkB (i:=14) (v:=.slice a3 r3.length c3) rfl hHeld ?_
  simp only [Act.put,zq1,zq2,zq3,zq4,zq5,zq6]
  refine tkB (i:=15) (v:=.int .i64 E) rfl hHeld ?_
  simp only [Act.put,zq1,zq2,zq3,zq4,zq5,zq6]
  refine tkB (i:=16) (v:=.slice a3 r3.length c3) rfl hHeld ?_
  simp only [Act.put,zq1,zq2,zq3,zq4,zq5,zq6]
  refine tkB (i:=17) (v:=.int .i64 E) rfl hHeld ?_
  simp only [Act.put,zq1,zq2,zq3,zq4,zq5,zq6]
  refine wpAnyH_done (by kernel_rfl) ?_ _
  clear hHeld B3
  go_upto_region 12 with fail
  have cS:=HR1.out.at 9 (show Q.tl[9]? = some Q.hs from rfl)
  have fS:=HR1.out.fr 31
  have HR2:Hid (RQ (w'.setCell ⟨g,31,none⟩ (.slice a3 r3.length c3)) g { Q with hs:=.slice a3 r3.length c3 }):=HR1.out.set 9 (.slice a3 r3.length c3) { Q with hs:=.slice a3 r3.length c3 } rfl rfl rfl rfl
  have HO2:Hid (OW w.heap.size (w'.setCell ⟨g,31,none⟩ (.slice a3 r3.length c3)) (.slice a3 r3.length c3) r3):=OW.setOther HO1.out hgl _ _
  have HF2:Hid (Fm.Fr (fun k=>k≠g) w (w'.setCell ⟨g,31,none⟩ (.slice a3 r3.length c3))):=HF1.out.setCell g 31 _ (fun h=>h rfl)
  have hg2:(w'.setCell ⟨g,31,none⟩ (.slice a3 r3.length c3)).heap[w.heap.size]? = some (.cells m.cs 40 (0,0)):=(Fm.setCell_other hgw).trans HM1.out
  have cH2:=HR2.out.at 10 (show ({ Q with hs:=.slice a3 r3.length c3 }:Rv).tl[10]? = some (.bool Q.hd) from rfl)
  have fH2:=HR2.out.fr 32
  cases hhd:Q.hd
  · rw [hhd] at cH2
    go_wp2_with (first |(refine load_msg_if rfl _ rfl w.heap.size rfl m.cs hg2 hi ?_))
    refine (HQ.out _).mono ?_
    rintro e w5 ⟨rfl,b5⟩
    have HR3:Hid (RQ w5 g { Q with hs:=.slice a3 r3.length c3 }):=HR2.out.keep (b5.block g HR2.out.lt)
    have cH3:=HR3.out.at 10 (show ({ Q with hs:=.slice a3 r3.length c3 }:Rv).tl[10]? = some (.bool Q.hd) from rfl)
    rw [hhd] at cH3
    have fH3:=HR3.out.fr 32
    have HF3:Hid (Fm.Fr (fun k=>k≠g) w w5):=HF2.out.trans (Fm.Fr.of_below b5) (fun _ _ h=>h)
    have HO3:=Lib.hid (HO2.out.grow b5)
    clear b5 cH2 fH2 hg2 cS fS
    go_wp2
    go_end0
    refine ⟨rfl,_,?_,⟨r3,pu3,OW.setOther HO3.out hgl _ _⟩,HF3.out.setCell g 32 _ (fun h=>h rfl)⟩
    rw [hQ]
    exact HR3.out.set 10 (.bool true) _ rfl rfl rfl rfl
  · rw [hhd] at cH2
    go_wp2
    go_end0
    refine ⟨rfl,_,?_,⟨r3,pu3,OW.setOther HO2.out hgl _ _⟩,HF2.out.setCell g 32 _ (fun h=>h rfl)⟩
    rw [hQ]
    exact HR2.out.set 10 (.bool true) _ rfl rfl rfl rfl
def nwE (b v:Int) (L:List Int):Int:=if Bs.gd b v = 0 then (if 65536 < L.length∨L.any (Bs.bad b) = true then 2 else 0) else 10
def PP (p:Value) (e:Int):Prop:=(e = 0→∃ a,p = .pointer (some a))∧(e≠0→p = .pointer none)
theorem gd_ten {b v:Int} (h:Bs.gd b v≠0):Bs.gd b v = 10:=by
  unfold Bs.gd at h ⊢
  split at h
  · exact absurd rfl h
  · rename_i hh; rw [if_neg hh]
theorem gd_zero {b v:Int} (h:Bs.gd b v = 0):64≤b∧b≤16384:=by
  unfold Bs.gd at h
  split at h
  · rename_i hh; exact Bs.pw_bd hh.1
  · cases h
theorem heapOldP (w:World) (o:Obj) (i:Nat) (h:i < w.heap.size):(w.alloc o).heap[i]? = w.heap[i]?:=by show (w.heap.push o)[i]? = w.heap[i]?; simp [Array.getElem?_push,Nat.ne_of_lt h]
theorem allocSize (w:World) (o:Obj):(w.alloc o).heap.size = w.heap.size + 1:=by show (w.heap.push o).size = _; simp
structure SB (w:World) (b:Int) (hs:Array Value) (u:World):Prop where
  bel:Below w.heap.size w u
  blk:u.cell? ⟨w.heap.size,0,none⟩ = some (.int .i64 b)
  inf:u.heap[w.heap.size + 1]? = some (.cells hs 25 (0,0))
  sz:w.heap.size + 2≤u.heap.size
theorem SB.next {w:World} {b:Int} {hs:Array Value} {u u':World} (h:SB w b hs u) (hb:Below u.heap.size u u'):SB w b hs u':=
  ⟨h.bel.trans (hb.mono h.bel.size),(World.cell?_of_block (w:=u) (hb.block w.heap.size (by have:=h.sz; omega))).trans h.blk,(hb.block (w.heap.size + 1) (by have:=h.sz; omega)).trans h.inf,Nat.le_trans h.sz hb.size⟩
theorem SB.start (b v:Int) (hs:Array Value) (w:World):SB w b hs ((w.alloc (.cells #[.int .i64 b,.int .i64 v] 23)).alloc (.cells hs 25)):=by
  refine ⟨((Below.refl w.heap.size w).alloc (Nat.le_refl _) _).alloc (by rw [allocSize]; omega) _,?_,?_,?_⟩
  · have h:((w.alloc (.cells #[.int .i64 b,.int .i64 v] 23)).alloc (.cells hs 25)).heap[w.heap.size]? = some (.cells #[.int .i64 b,.int .i64 v] 23):=by
      rw [heapOldP _ _ _ (by rw [allocSize]; omega),heapNew]
    simp [World.cell?,h]
  · have h:=heapNew (w.alloc (.cells #[.int .i64 b,.int .i64 v] 23)) (.cells hs 25)
    rw [allocSize] at h
    exact h
  · rw [allocSize,allocSize]; omega
theorem SB.next2 {w:World} {b:Int} {hs:Array Value} {u u':World} (h:SB w b hs u) (hb:Below (w.heap.size + 2) u u'):SB w b hs u':=
  ⟨h.bel.trans (hb.mono (by omega)),(World.cell?_of_block (w:=u) (hb.block w.heap.size (by omega))).trans h.blk,(hb.block (w.heap.size + 1) (by omega)).trans h.inf,Nat.le_trans h.sz hb.size⟩
def PB (w:World) (g:Nat) (u:World):Prop:=w.heap.size + 2≤g∧∃ cs:Array Value,u.heap[g]? = some (.cells cs 57 (0,0))∧cs.size = 32
theorem yieldsIf_built2 {ops:Array Oper} {S:World→Prop} {op:Oper} {a:Act} (hw:Region.wanted op (yielded ops a.tmps) = true) (t:TypeId) (i0 i1:Nat) (x0 x1:Operand) (ho:op.op = .build t #[(i0,x0),(i1,x1)]) (v0 v1:Value) (h0:a.eval x0 = v0) (h1:a.eval x1 = v1) (T:Array Value)
    (hT:Tryz.prog.built t [(i0,v0),(i1,v1)] = some T):YieldsIf Tryz.prog ops S op (.agg T) a:=
  .inl ⟨hw,fun w _=>by
    have hf:Tryz.prog.built t (#[(i0,x0),(i1,x1)].map fun (i,x)=>(i,a.eval x)).toList = some T:=by
      rw [← hT]
      simp [h0,h1]
    have h:=run_build w t _ T hf
    unfold execOp
    simp only [ho,Sem.run_bind,h,Result.andThen_ok,Sem.run_pure]⟩
theorem blk_lt {w:World} {g:Nat} {o:Obj} (h:w.heap[g]? = some o):g < w.heap.size:=(Array.getElem?_eq_some_iff.1 h).1
theorem cell_of {w:World} {g k:Nat} {cs:Array Value} {t:TypeId} (h:w.heap[g]? = some (.cells cs t (0,0))) (hk:k < cs.size):∃ x,w.cell? ⟨g,k,none⟩ = some x∧w.frozen? ⟨g,k,none⟩ = false:=
  ⟨cs[k],by simp [World.cell?,h,hk],by simp [World.frozen?,h]⟩
theorem copy_src {w5:World} {B:Nat} {hs:Array Value} (hi:w5.heap[B]? = some (.cells hs 25 (0,0))) (j:Nat) (v:Value) (hj:(hs.toList.take 20)[j]? = some v):w5.drew.cell? ((⟨B,0,none⟩:Addr).add j) = some v:=by
  have hj':j < 20:=by
    have:=(List.getElem?_eq_some_iff.1 hj).1
    rw [List.length_take] at this
    omega
  have hadd:(⟨B,0,none⟩:Addr).add j = ⟨B,j,none⟩:=by unfold Addr.add; split <;> simp_all
  rw [List.getElem?_take_of_lt hj'] at hj
  rw [hadd]
  show w5.cell? ⟨B,j,none⟩ = some v
  simp only [World.cell?,hi]
  simpa using hj
def t52 (b:Int) (a:Option Addr) (n c:Nat):Array Value:=(List.replicate 20 (Value.int .u8 0) ++ ([Value.int .i64 b,Value.slice a n c]:List Value)).toArray
theorem t52_built (b:Int) (a:Option Addr) (n c:Nat):Tryz.prog.built 52 [(1,.int .i64 b),(2,.slice a n c)] = some (t52 b a n c):=by kernel_rfl
def t57 (b:Int) (a:Option Addr) (n c:Nat) (a':Option Addr) (n' c':Nat):Array Value:=(List.replicate 20 (Value.int .u8 0) ++ ([Value.int .i64 b,Value.slice a n c,.pointer none,.bool false,.int .i64 0,.bool false,.bool false,.bool false,.bool false,.bool false,.bool false,.slice a' n' c']:List Value)).toArray
theorem t57_built (b:Int) (a:Option Addr) (n c:Nat) (a':Option Addr) (n' c':Nat):Tryz.prog.built 57 [(0,.agg (t52 b a n c)),(6,.slice a' n' c')] = some (t57 b a n c a' n' c'):=by kernel_rfl
def NewE (w w':World) (b:Int) (hb0:List UInt8) (L:List Int) (p:Value):Prop:=
  ∃ g R P,p = .pointer (some ⟨g,0,none⟩)∧w.heap.size≤g∧FP w' g R P L (List.replicate ((L.length + 7) / 8) 0) 2 0 [] (.slice none 0 0)∧P.info = hb0.take 20∧P.b = b∧P.sh = false∧P.wc = true∧P.wi = false∧P.wb = false∧P.ic = true∧P.ii = false∧P.ib = false∧(∀ k,P.ln.ownBlock = some k→w.heap.size≤k)∧(∀ k,P.hs.ownBlock = some k→w.heap.size≤k)
theorem own0 {w:World} {B e size n:Nat} {v:Value} {xs:List Value} (h:w.ownsRow B e size v n xs):w.ownsRow 0 e size v n xs:=
  ⟨h.1,h.2.imp id (fun ⟨g,cap,cur,h1,_,h3⟩=>⟨g,cap,cur,h1,Nat.zero_le _,h3⟩)⟩
theorem newRow (hb0:List UInt8) (h:hb0.length = 32) (P:Pv) (h5:P.info.length = 20):(P.ls.toArray.toList.take 0 ++ (bc hb0).toList.take 20 ++ P.ls.toArray.toList.drop (0 + ((bc hb0).toList.take 20).length)).toArray = (Pv.ls { P with info:=hb0.take 20 }).toArray:=by
  have e1:((bc hb0).toList.take 20).length = 20:=by rw [List.length_take,bc_list,bcl_len,h]; rfl
  rw [e1]
  congr 1
  show [] ++ _ ++ (Lib.byteCells P.info ++ P.tl).drop 20 = Lib.byteCells (hb0.take 20) ++ P.tl
  rw [List.nil_append,List.drop_left' (by rw [bcl_len,h5]),bc_list,bcl_take]
set_option maxHeartbeats 2000000 in
set_option maxRecDepth 100000 in
theorem newP (b v:Int) (hb0:List UInt8) (h320:hb0.length = 32) (lv:Value) (L:List Int) (w:World) (hl:L.length * 8≤140737488351232) (hr:Bs.RZ w lv L) (hkt:KT w) (hmt:Bs.MT w) :
    Calls Tryz.prog 8 #[Bs.sc b v,.agg (bc hb0),lv] w fun e w'=>∃ p,e = .returned (.tuple #[p,.int .i64 (nwE b v L)])∧PP p (nwE b v L)∧Below w.heap.size w w'∧(nwE b v L = 0→NewE w w' b hb0 L p):=by
  obtain ⟨hs,hhs⟩:∃ x,x = bc hb0:=⟨_,rfl⟩
  have h32:hs.size = 32:=by rw [hhs,bc_size,h320]
  have h1c:hs.all (·.oneCell') = true:=by rw [hhs]; exact all_oneCell_toArray (Lib.byteCells_one hb0)
  have HBY:Hid (hs = bc hb0∧hb0.length = 32∧KT w∧Bs.MT w):=⟨hhs,h320,hkt,hmt⟩
  rw [← hhs]
  clear hhs h320 hkt hmt
  have HG:Hid (∀ u,Calls Tryz.prog 11 #[Bs.sc b v] u fun e w'=>e = .returned (.int .i64 (Bs.gd b v))∧Below u.heap.size u w'):=fun u=>Bs.good6 b v u
  have HR:Hid (Bs.RZ w lv L∧hs.size = 32∧hs.all (·.oneCell') = true):=⟨hr,h32,h1c⟩
  obtain ⟨a1,c1,rfl,_,_⟩:=hr
  clear h32 h1c
  by_cases hg:Bs.gd b v = 0
  · obtain ⟨b0,b1⟩:=gd_zero hg
    have HGz:Hid (Bs.gd b v = 0):=hg
    rw [hg] at HG
    clear hg
    have hmf:∀ (fn:Fn) (first cap:Array Value) (w:World),(Instr.makeFunc fn first cap).run Tryz.prog w = .ok (.func fn first cap) w:=fun _ _ _ _=>rfl
    by_cases hlen:65536 < L.length
    · have hE:nwE b v L = 2:=by unfold nwE; rw [HGz.out,if_pos rfl,if_pos (.inl hlen)]
      rw [hE]
      clear hE
      go_enter Tryz.func8,Tryz.ntmps8
      go_wp2_with fail
      refine (HG.out _).mono ?_
      rintro e w1 ⟨rfl,hb1⟩
      have HB:=Lib.hid ((SB.start b v hs w).next hb1)
      clear hb1
      go_wp2
      go_ret2
      first | exact ⟨_,rfl,⟨fun h=>by omega,fun _=>rfl⟩,HB.out.bel,fun h=>by omega⟩ | exact ⟨_,rfl,⟨fun h=>by omega,fun _=>rfl⟩,HB.out.bel⟩
    · have HCA:Hid (∀ u,SB w b hs u→Calls Tryz.prog 13 #[.slice a1 L.length c1,.func (.func 12) #[] #[.pointer (some ⟨w.heap.size,0,none⟩)]] u fun e w'=>e = .returned (.bool (L.any (Bs.bad b)))∧∃ n,w' = u.drewN n):=fun u hu =>
        Bs.contains10 (.slice a1 L.length c1) L b b0 b1 w.heap.size u (by omega) (HR.out.1.keep hu.bel) hu.blk
      cases hbad:L.any (Bs.bad b)
      · have hE:nwE b v L = 0:=by unfold nwE; rw [HGz.out,if_pos rfl,if_neg (by rw [hbad]; simp; omega)]
        have HLK:Hid (LOk L):=⟨by omega,fun j hj=>by
          have hz:=List.any_eq_false.1 hbad (Bs.iz L j) (by unfold Bs.iz; simp [List.getD,List.getElem?_eq_getElem hj])
          unfold Bs.bad at hz
          simp at hz
          omega⟩
        rw [hE]
        rw [hbad] at HCA
        clear hE hbad
        go_enter Tryz.func8,Tryz.ntmps8
        go_wp2_with fail
        refine (HG.out _).mono ?_
        rintro e w1 ⟨rfl,hb1⟩
        have HB:=Lib.hid ((SB.start b v hs w).next hb1)
        clear hb1
        go_wp2_with fail
        refine (HCA.out _ HB.out).mono ?_
        rintro e w2 ⟨rfl,n2,rfl⟩
        have HB2:=Lib.hid (HB.out.next (belowDrew w1 n2))
        have HM:Hid (Calls Tryz.prog 14 #[.int .i64 (L.length:Int)] (w1.drewN n2) fun e w'=>∃ v,e = .returned (.tuple #[v,.int .i64 0])∧OW (w1.drewN n2).heap.size w' v (List.replicate ((L.length + 7) / 8) 0)∧Below (w1.drewN n2).heap.size (w1.drewN n2) w'):=Bs.make13_ow L.length (by omega) _
        clear HCA HB
        go_wp2_with fail
        refine HM.out.mono ?_
        rintro e w3 ⟨hv,rfl,ho3,hb3⟩
        obtain ⟨a3,c3,rfl⟩:=ho3.form
        have HB3:=Lib.hid (HB2.out.next hb3)
        rw [List.length_replicate] at *
        generalize hn3:(L.length + 7) / 8 = n3 at *
        have HN3:Hid ((L.length + 7) / 8 = n3):=hn3
        have HO3:Hid (OW 0 w3 (.slice a3 n3 c3) (List.replicate n3 0)):=OW.mono (bsOW ho3) (Nat.zero_le _)
        have HW3:Hid (∀ k,(Value.slice a3 n3 c3).ownBlock = some k→w.heap.size≤k):=fun k hk=>by
          have h1:=(own_ge (bsOW ho3) hk).1
          have h2:=HB2.out.sz
          omega
        clear HM hb3 ho3 HB2 hn3
        have HCL:Hid (∀ u,SB w b hs u→Calls Tryz.prog 15 #[.slice a1 L.length c1] u fun e w'=>∃ v',e = .returned v'∧Bs.OZ u.heap.size w' v' L∧Below u.heap.size u w'):=fun u hu=>Bs.clone12 _ L u (HR.out.1.keep hu.bel) hl
        go_upto_region 10 with fail
        refine wp_region_held_drew (S:=SB w b hs) (by kernel_rfl) (HB3.out.next (belowDrew w3 1)) (fun hHeld=>?_)
        refine tkB (i:=0) (v:=.pointer (some ⟨w.heap.size,0,none⟩)) rfl hHeld ?_
        simp only [Act.put,zq1,zq2,zq4,zq5,zq6]
        refine tkA (i:=1) (v:=.int .i64 b) rfl (Or.inl ⟨by rfl,fun w hw=>by have hq:=hw.blk; go_simp⟩) hHeld ?_
        simp only [Act.put,zq1,zq2,zq3,zq4,zq5,zq6]
        refine tkB (i:=2) (v:=.slice a1 L.length c1) rfl hHeld ?_
        simp only [Act.put,zq1,zq2,zq3,zq4,zq5,zq6]
        refine tkB (i:=5) (v:=.slice a3 n3 c3) rfl hHeld ?_
        simp only [Act.put,zq1,zq2,zq3,zq4,zq5,zq6]
        refine wpAnyH_ready (rs:=[3]) (by kernel_rfl) (by simp) ?_
        refine AllReadyH.cons (o:=_) rfl (fun K hK=>?_) AllReadyH.nil
        go_simp
        refine (HCL.out _ (HB3.out.next (belowDrew w3 1))).mono ?_
        rintro e w4 ⟨v4,rfl,o4,b4⟩
        obtain ⟨a4,c4,rfl⟩:=o4.form
        have HB4:=Lib.hid ((HB3.out.next (belowDrew w3 1)).next b4)
        have HO4:Hid (Bs.OZ 0 w4 (.slice a4 L.length c4) L∧OW 0 w4 (.slice a3 n3 c3) (List.replicate n3 0)):=⟨own0 o4,(HO3.out.grow (belowDrew w3 1)).grow b4⟩
        have HW4:Hid ((∀ k,(Value.slice a4 L.length c4).ownBlock = some k→w.heap.size≤k)∧(∀ k,(Value.slice a3 n3 c3).ownBlock = some k→w.heap.size≤k)):=⟨fun k hk=>by
          have h1:w3.heap.size≤k:=(own_ge o4 hk).1
          have h2:=HB3.out.sz
          omega,HW3.out⟩
        clear o4 b4 HB3 HCL HO3
        go_wp2_with fail
        refine hK.out _ _ HB4.out (fun hHeld=>?_)
        clear hK K
        refine tkA (i:=4) (v:=.agg (t52 b a4 L.length c4)) rfl (yieldsIf_built2 (by rfl) 52 1 2 _ _ rfl (.int .i64 b) (.slice a4 L.length c4) rfl rfl _ (t52_built b a4 L.length c4)) hHeld ?_
        simp only [Act.put,zq1,zq2,zq3,zq4,zq5,zq6]
        refine tkA (i:=6) (v:=.agg (t57 b a4 L.length c4 a3 n3 c3)) rfl (yieldsIf_built2 (by rfl) 57 0 6 _ _ rfl (.agg (t52 b a4 L.length c4)) (.slice a3 n3 c3) rfl rfl _ (t57_built b a4 L.length c4 a3 n3 c3)) hHeld ?_
        simp only [Act.put,zq1,zq2,zq3,zq4,zq5,zq6]
        refine wpAnyH_ready (rs:=[7]) (by kernel_rfl) (by simp) ?_
        refine AllReadyH.cons (o:=_) rfl (fun K hK=>?_) AllReadyH.nil
        go_simp
        have HB5:Hid (SB w b hs (w4.alloc (.cells (t57 b a4 L.length c4 a3 n3 c3) 57))):=HB4.out.next ((Below.refl _ _).alloc (Nat.le_refl _) _)
        have HP5:Hid (PB w w4.heap.size (w4.alloc (.cells (t57 b a4 L.length c4 a3 n3 c3) 57))):=⟨HB4.out.sz,_,heapNew _ _,rfl⟩
        have HK5:Hid (PK (w4.alloc (.cells (t57 b a4 L.length c4 a3 n3 c3) 57)) w4.heap.size ⟨zr 20,b,.slice a4 L.length c4,.pointer none,false,0,false,false,false,false,false,false,.slice a3 n3 c3⟩):=⟨rfl,heapNew _ _⟩
        have bA:Below w4.heap.size w4 (w4.alloc (.cells (t57 b a4 L.length c4 a3 n3 c3) 57)):=(Below.refl _ _).alloc (Nat.le_refl _) _
        have HO5:Hid (Bs.OZ 0 (w4.alloc (.cells (t57 b a4 L.length c4 a3 n3 c3) 57)) (.slice a4 L.length c4) L∧OW 0 (w4.alloc (.cells (t57 b a4 L.length c4 a3 n3 c3) 57)) (.slice a3 n3 c3) (List.replicate n3 0)):=⟨Bs.OZ.grow HO4.out.1 bA,HO4.out.2.grow bA⟩
        have HJ5:Hid ((∀ k,(Value.slice a4 L.length c4).ownBlock = some k→k < w4.heap.size)∧(∀ k,(Value.slice a3 n3 c3).ownBlock = some k→k < w4.heap.size)):=⟨fun k hk=>(own_ge HO4.out.1 hk).2,fun k hk=>(own_ge HO4.out.2 hk).2⟩
        clear bA HO4
        obtain ⟨w5,hw5⟩:∃ x,x = w4.alloc (.cells (t57 b a4 L.length c4 a3 n3 c3) 57):=⟨_,rfl⟩
        rw [← hw5] at HB5 HP5 HK5 HO5 ⊢
        clear hw5
        generalize w4.heap.size = g at *
        refine hK.out _ _ HB5.out (fun hHeld=>?_)
        clear hK K HB4
        refine tkB (i:=8) (v:=.pointer (some ⟨g,0,none⟩)) rfl hHeld ?_
        simp only [Act.put,zq1,zq2,zq3,zq4,zq5,zq6]
        refine wpAnyH_done (by kernel_rfl) ?_ _
        clear hHeld
        generalize t52 b a4 L.length c4 = T52 at *
        generalize t57 b a4 L.length c4 a3 n3 c3 = T57 at *
        obtain ⟨cs,hcs,hcsz⟩:=HP5.out.2
        have HC5:Hid (w5.heap[g]? = some (.cells cs 57 (0,0))):=hcs
        have hcp:∀ ty,(Builtin.copy_ #[37,37] ty #[.slice (some ⟨g,0,none⟩) 20 20,.slice (some ⟨w.heap.size + 1,0,none⟩) 32 32]).run Tryz.prog w5.drew = .ok (goInt (hs.toList.take 20).length) (w5.drew.setRow g (cs.toList.take 0 ++ hs.toList.take 20 ++ cs.toList.drop (0 + (hs.toList.take 20).length)).toArray):=fun ty =>
          run_copy_row (P:=Tryz.prog) w5.drew 37 37 ty 5 g 0 20 20 ⟨w.heap.size + 1,0,none⟩ 32 32 cs 57 (hs.toList.take 20) Tryz.underlying37 (by kernel_rfl) hcs (by rw [List.length_take,Array.length_toList,HR.out.2.1]; rfl)
            (fun j v hj=>copy_src HB5.out.inf j v hj) (by rw [List.length_take,Array.length_toList,HR.out.2.1]; omega) (fun v hv=>Array.all_eq_true_iff_forall_mem.1 HR.out.2.2 v (by simpa using List.mem_of_mem_take hv))
        obtain ⟨n20,hn20⟩:∃ n,n = (hs.toList.take 20).length:=⟨_,rfl⟩
        rw [← hn20] at hcp
        have hz6:(cs.toList.take 0 ++ hs.toList.take 20 ++ cs.toList.drop (0 + n20)).toArray.size = 32:=by
          have h0:=HR.out.2.1
          rw [List.length_take,Array.length_toList] at hn20
          simp
          omega
        obtain ⟨ct,hct⟩:∃ x,x = (cs.toList.take 0 ++ hs.toList.take 20 ++ cs.toList.drop (0 + n20)).toArray:=⟨_,rfl⟩
        have hcs5:cs = (Pv.ls ⟨zr 20,b,.slice a4 L.length c4,.pointer none,false,0,false,false,false,false,false,false,.slice a3 n3 c3⟩).toArray:=by
          have h9:=HK5.out.2.symm.trans hcs
          simp only [Option.some.injEq,Obj.cells.injEq,and_true] at h9
          exact h9.symm
        have hct5:ct = (Pv.ls ⟨hb0.take 20,b,.slice a4 L.length c4,.pointer none,false,0,false,false,false,false,false,false,.slice a3 n3 c3⟩).toArray:=by
          rw [hct,hn20,HBY.out.1,hcs5]
          exact newRow hb0 HBY.out.2.1 _ rfl
        rw [← hct] at hcp hz6
        have HB6:Hid (SB w b hs (w5.drew.setRow g ct)):=(HB5.out.next (belowDrew w5 1)).next2 (below_setRow (Below.refl _ _) HP5.out.1 ct)
        have HP6:Hid ((w5.drew.setRow g ct).heap[g]? = some (.cells ct 57 (0,0))∧ct.size = 32∧w.heap.size + 2≤g):=⟨setRow_heap w5.drew g cs ct 57 _ hcs,hz6,HP5.out.1⟩
        have HK6:Hid (PK (w5.drew.setRow g ct) g ⟨hb0.take 20,b,.slice a4 L.length c4,.pointer none,false,0,false,false,false,false,false,false,.slice a3 n3 c3⟩):=⟨by show (hb0.take 20).length = 20; rw [List.length_take,HBY.out.2.1]; rfl,by rw [← hct5]; exact HP6.out.1⟩
        have HO6:Hid (Bs.OZ 0 (w5.drew.setRow g ct) (.slice a4 L.length c4) L∧OW 0 (w5.drew.setRow g ct) (.slice a3 n3 c3) (List.replicate n3 0)):=⟨own_at HO5.out.1 (fun k hk _=>setRow_other w5.drew g k ct (by have:=HJ5.out.1 k hk; omega)),own_at HO5.out.2 (fun k hk _=>setRow_other w5.drew g k ct (by have:=HJ5.out.2 k hk; omega))⟩
        clear hcs5 hct5
        obtain ⟨w6,hw6⟩:∃ x,x = w5.drew.setRow g ct:=⟨_,rfl⟩
        rw [← hw6] at hcp HB6 HP6 HK6 HO6
        clear hct hn20 hz6 hcs hcsz HC5 hw6 HP5
        go_upto_region 11 with fail
        refine wp_region_held_drew (S:=SB w b hs) (by kernel_rfl) (HB5.out.next (belowDrew w5 1)) (fun hHeld=>?_)
        refine tkB (i:=0) (v:=.pointer (some ⟨g,0,none⟩)) rfl hHeld ?_
        simp only [Act.put,zq1,zq2,zq4,zq5,zq6]
        refine tkB (i:=1) (v:=.pointer (some ⟨g,0,none⟩)) rfl hHeld ?_
        simp only [Act.put,zq1,zq2,zq3,zq4,zq5,zq6]
        refine tkB (i:=2) (v:=.pointer (some ⟨g,0,none⟩)) rfl hHeld ?_
        simp only [Act.put,zq1,zq2,zq3,zq4,zq5,zq6]
        refine tkB (i:=3) (v:=.pointer (some ⟨g,0,none⟩)) rfl hHeld ?_
        simp only [Act.put,zq1,zq2,zq3,zq4,zq5,zq6]
        refine tkB (i:=4) (v:=.slice (some ⟨g,0,none⟩) 20 20) rfl hHeld ?_
        simp only [Act.put,zq1,zq2,zq3,zq4,zq5,zq6]
        refine tkB (i:=5) (v:=.slice (some ⟨w.heap.size + 1,0,none⟩) 32 32) rfl hHeld ?_
        simp only [Act.put,zq1,zq2,zq3,zq4,zq5,zq6]
        refine wpAnyH_ready (rs:=[6]) (by kernel_rfl) (by simp) ?_
        refine AllReadyH.cons (o:=_) rfl (fun K hK=>?_) AllReadyH.nil
        go_simp
        refine hK.out _ _ HB6.out (fun hHeld=>?_)
        clear hK K hcp HB5
        refine wpAnyH_done (by kernel_rfl) ?_ _
        clear hHeld
        go_wp2_with fail
        refine (Fm.new w6 true).mono ?_
        rintro e w7 ⟨rfl,rk7,b7⟩
        have HRK:Hid (Fm.RK w7 w6.heap.size 2 0 (.slice none 0 0) 0):=rk7
        have HK7:Hid (PK w7 g ⟨hb0.take 20,b,.slice a4 L.length c4,.pointer none,false,0,false,false,false,false,false,false,.slice a3 n3 c3⟩):=HK6.out.keep (b7.block g HK6.out.lt)
        have HO7:Hid (Bs.OZ 0 w7 (.slice a4 L.length c4) L∧OW 0 w7 (.slice a3 n3 c3) (List.replicate n3 0)):=⟨Bs.OZ.grow HO6.out.1 b7,HO6.out.2.grow b7⟩
        have hg6:g < w6.heap.size:=HK6.out.lt
        clear rk7 HO6
        have HB7:=Lib.hid (HB6.out.next b7)
        have hg7:=(b7.block g (blk_lt HP6.out.1)).trans HP6.out.1
        obtain ⟨x22,c22,f22⟩:=cell_of hg7 (k:=22) (by rw [HP6.out.2.1]; omega)
        obtain ⟨x25,c25,f25⟩:=cell_of hg7 (k:=25) (by rw [HP6.out.2.1]; omega)
        obtain ⟨x28,c28,f28⟩:=cell_of hg7 (k:=28) (by rw [HP6.out.2.1]; omega)
        clear b7 hg7 HB6
        go_wp2
        go_ret2
        have hgg:w.heap.size≤g:=by have:=HP6.out.2.2; omega
        have bel9:Below w.heap.size w (((w7.setCell ⟨g,22,none⟩ (.pointer (some ⟨w6.heap.size,0,none⟩))).setCell ⟨g,25,none⟩ (.bool true)).setCell ⟨g,28,none⟩ (.bool true)):=(((HB7.out.bel.setCell (p:=⟨g,22,none⟩) hgg _).setCell (p:=⟨g,25,none⟩) hgg _).setCell (p:=⟨g,28,none⟩) hgg _)
        have fr9:Fm.Fr (fun k=>k≠g) w7 (((w7.setCell ⟨g,22,none⟩ (.pointer (some ⟨w6.heap.size,0,none⟩))).setCell ⟨g,25,none⟩ (.bool true)).setCell ⟨g,28,none⟩ (.bool true)):=(((Fm.Fr.refl (fun k=>k≠g) w7).setCell g 22 _ (fun h=>h rfl)).setCell g 25 _ (fun h=>h rfl)).setCell g 28 _ (fun h=>h rfl)
        have pk9:=((HK7.out.set 2 (.pointer (some ⟨w6.heap.size,0,none⟩)) ⟨hb0.take 20,b,.slice a4 L.length c4,.pointer (some ⟨w6.heap.size,0,none⟩),false,0,false,false,false,false,false,false,.slice a3 n3 c3⟩ rfl rfl).set 5 (.bool true) ⟨hb0.take 20,b,.slice a4 L.length c4,.pointer (some ⟨w6.heap.size,0,none⟩),false,0,true,false,false,false,false,false,.slice a3 n3 c3⟩ rfl rfl).set 8 (.bool true) ⟨hb0.take 20,b,.slice a4 L.length c4,.pointer (some ⟨w6.heap.size,0,none⟩),false,0,true,false,false,true,false,false,.slice a3 n3 c3⟩ rfl rfl
        refine ⟨_,rfl,⟨fun _=>⟨_,rfl⟩,fun h=>absurd rfl h⟩,bel9,fun _=>⟨g,w6.heap.size,⟨hb0.take 20,b,.slice a4 L.length c4,.pointer (some ⟨w6.heap.size,0,none⟩),false,0,true,false,false,true,false,false,.slice a3 n3 c3⟩,rfl,hgg,?_,rfl,rfl,rfl,rfl,rfl,rfl,rfl,rfl,rfl,HW4.out.1,HW4.out.2⟩⟩
        have hj:∀ k,k < g→k≠g∧k≠w6.heap.size∧(Value.slice none 0 0).ownBlock≠some k:=fun k hk=>⟨by omega,by omega,by simp [Value.ownBlock]⟩
        have hk1:=HBY.out.2.2.1.pos
        have hm1:=HBY.out.2.2.2.1
        have hl9:=HLK.out.1
        rw [HN3.out]
        exact ⟨pk9,rfl,rfl,hg6,by omega,b0,b1,HLK.out,own_at HO7.out.1 (fun k hk _=>fr9.block k (own_ge HO7.out.1 hk).2 (hj k (HJ5.out.1 k hk)).1),fun k hk=>hj k (HJ5.out.1 k hk),own_at HO7.out.2 (fun k hk _=>fr9.block k (own_ge HO7.out.2 hk).2 (hj k (HJ5.out.2 k hk)).1),fun k hk=>hj k (HJ5.out.2 k hk),by rw [List.length_replicate]; have:=HN3.out; omega,(fr9.block w6.heap.size HRK.out.lt (by omega)).trans HRK.out,.inl ⟨rfl,by decide,rfl⟩,World.ownsRow_nil _ _ _ _,fun _=>rfl,HBY.out.2.2.1.below bel9 hk1,HBY.out.2.2.2.keep bel9⟩
      · have hE:nwE b v L = 2:=by unfold nwE; rw [HGz.out,if_pos rfl,if_pos (.inr hbad)]
        rw [hE]
        rw [hbad] at HCA
        clear hE hbad
        go_enter Tryz.func8,Tryz.ntmps8
        go_wp2_with fail
        refine (HG.out _).mono ?_
        rintro e w1 ⟨rfl,hb1⟩
        have HB:=Lib.hid ((SB.start b v hs w).next hb1)
        clear hb1
        go_wp2_with fail
        refine (HCA.out _ HB.out).mono ?_
        rintro e w2 ⟨rfl,n2,rfl⟩
        have HB2:=Lib.hid (HB.out.next (belowDrew w1 n2))
        clear HCA HB
        go_wp2
        go_ret2
        first | exact ⟨_,rfl,⟨fun h=>by omega,fun _=>rfl⟩,HB2.out.bel,fun h=>by omega⟩ | exact ⟨_,rfl,⟨fun h=>by omega,fun _=>rfl⟩,HB2.out.bel⟩
  · have ht:=gd_ten hg
    have hE:nwE b v L = 10:=by unfold nwE; rw [if_neg hg]
    rw [ht] at HG
    rw [hE]
    clear hg ht hE
    go_enter Tryz.func8,Tryz.ntmps8
    go_wp2_with fail
    refine (HG.out _).mono ?_
    rintro e w1 ⟨rfl,hb1⟩
    have HB:=Lib.hid ((SB.start b v hs w).next hb1)
    clear hb1
    go_wp2
    go_ret2
    first | exact ⟨_,rfl,⟨fun h=>by omega,fun _=>rfl⟩,HB.out.bel,fun h=>by omega⟩ | exact ⟨_,rfl,⟨fun h=>by omega,fun _=>rfl⟩,HB.out.bel⟩
set_option maxHeartbeats 1000000 in
theorem feedGone (w:World) (g:Nat) (P:Pv) (h:PK w g P) (hb:0 < P.b) (hw:P.why≠0) (ba:Option Addr) (bn bcp:Nat) :
    Calls Tryz.prog 20 #[.pointer (some ⟨g,0,none⟩),.slice ba bn bcp] w fun e w'=>e = .returned (.tuple #[.slice none 0 0,.int .i64 170])∧w' = w:=by
  have HO:Hid (Calls Tryz.prog 39 #[.pointer (some ⟨g,0,none⟩)] w fun e w'=>e = .returned (.int .i64 170)∧w' = w):=by
    have h9:=openT w g P h hb
    rw [if_neg hw] at h9
    exact h9
  clear h hb hw
  go_enter Tryz.func20,Tryz.ntmps20
  go_wp2_with fail
  refine HO.out.mono ?_
  rintro e w0 ⟨rfl,rfl⟩
  go_wp2
  go_ret2
  exact ⟨rfl,rfl⟩
set_option maxHeartbeats 1000000 in
theorem sayGone (w:World) (g:Nat) (P:Pv) (h:PK w g P) (hb:0 < P.b) (hw:P.why≠0) (m:Mv) :
    Calls Tryz.prog 27 #[.pointer (some ⟨g,0,none⟩),.agg m.cs] w fun e w'=>e = .returned (.tuple #[.slice none 0 0,.int .i64 170])∧Below w.heap.size w w':=by
  have bA:Below w.heap.size w (w.alloc (.cells m.cs 40)):=(Below.refl _ _).alloc (Nat.le_refl _) _
  have HB:=Lib.hid bA
  have HO:Hid (Calls Tryz.prog 39 #[.pointer (some ⟨g,0,none⟩)] (w.alloc (.cells m.cs 40)) fun e w'=>e = .returned (.int .i64 170)∧w' = w.alloc (.cells m.cs 40)):=by
    have h9:=openT (w.alloc (.cells m.cs 40)) g P (h.keep (bA.block g h.lt)) hb
    rw [if_neg hw] at h9
    exact h9
  clear h hb hw bA
  generalize m.cs = mcs at *
  go_enter Tryz.func27,Tryz.ntmps27
  go_wp2_with fail
  refine HO.out.mono ?_
  rintro e w0 ⟨rfl,rfl⟩
  go_wp2
  go_ret2
  exact ⟨rfl,HB.out⟩
def stc (a b:Bool) (y:Int) (c d e f:Bool) (hv:Value):Value:=.agg #[.bool a,.bool b,.int .i64 y,.bool c,.bool d,.bool e,.bool f,hv]
set_option maxHeartbeats 2000000 in
set_option maxRecDepth 100000 in
theorem stateSameT (w:World) (a b:Bool) (y:Int) (c d e f:Bool) (v1 v2:Value) (H:List UInt8) (h1:RB w v1 H) (h2:RB w v2 H) (hl:H.length≤140737488351232) :
    Calls Tryz.prog 32 #[stc a b y c d e f v1,stc a b y c d e f v2] w fun x w'=>x = .returned (.bool true)∧Below w.heap.size w w':=by
  have bA:Below w.heap.size w ((w.alloc (.cells #[.bool a,.bool b,.int .i64 y,.bool c,.bool d,.bool e,.bool f,v1] 61)).alloc (.cells #[.bool a,.bool b,.int .i64 y,.bool c,.bool d,.bool e,.bool f,v2] 61)):=((Below.refl _ _).alloc (Nat.le_refl _) _).alloc (by simp) _
  have HB:=Lib.hid bA
  obtain ⟨a1,c1,rfl,_⟩:=id h1
  obtain ⟨a2,c2,rfl,_⟩:=id h2
  have HR:=Lib.hid (And.intro (h1.keep bA) (h2.keep bA))
  clear bA h1 h2
  unfold stc
  go_enter Tryz.func32,Tryz.ntmps32
  go_wp2_with fail
  refine (same _ _ H _ hl HR.out.1 HR.out.2).mono ?_
  rintro x w2 ⟨rfl,n,rfl⟩
  go_wp2
  go_ret
  exact ⟨rfl,belowN HB.out n⟩
end Go.Proofs.YtfjjpbebnoghmaaGreatDoor
namespace Go.Proofs.YtfjjpbebnoghmaaGreatDoor.Fm
open Go.RowKit Go.Proofs.YtfjjpbebnoghmaaGreatDoor
set_option maxHeartbeats 1000000 in
set_option maxRecDepth 100000 in
theorem greet (hb:List UInt8) (hl:hb.length = 48) (w:World) :
    Calls Tryz.prog 58 #[.agg (bc hb)] w fun e w'=>∃ v,e = .returned v∧OW w.heap.size w' v (sgn ++ hb)∧Below w.heap.size w w':=by
  have hmk:∀ u:World,(Instr.makeSlice 37 (.int .i64 68) (.int .i64 68)).run Tryz.prog u = .ok (.slice (some ⟨u.heap.size,0,none⟩) 68 68) (u.alloc (.cells (bc (zr 68)) 5)):=make_bytes 68 (by omega)
  have C1:∃ W1,(∀ ty,(Builtin.copy_ #[37,9] ty #[.slice (some ⟨w.heap.size + 1,0,none⟩) 68 68,.string { data:=#[19,66,105,116,84,111,114,114,101,110,116,32,112,114,111,116,111,99,111,108] }]).run Tryz.prog ((w.alloc (.cells (bc hb) 97)).alloc (.cells (bc (zr 68)) 5)) = .ok (goInt 20) W1)∧W1.heap[w.heap.size + 1]? = some (.cells (bc (sgn ++ zr 48)) 5 (0,0))∧W1.heap[w.heap.size]? = some (.cells (bc hb) 97 (0,0))∧Below w.heap.size w W1:=by
    have hg:((w.alloc (.cells (bc hb) 97)).alloc (.cells (bc (zr 68)) 5)).heap[w.heap.size + 1]? = some (.cells (bc (zr 68)) 5 (0,0)):=by
      have:=heapNew (w.alloc (.cells (bc hb) 97)) (.cells (bc (zr 68)) 5)
      simpa using this
    refine ⟨_,fun ty=>Lib.run_copy_row_string _ 37 9 ty 5 (w.heap.size + 1) 0 68 68 _ (bc (zr 68)) 5 Tryz.underlying37 hs5 hg (by decide) (by rw [bc_size,zr_len]; decide),?_,?_,belowSetRow (((Below.refl _ _).alloc (Nat.le_refl _) _).alloc (by simp) _) (by omega) _⟩
    · rw [heapSetRow _ _ _ _ _ hg]
      rfl
    · rw [setRow_other _ _ _ _ (by omega),heapOld _ _ _ (by simp),heapNew]
  obtain ⟨W1,hc1,hb1,hh1,B1⟩:=C1
  obtain ⟨W2,hc2,hb2,hh2,B2⟩:=copy_part w W1.drew (w.heap.size + 1) w.heap.size 20 0 8 _ hb 5 97 hb1 hh1 (by omega) (by omega) (by omega) (by simp [sgn,zr_len]) B1.drew
  rw [splice_at (o:=20) (by simp [sgn]) (cut_len hb 0 8 (by omega))] at hb2
  obtain ⟨W3,hc3,hb3,hh3,B3⟩:=copy_part w W2.drew (w.heap.size + 1) w.heap.size 28 8 20 _ hb 5 97 hb2 hh2 (by omega) (by omega) (by omega) (by simp [sgn,hl,zr_len]) B2.drew
  rw [splice_at (o:=28) (by simp [sgn,hl]) (cut_len hb 8 20 (by omega))] at hb3
  obtain ⟨W4,hc4,hb4,hh4,B4⟩:=copy_part w W3.drew (w.heap.size + 1) w.heap.size 48 28 20 _ hb 5 97 hb3 hh3 (by omega) (by omega) (by omega) (by simp [sgn,hl,zr_len]) B3.drew
  rw [splice_at (o:=48) (by simp [sgn,hl]) (cut_len hb 28 20 (by omega))] at hb4
  have HO:Hid (OW w.heap.size W4 (.slice (some ⟨w.heap.size + 1,0,none⟩) 68 68) (sgn ++ hb)∧Below w.heap.size w W4):=by
    refine ⟨?_,B4⟩
    have hx:sgn.length = 20:=rfl
    have h68:(sgn ++ hb).length = 68:=by simp [hx,hl]
    have:=OW.of_block (B:=w.heap.size) (cap:=68) (l:=sgn ++ hb) (by omega) hb4 (by simp [hx,hl,zr_len]) ?_ (by simp [hx,hl,zr_len]) (by simp [hx,hl,maxLen,zr_len])
    · rw [h68] at this; exact this
    · rw [h68,List.take_of_length_le (by simp [hx,hl,zr_len])]
      rw [List.append_assoc sgn,cut_join hb 0 8 20,List.append_assoc sgn,cut_join hb 0 28 20]
      have hz:List.drop 20 (List.drop 20 (List.drop 8 (zr 48))) = []:=List.drop_eq_nil_of_le (by simp [zr_len])
      rw [hz,List.append_nil,List.drop_zero,List.take_of_length_le (by omega)]
  have c1:=hc1 3
  have c2:=hc2 3 48 48 8 (by omega)
  have c3:=hc3 3 40 40 20 (by omega)
  have c4:=hc4 3 20 20 20 (by omega)
  clear hb1 hh1 B1 hb2 hh2 B2 hb3 hh3 B3 hb4 hh4 B4 hc1 hc2 hc3 hc4 hl
  go_enter Tryz.func58,Tryz.ntmps58
  go_wp2
  go_region
  go_wp2
  go_region
  go_wp2
  go_region
  go_wp2
  go_ret
  exact ⟨_,rfl,HO.out⟩
end Go.Proofs.YtfjjpbebnoghmaaGreatDoor.Fm
