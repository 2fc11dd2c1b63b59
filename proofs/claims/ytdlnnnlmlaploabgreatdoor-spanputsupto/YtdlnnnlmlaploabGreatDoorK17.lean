import Derived.Test.YtdlnnnlmlaploabGreatDoorK16
import Derived.Deep.AppendLies
import Derived.Test.YtdlnnnlmlaploabGreatDoorK14
import Derived.Deep.LoopGhost
import Derived.WalkMore
import Derived.OwnWalk
namespace Go.Proofs.YtdlnnnlmlaploabGreatDoor
open Go.RowKit Go.Deep
theorem built94S8 (c0 c1 c2 c3 c4 c5:Int) (k:ByteArray) (c7 c8:Int):Tryz.prog.built 98 [(0,.agg #[.int .i64 c0,.int .i64 c1,.int .i64 c2,.int .i64 c3,.int .i64 c4,.int .i64 c5,.string k,.int .i64 c7,.int .i64 c8])] = some #[.int .i64 c0,.int .i64 c1,.int .i64 c2,.int .i64 c3,.int .i64 c4,.int .i64 c5,.string k,.int .i64 c7,.int .i64 c8,.int .i64 0,.string { data:=#[] },.int .i64 0]:=by kernel_rfl
theorem yieldsIf_buildS8 {P:Program} {ops:Array Oper} {S:World → Prop} {o:Oper} {a:Act} (hw:Region.wanted o (yielded ops a.tmps) = true) (t:TypeId) (parts:Array (Nat × Operand)) (ho:o.op = .build t parts) (cells:Array Value)
    (hf:P.built t (parts.map fun (i,x)=>(i,a.eval x)).toList = some cells):YieldsIf P ops S o (.agg cells) a:=
  .inl ⟨hw,fun w _=>by unfold execOp; simp only [ho,Sem.run_bind,run_build w t _ cells hf,Result.andThen_ok,Sem.run_pure]⟩
set_option maxRecDepth 10000 in
set_option maxHeartbeats 2000000 in
theorem value40L {B rb:Nat} {w:World} {a:Option Addr} {c:Nat} {b:List UInt8} {i n:Nat} {ov:Value} {k:Nat} {us:List Value} (h:SR B rb w a c b i n ov k us) (hn:n ≤ 1048577) {up nt fi:Int} {ky:ByteArray} (hD:DUE k us up nt ky fi) (hi:i < b.length) (h1:byt b i = 108) (hk:k < 32) :
    Calls Tryz.prog 47 #[.pointer (some ⟨rb,0,none⟩)] w fun e w'=>∃ ov',e = .returned (.tuple #[.agg (sv9 3 i 0 k up nt ky n fi),.int .i64 0])∧SR B rb w' a c b (i + 1) (n + 1) ov' (k + 1) (us ++ [.int .i64 3,.int .i64 i,.int .i64 0,.int .i64 k,.int .i64 up,.int .i64 nt,.string ky,.int .i64 n,.int .i64 fi,.int .i64 0,.string ByteArray.empty,.int .i64 0])∧Near rb ov w w':=by
  have hb0:Below w.heap.size w (w.alloc zero9):=(Below.refl _ _).alloc (Nat.le_refl _) _
  have HX:=Lib.hid (And.intro h (And.intro hb0 (And.intro (h.keep hb0) (show blk (w.alloc zero9) w.heap.size 45 #[.int .i64 0,.int .i64 0,.int .i64 0,.int .i64 0,.int .i64 0,.int .i64 0,.string { data:=#[] },.int .i64 0,.int .i64 0] from heap_new w zero9))))
  have HD:=Lib.hid (due54 HX.out.2.2.1 hn hD)
  clear h hb0 hD
  go_enter Tryz.func47,Tryz.ntmps47
  go_wp2_with fail
  refine HD.out.mono ?_
  rintro e w1 ⟨rfl,s1,m1⟩
  have HW:Hid (SR B rb (w1.alloc (Obj.cells #[Value.int .i64 0,Value.int .i64 i,Value.int .i64 0,Value.int .i64 k,Value.int .i64 up,Value.int .i64 nt,Value.string ky,Value.int .i64 n,Value.int .i64 fi] 45)) a c b i (n + 1) ov k us∧blk (w1.alloc (Obj.cells #[Value.int .i64 0,Value.int .i64 i,Value.int .i64 0,Value.int .i64 k,Value.int .i64 up,Value.int .i64 nt,Value.string ky,Value.int .i64 n,Value.int .i64 fi] 45)) w.heap.size 45 #[.int .i64 0,.int .i64 0,.int .i64 0,.int .i64 0,.int .i64 0,.int .i64 0,.string { data:=#[] },.int .i64 0,.int .i64 0]∧blk (w1.alloc (Obj.cells #[Value.int .i64 0,Value.int .i64 i,Value.int .i64 0,Value.int .i64 k,Value.int .i64 up,Value.int .i64 nt,Value.string ky,Value.int .i64 n,Value.int .i64 fi] 45)) w1.heap.size 45 #[.int .i64 0,.int .i64 i,.int .i64 0,.int .i64 k,.int .i64 up,.int .i64 nt,.string ky,.int .i64 n,.int .i64 fi]∧Besides rb w (w1.alloc (Obj.cells #[Value.int .i64 0,Value.int .i64 i,Value.int .i64 0,Value.int .i64 k,Value.int .i64 up,Value.int .i64 nt,Value.string ky,Value.int .i64 n,Value.int .i64 fi] 45))∧w.heap.size < w1.heap.size):=by
    obtain ⟨q1,q2,q3,q4⟩:=HX.out
    have hv:Below w1.heap.size w1 (w1.alloc (Obj.cells #[Value.int .i64 0,Value.int .i64 i,Value.int .i64 0,Value.int .i64 k,Value.int .i64 up,Value.int .i64 nt,Value.string ky,Value.int .i64 n,Value.int .i64 fi] 45)):=(Below.refl _ _).alloc (Nat.le_refl _) _
    have hr:=q1.bk.lt
    have q5:blk w1 w.heap.size 45 _:=q4.keep (m1.block _ q4.lt (by show w.heap.size ≠ rb; omega))
    exact ⟨s1.keep hv,q5.keep (hv.block _ q5.lt),heap_new _ _,((Besides.of_below q2).trans m1).trans (Besides.of_below hv),q5.lt⟩
  clear s1 m1 HD
  go_wp2_with fail
  generalize hV:w1.heap.size = vb at *
  generalize (w1.alloc (Obj.cells #[Value.int .i64 0,Value.int .i64 i,Value.int .i64 0,Value.int .i64 k,Value.int .i64 up,Value.int .i64 nt,Value.string ky,Value.int .i64 n,Value.int .i64 fi] 45)) = W1 at *
  generalize hH:w.heap.size = H at *
  have HH:=Lib.hid hH
  refine (next41 HW.out.1).mono ?_
  rintro e w2 ⟨rfl,hb2⟩
  have H2:Hid (SR B rb w2 a c b i (n + 1) ov k us∧blk w2 H 45 #[.int .i64 0,.int .i64 0,.int .i64 0,.int .i64 0,.int .i64 0,.int .i64 0,.string { data:=#[] },.int .i64 0,.int .i64 0]∧blk w2 vb 45 #[.int .i64 0,.int .i64 i,.int .i64 0,.int .i64 k,.int .i64 up,.int .i64 nt,.string ky,.int .i64 n,.int .i64 fi]∧Besides rb w w2∧H < vb):=by
    obtain ⟨q1,q2,q3,q4,q5⟩:=HW.out
    exact ⟨q1.keep hb2,q2.keep (hb2.block _ q2.lt),q3.keep (hb2.block _ q3.lt),q4.trans (Besides.of_below hb2),q5⟩
  clear hb2 HW hH hV
  rw [h1]
  have hB:=Lib.hid h1
  obtain ⟨b0,b1,b2,b3,b4,b5,b6,b7,b8⟩:=H2.out.2.2.1.cells9
  have x0:=H2.out.2.2.1.frozen 0
  obtain ⟨_,g1,g2,g3,u1,u2,u3⟩:=H2.out.1.cells
  have nvr:vb ≠ rb:=by have:=H2.out.2.2.2.2; have:=HX.out.1.bk.lt; have:=HH.out; omega
  have nrv:rb ≠ vb:=fun e=>nvr e.symm
  have hk32:¬ (32:Int) ≤ (k:Int):=by omega
  have hk33:(k:Int) < 32:=by omega
  have hil:(i:Int) ≤ 1048575:=by have:=H2.out.1.lim; omega
  go_wp2_with fail
  have H3:Hid (SR B rb ((w2.setCell ⟨vb,0,none⟩ (.int .i64 3)).setCell ⟨rb,1,none⟩ (.int .i64 ((i:Int) + 1))) a c b (i + 1) (n + 1) ov k us∧blk ((w2.setCell ⟨vb,0,none⟩ (.int .i64 3)).setCell ⟨rb,1,none⟩ (.int .i64 ((i:Int) + 1))) H 45 #[.int .i64 0,.int .i64 0,.int .i64 0,.int .i64 0,.int .i64 0,.int .i64 0,.string { data:=#[] },.int .i64 0,.int .i64 0]∧blk ((w2.setCell ⟨vb,0,none⟩ (.int .i64 3)).setCell ⟨rb,1,none⟩ (.int .i64 ((i:Int) + 1))) vb 45 #[.int .i64 3,.int .i64 i,.int .i64 0,.int .i64 k,.int .i64 up,.int .i64 nt,.string ky,.int .i64 n,.int .i64 fi]∧Besides rb w ((w2.setCell ⟨vb,0,none⟩ (.int .i64 3)).setCell ⟨rb,1,none⟩ (.int .i64 ((i:Int) + 1)))∧H < vb):=by
    obtain ⟨q1,q2,q3,q4,q5⟩:=H2.out
    have hz:w.heap.size ≤ vb:=by have:=HH.out; omega
    have hrH:H ≠ rb:=by have:=HX.out.1.bk.lt; have:=HH.out; omega
    have s1:=HX.out.1.setFar q4 q1 hz 0 (.int .i64 3)
    have m1:=Besides.setOld (o:=0) (u:=.int .i64 3) hz q4
    exact ⟨s1.set (o:=1) (i':=i + 1) (n':=n + 1) hi rfl,(q2.keep (Below.heap_setCell _ _ _ _ (by show H ≠ vb; omega))).keep (Below.heap_setCell _ _ _ _ hrH),(q3.s0 _).keep (Below.heap_setCell _ _ _ _ nvr),m1.set1,q5⟩
  generalize ((w2.setCell ⟨vb,0,none⟩ (.int .i64 3)).setCell ⟨rb,1,none⟩ (.int .i64 ((i:Int) + 1))) = W at *
  clear b0 b1 b2 b3 b4 b5 b6 b7 b8 x0 g1 g2 g3 u1 u2 u3 H2
  obtain ⟨b0,b1,b2,b3,b4,b5,b6,b7,b8⟩:=H3.out.2.2.1.cells9
  obtain ⟨_,g1,g2,g3,u1,u2,u3⟩:=H3.out.1.cells
  have hov:∃ oa oc,ov = .slice oa k oc:=by
    rcases H3.out.1.own.2 with ⟨rfl,e⟩ | ⟨g,cap,cur,q1,_⟩
    · obtain rfl:k = 0:=by omega
      exact ⟨_,_,rfl⟩
    · exact ⟨_,_,q1⟩
  obtain ⟨oa,oc,rfl⟩:=hov
  have hsz:B ≤ W.heap.size:=Nat.le_trans H3.out.1.low (Nat.le_of_lt H3.out.1.bk.lt)
  have hbO:Below W.heap.size W (W.alloc (Obj.cells #[.int .i64 3,.int .i64 i,.int .i64 0,.int .i64 k,.int .i64 up,.int .i64 nt,.string ky,.int .i64 n,.int .i64 fi,.int .i64 0,.string { data:=#[] },.int .i64 0] 98)):=(Below.refl _ _).alloc (Nat.le_refl _) _
  have hown5:(W.alloc (Obj.cells #[.int .i64 3,.int .i64 i,.int .i64 0,.int .i64 k,.int .i64 up,.int .i64 nt,.string ky,.int .i64 n,.int .i64 fi,.int .i64 0,.string { data:=#[] },.int .i64 0] 98)).drew.ownsRow B 98 12 (.slice oa k oc) k us:=own_keep (H3.out.1.keep hbO).own (fun x _ hx=>rfl)
  have HOW:=Lib.hid hown5
  have HNE:Hid ((Value.slice oa k oc).ownBlock ≠ some rb∧(Value.slice oa k oc).ownBlock ≠ some vb):=⟨H3.out.1.ne,fun e=>by
    have:=(own_lt HX.out.1.own e).2
    have:=H3.out.2.2.2.2
    have:=HH.out
    omega⟩
  obtain ⟨i0,hi0,hz0,hz1,hz2⟩:=info_parts info94
  have hBs:B ≤ (W.alloc (Obj.cells #[.int .i64 3,.int .i64 i,.int .i64 0,.int .i64 k,.int .i64 up,.int .i64 nt,.string ky,.int .i64 n,.int .i64 fi,.int .i64 0,.string { data:=#[] },.int .i64 0] 98)).drew.heap.size:=Nat.le_trans hsz hbO.size
  clear hown5
  have g3a:(W.alloc (Obj.cells #[.int .i64 3,.int .i64 i,.int .i64 0,.int .i64 k,.int .i64 up,.int .i64 nt,.string ky,.int .i64 n,.int .i64 fi,.int .i64 0,.string { data:=#[] },.int .i64 0] 98)).cell? ⟨rb,3,none⟩ = some (.slice oa k oc):=cell_alloc_old g3
  refine wp_region_held_drew (S:=fun w'=>w'.cell? ⟨vb,0,none⟩ = some (.int .i64 3)∧w'.cell? ⟨vb,1,none⟩ = some (.int .i64 i)∧w'.cell? ⟨vb,2,none⟩ = some (.int .i64 0)∧w'.cell? ⟨vb,3,none⟩ = some (.int .i64 k)∧w'.cell? ⟨vb,4,none⟩ = some (.int .i64 up)∧w'.cell? ⟨vb,5,none⟩ = some (.int .i64 nt)∧w'.cell? ⟨vb,6,none⟩ = some (.string ky)∧w'.cell? ⟨vb,7,none⟩ = some (.int .i64 n)∧w'.cell? ⟨vb,8,none⟩ = some (.int .i64 fi)) (by kernel_rfl) (⟨b0,b1,b2,b3,b4,b5,b6,b7,b8⟩) (fun hHeld=>?_)
  refine wpAnyH_take (i:=0) (v:=.pointer (some ⟨rb,0,none⟩)) rfl (by kernel_rfl) (by kernel_rfl) (by kernel_rfl) (fun _ _ _ h=>h) (Or.inl ⟨by rfl,fun w hw=>by go_simp⟩) hHeld ?_
  simp only [Act.put,List.getElem_toArray,List.getElem_cons_zero,List.setIfInBounds_toArray,List.set_cons_zero,List.set_cons_succ]
  refine wpAnyH_take (i:=1) (v:=.pointer (some ⟨rb,0,none⟩)) rfl (by kernel_rfl) (by kernel_rfl) (by kernel_rfl) (fun _ _ _ h=>h) (Or.inl ⟨by rfl,fun w hw=>by go_simp⟩) hHeld ?_
  simp only [Act.put,List.getElem_toArray,List.getElem_cons_zero,List.getElem_cons_succ,List.setIfInBounds_toArray,List.set_cons_zero,List.set_cons_succ]
  refine wpAnyH_take (i:=2) (v:=.pointer (some ⟨rb,0,none⟩)) rfl (by kernel_rfl) (by kernel_rfl) (by kernel_rfl) (fun _ _ _ h=>h) (Or.inl ⟨by rfl,fun w hw=>by go_simp⟩) hHeld ?_
  simp only [Act.put,List.getElem_toArray,List.getElem_cons_zero,List.getElem_cons_succ,List.setIfInBounds_toArray,List.set_cons_zero,List.set_cons_succ]
  refine wpAnyH_take (i:=3) (v:=.pointer (some ⟨rb,3,none⟩)) rfl (by kernel_rfl) (by kernel_rfl) (by kernel_rfl) (fun _ _ _ h=>h) (Or.inl ⟨by rfl,fun w hw=>by go_simp⟩) hHeld ?_
  simp only [Act.put,List.getElem_toArray,List.getElem_cons_zero,List.getElem_cons_succ,List.setIfInBounds_toArray,List.set_cons_zero,List.set_cons_succ]
  refine wpAnyH_take (i:=5) (v:=.agg #[.int .i64 3,.int .i64 i,.int .i64 0,.int .i64 k,.int .i64 up,.int .i64 nt,.string ky,.int .i64 n,.int .i64 fi]) rfl (by kernel_rfl) (by kernel_rfl) (by kernel_rfl) (fun _ _ _ h=>h) (Or.inl ⟨by rfl,fun w hw=>by obtain ⟨c0,c1,c2,c3,c4,c5,c6,c7,c8⟩:=hw; go_simp⟩) hHeld ?_
  simp only [Act.put,List.getElem_toArray,List.getElem_cons_zero,List.getElem_cons_succ,List.setIfInBounds_toArray,List.set_cons_zero,List.set_cons_succ]
  refine wpAnyH_take (i:=6) (v:=.agg #[.int .i64 3,.int .i64 i,.int .i64 0,.int .i64 k,.int .i64 up,.int .i64 nt,.string ky,.int .i64 n,.int .i64 fi,.int .i64 0,.string { data:=#[] },.int .i64 0]) rfl (by kernel_rfl) (by kernel_rfl) (by kernel_rfl) (fun _ _ _ h=>h) (yieldsIf_buildS8 (by rfl) 98 _ rfl _ (by rw [Array.toList_map]; exact built94S8 _ _ _ _ _ _ _ _ _)) hHeld ?_
  simp only [Act.put,List.getElem_toArray,List.getElem_cons_zero,List.getElem_cons_succ,List.setIfInBounds_toArray,List.set_cons_zero,List.set_cons_succ]
  refine wpAnyH_ready (rs:=[4,7]) (by kernel_rfl) (by simp) ?_
  refine AllReadyH.cons (o:=_) rfl (fun K hK=>?_) (AllReadyH.cons (o:=_) rfl (fun K hK=>?_) AllReadyH.nil)
  · go_simp
    refine hK.out _ _ hHeld (fun hHeld=>?_)
    clear hK K
    refine wpAnyH_ready (rs:=[7]) (by kernel_rfl) (by simp) ?_
    refine AllReadyH.cons (o:=_) rfl (fun K hK=>?_) AllReadyH.nil
    go_simp
    refine hK.out _ _ (⟨cell_alloc_old b0,cell_alloc_old b1,cell_alloc_old b2,cell_alloc_old b3,cell_alloc_old b4,cell_alloc_old b5,cell_alloc_old b6,cell_alloc_old b7,cell_alloc_old b8⟩) (fun hHeld=>?_)
    clear hK K
    refine wpAnyH_ready (rs:=[8]) (by kernel_rfl) (by simp) ?_
    refine AllReadyH.cons (o:=_) rfl (fun K hK=>?_) AllReadyH.nil
    refine step_append_lies _ (by rfl) (.tmp 52) (.tmp 55) 76 (by rfl) B 98 i0 _ 12 112 Tryz.underlying76 hi0 hz0 hz1 hz2 rfl (by omega) (.slice oa k oc) k us (by simp [Act.eval]) (by exact HOW.out) ⟨W.heap.size,0,none⟩ 1 1 [.int .i64 3,.int .i64 i,.int .i64 0,.int .i64 k,.int .i64 up,.int .i64 nt,.string ky,.int .i64 n,.int .i64 fi,.int .i64 0,.string { data:=#[] },.int .i64 0] (by simp [Act.eval]) rfl (by exact World.news_of_block (B:=W.heap.size) (heap_new W _)) (by intro u hu; simp at hu; rcases hu with rfl | rfl | rfl | rfl | rfl | rfl | rfl | rfl | rfl | rfl | rfl | rfl <;> rfl) (by omega) (by unfold maxLen; omega) (by omega) (by exact hBs) (W.heap.size + 1) (by simp) ?_
    intro g cap w5 hown5 hgrow hat hlt5
    have m3:=grown_cell hgrow (p:=⟨rb,3,none⟩) (cell_alloc_old g3) HNE.out.1.symm
    have mf:=grown_frozen hgrow (p:=⟨rb,3,none⟩) (cell_alloc_old g3) ((frozen_alloc_old g3).trans u3) HNE.out.1.symm
    have v0:=grown_cell hgrow (p:=⟨vb,0,none⟩) (cell_alloc_old b0) HNE.out.2.symm
    have v1:=grown_cell hgrow (p:=⟨vb,1,none⟩) (cell_alloc_old b1) HNE.out.2.symm
    have v2:=grown_cell hgrow (p:=⟨vb,2,none⟩) (cell_alloc_old b2) HNE.out.2.symm
    have v3:=grown_cell hgrow (p:=⟨vb,3,none⟩) (cell_alloc_old b3) HNE.out.2.symm
    have v4:=grown_cell hgrow (p:=⟨vb,4,none⟩) (cell_alloc_old b4) HNE.out.2.symm
    have v5:=grown_cell hgrow (p:=⟨vb,5,none⟩) (cell_alloc_old b5) HNE.out.2.symm
    have v6:=grown_cell hgrow (p:=⟨vb,6,none⟩) (cell_alloc_old b6) HNE.out.2.symm
    have v7:=grown_cell hgrow (p:=⟨vb,7,none⟩) (cell_alloc_old b7) HNE.out.2.symm
    have v8:=grown_cell hgrow (p:=⟨vb,8,none⟩) (cell_alloc_old b8) HNE.out.2.symm
    refine hK.out _ _ ⟨v0,v1,v2,v3,v4,v5,v6,v7,v8⟩ (fun hHeld=>?_)
    clear hK K
    refine wpAnyH_take (i:=9) (v:=.pointer (some ⟨rb,0,none⟩)) rfl (by kernel_rfl) (by kernel_rfl) (by kernel_rfl) (fun _ _ _ h=>h) (Or.inl ⟨by rfl,fun w hw=>by go_simp⟩) hHeld ?_
    simp only [Act.put,List.getElem_toArray,List.getElem_cons_zero,List.getElem_cons_succ,List.setIfInBounds_toArray,List.set_cons_zero,List.set_cons_succ]
    refine wpAnyH_take (i:=10) (v:=.pointer (some ⟨rb,3,none⟩)) rfl (by kernel_rfl) (by kernel_rfl) (by kernel_rfl) (fun _ _ _ h=>h) (Or.inl ⟨by rfl,fun w hw=>by go_simp⟩) hHeld ?_
    simp only [Act.put,List.getElem_toArray,List.getElem_cons_zero,List.getElem_cons_succ,List.setIfInBounds_toArray,List.set_cons_zero,List.set_cons_succ]
    refine wpAnyH_ready (rs:=[11]) (by kernel_rfl) (by simp) ?_
    refine AllReadyH.cons (o:=_) rfl (fun K hK=>?_) AllReadyH.nil
    go_simp
    refine hK.out _ _ ⟨(World.cell?_of_block (w:=w5) (Below.heap_setCell _ _ _ _ nvr)).trans v0,(World.cell?_of_block (w:=w5) (Below.heap_setCell _ _ _ _ nvr)).trans v1,(World.cell?_of_block (w:=w5) (Below.heap_setCell _ _ _ _ nvr)).trans v2,(World.cell?_of_block (w:=w5) (Below.heap_setCell _ _ _ _ nvr)).trans v3,(World.cell?_of_block (w:=w5) (Below.heap_setCell _ _ _ _ nvr)).trans v4,(World.cell?_of_block (w:=w5) (Below.heap_setCell _ _ _ _ nvr)).trans v5,(World.cell?_of_block (w:=w5) (Below.heap_setCell _ _ _ _ nvr)).trans v6,(World.cell?_of_block (w:=w5) (Below.heap_setCell _ _ _ _ nvr)).trans v7,(World.cell?_of_block (w:=w5) (Below.heap_setCell _ _ _ _ nvr)).trans v8⟩ (fun hHeld=>?_)
    clear hK K hHeld
    refine wpAnyH_done (by kernel_rfl) ?_ _
    have HF:Hid (blk (w5.setCell ⟨rb,3,none⟩ (.slice (some ⟨g,0,none⟩) (k + 1) cap)) H 45 #[.int .i64 0,.int .i64 0,.int .i64 0,.int .i64 0,.int .i64 0,.int .i64 0,.string { data:=#[] },.int .i64 0,.int .i64 0]∧blk (w5.setCell ⟨rb,3,none⟩ (.slice (some ⟨g,0,none⟩) (k + 1) cap)) vb 45 #[.int .i64 3,.int .i64 i,.int .i64 0,.int .i64 k,.int .i64 up,.int .i64 nt,.string ky,.int .i64 n,.int .i64 fi]∧blk (w5.setCell ⟨rb,3,none⟩ (.slice (some ⟨g,0,none⟩) (k + 1) cap)) rb 78 #[.slice a b.length c,.int .i64 ((i + 1:Nat):Int),.int .i64 ((n + 1:Nat):Int),.slice (some ⟨g,0,none⟩) (k + 1) cap]∧Near rb (.slice oa k oc) w (w5.setCell ⟨rb,3,none⟩ (.slice (some ⟨g,0,none⟩) (k + 1) cap))∧(w5.setCell ⟨rb,3,none⟩ (.slice (some ⟨g,0,none⟩) (k + 1) cap)).ownsRow B 98 12 (.slice (some ⟨g,0,none⟩) (k + 1) cap) (k + 1) (us ++ [.int .i64 3,.int .i64 i,.int .i64 0,.int .i64 k,.int .i64 up,.int .i64 nt,.string ky,.int .i64 n,.int .i64 fi,.int .i64 0,.string { data:=#[] },.int .i64 0])∧g ≠ rb∧g ≠ H∧rb ≠ H):=by
      obtain ⟨q1,q2,q3,q4,q5⟩:=H3.out
      have hrH:rb < H:=by have:=HX.out.1.bk.lt; have:=HH.out; omega
      have hgb:∀ x,x < W.heap.size → some x ≠ (Value.slice oa k oc).ownBlock → w5.heap[x]? = W.heap[x]?:=fun x hx hn=>(hgrow.block x (Nat.lt_of_lt_of_le hx hbO.size) hn).trans (hbO.block x hx)
      have hHo:some H ≠ (Value.slice oa k oc).ownBlock:=fun e=>by have:=(own_lt HX.out.1.own e.symm).2; have:=HH.out; omega
      have hgrb:g ≠ rb:=by
        rcases hat with e | e
        · exact fun e'=>HNE.out.1 (by rw [e,e'])
        · have:=q1.bk.lt; omega
      have hgH:g ≠ H:=by
        rcases hat with e | e
        · exact fun e'=>hHo (by rw [e,e'])
        · have:=q2.lt; omega
      have r1:blk w5 rb 78 _:=q1.bk.keep (hgb _ q1.bk.lt HNE.out.1.symm)
      have r2:blk w5 H 45 _:=q2.keep (hgb _ q2.lt hHo)
      have r3:blk w5 vb 45 _:=q3.keep (hgb _ q3.lt HNE.out.2.symm)
      have hN5:Near rb (.slice oa k oc) w w5:=⟨hgrow.os.trans q4.os,hgrow.tape.trans q4.tape,hgrow.output.trans q4.output,Nat.le_trans q4.size (Nat.le_trans hbO.size hgrow.size),fun x hx hn ho=>(hgb x (Nat.lt_of_lt_of_le hx q4.size) (fun e=>ho e.symm)).trans (q4.block x hx hn)⟩
      exact ⟨r2.keep (Below.heap_setCell _ _ _ _ (by show H ≠ rb; omega)),r3.keep (Below.heap_setCell _ _ _ _ nvr),r1.set 3 _,hN5.trans (Near.of ((Besides.refl rb w5).set1)),own_far hown5 (fun e=>hgrb (Option.some.inj e)),hgrb,hgH,by omega⟩
    generalize (w5.setCell ⟨rb,3,none⟩ (.slice (some ⟨g,0,none⟩) (k + 1) cap)) = Y at *
    clear b0 b1 b2 b3 b4 b5 b6 b7 b8 m3 mf v0 v1 v2 v3 v4 v5 v6 v7 v8 g1 g2 g3 u1 u2 u3 g3a hgrow hown5
    obtain ⟨b0,b1,b2,b3,b4,b5,b6,b7,b8⟩:=HF.out.2.1.cells9
    obtain ⟨z0,z1,z2,z3,z4,z5,z6,z7,z8⟩:=HF.out.1.cells9
    obtain ⟨x0,x1,x2,x3,x4,x5,x6,x7,x8⟩:=HF.out.1.frozen9
    go_wp2
    obtain ⟨y1,y2,y3,y4⟩:=box9c HF.out.2.2.2.1 (Nat.le_of_eq HH.out) HF.out.2.2.2.2.1 (fun e=>HF.out.2.2.2.2.2.2.1 (Option.some.inj e)) HF.out.1 (.int .i64 3) (.int .i64 i) (.int .i64 0) (.int .i64 k) (.int .i64 up) (.int .i64 nt) (.string ky) (.int .i64 n) (.int .i64 fi)
    generalize hX:set9 Y H (.int .i64 3) (.int .i64 i) (.int .i64 0) (.int .i64 k) (.int .i64 up) (.int .i64 nt) (.string ky) (.int .i64 n) (.int .i64 fi) = X at *
    unfold set9 at hX
    rw [hX]
    refine bodyPost_ret (v:=.tuple #[.agg (sv9 3 i 0 k up nt ky n fi),.int .i64 0]) (results_cell47t Tryz.results47 _ _ H _ rfl y2 rfl) rfl ?_
    exact ⟨_,rfl,HX.out.1.remakeN y1 (y4 rb _ _ HF.out.2.2.2.2.2.2.2 HF.out.2.2.1) y3 (fun e=>HF.out.2.2.2.2.2.1 (Option.some.inj e)) hi,y1⟩
  · go_simp
    refine hK.out _ _ (⟨cell_alloc_old b0,cell_alloc_old b1,cell_alloc_old b2,cell_alloc_old b3,cell_alloc_old b4,cell_alloc_old b5,cell_alloc_old b6,cell_alloc_old b7,cell_alloc_old b8⟩) (fun hHeld=>?_)
    clear hK K
    refine wpAnyH_ready (rs:=[4]) (by kernel_rfl) (by simp) ?_
    refine AllReadyH.cons (o:=_) rfl (fun K hK=>?_) AllReadyH.nil
    go_simp
    refine hK.out _ _ (hHeld) (fun hHeld=>?_)
    clear hK K
    refine wpAnyH_ready (rs:=[8]) (by kernel_rfl) (by simp) ?_
    refine AllReadyH.cons (o:=_) rfl (fun K hK=>?_) AllReadyH.nil
    refine step_append_lies _ (by rfl) (.tmp 52) (.tmp 55) 76 (by rfl) B 98 i0 _ 12 112 Tryz.underlying76 hi0 hz0 hz1 hz2 rfl (by omega) (.slice oa k oc) k us (by simp [Act.eval]) (by exact HOW.out) ⟨W.heap.size,0,none⟩ 1 1 [.int .i64 3,.int .i64 i,.int .i64 0,.int .i64 k,.int .i64 up,.int .i64 nt,.string ky,.int .i64 n,.int .i64 fi,.int .i64 0,.string { data:=#[] },.int .i64 0] (by simp [Act.eval]) rfl (by exact World.news_of_block (B:=W.heap.size) (heap_new W _)) (by intro u hu; simp at hu; rcases hu with rfl | rfl | rfl | rfl | rfl | rfl | rfl | rfl | rfl | rfl | rfl | rfl <;> rfl) (by omega) (by unfold maxLen; omega) (by omega) (by exact hBs) (W.heap.size + 1) (by simp) ?_
    intro g cap w5 hown5 hgrow hat hlt5
    have m3:=grown_cell hgrow (p:=⟨rb,3,none⟩) (cell_alloc_old g3) HNE.out.1.symm
    have mf:=grown_frozen hgrow (p:=⟨rb,3,none⟩) (cell_alloc_old g3) ((frozen_alloc_old g3).trans u3) HNE.out.1.symm
    have v0:=grown_cell hgrow (p:=⟨vb,0,none⟩) (cell_alloc_old b0) HNE.out.2.symm
    have v1:=grown_cell hgrow (p:=⟨vb,1,none⟩) (cell_alloc_old b1) HNE.out.2.symm
    have v2:=grown_cell hgrow (p:=⟨vb,2,none⟩) (cell_alloc_old b2) HNE.out.2.symm
    have v3:=grown_cell hgrow (p:=⟨vb,3,none⟩) (cell_alloc_old b3) HNE.out.2.symm
    have v4:=grown_cell hgrow (p:=⟨vb,4,none⟩) (cell_alloc_old b4) HNE.out.2.symm
    have v5:=grown_cell hgrow (p:=⟨vb,5,none⟩) (cell_alloc_old b5) HNE.out.2.symm
    have v6:=grown_cell hgrow (p:=⟨vb,6,none⟩) (cell_alloc_old b6) HNE.out.2.symm
    have v7:=grown_cell hgrow (p:=⟨vb,7,none⟩) (cell_alloc_old b7) HNE.out.2.symm
    have v8:=grown_cell hgrow (p:=⟨vb,8,none⟩) (cell_alloc_old b8) HNE.out.2.symm
    refine hK.out _ _ ⟨v0,v1,v2,v3,v4,v5,v6,v7,v8⟩ (fun hHeld=>?_)
    clear hK K
    refine wpAnyH_take (i:=9) (v:=.pointer (some ⟨rb,0,none⟩)) rfl (by kernel_rfl) (by kernel_rfl) (by kernel_rfl) (fun _ _ _ h=>h) (Or.inl ⟨by rfl,fun w hw=>by go_simp⟩) hHeld ?_
    simp only [Act.put,List.getElem_toArray,List.getElem_cons_zero,List.getElem_cons_succ,List.setIfInBounds_toArray,List.set_cons_zero,List.set_cons_succ]
    refine wpAnyH_take (i:=10) (v:=.pointer (some ⟨rb,3,none⟩)) rfl (by kernel_rfl) (by kernel_rfl) (by kernel_rfl) (fun _ _ _ h=>h) (Or.inl ⟨by rfl,fun w hw=>by go_simp⟩) hHeld ?_
    simp only [Act.put,List.getElem_toArray,List.getElem_cons_zero,List.getElem_cons_succ,List.setIfInBounds_toArray,List.set_cons_zero,List.set_cons_succ]
    refine wpAnyH_ready (rs:=[11]) (by kernel_rfl) (by simp) ?_
    refine AllReadyH.cons (o:=_) rfl (fun K hK=>?_) AllReadyH.nil
    go_simp
    refine hK.out _ _ ⟨(World.cell?_of_block (w:=w5) (Below.heap_setCell _ _ _ _ nvr)).trans v0,(World.cell?_of_block (w:=w5) (Below.heap_setCell _ _ _ _ nvr)).trans v1,(World.cell?_of_block (w:=w5) (Below.heap_setCell _ _ _ _ nvr)).trans v2,(World.cell?_of_block (w:=w5) (Below.heap_setCell _ _ _ _ nvr)).trans v3,(World.cell?_of_block (w:=w5) (Below.heap_setCell _ _ _ _ nvr)).trans v4,(World.cell?_of_block (w:=w5) (Below.heap_setCell _ _ _ _ nvr)).trans v5,(World.cell?_of_block (w:=w5) (Below.heap_setCell _ _ _ _ nvr)).trans v6,(World.cell?_of_block (w:=w5) (Below.heap_setCell _ _ _ _ nvr)).trans v7,(World.cell?_of_block (w:=w5) (Below.heap_setCell _ _ _ _ nvr)).trans v8⟩ (fun hHeld=>?_)
    clear hK K hHeld
    refine wpAnyH_done (by kernel_rfl) ?_ _
    have HF:Hid (blk (w5.setCell ⟨rb,3,none⟩ (.slice (some ⟨g,0,none⟩) (k + 1) cap)) H 45 #[.int .i64 0,.int .i64 0,.int .i64 0,.int .i64 0,.int .i64 0,.int .i64 0,.string { data:=#[] },.int .i64 0,.int .i64 0]∧blk (w5.setCell ⟨rb,3,none⟩ (.slice (some ⟨g,0,none⟩) (k + 1) cap)) vb 45 #[.int .i64 3,.int .i64 i,.int .i64 0,.int .i64 k,.int .i64 up,.int .i64 nt,.string ky,.int .i64 n,.int .i64 fi]∧blk (w5.setCell ⟨rb,3,none⟩ (.slice (some ⟨g,0,none⟩) (k + 1) cap)) rb 78 #[.slice a b.length c,.int .i64 ((i + 1:Nat):Int),.int .i64 ((n + 1:Nat):Int),.slice (some ⟨g,0,none⟩) (k + 1) cap]∧Near rb (.slice oa k oc) w (w5.setCell ⟨rb,3,none⟩ (.slice (some ⟨g,0,none⟩) (k + 1) cap))∧(w5.setCell ⟨rb,3,none⟩ (.slice (some ⟨g,0,none⟩) (k + 1) cap)).ownsRow B 98 12 (.slice (some ⟨g,0,none⟩) (k + 1) cap) (k + 1) (us ++ [.int .i64 3,.int .i64 i,.int .i64 0,.int .i64 k,.int .i64 up,.int .i64 nt,.string ky,.int .i64 n,.int .i64 fi,.int .i64 0,.string { data:=#[] },.int .i64 0])∧g ≠ rb∧g ≠ H∧rb ≠ H):=by
      obtain ⟨q1,q2,q3,q4,q5⟩:=H3.out
      have hrH:rb < H:=by have:=HX.out.1.bk.lt; have:=HH.out; omega
      have hgb:∀ x,x < W.heap.size → some x ≠ (Value.slice oa k oc).ownBlock → w5.heap[x]? = W.heap[x]?:=fun x hx hn=>(hgrow.block x (Nat.lt_of_lt_of_le hx hbO.size) hn).trans (hbO.block x hx)
      have hHo:some H ≠ (Value.slice oa k oc).ownBlock:=fun e=>by have:=(own_lt HX.out.1.own e.symm).2; have:=HH.out; omega
      have hgrb:g ≠ rb:=by
        rcases hat with e | e
        · exact fun e'=>HNE.out.1 (by rw [e,e'])
        · have:=q1.bk.lt; omega
      have hgH:g ≠ H:=by
        rcases hat with e | e
        · exact fun e'=>hHo (by rw [e,e'])
        · have:=q2.lt; omega
      have r1:blk w5 rb 78 _:=q1.bk.keep (hgb _ q1.bk.lt HNE.out.1.symm)
      have r2:blk w5 H 45 _:=q2.keep (hgb _ q2.lt hHo)
      have r3:blk w5 vb 45 _:=q3.keep (hgb _ q3.lt HNE.out.2.symm)
      have hN5:Near rb (.slice oa k oc) w w5:=⟨hgrow.os.trans q4.os,hgrow.tape.trans q4.tape,hgrow.output.trans q4.output,Nat.le_trans q4.size (Nat.le_trans hbO.size hgrow.size),fun x hx hn ho=>(hgb x (Nat.lt_of_lt_of_le hx q4.size) (fun e=>ho e.symm)).trans (q4.block x hx hn)⟩
      exact ⟨r2.keep (Below.heap_setCell _ _ _ _ (by show H ≠ rb; omega)),r3.keep (Below.heap_setCell _ _ _ _ nvr),r1.set 3 _,hN5.trans (Near.of ((Besides.refl rb w5).set1)),own_far hown5 (fun e=>hgrb (Option.some.inj e)),hgrb,hgH,by omega⟩
    generalize (w5.setCell ⟨rb,3,none⟩ (.slice (some ⟨g,0,none⟩) (k + 1) cap)) = Y at *
    clear b0 b1 b2 b3 b4 b5 b6 b7 b8 m3 mf v0 v1 v2 v3 v4 v5 v6 v7 v8 g1 g2 g3 u1 u2 u3 g3a hgrow hown5
    obtain ⟨b0,b1,b2,b3,b4,b5,b6,b7,b8⟩:=HF.out.2.1.cells9
    obtain ⟨z0,z1,z2,z3,z4,z5,z6,z7,z8⟩:=HF.out.1.cells9
    obtain ⟨x0,x1,x2,x3,x4,x5,x6,x7,x8⟩:=HF.out.1.frozen9
    go_wp2
    obtain ⟨y1,y2,y3,y4⟩:=box9c HF.out.2.2.2.1 (Nat.le_of_eq HH.out) HF.out.2.2.2.2.1 (fun e=>HF.out.2.2.2.2.2.2.1 (Option.some.inj e)) HF.out.1 (.int .i64 3) (.int .i64 i) (.int .i64 0) (.int .i64 k) (.int .i64 up) (.int .i64 nt) (.string ky) (.int .i64 n) (.int .i64 fi)
    generalize hX:set9 Y H (.int .i64 3) (.int .i64 i) (.int .i64 0) (.int .i64 k) (.int .i64 up) (.int .i64 nt) (.string ky) (.int .i64 n) (.int .i64 fi) = X at *
    unfold set9 at hX
    rw [hX]
    refine bodyPost_ret (v:=.tuple #[.agg (sv9 3 i 0 k up nt ky n fi),.int .i64 0]) (results_cell47t Tryz.results47 _ _ H _ rfl y2 rfl) rfl ?_
    exact ⟨_,rfl,HX.out.1.remakeN y1 (y4 rb _ _ HF.out.2.2.2.2.2.2.2 HF.out.2.2.1) y3 (fun e=>HF.out.2.2.2.2.2.1 (Option.some.inj e)) hi,y1⟩
structure Vi where
  kd:Int
  fr:Int
  to:Int
  dp:Int
  up:Int
  nt:Int
  ky:ByteArray
  pl:Int
  fi:Int
abbrev Vi.cs (v:Vi):Array Value:=sv9 v.kd v.fr v.to v.dp v.up v.nt v.ky v.pl v.fi
structure Lv where
  kd:Int
  fr:Int
  dp:Int
  up:Int
  nt:Int
  ky:ByteArray
  pl:Int
  fi:Int
  pa:Int
  kk:ByteArray
  be:Int
def Lv.W (l:Lv):List Value:=[.int .i64 l.kd,.int .i64 l.fr,.int .i64 0,.int .i64 l.dp,.int .i64 l.up,.int .i64 l.nt,.string l.ky,.int .i64 l.pl,.int .i64 l.fi,.int .i64 l.pa,.string l.kk,.int .i64 l.be]
def usW:List Lv → List Value
  | []=>[]
  | l :: r=>usW r ++ l.W
theorem usW_len:∀ ls,(usW ls).length = ls.length * 12
  | []=>rfl
  | l :: r=>by show (usW r ++ l.W).length = _; rw [List.length_append,usW_len r,List.length_cons]; show _ + 12 = _; omega
theorem usW_at (l:Lv) (r:List Lv) (j:Nat):(usW (l :: r))[r.length * 12 + j]? = l.W[j]?:=by
  show (usW r ++ l.W)[r.length * 12 + j]? = _
  rw [List.getElem?_append_right (by rw [usW_len]; omega),usW_len]
  congr 1
  omega
theorem usW_at0 (l:Lv) (r:List Lv):(usW (l :: r))[r.length * 12]? = l.W[0]?:=usW_at l r 0
theorem usW_set (l:Lv) (r:List Lv) (j:Nat) (u:Value):(usW (l :: r)).set (r.length * 12 + j) u = usW r ++ l.W.set j u:=by
  show (usW r ++ l.W).set (r.length * 12 + j) u = _
  rw [List.set_append_right _ _ (by rw [usW_len]; omega),usW_len]
  congr 2
  omega
theorem usW_take (l:Lv) (r:List Lv):(usW (l :: r)).take (r.length * 12) = usW r:=by
  show (usW r ++ l.W).take (r.length * 12) = _
  rw [← usW_len,List.take_left]
def dueV (ls:List Lv) (i n:Nat):Vi:=
  match ls with
  | []=>⟨0,i,0,0, -1,0,ByteArray.empty,n,0⟩
  | l :: r=>⟨0,i,0,(r.length + 1:Nat),l.pl,l.pa - 1,l.kk,n,l.be⟩
def newL (v:Vi):Lv:=⟨v.kd,v.fr,v.dp,v.up,v.nt,v.ky,v.pl,v.fi,0,ByteArray.empty,0⟩
def VG (b:List UInt8) (ls:List Lv) (i n:Nat) (v:Vi) (ls':List Lv) (i':Nat):Prop:=
  (∃ t j,byt b i ≠ 108∧byt b i ≠ 100∧leafO b i = .val t j∧v = { dueV ls i n with kd:=t.k,to:=(i:Int) + (j:Int) }∧ls' = ls∧i' = i + j) ∨
  (i < b.length∧ls.length < 32∧((byt b i = 108∧v = { dueV ls i n with kd:=3 }) ∨ (byt b i = 100∧v = { dueV ls i n with kd:=4 }))∧ls' = newL v :: ls∧i' = i + 1)
def VBd (b:List UInt8) (ls:List Lv) (i:Nat) (er:Int) (i':Nat):Prop:=
  (byt b i ≠ 108∧byt b i ≠ 100∧∃ j,leafO b i = .bad j er∧i' = i + j) ∨ (i < b.length∧32 ≤ ls.length∧(byt b i = 108 ∨ byt b i = 100)∧er = 24∧i' = i)
def PGd (b:List UInt8) (l:Lv) (i:Nat) (l':Lv) (i':Nat):Prop:=
  (l.kd = 3∧l' = { l with be:=i,pa:=l.pa + 1 }∧i' = i) ∨
  (l.kd = 4∧¬ (byt b i = 105 ∨ byt b i = 108 ∨ byt b i = 100)∧∃ t j,leafO b i = .val t j∧¬ (1 ≤ l.pa∧leB t.s l.kk = true)∧l' = { l with be:=i,pa:=l.pa + 1,kk:=t.s }∧i' = i + j)
def PBd (b:List UInt8) (l:Lv) (i:Nat) (er:Int) (i':Nat):Prop:=
  l.kd = 4∧(((byt b i = 105 ∨ byt b i = 108 ∨ byt b i = 100)∧er = 22∧i' = i) ∨
  (¬ (byt b i = 105 ∨ byt b i = 108 ∨ byt b i = 100)∧((∃ j,leafO b i = .bad j er∧er ≠ 0∧i' = i + j) ∨ ∃ t j,leafO b i = .val t j∧1 ≤ l.pa∧leB t.s l.kk = true∧er = 25∧i' = i)))
def endV (l:Lv) (i:Nat):Vi:=⟨l.kd,l.fr,(i:Int) + 1,l.dp,l.up,l.nt,l.ky,l.pl,l.fi⟩
inductive RS where
  | val (ls:List Lv) (i n:Nat)
  | mid (ls:List Lv) (i n:Nat)
inductive Rch (b:List UInt8) (go:List Vi → Bool):List Vi → RS → Prop where
  | start:Rch b go [] (.val [] 0 0)
  | value {h ls i n v ls' i'}:Rch b go h (.val ls i n) → VG b ls i n v ls' i' → go (h ++ [v]) = true → Rch b go (h ++ [v]) (.mid ls' i' (n + 1))
  | part {h l r i n l' i'}:Rch b go h (.mid (l :: r) i n) → byt b i ≠ 101 → PGd b l i l' i' → Rch b go h (.val (l' :: r) i' n)
  | close {h l r i n}:Rch b go h (.mid (l :: r) i n) → i < b.length → byt b i = 101 → go (h ++ [endV l i]) = true → Rch b go (h ++ [endV l i]) (.mid r (i + 1) n)
inductive Fin (b:List UInt8) (go:List Vi → Bool):List Vi → Int → Int → Prop where
  | vstop {h ls i n v ls' i'}:Rch b go h (.val ls i n) → VG b ls i n v ls' i' → go (h ++ [v]) = false → Fin b go (h ++ [v]) 0 0
  | estop {h l r i n}:Rch b go h (.mid (l :: r) i n) → i < b.length → byt b i = 101 → go (h ++ [endV l i]) = false → Fin b go (h ++ [endV l i]) 0 0
  | vbad {h ls i n er i'}:Rch b go h (.val ls i n) → er ≠ 0 → VBd b ls i er i' → Fin b go h (i':Nat) er
  | pbad {h l r i n er i'}:Rch b go h (.mid (l :: r) i n) → byt b i ≠ 101 → PBd b l i er i' → Fin b go h (i':Nat) er
  | trail {h i n}:Rch b go h (.mid [] i n) → i < b.length → Fin b go h (i:Nat) 26
  | done {h i n}:Rch b go h (.mid [] i n) → b.length ≤ i → Fin b go h 0 0
theorem leaf_pos {b:List UInt8} {i k:Nat} {t:T} (hi:i ≤ b.length) (hlim:b.length ≤ 1048576) (h1:byt b i ≠ 108) (h2:byt b i ≠ 100) (h:leafO b i = .val t k):1 ≤ k:=by
  obtain ⟨_,h3,h4⟩:=leaf_val hi hlim h1 h2 h
  rw [← h3]
  rcases h4 with e | e
  · rw [e]; show 1 ≤ (_ :: _:List UInt8).length; simp
  · rw [e]
    show 1 ≤ (wtx t.s).length
    unfold wtx
    rw [List.length_append,List.length_cons]
    omega
def okL (i:Nat) (ls:List Lv):Prop:=ls.length ≤ 32∧∀ l ∈ ls,(l.kd = 3 ∨ l.kd = 4)∧0 ≤ l.pa∧l.pa ≤ i
theorem okL.mono {i j:Nat} {ls:List Lv} (h:okL i ls) (hij:i ≤ j):okL j ls:=⟨h.1,fun l hl=>by have:=h.2 l hl; omega⟩
def okS (b:List UInt8):RS → Prop
  | .val ls i n=>i ≤ b.length∧n ≤ i∧okL (i + 1) ls∧(∀ l r,ls = l :: r → 1 ≤ l.pa∧okL i r)
  | .mid ls i n=>i ≤ b.length∧n ≤ i∧okL i ls
theorem Rch.ok {b:List UInt8} (hlim:b.length ≤ 1048576) {go:List Vi → Bool} {h:List Vi} {s:RS} (H:Rch b go h s):okS b s:=by
  induction H with
  | start=>exact ⟨by omega,by omega,⟨by simp,fun l hl=>by cases hl⟩,fun l r e=>by cases e⟩
  | @value h ls i n v ls' i' _ hv _ ih =>
    obtain ⟨a1,a2,a3,a4⟩:=ih
    rcases hv with ⟨t,j,c1,c2,c3,_,rfl,rfl⟩ | ⟨c1,c2,c3,rfl,rfl⟩
    · have hp:=leaf_pos a1 hlim c1 c2 c3
      have hl:=(leaf_val a1 hlim c1 c2 c3).1
      exact ⟨hl,by omega,a3.mono (by omega)⟩
    · refine ⟨by omega,by omega,by rw [List.length_cons]; omega,fun l hl=>?_⟩
      rcases List.mem_cons.1 hl with rfl | hl
      · refine ⟨?_,by show (0:Int) ≤ 0; omega,by show (0:Int) ≤ _; omega⟩
        rcases c3 with ⟨_,rfl⟩ | ⟨_,rfl⟩
        · exact .inl rfl
        · exact .inr rfl
      · have:=a3.2 l hl; omega
  | @part h l r i n l' i' _ _ hp ih =>
    obtain ⟨a1,a2,a3⟩:=ih
    have hl:=a3.2 l (by simp)
    have hlen:r.length + 1 ≤ 32:=a3.1
    rcases hp with ⟨c1,rfl,rfl⟩ | ⟨c1,c2,t,j,c3,_,rfl,rfl⟩
    · refine ⟨a1,a2,⟨hlen,fun x hx=>?_⟩,fun x y e=>?_⟩
      · rcases List.mem_cons.1 hx with rfl | hx
        · exact ⟨hl.1,by show 0 ≤ l.pa + 1; omega,by show l.pa + 1 ≤ _; omega⟩
        · have:=a3.2 x (by simp [hx]); omega
      · injection e with e1 e2; subst e1 e2
        exact ⟨by show 1 ≤ l.pa + 1; omega,by omega,fun x hx=>a3.2 x (by simp [hx])⟩
    · have d1:byt b i ≠ 108:=fun e=>c2 (.inr (.inl e))
      have d2:byt b i ≠ 100:=fun e=>c2 (.inr (.inr e))
      have hl2:=(leaf_val a1 hlim d1 d2 c3).1
      refine ⟨hl2,by omega,⟨hlen,fun x hx=>?_⟩,fun x y e=>?_⟩
      · rcases List.mem_cons.1 hx with rfl | hx
        · exact ⟨hl.1,by show 0 ≤ l.pa + 1; omega,by show l.pa + 1 ≤ _; omega⟩
        · have:=a3.2 x (by simp [hx]); omega
      · injection e with e1 e2; subst e1 e2
        exact ⟨by show 1 ≤ l.pa + 1; omega,by omega,fun x hx=>by have:=a3.2 x (by simp [hx]); omega⟩
  | @close h l r i n _ hi _ _ ih =>
    obtain ⟨a1,a2,a3⟩:=ih
    have:r.length + 1 ≤ 32:=a3.1
    exact ⟨by omega,by omega,by omega,fun x hx=>by have:=a3.2 x (by simp [hx]); omega⟩
theorem due_of {i n:Nat} {ls:List Lv} (h:okL (i + 1) ls) (h1:∀ l r,ls = l :: r → 1 ≤ l.pa∧okL i r) (hi:i ≤ 1048576) :
    DUE ls.length (usW ls) (dueV ls i n).up (dueV ls i n).nt (dueV ls i n).ky (dueV ls i n).fi:=by
  match ls,h,h1 with
  | [],_,_=>exact .inl ⟨rfl,rfl,rfl,rfl,rfl⟩
  | l :: r,h,h1 =>
    have a:=h.2 l (by simp)
    have b:=(h1 l r rfl).1
    have c:r.length + 1 ≤ 32:=h.1
    exact .inr ⟨r.length,rfl,by rw [List.length_cons]; omega,usW_at l r 7,by rw [usW_at l r 9]; show some (Value.int .i64 l.pa) = some (.int .i64 (l.pa - 1 + 1)); rw [show l.pa - 1 + 1 = l.pa by omega],usW_at l r 10,usW_at l r 11,by show 0 ≤ l.pa - 1; omega,by show l.pa - 1 ≤ _; omega⟩
theorem due_dp (ls:List Lv) (i n:Nat):(dueV ls i n).dp = (ls.length:Nat):=by cases ls <;> rfl
theorem due_fr' (ls:List Lv) (i n:Nat):(dueV ls i n).fr = (i:Int)∧(dueV ls i n).to = 0∧(dueV ls i n).pl = (n:Int)∧(dueV ls i n).kd = 0:=by cases ls <;> exact ⟨rfl,rfl,rfl,rfl⟩
theorem value40 {B rb:Nat} {w:World} {a:Option Addr} {c:Nat} {b:List UInt8} {i n:Nat} {ov:Value} {ls:List Lv} (h:SR B rb w a c b i n ov ls.length (usW ls)) (hok:okS b (.val ls i n)) :
    Calls Tryz.prog 47 #[.pointer (some ⟨rb,0,none⟩)] w fun e w'=>∃ v er ov' ls' i',e = .returned (.tuple #[.agg (Vi.cs v),.int .i64 er])∧SR B rb w' a c b i' (n + 1) ov' ls'.length (usW ls')∧Near rb ov w w'∧((er = 0∧VG b ls i n v ls' i') ∨ (er ≠ 0∧VBd b ls i er i')):=by
  obtain ⟨a1,a2,a3,a4⟩:=hok
  have hl:=h.lim
  have D:=due_of (n:=n) a3 a4 (by omega)
  obtain ⟨f1,f2,f3,f4⟩:=due_fr' ls i n
  have f5:=due_dp ls i n
  by_cases c1:byt b i = 108
  · have hi:i < b.length:=by
      rcases Nat.lt_or_ge i b.length with g | g
      · exact g
      · rw [byt_end g] at c1; cases c1
    by_cases c3:ls.length < 32
    · refine (value40L h (by omega) D hi c1 c3).mono ?_
      rintro e w' ⟨ov',rfl,h1,h2⟩
      refine ⟨{ dueV ls i n with kd:=3 },0,ov',newL { dueV ls i n with kd:=3 } :: ls,i + 1,?_,?_,h2,.inl ⟨rfl,.inr ⟨hi,c3,.inl ⟨c1,rfl⟩,rfl,rfl⟩⟩⟩
      · simp only [Vi.cs,f1,f2,f3,f5]
      · have e:usW (newL { dueV ls i n with kd:=3 } :: ls) = usW ls ++ [.int .i64 3,.int .i64 i,.int .i64 0,.int .i64 ls.length,.int .i64 (dueV ls i n).up,.int .i64 (dueV ls i n).nt,.string (dueV ls i n).ky,.int .i64 n,.int .i64 (dueV ls i n).fi,.int .i64 0,.string ByteArray.empty,.int .i64 0]:=by
          show usW ls ++ Lv.W _ = _
          simp only [Lv.W,newL,f1,f3,f5]
        rw [e]
        exact h1
    · refine (value40xL h (by omega) D hi c1 (by omega)).mono ?_
      rintro e w' ⟨rfl,h1,h2⟩
      refine ⟨{ dueV ls i n with kd:=3 },24,ov,ls,i,?_,h1,Near.of h2,.inr ⟨by decide,.inr ⟨hi,by omega,.inl c1,rfl,rfl⟩⟩⟩
      simp only [Vi.cs,f1,f2,f3,f5]
  · by_cases c2:byt b i = 100
    · have hi:i < b.length:=by
        rcases Nat.lt_or_ge i b.length with g | g
        · exact g
        · rw [byt_end g] at c2; cases c2
      by_cases c3:ls.length < 32
      · refine (value40D h (by omega) D hi c2 c3).mono ?_
        rintro e w' ⟨ov',rfl,h1,h2⟩
        refine ⟨{ dueV ls i n with kd:=4 },0,ov',newL { dueV ls i n with kd:=4 } :: ls,i + 1,?_,?_,h2,.inl ⟨rfl,.inr ⟨hi,c3,.inr ⟨c2,rfl⟩,rfl,rfl⟩⟩⟩
        · simp only [Vi.cs,f1,f2,f3,f5]
        · have e:usW (newL { dueV ls i n with kd:=4 } :: ls) = usW ls ++ [.int .i64 4,.int .i64 i,.int .i64 0,.int .i64 ls.length,.int .i64 (dueV ls i n).up,.int .i64 (dueV ls i n).nt,.string (dueV ls i n).ky,.int .i64 n,.int .i64 (dueV ls i n).fi,.int .i64 0,.string ByteArray.empty,.int .i64 0]:=by
            show usW ls ++ Lv.W _ = _
            simp only [Lv.W,newL,f1,f3,f5]
          rw [e]
          exact h1
      · refine (value40xD h (by omega) D hi c2 (by omega)).mono ?_
        rintro e w' ⟨rfl,h1,h2⟩
        refine ⟨{ dueV ls i n with kd:=4 },24,ov,ls,i,?_,h1,Near.of h2,.inr ⟨by decide,.inr ⟨hi,by omega,.inr c2,rfl,rfl⟩⟩⟩
        simp only [Vi.cs,f1,f2,f3,f5]
    · refine (value40l h (by omega) D c1 c2).mono ?_
      rintro e w' ⟨t,j,er,rfl,h0,h1,h2,h3⟩
      refine ⟨{ dueV ls i n with kd:=t.k,to:=(i:Int) + (j:Int) },er,ov,ls,i + j,?_,h2,Near.of h3,?_⟩
      · simp only [Vi.cs,f1,f3,f5]
      · rcases h0 with ⟨e0,h0⟩ | ⟨e0,h0⟩
        · exact .inl ⟨e0,.inl ⟨t,j,c1,c2,h0,rfl,rfl,rfl⟩⟩
        · exact .inr ⟨e0,.inl ⟨c1,c2,j,h0,rfl⟩⟩
theorem part43 {B rb:Nat} {w:World} {a:Option Addr} {c:Nat} {b:List UInt8} {i n:Nat} {ov:Value} {l:Lv} {r:List Lv} (h:SR B rb w a c b i n ov (r.length + 1) (usW (l :: r))) (hok:okS b (.mid (l :: r) i n)) :
    Calls Tryz.prog 50 #[.pointer (some ⟨rb,0,none⟩)] w fun e w'=>∃ er i' us',e = .returned (.int .i64 er)∧SR B rb w' a c b i' n ov (r.length + 1) us'∧Near rb ov w w'∧((er = 0∧∃ l',us' = usW (l' :: r)∧PGd b l i l' i') ∨ (er ≠ 0∧PBd b l i er i')):=by
  obtain ⟨a1,a2,a3⟩:=hok
  have hl:=h.lim
  have hm:r.length + 1 ≤ 32:=a3.1
  obtain ⟨hk,hp0,hp1⟩:=a3.2 l (by simp)
  have t9:=usW_at l r 9
  have t10:=usW_at l r 10
  have t11:=usW_at l r 11
  have t0:=usW_at l r 0
  have S1:((usW (l :: r)).set (r.length * 12 + 11) (.int .i64 i)).set (r.length * 12 + 9) (.int .i64 (l.pa + 1)) = usW ({ l with be:=i,pa:=l.pa + 1 } :: r):=by
    rw [usW_set l r 11 (.int .i64 i)]
    exact usW_set { l with be:=i } r 9 (.int .i64 (l.pa + 1))
  rcases hk with hk | hk
  · refine (part43L h (by omega) (p:=l.pa) (x:=l.be) (by rw [← hk]; exact t0) t9 t11 hp0 (by omega)).mono ?_
    rintro e w' ⟨rfl,h1,h2⟩
    exact ⟨0,i,_,rfl,h1,h2,.inl ⟨rfl,_,S1,.inl ⟨hk,rfl,rfl⟩⟩⟩
  · refine (part43D h (by omega) (p:=l.pa) (x:=l.be) (lk:=l.kk) (by rw [← hk]; exact t0) t10 t9 t11 hp0 (by omega)).mono ?_
    rintro e w' ⟨i',us',er,rfl,h1,h2,h3⟩
    refine ⟨er,i',us',rfl,h1,h2,?_⟩
    rcases h3 with ⟨h3,h4,h5⟩ | ⟨h3,h4⟩
    · exact .inr ⟨by rw [h4]; decide,hk,.inl ⟨h3,h4,h5⟩⟩
    · rcases h4 with ⟨j,h4,h5,h6⟩ | ⟨t,j,h4,h5⟩
      · exact .inr ⟨h5,hk,.inr ⟨h3,.inl ⟨j,h4,h5,h6⟩⟩⟩
      · rcases h5 with ⟨h5,h6,h7,h8⟩ | ⟨h5,h6,h7,h8⟩
        · exact .inr ⟨by rw [h7]; decide,hk,.inr ⟨h3,.inr ⟨t,j,h4,h5,h6,h7,h8⟩⟩⟩
        · refine .inl ⟨h6, { l with be:=i,pa:=l.pa + 1,kk:=t.s },?_,.inr ⟨hk,h3,t,j,h4,h5,rfl,h7⟩⟩
          rw [h8,S1]
          exact usW_set { l with be:=i,pa:=l.pa + 1 } r 10 (.string t.s)
theorem close42 {B rb:Nat} {w:World} {a:Option Addr} {c:Nat} {b:List UInt8} {i n:Nat} {ov:Value} {l:Lv} {r:List Lv} (h:SR B rb w a c b i n ov (r.length + 1) (usW (l :: r))) (hok:okS b (.mid (l :: r) i n)) (hi:i < b.length) :
    Calls Tryz.prog 49 #[.pointer (some ⟨rb,0,none⟩)] w fun e w'=>∃ ov',e = .returned (.agg (Vi.cs (endV l i)))∧SR B rb w' a c b (i + 1) n ov' r.length (usW r)∧Besides rb w w':=by
  obtain ⟨a1,a2,a3⟩:=hok
  have hm:r.length + 1 ≤ 32:=a3.1
  refine (end42 h hi (by omega) (usW_at0 l r) (usW_at l r 1) (usW_at l r 2) (usW_at l r 3) (usW_at l r 4) (usW_at l r 5) (usW_at l r 6) (usW_at l r 7) (usW_at l r 8)).mono ?_
  rintro e w' ⟨ov',rfl,h1,h2⟩
  rw [usW_take] at h1
  exact ⟨ov',rfl,h1,h2⟩
theorem SR.only {A B rb:Nat} {w w':World} {a:Option Addr} {c:Nat} {b:List UInt8} {i n:Nat} {ov:Value} {k:Nat} {us:List Value} (h:SR B rb w a c b i n ov k us) {X:Nat → Prop}
    (hb:∀ x,x < w.heap.size → ¬ X x → w'.heap[x]? = w.heap[x]?) (hx:∀ x,X x → x ≠ rb∧ov.ownBlock ≠ some x∧A ≤ x) (hA:b = [] ∨ ∀ g o,a = some ⟨g,o,none⟩ → g < A) (h4:4 < A):SR B rb w' a c b i n ov k us where
  bk:=h.bk.keep (hb rb h.bk.lt (fun hr=>(hx rb hr).1 rfl))
  own:=by
    refine ⟨h.own.1,?_⟩
    rcases h.own.2 with e | ⟨g,cap,cur,q1,q2,q3,q4⟩
    · exact .inl e
    · exact .inr ⟨g,cap,cur,q1,q2,(hb g (Array.getElem?_eq_some_iff.1 q3).1 (fun hg=>(hx g hg).2.1 (by rw [q1]; rfl))).trans q3,q4⟩
  low:=h.low
  ne:=h.ne
  le:=h.le
  lim:=h.lim
  cap:=h.cap
  tx:=by
    rcases h.tx with e | ⟨g,o,h1,h2,h3⟩
    · exact .inl e
    · rcases hA with hA | hA
      · exact .inl hA
      · exact .inr ⟨g,o,h1,h2,fun j hj=>(World.cell?_of_block (w:=w) (hb g (World.block_lt_of_cell? w _ (h3 j hj)) (fun hg=>by have:=(hx g hg).2.2; have:=hA g o h1; omega))).trans (h3 j hj)⟩
  ev:=by
    obtain ⟨⟨t,p,h1⟩,⟨t',p',h2⟩⟩:=h.ev
    exact ⟨⟨t,p,(World.cell?_of_block (w:=w) (hb 3 (World.block_lt_of_cell? w _ h1) (fun hg=>by have:=(hx 3 hg).2.2; omega))).trans h1⟩,⟨t',p',(World.cell?_of_block (w:=w) (hb 4 (World.block_lt_of_cell? w _ h2) (fun hg=>by have:=(hx 4 hg).2.2; omega))).trans h2⟩⟩
  evB:=h.evB
structure FV (w w':World) (S S':Nat → Prop):Prop where
  os:w'.os = w.os
  tape:w'.tape = w.tape
  output:w'.output = w.output
  size:w.heap.size ≤ w'.heap.size
  block:∀ k,k < w.heap.size → ¬ S k → w'.heap[k]? = w.heap[k]?
  sub:∀ k,S' k → S k ∨ w.heap.size ≤ k
def Nx (b:List UInt8) (go:List Vi → Bool) (h:List Vi) (v:Vi):Prop:=
  (∃ ls i n ls' i',Rch b go h (.val ls i n)∧VG b ls i n v ls' i') ∨ ∃ l r i n,Rch b go h (.mid (l :: r) i n)∧i < b.length∧byt b i = 101∧v = endV l i
structure Vis (b:List UInt8) (fn:Nat) (caps:Array Value) (go:List Vi → Bool) (J:List Vi → World → (Nat → Prop) → Prop) (A:Nat):Prop where
  keep:∀ h w w' S,J h w S → w.heap.size ≤ w'.heap.size → (∀ k,S k ∨ k < A → w'.heap[k]? = w.heap[k]?) → J h w' S
  own:∀ h w S,J h w S → ∀ k,S k → A ≤ k∧∃ cs ty fr,w.heap[k]? = some (.cells cs ty fr)∧ty ≠ 98∧ty ≠ 78
  enter:∀ (args:Array Value) (w:World),(callFunc fn args).run Tryz.prog w = .ok (.enter fn args) w
  call:∀ h w S v,J h w S → Nx b go h v → Calls Tryz.prog fn (#[.agg (Vi.cs v)] ++ caps) w fun e w'=>e = .returned (.bool (go (h ++ [v])))∧∃ S',J (h ++ [v]) w' S'∧FV w w' S S'
structure RV2 (A:Nat) (J:List Vi → World → (Nat → Prop) → Prop) (w0:World) (S0:Nat → Prop) (rb:Nat) (a:Option Addr) (c:Nat) (b:List UInt8) (h:List Vi) (ls:List Lv) (i n:Nat) (ov:Value) (w:World) (S:Nat → Prop):Prop where
  sr:SR w0.heap.size rb w a c b i n ov ls.length (usW ls)
  j:J h w S
  fv:FV w0 w S0 S
  al:A ≤ w0.heap.size
theorem FV.trans {w w1 w2:World} {S S1 S2:Nat → Prop} (h:FV w w1 S S1) (g:FV w1 w2 S1 S2):FV w w2 S S2 where
  os:=g.os.trans h.os
  tape:=g.tape.trans h.tape
  output:=g.output.trans h.output
  size:=Nat.le_trans h.size g.size
  block:=fun k hk hn=>(g.block k (Nat.lt_of_lt_of_le hk h.size) (fun hs=>by rcases h.sub k hs with e | e; exact hn e; omega)).trans (h.block k hk hn)
  sub:=fun k hk=>by
    rcases g.sub k hk with e | e
    · exact h.sub k e
    · have:=h.size; exact .inr (by omega)
theorem FV.near {w0 w w':World} {S0 S:Nat → Prop} {rb:Nat} {ov:Value} (h:FV w0 w S0 S) (g:Near rb ov w w') (hr:w0.heap.size ≤ rb) (ho:∀ x,ov.ownBlock = some x → w0.heap.size ≤ x):FV w0 w' S0 S where
  os:=g.os.trans h.os
  tape:=g.tape.trans h.tape
  output:=g.output.trans h.output
  size:=Nat.le_trans h.size g.size
  block:=fun k hk hn=>(g.block k (Nat.lt_of_lt_of_le hk h.size) (by omega) (fun e=>by have:=ho k e; omega)).trans (h.block k hk hn)
  sub:=h.sub
section
variable {A:Nat} {J:List Vi → World → (Nat → Prop) → Prop} {w0:World} {S0:Nat → Prop} {rb:Nat} {a:Option Addr} {c:Nat} {b:List UInt8} {fn:Nat} {caps:Array Value} {go:List Vi → Bool} {h:List Vi} {ls:List Lv} {i n:Nat} {ov:Value} {w w':World} {S:Nat → Prop}
theorem RV2.own_ge (R:RV2 A J w0 S0 rb a c b h ls i n ov w S):∀ x,ov.ownBlock = some x → w0.heap.size ≤ x:=fun _ e=>(own_lt R.sr.own e).1
theorem own_obj {B k:Nat} {us:List Value} (h:w.ownsRow B 98 12 ov k us) {x:Nat} (hx:ov.ownBlock = some x):∃ cs,w.heap[x]? = some (Obj.cells cs 98 (0,0)):=by
  rcases h.2 with ⟨rfl,_⟩ | ⟨g,cap,cur,rfl,h2,h3,_⟩
  · cases hx
  · cases hx; exact ⟨_,h3⟩
theorem RV2.apart (V:Vis b fn caps go J A) (R:RV2 A J w0 S0 rb a c b h ls i n ov w S):∀ x,S x → x ≠ rb∧ov.ownBlock ≠ some x∧A ≤ x∧x < w.heap.size:=fun x hx=>by
  obtain ⟨h1,cs,ty,fr,h2,h3,h4⟩:=V.own h w S R.j x hx
  refine ⟨fun e=>?_,fun e=>?_,h1,(Array.getElem?_eq_some_iff.1 h2).1⟩
  · have:=R.sr.bk
    unfold blk at this
    rw [← e,h2] at this
    injection this with this
    injection this with e1 e2 e3
    exact h4 e2
  · obtain ⟨cs',h5⟩:=own_obj R.sr.own e
    rw [h2] at h5
    injection h5 with h5
    injection h5 with e1 e2 e3
    exact h3 e2
theorem RV2.apart2 (V:Vis b fn caps go J A) (R:RV2 A J w0 S0 rb a c b h ls i n ov w S):∀ x,S x ∨ x < A → x ≠ rb∧ov.ownBlock ≠ some x∧x < w.heap.size:=fun x hx=>by
  rcases hx with hx | hx
  · obtain ⟨h1,h2,_,h4⟩:=R.apart V x hx
    exact ⟨h1,h2,h4⟩
  · have h1:=R.al
    have h2:=R.sr.low
    have h3:=R.fv.size
    exact ⟨by omega,fun e=>by have:=R.own_ge x e; omega,by omega⟩
theorem RV2.below (V:Vis b fn caps go J A) (R:RV2 A J w0 S0 rb a c b h ls i n ov w S) (hb:Below w.heap.size w w'):RV2 A J w0 S0 rb a c b h ls i n ov w' S where
  sr:=R.sr.keep hb
  j:=V.keep h w w' S R.j hb.size (fun k hk=>hb.block k (R.apart2 V k hk).2.2)
  al:=R.al
  fv:=⟨hb.os.trans R.fv.os,hb.tape.trans R.fv.tape,hb.output.trans R.fv.output,Nat.le_trans R.fv.size hb.size,fun k hk hn=>(hb.block k (Nat.lt_of_lt_of_le hk R.fv.size)).trans (R.fv.block k hk hn),R.fv.sub⟩
theorem RV2.step (V:Vis b fn caps go J A) (R:RV2 A J w0 S0 rb a c b h ls i n ov w S) {ls':List Lv} {i' n':Nat} {ov':Value} (hs:SR w0.heap.size rb w' a c b i' n' ov' ls'.length (usW ls')) (hn:Near rb ov w w'):RV2 A J w0 S0 rb a c b h ls' i' n' ov' w' S where
  sr:=hs
  j:=V.keep h w w' S R.j hn.size (fun k hk=>hn.block k (R.apart2 V k hk).2.2 (R.apart2 V k hk).1 (R.apart2 V k hk).2.1)
  al:=R.al
  fv:=R.fv.near hn R.sr.low R.own_ge
theorem RV2.vis (V:Vis b fn caps go J A) (R:RV2 A J w0 S0 rb a c b h ls i n ov w S) {h':List Vi} {S':Nat → Prop} (hj:J h' w' S') (hf:FV w w' S S') (hA:b = [] ∨ ∀ g o,a = some ⟨g,o,none⟩ → g < A) (h4:4 < A):RV2 A J w0 S0 rb a c b h' ls i n ov w' S' where
  sr:=R.sr.only (X:=S) (A:=A) hf.block (fun x hx=>⟨(R.apart V x hx).1,(R.apart V x hx).2.1,(R.apart V x hx).2.2.1⟩) hA h4
  j:=hj
  al:=R.al
  fv:=R.fv.trans hf
theorem RV2.far (V:Vis b fn caps go J A) (R:RV2 A J w0 S0 rb a c b h ls i n ov w S) {g:Nat} (hb:Besides g w w') (g1:g ≠ rb) (g2:ov.ownBlock ≠ some g) (g3:¬ S g) (g0:w0.heap.size ≤ g) (hAw:A ≤ w0.heap.size) (hA:b = [] ∨ ∀ g o,a = some ⟨g,o,none⟩ → g < A) (h4:4 < A):RV2 A J w0 S0 rb a c b h ls i n ov w' S where
  sr:=R.sr.only (X:=fun x=>x = g) (A:=A) (fun x hx hn=>hb.block x hx hn) (fun x hx=>by subst hx; exact ⟨g1,g2,by omega⟩) hA h4
  j:=V.keep h w w' S R.j hb.size (fun k hk=>hb.block k (R.apart2 V k hk).2.2 (fun e=>by rcases hk with hk | hk; exact g3 (e ▸ hk); omega))
  al:=R.al
  fv:=⟨hb.os.trans R.fv.os,hb.tape.trans R.fv.tape,hb.output.trans R.fv.output,Nat.le_trans R.fv.size hb.size,fun k hk hn=>(hb.block k (Nat.lt_of_lt_of_le hk R.fv.size) (by omega)).trans (R.fv.block k hk hn),R.fv.sub⟩
theorem RV2.start (V:Vis b fn caps go J A) (hlim:b.length ≤ 1048576) (hc:b.length ≤ c) (h4:4 < A) (hAw:A ≤ w.heap.size) (hev:EVw w)
    (htx:b = [] ∨ ∃ g o,a = some ⟨g,o,none⟩∧g < w.heap.size∧∀ j,j < b.length → w.cell? ⟨g,o + j,none⟩ = some (.int .u8 ((byt b j).toNat:Int))) (hJ:J [] w S0) :
    RV2 A J w S0 w.heap.size a c b [] [] 0 0 (.slice none 0 0) (w.alloc (Obj.cells #[.slice a b.length c,.int .i64 0,.int .i64 0,.slice none 0 0] 78)) S0 where
  sr:={
    bk:=heap_new w _
    own:=World.ownsRow_nil _ _ _ _
    low:=Nat.le_refl _
    ne:=by simp [Value.ownBlock]
    le:=by omega
    lim:=hlim
    cap:=hc
    tx:=by
      rcases htx with e | ⟨g,o,h1,h2,h3⟩
      · exact .inl e
      · exact .inr ⟨g,o,h1,h2,fun j hj=>(((Below.refl _ _).alloc (Nat.le_refl _) _:Below w.heap.size w _).cell h2).trans (h3 j hj)⟩
    ev:=hev.keep ((Below.refl _ _).alloc (Nat.le_refl _) _)
    evB:=by omega }
  al:=hAw
  j:=V.keep [] w _ S0 hJ (by simp) (fun k hk=>by
    rcases hk with hk | hk
    rotate_left
    · exact ((Below.refl _ _).alloc (Nat.le_refl _) _:Below w.heap.size w _).block k (by omega)
    obtain ⟨_,cs,ty,fr,h2,_⟩:=V.own [] w S0 hJ k hk
    exact ((Below.refl _ _).alloc (Nat.le_refl _) _:Below w.heap.size w _).block k (Array.getElem?_eq_some_iff.1 h2).1)
  fv:=by
    have hb:Below w.heap.size w (w.alloc (Obj.cells #[.slice a b.length c,.int .i64 0,.int .i64 0,.slice none 0 0] 78)):=(Below.refl _ _).alloc (Nat.le_refl _) _
    exact ⟨hb.os,hb.tape,hb.output,hb.size,fun k hk _=>hb.block k hk,fun k hk=>.inl hk⟩
end
theorem besides_row (w:World) (g:Nat) (cs:Array Value):Besides g w (w.setRow g cs) where
  os:=rfl
  tape:=rfl
  output:=rfl
  size:=by simp [World.setRow]
  block:=fun k _ hn=>by simp [World.setRow,Array.getElem?_modify,Ne.symm hn]
theorem blk_row {w:World} {g:Nat} {ty:TypeId} {cs:Array Value} (h:blk w g ty cs) (cs':Array Value):blk (w.setRow g cs') g ty cs':=by
  unfold blk at h ⊢
  simp [World.setRow,Array.getElem?_modify,h]
theorem cs_one (v:Vi):(Vi.cs v).all (·.oneCell') = true:=by kernel_rfl
set_option maxRecDepth 10000 in
set_option maxHeartbeats 2000000 in
theorem read26 {A:Nat} {J:List Vi → World → (Nat → Prop) → Prop} {fn:Nat} {caps:Array Value} {go:List Vi → Bool} {w:World} {S0:Nat → Prop} {a:Option Addr} {c:Nat} {b:List UInt8}
    (V:Vis b fn caps go J A) (hlim:b.length ≤ 1048576) (hc:b.length ≤ c) (hA:b = [] ∨ ∀ g o,a = some ⟨g,o,none⟩ → g < A) (h4:4 < A) (hAw:A ≤ w.heap.size) (hev:EVw w)
    (htx:b = [] ∨ ∃ g o,a = some ⟨g,o,none⟩∧g < w.heap.size∧∀ j,j < b.length → w.cell? ⟨g,o + j,none⟩ = some (.int .u8 ((byt b j).toNat:Int))) (hJ:J [] w S0) :
    Calls Tryz.prog 30 #[.slice a b.length c,.func (.func fn) #[] caps] w fun e w'=>∃ h p er S,e = .returned (.tuple #[.int .i64 p,.int .i64 er])∧Fin b go h p er∧J h w' S∧FV w w' S0 S:=by
  have VH:Hid (Vis b fn caps go J A):=V
  have HH:Hid ((b = [] ∨ ∀ g o,a = some ⟨g,o,none⟩ → g < A)∧4 < A∧A ≤ w.heap.size∧EVw w∧(b = [] ∨ ∃ g o,a = some ⟨g,o,none⟩∧g < w.heap.size∧∀ j,j < b.length → w.cell? ⟨g,o + j,none⟩ = some (.int .u8 ((byt b j).toNat:Int)))∧J [] w S0):=⟨hA,h4,hAw,hev,htx,hJ⟩
  have EN:=V.enter
  clear V hA h4 hAw hev htx hJ
  go_enter Tryz.func30,Tryz.ntmps30
  go_wp2
  go_step3
  go_wp2
  go_step3
  go_wp2_with fail
  go_loopg [7] (b.length + 1) (fun gk flt wr=>flt = .int .i64 0∧∃ h ls i n ov S,Hid (Rch b go h (.val ls i n)∧RV2 A J w S0 w.heap.size a c b h ls i n ov wr S)∧i + gk = b.length + 1∧w.heap.size < wr.heap.size)
  case atStart =>
    obtain ⟨hA,h4,hAw,hev,htx,hJ⟩:=HH.out
    exact ⟨rfl, [], [],0,0,_,S0,⟨.start,RV2.start VH.out hlim hc h4 hAw hev htx hJ⟩,by omega,by simp⟩
  case round =>
    obtain ⟨rfl,h,ls,i,n,ov,S,HR,hik,hwr⟩:=hrel
    have HZ:Hid (RV2 A J w S0 w.heap.size a c b h ls i n ov (wr.alloc zero9) S):=HR.out.2.below VH.out ((Below.refl _ _).alloc (Nat.le_refl _) _)
    have C:=Lib.hid (value40 HZ.out.sr (HR.out.1.ok hlim))
    go_wp2_with fail
    refine C.out.mono ?_
    rintro e w1 ⟨v,er,ov',ls',i',rfl,s1,n1,q1⟩
    have R1:Hid (RV2 A J w S0 w.heap.size a c b h ls' i' (n + 1) ov' w1 S):=HZ.out.step VH.out s1 n1
    have hz:blk w1 wr.heap.size 45 #[.int .i64 0,.int .i64 0,.int .i64 0,.int .i64 0,.int .i64 0,.int .i64 0,.string { data:=#[] },.int .i64 0,.int .i64 0]:=by
      have e0:blk (wr.alloc zero9) wr.heap.size 45 #[.int .i64 0,.int .i64 0,.int .i64 0,.int .i64 0,.int .i64 0,.int .i64 0,.string { data:=#[] },.int .i64 0,.int .i64 0]:=heap_new wr zero9
      exact e0.keep (n1.block _ e0.lt (by omega) (fun e=>by have:=(own_lt HR.out.2.sr.own e).2; omega))
    have hg3:¬ S wr.heap.size:=fun e=>by have:=(HR.out.2.apart VH.out _ e).2.2.2; omega
    have hg2:ov'.ownBlock ≠ some wr.heap.size:=fun e=>by
      obtain ⟨cs',h5⟩:=own_obj s1.own e
      rw [show w1.heap[wr.heap.size]? = _ from hz] at h5
      injection h5 with h5
      injection h5 with e1 e2 e3
      cases e2
    have R2:Hid (RV2 A J w S0 w.heap.size a c b h ls' i' (n + 1) ov' (w1.setRow wr.heap.size (Vi.cs v)) S∧blk (w1.setRow wr.heap.size (Vi.cs v)) wr.heap.size 45 (Vi.cs v)):=by
      obtain ⟨hA,h4,hAw,_⟩:=HH.out
      exact ⟨R1.out.far VH.out (besides_row ..) (by omega) hg2 hg3 (by omega) hAw hA h4,blk_row hz _⟩
    have Q1:Hid ((er = 0∧VG b ls i n v ls' i') ∨ er ≠ 0∧VBd b ls i er i'):=q1
    have i47:(Tryz.prog.info? 45).map (·.size) = some (Vi.cs v).size:=info47s
    clear s1 n1 q1 hg2 hg3 R1 C HZ
    by_cases ce:er = 0
    · subst ce
      have q1:VG b ls i n v ls' i':=by rcases Q1.out with q | q; exact q.2; exact absurd rfl q.1
      have G1:Hid (VG b ls i n v ls' i'):=q1
      clear Q1 q1
      go_wp2_with (first | (refine wpList_store_row rfl 45 _ _ rfl wr.heap.size (Vi.cs v) rfl rfl 45 _ hz i47 rfl (cs_one v) ?_; (obtain ⟨d0,d1,d2,d3,d4,d5,d6,d7,d8⟩:=R2.out.2.cells9; generalize w1.setRow wr.heap.size (Vi.cs v) = w2 at *)))
      clear d0 d1 d2 d3 d4 d5 d6 d7 d8
      refine (VH.out.call h w2 S v R2.out.1.j (.inl ⟨ls,i,n,ls',i',HR.out.1,G1.out⟩)).mono ?_
      rintro e w3 ⟨rfl,S',j3,f3⟩
      have R3:Hid (RV2 A J w S0 w.heap.size a c b (h ++ [v]) ls' i' (n + 1) ov' w3 S'):=by
        obtain ⟨hA,h4,_⟩:=HH.out
        exact R2.out.1.vis VH.out j3 f3 hA h4
      have hw3:w.heap.size < w3.heap.size:=R3.out.sr.bk.lt
      clear j3 f3 R2 hz
      cases hgo:go (h ++ [v]) with
      | false =>
        have FI:Hid (Fin b go (h ++ [v]) 0 0):=.vstop HR.out.1 G1.out hgo
        clear hgo
        go_wp2
        rw [Exit.noGoto_ret]
        go_ret2
        exact ⟨_,0,0,S',rfl,FI.out,R3.out.j,R3.out.fv⟩
      | true =>
        have HM:Hid (Rch b go (h ++ [v]) (.mid ls' i' (n + 1))):=.value HR.out.1 G1.out hgo
        clear hgo
        go_wp2_with fail
        have hii:i < i'∧i' ≤ b.length:=by
          have hok:=HR.out.1.ok hlim
          have hok2:=HM.out.ok hlim
          refine ⟨?_,hok2.1⟩
          rcases G1.out with ⟨t,j,c1,c2,c3,_,_,rfl⟩ | ⟨_,_,_,_,rfl⟩
          · have:=leaf_pos hok.1 hlim c1 c2 c3; omega
          · omega
        have HRM:Hid (Rch b go (h ++ [v]) (.mid ls' i' (n + 1))∧RV2 A J w S0 w.heap.size a c b (h ++ [v]) ls' i' (n + 1) ov' w3 S'):=⟨HM.out,R3.out⟩
        clear HM R3 G1
        go_loopg [7] (b.length + 1 - i') (fun gk2 flt wr2=>flt = .int .i64 0∧∃ h2 ls2 i2 n2 ov2 S2,Hid (Rch b go h2 (.mid ls2 i2 n2)∧RV2 A J w S0 w.heap.size a c b h2 ls2 i2 n2 ov2 wr2 S2)∧i2 + gk2 = b.length + 1∧i < i2∧i2 ≤ b.length∧w.heap.size < wr2.heap.size)
        case atStart=>exact ⟨rfl,h ++ [v],ls',i',n + 1,ov',S',HRM,by omega,by omega,by omega,hw3⟩
        case round =>
          obtain ⟨rfl,h2,ls2,i2,n2,ov2,S2,HQ,hik2,hi2,hi2b,hwr2⟩:=hrel
          obtain ⟨oa,oc,rfl⟩:=ownForm HQ.out.2.sr.own
          obtain ⟨_,e1,_,e3,_⟩:=HQ.out.2.sr.cells
          clear HRM
          cases ls2 with
          | nil =>
            have e3':wr.cell? ⟨w.heap.size,3,none⟩ = some (.slice oa 0 oc):=e3
            clear e3
            by_cases ct:i2 < b.length
            · go_wp2
              rw [Exit.noGoto_ret]
              go_ret2
              exact ⟨h2,i2,26,S2,rfl,.trail HQ.out.1 ct,HQ.out.2.j,HQ.out.2.fv⟩
            · go_wp2
              rw [Exit.noGoto_ret]
              go_ret2
              exact ⟨h2,0,0,S2,rfl,.done HQ.out.1 (by omega),HQ.out.2.j,HQ.out.2.fv⟩
          | cons l r =>
            have e3':wr.cell? ⟨w.heap.size,3,none⟩ = some (.slice oa (r.length + 1) oc):=e3
            have C41:=Lib.hid (next41 HQ.out.2.sr)
            have hok:=Lib.hid (HQ.out.1.ok hlim)
            clear e3
            go_wp2_with fail
            refine C41.out.mono ?_
            rintro e w4 ⟨rfl,b4⟩
            have R4:Hid (RV2 A J w S0 w.heap.size a c b h2 (l :: r) i2 n2 _ w4 S2):=HQ.out.2.below VH.out b4
            clear b4 C41 e1 e3'
            by_cases c101:byt b i2 = 101
            · have hi:i2 < b.length:=by
                rcases Nat.lt_or_ge i2 b.length with g | g
                · exact g
                · rw [byt_end g] at c101; cases c101
              have z:((byt b i2).toNat:Int) = 101:=by rw [c101]; rfl
              have C42:=Lib.hid (close42 R4.out.sr hok.out hi)
              have NX:Hid (Nx b go h2 (endV l i2)):=.inr ⟨l,r,i2,n2,HQ.out.1,hi,c101,rfl⟩
              have H101:Hid (byt b i2 = 101):=c101
              clear c101
              rw [z]
              go_wp2_with fail
              refine C42.out.mono ?_
              rintro e w5 ⟨ov5,rfl,s5,n5⟩
              have R5:Hid (RV2 A J w S0 w.heap.size a c b h2 r (i2 + 1) n2 ov5 w5 S2):=R4.out.step VH.out s5 (Near.of n5)
              clear s5 n5 C42 R4
              go_wp2_with fail
              refine (VH.out.call h2 w5 S2 (endV l i2) R5.out.j NX.out).mono ?_
              rintro e w6 ⟨rfl,S6,j6,f6⟩
              have R6:Hid (RV2 A J w S0 w.heap.size a c b (h2 ++ [endV l i2]) r (i2 + 1) n2 ov5 w6 S6):=by
                obtain ⟨hA,h4,_⟩:=HH.out
                exact R5.out.vis VH.out j6 f6 hA h4
              have hw6:w.heap.size < w6.heap.size:=R6.out.sr.bk.lt
              clear j6 f6 R5 NX
              cases hgo:go (h2 ++ [endV l i2]) with
              | false =>
                have FI:Hid (Fin b go (h2 ++ [endV l i2]) 0 0):=.estop HQ.out.1 hi H101.out hgo
                clear hgo
                go_wp2
                rw [Exit.noGoto_ret]
                go_ret2
                exact ⟨_,0,0,S6,rfl,FI.out,R6.out.j,R6.out.fv⟩
              | true =>
                have HM:Hid (Rch b go (h2 ++ [endV l i2]) (.mid r (i2 + 1) n2)):=.close HQ.out.1 hi H101.out hgo
                clear hgo
                go_wp2
                go_roundg (b.length + 1 - (i2 + 1))
                case measure=>omega
                case rel=>exact ⟨rfl,_,r,i2 + 1,n2,ov5,S6,⟨HM.out,R6.out⟩,by omega,by omega,by omega,hw6⟩
            · have z:((byt b i2).toNat:Int) ≠ 101:=u8_ne c101
              have C43:=Lib.hid (part43 R4.out.sr hok.out)
              have N101:Hid (byt b i2 ≠ 101):=c101
              clear c101
              generalize ((byt b i2).toNat:Int) = zz at *
              go_wp2_with fail
              refine C43.out.mono ?_
              rintro e w5 ⟨er,i5,us5,rfl,s5,n5,q5⟩
              by_cases ce2:er = 0
              · obtain ⟨l5,hus,hpg⟩:∃ l',us5 = usW (l' :: r)∧PGd b l i2 l' i5:=by
                  rcases q5 with q | q
                  · exact q.2
                  · exact absurd ce2 q.1
                subst hus
                subst ce2
                have R5:Hid (RV2 A J w S0 w.heap.size a c b h2 (l5 :: r) i5 n2 _ w5 S2):=R4.out.step VH.out s5 n5
                have HM:Hid (Rch b go h2 (.val (l5 :: r) i5 n2)):=.part HQ.out.1 N101.out hpg
                have hi5:i2 ≤ i5∧i5 ≤ b.length:=⟨by rcases hpg with ⟨_,_,rfl⟩ | ⟨_,_,t,j,_,_,_,rfl⟩ <;> omega,(HM.out.ok hlim).1⟩
                have hw5:w.heap.size < w5.heap.size:=R5.out.sr.bk.lt
                clear s5 n5 q5 hpg R4 C43
                go_wp2
                go_roundg (b.length + 1 - i5)
                case measure=>omega
                case rel=>exact ⟨rfl,h2,l5 :: r,i5,n2,_,S2,⟨HM.out,R5.out⟩,by omega,hw5⟩
              · have ce2':(er != 0) = true:=by simpa using ce2
                obtain ⟨_,d1,_⟩:=s5.cells
                have hpb:Hid (PBd b l i2 er i5):=by
                  rcases q5 with q | q
                  · exact absurd q.1 ce2
                  · exact q.2
                have JF:Hid (J h2 w5 S2∧FV w w5 S0 S2):=by
                  refine ⟨VH.out.keep h2 w4 w5 S2 R4.out.j n5.size (fun k hk=>n5.block k (R4.out.apart2 VH.out k hk).2.2 (R4.out.apart2 VH.out k hk).1 (R4.out.apart2 VH.out k hk).2.1),R4.out.fv.near n5 R4.out.sr.low R4.out.own_ge⟩
                clear s5 n5 q5 R4 C43
                go_wp2
                rw [Exit.noGoto_ret]
                go_ret2
                exact ⟨h2,i5,er,S2,rfl,.pbad HQ.out.1 N101.out hpb.out,JF.out.1,JF.out.2⟩
    · have ce':(er != 0) = true:=by simpa using ce
      go_wp2_with (first | (refine wpList_store_row rfl 45 _ _ rfl wr.heap.size (Vi.cs v) rfl rfl 45 _ hz i47 rfl (cs_one v) ?_; (obtain ⟨_,d1,_⟩:=R2.out.1.sr.cells; generalize w1.setRow wr.heap.size (Vi.cs v) = w2 at *)))
      rw [Exit.noGoto_ret]
      go_ret2
      exact ⟨h,i',er,S,rfl,.vbad HR.out.1 ce (by rcases Q1.out with q | q; exact absurd q.1 ce; exact q.2),R2.out.1.j,R2.out.1.fv⟩
def skStep (l:List Vi) (v:Vi):List Vi:=(if v.pl = (l.length:Int) then l ++ [v] else l).modify v.pl.toNat fun x=>{ x with to:=v.to }
def sk (h:List Vi):List Vi:=h.foldl skStep []
theorem sk_snoc (h:List Vi) (v:Vi):sk (h ++ [v]) = skStep (sk h) v:=by unfold sk; rw [List.foldl_append]; rfl
theorem skStep_len (l:List Vi) (v:Vi):(skStep l v).length = if v.pl = (l.length:Int) then l.length + 1 else l.length:=by
  unfold skStep
  rw [List.length_modify]
  split
  · rw [List.length_append]; rfl
  · rfl
abbrev gT:List Vi → Bool:=fun _=>true
def RS.ls:RS → List Lv
  | .val ls _ _=>ls
  | .mid ls _ _=>ls
def RS.n:RS → Nat
  | .val _ _ n=>n
  | .mid _ _ n=>n
theorem Rch.places {b:List UInt8} {go:List Vi → Bool} {h:List Vi} {s:RS} (H:Rch b go h s):(sk h).length = s.n∧∀ l ∈ s.ls,0 ≤ l.pl∧l.pl < (s.n:Int):=by
  induction H with
  | start=>exact ⟨rfl,fun l hl=>by cases hl⟩
  | @value h ls i n v ls' i' _ hv _ ih =>
    obtain ⟨a1,a2⟩:=ih
    have a1':(sk h).length = n:=a1
    have a2':∀ l ∈ ls,0 ≤ l.pl∧l.pl < (n:Int):=a2
    have hp:v.pl = (n:Int):=by
      rcases hv with ⟨t,j,_,_,_,rfl,_,_⟩ | ⟨_,_,c3,_,_⟩
      · exact (due_fr' ls i n).2.2.1
      · rcases c3 with ⟨_,rfl⟩ | ⟨_,rfl⟩ <;> exact (due_fr' ls i n).2.2.1
    refine ⟨by rw [sk_snoc,skStep_len,if_pos (by rw [a1']; exact hp),a1']; rfl,?_⟩
    show ∀ l ∈ ls',0 ≤ l.pl∧l.pl < ((n + 1:Nat):Int)
    rcases hv with ⟨t,j,_,_,_,_,rfl,_⟩ | ⟨_,_,_,rfl,_⟩
    · intro l hl; have:=a2' l hl; omega
    · intro l hl
      rcases List.mem_cons.1 hl with rfl | hl
      · show 0 ≤ v.pl∧v.pl < _; omega
      · have:=a2' l hl; omega
  | @part h l r i n l' i' _ _ hp ih =>
    obtain ⟨a1,a2⟩:=ih
    refine ⟨a1,?_⟩
    have a2':∀ x ∈ l :: r,0 ≤ x.pl∧x.pl < (n:Int):=a2
    show ∀ x ∈ l' :: r,0 ≤ x.pl∧x.pl < (n:Int)
    intro x hx
    rcases List.mem_cons.1 hx with rfl | hx
    · have:=a2' l (by simp)
      rcases hp with ⟨_,rfl,_⟩ | ⟨_,_,t,j,_,_,rfl,_⟩ <;> exact this
    · exact a2' x (by simp [hx])
  | @close h l r i n _ _ _ _ ih =>
    obtain ⟨a1,a2⟩:=ih
    have a1':(sk h).length = n:=a1
    have a2':∀ x ∈ l :: r,0 ≤ x.pl∧x.pl < (n:Int):=a2
    have hl:=a2' l (by simp)
    refine ⟨?_,fun x hx=>a2' x (by simp; exact .inr hx)⟩
    rw [sk_snoc,skStep_len,if_neg (by show ¬ l.pl = _; rw [a1']; omega),a1']
    rfl
set_option maxHeartbeats 1000000 in
theorem read26x {w:World} {a:Option Addr} {n c:Nat} (hn:1048576 < n) (fv:Value) :
    Calls Tryz.prog 30 #[.slice a n c,fv] w fun e w'=>e = .returned (.tuple #[.int .i64 0,.int .i64 20])∧w' = w:=by
  go_enter Tryz.func30,Tryz.ntmps30
  go_wp2
  go_step3
  go_wp2
  rw [Exit.noGoto_ret]
  go_ret2
  exact ⟨rfl,rfl⟩
end Go.Proofs.YtdlnnnlmlaploabGreatDoor
