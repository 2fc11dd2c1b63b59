import Derived.Test.YtdlnnnlmlaploabGreatDoorK03
import Derived.Defers
import Derived.Recover
import Derived.Laws.Pointers
namespace Go.Proofs.YtdlnnnlmlaploabGreatDoor
open Go.RowKit Go.Deep
theorem as65_nil (w:World):(Instr.typeAssert .nilIface 20 120 true).run Tryz.prog w = .ok (.tuple #[.agg #[.int .i64 0,.int .i64 0],.bool false]) w:=by kernel_rfl
theorem as65 (v:Value) (w:World):(Instr.typeAssert (.iface 120 v) 20 120 true).run Tryz.prog w = .ok (.tuple #[v,.bool true]) w:=by kernel_rfl
theorem catch_idle (vb nb eb:Nat) (w:World) :
    CallsD Tryz.prog 77 #[.pointer (some ⟨vb,0,none⟩),.pointer (some ⟨nb,0,none⟩),.pointer (some ⟨eb,0,none⟩)] .returning w fun e u' w'=>e = .returned (.tuple #[])∧u' = .returning∧Below w.heap.size w w':=by
  have h1:=as65_nil
  refine callsD_of_wpS Tryz.func77 rfl fun c₀ cs hu=>?_
  apply wpS_seq
  apply wpS_region
  simp [wpOpsS,go_sem,recoverD,hu,Tryz.ntmps77,Exit.thenS,h1,Array.replicate]
  refine wpS_of_wp ?_
  go_wp2
  cases c₀
  simp_all [bodyPostS,results,Tryz.results77]
  exact (Below.refl _ _).alloc (Nat.le_refl _) _
def PQ (vb nb eb:Nat) (p er:Int) (w w':World):Prop:=w'.os = w.os∧w'.tape = w.tape∧w'.output = w.output∧w.heap.size ≤ w'.heap.size∧obj w' vb (.int .i64 0) (.int .i64 0) (.string { data:=#[] }) (.slice none 0 0) (.slice none 0 0)∧blk w' nb 3 #[.int .i64 p]∧blk w' eb 26 #[.int .i64 er]∧∀ k,k < w.heap.size → k ≠ vb → k ≠ nb → k ≠ eb → w'.heap[k]? = w.heap[k]?
theorem pq_of (vb nb eb:Nat) (p er:Int) (w wa:World) (hv':obj wa vb (.int .i64 0) (.int .i64 0) (.string { data:=#[] }) (.slice none 0 0) (.slice none 0 0)) (hn':blk wa nb 3 #[.int .i64 0]) (he':blk wa eb 26 #[.int .i64 0]) (h12:vb ≠ nb) (h2:vb ≠ eb) (h3:nb ≠ eb) (hb:Below w.heap.size w wa) :
    PQ vb nb eb p er w ((((((((wa.setCell ⟨vb,0,none⟩ (.int .i64 0)).setCell ⟨vb,1,none⟩ (.int .i64 0)).setCell ⟨vb,2,none⟩ (.string { data:=#[] })).setCell ⟨vb,3,none⟩ (.slice none 0 0)).setCell ⟨vb,4,none⟩ (.slice none 0 0)).setCell ⟨nb,0,none⟩ (.int .i64 p)).setCell ⟨eb,0,none⟩ (.int .i64 er)).drew):=by
  have o5:=((((hv'.set0 (.int .i64 0)).set1 (.int .i64 0)).set2 (.string { data:=#[] })).set3 (.slice none 0 0)).set4 (.slice none 0 0)
  have k5:∀ k,k ≠ vb → (((((wa.setCell ⟨vb,0,none⟩ (.int .i64 0)).setCell ⟨vb,1,none⟩ (.int .i64 0)).setCell ⟨vb,2,none⟩ (.string { data:=#[] })).setCell ⟨vb,3,none⟩ (.slice none 0 0)).setCell ⟨vb,4,none⟩ (.slice none 0 0)).heap[k]? = wa.heap[k]?:=fun k hk=>by
    rw [Below.heap_setCell _ _ _ _ hk,Below.heap_setCell _ _ _ _ hk,Below.heap_setCell _ _ _ _ hk,Below.heap_setCell _ _ _ _ hk,Below.heap_setCell _ _ _ _ hk]
  have z5:Besides vb wa (((((wa.setCell ⟨vb,0,none⟩ (.int .i64 0)).setCell ⟨vb,1,none⟩ (.int .i64 0)).setCell ⟨vb,2,none⟩ (.string { data:=#[] })).setCell ⟨vb,3,none⟩ (.slice none 0 0)).setCell ⟨vb,4,none⟩ (.slice none 0 0)):=(((((Besides.refl vb wa).set1).set1).set1).set1).set1
  generalize (((((wa.setCell ⟨vb,0,none⟩ (.int .i64 0)).setCell ⟨vb,1,none⟩ (.int .i64 0)).setCell ⟨vb,2,none⟩ (.string { data:=#[] })).setCell ⟨vb,3,none⟩ (.slice none 0 0)).setCell ⟨vb,4,none⟩ (.slice none 0 0)) = w5 at *
  have n5:blk w5 nb 3 #[.int .i64 0]:=hn'.keep (k5 nb (Ne.symm h12))
  have e5:blk w5 eb 26 #[.int .i64 0]:=he'.keep (k5 eb (Ne.symm h2))
  have n6:blk (w5.setCell ⟨nb,0,none⟩ (.int .i64 p)) nb 3 #[.int .i64 p]:=n5.set 0 (.int .i64 p)
  have e6:blk (w5.setCell ⟨nb,0,none⟩ (.int .i64 p)) eb 26 #[.int .i64 0]:=e5.keep (Below.heap_setCell _ _ _ _ (Ne.symm h3))
  have e7:blk ((w5.setCell ⟨nb,0,none⟩ (.int .i64 p)).setCell ⟨eb,0,none⟩ (.int .i64 er)) eb 26 #[.int .i64 er]:=e6.set 0 (.int .i64 er)
  refine ⟨z5.os.trans hb.os,z5.tape.trans hb.tape,z5.output.trans hb.output,?_,?_,?_,e7,?_⟩
  · have h6:=z5.size
    have h7:=hb.size
    show w.heap.size ≤ ((w5.setCell ⟨nb,0,none⟩ (.int .i64 p)).setCell ⟨eb,0,none⟩ (.int .i64 er)).heap.size
    simp [World.setCell]; omega
  · show obj ((w5.setCell ⟨nb,0,none⟩ (.int .i64 p)).setCell ⟨eb,0,none⟩ (.int .i64 er)) vb _ _ _ _ _
    exact (o5.keep (Below.heap_setCell _ _ _ _ h12)).keep (Below.heap_setCell _ _ _ _ h2)
  · show blk ((w5.setCell ⟨nb,0,none⟩ (.int .i64 p)).setCell ⟨eb,0,none⟩ (.int .i64 er)) nb _ _
    exact n6.keep (Below.heap_setCell _ _ _ _ h3)
  · intro k hk k1 k2 k3
    show ((w5.setCell ⟨nb,0,none⟩ (.int .i64 p)).setCell ⟨eb,0,none⟩ (.int .i64 er)).heap[k]? = _
    rw [Below.heap_setCell _ _ _ _ k3,Below.heap_setCell _ _ _ _ k2,k5 k k1]
    exact hb.block k hk
def FQ (vb nb eb:Nat) (B0 B1 B2 B3 B4:Value) (p er:Int) (w w':World):Prop:=w'.os = w.os∧w'.tape = w.tape∧w'.output = w.output∧w.heap.size ≤ w'.heap.size∧obj w' vb B0 B1 B2 B3 B4∧blk w' nb 3 #[.int .i64 p]∧blk w' eb 26 #[.int .i64 er]∧∀ k,k < w.heap.size → k ≠ vb → k ≠ nb → k ≠ eb → w'.heap[k]? = w.heap[k]?
theorem fin_of (vb nb eb:Nat) (p er:Int) (A0 A1 A2 A3 A4 B0 B1 B2 B3 B4:Value) (w wa:World) (hv':obj wa vb A0 A1 A2 A3 A4) (hn':blk wa nb 3 #[.int .i64 0]) (he':blk wa eb 26 #[.int .i64 0]) (h12:vb ≠ nb) (h2:vb ≠ eb) (h3:nb ≠ eb) (hb:Below w.heap.size w wa) :
    FQ vb nb eb B0 B1 B2 B3 B4 p er w ((((((((wa.setCell ⟨vb,0,none⟩ B0).setCell ⟨vb,1,none⟩ B1).setCell ⟨vb,2,none⟩ B2).setCell ⟨vb,3,none⟩ B3).setCell ⟨vb,4,none⟩ B4).setCell ⟨nb,0,none⟩ (.int .i64 p)).setCell ⟨eb,0,none⟩ (.int .i64 er)).drew):=by
  have o5:=((((hv'.set0 B0).set1 B1).set2 B2).set3 B3).set4 B4
  have k5:∀ k,k ≠ vb → (((((wa.setCell ⟨vb,0,none⟩ B0).setCell ⟨vb,1,none⟩ B1).setCell ⟨vb,2,none⟩ B2).setCell ⟨vb,3,none⟩ B3).setCell ⟨vb,4,none⟩ B4).heap[k]? = wa.heap[k]?:=fun k hk=>by
    rw [Below.heap_setCell _ _ _ _ hk,Below.heap_setCell _ _ _ _ hk,Below.heap_setCell _ _ _ _ hk,Below.heap_setCell _ _ _ _ hk,Below.heap_setCell _ _ _ _ hk]
  have z5:Besides vb wa (((((wa.setCell ⟨vb,0,none⟩ B0).setCell ⟨vb,1,none⟩ B1).setCell ⟨vb,2,none⟩ B2).setCell ⟨vb,3,none⟩ B3).setCell ⟨vb,4,none⟩ B4):=(((((Besides.refl vb wa).set1).set1).set1).set1).set1
  generalize (((((wa.setCell ⟨vb,0,none⟩ B0).setCell ⟨vb,1,none⟩ B1).setCell ⟨vb,2,none⟩ B2).setCell ⟨vb,3,none⟩ B3).setCell ⟨vb,4,none⟩ B4) = w5 at *
  have n5:blk w5 nb 3 #[.int .i64 0]:=hn'.keep (k5 nb (Ne.symm h12))
  have e5:blk w5 eb 26 #[.int .i64 0]:=he'.keep (k5 eb (Ne.symm h2))
  have n6:blk (w5.setCell ⟨nb,0,none⟩ (.int .i64 p)) nb 3 #[.int .i64 p]:=n5.set 0 (.int .i64 p)
  have e6:blk (w5.setCell ⟨nb,0,none⟩ (.int .i64 p)) eb 26 #[.int .i64 0]:=e5.keep (Below.heap_setCell _ _ _ _ (Ne.symm h3))
  have e7:blk ((w5.setCell ⟨nb,0,none⟩ (.int .i64 p)).setCell ⟨eb,0,none⟩ (.int .i64 er)) eb 26 #[.int .i64 er]:=e6.set 0 (.int .i64 er)
  refine ⟨z5.os.trans hb.os,z5.tape.trans hb.tape,z5.output.trans hb.output,?_,?_,?_,e7,?_⟩
  · have h6:=z5.size
    have h7:=hb.size
    show w.heap.size ≤ ((w5.setCell ⟨nb,0,none⟩ (.int .i64 p)).setCell ⟨eb,0,none⟩ (.int .i64 er)).heap.size
    simp [World.setCell]; omega
  · show obj ((w5.setCell ⟨nb,0,none⟩ (.int .i64 p)).setCell ⟨eb,0,none⟩ (.int .i64 er)) vb _ _ _ _ _
    exact (o5.keep (Below.heap_setCell _ _ _ _ h12)).keep (Below.heap_setCell _ _ _ _ h2)
  · show blk ((w5.setCell ⟨nb,0,none⟩ (.int .i64 p)).setCell ⟨eb,0,none⟩ (.int .i64 er)) nb _ _
    exact n6.keep (Below.heap_setCell _ _ _ _ h3)
  · intro k hk k1 k2 k3
    show ((w5.setCell ⟨nb,0,none⟩ (.int .i64 p)).setCell ⟨eb,0,none⟩ (.int .i64 er)).heap[k]? = _
    rw [Below.heap_setCell _ _ _ _ k3,Below.heap_setCell _ _ _ _ k2,k5 k k1]
    exact hb.block k hk
theorem catch_panicking (vb nb eb:Nat) (p er:Int) (older:List PanicEntry) (w:World) (hv:obj w vb (.int .i64 0) (.int .i64 0) (.string { data:=#[] }) (.slice none 0 0) (.slice none 0 0)) (hn:blk w nb 3 #[.int .i64 0]) (he:blk w eb 26 #[.int .i64 0]) (h12:vb ≠ nb) (h2:vb ≠ eb) (h3:nb ≠ eb) :
    CallsD Tryz.prog 77 #[.pointer (some ⟨vb,0,none⟩),.pointer (some ⟨nb,0,none⟩),.pointer (some ⟨eb,0,none⟩)] (.panicking ({ v:=.iface 120 (.agg #[.int .i64 p,.int .i64 er]),recovered:=false } :: older)) w fun e u' w' =>
      e = .returned (.tuple #[])∧u' = .panicking ({ v:=.iface 120 (.agg #[.int .i64 p,.int .i64 er]),recovered:=true } :: older)∧PQ vb nb eb p er w w':=by
  have h1:=as65
  refine callsD_of_wpS Tryz.func77 rfl fun c₀ cs hu=>?_
  apply wpS_seq
  apply wpS_region
  simp [wpOpsS,go_sem,recoverD,hu,Tryz.ntmps77,Exit.thenS,h1,Array.replicate]
  refine wpS_of_wp ?_
  go_wp2
  have hv':obj (w.alloc (Obj.cells #[.int .i64 p,.int .i64 er] 120)) vb (.int .i64 0) (.int .i64 0) (.string { data:=#[] }) (.slice none 0 0) (.slice none 0 0):=hv.keep (Below.heap_alloc _ _ _ hv.lt)
  have hn':blk (w.alloc (Obj.cells #[.int .i64 p,.int .i64 er] 120)) nb 3 #[.int .i64 0]:=hn.keep (Below.heap_alloc _ _ _ hn.lt)
  have he':blk (w.alloc (Obj.cells #[.int .i64 p,.int .i64 er] 120)) eb 26 #[.int .i64 0]:=he.keep (Below.heap_alloc _ _ _ he.lt)
  have hs':blk (w.alloc (Obj.cells #[.int .i64 p,.int .i64 er] 120)) w.heap.size 120 #[.int .i64 p,.int .i64 er]:=heap_new _ _
  have hb':Below w.heap.size w (w.alloc (Obj.cells #[.int .i64 p,.int .i64 er] 120)):=(Below.refl _ _).alloc (Nat.le_refl _) _
  have s1:vb ≠ w.heap.size:=Nat.ne_of_lt hv.lt
  have s2:nb ≠ w.heap.size:=Nat.ne_of_lt hn.lt
  have s3:eb ≠ w.heap.size:=Nat.ne_of_lt he.lt
  have HP:=Lib.hid (pq_of vb nb eb p er w _ hv' hn' he' h12 h2 h3 hb')
  generalize (w.alloc (Obj.cells #[.int .i64 p,.int .i64 er] 120)) = wa at *
  clear hb'
  generalize w.heap.size = sb at *
  obtain ⟨c0,c1,c2,c3,c4⟩:=hv'.cells
  have f0:=hv'.frozen 0
  have f1:=hv'.frozen 1
  have f2:=hv'.frozen 2
  have f3:=hv'.frozen 3
  have f4:=hv'.frozen 4
  have n0:wa.cell? ⟨nb,0,none⟩ = some (.int .i64 0):=hn'.cell 0
  have n1:=hn'.frozen 0
  have e0:wa.cell? ⟨eb,0,none⟩ = some (.int .i64 0):=he'.cell 0
  have e1:=he'.frozen 0
  have k0:wa.cell? ⟨sb,0,none⟩ = some (.int .i64 p):=hs'.cell 0
  have k1:wa.cell? ⟨sb,1,none⟩ = some (.int .i64 er):=hs'.cell 1
  go_region
  refine ⟨rfl,_,rfl,_,?_,rfl,rfl,HP.out⟩
  first | exact results_none rfl _ _ _ | simp [results,Tryz.results77]
def RP (b:List UInt8) (w w':World) (e:Ending):Prop:=Below w.heap.size w w'∧((∃ t x y j,e = .returned (.tuple #[vv t x y,.int .i64 (j:Nat),.int .i64 0])∧RV (fun x=>w.heap.size ≤ x) w' t x y∧TOK t∧Run b (.go [] 0) (.val t j)∧b.length ≤ 1048576) ∨
  ∃ (p:Nat) (er:Int),e = .returned (.tuple #[.agg #[.int .i64 0,.int .i64 0,.string { data:=#[] },.slice none 0 0,.slice none 0 0],.int .i64 p,.int .i64 er])∧((Run b (.go [] 0) (.bad p er)∧b.length ≤ 1048576) ∨ (1048576 < b.length∧p = 0∧er = 20)))
theorem rd_boxes (a:Option Addr) (c:Nat) (b:List UInt8) (w:World) (hc:b.length ≤ c) (hev:(∃ t p,w.cell? ⟨3,0,none⟩ = some (.iface t p))∧∃ t p,w.cell? ⟨4,0,none⟩ = some (.iface t p))
    (hx:b = [] ∨ ∃ g o,a = some ⟨g,o,none⟩∧g < w.heap.size∧∀ i,i < b.length → w.cell? ⟨g,o + i,none⟩ = some (.int .u8 ((byt b i).toNat:Int))) (hl3:b.length ≤ 1048576) :
    Hid (RR (w.heap.size + 1 + 1 + 1) ((((w.alloc (Obj.cells #[.int .i64 0,.int .i64 0,.string { data:=#[] },.slice none 0 0,.slice none 0 0] 55)).alloc (Obj.cells #[.int .i64 0] 3)).alloc (Obj.cells #[.int .i64 0] 26)).alloc (Obj.cells #[.slice a b.length c,.int .i64 0] 123)) a c b 0 ∧
      obj ((((w.alloc (Obj.cells #[.int .i64 0,.int .i64 0,.string { data:=#[] },.slice none 0 0,.slice none 0 0] 55)).alloc (Obj.cells #[.int .i64 0] 3)).alloc (Obj.cells #[.int .i64 0] 26)).alloc (Obj.cells #[.slice a b.length c,.int .i64 0] 123)) w.heap.size (.int .i64 0) (.int .i64 0) (.string { data:=#[] }) (.slice none 0 0) (.slice none 0 0) ∧
      blk ((((w.alloc (Obj.cells #[.int .i64 0,.int .i64 0,.string { data:=#[] },.slice none 0 0,.slice none 0 0] 55)).alloc (Obj.cells #[.int .i64 0] 3)).alloc (Obj.cells #[.int .i64 0] 26)).alloc (Obj.cells #[.slice a b.length c,.int .i64 0] 123)) (w.heap.size + 1) 3 #[.int .i64 0] ∧
      blk ((((w.alloc (Obj.cells #[.int .i64 0,.int .i64 0,.string { data:=#[] },.slice none 0 0,.slice none 0 0] 55)).alloc (Obj.cells #[.int .i64 0] 3)).alloc (Obj.cells #[.int .i64 0] 26)).alloc (Obj.cells #[.slice a b.length c,.int .i64 0] 123)) (w.heap.size + 1 + 1) 26 #[.int .i64 0] ∧
      Below w.heap.size w ((((w.alloc (Obj.cells #[.int .i64 0,.int .i64 0,.string { data:=#[] },.slice none 0 0,.slice none 0 0] 55)).alloc (Obj.cells #[.int .i64 0] 3)).alloc (Obj.cells #[.int .i64 0] 26)).alloc (Obj.cells #[.slice a b.length c,.int .i64 0] 123))):=by
  generalize ha:(w.alloc (Obj.cells #[.int .i64 0,.int .i64 0,.string { data:=#[] },.slice none 0 0,.slice none 0 0] 55)) = wa
  have sa:wa.heap.size = w.heap.size + 1:=by rw [← ha]; simp
  have oa:obj wa w.heap.size (.int .i64 0) (.int .i64 0) (.string { data:=#[] }) (.slice none 0 0) (.slice none 0 0):=by rw [← ha]; exact heap_new _ _
  have ba:Below w.heap.size w wa:=by rw [← ha]; exact (Below.refl _ _).alloc (Nat.le_refl _) _
  generalize hb:wa.alloc (Obj.cells #[.int .i64 0] 3) = wb
  have sb:wb.heap.size = w.heap.size + 1 + 1:=by rw [← hb]; simp [sa]
  have ob:blk wb (w.heap.size + 1) 3 #[.int .i64 0]:=by rw [← hb, ← sa]; exact heap_new _ _
  have bb:Below wa.heap.size wa wb:=by rw [← hb]; exact (Below.refl _ _).alloc (Nat.le_refl _) _
  generalize hcc:wb.alloc (Obj.cells #[.int .i64 0] 26) = wc
  have sc:wc.heap.size = w.heap.size + 1 + 1 + 1:=by rw [← hcc]; simp [sb]
  have oc:blk wc (w.heap.size + 1 + 1) 26 #[.int .i64 0]:=by rw [← hcc, ← sb]; exact heap_new _ _
  have bc:Below wb.heap.size wb wc:=by rw [← hcc]; exact (Below.refl _ _).alloc (Nat.le_refl _) _
  generalize hd:wc.alloc (Obj.cells #[.slice a b.length c,.int .i64 0] 123) = wd
  have od:blk wd (w.heap.size + 1 + 1 + 1) 123 #[.slice a b.length c,.int .i64 0]:=by rw [← hd, ← sc]; exact heap_new _ _
  have bd:Below wc.heap.size wc wd:=by rw [← hd]; exact (Below.refl _ _).alloc (Nat.le_refl _) _
  have bw:Below w.heap.size w wd:=((ba.trans (bb.mono (by omega))).trans (bc.mono (by omega))).trans (bd.mono (by omega))
  obtain ⟨⟨t1,p1,h1⟩,⟨t2,p2,h2⟩⟩:=hev
  have l1:=World.block_lt_of_cell? w _ h1
  have l2:=World.block_lt_of_cell? w _ h2
  refine ⟨⟨⟨od,?_,?_,⟨t1,p1,(World.cell?_of_block (w:=w) (bw.block 3 l1)).trans h1⟩,⟨t2,p2,(World.cell?_of_block (w:=w) (bw.block 4 l2)).trans h2⟩⟩,Nat.zero_le _,hc,hl3,?_⟩,((oa.keep (bb.block _ oa.lt)).keep (bc.block _ (by omega))).keep (bd.block _ (by omega)),(ob.keep (bc.block _ ob.lt)).keep (bd.block _ (by omega)),oc.keep (bd.block _ oc.lt),bw⟩
  · have l1':3 < w.heap.size:=l1
    omega
  · have l2':4 < w.heap.size:=l2
    omega
  · rcases hx with h | ⟨g,o,h3,h4,h5⟩
    · exact .inl h
    · exact .inr ⟨g,o,h3,by omega,Nat.lt_of_lt_of_le h4 bw.size,fun i hi=>(World.cell?_of_block (w:=w) (bw.block g h4)).trans (h5 i hi)⟩
set_option maxRecDepth 10000 in
set_option maxHeartbeats 1000000 in
theorem read20 (a:Option Addr) (c:Nat) (b:List UInt8) (w:World) (hc:b.length ≤ c) (hev:(∃ t p,w.cell? ⟨3,0,none⟩ = some (.iface t p))∧∃ t p,w.cell? ⟨4,0,none⟩ = some (.iface t p))
    (hx:b = [] ∨ ∃ g o,a = some ⟨g,o,none⟩∧g < w.heap.size∧∀ i,i < b.length → w.cell? ⟨g,o + i,none⟩ = some (.int .u8 ((byt b i).toNat:Int))) :
    Calls Tryz.prog 61 #[.slice a b.length c] w fun e w'=>RP b w w' e:=by
  have hmf:∀ (fn:Fn) (first cap:Array Value) (w:World),(Instr.makeFunc fn first cap).run Tryz.prog w = .ok (.func fn first cap) w:=fun _ _ _ _=>rfl
  by_cases hl:1048576 < b.length
  · have hl2:(1048576:Int) < (b.length:Int):=by omega
    clear hx
    go_enter_defers Tryz.func61,Tryz.ntmps61
    go_wp2
    simp [bodyPostD,Leaves,results,Tryz.results61,go_sem]
    exact ⟨(((Below.refl _ _).alloc (Nat.le_refl _) _).alloc (by simp) _).alloc (by simp; omega) _,.inr ⟨0,20,rfl,.inr ⟨hl,rfl,rfl⟩⟩⟩
  · have hl2:(b.length:Int) ≤ 1048576:=by omega
    have hl3:b.length ≤ 1048576:=by omega
    have HB:=rd_boxes a c b w hc hev hx hl3
    clear hx hev
    go_enter_defers Tryz.func61,Tryz.ntmps61
    go_wp2_with fail
    generalize (((w.alloc (Obj.cells #[.int .i64 0,.int .i64 0,.string { data:=#[] },.slice none 0 0,.slice none 0 0] 55)).alloc (Obj.cells #[.int .i64 0] 3)).alloc (Obj.cells #[.int .i64 0] 26)).alloc (Obj.cells #[.slice a b.length c,.int .i64 0] 123) = w0 at *
    generalize hvb:w.heap.size = vb at *
    have HVB:=Lib.hid hvb
    clear hvb
    refine (value34 b (b.length + 1) (vb + 1 + 1 + 1) a c [] 0 w0 (by omega) HB.out.1 (by simp) trivial).mono ?_
    rintro e w1 ⟨hb1,⟨t,u,j,rfl,hrn,hrr,hlt2,hrun,htok⟩ | ⟨p,er,rfl,hrun⟩⟩
    case inr =>
      obtain ⟨q1,q2,q3,q4,q5⟩:=HB.out
      refine leaves_cons (f:=77) (args:=#[.pointer (some ⟨vb,0,none⟩),.pointer (some ⟨vb + 1,0,none⟩),.pointer (some ⟨vb + 1 + 1,0,none⟩)]) (by simp) (by simp [go_sem]) ?_
      refine (catch_panicking vb (vb + 1) (vb + 1 + 1) p er [] w1 (q2.keep (hb1.block _ q2.lt (by omega))) (q3.keep (hb1.block _ q3.lt (by omega))) (q4.keep (hb1.block _ q4.lt (by omega))) (by omega) (by omega) (by omega)).mono ?_
      rintro e u' w2 ⟨rfl,rfl,p1,p2,p3,p4,p5,p6,p7,p8⟩
      obtain ⟨c0,c1,c2,c3,c4⟩:=p5.cells
      have c5:w2.cell? ⟨vb + 1,0,none⟩ = some (.int .i64 p):=p6.cell 0
      have c6:w2.cell? ⟨vb + 1 + 1,0,none⟩ = some (.int .i64 er):=p7.cell 0
      have HF:RP b w w2 (.returned (.tuple #[.agg #[.int .i64 0,.int .i64 0,.string { data:=#[] },.slice none 0 0,.slice none 0 0],.int .i64 p,.int .i64 er])):=by
        have hz:=q5.size
        have hb:=hb1.size
        have hv:=HVB.out
        refine ⟨⟨p1.trans (hb1.os.trans q5.os),p2.trans (hb1.tape.trans q5.tape),p3.trans (hb1.output.trans q5.output),by omega,fun k hk=>?_⟩,.inr ⟨p,er,rfl,.inl ⟨hrun,hl3⟩⟩⟩
        rw [p8 k (by omega) (by omega) (by omega) (by omega),hb1.block k (by omega) (by omega),q5.block k (by omega)]
      clear p1 p2 p3 p4 p5 p6 p7 p8 hrun q1 q2 q3 q4 q5
      simp [Leaves,settle,results,Tryz.results61,go_sem,c0,c1,c2,c3,c4,c5,c6]
      exact HF
    have hw1:w0.heap.size ≤ w1.heap.size:=hb1.size
    have hv1:obj w1 vb (.int .i64 0) (.int .i64 0) (.string { data:=#[] }) (.slice none 0 0) (.slice none 0 0):=HB.out.2.1.keep (hb1.block _ HB.out.2.1.lt (by omega))
    have hn1:blk w1 (vb + 1) 3 #[.int .i64 0]:=HB.out.2.2.1.keep (hb1.block _ HB.out.2.2.1.lt (by omega))
    have he1:blk w1 (vb + 1 + 1) 26 #[.int .i64 0]:=HB.out.2.2.2.1.keep (hb1.block _ HB.out.2.2.2.1.lt (by omega))
    have hB1:Below vb w w1:=by
      have q5:=HB.out.2.2.2.2
      have hv:=HVB.out
      exact ⟨hb1.os.trans q5.os,hb1.tape.trans q5.tape,hb1.output.trans q5.output,Nat.le_trans q5.size hw1,fun k hk=>(hb1.block k (by have:=q5.size; omega) (by omega)).trans (q5.block k hk)⟩
    obtain ⟨ty,uu,rfl⟩:∃ ty uu,u = .iface ty uu:=hrn.iface
    have H1:Hid (obj w1 vb (.int .i64 0) (.int .i64 0) (.string { data:=#[] }) (.slice none 0 0) (.slice none 0 0)∧blk w1 (vb + 1) 3 #[.int .i64 0]∧blk w1 (vb + 1 + 1) 26 #[.int .i64 0]∧Below vb w w1∧RR (vb + 1 + 1 + 1) w1 a c b j∧RN (fun x=>w0.heap.size ≤ x) w1 t (.iface ty uu)):=⟨hv1,hn1,he1,hB1,hrr,hrn⟩
    have HR:Hid (Run b (.go [] 0) (.val t j)∧TOK t):=⟨hrun,htok⟩
    clear hv1 hn1 he1 hB1 hrr hrn hrun htok hb1 HB hw1
    go_wp2_with fail
    refine (plain28 t (.iface ty uu) _ w1 HR.out.2.1 HR.out.2.2.1 H1.out.2.2.2.2.2).mono ?_
    rintro e w2 ⟨x',y',rfl,hrv,hb2⟩
    obtain ⟨⟨xa,xn,xc,rfl⟩,⟨ya,yn,yc,rfl⟩⟩:=hrv.slices
    have H2:Hid (obj w2 vb (.int .i64 0) (.int .i64 0) (.string { data:=#[] }) (.slice none 0 0) (.slice none 0 0)∧blk w2 (vb + 1) 3 #[.int .i64 0]∧blk w2 (vb + 1 + 1) 26 #[.int .i64 0]∧Below vb w w2∧RR (vb + 1 + 1 + 1) w2 a c b j∧RV (fun x=>vb + 1 + 1 + 1 < x) w2 t (.slice xa xn xc) (.slice ya yn yc)):=by
      obtain ⟨q1,q2,q3,q4,q5,q6⟩:=H1.out
      have hs:=q5.1.1.lt
      exact ⟨q1.keep (hb2.block _ q1.lt),q2.keep (hb2.block _ q2.lt),q3.keep (hb2.block _ q3.lt),q4.trans (hb2.mono (by omega)),q5.heap hb2,RV.keep (fun x hx=>by omega) (Nat.le_refl _) (fun _ _ _=>rfl) _ _ _ hrv⟩
    clear hrv hb2 H1
    unfold vv
    obtain ⟨c0,c1,c2,c3,c4⟩:=H2.out.1.cells
    have f0:=H2.out.1.frozen 0
    have f1:=H2.out.1.frozen 1
    have f2:=H2.out.1.frozen 2
    have f3:=H2.out.1.frozen 3
    have f4:=H2.out.1.frozen 4
    have n0:w2.cell? ⟨vb + 1,0,none⟩ = some (.int .i64 0):=H2.out.2.1.cell 0
    have n1:=H2.out.2.1.frozen 0
    have e0:w2.cell? ⟨vb + 1 + 1,0,none⟩ = some (.int .i64 0):=H2.out.2.2.1.cell 0
    have e1:=H2.out.2.2.1.frozen 0
    obtain ⟨r0,r1,_⟩:=H2.out.2.2.2.2.1.cells
    go_wp2
    have H3:Hid (obj ((((((w2.setCell ⟨vb,0,none⟩ (.int .i64 t.k)).setCell ⟨vb,1,none⟩ (.int .i64 t.n)).setCell ⟨vb,2,none⟩ (.string t.s)).setCell ⟨vb,3,none⟩ (.slice xa xn xc)).setCell ⟨vb,4,none⟩ (.slice ya yn yc))) vb (.int .i64 t.k) (.int .i64 t.n) (.string t.s) (.slice xa xn xc) (.slice ya yn yc)∧Besides vb w2 ((((((w2.setCell ⟨vb,0,none⟩ (.int .i64 t.k)).setCell ⟨vb,1,none⟩ (.int .i64 t.n)).setCell ⟨vb,2,none⟩ (.string t.s)).setCell ⟨vb,3,none⟩ (.slice xa xn xc)).setCell ⟨vb,4,none⟩ (.slice ya yn yc)))):=
      ⟨((((H2.out.1.set0 _).set1 _).set2 _).set3 _).set4 _,(((((Besides.refl vb w2).set1).set1).set1).set1).set1⟩
    clear c0 c1 c2 c3 c4 f0 f1 f2 f3 f4 n0 n1 e0 e1 r0 r1
    generalize (((((w2.setCell ⟨vb,0,none⟩ (.int .i64 t.k)).setCell ⟨vb,1,none⟩ (.int .i64 t.n)).setCell ⟨vb,2,none⟩ (.string t.s)).setCell ⟨vb,3,none⟩ (.slice xa xn xc)).setCell ⟨vb,4,none⟩ (.slice ya yn yc)) = w3 at *
    have H4:Hid (blk w3 (vb + 1) 3 #[.int .i64 0]∧blk w3 (vb + 1 + 1) 26 #[.int .i64 0]∧w3.cell? ⟨vb + 1 + 1 + 1,1,none⟩ = some (.int .i64 j)):=by
      obtain ⟨q1,q2,q3,q4,q5,q6⟩:=H2.out
      have hb:=H3.out.2
      exact ⟨q2.keep (hb.block _ q2.lt (by omega)),q3.keep (hb.block _ q3.lt (by omega)),hb.cell (p:=⟨vb + 1 + 1 + 1,1,none⟩) (by show vb + 1 + 1 + 1 ≠ vb; omega) q5.cells.2.1⟩
    obtain ⟨c0,c1,c2,c3,c4⟩:=H3.out.1.cells
    have f0:=H3.out.1.frozen 0
    have f1:=H3.out.1.frozen 1
    have f2:=H3.out.1.frozen 2
    have f3:=H3.out.1.frozen 3
    have f4:=H3.out.1.frozen 4
    have n0:w3.cell? ⟨vb + 1,0,none⟩ = some (.int .i64 0):=H4.out.1.cell 0
    have n1:=H4.out.1.frozen 0
    have e0:w3.cell? ⟨vb + 1 + 1,0,none⟩ = some (.int .i64 0):=H4.out.2.1.cell 0
    have e1:=H4.out.2.1.frozen 0
    have r1:=H4.out.2.2
    go_region
    have HFQ:=Lib.hid (fin_of vb (vb + 1) (vb + 1 + 1) j 0 _ _ _ _ _ (.int .i64 t.k) (.int .i64 t.n) (.string t.s) (.slice xa xn xc) (.slice ya yn yc) w3 w3 H3.out.1 H4.out.1 H4.out.2.1 (by omega) (by omega) (by omega) (Below.refl _ _))
    clear c0 c1 c2 c3 c4 f0 f1 f2 f3 f4 n0 n1 e0 e1 r1
    generalize (((((((w3.setCell ⟨vb,0,none⟩ (.int .i64 t.k)).setCell ⟨vb,1,none⟩ (.int .i64 t.n)).setCell ⟨vb,2,none⟩ (.string t.s)).setCell ⟨vb,3,none⟩ (.slice xa xn xc)).setCell ⟨vb,4,none⟩ (.slice ya yn yc)).setCell ⟨vb + 1,0,none⟩ (.int .i64 j)).setCell ⟨vb + 1 + 1,0,none⟩ (.int .i64 0)).drew = w4 at *
    go_wp2
    refine leaves_cons (f:=77) (args:=#[.pointer (some ⟨vb,0,none⟩),.pointer (some ⟨vb + 1,0,none⟩),.pointer (some ⟨vb + 1 + 1,0,none⟩)]) (by simp) (by simp [go_sem]) ?_
    refine (catch_idle vb (vb + 1) (vb + 1 + 1) w4).mono ?_
    rintro e u' w5 ⟨rfl,rfl,hb5⟩
    obtain ⟨p1,p2,p3,p4,p5,p6,p7,p8⟩:=HFQ.out
    replace p5:=p5.keep (hb5.block _ p5.lt)
    replace p6:=p6.keep (hb5.block _ p6.lt)
    replace p7:=p7.keep (hb5.block _ p7.lt)
    obtain ⟨c0,c1,c2,c3,c4⟩:=p5.cells
    have c5:w5.cell? ⟨vb + 1,0,none⟩ = some (.int .i64 j):=p6.cell 0
    have c6:w5.cell? ⟨vb + 1 + 1,0,none⟩ = some (.int .i64 0):=p7.cell 0
    have HF:RP b w w5 (.returned (.tuple #[.agg #[.int .i64 t.k,.int .i64 t.n,.string t.s,.slice xa xn xc,.slice ya yn yc],.int .i64 j,.int .i64 0])):=by
      obtain ⟨q1,q2,q3,q4,q5,q6⟩:=H2.out
      obtain ⟨_,h3⟩:=H3.out
      have hv:=HVB.out
      have z1:=q4.size
      have z2:=h3.size
      have z3:=hb5.size
      refine ⟨⟨hb5.os.trans (p1.trans (h3.os.trans q4.os)),hb5.tape.trans (p2.trans (h3.tape.trans q4.tape)),hb5.output.trans (p3.trans (h3.output.trans q4.output)),by omega,fun k hk=>?_⟩,.inl ⟨t,_,_,j,rfl,?_,HR.out.2,HR.out.1,hl3⟩⟩
      · rw [hb5.block k (by omega),p8 k (by omega) (by omega) (by omega) (by omega),h3.block k (by omega) (by omega),q4.block k (by omega)]
      · exact RV.keep (fun x hx=>by show w.heap.size ≤ x; omega) (by omega) (fun x hx hl=>by rw [hb5.block x (by omega),p8 x (by omega) (by omega) (by omega) (by omega),h3.block x (by omega) (by omega)]) _ _ _ q6
    clear p1 p2 p3 p4 p5 p6 p7 p8 HFQ H2 H3 H4 HR hb5
    simp [Leaves,settle,results,Tryz.results61,go_sem,c0,c1,c2,c3,c4,c5,c6]
    exact HF
def dg (a:Nat) (c:UInt8):Nat:=a * 10 + (c.toNat - 48)
def dval (acc:Nat) (l:List UInt8):Nat:=l.foldl dg acc
def allDig (l:List UInt8):Prop:=∀ c ∈ l,48 ≤ c.toNat∧c.toNat ≤ 57
theorem dval_cons (acc:Nat) (c:UInt8) (r:List UInt8):dval acc (c :: r) = dval (acc * 10 + (c.toNat - 48)) r:=List.foldl_cons ..
theorem dval_nil (acc:Nat):dval acc [] = acc:=List.foldl_nil ..
theorem dval_snoc (l:List UInt8) (c:UInt8):∀ acc,dval acc (l ++ [c]) = dval acc l * 10 + (c.toNat - 48):=by
  induction l with
  | nil=>intro acc; rw [List.nil_append,dval_cons,dval_nil,dval_nil]
  | cons x l ih=>intro acc; rw [List.cons_append,dval_cons,dval_cons,ih]
theorem dval_ge:∀ (l:List UInt8) (acc:Nat),acc * 10 ^ l.length ≤ dval acc l
  | [],acc=>by rw [dval_nil]; simp
  | c :: l,acc=>by
    have h:=dval_ge l (acc * 10 + (c.toNat - 48))
    rw [dval_cons,List.length_cons,Nat.pow_succ]
    refine Nat.le_trans ?_ h
    rw [Nat.mul_comm (10 ^ l.length) 10, ← Nat.mul_assoc]
    exact Nat.mul_le_mul_right _ (Nat.le_add_right _ _)
theorem dval_le (l:List UInt8) (acc:Nat):acc ≤ dval acc l:=
  Nat.le_trans (Nat.le_mul_of_pos_right acc (Nat.pow_pos (by omega))) (dval_ge l acc)
theorem dval_lt:∀ (l:List UInt8) (acc:Nat),allDig l → dval acc l < (acc + 1) * 10 ^ l.length
  | [],acc,_=>by rw [dval_nil]; simp
  | c :: l,acc,h=>by
    have h1:=dval_lt l (acc * 10 + (c.toNat - 48)) (fun x hx=>h x (List.mem_cons_of_mem _ hx))
    have h2:=h c (List.mem_cons_self ..)
    rw [dval_cons,List.length_cons]
    refine Nat.lt_of_lt_of_le h1 ?_
    rw [Nat.pow_succ,Nat.mul_comm (10 ^ l.length) 10, ← Nat.mul_assoc]
    exact Nat.mul_le_mul_right _ (by omega)
theorem parse_dval:∀ (l:List UInt8) (acc:Nat),allDig l → dval acc l < 18446744073709551616 → Lib.parseUint10 acc l = .ok (dval acc l)
  | [],acc,_,_=>by rw [dval_nil]; rfl
  | c :: l,acc,h,hl=>by
    have h2:=h c (List.mem_cons_self ..)
    rw [dval_cons] at hl ⊢
    have h3:=hl
    have h4:=dval_le l (acc * 10 + (c.toNat - 48))
    simp only [Lib.parseUint10]
    rw [if_pos h2,if_neg (by omega),if_neg (by omega)]
    exact parse_dval l _ (fun x hx=>h x (List.mem_cons_of_mem _ hx)) h3
theorem parse_ok:∀ (l:List UInt8) (acc u:Nat),Lib.parseUint10 acc l = .ok u → u = dval acc l
  | [],acc,u,h=>by simp only [Lib.parseUint10] at h; injection h with h; rw [dval_nil]; exact h.symm
  | c :: l,acc,u,h=>by
    simp only [Lib.parseUint10] at h
    split at h
    · split at h
      · cases h
      · split at h
        · cases h
        · rw [dval_cons]; exact parse_ok l _ u h
    · cases h
theorem atoi_pos {d:List UInt8} (hd:allDig d) (hn:d ≠ []):(dval 0 d < 9223372036854775808 → Lib.atoiAll d = .ok (dval 0 d:Int))∧(9223372036854775808 ≤ dval 0 d → ∀ v,Lib.atoiAll d ≠ .ok v):=by
  cases d with
  | nil=>exact absurd rfl hn
  | cons c r =>
    have hc:=hd c (List.mem_cons_self ..)
    have e:Lib.atoiAll (c :: r) = match Lib.parseUint10 0 (c :: r) with
      | .«syntax»=>.«syntax»
      | .range=>.range
      | .ok u=>if 9223372036854775808 ≤ u then .range else .ok (u:Int):=by
      unfold Lib.atoiAll
      dsimp only
      rw [if_neg (by omega)]
      unfold Lib.parseMag
      rw [if_neg (by simp)]
      have h45:¬ c.toNat = 45:=by omega
      simp only [h45,not_false_eq_true,true_and,false_and,if_false]
      cases Lib.parseUint10 0 (c :: r) <;> rfl
    constructor
    · intro h
      rw [e,parse_dval _ _ hd (by omega)]
      dsimp only
      rw [if_neg (by omega)]
    · intro h v hv
      rw [e] at hv
      cases hp:Lib.parseUint10 0 (c :: r) with
      | «syntax»=>rw [hp] at hv; cases hv
      | range=>rw [hp] at hv; cases hv
      | ok u =>
        rw [hp] at hv
        have:=parse_ok _ _ _ hp
        dsimp only at hv
        rw [if_pos (by omega)] at hv
        cases hv
theorem atoi_neg {d:List UInt8} (hd:allDig d) (hn:d ≠ []):(dval 0 d ≤ 9223372036854775808 → Lib.atoiAll (45 :: d) = .ok (-(dval 0 d:Int)))∧(9223372036854775808 < dval 0 d → ∀ v,Lib.atoiAll (45 :: d) ≠ .ok v):=by
  have e:Lib.atoiAll (45 :: d) = match Lib.parseUint10 0 d with
      | .«syntax»=>.«syntax»
      | .range=>.range
      | .ok u=>if 9223372036854775808 < u then .range else .ok (-(u:Int)):=by
    unfold Lib.atoiAll
    dsimp only
    rw [if_pos (.inr rfl)]
    unfold Lib.parseMag
    rw [if_neg hn]
    have h45:(45:UInt8).toNat = 45:=rfl
    simp only [h45,not_true_eq_false,true_and,false_and,if_false,if_true]
    cases Lib.parseUint10 0 d <;> rfl
  constructor
  · intro h
    rw [e,parse_dval _ _ hd (by omega)]
    dsimp only
    rw [if_neg (by omega)]
  · intro h v hv
    rw [e] at hv
    cases hp:Lib.parseUint10 0 d with
    | «syntax»=>rw [hp] at hv; cases hv
    | range=>rw [hp] at hv; cases hv
    | ok u =>
      rw [hp] at hv
      have:=parse_ok _ _ _ hp
      dsimp only at hv
      rw [if_pos (by omega)] at hv
      cases hv
theorem less_dval:∀ (x y:List UInt8) (a:Nat),allDig x → allDig y → x.length = y.length → ((Op.bytesLess x y || x == y) = true ↔ dval a x ≤ dval a y)
  | [], [],a,_,_,_=>by simp [Op.bytesLess]
  | [],_ :: _,_,_,_,h=>by cases h
  | _ :: _, [],_,_,_,h=>by cases h
  | c :: x,d :: y,a,hx,hy,hl=>by
    have hc:=hx c (List.mem_cons_self ..)
    have hd:=hy d (List.mem_cons_self ..)
    have hx':allDig x:=fun z hz=>hx z (List.mem_cons_of_mem _ hz)
    have hy':allDig y:=fun z hz=>hy z (List.mem_cons_of_mem _ hz)
    have hl':x.length = y.length:=by simpa using hl
    have e:(Op.bytesLess (c :: x) (d :: y) || c :: x == d :: y) = (decide (c < d) || (c == d && (Op.bytesLess x y || x == y))):=by
      simp only [Op.bytesLess,List.cons_beq_cons]
      cases decide (c < d) <;> cases (c == d) <;> simp
    rw [e]
    by_cases h1:c = d
    · subst h1
      have:=less_dval x y (a * 10 + (c.toNat - 48)) hx' hy' hl'
      simp only [show decide (c < c) = false from by simp,beq_self_eq_true,Bool.true_and,Bool.false_or]
      rw [dval_cons,dval_cons]
      exact this
    · have h2:(c == d) = false:=by simpa using h1
      rw [h2,Bool.false_and,Bool.or_false]
      rw [dval_cons,dval_cons]
      have l1:=dval_lt x (a * 10 + (c.toNat - 48)) hx'
      have l2:=dval_ge y (a * 10 + (d.toNat - 48))
      have l3:=dval_lt y (a * 10 + (d.toNat - 48)) hy'
      have l4:=dval_ge x (a * 10 + (c.toNat - 48))
      rw [← hl'] at l2 l3
      have hne:c.toNat ≠ d.toNat:=fun e=>h1 (UInt8.toNat_inj.1 e)
      rw [decide_eq_true_iff,UInt8.lt_iff_toNat_lt]
      constructor
      · intro h
        have:(a * 10 + (c.toNat - 48) + 1) * 10 ^ x.length ≤ (a * 10 + (d.toNat - 48)) * 10 ^ x.length:=Nat.mul_le_mul_right _ (by omega)
        omega
      · intro h
        rcases Nat.lt_or_ge c.toNat d.toNat with h5 | h5
        · exact h5
        · have:(a * 10 + (d.toNat - 48) + 1) * 10 ^ x.length ≤ (a * 10 + (c.toNat - 48)) * 10 ^ x.length:=Nat.mul_le_mul_right _ (by omega)
          omega
def TX (w:World) (a:Option Addr) (c:Nat) (b:List UInt8):Prop:=
  b.length ≤ c∧b.length ≤ 1048576∧(b = [] ∨ ∃ g o,a = some ⟨g,o,none⟩∧g < w.heap.size∧∀ i,i < b.length → w.cell? ⟨g,o + i,none⟩ = some (.int .u8 ((byt b i).toNat:Int)))
theorem TX.keep {w w':World} {a:Option Addr} {c:Nat} {b:List UInt8} (h:TX w a c b) (hb:Below w.heap.size w w'):TX w' a c b:=by
  refine ⟨h.1,h.2.1,?_⟩
  rcases h.2.2 with h | ⟨g,o,h1,h2,h3⟩
  · exact .inl h
  · exact .inr ⟨g,o,h1,Nat.lt_of_lt_of_le h2 hb.size,fun i hi=>(World.cell?_of_block (w:=w) (hb.block g h2)).trans (h3 i hi)⟩
theorem TX.byte {w:World} {a:Option Addr} {c k:Nat} {b:List UInt8} (h:TX w a c b) (hk:k < b.length):∃ g o,a = some ⟨g,o,none⟩∧∀ i,i < b.length → w.cell? ⟨g,o + i,none⟩ = some (.int .u8 ((byt b i).toNat:Int)):=by
  rcases h.2.2 with rfl | ⟨g,o,h1,_,h4⟩
  · simp at hk
  · exact ⟨g,o,h1,h4⟩
theorem digit36 (c:UInt8) (w:World):Calls Tryz.prog 71 #[.int .u8 (c.toNat:Int)] w fun e w'=>e = .returned (.bool (dig c))∧w' = w:=by
  have e:dig c = (decide ((48:Int) ≤ (c.toNat:Int)) && decide ((c.toNat:Int) ≤ 57)):=by
    unfold dig
    rw [show decide (48 ≤ c) = decide ((48:Int) ≤ (c.toNat:Int)) from by simp [UInt8.le_iff_toNat_le]; omega,show decide (c ≤ 57) = decide ((c.toNat:Int) ≤ 57) from by simp [UInt8.le_iff_toNat_le]; omega]
  rw [e]
  generalize (c.toNat:Int) = z
  by_cases h1:48 ≤ z
  · go_enter Tryz.func71,Tryz.ntmps71
    go_wp2
    go_ret
    exact ⟨by simp [h1],rfl⟩
  · have h2:¬ (z ≥ 48):=h1
    go_enter Tryz.func71,Tryz.ntmps71
    go_wp2
    go_ret
    exact ⟨by simp; omega,rfl⟩
def pcT {α:Type} (r:Pc α) (val:α → Value) (zero:Value) (e:Ending):Prop:=match r with
  | .ok x j=>e = .returned (.tuple #[val x,.int .i64 (j:Nat),.int .i64 0])
  | .bad p er=>e = .returned (.tuple #[zero,.int .i64 (p:Nat),.int .i64 er])
theorem pcT.ok {α:Type} {r:Pc α} {val:α → Value} {zero:Value} {x:α} {j:Nat} (h:r = .ok x j):pcT r val zero (.returned (.tuple #[val x,.int .i64 (j:Nat),.int .i64 0])):=by subst h; rfl
theorem pcT.bad {α:Type} {r:Pc α} {val:α → Value} {zero:Value} {p:Nat} {er:Int} (h:r = .bad p er):pcT r val zero (.returned (.tuple #[zero,.int .i64 (p:Nat),.int .i64 er])):=by subst h; rfl
theorem run_pos {b:List UInt8} {i:Nat} (hi:i < b.length) (hd:dig (byt b i) = true):0 < run b i:=by
  rcases Nat.eq_zero_or_pos (run b i) with h | h
  · have:=run_end (b:=b) (i:=i) (by omega)
    rw [h,Nat.add_zero,hd] at this; cases this
  · exact h
theorem cut_all (b:List UInt8) (i:Nat) (hi:i ≤ b.length):allDig (cut b i (i + run b i)):=by
  intro c hc
  obtain ⟨k,hk,rfl⟩:=List.mem_iff_getElem.1 hc
  have hl:=cut_length (b:=b) (i:=i) (run_le hi)
  have h:=(run_lt (b:=b) (i:=i) (k:=k) (by omega)).2
  rw [← byt_cut (j:=i + run b i) (by omega),dig_iff] at h
  simpa [byt,List.getD,List.getElem?_eq_getElem hk] using h
theorem digs_at {b:List UInt8} {en:UInt8} {i:Nat} (hr:0 < run b i) (hk:i + run b i < b.length) (he:byt b (i + run b i) = en):digs b en i = .ok (cut b i (i + run b i)) (i + run b i + 1):=by
  unfold digs
  rw [if_neg (by omega),if_neg (by intro h; rcases h with h | h; omega; exact h he)]
theorem digs_far {b:List UInt8} {en:UInt8} {i:Nat} (hk:b.length ≤ i + run b i):digs b en i = .bad b.length 21:=by unfold digs; rw [if_pos hk]
theorem digs_off {b:List UInt8} {en:UInt8} {i:Nat} (hk:i + run b i < b.length) (he:run b i = 0 ∨ byt b (i + run b i) ≠ en):digs b en i = .bad (i + run b i) 22:=by unfold digs; rw [if_neg (by omega),if_pos he]
theorem padd_cut {b:List UInt8} {i:Nat} (hi:i ≤ b.length) (hr:0 < run b i):padd (cut b i (i + run b i)) = (decide (1 < run b i) && byt b i == 48):=by
  have hl:=cut_length (b:=b) (i:=i) (run_le hi)
  unfold padd
  rw [hl,show i + run b i - i = run b i from by omega,byt_cut (by omega),Nat.add_zero]
theorem strg_A {b:List UInt8} {i:Nat} (hk:b.length ≤ i + run b i):strg b i = .bad b.length 21:=by unfold strg; rw [digs_far hk]
theorem strg_B {b:List UInt8} {i:Nat} (hk:i + run b i < b.length) (he:byt b (i + run b i) ≠ 58):strg b i = .bad (i + run b i) 22:=by unfold strg; rw [digs_off hk (.inr he)]
theorem strg_C {b:List UInt8} {i:Nat} (hr:0 < run b i) (hk:i + run b i < b.length) (he:byt b (i + run b i) = 58) (h0:byt b i = 48) (h1:1 < run b i):strg b i = .bad i 23:=by
  unfold strg; rw [digs_at hr hk he]
  dsimp only
  rw [if_pos (by rw [padd_cut (by omega) hr]; simp [h0,h1])]
theorem dval_big {d:List UInt8} (hd:allDig d) (h7:7 < d.length) (h0:byt d 0 ≠ 48):10000000 ≤ dval 0 d:=by
  cases d with
  | nil=>simp at h7
  | cons x r =>
    have hx:=hd x (List.mem_cons_self ..)
    have h1:x.toNat ≠ 48:=fun e=>h0 (UInt8.toNat_inj.1 e)
    rw [dval_cons]
    have h2:=dval_ge r (0 * 10 + (x.toNat - 48))
    have h3:10 ^ 7 ≤ 10 ^ r.length:=Nat.pow_le_pow_right (by omega) (by simp at h7; omega)
    have h4:1 * 10 ^ r.length ≤ (0 * 10 + (x.toNat - 48)) * 10 ^ r.length:=Nat.mul_le_mul_right _ (by omega)
    omega
theorem strg_D {b:List UInt8} {i:Nat} (hb:b.length ≤ 1048576) (hr:0 < run b i) (hk:i + run b i < b.length) (he:byt b (i + run b i) = 58) (h0:byt b i ≠ 48) (h7:7 < run b i):strg b i = .bad b.length 21:=by
  have hd:=digs_at hr hk he
  have hp:padd (cut b i (i + run b i)) = false:=by rw [padd_cut (by omega) hr]; simp [h0]
  have hl:=cut_length (b:=b) (i:=i) (run_le (b:=b) (i:=i) (by omega))
  have hall:=cut_all b i (by omega)
  have hne:cut b i (i + run b i) ≠ []:=by intro e; rw [e] at hl; simp at hl; omega
  have hbig:=dval_big hall (by omega) (by rw [byt_cut (by omega)]; simpa using h0)
  obtain ⟨p1,p2⟩:=atoi_pos hall hne
  rcases Nat.lt_or_ge (dval 0 (cut b i (i + run b i))) 9223372036854775808 with h | h
  · exact strg_far hd hp (p1 h) (by omega)
  · exact strg_no hd hp (p2 h)
theorem dval_small {d:List UInt8} (hd:allDig d) (h7:d.length ≤ 7):dval 0 d < 10000000:=by
  have:=dval_lt d 0 hd
  have h3:10 ^ d.length ≤ 10 ^ 7:=Nat.pow_le_pow_right (by omega) h7
  omega
theorem strg_E {b:List UInt8} {i:Nat} (hr:0 < run b i) (hk:i + run b i < b.length) (he:byt b (i + run b i) = 58) (h0:¬ (byt b i = 48∧1 < run b i)) (h7:run b i ≤ 7) :
    strg b i = if b.length - (i + run b i) - 1 < dval 0 (cut b i (i + run b i)) then .bad b.length 21 else .ok ⟨(cut b (i + run b i + 1) (i + run b i + 1 + dval 0 (cut b i (i + run b i)))).toArray⟩ (i + run b i + 1 + dval 0 (cut b i (i + run b i))):=by
  have hd:=digs_at hr hk he
  have hp:padd (cut b i (i + run b i)) = false:=by
    rw [padd_cut (by omega) hr]
    by_cases e1:1 < run b i
    · by_cases e2:byt b i = 48
      · exact absurd ⟨e2,e1⟩ h0
      · simp [e2]
    · simp [e1]
  have hl:=cut_length (b:=b) (i:=i) (run_le (b:=b) (i:=i) (by omega))
  have hall:=cut_all b i (by omega)
  have hne:cut b i (i + run b i) ≠ []:=by intro e; rw [e] at hl; simp at hl; omega
  have hsm:=dval_small hall (by omega)
  have p1:=(atoi_pos hall hne).1 (by omega)
  by_cases h:b.length - (i + run b i) - 1 < dval 0 (cut b i (i + run b i))
  · rw [if_pos h]; exact strg_far hd hp p1 (by omega)
  · rw [if_neg h]; exact strg_ok hd hp p1 (by omega)
theorem cut_succ {b:List UInt8} {i k:Nat} (hk:i + k < b.length):cut b i (i + (k + 1)) = cut b i (i + k) ++ [byt b (i + k)]:=by
  unfold cut
  rw [show i + (k + 1) - i = k + 1 from by omega,show i + k - i = k from by omega,List.take_add_one,List.getElem?_drop]
  simp [byt,List.getD,List.getElem?_eq_getElem hk]
theorem cut_some (b:List UInt8) (i m:Nat) (hi:i ≤ b.length) (hm:m ≤ run b i):allDig (cut b i (i + m)):=by
  intro c hc
  have hr:=run_le hi
  obtain ⟨k,hk,rfl⟩:=List.mem_iff_getElem.1 hc
  have hl:=cut_length (b:=b) (i:=i) (j:=i + m) (by omega)
  have h:=(run_lt (b:=b) (i:=i) (k:=k) (by omega)).2
  rw [← byt_cut (j:=i + m) (by omega),dig_iff] at h
  simpa [byt,List.getD,List.getElem?_eq_getElem hk] using h
theorem cut_zero (b:List UInt8) (i:Nat):cut b i (i + 0) = []:=by unfold cut; simp
def TT (b:List UInt8) (i:Nat):Prop:=(b.length ≤ i + run b i → strg b i = .bad b.length 21)∧(i + run b i < b.length → byt b (i + run b i) ≠ 58 → strg b i = .bad (i + run b i) 22) ∧
  (i + run b i < b.length → byt b (i + run b i) = 58 → byt b i = 48 → 1 < run b i → strg b i = .bad i 23) ∧
  (i + run b i < b.length → byt b (i + run b i) = 58 → byt b i ≠ 48 → 7 < run b i → strg b i = .bad b.length 21) ∧
  (i + run b i < b.length → byt b (i + run b i) = 58 → ¬ (byt b i = 48∧1 < run b i) → run b i ≤ 7 → strg b i = if b.length - (i + run b i) - 1 < dval 0 (cut b i (i + run b i)) then .bad b.length 21 else .ok ⟨(cut b (i + run b i + 1) (i + run b i + 1 + dval 0 (cut b i (i + run b i)))).toArray⟩ (i + run b i + 1 + dval 0 (cut b i (i + run b i))))
theorem tt_of {b:List UInt8} {i:Nat} (hb:b.length ≤ 1048576) (hr:0 < run b i) (_:i < b.length):TT b i:=
  ⟨strg_A,strg_B,fun h1 h2 h3 h4=>strg_C hr h1 h2 h3 h4,fun h1 h2 h3 h4=>strg_D hb hr h1 h2 h3 h4,fun h1 h2 h3 h4=>strg_E hr h1 h2 h3 h4⟩
set_option maxRecDepth 10000 in
set_option maxHeartbeats 1000000 in
theorem str37 (a:Option Addr) (c:Nat) (b:List UInt8) (i:Nat) (w:World) (h:TX w a c b) (hi:i < b.length) (hd:dig (byt b i) = true) :
    Calls Tryz.prog 72 #[.slice a b.length c,.int .i64 i] w fun e w'=>w' = w∧pcT (strg b i) (fun s=>.string s) (.string { data:=#[] }) e:=by
  obtain ⟨g,o,rfl,hcell⟩:=h.byte hi
  have HC:=Lib.hid hcell
  have hl:=h.2.1
  have hcap:=h.1
  have hrl:=run_le (b:=b) (i:=i) (by omega)
  clear h hcell
  have HP:=Lib.hid (run_pos hi hd)
  go_enter Tryz.func72,Tryz.ntmps72
  go_wp2
  go_loopw [7] (fun v wr=>∃ m:Nat,m ≤ run b i∧v = .int .i64 ((i + m:Nat):Int)∧wr = w) (fun v _=>b.length - (intOf v).toNat)
  case atStart=>exact ⟨0,Nat.zero_le _,rfl,rfl⟩
  case round =>
    obtain ⟨m,hm,rfl,rfl⟩:=hrel
    by_cases hend:i + m < b.length∧dig (byt b (i + m)) = true
    · obtain ⟨h1,h2⟩:=hend
      have hmr:m < run b i:=by
        rcases Nat.lt_or_ge m (run b i) with h | h
        · exact h
        · have e:m = run b i:=by omega
          subst e
          rw [run_end h1] at h2; cases h2
      have hc:=HC.out (i + m) h1
      generalize hkm:i + m = k at *
      have k0:(0:Int) ≤ (k:Int):=by omega
      have k1:(k:Int) < (b.length:Int):=by omega
      go_wp2_with fail
      refine (digit36 _ _).mono ?_
      rintro e w2 ⟨rfl,rfl⟩
      rw [h2]
      go_wp2
      exact ⟨⟨m + 1,by omega,by rw [← hkm]; congr 1,trivial⟩,by simp [intOf]; omega⟩
    · have hmr:m = run b i:=by
        rcases Nat.lt_or_ge m (run b i) with h | h
        · exact absurd (run_lt h) hend
        · omega
      subst hmr
      have HT:Hid (TT b i):=Lib.hid (tt_of hl HP.out hi)
      have hij:i < i + run b i:=by have:=HP.out; omega
      clear hm
      have HCX:=HC
      generalize hK:i + run b i = K at *
      have K0:(0:Int) ≤ (K:Int):=by omega
      by_cases hKn:K < b.length
      · have hc:=HC.out K hKn
        have hdf:dig (byt b K) = false:=by
          rcases Bool.eq_false_or_eq_true (dig (byt b K)) with h | h
          · exact absurd ⟨hKn,h⟩ hend
          · exact h
        have K1:(K:Int) < (b.length:Int):=by omega
        have K2:¬ ((b.length:Int) ≤ (K:Int)):=by omega
        have hci:=HC.out i hi
        have i0:(0:Int) ≤ (i:Int):=by omega
        have i1:(i:Int) < (b.length:Int):=by omega
        clear hend
        go_wp2_with fail
        refine (digit36 _ _).mono ?_
        rintro e w2 ⟨rfl,rfl⟩
        rw [hdf]
        by_cases h58:byt b K = 58
        · rw [h58] at hc
          by_cases h48:byt b i = 48∧i + 1 < K
          · rw [h48.1] at hci
            have z1:(i:Int) + 1 < (K:Int):=by omega
            have HE:Hid (strg b i = .bad i 23):=Lib.hid (HT.out.2.2.1 (by omega) (by rw [hK]; exact h58) h48.1 (by omega))
            go_wp2
            refine bodyPost_ret (results_tmp3 rfl _ _ _) rfl ?_
            exact ⟨rfl,pcT.bad HE.out⟩
          · by_cases h7:7 < K - i
            · have HE:Hid (strg b i = .bad b.length 21):=Lib.hid (HT.out.2.2.2.1 (by omega) (by rw [hK]; exact h58) (fun e=>h48 ⟨e,by omega⟩) (by omega))
              have z7:(7:Int) < (K:Int) - (i:Int):=by omega
              have hz48:((byt b i).toNat:Int) ≠ 48:=u8_ne (fun e=>h48 ⟨e,by omega⟩)
              go_wp2
              refine bodyPost_ret (results_tmp3 rfl _ _ _) rfl ?_
              exact ⟨rfl,pcT.bad HE.out⟩
            have z7:¬ (7:Int) < (K:Int) - (i:Int):=by omega
            have HE:=Lib.hid (HT.out.2.2.2.2 (by omega) (by rw [hK]; exact h58) (fun h=>h48 ⟨h.1,by omega⟩) (by omega))
            rw [hK] at HE
            clear HT
            by_cases hz:byt b i = 48
            · rw [hz] at hci
              have hq1:¬ (i:Int) + 1 < (K:Int):=by have:¬ i + 1 < K:=fun h=>h48 ⟨hz,h⟩; omega
              go_wp2
              go_loopw [8,9] (fun v u wr=>∃ m:Nat,i + m ≤ K∧v = .int .i64 ((dval 0 (cut b i (i + m)):Nat):Int)∧u = .int .i64 ((i + m:Nat):Int)∧wr = w2) (fun _ u _=>K - (intOf u).toNat)
              case atStart=>exact ⟨0,by omega,by rw [cut_zero,dval_nil]; rfl,rfl,rfl⟩
              case round =>
                clear hc hci
                obtain ⟨m,hm,rfl,rfl,rfl⟩:=hrel
                by_cases hmK:i + m < K
                · have hcm:=HC.out (i + m) (by omega)
                  have hdm:=(dig_iff _).1 (run_lt (b:=b) (i:=i) (k:=m) (by omega)).2
                  have hbd:dval 0 (cut b i (i + m)) < 10000000:=dval_small (cut_some b i m (by omega) (by omega)) (by rw [cut_length (by omega)]; omega)
                  have hnx:dval 0 (cut b i (i + (m + 1))) = dval 0 (cut b i (i + m)) * 10 + ((byt b (i + m)).toNat - 48):=by rw [cut_succ (by omega),dval_snoc]
                  generalize dval 0 (cut b i (i + m)) = x at *
                  have hnx2:((dval 0 (cut b i (i + (m + 1))):Nat):Int) = 10 * (x:Int) + ((byt b (i + m)).toNat:Int) - 48:=by rw [hnx]; omega
                  have HNX:=Lib.hid hnx2
                  clear hnx hnx2
                  generalize hq:(byt b (i + m)).toNat = q at *
                  generalize hkm:i + m = k at *
                  have k0:(0:Int) ≤ (k:Int):=by omega
                  have k1:(k:Int) < (b.length:Int):=by omega
                  have k2:(k:Int) < (K:Int):=by omega
                  clear hq
                  go_wp2
                  refine ⟨⟨m + 1,by omega,?_,?_,trivial⟩,by simp [intOf]; omega⟩
                  · rw [HNX.out]
                  · rw [← hkm]; congr 1
                · have hKm:i + m = K:=by omega
                  have hsm:dval 0 (cut b i K) < 10000000:=dval_small (hK ▸ cut_all b i (by omega)) (by rw [cut_length (by omega)]; omega)
                  rw [hKm]
                  generalize dval 0 (cut b i K) = x at *
                  clear hm hmK hKm h58 h48 hdf
                  by_cases hx:b.length - K - 1 < x
                  · rw [if_pos hx] at HE
                    have z9:(b.length:Int) - (K:Int) - 1 < (x:Int):=by omega
                    go_wp2
                    refine bodyPost_ret (results_tmp3 rfl _ _ _) rfl ?_
                    exact ⟨rfl,pcT.bad HE.out⟩
                  · rw [if_neg hx] at HE
                    have z9:¬ (b.length:Int) - (K:Int) - 1 < (x:Int):=by omega
                    have y0:(0:Int) ≤ (K:Int) + 1:=by omega
                    have y1:(K:Int) + 1 ≤ (K:Int) + 1 + (x:Int):=by omega
                    have y2:(K:Int) + 1 + (x:Int) ≤ (c:Int):=by omega
                    have y3:(K:Int) + 1 + (x:Int) ≤ 1048576:=by omega
                    have y4:K + 1 + x ≤ c:=by omega
                    have hcv:=conv_cut (g:=g) (o:=o) (i:=K + 1) (j:=K + 1 + x) (cap:=c - (K + 1)) (b:=b) (w:=wr) (by omega) HC.out 9 Tryz.underlying9
                    rw [show K + 1 + x - (K + 1) = x from by omega] at hcv
                    by_cases hcK:c = K + 1
                    · have hcv2:=conv_cut (g:=g) (o:=o) (i:=0) (j:=0) (cap:=0) (b:=b) (w:=wr) (by omega) HC.out 9 Tryz.underlying9
                      have hx0:x = 0:=by omega
                      have hcc:cut b (K + 1) (K + 1 + x) = cut b 0 0:=by rw [hx0]; simp [cut]
                      have hcv3:(convert 22 9 (.slice (some ⟨g,o,none⟩) x 0)).run Tryz.prog wr = .ok (.string ⟨(cut b (K + 1) (K + 1 + x)).toArray⟩) wr:=by rw [hcc,hx0]; simpa using hcv2
                      clear hcv hcv2 hcc hx0
                      go_wp2
                      refine bodyPost_ret (results_tmp3 rfl _ _ _) rfl ?_
                      exact ⟨rfl,pcT.ok HE.out⟩
                    · go_wp2
                      refine bodyPost_ret (results_tmp3 rfl _ _ _) rfl ?_
                      exact ⟨rfl,pcT.ok HE.out⟩
            · have hz48:((byt b i).toNat:Int) ≠ 48:=u8_ne hz
              go_wp2
              go_loopw [8,9] (fun v u wr=>∃ m:Nat,i + m ≤ K∧v = .int .i64 ((dval 0 (cut b i (i + m)):Nat):Int)∧u = .int .i64 ((i + m:Nat):Int)∧wr = w2) (fun _ u _=>K - (intOf u).toNat)
              case atStart=>exact ⟨0,by omega,by rw [cut_zero,dval_nil]; rfl,rfl,rfl⟩
              case round =>
                clear hc hci
                obtain ⟨m,hm,rfl,rfl,rfl⟩:=hrel
                by_cases hmK:i + m < K
                · have hcm:=HC.out (i + m) (by omega)
                  have hdm:=(dig_iff _).1 (run_lt (b:=b) (i:=i) (k:=m) (by omega)).2
                  have hbd:dval 0 (cut b i (i + m)) < 10000000:=dval_small (cut_some b i m (by omega) (by omega)) (by rw [cut_length (by omega)]; omega)
                  have hnx:dval 0 (cut b i (i + (m + 1))) = dval 0 (cut b i (i + m)) * 10 + ((byt b (i + m)).toNat - 48):=by rw [cut_succ (by omega),dval_snoc]
                  generalize dval 0 (cut b i (i + m)) = x at *
                  have hnx2:((dval 0 (cut b i (i + (m + 1))):Nat):Int) = 10 * (x:Int) + ((byt b (i + m)).toNat:Int) - 48:=by rw [hnx]; omega
                  have HNX:=Lib.hid hnx2
                  clear hnx hnx2
                  generalize hq:(byt b (i + m)).toNat = q at *
                  generalize hkm:i + m = k at *
                  have k0:(0:Int) ≤ (k:Int):=by omega
                  have k1:(k:Int) < (b.length:Int):=by omega
                  have k2:(k:Int) < (K:Int):=by omega
                  clear hq
                  go_wp2
                  refine ⟨⟨m + 1,by omega,?_,?_,trivial⟩,by simp [intOf]; omega⟩
                  · rw [HNX.out]
                  · rw [← hkm]; congr 1
                · have hKm:i + m = K:=by omega
                  have hsm:dval 0 (cut b i K) < 10000000:=dval_small (hK ▸ cut_all b i (by omega)) (by rw [cut_length (by omega)]; omega)
                  rw [hKm]
                  generalize dval 0 (cut b i K) = x at *
                  clear hm hmK hKm h58 h48 hdf
                  by_cases hx:b.length - K - 1 < x
                  · rw [if_pos hx] at HE
                    have z9:(b.length:Int) - (K:Int) - 1 < (x:Int):=by omega
                    go_wp2
                    refine bodyPost_ret (results_tmp3 rfl _ _ _) rfl ?_
                    exact ⟨rfl,pcT.bad HE.out⟩
                  · rw [if_neg hx] at HE
                    have z9:¬ (b.length:Int) - (K:Int) - 1 < (x:Int):=by omega
                    have y0:(0:Int) ≤ (K:Int) + 1:=by omega
                    have y1:(K:Int) + 1 ≤ (K:Int) + 1 + (x:Int):=by omega
                    have y2:(K:Int) + 1 + (x:Int) ≤ (c:Int):=by omega
                    have y3:(K:Int) + 1 + (x:Int) ≤ 1048576:=by omega
                    have y4:K + 1 + x ≤ c:=by omega
                    have hcv:=conv_cut (g:=g) (o:=o) (i:=K + 1) (j:=K + 1 + x) (cap:=c - (K + 1)) (b:=b) (w:=wr) (by omega) HC.out 9 Tryz.underlying9
                    rw [show K + 1 + x - (K + 1) = x from by omega] at hcv
                    by_cases hcK:c = K + 1
                    · have hcv2:=conv_cut (g:=g) (o:=o) (i:=0) (j:=0) (cap:=0) (b:=b) (w:=wr) (by omega) HC.out 9 Tryz.underlying9
                      have hx0:x = 0:=by omega
                      have hcc:cut b (K + 1) (K + 1 + x) = cut b 0 0:=by rw [hx0]; simp [cut]
                      have hcv3:(convert 22 9 (.slice (some ⟨g,o,none⟩) x 0)).run Tryz.prog wr = .ok (.string ⟨(cut b (K + 1) (K + 1 + x)).toArray⟩) wr:=by rw [hcc,hx0]; simpa using hcv2
                      clear hcv hcv2 hcc hx0
                      go_wp2
                      refine bodyPost_ret (results_tmp3 rfl _ _ _) rfl ?_
                      exact ⟨rfl,pcT.ok HE.out⟩
                    · go_wp2
                      refine bodyPost_ret (results_tmp3 rfl _ _ _) rfl ?_
                      exact ⟨rfl,pcT.ok HE.out⟩
        · have HE:Hid (strg b i = .bad K 22):=Lib.hid (hK ▸ HT.out.2.1 (by omega) (by rw [hK]; exact h58))
          have z:((byt b K).toNat:Int) ≠ 58:=u8_ne h58
          go_wp2
          refine bodyPost_ret (results_tmp3 rfl _ _ _) rfl ?_
          exact ⟨rfl,pcT.bad HE.out⟩
      · have HE:Hid (strg b i = .bad b.length 21):=Lib.hid (HT.out.1 (by omega))
        have K1:¬ (K:Int) < (b.length:Int):=by omega
        have K2:(b.length:Int) ≤ (K:Int):=by omega
        clear hend
        go_wp2
        refine bodyPost_ret (results_tmp3 rfl _ _ _) rfl ?_
        exact ⟨rfl,pcT.bad HE.out⟩
end Go.Proofs.YtdlnnnlmlaploabGreatDoor
