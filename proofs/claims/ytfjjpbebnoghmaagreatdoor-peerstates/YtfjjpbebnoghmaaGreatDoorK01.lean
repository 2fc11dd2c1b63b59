import Derived.Test.YtfjjpbebnoghmaaGreatDoorK00
import Derived.Test.YtfjjpbebnoghmaaGreatDoorRows
import Derived.WalkKit
import Derived.BigQuiet
import Derived.Deep.QuietTactic
import Derived.WalkLawsBesides
import Derived.Lib.Hide
import Derived.Laws.OwnMore
import Derived.Below
import Derived.Lib.OwnKind
import Derived.Lib.AppendStr
import Derived.Laws.IdiomStrings
import Derived.Laws.CopyRow
import Derived.Lib.BufferWrite
import Derived.Laws.CopyOwn
import Derived.Deep.RegionLaw
import Derived.Laws.AppendOwnNone
import Derived.Laws.IdiomCopy
import Derived.Deep.MidRow
import Derived.Shelf.Abstract
namespace Go.Proofs.YtfjjpbebnoghmaaGreatDoor
open Go.RowKit
def byt (l:List UInt8) (i:Nat):UInt8:=l.getD i 0
def RB (w:World) (v:Value) (l:List UInt8):Prop:=
  ∃ a c,v = .slice a l.length c∧l.length≤c∧(l = []∨∃ g o,a = some ⟨g,o,none⟩∧g < w.heap.size∧∀ i,i < l.length→w.cell? ⟨g,o + i,none⟩ = some (.int .u8 ((byt l i).toNat:Int)))
theorem RB.keep {w w':World} {v:Value} {l:List UInt8} (h:RB w v l) (hb:Below w.heap.size w w'):RB w' v l:=by
  obtain ⟨a,c,rfl,hle,h⟩:=h
  refine ⟨a,c,rfl,hle,?_⟩
  rcases h with h | ⟨g,o,h1,h2,h3⟩
  · exact .inl h
  · exact .inr ⟨g,o,h1,Nat.lt_of_lt_of_le h2 hb.size,fun i hi=>(World.cell?_of_block (w:=w) (hb.block g h2)).trans (h3 i hi)⟩
theorem belowDrew (w:World) (n:Nat):Below w.heap.size w (w.drewN n):=⟨rfl,rfl,rfl,Nat.le_refl _,fun _ _=>rfl⟩
theorem belowN {B:Nat} {a w:World} (h:Below B a w) (n:Nat):Below B a (w.drewN n):=⟨h.os,h.tape,h.output,h.size,h.block⟩
theorem info5:(Tryz.prog.info? 5).map (fun i=>(i.zero,i.size,i.bytes)) = some (some (.int .u8 0),1,1):=by kernel_rfl
def OW (B:Nat) (w:World) (v:Value) (l:List UInt8):Prop:=w.ownsRow B 5 1 v l.length (Lib.byteCells l)
theorem getD_byt (l:List UInt8) (i:Nat) (hi:i < l.length):byt l i = l[i]:=by unfold byt; simp [List.getD,List.getElem?_eq_getElem hi]
theorem OW.rb {B:Nat} {w:World} {v:Value} {l:List UInt8} (h:OW B w v l):RB w v l:=by
  have h':=h
  rcases h.2 with ⟨rfl,h0⟩ | ⟨g,cap,cur,rfl,_,hg,hle,_⟩
  · have:l = []:=List.length_eq_zero_iff.1 h0
    subst this; exact ⟨none,0,rfl,Nat.le_refl _,.inl rfl⟩
  · refine ⟨_,cap,rfl,hle,.inr ⟨g,0,rfl,(Array.getElem?_eq_some_iff.1 hg).1,fun i hi=>?_⟩⟩
    have:=World.ownsRow.cellAt h' i (by omega)
    rw [Nat.zero_add,this,getD_byt l i hi]
    simp [Lib.byteCells,List.getElem?_eq_getElem hi]
theorem OW.form {B:Nat} {w:World} {v:Value} {l:List UInt8} (h:OW B w v l):∃ a c,v = .slice a l.length c:=by
  obtain ⟨a,c,h,_⟩:=h.rb
  exact ⟨a,c,h⟩
theorem OW.grow {B:Nat} {w w':World} {v:Value} {l:List UInt8} (h:OW B w v l) (hb:Below w.heap.size w w'):OW B w' v l:=by
  refine ⟨h.1,?_⟩
  rcases h.2 with h1 | ⟨g,cap,cur,h1,h2,h3,h4⟩
  · exact .inl h1
  · exact .inr ⟨g,cap,cur,h1,h2,(hb.block g (Array.getElem?_eq_some_iff.1 h3).1).trans h3,h4⟩
theorem OW.alloc {B:Nat} {w:World} {v:Value} {l:List UInt8} (h:OW B w v l) (o:Obj):OW B (w.alloc o) v l:=h.grow ((Below.refl _ _).alloc (Nat.le_refl _) _)
theorem append_byte {ops:Array Oper} {rest:List Oper} {o:Oper} {a:Act} {Q:Exit→Act→World→Prop} {w:World} {B:Nat} {sv:Value} {l:List UInt8} (hgd:o.guard = none) (s x:Operand)
    (ho:o.op = .call { callee:=.builtin .append,args:=#[s,x],argTypes:=#[37,37] }) (hs:a.eval s = sv) (hown:OW B w sv l) (b:Nat) (c:UInt8) (hx:a.eval x = .slice (some ⟨b,0,none⟩) 1 1)
    (hc:w.cell? ⟨b,0,none⟩ = some (.int .u8 c.toNat)) (hB:B≤w.heap.size) (hlim:l.length < 140737488351232)
    (h:∀ v' w',OW B w' v' (l ++ [c])→Below B w w'→wpList Tryz.prog ops Q rest (a.put o.dst v') w'):wpList Tryz.prog ops Q (o :: rest) a w:=by
  obtain ⟨i0,hi,hz0,hz1,hz2⟩:=info_parts info5
  refine wpList_append_own w hgd s x 37 ho B 5 i0 _ 1 1 Tryz.underlying37 hi hz0 hz1 hz2 rfl (by omega) sv l.length (Lib.byteCells l) hs hown ⟨b,0,none⟩ 1 1 [.int .u8 c.toNat] hx rfl (fun j u hu=>?_) (fun u hu=>?_) (by unfold maxLen; omega) (by omega) hB (fun v' w' h1 h2 _=>?_)
  · match j,hu with
    | 0,hu=>simp at hu; subst hu; simpa [Addr.add] using hc
  · simp at hu; subst hu; rfl
  · refine h v' w' ?_ ((Below.refl B w).grown h2 hB (fun k hk=>(World.ownsRow.lt hown k hk).1))
    have e:Lib.byteCells l ++ [Value.int .u8 c.toNat] = Lib.byteCells (l ++ [c]):=by simp [Lib.byteCells]
    rw [e] at h1
    simpa [OW] using h1
set_option maxHeartbeats 400000 in
theorem same (v1 v2:Value) (l:List UInt8) (w:World) (hl:l.length≤140737488351232) (h1:RB w v1 l) (h2:RB w v2 l) :
    Calls Tryz.prog 23 #[v1,v2] w fun e w'=>e = .returned (.bool true)∧∃ n,w' = w.drewN n:=by
  obtain ⟨a1,c1,rfl,_,h1⟩:=h1
  obtain ⟨a2,c2,rfl,_,h2⟩:=h2
  have HH:Hid ((l = []∨∃ g o,a1 = some ⟨g,o,none⟩∧g < w.heap.size∧∀ i,i < l.length→w.cell? ⟨g,o + i,none⟩ = some (.int .u8 ((byt l i).toNat:Int))) ∧
     (l = []∨∃ g o,a2 = some ⟨g,o,none⟩∧g < w.heap.size∧∀ i,i < l.length→w.cell? ⟨g,o + i,none⟩ = some (.int .u8 ((byt l i).toNat:Int)))):=⟨h1,h2⟩
  clear h1 h2
  generalize hn:l.length = n at *
  have HN:Hid (l.length = n):=hn
  clear hn
  go_enter Tryz.func23,Tryz.ntmps23
  go_wp2
  go_loopw [5] (fun i wr=>∃ k nq:Nat,k≤n∧i = .int .i64 k∧wr = w.drewN nq) (fun i _=>n - (intOf i).toNat)
  case atStart=>exact ⟨0,0,Nat.zero_le _,rfl,rfl⟩
  case round =>
    obtain ⟨k,nq,hk,rfl,rfl⟩:=hrel
    by_cases hlt:k < n
    · rcases HH.out.1 with h | ⟨g1,o1,rfl,_,h1⟩
      · have:=HN.out; rw [h] at this; simp at this; omega
      rcases HH.out.2 with h | ⟨g2,o2,rfl,_,h2⟩
      · have:=HN.out; rw [h] at this; simp at this; omega
      have g1:=h1 k hlt
      have g2:=h2 k hlt
      generalize ((byt l k).toNat:Int) = x at g1 g2
      clear h1 h2 HH HN
      go_wp2
      go_quiet (fail)
      go_wp2
      exact ⟨⟨k + 1,_,by omega,by go_num,rfl⟩,by simp [intOf]; omega⟩
    · go_wp2
      go_ret
      exact ⟨rfl,nq,rfl⟩
theorem take_snoc (l:List UInt8) (k:Nat) (h:k < l.length):l.take (k + 1) = l.take k ++ [byt l k]:=by
  rw [List.take_succ_eq_append_getElem h,getD_byt l k h]
def bc (l:List UInt8):Array Value:=(Lib.byteCells l).toArray
theorem bc_size (l:List UInt8):(bc l).size = l.length:=by simp [bc,Lib.byteCells]
theorem bc_list (l:List UInt8):(bc l).toList = Lib.byteCells l:=rfl
theorem bcl_append (l m:List UInt8):Lib.byteCells (l ++ m) = Lib.byteCells l ++ Lib.byteCells m:=by simp [Lib.byteCells]
theorem bcl_take (l:List UInt8) (n:Nat):(Lib.byteCells l).take n = Lib.byteCells (l.take n):=by simp [Lib.byteCells]
theorem bcl_drop (l:List UInt8) (n:Nat):(Lib.byteCells l).drop n = Lib.byteCells (l.drop n):=by simp [Lib.byteCells]
theorem bcl_len (l:List UInt8):(Lib.byteCells l).length = l.length:=by simp [Lib.byteCells]
theorem hs5:(Tryz.prog.info? 5).map (·.size) = some 1:=by kernel_rfl
theorem heapSetRow (w:World) (g:Nat) (cur cs:Array Value) (t:TypeId) (hg:w.heap[g]? = some (.cells cur t (0,0))):(w.setRow g cs).heap[g]? = some (.cells cs t (0,0)):=setRow_heap w g cur cs t (0,0) hg
theorem OW.mono {B B':Nat} {w:World} {v:Value} {l:List UInt8} (h:OW B w v l) (hb:B'≤B):OW B' w v l:=by
  refine ⟨h.1,?_⟩
  rcases h.2 with h1 | ⟨g,cap,cur,h1,h2,h3⟩
  · exact .inl h1
  · exact .inr ⟨g,cap,cur,h1,Nat.le_trans hb h2,h3⟩
theorem heapNew (w:World) (o:Obj):(w.alloc o).heap[w.heap.size]? = some o:=by show (w.heap.push o)[w.heap.size]? = some o; simp
theorem heapOld (w:World) (o:Obj) (i:Nat) (h:i < w.heap.size):(w.alloc o).heap[i]? = w.heap[i]?:=by show (w.heap.push o)[i]? = w.heap[i]?; simp [Array.getElem?_push,Nat.ne_of_lt h]
theorem copy_row (w:World) (ty:TypeId) (g o dl dc b so sl sc:Nat) (d s:List UInt8) (t:TypeId) (hg:w.heap[g]? = some (.cells (bc d) t (0,0))) (hn:s.length = Nat.min sl dl)
    (hs:∀ i,i < s.length→w.cell? ⟨b,so + i,none⟩ = some (.int .u8 ((byt s i).toNat:Int))) (hfit:o + s.length≤d.length) :
    (Builtin.copy_ #[37,37] ty #[.slice (some ⟨g,o,none⟩) dl dc,.slice (some ⟨b,so,none⟩) sl sc]).run Tryz.prog w =
      .ok (goInt s.length) (w.setRow g (bc (d.take o ++ s ++ d.drop (o + s.length)))):=by
  have h:=run_copy_row (P:=Tryz.prog) w 37 37 ty 5 g o dl dc ⟨b,so,none⟩ sl sc (bc d) t (Lib.byteCells s) Tryz.underlying37 hs5 hg (by rw [bcl_len]; exact hn)
    (fun j v hj=>by
      have hj':j < s.length:=by
        have:=(List.getElem?_eq_some_iff.1 hj).1
        rwa [bcl_len] at this
      have hadd:(⟨b,so,none⟩:Addr).add j = ⟨b,so + j,none⟩:=by unfold Addr.add; split <;> simp_all
      rw [hadd,hs j hj',getD_byt s j hj']
      simpa [Lib.byteCells,List.getElem?_eq_getElem hj'] using hj)
    (by rw [bcl_len,bc_size]; exact hfit) (Lib.byteCells_one _)
  rw [h,bcl_len]
  simp only [bc,bcl_append,bcl_take,bcl_drop]
theorem cell_bc {w:World} {g:Nat} {l:List UInt8} {t:TypeId} {f:Nat × Nat} (hg:w.heap[g]? = some (.cells (bc l) t f)) (i:Nat) (hi:i < l.length):w.cell? ⟨g,i,none⟩ = some (.int .u8 ((byt l i).toNat:Int)):=by
  simp [World.cell?,hg,bc,Lib.byteCells,hi,getD_byt l i hi]
theorem byt_drop (l:List UInt8) (n i:Nat):byt (l.drop n) i = byt l (n + i):=by simp [byt,List.getD]
theorem byt_take (l:List UInt8) (n i:Nat) (h:i < n):byt (l.take n) i = byt l i:=by simp [byt,List.getD,List.getElem?_take_of_lt h]
theorem belowSetRow {B g:Nat} {a w:World} (h:Below B a w) (hg:B≤g) (cs:Array Value):Below B a (w.setRow g cs):=below_setRow h hg cs
def zr (n:Nat):List UInt8:=List.replicate n 0
theorem zr_len (n:Nat):(zr n).length = n:=List.length_replicate
theorem zeros_bc (n:Nat):madeCells #[.int .u8 0] n = bc (zr n):=by
  unfold zr
  apply Array.ext'
  apply List.ext_getElem?
  intro i
  simp [bc,Lib.byteCells,madeCells,List.getElem?_replicate]
  by_cases h:i < n <;> simp [h,Nat.mod_one]
theorem make_bytes (n:Nat) (hn:n≤140737488351232) (u:World):(Instr.makeSlice 37 (.int .i64 (n:Int)) (.int .i64 (n:Int))).run Tryz.prog u =
      .ok (.slice (some ⟨u.heap.size,0,none⟩) n n) (u.alloc (.cells (bc (zr n)) 5)):=by
  obtain ⟨i0,hi,hz0,hz1,hz2⟩:=info_parts info5
  have h:=run_make (P:=Tryz.prog) u 37 5 i0 (.int .u8 0) Tryz.underlying37 hi hz0 .i64 .i64 (n:Int) (n:Int) (by omega) (by omega) (by rw [hz2]; omega) (by omega)
  rw [← zeros_bc]
  simpa [hz1,Value.cells] using h
theorem OW.of_block {B g cap:Nat} {w:World} {l m:List UInt8} (hB:B≤g) (hg:w.heap[g]? = some (.cells (bc m) 5 (0,0))) (hc:cap = m.length) (hl:m.take l.length = l) (hle:l.length≤m.length) (hm:m.length≤maxLen):OW B w (.slice (some ⟨g,0,none⟩) l.length cap) l:=by
  refine ⟨by simp [Lib.byteCells],.inr ⟨g,cap,bc m,rfl,hB,hg,by omega,by omega,by rw [bc_size,hc,Nat.mul_one],?_⟩⟩
  rw [bc_list,Nat.mul_one,bcl_take,hl]
theorem copy_part (w0 w:World) (G H o so n:Nat) (d s:List UInt8) (t t2:TypeId) (hg:w.heap[G]? = some (.cells (bc d) t (0,0))) (hh:w.heap[H]? = some (.cells (bc s) t2 (0,0))) (hne:H≠G) (hG:w0.heap.size≤G) (hso:so + n≤s.length) (hfit:o + n≤d.length) (hB:Below w0.heap.size w0 w) :
    ∃ W,(∀ ty dl dc sc,n≤dl→(Builtin.copy_ #[37,37] ty #[.slice (some ⟨G,o,none⟩) dl dc,.slice (some ⟨H,so,none⟩) n sc]).run Tryz.prog w = .ok (goInt n) W)∧W.heap[G]? = some (.cells (bc (d.take o ++ (s.drop so).take n ++ d.drop (o + n))) t (0,0))∧W.heap[H]? = some (.cells (bc s) t2 (0,0))∧Below w0.heap.size w0 W:=by
  have hlen:((s.drop so).take n).length = n:=by rw [List.length_take,List.length_drop]; omega
  refine ⟨_,fun ty dl dc sc hd=>?_,heapSetRow _ _ _ _ _ hg,?_,belowSetRow hB hG _⟩
  · have h:=copy_row w ty G o dl dc H so n sc d ((s.drop so).take n) t hg (by rw [hlen]; exact (Nat.min_eq_left hd).symm) (fun i hi=>by
      rw [hlen] at hi
      rw [byt_take _ _ _ hi,byt_drop]
      exact cell_bc hh (so + i) (by omega)) (by rw [hlen]; exact hfit)
    rw [hlen] at h
    exact h
  · rw [setRow_other _ _ _ _ hne]; exact hh
theorem splice_at {A P Z:List UInt8} {o n:Nat} (hA:A.length = o) (hP:P.length = n):(A ++ Z).take o ++ P ++ (A ++ Z).drop (o + n) = (A ++ P) ++ Z.drop n:=by
  subst hA hP
  rw [List.take_left,List.drop_append]
  simp
theorem cut_len (s:List UInt8) (a n:Nat) (h:a + n≤s.length):((s.drop a).take n).length = n:=by rw [List.length_take,List.length_drop]; omega
theorem cut_join (s:List UInt8) (a n m:Nat):(s.drop a).take n ++ (s.drop (a + n)).take m = (s.drop a).take (n + m):=by
  rw [List.take_add,List.drop_drop]
theorem append_nothing {w:World} {B:Nat} {v:Value} {n:Nat} {xs:List Value} (ty:TypeId) (c:Nat) (hown:w.ownsRow B 5 1 v n xs) :
    (Builtin.append_ #[37,37] ty #[v,.slice none 0 c]).run Tryz.prog w = .ok v w:=by
  obtain ⟨i0,hi,hz0,hz1,hz2⟩:=info_parts info5
  rcases hown.2 with ⟨rfl,rfl⟩ | ⟨g,cap,cur,rfl,_,_,hnc,_⟩
  · simp [Builtin.append_,run_underlying Tryz.underlying37,sizeOf,typeInfo,hi,Builtin.lenOf,Builtin.firstCells]
  · simp [Builtin.append_,run_underlying Tryz.underlying37,sizeOf,typeInfo,hi,Builtin.lenOf,Builtin.firstCells,hnc,storeCells]
theorem append_bytes {ops:Array Oper} {rest:List Oper} {o:Oper} {a:Act} {Q:Exit→Act→World→Prop} {w:World} {B:Nat} {sv xv:Value} {l m:List UInt8} (hgd:o.guard = none) (s x:Operand)
    (ho:o.op = .call { callee:=.builtin .append,args:=#[s,x],argTypes:=#[37,37] }) (hs:a.eval s = sv) (hown:OW B w sv l) (hx:a.eval x = xv)
    (hr:RB w xv m) (hB:B≤w.heap.size) (hlim:l.length + m.length≤140737488351232)
    (h:∀ v' w',OW B w' v' (l ++ m)→Below B w w'→wpList Tryz.prog ops Q rest (a.put o.dst v') w'):wpList Tryz.prog ops Q (o :: rest) a w:=by
  obtain ⟨i0,hi,hz0,hz1,hz2⟩:=info_parts info5
  obtain ⟨ad,c,rfl,_,hr⟩:=hr
  have hm:∀ b off,ad = some ⟨b,off,none⟩∧(∀ i,i < m.length→w.cell? ⟨b,off + i,none⟩ = some (.int .u8 ((byt m i).toNat:Int)))→wpList Tryz.prog ops Q (o :: rest) a w:=by
    rintro b off ⟨rfl,hc⟩
    refine wpList_append_own w hgd s x 37 ho B 5 i0 _ 1 1 Tryz.underlying37 hi hz0 hz1 hz2 rfl (by omega) sv l.length (Lib.byteCells l) hs hown ⟨b,off,none⟩ m.length c (Lib.byteCells m) hx (by rw [bcl_len,Nat.mul_one]) (fun j u hu=>?_) (Lib.byteCells_one _) (by unfold maxLen; omega) (by omega) hB (fun v' w' h1 h2 _=>?_)
    · have hj':j < m.length:=by
        have:=(List.getElem?_eq_some_iff.1 hu).1
        rwa [bcl_len] at this
      have hadd:(⟨b,off,none⟩:Addr).add j = ⟨b,off + j,none⟩:=by unfold Addr.add; split <;> simp_all
      rw [hadd,hc j hj',getD_byt m j hj']
      simpa [Lib.byteCells,List.getElem?_eq_getElem hj'] using hu
    · refine h v' w' ?_ ((Below.refl B w).grown h2 hB (fun k hk=>(World.ownsRow.lt hown k hk).1))
      rw [← bcl_append] at h1
      simpa [OW] using h1
  rcases hr with rfl | ⟨b,off,rfl,_,hc⟩
  · cases ad with
    | none =>
      refine wpList_plain hgd fun K hK=>?_
      have hrun:=append_nothing o.type c hown
      simp only [List.length_nil] at hx
      unfold Oper.wp
      simp [execOp,ho,resolve,invoke,builtin,hs,hx,hrun,Result.andThen]
      exact hK _ _ (h _ _ (by rw [List.append_nil]; exact hown) (Below.refl _ _))
    | some ad =>
      refine wpList_append_own w hgd s x 37 ho B 5 i0 _ 1 1 Tryz.underlying37 hi hz0 hz1 hz2 rfl (by omega) sv l.length (Lib.byteCells l) hs hown ad 0 c [] hx (by simp) (fun j u hu=>by simp at hu) (fun u hu=>by cases hu) (by unfold maxLen; simp at hlim; omega) (by simp at hlim; omega) hB (fun v' w' h1 h2 _=>?_)
      refine h v' w' ?_ ((Below.refl B w).grown h2 hB (fun k hk=>(World.ownsRow.lt hown k hk).1))
      rw [List.append_nil] at h1 ⊢
      simpa [OW] using h1
  · exact hm b off ⟨rfl,hc⟩
def be4 (n:Nat):List UInt8:=[UInt8.ofNat (n / 16777216),UInt8.ofNat (n / 65536),UInt8.ofNat (n / 256),UInt8.ofNat n]
def frm (l:List UInt8):List UInt8:=be4 l.length ++ l
theorem be4_len (n:Nat):(be4 n).length = 4:=rfl
theorem zr_get (n i:Nat) (h:i < n):(bc (zr n))[i]? = some (.int .u8 0):=by
  simp [bc,Lib.byteCells,zr,h]
theorem u8v (n:Nat):((UInt8.ofNat n).toNat:Int) = (n:Int) % 256:=by
  rw [UInt8.toNat_ofNat']; omega
theorem bc_one (l:List UInt8):(bc l).all (·.oneCell') = true:=by
  simp [bc,Lib.byteCells,Value.oneCell']
theorem copy_out (w0 w:World) (G o n b so:Nat) (d s:List UInt8) (t:TypeId) (hg:w.heap[G]? = some (.cells (bc d) t (0,0))) (hG:w0.heap.size≤G) (hs:s.length = n)
    (hc:∀ i,i < s.length→w.cell? ⟨b,so + i,none⟩ = some (.int .u8 ((byt s i).toNat:Int))) (hfit:o + n≤d.length) (hB:Below w0.heap.size w0 w) :
    ∃ W,(∀ ty dc sl sc,n≤sl→(Builtin.copy_ #[37,37] ty #[.slice (some ⟨G,o,none⟩) n dc,.slice (some ⟨b,so,none⟩) sl sc]).run Tryz.prog w = .ok (goInt n) W)∧W.heap[G]? = some (.cells (bc (d.take o ++ s ++ d.drop (o + n))) t (0,0))∧(∀ k,k≠G→W.heap[k]? = w.heap[k]?)∧Below w0.heap.size w0 W:=by
  subst hs
  refine ⟨_,fun ty dc sl sc hd=>?_,heapSetRow _ _ _ _ _ hg,fun k hk=>setRow_other _ _ _ _ hk,belowSetRow hB hG _⟩
  exact copy_row w ty G o s.length dc b so sl sc d s t hg (Nat.min_eq_right hd).symm hc hfit
structure Besides (cb:Nat) (w w':World):Prop where
  os:w'.os = w.os
  tape:w'.tape = w.tape
  output:w'.output = w.output
  size:w.heap.size≤w'.heap.size
  block:∀ k,k < w.heap.size→k≠cb→w'.heap[k]? = w.heap[k]?
theorem Besides.refl (cb:Nat) (w:World):Besides cb w w:=⟨rfl,rfl,rfl,Nat.le_refl _,fun _ _ _=>rfl⟩
theorem Besides.trans {cb:Nat} {a b c:World} (h:Besides cb a b) (g:Besides cb b c):Besides cb a c:=
  ⟨g.os.trans h.os,g.tape.trans h.tape,g.output.trans h.output,Nat.le_trans h.size g.size,fun k hk hc=>(g.block k (Nat.lt_of_lt_of_le hk h.size) hc).trans (h.block k hk hc)⟩
theorem Besides.of_below {cb:Nat} {w w':World} (h:Below w.heap.size w w'):Besides cb w w':=⟨h.os,h.tape,h.output,h.size,fun k hk _=>h.block k hk⟩
theorem Besides.below {cb B:Nat} {w0 w w':World} (h:Besides cb w w') (hb:Below B w0 w) (hB:B≤cb) (hs:B≤w.heap.size):Below B w0 w':=
  ⟨h.os.trans hb.os,h.tape.trans hb.tape,h.output.trans hb.output,Nat.le_trans hb.size h.size,fun k hk=>(h.block k (by omega) (by omega)).trans (hb.block k hk)⟩
theorem Besides.setCell (w:World) (g i:Nat) (u:Value):Besides g w (w.setCell ⟨g,i,none⟩ u):=
  ⟨rfl,rfl,rfl,by simp,fun k _ hc=>Below.heap_setCell w ⟨g,i,none⟩ u k hc⟩
theorem Besides.setRow (w:World) (g:Nat) (cs:Array Value):Besides g w (w.setRow g cs):=
  ⟨rfl,rfl,rfl,by simp [World.setRow],fun k _ hc=>setRow_other _ _ _ _ hc⟩
structure Mv where
  k:Int
  i:Int
  b:Int
  l:Int
  d:Value
  r:List UInt8
  ba:Int
  pr:Int
  h:Value
def Mv.ls (m:Mv):List Value:=[.int .i64 m.k,.int .i64 m.i,.int .i64 m.b,.int .i64 m.l,m.d] ++ (Lib.byteCells m.r ++ [.int .i64 m.ba,.int .i64 m.pr,m.h])
def Mv.cs (m:Mv):Array Value:=m.ls.toArray
structure Mv.ok (m:Mv):Prop where
  r:m.r.length = 32
  d:∃ a n c,m.d = .slice a n c
  h:∃ a n c,m.h = .slice a n c
theorem Mv.ok.size {m:Mv} (h:m.ok):m.cs.size = 40:=by simp [Mv.cs,Mv.ls,bcl_len,h.r]
theorem Mv.ok.one {m:Mv} (h:m.ok):m.cs.all (·.oneCell') = true:=by
  obtain ⟨a,n,c,hd⟩:=h.d
  obtain ⟨a2,n2,c2,hh⟩:=h.h
  simp [Mv.cs,Mv.ls,Lib.byteCells,Value.oneCell',hd,hh]
theorem ls_tail {A B C:List Value} {j n o:Nat} (hA:A.length = o) (hB:B.length = n):(A ++ (B ++ C))[o + n + j]? = C[j]?:=by
  subst hA hB
  rw [Nat.add_assoc,List.getElem?_append_right (by omega),List.getElem?_append_right (by omega)]
  congr 1; omega
theorem Mv.ok.g37 {m:Mv} (h:m.ok):m.ls[37]? = some (.int .i64 m.ba):=ls_tail (o:=5) (n:=32) (j:=0) rfl (by rw [bcl_len,h.r])
theorem Mv.ok.g38 {m:Mv} (h:m.ok):m.ls[38]? = some (.int .i64 m.pr):=ls_tail (o:=5) (n:=32) (j:=1) rfl (by rw [bcl_len,h.r])
theorem Mv.ok.g39 {m:Mv} (h:m.ok):m.ls[39]? = some m.h:=ls_tail (o:=5) (n:=32) (j:=2) rfl (by rw [bcl_len,h.r])
def MB (w:World) (g:Nat) (m:Mv):Prop:=w.heap[g]? = some (.cells m.cs 40 (0,0))
theorem MB.cell {w:World} {g:Nat} {m:Mv} (h:MB w g m) (j:Nat) {v:Value} (hj:m.ls[j]? = some v):w.cell? ⟨g,j,none⟩ = some v:=by
  unfold MB at h
  simp [World.cell?,h,Mv.cs,hj]
theorem MB.lt {w:World} {g:Nat} {m:Mv} (h:MB w g m):g < w.heap.size:=(Array.getElem?_eq_some_iff.1 h).1
theorem MB.c0 {w:World} {g:Nat} {m:Mv} (h:MB w g m):w.cell? ⟨g,0,none⟩ = some (.int .i64 m.k):=h.cell 0 rfl
theorem MB.c1 {w:World} {g:Nat} {m:Mv} (h:MB w g m):w.cell? ⟨g,1,none⟩ = some (.int .i64 m.i):=h.cell 1 rfl
theorem MB.c2 {w:World} {g:Nat} {m:Mv} (h:MB w g m):w.cell? ⟨g,2,none⟩ = some (.int .i64 m.b):=h.cell 2 rfl
theorem MB.c3 {w:World} {g:Nat} {m:Mv} (h:MB w g m):w.cell? ⟨g,3,none⟩ = some (.int .i64 m.l):=h.cell 3 rfl
theorem MB.c4 {w:World} {g:Nat} {m:Mv} (h:MB w g m):w.cell? ⟨g,4,none⟩ = some m.d:=h.cell 4 rfl
theorem MB.c37 {w:World} {g:Nat} {m:Mv} (h:MB w g m) (o:m.ok):w.cell? ⟨g,37,none⟩ = some (.int .i64 m.ba):=h.cell 37 o.g37
theorem MB.c38 {w:World} {g:Nat} {m:Mv} (h:MB w g m) (o:m.ok):w.cell? ⟨g,38,none⟩ = some (.int .i64 m.pr):=h.cell 38 o.g38
theorem MB.c39 {w:World} {g:Nat} {m:Mv} (h:MB w g m) (o:m.ok):w.cell? ⟨g,39,none⟩ = some m.h:=h.cell 39 o.g39
theorem MB.root {w:World} {g:Nat} {m:Mv} (h:MB w g m):w.rangeAt g 5 (Lib.byteCells m.r):=by
  intro j v hj
  refine h.cell (5 + j) ?_
  have hlt:=(List.getElem?_eq_some_iff.1 hj).1
  unfold Mv.ls
  rw [List.getElem?_append_right (by simp),List.getElem?_append_left (by simpa using hlt)]
  simpa using hj
theorem MB.free {w:World} {g:Nat} {m:Mv} (h:MB w g m) (j:Nat):w.frozen? ⟨g,j,none⟩ = false:=by
  unfold MB at h
  simp [World.frozen?,h]
theorem MB.below {w w':World} {g:Nat} {m:Mv} (h:MB w g m) (hb:Below w.heap.size w w'):MB w' g m:=(hb.block g h.lt).trans h
theorem MB.besides {w w':World} {g cb:Nat} {m:Mv} (h:MB w g m) (hb:Besides cb w w') (hc:g≠cb):MB w' g m:=(hb.block g h.lt hc).trans h
theorem MB.set {w:World} {g:Nat} {m m':Mv} (h:MB w g m) (j:Nat) (v:Value) (hm:m.ls.set j v = m'.ls):MB (w.setCell ⟨g,j,none⟩ v) g m':=by
  unfold MB at *
  have:(w.setCell ⟨g,j,none⟩ v).heap[g]? = some (.cells (m.cs.setIfInBounds j v) 40 (0,0)):=by
    show (w.heap.modify g _)[g]? = _
    rw [Array.getElem?_modify,if_pos rfl,h]
    rfl
  rw [this]
  have e:m.cs.setIfInBounds j v = m'.cs:=by
    apply Array.ext'
    simp [Mv.cs,hm]
  rw [e]
theorem Mv.set_tail {A B C:List Value} {j n o:Nat} (hA:A.length = o) (hB:B.length = n) (v:Value):(A ++ (B ++ C)).set (o + n + j) v = A ++ (B ++ C.set j v):=by
  subst hA hB
  rw [List.set_append_right _ _ (by omega),List.set_append_right _ _ (by omega)]
  congr 3; omega
theorem Mv.set37 {m:Mv} (h:m.ok) (x:Int):m.ls.set 37 (.int .i64 x) = { m with ba:=x }.ls:=Mv.set_tail (o:=5) (n:=32) (j:=0) rfl (by rw [bcl_len,h.r]) _
theorem Mv.set38 {m:Mv} (h:m.ok) (x:Int):m.ls.set 38 (.int .i64 x) = { m with pr:=x }.ls:=Mv.set_tail (o:=5) (n:=32) (j:=1) rfl (by rw [bcl_len,h.r]) _
theorem Mv.set39 {m:Mv} (h:m.ok) (x:Value):m.ls.set 39 x = { m with h:=x }.ls:=Mv.set_tail (o:=5) (n:=32) (j:=2) rfl (by rw [bcl_len,h.r]) _
theorem info_msg {m:Mv} (h:m.ok):(Tryz.prog.info? 40).map (·.size) = some m.cs.size:=by rw [h.size]; kernel_rfl
abbrev ptr (g:Nat) (i:Nat:=0):Value:=.pointer (some ⟨g,i,none⟩)
theorem of1T (w:World) (g:Nat):Calls Tryz.prog 121 #[ptr g] w fun e w'=>e = .returned (ptr g 1)∧w' = w:=by
  go_enter Tryz.func121,Tryz.ntmps121
  go_wp2
  go_ret
  exact ⟨rfl,rfl⟩
theorem of2T (w:World) (g:Nat):Calls Tryz.prog 122 #[ptr g] w fun e w'=>e = .returned (ptr g 2)∧w' = w:=by
  go_enter Tryz.func122,Tryz.ntmps122
  go_wp2
  go_ret
  exact ⟨rfl,rfl⟩
theorem of3T (w:World) (g:Nat):Calls Tryz.prog 123 #[ptr g] w fun e w'=>e = .returned (ptr g 3)∧w' = w:=by
  go_enter Tryz.func123,Tryz.ntmps123
  go_wp2
  go_ret
  exact ⟨rfl,rfl⟩
theorem of4T (w:World) (g:Nat):Calls Tryz.prog 124 #[ptr g] w fun e w'=>e = .returned (ptr g 3)∧w' = w:=by
  go_enter Tryz.func124,Tryz.ntmps124
  go_wp2
  go_ret
  exact ⟨rfl,rfl⟩
theorem of5T (w:World) (g:Nat):Calls Tryz.prog 126 #[ptr g] w fun e w'=>e = .returned (ptr g 37)∧w' = w:=by
  go_enter Tryz.func126,Tryz.ntmps126
  go_wp2
  go_ret
  exact ⟨rfl,rfl⟩
theorem of6T (w:World) (g:Nat):Calls Tryz.prog 127 #[ptr g] w fun e w'=>e = .returned (ptr g 38)∧w' = w:=by
  go_enter Tryz.func127,Tryz.ntmps127
  go_wp2
  go_ret
  exact ⟨rfl,rfl⟩
abbrev EN (f:Nat):Prop:=∀ (args:Array Value) (w:World),(callFunc f args).run Tryz.prog w = .ok (.enter f args) w
def OFC (f j:Nat):Prop:=∀ (w:World) (g:Nat),Calls Tryz.prog f #[ptr g] w fun e w'=>e = .returned (ptr g j)∧w' = w
theorem k1T (w:World) (g:Nat):Calls Tryz.prog 130 #[ptr g] w fun e w'=>e = .returned (.int .i64 1)∧w' = w:=by
  go_enter Tryz.func130,Tryz.ntmps130
  go_wp2
  go_ret
  exact ⟨rfl,rfl⟩
theorem o1T (w:World) (g:Nat):Calls Tryz.prog 135 #[ptr g] w fun e w'=>e = .returned (.int .i64 1)∧w' = w:=by
  go_enter Tryz.func135,Tryz.ntmps135
  go_wp2
  go_ret
  exact ⟨rfl,rfl⟩
theorem n1T (w:World) (g:Nat):Calls Tryz.prog 140 #[ptr g] w fun e w'=>e = .returned (.int .i64 4)∧w' = w:=by
  go_enter Tryz.func140,Tryz.ntmps140
  go_wp2
  go_ret
  exact ⟨rfl,rfl⟩
theorem r1T (w:World) (g:Nat):Calls Tryz.prog 147 #[ptr g] w fun e w'=>e = .returned (.int .i64 32)∧w' = w:=by
  go_enter Tryz.func147,Tryz.ntmps147
  go_wp2
  go_ret
  exact ⟨rfl,rfl⟩
theorem alwaysT (w:World) (g:Nat):Calls Tryz.prog 133 #[ptr g] w fun e w'=>e = .returned (.bool true)∧w' = w:=by
  go_enter Tryz.func133,Tryz.ntmps133
  go_wp2
  go_ret
  exact ⟨rfl,rfl⟩
theorem k4T (w:World) (g:Nat):Calls Tryz.prog 134 #[ptr g] w fun e w'=>e = .returned (.tuple #[])∧w' = w:=by
  go_enter Tryz.func134,Tryz.ntmps134
  go_wp2
  go_end0
  exact ⟨rfl,rfl⟩
theorem d1T (w:World) (g:Nat) (a:Option Addr) (n c:Nat) (h:w.cell? ⟨g,4,none⟩ = some (.slice a n c)):Calls Tryz.prog 151 #[ptr g] w fun e w'=>e = .returned (.int .i64 n)∧w' = w:=by
  go_enter Tryz.func151,Tryz.ntmps151
  go_wp2
  go_ret
  exact ⟨rfl,rfl⟩
theorem h1T (w:World) (g:Nat) (a:Option Addr) (n c:Nat) (hn:n≤140737488351232) (h:w.cell? ⟨g,39,none⟩ = some (.slice a n c)):Calls Tryz.prog 155 #[ptr g] w fun e w'=>e = .returned (.int .i64 (32 * n))∧w' = w:=by
  go_enter Tryz.func155,Tryz.ntmps155
  go_wp2
  go_ret
  exact ⟨rfl,rfl⟩
theorem o5T (w:World) (g:Nat) (m:Mv) (h:MB w g m):Calls Tryz.prog 139 #[ptr g] w fun e w'=>e = .returned (.tuple #[])∧w' = w.setCell ⟨g,1,none⟩ (.int .i64 0):=by
  have h1:=h.c1
  have h2:=h.free 1
  clear h
  go_enter Tryz.func139,Tryz.ntmps139
  go_wp2
  go_end0
  exact ⟨rfl,rfl⟩
theorem d4T (w:World) (g:Nat) (m:Mv) (h:MB w g m):Calls Tryz.prog 154 #[ptr g] w fun e w'=>e = .returned (.tuple #[])∧w' = w.setCell ⟨g,4,none⟩ (.slice none 0 0):=by
  have h1:=h.c4
  have h2:=h.free 4
  clear h
  go_enter Tryz.func154,Tryz.ntmps154
  go_wp2
  go_end0
  exact ⟨rfl,rfl⟩
theorem h2T (w:World) (g:Nat) (m:Mv) (ok:m.ok) (h:MB w g m):Calls Tryz.prog 158 #[ptr g] w fun e w'=>e = .returned (.tuple #[])∧w' = w.setCell ⟨g,39,none⟩ (.slice none 0 0):=by
  have h1:=h.c39 ok
  have h2:=h.free 39
  clear h
  go_enter Tryz.func158,Tryz.ntmps158
  go_wp2
  go_end0
  exact ⟨rfl,rfl⟩
theorem o4T (w:World) (g:Nat) (m:Mv) (h:MB w g m):Calls Tryz.prog 138 #[ptr g] w fun e w'=>e = .returned (.bool (decide (64≤m.i∧m.i≤255)))∧w' = w:=by
  have h1:=h.c1
  clear h
  generalize m.i = x at *
  by_cases c1:64≤x
  · by_cases c2:x≤255
    · rw [decide_eq_true ⟨c1,c2⟩]
      go_enter Tryz.func138,Tryz.ntmps138
      go_wp2
      go_ret
      exact ⟨rfl,rfl⟩
    · rw [decide_eq_false (fun h=>c2 h.2)]
      go_enter Tryz.func138,Tryz.ntmps138
      go_wp2
      go_ret
      exact ⟨rfl,rfl⟩
  · rw [decide_eq_false (fun h=>c1 h.1)]
    go_enter Tryz.func138,Tryz.ntmps138
    go_wp2
    go_ret
    exact ⟨rfl,rfl⟩
theorem n4T (w:World) (g p q s f j:Nat) (x lo hi:Int) (hp:w.cell? ⟨p,0,none⟩ = some (.func (.func f) #[] #[])) (hq:w.cell? ⟨q,0,none⟩ = some (.int .i64 lo)) (hs:w.cell? ⟨s,0,none⟩ = some (.int .i64 hi)) (he:EN f) (hf:OFC f j)
    (h1:w.cell? ⟨g,j,none⟩ = some (.int .i64 x)):Calls Tryz.prog 145 #[ptr g,ptr p,ptr q,ptr s] w fun e w'=>e = .returned (.bool (decide (lo≤x∧x≤hi)))∧w' = w:=by
  have HF:Hid (OFC f j):=hf
  clear hf
  by_cases c1:lo≤x
  · by_cases c2:x≤hi
    · rw [decide_eq_true ⟨c1,c2⟩]
      go_enter Tryz.func145,Tryz.ntmps145
      go_wp2_with fail
      refine (HF.out w g).mono ?_
      rintro e w1 ⟨rfl,rfl⟩
      go_wp2
      go_ret
      exact ⟨rfl,rfl⟩
    · rw [decide_eq_false (fun h=>c2 h.2)]
      go_enter Tryz.func145,Tryz.ntmps145
      go_wp2_with fail
      refine (HF.out w g).mono ?_
      rintro e w1 ⟨rfl,rfl⟩
      go_wp2
      go_ret
      exact ⟨by simp [c2],rfl⟩
  · rw [decide_eq_false (fun h=>c1 h.1)]
    go_enter Tryz.func145,Tryz.ntmps145
    go_wp2_with fail
    refine (HF.out w g).mono ?_
    rintro e w1 ⟨rfl,rfl⟩
    go_wp2
    go_ret
    exact ⟨rfl,rfl⟩
theorem n5T (w:World) (g p f j:Nat) (x:Int) (hp:w.cell? ⟨p,0,none⟩ = some (.func (.func f) #[] #[])) (he:EN f) (hf:OFC f j) (h1:w.cell? ⟨g,j,none⟩ = some (.int .i64 x)) (h2:w.frozen? ⟨g,j,none⟩ = false) :
    Calls Tryz.prog 146 #[ptr g,ptr p] w fun e w'=>e = .returned (.tuple #[])∧w' = w.setCell ⟨g,j,none⟩ (.int .i64 0):=by
  have HF:Hid (OFC f j):=hf
  clear hf
  go_enter Tryz.func146,Tryz.ntmps146
  go_wp2_with fail
  refine (HF.out w g).mono ?_
  rintro e w1 ⟨rfl,rfl⟩
  go_wp2
  go_end0
  exact ⟨rfl,rfl⟩
abbrev fnv (f:Nat):Value:=.func (.func f) #[] #[]
abbrev clo (f:Nat) (c:Array Value):Value:=.func (.func f) #[] c
def numVs (p q s:Nat):List Value:=[fnv 140,clo 141 #[ptr p],clo 143 #[ptr p],clo 145 #[ptr p,ptr q,ptr s],clo 146 #[ptr p]]
def NUM (w:World) (f:Nat) (lo hi:Int) (vs:List Value):Prop:=
  ∃ p q s,vs = numVs p q s∧w.heap[p]? = some (.cells #[fnv f] 173 (0,0))∧w.heap[q]? = some (.cells #[.int .i64 lo] 2 (0,0))∧w.heap[s]? = some (.cells #[.int .i64 hi] 2 (0,0))
def FLD (w:World) (c:Nat) (vs:List Value):Prop:=
  match c with
  | 1=>vs = [fnv 130,fnv 131,fnv 132,fnv 133,fnv 134]
  | 2=>vs = [fnv 135,fnv 136,fnv 137,fnv 138,fnv 139]
  | 3=>NUM w 121 0 4294967295 vs
  | 4=>NUM w 122 0 4294967295 vs
  | 5=>NUM w 123 0 4294967295 vs
  | 6=>NUM w 124 1 16384 vs
  | 7=>vs = [fnv 147,fnv 148,fnv 149,fnv 133,fnv 150]
  | 8=>NUM w 126 0 4294967295 vs
  | 9=>NUM w 127 0 4294967295 vs
  | 10=>vs = [fnv 151,fnv 152,fnv 153,fnv 133,fnv 154]
  | 11=>vs = [fnv 155,fnv 156,fnv 157,fnv 133,fnv 158]
  | _=>False
theorem NUM.keep {w w':World} {cb f:Nat} {lo hi:Int} {vs:List Value} (h:NUM w f lo hi vs) (hb:Besides cb w w') {cs:Array Value} {t:TypeId} (hc:w.heap[cb]? = some (.cells cs t (0,0))) (ht:t≠173∧t≠2):NUM w' f lo hi vs:=by
  obtain ⟨p,q,s,rfl,hp,hq,hs⟩:=h
  have key:∀ (k:Nat) (x:Array Value) (u:TypeId),w.heap[k]? = some (.cells x u (0,0))→t≠u→w'.heap[k]? = some (.cells x u (0,0)):=by
    intro k x u hk hu
    rw [← hk]
    refine hb.block k (Array.getElem?_eq_some_iff.1 hk).1 ?_
    rintro rfl
    rw [hc] at hk
    simp at hk
    exact hu hk.2
  exact ⟨p,q,s,rfl,key _ _ _ hp ht.1,key _ _ _ hq ht.2,key _ _ _ hs ht.2⟩
theorem NUM.below {w w':World} {f:Nat} {lo hi:Int} {vs:List Value} (h:NUM w f lo hi vs) (hb:Below w.heap.size w w'):NUM w' f lo hi vs:=by
  obtain ⟨p,q,s,rfl,hp,hq,hs⟩:=h
  exact ⟨p,q,s,rfl,(hb.block _ (Array.getElem?_eq_some_iff.1 hp).1).trans hp,(hb.block _ (Array.getElem?_eq_some_iff.1 hq).1).trans hq,(hb.block _ (Array.getElem?_eq_some_iff.1 hs).1).trans hs⟩
theorem FLD.below {w w':World} {c:Nat} {vs:List Value} (h:FLD w c vs) (hb:Below w.heap.size w w'):FLD w' c vs:=by
  unfold FLD at *
  split at h
  all_goals first | exact h | exact NUM.below h hb | exact absurd h id
theorem FLD.keep {w w':World} {cb c:Nat} {vs:List Value} (h:FLD w c vs) (hb:Besides cb w w') {cs:Array Value} {t:TypeId} (hc:w.heap[cb]? = some (.cells cs t (0,0))) (ht:t≠173∧t≠2):FLD w' c vs:=by
  unfold FLD at *
  split at h
  all_goals first | exact h | exact NUM.keep h hb hc ht | exact absurd h id
theorem FLD.len {w:World} {c:Nat} {vs:List Value} (h:FLD w c vs):∃ v0 v1 v2 v3 v4,vs = [v0,v1,v2,v3,v4]:=by
  unfold FLD at h
  split at h
  all_goals first |(subst h; exact ⟨_,_,_,_,_,rfl⟩) |(obtain ⟨p,q,s,rfl,_⟩:=h; exact ⟨_,_,_,_,_,rfl⟩) | exact absurd h id
theorem info_field:(Tryz.prog.info? 152).map (·.size) = some 5:=by kernel_rfl
theorem results_field {fn:Func} {p:Tmp} (h:fn.results = #[.cell p 152]) (tmps:Array Value) (w:World) (g:Nat) (cs:Array Value)
    (hp:tmps.getD p undef = .pointer (some ⟨g,0,none⟩)) (hg:w.heap[g]? = some (.cells cs 152 (0,0))) (hs:cs.size = 5):(results fn tmps).run Tryz.prog w = .ok (.agg cs) w:=by
  have hp':tmps[p]?.getD undef = .pointer (some ⟨g,0,none⟩):=by simpa using hp
  have hi:(Tryz.prog.info? 152).map (·.size) = some cs.size:=by rw [hs]; exact info_field
  simp [results,h,hp',asAddr,run_loadVar_row w g 152 152 cs (0,0) _ hg Tryz.underlying152 rfl hi]
abbrev nil5:Array Value:=#[.nilFunc,.nilFunc,.nilFunc,.nilFunc,.nilFunc]
theorem heapLast (w:World) (o:Obj) {g:Nat} (hg:g = w.heap.size):(w.alloc o).heap[g]? = some o:=by subst hg; exact heapNew w o
theorem kindFieldT (w:World):Calls Tryz.prog 118 #[] w fun e w'=>e = .returned (.agg #[fnv 130,fnv 131,fnv 132,fnv 133,fnv 134])∧Below w.heap.size w w':=by
  have hg:=heapNew w (.cells nil5 152)
  go_enter Tryz.func118,Tryz.ntmps118
  go_wp2_with (refine wpList_store_row rfl 152 _ _ rfl w.heap.size #[fnv 130,fnv 131,fnv 132,fnv 133,fnv 134] rfl rfl 152 nil5 hg info_field rfl (by simp [Value.oneCell']) ?_)
  exact bodyPost_ret (results_field Tryz.results118 _ _ w.heap.size _ rfl (heapSetRow _ _ _ _ _ hg) rfl) rfl ⟨rfl,belowSetRow ((Below.refl _ _).alloc (Nat.le_refl _) _) (Nat.le_refl _) _⟩
theorem otherFieldT (w:World):Calls Tryz.prog 119 #[] w fun e w'=>e = .returned (.agg #[fnv 135,fnv 136,fnv 137,fnv 138,fnv 139])∧Below w.heap.size w w':=by
  have hg:=heapNew w (.cells nil5 152)
  go_enter Tryz.func119,Tryz.ntmps119
  go_wp2_with (refine wpList_store_row rfl 152 _ _ rfl w.heap.size #[fnv 135,fnv 136,fnv 137,fnv 138,fnv 139] rfl rfl 152 nil5 hg info_field rfl (by simp [Value.oneCell']) ?_)
  exact bodyPost_ret (results_field Tryz.results119 _ _ w.heap.size _ rfl (heapSetRow _ _ _ _ _ hg) rfl) rfl ⟨rfl,belowSetRow ((Below.refl _ _).alloc (Nat.le_refl _) _) (Nat.le_refl _) _⟩
theorem rootFieldT (w:World):Calls Tryz.prog 125 #[] w fun e w'=>e = .returned (.agg #[fnv 147,fnv 148,fnv 149,fnv 133,fnv 150])∧Below w.heap.size w w':=by
  have hg:=heapNew w (.cells nil5 152)
  go_enter Tryz.func125,Tryz.ntmps125
  go_wp2_with (refine wpList_store_row rfl 152 _ _ rfl w.heap.size #[fnv 147,fnv 148,fnv 149,fnv 133,fnv 150] rfl rfl 152 nil5 hg info_field rfl (by simp [Value.oneCell']) ?_)
  exact bodyPost_ret (results_field Tryz.results125 _ _ w.heap.size _ rfl (heapSetRow _ _ _ _ _ hg) rfl) rfl ⟨rfl,belowSetRow ((Below.refl _ _).alloc (Nat.le_refl _) _) (Nat.le_refl _) _⟩
theorem dataFieldT (w:World):Calls Tryz.prog 128 #[] w fun e w'=>e = .returned (.agg #[fnv 151,fnv 152,fnv 153,fnv 133,fnv 154])∧Below w.heap.size w w':=by
  have hg:=heapNew w (.cells nil5 152)
  go_enter Tryz.func128,Tryz.ntmps128
  go_wp2_with (refine wpList_store_row rfl 152 _ _ rfl w.heap.size #[fnv 151,fnv 152,fnv 153,fnv 133,fnv 154] rfl rfl 152 nil5 hg info_field rfl (by simp [Value.oneCell']) ?_)
  exact bodyPost_ret (results_field Tryz.results128 _ _ w.heap.size _ rfl (heapSetRow _ _ _ _ _ hg) rfl) rfl ⟨rfl,belowSetRow ((Below.refl _ _).alloc (Nat.le_refl _) _) (Nat.le_refl _) _⟩
theorem hashesFieldT (w:World):Calls Tryz.prog 129 #[] w fun e w'=>e = .returned (.agg #[fnv 155,fnv 156,fnv 157,fnv 133,fnv 158])∧Below w.heap.size w w':=by
  have hg:=heapNew w (.cells nil5 152)
  go_enter Tryz.func129,Tryz.ntmps129
  go_wp2_with (refine wpList_store_row rfl 152 _ _ rfl w.heap.size #[fnv 155,fnv 156,fnv 157,fnv 133,fnv 158] rfl rfl 152 nil5 hg info_field rfl (by simp [Value.oneCell']) ?_)
  exact bodyPost_ret (results_field Tryz.results129 _ _ w.heap.size _ rfl (heapSetRow _ _ _ _ _ hg) rfl) rfl ⟨rfl,belowSetRow ((Below.refl _ _).alloc (Nat.le_refl _) _) (Nat.le_refl _) _⟩
theorem numberFieldT (w:World) (f:Nat) (lo hi:Int):Calls Tryz.prog 120 #[fnv f,.int .i64 lo,.int .i64 hi] w fun e w'=>∃ p q s,e = .returned (.agg (numVs p q s).toArray)∧NUM w' f lo hi (numVs p q s)∧Below w.heap.size w w':=by
  let w1:=w.alloc (.cells #[fnv f] 173)
  let w2:=w1.alloc (.cells #[.int .i64 lo] 2)
  let w3:=w2.alloc (.cells #[.int .i64 hi] 2)
  let w4:=w3.alloc (.cells nil5 152)
  have hmf:∀ (fn:Fn) (first cap:Array Value) (w:World),(Instr.makeFunc fn first cap).run Tryz.prog w = .ok (.func fn first cap) w:=fun _ _ _ _=>rfl
  have hg:w4.heap[w.heap.size + 3]? = some (.cells nil5 152 (0,0)):=by
    exact heapLast w3 _ (by simp [w3,w2,w1] <;> omega)
  have hp:w4.heap[w.heap.size]? = some (.cells #[fnv f] 173 (0,0)):=by
    rw [heapOld w3 _ _ (by simp [w3,w2,w1] <;> omega),heapOld w2 _ _ (by simp [w2,w1] <;> omega),heapOld w1 _ _ (by simp [w1] <;> omega),heapNew]
  have hq:w4.heap[w.heap.size + 1]? = some (.cells #[.int .i64 lo] 2 (0,0)):=by
    rw [heapOld w3 _ _ (by simp [w3,w2,w1] <;> omega),heapOld w2 _ _ (by simp [w2,w1] <;> omega)]
    exact heapLast w1 _ (by simp [w1] <;> omega)
  have hs:w4.heap[w.heap.size + 2]? = some (.cells #[.int .i64 hi] 2 (0,0)):=by
    rw [heapOld w3 _ _ (by simp [w3,w2,w1] <;> omega)]
    exact heapLast w2 _ (by simp [w2,w1] <;> omega)
  have hb:Below w.heap.size w w4:=((((Below.refl _ _).alloc (Nat.le_refl _) _).alloc (by simp) _).alloc (by simp; omega) _).alloc (by simp; omega) _
  have HE:Hid (NUM (w4.setRow (w.heap.size + 3) (numVs w.heap.size (w.heap.size + 1) (w.heap.size + 2)).toArray) f lo hi (numVs w.heap.size (w.heap.size + 1) (w.heap.size + 2))∧Below w.heap.size w (w4.setRow (w.heap.size + 3) (numVs w.heap.size (w.heap.size + 1) (w.heap.size + 2)).toArray)):=by
    refine ⟨⟨_,_,_,rfl,?_,?_,?_⟩,belowSetRow hb (by omega) _⟩
    · rw [setRow_other _ _ _ _ (by omega)]; exact hp
    · rw [setRow_other _ _ _ _ (by omega)]; exact hq
    · rw [setRow_other _ _ _ _ (by omega)]; exact hs
  clear hp hq hs hb
  go_enter Tryz.func120,Tryz.ntmps120
  go_wp2_with (refine wpList_store_row rfl 152 _ _ rfl (w.heap.size + 3) (numVs w.heap.size (w.heap.size + 1) (w.heap.size + 2)).toArray rfl rfl 152 nil5 hg info_field rfl (by simp [numVs,Value.oneCell']) ?_)
  exact bodyPost_ret (results_field Tryz.results120 _ _ (w.heap.size + 3) _ rfl (heapSetRow _ _ _ _ _ hg) rfl) rfl ⟨_,_,_,rfl,HE.out⟩
end Go.Proofs.YtfjjpbebnoghmaaGreatDoor
