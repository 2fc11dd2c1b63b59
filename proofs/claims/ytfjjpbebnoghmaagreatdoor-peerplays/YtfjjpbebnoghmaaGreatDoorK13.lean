import Derived.Test.YtfjjpbebnoghmaaGreatDoorK00
import Derived.Test.YtfjjpbebnoghmaaGreatDoorK12
import Derived.Maps.AppendAt
import Derived.Deep.LoopGhost
import Derived.WalkMore
import Derived.Great.BuildSlice
namespace Go.Proofs.YtfjjpbebnoghmaaGreatDoor.Fm
open Go.RowKit Go.Proofs.YtfjjpbebnoghmaaGreatDoor
theorem infoB:(Tryz.prog.info? 37).map (fun i=>(i.zero,i.size,i.bytes)) = some (some (.slice none 0 0),1,24):=by kernel_rfl
theorem infoH:(Tryz.prog.info? 97).map (fun i=>(i.zero,i.size,i.bytes)) = some (some (.agg (bc (zr 48))),48,48):=by kernel_rfl
def BK (S:Nat→Prop) (w:World) (u:Value) (l:List UInt8):Prop:=∃ g,S g∧u = .slice (some ⟨g,0,none⟩) l.length l.length∧w.heap[g]? = some (.cells (bc l) 5 (0,0))
def OB (B:Nat) (S:Nat→Prop) (w:World) (v:Value) (bs:List (List UInt8)):Prop:=∃ us:List Value,us.length = bs.length∧w.ownsRow B 37 1 v bs.length us∧∀ i,i < bs.length→BK S w (us.getD i undef) (bs.getD i [])
def OM (B:Nat) (w:World) (v:Value) (met:List (List UInt8)):Prop:=w.ownsRow B 97 48 v met.length (Lib.byteCells met.flatten)∧∀ h ∈ met,h.length = 48
theorem ownsRow_keep {w w':World} {B e size n:Nat} {v:Value} {xs:List Value} (h:w.ownsRow B e size v n xs) (hk:∀ k,B≤k→k < w.heap.size→w'.heap[k]? = w.heap[k]?):w'.ownsRow B e size v n xs:=by
  refine ⟨h.1,?_⟩
  rcases h.2 with h1 | ⟨g,cap,cur,h1,h2,h3,h4⟩
  · exact .inl h1
  · exact .inr ⟨g,cap,cur,h1,h2,(hk g h2 (Array.getElem?_eq_some_iff.1 h3).1).trans h3,h4⟩
theorem ownsRow_keep2 {w w':World} {B e e2 size n:Nat} {v:Value} {xs:List Value} {row:Option Nat} (h:w.ownsRow B e size v n xs) (hg:w.grownBy w' row) (hr:∀ k,row = some k→∃ cs f,w.heap[k]? = some (.cells cs e2 f)) (hne:e≠e2):w'.ownsRow B e size v n xs:=by
  refine ⟨h.1,?_⟩
  rcases h.2 with h1 | ⟨g,cap,cur,h1,h2,h3,h4⟩
  · exact .inl h1
  · refine .inr ⟨g,cap,cur,h1,h2,(hg.block g (Array.getElem?_eq_some_iff.1 h3).1 fun e'=>?_).trans h3,h4⟩
    obtain ⟨cs,f,hc⟩:=hr g e'.symm
    rw [h3] at hc
    simp at hc
    exact hne hc.2.1
theorem row_of {w:World} {B e size n:Nat} {v:Value} {xs:List Value} (h:w.ownsRow B e size v n xs):∀ k,v.ownBlock = some k→∃ cs f,w.heap[k]? = some (.cells cs e f):=by
  intro k hk
  rcases h.2 with ⟨rfl,_⟩ | ⟨g,cap,cur,rfl,h2,h3,_⟩
  · simp [Value.ownBlock] at hk
  · simp [Value.ownBlock] at hk
    subst hk
    exact ⟨_,_,h3⟩
theorem BK.keep {S T:Nat→Prop} {w w':World} {u:Value} {l:List UInt8} (h:BK S w u l) (hk:∀ k,S k→k < w.heap.size→(∃ cs f,w.heap[k]? = some (.cells cs 5 f))→w'.heap[k]? = w.heap[k]?) (hs:∀ g,S g→g < w.heap.size→T g):BK T w' u l:=by
  obtain ⟨g,h1,h2,h3⟩:=h
  have hlt:=(Array.getElem?_eq_some_iff.1 h3).1
  exact ⟨g,hs g h1 hlt,h2,(hk g h1 hlt ⟨_,_,h3⟩).trans h3⟩
theorem OB.keep {B:Nat} {S T:Nat→Prop} {w w':World} {v:Value} {bs:List (List UInt8)} (h:OB B S w v bs) (hb:∀ k,B≤k→k < w.heap.size→w'.heap[k]? = w.heap[k]?) (hS:∀ k,S k→B≤k) (hs:∀ g,S g→g < w.heap.size→T g):OB B T w' v bs:=by
  obtain ⟨us,h1,h2,h3⟩:=h
  exact ⟨us,h1,ownsRow_keep h2 hb,fun i hi=>(h3 i hi).keep (fun k hk hl _=>hb k (hS k hk) hl) hs⟩
theorem OM.keep {B:Nat} {w w':World} {v:Value} {met:List (List UInt8)} (h:OM B w v met) (hb:∀ k,B≤k→k < w.heap.size→w'.heap[k]? = w.heap[k]?):OM B w' v met:=⟨ownsRow_keep h.1 hb,h.2⟩
theorem OB.nil (B:Nat) (S:Nat→Prop) (w:World):OB B S w (.slice none 0 0) []:=⟨[],rfl,World.ownsRow_nil _ _ _ _,fun i h=>by simp at h⟩
theorem OM.nil (B:Nat) (w:World):OM B w (.slice none 0 0) []:=⟨World.ownsRow_nil _ _ _ _,by simp⟩
theorem OB.form {B:Nat} {S:Nat→Prop} {w:World} {v:Value} {bs:List (List UInt8)} (h:OB B S w v bs):∃ a c,v = .slice a bs.length c:=by
  obtain ⟨us,_,h2,_⟩:=h
  rcases h2.2 with ⟨rfl,h0⟩ | ⟨g,cap,_,rfl,_⟩
  · rw [h0]; exact ⟨none,0,rfl⟩
  · exact ⟨_,cap,rfl⟩
theorem OM.form {B:Nat} {w:World} {v:Value} {bs:List (List UInt8)} (h:OM B w v bs):∃ a c,v = .slice a bs.length c:=by
  rcases h.1.2 with ⟨rfl,h0⟩ | ⟨g,cap,_,rfl,_⟩
  · rw [h0]; exact ⟨none,0,rfl⟩
  · exact ⟨_,cap,rfl⟩
theorem append_body {ops:Array Oper} {rest:List Oper} {o:Oper} {a:Act} {Q:Exit→Act→World→Prop} {w:World} {B:Nat} {S:Nat→Prop} {sv:Value} {bs:List (List UInt8)} (hgd:o.guard = none) (s x:Operand)
    (ho:o.op = .call { callee:=.builtin .append,args:=#[s,x],argTypes:=#[90,90] }) (hs:a.eval s = sv) (hown:OB B S w sv bs) (b:Nat) (u:Value) (l:List UInt8) (hx:a.eval x = .slice (some ⟨b,0,none⟩) 1 1)
    (hc:w.cell? ⟨b,0,none⟩ = some u) (hu:BK S w u l) (hB:B≤w.heap.size) (hlim:bs.length < 1073741824)
    (h:∀ v' w',OB B S w' v' (bs ++ [l])→w.grownBy w' sv.ownBlock→wpList Tryz.prog ops Q rest (a.put o.dst v') w'):wpList Tryz.prog ops Q (o :: rest) a w:=by
  obtain ⟨i0,hi,hz0,hz1,hz2⟩:=info_parts infoB
  obtain ⟨us,h1,h2,h3⟩:=hown
  refine wpList_append_own w hgd s x 90 ho B 37 i0 _ 1 24 Tryz.underlying90 hi hz0 hz1 hz2 rfl (by omega) sv bs.length us hs h2 ⟨b,0,none⟩ 1 1 [u] hx rfl (fun j y hy=>?_) (fun y hy=>?_) (by unfold maxLen; omega) (by omega) hB (fun v' w' k1 k2 _=>?_)
  · match j,hy with
    | 0,hy=>simp at hy; subst hy; simpa [Addr.add] using hc
  · simp at hy; subst hy
    obtain ⟨g,_,e,_⟩:=hu
    rw [e]; rfl
  · refine h v' w' ⟨us ++ [u],by simp [h1],by simpa using k1,fun i hi=>?_⟩ k2
    have kb:∀ k,S k→k < w.heap.size→(∃ cs f,w.heap[k]? = some (.cells cs 5 f))→w'.heap[k]? = w.heap[k]?:=fun k _ hk hex=>k2.block k hk fun e=>by
      obtain ⟨cs,f,hr⟩:=row_of h2 k e.symm
      obtain ⟨cs',f',hr'⟩:=hex
      rw [hr] at hr'
      simp at hr'
    rw [List.length_append,List.length_singleton] at hi
    by_cases hlt:i < bs.length
    · have:=(h3 i hlt).keep (T:=S) kb (fun g h _=>h)
      rw [List.getD_eq_getElem?_getD,List.getD_eq_getElem?_getD,List.getElem?_append_left (by omega),List.getElem?_append_left (by omega), ← List.getD_eq_getElem?_getD, ← List.getD_eq_getElem?_getD]
      exact this
    · have hi':i = bs.length:=by omega
      subst hi'
      have:=hu.keep (T:=S) kb (fun g h _=>h)
      rw [List.getD_eq_getElem?_getD,List.getD_eq_getElem?_getD,List.getElem?_append_right (by omega),List.getElem?_append_right (by omega)]
      simpa [h1] using this
theorem append_hello {ops:Array Oper} {rest:List Oper} {o:Oper} {a:Act} {Q:Exit→Act→World→Prop} {w:World} {B:Nat} {sv:Value} {met:List (List UInt8)} (hgd:o.guard = none) (s x:Operand)
    (ho:o.op = .call { callee:=.builtin .append,args:=#[s,x],argTypes:=#[89,89] }) (hs:a.eval s = sv) (hown:OM B w sv met) (b:Nat) (hb:List UInt8) (hx:a.eval x = .slice (some ⟨b,0,none⟩) 1 1)
    (hc:w.heap[b]? = some (.cells (bc hb) 97 (0,0))) (hl:hb.length = 48) (hB:B≤w.heap.size) (hlim:met.length < 1073741824)
    (h:∀ v' w',OM B w' v' (met ++ [hb])→w.grownBy w' sv.ownBlock→wpList Tryz.prog ops Q rest (a.put o.dst v') w'):wpList Tryz.prog ops Q (o :: rest) a w:=by
  obtain ⟨i0,hi,hz0,hz1,hz2⟩:=info_parts infoH
  refine wpList_append_own w hgd s x 89 ho B 97 i0 _ 48 48 Tryz.underlying89 hi hz0 hz1 hz2 (by rfl) (by omega) sv met.length (Lib.byteCells met.flatten) hs hown.1 ⟨b,0,none⟩ 1 1 (Lib.byteCells hb) hx (by rw [bcl_len,hl]) (fun j y hy=>?_) (Lib.byteCells_one _) (by unfold maxLen; omega) (by omega) hB (fun v' w' k1 k2 _=>?_)
  · have hj':j < hb.length:=by
      have:=(List.getElem?_eq_some_iff.1 hy).1
      rwa [bcl_len] at this
    have hadd:(⟨b,0,none⟩:Addr).add j = ⟨b,j,none⟩:=by unfold Addr.add; split <;> simp_all
    rw [hadd,cell_bc hc j hj',getD_byt hb j hj']
    simpa [Lib.byteCells,List.getElem?_eq_getElem hj'] using hy
  · refine h v' w' ⟨?_,fun x hx=>?_⟩ k2
    · rw [← bcl_append] at k1
      simpa using k1
    · rcases List.mem_append.1 hx with hx | hx
      · exact hown.2 x hx
      · simp at hx; rw [hx]; exact hl
theorem append_held {ops:Array Oper} {rest:List Oper} {o:Oper} {a:Act} {Q:Exit→Act→World→Prop} {w:World} {B:Nat} {sv xv:Value} {l m:List UInt8} (hgd:o.guard = none) (s x:Operand)
    (ho:o.op = .call { callee:=.builtin .append,args:=#[s,x],argTypes:=#[37,37] }) (hs:a.eval s = sv) (hown:OW B w sv l) (hnil:l = []→sv = .slice none 0 0) (hx:a.eval x = xv)
    (hr:RB w xv m) (hB:B≤w.heap.size) (hlim:l.length + m.length≤140737488351232)
    (h:∀ v' w',OW B w' v' (l ++ m)→(l ++ m = []→v' = .slice none 0 0)→w.grownBy w' sv.ownBlock→(v'.ownBlock = sv.ownBlock∨v'.ownBlock = some w.heap.size)→wpList Tryz.prog ops Q rest (a.put o.dst v') w'):wpList Tryz.prog ops Q (o :: rest) a w:=by
  obtain ⟨i0,hi,hz0,hz1,hz2⟩:=info_parts info5
  obtain ⟨ad,c,rfl,_,hr⟩:=hr
  rcases hr with rfl | ⟨b,off,rfl,_,hc⟩
  · cases ad with
    | none =>
      refine wpList_plain hgd fun K hK=>?_
      have hrun:=append_nothing o.type c hown
      simp only [List.length_nil] at hx
      unfold Oper.wp
      simp [execOp,ho,resolve,invoke,builtin,hs,hx,hrun,Result.andThen]
      exact hK _ _ (h _ _ (by rw [List.append_nil]; exact hown) (by rw [List.append_nil]; exact hnil) ⟨rfl,rfl,rfl,Nat.le_refl _,fun _ _ _=>rfl⟩ (.inl rfl))
    | some ad =>
      refine wpList_append_own_at w hgd s x 37 ho B 5 i0 _ 1 1 Tryz.underlying37 hi hz0 hz1 hz2 rfl (by omega) sv l.length (Lib.byteCells l) hs hown ad 0 c [] hx (by simp) (fun j u hu=>by simp at hu) (fun u hu=>by cases hu) (by unfold maxLen; simp at hlim; omega) (by simp at hlim; omega) hB (fun v' w' h1 h2 h3 h4=>?_)
      refine h v' w' ?_ (fun e=>h3.2 ⟨hnil (by simpa using e),rfl⟩) h2 h4
      rw [List.append_nil] at h1 ⊢
      simpa [OW] using h1
  · refine wpList_append_own_at w hgd s x 37 ho B 5 i0 _ 1 1 Tryz.underlying37 hi hz0 hz1 hz2 rfl (by omega) sv l.length (Lib.byteCells l) hs hown ⟨b,off,none⟩ m.length c (Lib.byteCells m) hx (by rw [bcl_len,Nat.mul_one]) (fun j u hu=>?_) (Lib.byteCells_one _) (by unfold maxLen; omega) (by omega) hB (fun v' w' h1 h2 h3 h4=>?_)
    · have hj':j < m.length:=by
        have:=(List.getElem?_eq_some_iff.1 hu).1
        rwa [bcl_len] at this
      have hadd:(⟨b,off,none⟩:Addr).add j = ⟨b,off + j,none⟩:=by unfold Addr.add; split <;> simp_all
      rw [hadd,hc j hj',getD_byt m j hj']
      simpa [Lib.byteCells,List.getElem?_eq_getElem hj'] using hu
    · refine h v' w' ?_ (fun e=>?_) h2 h4
      · rw [← bcl_append] at h1
        simpa [OW] using h1
      · obtain ⟨e1,e2⟩:=List.append_eq_nil_iff.1 e
        exact h3.2 ⟨hnil e1,by rw [e2]; rfl⟩
theorem sokp (l:List UInt8) (p:Nat):sok l p = true↔∀ j,j < l.length→p + j < 20→byt l j = byt sgn (p + j):=by
  have hs:sgn.length = 20:=rfl
  unfold sok
  rw [beq_iff_eq]
  constructor
  · intro h j h1 h2
    have:=congrArg (fun x=>x[j]?) h
    simp only [List.getElem?_take_of_lt (show j < 20 - p by omega),List.getElem?_take_of_lt h1,List.getElem?_drop] at this
    unfold byt
    rw [List.getD_eq_getElem?_getD,List.getD_eq_getElem?_getD,this]
  · intro h
    apply List.ext_getElem
    · rw [List.length_take,List.length_take,List.length_drop,hs,Nat.min_comm]
    · intro j h1 h2
      rw [List.length_take] at h1 h2
      rw [List.length_drop,hs] at h2
      have:=h j (by omega) (by omega)
      rw [getD_byt l j (by omega),getD_byt sgn (p + j) (by omega)] at this
      simpa using this
theorem sok_split (a b:List UInt8):sok (a ++ b) 0 = (sok a 0 && sok b a.length):=by
  rw [Bool.eq_iff_iff,Bool.and_eq_true,sokp,sokp,sokp]
  constructor
  · intro h
    refine ⟨fun j h1 h2=>?_,fun j h1 h2=>?_⟩
    · have:=h j (by simp; omega) h2
      rwa [byt_left _ _ _ h1] at this
    · have:=h (a.length + j) (by simp; omega) (by omega)
      rw [byt_right _ _ _ (by omega)] at this
      simpa using this
  · rintro ⟨h1,h2⟩ j hj h20
    by_cases hlt:j < a.length
    · rw [byt_left _ _ _ hlt]; exact h1 j hlt h20
    · rw [byt_right _ _ _ (by omega)]
      have:=h2 (j - a.length) (by simp at hj; omega) (by omega)
      rw [this]
      congr 1
      omega
theorem hel_take (l:List UInt8):hel (l.take 68) = hel l:=by
  unfold hel
  rw [List.drop_take,List.take_take]
  rfl
def tx (p s:Nat) (held:List UInt8):List UInt8:=if p = 1 then be4 s ++ held else held
def St (p s:Nat) (held:List UInt8):Prop:=(p = 2∧held.length < 68∧sok held 0 = true)∨(p = 0∧held.length < 4)∨(p = 1∧s≤32768∧held.length < s)
end Go.Proofs.YtfjjpbebnoghmaaGreatDoor.Fm
namespace Go.Proofs.YtfjjpbebnoghmaaGreatDoor.Fm
open Go.RowKit Go.Proofs.YtfjjpbebnoghmaaGreatDoor
theorem z4:(#[.int .u8 0,.int .u8 0,.int .u8 0,.int .u8 0]:Array Value) = bc (zr 4):=rfl
theorem infoZ68:(Tryz.prog.info? 119).map (fun i=>(i.zero,i.size)) = some (some (.agg (bc (zr 68))),68):=by kernel_rfl
theorem zero68 (u:World):(zeroValue 119).run Tryz.prog u = .ok (.agg (bc (zr 68))) u:=by
  cases hq:Tryz.prog.info? 119 with
  | none=>have:=infoZ68; simp [hq] at this
  | some i =>
    have hz:i.zero = some (.agg (bc (zr 68))):=by
      have:=infoZ68
      rw [hq] at this
      simp only [Option.map_some,Option.some.injEq,Prod.mk.injEq] at this
      exact this.1
    simp [zeroValue,typeInfo,hq,hz]
theorem foldl_set:∀ (xs:List Value) (k:Nat) (cs:Array Value),k + xs.length = cs.size→((xs.zipIdx k).foldl (fun cs (p:Value × Nat)=>cs.setIfInBounds (0 * 48 + p.2) p.1) cs).toList = cs.toList.take k ++ xs
  | [],k,cs,h=>by simp at h ⊢; rw [h, ← Array.length_toList,List.take_length]
  | x :: xs,k,cs,h=>by
    simp only [List.zipIdx_cons,List.foldl_cons]
    rw [foldl_set xs (k + 1) _ (by simp at h ⊢; omega)]
    have hk:k < cs.toList.length:=by simp at h ⊢; omega
    rw [Array.toList_setIfInBounds,Nat.zero_mul,Nat.zero_add,List.take_succ_eq_append_getElem (by simpa using hk),List.take_set_of_le (Nat.le_refl _)]
    simp
theorem fill_hello (hx:List UInt8) (hl:hx.length = 48) (Z:Array Value) (hZ:Z.size = 48):Instr.fill (fun i=>some (i * 48,48)) Z [(0,.agg (bc hx))] = some (bc hx):=by
  have hs:(bc hx).size = 48:=by rw [bc_size,hl]
  have hc:(Value.agg (bc hx)).cells = bc hx:=rfl
  unfold Instr.fill
  simp only [hc,hs,hZ]
  rw [if_neg (by decide)]
  unfold Instr.fill
  congr 1
  apply Array.ext'
  rw [← Array.foldl_toList,Array.toList_zipIdx]
  have:=foldl_set (bc hx).toList 0 Z (by rw [Array.length_toList,hs,hZ])
  rw [List.take_zero,List.nil_append] at this
  exact this
theorem build_hello {ops:Array Oper} {rest:List Oper} {o:Oper} {a:Act} {w:World} {Q:Exit→Act→World→Prop} (hg:o.guard = none) (x:Operand) (ho:o.op = .buildSlice 89 1 #[(0,x)]) (hx:List UInt8) (hv:a.eval x = .agg (bc hx)) (hl:hx.length = 48)
    (h:wpList Tryz.prog ops Q rest (a.put o.dst (.slice (some ⟨w.heap.size,0,none⟩) 1 1)) (w.alloc (.cells (bc hx) 97))):wpList Tryz.prog ops Q (o :: rest) a w:=by
  obtain ⟨i0,hi,hz0,hz1,hz2⟩:=info_parts infoH
  refine wpList_buildSlice hg 89 97 1 _ ho (bc hx) i0 _ Tryz.underlying89 hi hz0 (by rw [hz1]; decide) (by rw [hz1]; decide) ?_ h
  rw [hz1]
  have e:(#[(0,x)].map fun (i,y)=>(i,a.eval y)).toList = [(0,.agg (bc hx))]:=by simp [hv]
  rw [e]
  exact fill_hello hx hl _ (by rw [Array.size_map,Array.size_range])
def Sm (p s:Nat) (held:List UInt8):Prop:=(p = 2∧held.length < 68∧sok held 0 = true)∨(p = 0∧held.length < 4)∨(p = 1∧s≤32768∧held.length≤s)
structure PI (w:World) (R:Nat) (h0:Bool) (T0:List UInt8) (hv0:Value) (p s:Nat) (held l:List UInt8) (met bs:List (List UInt8)) (hv bv mv bsv:Value) (wr:World):Prop where
  sm:Sm p s held
  rk:RK wr R p s hv 0
  hb:hv = hv0∨hv = .slice none 0 0
  ow:OW (R + 1) wr hv held
  nil:held = []→hv = .slice none 0 0
  rh:RN (fun g=>g < w.heap.size) wr hv held
  rb:RN (fun g=>g < w.heap.size∧hv0.ownBlock≠some g) wr bv l
  om:OM w.heap.size wr mv met
  ob:OB w.heap.size (fun g=>w.heap.size≤g) wr bsv bs
  fr:Fr (fun k=>k≠R) w wr
  rd:∀ met' bs' h' r' e',Rd (p == 2) (tx p s held ++ l) met' bs' h' r' e'→Rd h0 T0 (met ++ met') (bs ++ bs') h' r' e'
  ln:met.length + bs.length + l.length + (if p = 1 then 1 else 0)≤33554432
  rl:R < w.heap.size
structure PO (w:World) (R:Nat) (h0:Bool) (T0:List UInt8) (hv0:Value) (mv bsv:Value) (er:Int) (met bs:List (List UInt8)) (h':Bool) (r:List UInt8) (p s:Nat) (held:List UInt8) (hv:Value) (w':World):Prop where
  rd:Rd h0 T0 met bs h' r er
  om:OM w.heap.size w' mv met
  ob:OB w.heap.size (fun g=>w.heap.size≤g∧hv.ownBlock≠some g) w' bsv bs
  rk:RK w' R p s hv er
  ow:OW (R + 1) w' hv held
  nil:held = []→hv = .slice none 0 0
  st:er = 0→St p s held∧h' = (p == 2)∧tx p s held = r
  br:er≠0→p = 0∧held = []∧(er = 100∨er = 102)
  er:er = 0∨er = 100∨er = 102
  fr:Fr (fun k=>k≠R∧hv0.ownBlock≠some k) w w'
  at_:hv.ownBlock = hv0.ownBlock∨∀ g,hv.ownBlock = some g→w.heap.size≤g
theorem PI.drew {w:World} {R:Nat} {h0:Bool} {T0:List UInt8} {hv0:Value} {p s:Nat} {held l:List UInt8} {met bs:List (List UInt8)} {hv bv mv bsv:Value} {wr:World} (h:PI w R h0 T0 hv0 p s held l met bs hv bv mv bsv wr) (n:Nat):PI w R h0 T0 hv0 p s held l met bs hv bv mv bsv (wr.drewN n):=
  ⟨h.sm,h.rk,h.hb,h.ow.grow (belowDrew _ _),h.nil,h.rh.move (fun _ x=>x) (fun _ _ _ _=>rfl),h.rb.move (fun _ x=>x) (fun _ _ _ _=>rfl),h.om.keep (fun _ _ _=>rfl),h.ob.keep (fun _ _ _=>rfl) (fun _ x=>x) (fun _ x _=>x),⟨h.fr.os,h.fr.tape,h.fr.output,h.fr.size,h.fr.block⟩,h.rd,h.ln,h.rl⟩
theorem PI.broken {w:World} {R:Nat} {h0:Bool} {T0:List UInt8} {hv0:Value} {p s:Nat} {held l:List UInt8} {met bs:List (List UInt8)} {hv bv mv bsv:Value} {wr w':World} (h:PI w R h0 T0 hv0 p s held l met bs hv bv mv bsv wr) (er:Int) (he:er = 100∨er = 102)
    (hr:Rd (p == 2) (tx p s held ++ l) [] [] (p == 2) (tx p s held ++ l) er) (hk:RK w' R 0 0 (.slice none 0 0) er) (hf:Fr (fun k=>k≠R) wr w'):PO w R h0 T0 hv0 mv bsv er met bs (p == 2) (tx p s held ++ l) 0 0 [] (.slice none 0 0) w':=by
  have kb:∀ k,w.heap.size≤k→k < wr.heap.size→w'.heap[k]? = wr.heap[k]?:=fun k h1 h2=>hf.block k h2 (fun e=>by have:=h.rl; omega)
  have hrd:=h.rd _ _ _ _ _ hr
  rw [List.append_nil,List.append_nil] at hrd
  exact ⟨hrd,h.om.keep kb,h.ob.keep kb (fun _ x=>x) (fun g x _=>⟨x,by simp [Value.ownBlock]⟩),hk,World.ownsRow_nil _ _ _ _,fun _=>rfl,fun e=>by omega,fun _=>⟨rfl,rfl,he⟩,.inr he,(h.fr.trans hf (fun _ _ x=>x)).mono (fun _ _ x=>x.1),.inr (fun g e=>by simp [Value.ownBlock] at e)⟩
theorem PI.waits {w:World} {R:Nat} {h0:Bool} {T0:List UInt8} {hv0:Value} {p s:Nat} {held l:List UInt8} {met bs:List (List UInt8)} {hv bv mv bsv v':Value} {wr w1:World} (h:PI w R h0 T0 hv0 p s held l met bs hv bv mv bsv wr)
    (hr:Rd (p == 2) (tx p s held ++ l) [] [] (p == 2) (tx p s held ++ l) 0) (hst:St p s (held ++ l)) (ho:OW (R + 1) w1 v' (held ++ l)) (hn:held ++ l = []→v' = .slice none 0 0) (hg:wr.grownBy w1 hv.ownBlock) (ha:v'.ownBlock = hv.ownBlock∨v'.ownBlock = some wr.heap.size) :
    RK w1 R p s hv 0∧PO w R h0 T0 hv0 mv bsv 0 met bs (p == 2) (tx p s held ++ l) p s (held ++ l) v' (w1.setCell ⟨R,2,none⟩ v'):=by
  have hvb:∀ k,hv.ownBlock = some k→R < k∧k < w.heap.size:=by
    intro k hk
    rcases h.ow.2 with ⟨e,_⟩ | ⟨g,cap,cur,e,h2,h3,_⟩
    · rw [e] at hk; simp [Value.ownBlock] at hk
    · have hgk:g = k:=by rw [e] at hk; simpa [Value.ownBlock] using hk
      subst hgk
      refine ⟨h2,?_⟩
      by_cases h00:held = []
      · have:=h.nil h00
        rw [e] at this
        cases this
      · obtain ⟨a,c,e2,_,h4⟩:=h.rh
        rcases h4 with h4 | ⟨g2,o2,e3,h5,_⟩
        · exact absurd h4 h00
        · rw [e] at e2
          simp only [Value.slice.injEq] at e2
          rw [e3] at e2
          simp at e2
          omega
  have hRl:R < wr.heap.size:=h.rk.lt
  have hk1:RK w1 R p s hv 0:=(hg.block R hRl (fun e=>by have:=(hvb R e.symm).1; omega)).trans h.rk
  have kb:∀ k,w.heap.size≤k→k < wr.heap.size→w1.heap[k]? = wr.heap[k]?:=fun k h1 h2=>hg.block k h2 (fun e=>by have:=(hvb k e.symm).2; omega)
  have hbb:∀ k,hv.ownBlock = some k→hv0.ownBlock = some k:=by
    intro k hk
    rcases h.hb with e | e
    · rw [e] at hk; exact hk
    · rw [e] at hk; simp [Value.ownBlock] at hk
  have hrd:=h.rd _ _ _ _ _ hr
  rw [List.append_nil,List.append_nil] at hrd
  have hsw:w.heap.size≤wr.heap.size:=h.fr.size
  have hv'b:∀ g,v'.ownBlock = some g→g≠R∧(g < w.heap.size→hv.ownBlock = some g)∧(w.heap.size≤g→wr.heap.size≤g):=by
    intro g e
    rcases ha with e2 | e2
    · rw [e] at e2
      have:=hvb g e2.symm
      exact ⟨by omega,fun _=>e2.symm,fun h=>by omega⟩
    · rw [e] at e2
      simp at e2
      have:=h.rl
      exact ⟨by omega,fun h=>by omega,fun h=>by omega⟩
  refine ⟨hk1,hrd,?_,?_,hk1.set.2.2 v',?_,hn,fun _=>⟨hst,rfl,?_⟩,fun e=>absurd rfl e,.inl rfl,?_,?_⟩
  · exact (h.om.keep kb).keep (fun k h1 h2=>setCell_other (fun e=>by have:=h.rl; omega))
  · refine (h.ob.keep kb (fun _ x=>x) (fun g x hlt=>(show w.heap.size≤g∧v'.ownBlock≠some g from ⟨x,fun e=>by have:=(hv'b g e).2.2 x; omega⟩))).keep (fun k h1 h2=>setCell_other (fun e=>by have:=h.rl; omega)) (fun k x=>x.1) (fun g x _=>x)
  · refine ⟨ho.1,?_⟩
    rcases ho.2 with h1 | ⟨g,cap,cur,h1,h2,h3,h4⟩
    · exact .inl h1
    · exact .inr ⟨g,cap,cur,h1,h2,(setCell_other (by omega)).trans h3,h4⟩
  · unfold tx
    split <;> simp
  · refine Fr.setCell ?_ R 2 _ (fun x=>x.1 rfl)
    refine (h.fr.mono (fun _ _ x=>x.1)).trans (T:=fun k=>some k≠hv.ownBlock) ⟨hg.os,hg.tape,hg.output,hg.size,fun k h1 h2=>hg.block k h1 h2⟩ (fun k h1 h2 e=>h2.2 (hbb k e.symm))
  · rcases ha with e | e
    · rcases h.hb with e2 | e2
      · exact .inl (by rw [e,e2])
      · exact .inr (fun g eg=>by rw [e,e2] at eg; simp [Value.ownBlock] at eg)
    · exact .inr (fun g eg=>by rw [e] at eg; simp at eg; omega)
structure PM (w:World) (R:Nat) (hv0:Value) (p s:Nat) (l:List UInt8) (met bs:List (List UInt8)) (bv mv bsv:Value) (wr:World):Prop where
  rk:RK wr R p s (.slice none 0 0) 0
  rb:RN (fun g=>g < w.heap.size∧hv0.ownBlock≠some g) wr bv l
  om:OM w.heap.size wr mv met
  ob:OB w.heap.size (fun g=>w.heap.size≤g) wr bsv bs
  fr:Fr (fun k=>k≠R) w wr
  rl:R < w.heap.size
theorem PM.below {w:World} {R:Nat} {hv0:Value} {p s:Nat} {l:List UInt8} {met bs:List (List UInt8)} {bv mv bsv:Value} {wr w':World} (h:PM w R hv0 p s l met bs bv mv bsv wr) (hb:Below wr.heap.size wr w'):PM w R hv0 p s l met bs bv mv bsv w':=
  ⟨(hb.block R h.rk.lt).trans h.rk,h.rb.move (fun _ x=>x) (fun g _ hl _=>hb.block g hl),h.om.keep (fun k _ hl=>hb.block k hl),h.ob.keep (fun k _ hl=>hb.block k hl) (fun _ x=>x) (fun _ x _=>x),h.fr.trans (Fr.of_below hb) (fun _ _ x=>x),h.rl⟩
theorem PM.set {w:World} {R:Nat} {hv0:Value} {p s:Nat} {l:List UInt8} {met bs:List (List UInt8)} {bv mv bsv:Value} {wr:World} (h:PM w R hv0 p s l met bs bv mv bsv wr) :
    (∀ p':Nat,PM w R hv0 p' s l met bs bv mv bsv (wr.setCell ⟨R,0,none⟩ (.int .i64 p')))∧(∀ s':Nat,PM w R hv0 p s' l met bs bv mv bsv (wr.setCell ⟨R,1,none⟩ (.int .i64 s'))):=by
  have key:∀ i v,RN (fun g=>g < w.heap.size∧hv0.ownBlock≠some g) (wr.setCell ⟨R,i,none⟩ v) bv l∧OM w.heap.size (wr.setCell ⟨R,i,none⟩ v) mv met∧OB w.heap.size (fun g=>w.heap.size≤g) (wr.setCell ⟨R,i,none⟩ v) bsv bs∧Fr (fun k=>k≠R) w (wr.setCell ⟨R,i,none⟩ v):=fun i v =>
    ⟨h.rb.move (fun _ x=>x) (fun g _ _ hex=>setCell_other (h.rk.not_bytes hex)),h.om.keep (fun k h1 _=>setCell_other (by have:=h.rl; omega)),h.ob.keep (fun k h1 _=>setCell_other (by have:=h.rl; omega)) (fun _ x=>x) (fun _ x _=>x),h.fr.setCell R i v (fun x=>x rfl)⟩
  exact ⟨fun p'=>⟨h.rk.set.1 p',(key 0 _).1,(key 0 _).2.1,(key 0 _).2.2.1,(key 0 _).2.2.2,h.rl⟩,fun s'=>⟨h.rk.set.2.1 s',(key 1 _).1,(key 1 _).2.1,(key 1 _).2.2.1,(key 1 _).2.2.2,h.rl⟩⟩
theorem PM.met {w:World} {R:Nat} {hv0:Value} {p s:Nat} {l:List UInt8} {met met' bs:List (List UInt8)} {bv mv mv' bsv:Value} {wr w1:World} (h:PM w R hv0 p s l met bs bv mv bsv wr) (hm:OM w.heap.size w1 mv' met') (hg:wr.grownBy w1 mv.ownBlock):PM w R hv0 p s l met' bs bv mv' bsv w1:=by
  have hk:∀ k,k < w.heap.size→k < wr.heap.size→w1.heap[k]? = wr.heap[k]?:=fun k h1 h2=>hg.block k h2 (fun e=>by have:=(World.ownsRow.lt h.om.1 k e.symm).1; omega)
  refine ⟨(hk R h.rl h.rk.lt).trans h.rk,h.rb.move (fun _ x=>x) (fun g hs hl _=>hk g hs.1 hl),hm,?_,⟨hg.os.trans h.fr.os,hg.tape.trans h.fr.tape,hg.output.trans h.fr.output,Nat.le_trans h.fr.size hg.size,fun k h1 h2=>(hk k h1 (Nat.lt_of_lt_of_le h1 h.fr.size)).trans (h.fr.block k h1 h2)⟩,h.rl⟩
  obtain ⟨us,h1,h2,h3⟩:=h.ob
  refine ⟨us,h1,ownsRow_keep2 (e2:=97) h2 hg (row_of h.om.1) (by decide),fun i hi=>(h3 i hi).keep (fun k _ hl hex=>hg.block k hl (fun e=>?_)) (fun _ x _=>x)⟩
  obtain ⟨cs,f,hc⟩:=row_of h.om.1 k e.symm
  obtain ⟨cs',f',hc'⟩:=hex
  rw [hc] at hc'
  simp at hc'
theorem PM.bod {w:World} {R:Nat} {hv0:Value} {p s:Nat} {l:List UInt8} {met bs bs':List (List UInt8)} {bv mv bsv bsv':Value} {wr w1:World} (h:PM w R hv0 p s l met bs bv mv bsv wr) (hm:OB w.heap.size (fun g=>w.heap.size≤g) w1 bsv' bs') (hg:wr.grownBy w1 bsv.ownBlock):PM w R hv0 p s l met bs' bv mv bsv' w1:=by
  obtain ⟨us,h1,h2,h3⟩:=h.ob
  have hk:∀ k,k < w.heap.size→k < wr.heap.size→w1.heap[k]? = wr.heap[k]?:=fun k h1 hl=>hg.block k hl (fun e=>by have:=(World.ownsRow.lt h2 k e.symm).1; omega)
  exact ⟨(hk R h.rl h.rk.lt).trans h.rk,h.rb.move (fun _ x=>x) (fun g hs hl _=>hk g hs.1 hl),⟨ownsRow_keep2 (e2:=37) h.om.1 hg (row_of h2) (by decide),h.om.2⟩,hm,⟨hg.os.trans h.fr.os,hg.tape.trans h.fr.tape,hg.output.trans h.fr.output,Nat.le_trans h.fr.size hg.size,fun k h1 h2=>(hk k h1 (Nat.lt_of_lt_of_le h1 h.fr.size)).trans (h.fr.block k h1 h2)⟩,h.rl⟩
theorem PI.moved {w:World} {R:Nat} {h0:Bool} {T0:List UInt8} {hv0:Value} {p s:Nat} {held l l':List UInt8} {met bs:List (List UInt8)} {hv bv mv bsv bv':Value} {wr w1 w2:World} (h:PI w R h0 T0 hv0 p s held l met bs hv bv mv bsv wr) (hb:Below wr.heap.size wr w1)
    (hr:RN (fun g=>g < w.heap.size∧hv0.ownBlock≠some g) w2 bv' l') (hk:RK w2 R p s (.slice none 0 0) 0) (hf:Fr (fun k=>k≠R∧k≠wr.heap.size) w1 w2):PM w R hv0 p s l' met bs bv' mv bsv w2:=by
  have kb:∀ k,w.heap.size≤k→k < wr.heap.size→w2.heap[k]? = wr.heap[k]?:=fun k h1 h2=>(hf.block k (Nat.lt_of_lt_of_le h2 hb.size) ⟨by have:=h.rl; omega,by omega⟩).trans (hb.block k h2)
  refine ⟨hk,hr,h.om.keep kb,h.ob.keep kb (fun _ x=>x) (fun _ x _=>x),?_,h.rl⟩
  refine (h.fr.trans (Fr.of_below hb) (fun _ _ x=>x)).trans hf (fun k h1 h2=>⟨h2,?_⟩)
  have:=h.fr.size
  omega
theorem PM.next {w:World} {R:Nat} {h0:Bool} {T0:List UInt8} {hv0:Value} {p s:Nat} {l:List UInt8} {met bs:List (List UInt8)} {bv mv bsv:Value} {wr:World} (h:PM w R hv0 p s l met bs bv mv bsv wr) (hs:Sm p s [])
    (rd:∀ met' bs' h' r' e',Rd (p == 2) (tx p s [] ++ l) met' bs' h' r' e'→Rd h0 T0 (met ++ met') (bs ++ bs') h' r' e') (ln:met.length + bs.length + l.length + (if p = 1 then 1 else 0)≤33554432):PI w R h0 T0 hv0 p s [] l met bs (.slice none 0 0) bv mv bsv wr:=
  ⟨hs,h.rk,.inr rfl,World.ownsRow_nil _ _ _ _,fun _=>rfl,⟨none,0,rfl,Nat.le_refl _,.inl rfl⟩,h.rb,h.om,h.ob,h.fr,rd,ln,h.rl⟩
theorem drop_held (held l:List UInt8) (n:Nat) (h:held.length≤n):(held ++ l).drop n = l.drop (n - held.length):=by
  rw [List.drop_append,List.drop_eq_nil_of_le h,List.nil_append]
theorem rd_hello {s:Nat} {held l:List UInt8} (h1:held.length < 68) (h2:sok held 0 = true) (h3:sok l held.length = true) (h4:68≤held.length + l.length) {met' bs':List (List UInt8)} {h':Bool} {r':List UInt8} {e':Int}
    (h:Rd (0 == 2) (tx 0 s [] ++ l.drop (68 - held.length)) met' bs' h' r' e'):Rd (2 == 2) (tx 2 s held ++ l) (hel (held ++ l) :: met') bs' h' r' e':=by
  have e:tx 0 s [] ++ l.drop (68 - held.length) = (held ++ l).drop 68:=by rw [drop_held _ _ _ (by omega)]; simp [tx]
  rw [e] at h
  have e2:tx 2 s held ++ l = held ++ l:=by simp [tx]
  rw [e2]
  exact Rd.hello (held ++ l) _ _ _ _ _ (by rw [sok_split,h2,h3]; rfl) (by rw [List.length_append]; exact h4) h
theorem tx_num {s:Nat} {held l:List UInt8} (h1:held.length < 4) (h4:4≤held.length + l.length):tx 1 (nm (held ++ l)) [] ++ l.drop (4 - held.length) = tx 0 s held ++ l:=by
  have h5:4≤(held ++ l).length:=by rw [List.length_append]; exact h4
  have e:tx 1 (nm (held ++ l)) [] = (held ++ l).take 4:=by simp [tx,be4_nm _ h5]
  rw [e, ← drop_held _ _ _ (by omega),List.take_append_drop]
  simp [tx]
theorem rd_body {s:Nat} {held l:List UInt8} (h1:held.length≤s) (h2:s≤32768) (h4:s≤held.length + l.length) {met' bs':List (List UInt8)} {h':Bool} {r':List UInt8} {e':Int}
    (h:Rd (0 == 2) (tx 0 s [] ++ l.drop (s - held.length)) met' bs' h' r' e'):Rd (1 == 2) (tx 1 s held ++ l) met' ((held ++ l).take s :: bs') h' r' e':=by
  have hl:(be4 s).length = 4:=rfl
  have e2:tx 1 s held ++ l = be4 s ++ (held ++ l):=by simp [tx]
  have en:nm (be4 s ++ (held ++ l)) = s:=nm_be4 s _ (by omega)
  have e:tx 0 s [] ++ l.drop (s - held.length) = (be4 s ++ (held ++ l)).drop (4 + s):=by
    have e9:(be4 s).drop (4 + s) = []:=List.drop_eq_nil_of_le (by omega)
    rw [List.drop_append,e9,List.nil_append,hl,show 4 + s - 4 = s by omega,drop_held _ _ _ h1]
    simp [tx]
  rw [e] at h
  rw [e2]
  have:=Rd.body (be4 s ++ (held ++ l)) met' bs' h' r' e' (by rw [List.length_append]; omega) (by rw [en]; exact h2) (by rw [en,List.length_append,List.length_append]; omega) (by rw [en]; exact h)
  rw [en] at this
  have e3:((be4 s ++ (held ++ l)).drop 4) = held ++ l:=List.drop_left' hl
  rw [e3] at this
  exact this
theorem PO.drew {w:World} {R:Nat} {h0:Bool} {T0:List UInt8} {hv0 mv bsv:Value} {er:Int} {met bs:List (List UInt8)} {h':Bool} {r:List UInt8} {p s:Nat} {held:List UInt8} {hv:Value} {w':World} (h:PO w R h0 T0 hv0 mv bsv er met bs h' r p s held hv w') (n:Nat):PO w R h0 T0 hv0 mv bsv er met bs h' r p s held hv (w'.drewN n):=
  ⟨h.rd,h.om.keep (fun _ _ _=>rfl),h.ob.keep (fun _ _ _=>rfl) (fun _ x=>x.1) (fun _ x _=>x),h.rk,h.ow.grow (belowDrew _ _),h.nil,h.st,h.br,h.er,⟨h.fr.os,h.fr.tape,h.fr.output,h.fr.size,h.fr.block⟩,h.at_⟩
def PushE (w:World) (R:Nat) (h0:Bool) (T0:List UInt8) (hv0:Value) (e:Ending) (w':World):Prop:=∃ mv bsv er met bs h' r p s held hv,e = .returned (.tuple #[mv,bsv,.int .i64 er])∧PO w R h0 T0 hv0 mv bsv er met bs h' r p s held hv w'
theorem pushE_mk {w:World} {R:Nat} {h0:Bool} {T0:List UInt8} {hv0 mv bsv:Value} {er:Int} {met bs:List (List UInt8)} {h':Bool} {r:List UInt8} {p s:Nat} {held:List UInt8} {hv:Value} {w':World} (h:PO w R h0 T0 hv0 mv bsv er met bs h' r p s held hv w') (n:Nat):PushE w R h0 T0 hv0 (.returned (.tuple #[mv,bsv,.int .i64 er])) (w'.drewN n):=⟨_,_,_,_,_,_,_,_,_,_,_,rfl,h.drew n⟩
theorem nm_take (l:List UInt8):nm (l.take 4) = nm l:=by
  unfold nm
  rw [byt_take _ _ 0 (by omega),byt_take _ _ 1 (by omega),byt_take _ _ 2 (by omega),byt_take _ _ 3 (by omega)]
theorem info_four {hb:List UInt8} (hl:hb.length = 4):(Tryz.prog.info? 122).map (·.size) = some (bc hb).size:=by rw [bc_size,hl]; kernel_rfl
theorem rb_block {w:World} {G:Nat} {l:List UInt8} {t:TypeId} (hg:w.heap[G]? = some (.cells (bc l) t (0,0))) (n:Nat) (hn:l.length = n):RB w (.slice (some ⟨G,0,none⟩) n n) l:=by
  subst hn
  exact ⟨_,_,rfl,Nat.le_refl _,.inr ⟨G,0,rfl,(Array.getElem?_eq_some_iff.1 hg).1,fun i hi=>by rw [Nat.zero_add]; exact cell_bc hg i hi⟩⟩
theorem PI.at1 {w:World} {R:Nat} {h0:Bool} {T0:List UInt8} {hv0:Value} {p s:Nat} {held l:List UInt8} {met bs:List (List UInt8)} {hv bv mv bsv:Value} {wr:World} (h:PI w R h0 T0 hv0 p s held l met bs hv bv mv bsv wr) (o:Obj) :
    RK (wr.alloc o) R p s hv 0∧RB (wr.alloc o) hv held∧RN (fun g=>g < w.heap.size∧hv0.ownBlock≠some g) (wr.alloc o) bv l∧¬ (wr.heap.size < w.heap.size∧hv0.ownBlock≠some wr.heap.size)∧wr.heap.size≠R∧Below wr.heap.size wr (wr.alloc o):=by
  have hb:Below wr.heap.size wr (wr.alloc o):=(Below.refl _ _).alloc (Nat.le_refl _) _
  have h1:=h.rk.lt
  have h2:=h.fr.size
  exact ⟨(hb.block R h1).trans h.rk,h.rh.rb.keep hb,h.rb.move (fun _ x=>x) (fun g _ hl _=>hb.block g hl),fun x=>by omega,by omega,hb⟩
end Go.Proofs.YtfjjpbebnoghmaaGreatDoor.Fm
namespace Go.Proofs.YtfjjpbebnoghmaaGreatDoor.Fm
open Go.RowKit Go.Proofs.YtfjjpbebnoghmaaGreatDoor
theorem rd_part {s:Nat} {held l:List UInt8} (h2:s≤32768) (h4:¬ s≤held.length + l.length):Rd (1 == 2) (tx 1 s held ++ l) [] [] (1 == 2) (tx 1 s held ++ l) 0:=by
  have hl:(be4 s).length = 4:=rfl
  have e2:tx 1 s held ++ l = be4 s ++ (held ++ l):=by simp [tx]
  have en:nm (be4 s ++ (held ++ l)) = s:=nm_be4 s _ (by omega)
  rw [e2]
  exact Rd.part _ (by rw [List.length_append]; omega) (by rw [en]; exact h2) (by rw [en,List.length_append,List.length_append]; omega)
theorem rd_few {s:Nat} {held l:List UInt8} (h1:sok held 0 = true) (h2:sok l held.length = true) (h4:¬ 68≤held.length + l.length):Rd (2 == 2) (tx 2 s held ++ l) [] [] (2 == 2) (tx 2 s held ++ l) 0:=by
  have e1:tx 2 s held ++ l = held ++ l:=by simp [tx]
  rw [e1]
  exact Rd.few _ (by rw [sok_split,h1,h2]; rfl) (by rw [List.length_append]; omega)
theorem rd_bad {s:Nat} {held l:List UInt8} (h2:sok l held.length = false):Rd (2 == 2) (tx 2 s held ++ l) [] [] (2 == 2) (tx 2 s held ++ l) 100:=by
  have e1:tx 2 s held ++ l = held ++ l:=by simp [tx]
  rw [e1]
  exact Rd.bad _ (by rw [sok_split,h2,Bool.and_false])
set_option maxHeartbeats 4000000 in
set_option maxRecDepth 100000 in
theorem push (w:World) (R p0 s0:Nat) (hv0 bv0:Value) (held0 l0:List UInt8) (hk:RK w R p0 s0 hv0 0) (hst:St p0 s0 held0) (how:OW (R + 1) w hv0 held0) (hnil:held0 = []→hv0 = .slice none 0 0)
    (hb:RN (fun g=>hv0.ownBlock≠some g) w bv0 l0) (hl0:l0.length≤16777216) :
    Calls Tryz.prog 40 #[.pointer (some ⟨R,0,none⟩),bv0] w (PushE w R (p0 == 2) (tx p0 s0 held0 ++ l0) hv0):=by
  have P0:PI w R (p0 == 2) (tx p0 s0 held0 ++ l0) hv0 p0 s0 held0 l0 [] [] hv0 bv0 (.slice none 0 0) (.slice none 0 0) w:=by
    refine ⟨?_,hk,.inl rfl,how,hnil,RN.of_rb how.rb,?_,OM.nil _ _,OB.nil _ _ _,Fr.refl _ _,fun _ _ _ _ _ h=>by simpa using h,by simp; split <;> omega,hk.lt⟩
    · rcases hst with h | h | ⟨h1,h2,h3⟩
      · exact .inl h
      · exact .inr (.inl h)
      · exact .inr (.inr ⟨h1,h2,by omega⟩)
    · obtain ⟨a,c,e,h1,h2⟩:=hb
      refine ⟨a,c,e,h1,?_⟩
      rcases h2 with h2 | ⟨g,o,h3,h4,h5,h6⟩
      · exact .inl h2
      · exact .inr ⟨g,o,h3,⟨h5,h4⟩,h5,h6⟩
  have c3:=hk.c3
  generalize (p0 == 2) = H0 at *
  generalize tx p0 s0 held0 ++ l0 = T0 at *
  have hbf:∃ a c,bv0 = .slice a l0.length c:=by obtain ⟨a,c,e,_⟩:=hb; exact ⟨a,c,e⟩
  have HP:Hid (PI w R H0 T0 hv0 p0 s0 held0 l0 [] [] hv0 bv0 (.slice none 0 0) (.slice none 0 0) w):=P0
  clear P0 hk hst how hnil hb
  obtain ⟨ba0,bc0,rfl⟩:=hbf
  go_enter Tryz.func40,Tryz.ntmps40
  go_wp2
  go_step3
  go_wp2
  go_step3
  go_wp2_with fail
  go_loopg [1,7,8] (2 * l0.length + 1) (fun gk bv mv bsv wr=>∃ p s held l met bs hv ba bcap,bv = .slice ba l.length bcap∧Hid (PI w R H0 T0 hv0 p s held l met bs hv (.slice ba l.length bcap) mv bsv wr)∧2 * l.length + (if p = 1 then 1 else 0)≤gk)
  case atStart=>exact ⟨p0,s0,held0,l0, [], [],hv0,ba0,bc0,rfl,HP,by split <;> omega⟩
  case round =>
    clear HP c3
    obtain ⟨p,s,held,l,met,bs,hv,ba,bcap,rfl,H,hgk⟩:=hrel
    obtain ⟨ha,hc,hvf,hhle⟩:∃ ha hc,hv = .slice ha held.length hc∧held.length≤hc:=by obtain ⟨a,c,e,h,_⟩:=H.out.rh; exact ⟨a,c,e,h⟩
    have hble:l.length≤bcap:=H.out.rb.rb.le
    subst hvf
    have c0:=H.out.rk.c0
    have c2:=H.out.rk.c2
    have hln:=H.out.ln
    have hll:l.length≤33554432:=by omega
    rcases H.out.sm with ⟨hp,hsm1,hsm2⟩ | ⟨hp,hsm1⟩ | ⟨hp,hsm1,hsm2⟩
    · -- in the handshake
      subst hp
      by_cases hsg:sok l held.length = true
      · have SG:Hid (Calls Tryz.prog 63 #[.slice ba l.length bcap,.int .i64 held.length] wr fun e w'=>e = .returned (.bool true)∧∃ n,w' = wr.drewN n):=by
          have:=signed (.slice ba l.length bcap) l held.length (by omega) (by omega) wr H.out.rb.rb
          rwa [hsg] at this
        go_wp2_with fail
        refine SG.out.mono ?_
        rintro e w1 ⟨rfl,nq,rfl⟩
        have H1:Hid (PI w R H0 T0 hv0 2 s held l met bs (.slice ha held.length hc) (.slice ba l.length bcap) _ _ (wr.drewN nq)):=H.out.drew nq
        clear c0 c2 H SG
        generalize wr.drewN nq = wq at *
        have c0:=H1.out.rk.c0
        have c2:=H1.out.rk.c2
        by_cases hf:68≤held.length + l.length
        · skip
          go_wp2_with fail
          refine (fills_yes wq R 2 s 0 ha held.length hc l.length bcap ba H1.out.rk (by omega) (by omega) (by omega) (by omega) (by simp; omega)).mono ?_
          rintro e w1 ⟨rfl,rfl⟩
          have hz68:=zero68
          go_wp2_with fail
          obtain ⟨m1,m2,m3,m4,m5,m6⟩:=H1.out.at1 (.cells (bc (zr 68)) 119)
          have MV:=move _ _ R 2 s wq.heap.size 0 (.slice ha held.length hc) (.slice ba l.length bcap) held l (zr 68) 119 m1 (heapNew _ _) m4 m5 m2 m3 (by rw [zr_len]; omega) (by rw [zr_len]; omega) (by rw [zr_len]; omega) (by omega)
          rw [zr_len] at MV
          refine MV.mono ?_
          rintro e w2 ⟨bv',rfl,n1,n2,n3,n4,n5⟩
          have M2:Hid (PM w R hv0 2 s (l.drop (68 - held.length)) met bs bv' _ _ w2):=H1.out.moved m6 n1 n3 n4
          have hG:w.heap.size≤wq.heap.size:=H1.out.fr.size
          have hT:((held ++ l).take 68).length = 68:=by rw [List.length_take,List.length_append]; omega
          have HL':Hid ((l.drop (68 - held.length)).length = l.length - (68 - held.length)):=List.length_drop
          have HRD:Hid (∀ met' bs' h' r' e',Rd (2 == 2) (tx 2 s held ++ l) met' bs' h' r' e'→Rd H0 T0 (met ++ met') (bs ++ bs') h' r' e'):=H1.out.rd
          clear MV m1 m2 m3 m4 m5 n3 n4 n5 c0 c2
          have RDX:Hid (∀ met' bs' h' r' e',Rd (0 == 2) (tx 0 s [] ++ l.drop (68 - held.length)) met' bs' h' r' e'→Rd H0 T0 ((met ++ [hel (held ++ l)]) ++ met') (bs ++ bs') h' r' e'):=fun met' bs' h' r' e' h=>by
            rw [List.append_assoc]
            exact HRD.out _ _ _ _ _ (rd_hello hsm1 hsm2 hsg hf h)
          have HLE:=hello (.slice (some ⟨wq.heap.size,0,none⟩) 68 68) ((held ++ l).take 68) (by omega) (by omega) w2 (rb_block n2 68 hT)
          rw [hel_take] at HLE
          have h48:(hel (held ++ l)).length = 48:=hel_len _ (by rw [List.length_append]; exact hf)
          have HLE':Hid (Calls Tryz.prog 67 #[.slice (some ⟨wq.heap.size,0,none⟩) 68 68] w2 fun e w'=>e = .returned (.agg (bc (hel (held ++ l))))∧Below w2.heap.size w2 w'):=HLE
          clear HLE HRD n2 n1
          generalize hel (held ++ l) = hx at *
          generalize hll':l.drop (68 - held.length) = l' at *
          obtain ⟨ba',bcap',hbv,_⟩:∃ a c,bv' = .slice a l'.length c∧True:=by obtain ⟨a,c,e,_⟩:=M2.out.rb; exact ⟨a,c,e,trivial⟩
          subst hbv
          go_wp2_with fail
          refine HLE'.out.mono ?_
          rintro e w3 ⟨rfl,b3⟩
          have M3:Hid (PM w R hv0 2 s l' met bs (.slice ba' l'.length bcap') _ _ w3):=M2.out.below b3
          have M4:Hid (PM w R hv0 2 s l' met bs (.slice ba' l'.length bcap') _ _ (w3.alloc (.cells (bc hx) 97))):=M3.out.below ((Below.refl _ _).alloc (Nat.le_refl _) _)
          clear b3 HLE' M2
          go_wp2_with (first |(refine build_hello rfl _ rfl hx rfl h48 ?_) |(at_builtin; refine append_hello rfl _ _ rfl rfl M4.out.om w3.heap.size hx rfl (heapNew _ _) h48 (by have:=M4.out.fr.size; exact this) (by omega) ?_; intro v' w5 k1 k2; have M5:Hid (PM w R hv0 2 s l' (met ++ [hx]) bs (.slice ba' l'.length bcap') v' _ w5):=M4.out.met k1 k2; have q0:=M5.out.rk.c0; have q0f:=M5.out.rk.fr 0; have M6:Hid (PM w R hv0 0 s l' (met ++ [hx]) bs (.slice ba' l'.length bcap') v' _ (w5.setCell ⟨R,0,none⟩ (.int .i64 0))):=M5.out.set.1 0; clear k1 k2))
          go_roundg (2 * l'.length)
          case measure=>(have:=HL'.out; omega)
          case rel=>exact ⟨0,s, [],l',met ++ [hx],bs,.slice none 0 0,ba',bcap',rfl,M6.out.next (.inr (.inl ⟨rfl,by simp⟩)) RDX.out (by have:=HL'.out; simp; omega),by simp⟩
        · skip
          have W1:Hid (∀ v' w1,OW (R + 1) w1 v' (held ++ l)→(held ++ l = []→v' = .slice none 0 0)→wq.grownBy w1 (Value.slice ha held.length hc).ownBlock→(v'.ownBlock = (Value.slice ha held.length hc).ownBlock∨v'.ownBlock = some wq.heap.size)→RK w1 R 2 s (.slice ha held.length hc) 0∧PO w R H0 T0 hv0 _ _ 0 met bs (2 == 2) (tx 2 s held ++ l) 2 s (held ++ l) v' (w1.setCell ⟨R,2,none⟩ v')):=fun v' w1 h1 h2 h3 h4=>H1.out.waits (rd_few hsm2 hsg hf) (.inl ⟨rfl,by rw [List.length_append]; omega,by rw [sok_split,hsm2,hsg]; rfl⟩) h1 h2 h3 h4
          go_wp2_with fail
          refine (fills_no wq R 2 s 0 ha held.length hc l.length bcap ba H1.out.rk (by omega) (by omega) (by omega) (by omega) (by simp; omega)).mono ?_
          rintro e w1 ⟨rfl,rfl⟩
          go_wp2_with (at_builtin; refine append_held rfl _ _ rfl rfl H1.out.ow H1.out.nil rfl H1.out.rb.rb (by have:=H1.out.rk.lt; omega) (by omega) ?_; intro v' w1 k1 k2 k3 k4; obtain ⟨va,vn,vc,rfl⟩:=k1.form3; obtain ⟨KR,PO1⟩:=W1.out _ w1 k1 k2 k3 k4; have q2:=KR.c2; have q2f:=KR.fr 2; have q3:=PO1.rk.c3; have PO1':Hid (PO w R H0 T0 hv0 _ _ 0 met bs (2 == 2) (tx 2 s held ++ l) 2 s (held ++ l) (.slice va vn vc) (w1.setCell ⟨R,2,none⟩ (.slice va vn vc))):=PO1; clear k1 k2 k3 k4 KR PO1)
          generalize w1.setCell ⟨R,2,none⟩ (.slice va vn vc) = wE at *
          go_quiet (fail)
          go_wp2
          rw [Exit.noGoto_ret]
          go_ret3
          exact pushE_mk PO1'.out _
      · have hsg':sok l held.length = false:=by simpa using hsg
        have SG:Hid (Calls Tryz.prog 63 #[.slice ba l.length bcap,.int .i64 held.length] wr fun e w'=>e = .returned (.bool false)∧∃ n,w' = wr.drewN n):=by
          have:=signed (.slice ba l.length bcap) l held.length (by omega) (by omega) wr H.out.rb.rb
          rwa [hsg'] at this
        go_wp2_with fail
        refine SG.out.mono ?_
        rintro e w1 ⟨rfl,nq,rfl⟩
        have H1:Hid (PI w R H0 T0 hv0 2 s held l met bs (.slice ha held.length hc) (.slice ba l.length bcap) _ _ (wr.drewN nq)):=H.out.drew nq
        clear c0 c2 H SG
        generalize wr.drewN nq = wq at *
        go_wp2_with fail
        refine (breakOff wq R 2 s _ 0 100 H1.out.rk).mono ?_
        rintro e wE ⟨rfl,hkE,hfE⟩
        have PO1':Hid (PO w R H0 T0 hv0 _ _ 100 met bs (2 == 2) (tx 2 s held ++ l) 0 0 [] (.slice none 0 0) wE):=H1.out.broken 100 (.inl rfl) (rd_bad hsg') hkE hfE
        have q3:=hkE.c3
        clear hkE hfE
        go_wp2
        go_quiet (fail)
        go_wp2
        rw [Exit.noGoto_ret]
        go_ret3
        exact pushE_mk PO1'.out _
    · -- in the number
      subst hp
      by_cases hf:4≤held.length + l.length
      · skip
        go_wp2_with fail
        refine (fills_yes wr R 0 s 0 ha held.length hc l.length bcap ba H.out.rk (by omega) (by omega) (by omega) (by omega) (by simp; omega)).mono ?_
        rintro e w1 ⟨rfl,rfl⟩
        go_wp2_with fail
        rw [z4]
        obtain ⟨m1,m2,m3,m4,m5,m6⟩:=H.out.at1 (.cells (bc (zr 4)) 122)
        have MV:=move _ _ R 0 s wr.heap.size 0 (.slice ha held.length hc) (.slice ba l.length bcap) held l (zr 4) 122 m1 (heapNew _ _) m4 m5 m2 m3 (by rw [zr_len]; omega) (by rw [zr_len]; omega) (by rw [zr_len]; omega) (by omega)
        rw [zr_len] at MV
        refine MV.mono ?_
        rintro e w2 ⟨bv',rfl,n1,n2,n3,n4,n5⟩
        have M2:Hid (PM w R hv0 0 s (l.drop (4 - held.length)) met bs bv' _ _ w2):=H.out.moved m6 n1 n3 n4
        have hG:w.heap.size≤wr.heap.size:=H.out.fr.size
        have hT:((held ++ l).take 4).length = 4:=by rw [List.length_take,List.length_append]; omega
        have HL':Hid ((l.drop (4 - held.length)).length = l.length - (4 - held.length)):=List.length_drop
        have HRD:Hid (∀ met' bs' h' r' e',Rd (0 == 2) (tx 0 s held ++ l) met' bs' h' r' e'→Rd H0 T0 (met ++ met') (bs ++ bs') h' r' e'):=H.out.rd
        have n4b:=n4
        clear MV m1 m2 m3 m4 m5 n3 n4 n5 c0 c2
        have htx:=tx_num (s:=s) hsm1 hf
        have hnl:=nm_lt (held ++ l)
        have NUM:Hid (∀ u,Calls Tryz.prog 68 #[.agg (bc ((held ++ l).take 4))] u fun e w'=>e = .returned (.int .u32 (nm (held ++ l):Int))∧Below u.heap.size u w'):=fun u=>by
          have:=number _ hT u
          rwa [nm_take] at this
        have hi4:=info_four hT
        have RDX:Hid (32768 < nm (held ++ l)→Rd (0 == 2) (tx 0 s held ++ l) [] [] (0 == 2) (tx 0 s held ++ l) 102):=fun hb=>Rd.big _ (by simp [tx]; omega) (by simpa [tx] using hb)
        have RDY:Hid (∀ met' bs' h' r' e',Rd (1 == 2) (tx 1 (nm (held ++ l)) [] ++ l.drop (4 - held.length)) met' bs' h' r' e'→Rd H0 T0 (met ++ met') (bs ++ bs') h' r' e'):=fun met' bs' h' r' e' h=>HRD.out _ _ _ _ _ (by rw [htx] at h; exact h)
        have FR2:Hid (Fr (fun k=>k≠R) wr w2):=⟨(n4b.os).trans m6.os,(n4b.tape).trans m6.tape,(n4b.output).trans m6.output,Nat.le_trans m6.size n4b.size,fun k h1 h2=>(n4b.block k (Nat.lt_of_lt_of_le h1 m6.size) ⟨h2,by omega⟩).trans (m6.block k h1)⟩
        clear HRD htx n1 n4b m6
        generalize hT4:(held ++ l).take 4 = T4 at *
        generalize nm (held ++ l) = nn at *
        generalize hll':l.drop (4 - held.length) = l' at *
        obtain ⟨ba',bcap',hbv,_⟩:∃ a c,bv' = .slice a l'.length c∧True:=by obtain ⟨a,c,e,_⟩:=M2.out.rb; exact ⟨a,c,e,trivial⟩
        subst hbv
        clear hT4 hll'
        go_wp2_with (first |(refine wpList_load_row rfl 122 _ rfl wr.heap.size rfl 122 (bc T4) (0,0) _ n2 Tryz.underlying122 rfl hi4 ?_))
        refine (NUM.out _).mono ?_
        rintro e w3 ⟨rfl,b3⟩
        have M3:Hid (PM w R hv0 0 s l' met bs (.slice ba' l'.length bcap') _ _ w3):=M2.out.below b3
        by_cases hbig:32768 < nn
        · have FR3:Hid (Fr (fun k=>k≠R) wr w3):=FR2.out.trans (Fr.of_below b3) (fun _ _ x=>x)
          clear b3 M2 n2
          go_wp2_with fail
          refine (breakOff w3 R 0 s _ 0 102 M3.out.rk).mono ?_
          rintro e wE ⟨rfl,hkE,hfE⟩
          have PO1':Hid (PO w R H0 T0 hv0 _ _ 102 met bs (0 == 2) (tx 0 s held ++ l) 0 0 [] (.slice none 0 0) wE):=H.out.broken 102 (.inr rfl) (RDX.out hbig) hkE (FR3.out.trans hfE (fun _ _ x=>x))
          have q3:=hkE.c3
          clear hkE hfE
          go_wp2
          go_quiet (fail)
          go_wp2
          rw [Exit.noGoto_ret]
          go_ret3
          exact pushE_mk PO1'.out _
        · have q0:=M3.out.rk.c0
          have q0f:=M3.out.rk.fr 0
          have q1:=M3.out.rk.c1
          have q1f:=M3.out.rk.fr 1
          have M6:Hid (PM w R hv0 1 nn l' met bs (.slice ba' l'.length bcap') _ _ ((w3.setCell ⟨R,0,none⟩ (.int .i64 1)).setCell ⟨R,1,none⟩ (.int .i64 nn))):=(M3.out.set.1 1).set.2 nn
          clear b3 M2 n2
          go_wp2
          go_roundg (2 * l'.length + 1)
          case measure=>(have:=HL'.out; omega)
          case rel=>exact ⟨1,nn, [],l',met,bs,.slice none 0 0,ba',bcap',rfl,M6.out.next (.inr (.inr ⟨rfl,by omega,by simp⟩)) RDY.out (by have:=HL'.out; simp; omega),by simp⟩
      · skip
        have W1:Hid (∀ v' w1,OW (R + 1) w1 v' (held ++ l)→(held ++ l = []→v' = .slice none 0 0)→wr.grownBy w1 (Value.slice ha held.length hc).ownBlock→(v'.ownBlock = (Value.slice ha held.length hc).ownBlock∨v'.ownBlock = some wr.heap.size)→RK w1 R 0 s (.slice ha held.length hc) 0∧PO w R H0 T0 hv0 _ _ 0 met bs (0 == 2) (tx 0 s held ++ l) 0 s (held ++ l) v' (w1.setCell ⟨R,2,none⟩ v')):=fun v' w1 h1 h2 h3 h4=>H.out.waits (Rd.num _ (by simp [tx]; omega)) (.inr (.inl ⟨rfl,by rw [List.length_append]; omega⟩)) h1 h2 h3 h4
        go_wp2_with fail
        refine (fills_no wr R 0 s 0 ha held.length hc l.length bcap ba H.out.rk (by omega) (by omega) (by omega) (by omega) (by simp; omega)).mono ?_
        rintro e w1 ⟨rfl,rfl⟩
        go_wp2_with (at_builtin; refine append_held rfl _ _ rfl rfl H.out.ow H.out.nil rfl H.out.rb.rb (by have:=H.out.rk.lt; omega) (by omega) ?_; intro v' w1 k1 k2 k3 k4; obtain ⟨va,vn,vc,rfl⟩:=k1.form3; obtain ⟨KR,PO1⟩:=W1.out _ w1 k1 k2 k3 k4; have q2:=KR.c2; have q2f:=KR.fr 2; have q3:=PO1.rk.c3; have PO1':Hid (PO w R H0 T0 hv0 _ _ 0 met bs (0 == 2) (tx 0 s held ++ l) 0 s (held ++ l) (.slice va vn vc) (w1.setCell ⟨R,2,none⟩ (.slice va vn vc))):=PO1; clear k1 k2 k3 k4 KR PO1)
        generalize w1.setCell ⟨R,2,none⟩ (.slice va vn vc) = wE at *
        go_quiet (fail)
        go_wp2
        rw [Exit.noGoto_ret]
        go_ret3
        exact pushE_mk PO1'.out _
    · -- in the body
      subst hp
      have c1:=H.out.rk.c1
      rw [if_pos rfl] at hgk hln
      by_cases hf:s≤held.length + l.length
      · skip
        go_wp2_with fail
        refine (fills_yes wr R 1 s 0 ha held.length hc l.length bcap ba H.out.rk (by omega) (by omega) (by omega) (by omega) (by simp; omega)).mono ?_
        rintro e w1 ⟨rfl,rfl⟩
        have hmk:=make_bytes s (by omega)
        go_wp2_with fail
        skip
        obtain ⟨m1,m2,m3,m4,m5,m6⟩:=H.out.at1 (.cells (bc (zr s)) 5)
        have MV:=move _ _ R 1 s wr.heap.size 0 (.slice ha held.length hc) (.slice ba l.length bcap) held l (zr s) 5 m1 (heapNew _ _) m4 m5 m2 m3 (by rw [zr_len]; omega) (by rw [zr_len]; omega) (by rw [zr_len]; omega) (by omega)
        rw [zr_len] at MV
        refine MV.mono ?_
        rintro e w2 ⟨bv',rfl,n1,n2,n3,n4,n5⟩
        have M2:Hid (PM w R hv0 1 s (l.drop (s - held.length)) met bs bv' _ _ w2):=H.out.moved m6 n1 n3 n4
        have hG:w.heap.size≤wr.heap.size:=H.out.fr.size
        have hT:((held ++ l).take s).length = s:=by rw [List.length_take,List.length_append]; omega
        have HL':Hid ((l.drop (s - held.length)).length = l.length - (s - held.length)):=List.length_drop
        have HRD:Hid (∀ met' bs' h' r' e',Rd (1 == 2) (tx 1 s held ++ l) met' bs' h' r' e'→Rd H0 T0 (met ++ met') (bs ++ bs') h' r' e'):=H.out.rd
        clear MV m1 m2 m3 m4 m5 n3 n4 n5 c0 c2
        have RDX:Hid (∀ met' bs' h' r' e',Rd (0 == 2) (tx 0 s [] ++ l.drop (s - held.length)) met' bs' h' r' e'→Rd H0 T0 (met ++ met') ((bs ++ [(held ++ l).take s]) ++ bs') h' r' e'):=fun met' bs' h' r' e' h=>by
          rw [List.append_assoc]
          exact HRD.out _ _ _ _ _ (rd_body hsm2 hsm1 hf h)
        clear HRD n1 hmk c1
        generalize hTs:(held ++ l).take s = Ts at *
        generalize hll':l.drop (s - held.length) = l' at *
        obtain ⟨ba',bcap',hbv,_⟩:∃ a c,bv' = .slice a l'.length c∧True:=by obtain ⟨a,c,e,_⟩:=M2.out.rb; exact ⟨a,c,e,trivial⟩
        subst hbv
        clear hTs hll'
        have M4:Hid (PM w R hv0 1 s l' met bs (.slice ba' l'.length bcap') _ _ (w2.alloc (.cells #[.slice (some ⟨wr.heap.size,0,none⟩) s s] 37))):=M2.out.below ((Below.refl _ _).alloc (Nat.le_refl _) _)
        have BKK:Hid (BK (fun g=>w.heap.size≤g) (w2.alloc (.cells #[.slice (some ⟨wr.heap.size,0,none⟩) s s] 37)) (.slice (some ⟨wr.heap.size,0,none⟩) s s) Ts):=⟨wr.heap.size,hG,by rw [hT],(heapOld _ _ _ (Array.getElem?_eq_some_iff.1 n2).1).trans n2⟩
        clear n2 M2
        go_wp2_with (at_builtin; refine append_body rfl _ _ rfl rfl M4.out.ob w2.heap.size _ Ts rfl (by go_simp) BKK.out (by have:=M4.out.fr.size; exact this) (by omega) ?_; intro v' w5 k1 k2; have M5:Hid (PM w R hv0 1 s l' met (bs ++ [Ts]) (.slice ba' l'.length bcap') _ v' w5):=M4.out.bod k1 k2; have q0:=M5.out.rk.c0; have q0f:=M5.out.rk.fr 0; have M6:Hid (PM w R hv0 0 s l' met (bs ++ [Ts]) (.slice ba' l'.length bcap') _ v' (w5.setCell ⟨R,0,none⟩ (.int .i64 0))):=M5.out.set.1 0; clear k1 k2)
        go_roundg (2 * l'.length)
        case measure=>(have:=HL'.out; omega)
        case rel=>exact ⟨0,s, [],l',met,bs ++ [Ts],.slice none 0 0,ba',bcap',rfl,M6.out.next (.inr (.inl ⟨rfl,by simp⟩)) RDX.out (by have:=HL'.out; simp; omega),by simp⟩
      · skip
        have W1:Hid (∀ v' w1,OW (R + 1) w1 v' (held ++ l)→(held ++ l = []→v' = .slice none 0 0)→wr.grownBy w1 (Value.slice ha held.length hc).ownBlock→(v'.ownBlock = (Value.slice ha held.length hc).ownBlock∨v'.ownBlock = some wr.heap.size)→RK w1 R 1 s (.slice ha held.length hc) 0∧PO w R H0 T0 hv0 _ _ 0 met bs (1 == 2) (tx 1 s held ++ l) 1 s (held ++ l) v' (w1.setCell ⟨R,2,none⟩ v')):=fun v' w1 h1 h2 h3 h4=>H.out.waits (rd_part hsm1 hf) (.inr (.inr ⟨rfl,hsm1,by rw [List.length_append]; omega⟩)) h1 h2 h3 h4
        go_wp2_with fail
        refine (fills_no wr R 1 s 0 ha held.length hc l.length bcap ba H.out.rk (by omega) (by omega) (by omega) (by omega) (by simp; omega)).mono ?_
        rintro e w1 ⟨rfl,rfl⟩
        go_wp2_with (at_builtin; refine append_held rfl _ _ rfl rfl H.out.ow H.out.nil rfl H.out.rb.rb (by have:=H.out.rk.lt; omega) (by omega) ?_; intro v' w1 k1 k2 k3 k4; obtain ⟨va,vn,vc,rfl⟩:=k1.form3; obtain ⟨KR,PO1⟩:=W1.out _ w1 k1 k2 k3 k4; have q2:=KR.c2; have q2f:=KR.fr 2; have q3:=PO1.rk.c3; have PO1':Hid (PO w R H0 T0 hv0 _ _ 0 met bs (1 == 2) (tx 1 s held ++ l) 1 s (held ++ l) (.slice va vn vc) (w1.setCell ⟨R,2,none⟩ (.slice va vn vc))):=PO1; clear k1 k2 k3 k4 KR PO1)
        generalize w1.setCell ⟨R,2,none⟩ (.slice va vn vc) = wE at *
        go_quiet (fail)
        go_wp2
        rw [Exit.noGoto_ret]
        go_ret3
        exact pushE_mk PO1'.out _
end Go.Proofs.YtfjjpbebnoghmaaGreatDoor.Fm
