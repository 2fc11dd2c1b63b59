import Derived.Test.YtfjjpbebnoghmaaGreatDoorK00
import Derived.Test.YtfjjpbebnoghmaaGreatDoorK18
import Derived.Test.YtfjjpbebnoghmaaGreatDoorK09
import Derived.Test.YtfjjpbebnoghmaaGreatDoorK11
import Derived.Deep.Cut
import Derived.Deep.CutRange
namespace Go.Proofs.YtfjjpbebnoghmaaGreatDoor
open Go.RowKit
theorem foldl_off (off:Nat):∀ (xs:List Value) (k:Nat) (cs:Array Value),off + k + xs.length≤cs.size →
    ((xs.zipIdx k).foldl (fun (cs:Array Value) (p:Value × Nat)=>cs.setIfInBounds (off + p.2) p.1) cs).toList = cs.toList.take (off + k) ++ xs ++ cs.toList.drop (off + k + xs.length)
  | [],k,cs,_=>by simp
  | x :: xs,k,cs,h=>by
    simp only [List.zipIdx_cons,List.foldl_cons,List.length_cons] at h ⊢
    rw [foldl_off off xs (k + 1) (cs.setIfInBounds (off + k) x) (by rw [Array.size_setIfInBounds]; omega),Array.toList_setIfInBounds]
    have e:=list_seg_step cs.toList (off + k) x xs (by have q:cs.toList.length = cs.size:=Array.length_toList; omega)
    simpa [Nat.add_assoc] using e
structure Ev where
  hello:Bool
  peer:List UInt8
  x:Mg
def Ev.ls (e:Ev):List Value:=.bool e.hello :: (Lib.byteCells e.peer ++ e.x.m.ls)
def z61:Array Value:=(Value.bool false :: (List.replicate 20 (Value.int .u8 0) ++ zm.ls)).toArray
theorem built49 (parts:List (Nat × Value)):Tryz.prog.built 100 parts = Instr.fill (([(0,1),(1,20),(21,40)]:List (Nat × Nat)).toArray[·]?) z61 parts:=by kernel_rfl
theorem builtM (m:Mv) (ok:m.ok):Tryz.prog.built 100 [(2,.agg m.cs)] = some (Ev.ls ⟨false,zr 20,⟨m, [], []⟩⟩).toArray:=by
  rw [built49]
  have hc:(Value.agg m.cs).cells = m.cs:=rfl
  unfold Instr.fill
  simp only [hc,ok.size]
  rw [show (([(0,1),(1,20),(21,40)]:List (Nat × Nat)).toArray[2]?) = some (21,40) from rfl]
  simp only
  rw [if_neg (by simp [show z61.size = 61 from rfl])]
  unfold Instr.fill
  congr 1
  apply Array.ext'
  rw [← Array.foldl_toList,Array.toList_zipIdx]
  have:=foldl_off 21 m.cs.toList 0 z61 (by rw [Array.length_toList,ok.size]; decide)
  rw [this,Array.length_toList,ok.size]
  have e1:z61.toList.take (21 + 0) = Value.bool false :: List.replicate 20 (Value.int .u8 0):=rfl
  have e2:z61.toList.drop (21 + 0 + 40) = []:=rfl
  rw [e1,e2,List.append_nil]
  rfl
theorem builtH (pr:List UInt8) (hl:pr.length = 20):Tryz.prog.built 100 [(0,.bool true),(1,.agg (bc pr))] = some (Ev.ls ⟨true,pr,⟨zm, [], []⟩⟩).toArray:=by
  rw [built49]
  have hc:(Value.agg (bc pr)).cells = bc pr:=rfl
  have hz:(bc pr).size = 20:=by rw [bc_size,hl]
  unfold Instr.fill
  rw [show (([(0,1),(1,20),(21,40)]:List (Nat × Nat)).toArray[0]?) = some (0,1) from rfl]
  simp only
  rw [if_neg (by simp [show z61.size = 61 from rfl,Value.cells])]
  unfold Instr.fill
  rw [show (([(0,1),(1,20),(21,40)]:List (Nat × Nat)).toArray[1]?) = some (1,20) from rfl]
  simp only [hc,hz]
  rw [if_neg (by simp [show z61.size = 61 from rfl,Value.cells])]
  unfold Instr.fill
  congr 1
  apply Array.ext'
  rw [← Array.foldl_toList,Array.toList_zipIdx]
  have:=foldl_off 1 (bc pr).toList 0 (z61.setIfInBounds (0 + 0) (.bool true)) (by rw [Array.length_toList,hz]; decide)
  have e0:((Value.bool true).cells.zipIdx.foldl (fun (cs:Array Value) (p:Value × Nat)=>cs.setIfInBounds (0 + p.2) p.1) z61) = z61.setIfInBounds (0 + 0) (.bool true):=rfl
  rw [e0,this,Array.length_toList,hz]
  have e1:(z61.setIfInBounds (0 + 0) (.bool true)).toList.take (1 + 0) = [Value.bool true]:=rfl
  have e2:(z61.setIfInBounds (0 + 0) (.bool true)).toList.drop (1 + 0 + 20) = zm.ls:=rfl
  rw [e1,e2,bc_list]
  rfl
theorem info_evP:(Tryz.prog.info? 100).map (fun i=>(i.zero,i.size,i.bytes)) = some (some (.agg z61),61,152):=by kernel_rfl
structure OEv (B:Nat) (w:World) (e:Ev):Prop where
  pr:e.peer.length = 20
  mg:OMg B w e.x
theorem Ev.len {B:Nat} {w:World} {e:Ev} (h:OEv B w e):e.ls.length = 61:=by
  unfold Ev.ls
  rw [List.length_cons,List.length_append,bcl_len,h.pr,ok_ls h.mg.ok]
theorem Ev.one {B:Nat} {w:World} {e:Ev} (h:OEv B w e):∀ u ∈ e.ls,u.oneCell' = true:=fun u hu=>by
  unfold Ev.ls at hu
  rcases List.mem_cons.1 hu with rfl | hu
  · rfl
  rcases List.mem_append.1 hu with hu | hu
  · exact Lib.byteCells_one _ u hu
  · exact Array.all_eq_true_iff_forall_mem.1 h.mg.ok.one u (by simpa [Mv.cs] using hu)
def EVS (B:Nat) (w:World) (v:Value) (es:List Ev):Prop:=w.ownsRow B 100 61 v es.length (es.flatMap Ev.ls)∧∀ e ∈ es,OEv B w e
theorem EVS.nil (B:Nat) (w:World):EVS B w (.slice none 0 0) []:=⟨World.ownsRow_nil _ _ _ _,fun _ h=>by cases h⟩
theorem EVS.form {B:Nat} {w:World} {v:Value} {es:List Ev} (h:EVS B w v es):∃ a c,v = .slice a es.length c:=by
  rcases h.1.2 with ⟨h1,h2⟩ | ⟨g,cap,cur,h1,_⟩
  · exact ⟨none,0,by rw [h1,h2]⟩
  · exact ⟨_,_,h1⟩
theorem ownsRow_fr {B:Nat} {w w':World} {e n size:Nat} {v:Value} {us:List Value} (h:w.ownsRow B e size v n us) (hk:∀ k,B≤k→k < w.heap.size→w'.heap[k]? = w.heap[k]?):w'.ownsRow B e size v n us:=by
  refine ⟨h.1,?_⟩
  rcases h.2 with h1 | ⟨g,cap,cur,h1,h2,h3,h4⟩
  · exact .inl h1
  · exact .inr ⟨g,cap,cur,h1,h2,(hk g h2 (Array.getElem?_eq_some_iff.1 h3).1).trans h3,h4⟩
theorem OMg.fr {B:Nat} {w w':World} {x:Mg} (h:OMg B w x) (hk:∀ k,B≤k→k < w.heap.size→w'.heap[k]? = w.heap[k]?):OMg B w' x:=by
  refine ⟨h.ok,ownsRow_fr h.d hk,?_,h.dl,h.hl⟩
  obtain ⟨n,e,hh⟩:=h.h
  exact ⟨n,e,ownsRow_fr hh hk⟩
theorem EVS.fr {B:Nat} {w w':World} {v:Value} {es:List Ev} (h:EVS B w v es) (hk:∀ k,B≤k→k < w.heap.size→w'.heap[k]? = w.heap[k]?):EVS B w' v es:=
  ⟨ownsRow_fr h.1 hk,fun e he=>⟨(h.2 e he).pr,(h.2 e he).mg.fr hk⟩⟩
theorem build_ev {ops:Array Oper} {rest:List Oper} {o:Oper} {a:Act} {w:World} {Q:Exit→Act→World→Prop} (hg:o.guard = none) (x:Operand) (ho:o.op = .buildSlice 65 1 #[(0,x)]) (cs:Array Value) (hv:a.eval x = .agg cs) (hl:cs.size = 61)
    (h:wpList Tryz.prog ops Q rest (a.put o.dst (.slice (some ⟨w.heap.size,0,none⟩) 1 1)) (w.alloc (.cells cs 100))):wpList Tryz.prog ops Q (o :: rest) a w:=by
  obtain ⟨i0,hi,hz0,hz1,hz2⟩:=info_parts info_evP
  refine wpList_buildSlice hg 65 100 1 _ ho cs i0 _ Tryz.underlying65 hi hz0 (by rw [hz1]; decide) (by rw [hz1]; decide) ?_ h
  rw [hz1]
  have e:(#[(0,x)].map fun (i,y)=>(i,a.eval y)).toList = [(0,.agg cs)]:=by simp [hv]
  rw [e]
  exact fillN 61 cs hl _ (by rw [Array.size_map,Array.size_range])
theorem append_ev {ops:Array Oper} {rest:List Oper} {o:Oper} {a:Act} {Q:Exit→Act→World→Prop} {w:World} {B:Nat} {sv:Value} {es:List Ev} (hgd:o.guard = none) (s x:Operand)
    (ho:o.op = .call { callee:=.builtin .append,args:=#[s,x],argTypes:=#[65,65] }) (hs:a.eval s = sv) (hown:EVS B w sv es) (b:Nat) (y:Ev) (hx:a.eval x = .slice (some ⟨b,0,none⟩) 1 1)
    (hc:w.heap[b]? = some (.cells y.ls.toArray 100 (0,0))) (hy:OEv B w y) (hB:B≤w.heap.size) (hlim:es.length < 107374182)
    (h:∀ v' w',EVS B w' v' (es ++ [y])→Below B w w'→(∀ k,k < w.heap.size→(∀ cs f,w.heap[k]?≠some (.cells cs 100 f))→w'.heap[k]? = w.heap[k]?)→w'.os = w.os∧w'.tape = w.tape∧w'.output = w.output∧w.heap.size≤w'.heap.size→wpList Tryz.prog ops Q rest (a.put o.dst v') w'):wpList Tryz.prog ops Q (o :: rest) a w:=by
  obtain ⟨i0,hi,hz0,hz1,hz2⟩:=info_parts info_evP
  have hy61:=Ev.len hy
  refine wpList_append_own w hgd s x 65 ho B 100 i0 _ 61 152 Tryz.underlying65 hi hz0 hz1 hz2 rfl (by omega) sv es.length (es.flatMap Ev.ls) hs hown.1 ⟨b,0,none⟩ 1 1 y.ls hx (by rw [hy61]) (fun j u hu=>?_) (fun u hu=>Ev.one hy u hu) (by unfold maxLen; omega) (by omega) hB (fun v' w' h1 h2 _=>?_)
  · rw [Addr.add_mid,Nat.zero_add]
    simp only [World.cell?,hc]
    simpa using hu
  · have hrow:∀ (k:Nat) (cs:Array Value) (t:TypeId),w.heap[k]? = some (.cells cs t (0,0))→t≠100→w'.heap[k]? = some (.cells cs t (0,0)):=fun k cs t hk ht=>by
      refine (h2.block k (Array.getElem?_eq_some_iff.1 hk).1 fun e'=>?_).trans hk
      rcases hown.1.2 with ⟨rfl,_⟩ | ⟨g,cap,cur,rfl,_,hg,_⟩
      · simp [Value.ownBlock] at e'
      · simp [Value.ownBlock] at e'
        subst e'
        rw [hk] at hg
        simp at hg
        exact ht hg.2
    have hmg:∀ z,OMg B w z→OMg B w' z:=fun z hz=>by
      refine ⟨hz.ok,⟨hz.d.1,?_⟩,?_,hz.dl,hz.hl⟩
      · rcases hz.d.2 with h1 | ⟨k,cap,cur,h1,h2,h3,h4⟩
        · exact .inl h1
        · exact .inr ⟨k,cap,cur,h1,h2,hrow _ _ _ h3 (by decide),h4⟩
      · obtain ⟨n,e,hh⟩:=hz.h
        refine ⟨n,e,hh.1,?_⟩
        rcases hh.2 with h1 | ⟨k,cap,cur,h1,h2,h3,h4⟩
        · exact .inl h1
        · exact .inr ⟨k,cap,cur,h1,h2,hrow _ _ _ h3 (by decide),h4⟩
    have hstr:∀ k,k < w.heap.size→(∀ cs f,w.heap[k]?≠some (.cells cs 100 f))→w'.heap[k]? = w.heap[k]?:=fun k hk hne=>by
      refine h2.block k hk fun e'=>?_
      rcases hown.1.2 with ⟨rfl,_⟩ | ⟨g,cap,cur,rfl,_,hg,_⟩
      · simp [Value.ownBlock] at e'
      · simp [Value.ownBlock] at e'
        subst e'
        exact hne _ _ hg
    have hbl:=(Below.refl B w).grown h2 hB (fun k hk=>(World.ownsRow.lt hown.1 k hk).1)
    refine h v' w' ⟨?_,fun z hz=>?_⟩ hbl hstr ⟨hbl.os,hbl.tape,hbl.output,hbl.size⟩
    · rw [List.flatMap_append,List.length_append]
      simpa using h1
    · rcases List.mem_append.1 hz with hz | hz
      · exact ⟨(hown.2 z hz).pr,hmg _ (hown.2 z hz).mg⟩
      · simp at hz; subst hz; exact ⟨hy.pr,hmg _ hy.mg⟩
structure Bd (m:Mv):Prop where
  i0:0≤m.i
  i1:m.i≤4294967295
  b0:0≤m.b
  b1:m.b≤4294967295
  l0:0≤m.l
  l1:m.l≤4294967295
theorem nm4_le (l:List UInt8):nm4 l≤4294967295:=by
  have h0:=(byt l 0).toNat_lt
  have h1:=(byt l 1).toNat_lt
  have h2:=(byt l 2).toNat_lt
  have h3:=(byt l 3).toNat_lt
  unfold nm4
  omega
theorem upd_bd (c:Nat) (m:Mv) (l:List UInt8) (h:Bd m):Bd (upd c m l):=by
  have h0:=(byt l 0).toNat_lt
  have h4:=nm4_le l
  obtain ⟨a1,a2,a3,a4,a5,a6⟩:=h
  unfold upd
  split <;> constructor <;> (try simp only) <;> omega
theorem tks_bd (cs:List Nat) (s:Ds) (h:Bd s.m):Bd (Ds.tks cs s).m:=by
  induction cs generalizing s with
  | nil=>exact h
  | cons c cs ih=>exact ih (Ds.tk c s) (upd_bd c s.m s.l h)
theorem decS_bd (l:List UInt8):Bd (decS l).m:=by
  have hz:Bd zm:=⟨by decide,by decide,by decide,by decide,by decide,by decide⟩
  unfold decS
  split
  · split
    · exact tks_bd _ _ ⟨Int.le_refl _,(by decide:(0:Int)≤4294967295),Int.le_refl _,(by decide:(0:Int)≤4294967295),Int.le_refl _,(by decide:(0:Int)≤4294967295)⟩
    · exact hz
  · exact hz
structure Qs where
  c:Bool
  i:Bool
  b:Bool
  H:List UInt8
def Hstep (n:Nat) (q:Qs) (m:Mv) (D:List UInt8) (q':Qs):Prop:=
  q'.c = (sy m.k q.c q.i q.b).1∧q'.i = (sy m.k q.c q.i q.b).2.1∧q'.b = (sy m.k q.c q.i q.b).2.2 ∧
  ((m.k = 4∧((Bs.gB (n:Int) q.H m.i = true∧q'.H = q.H)∨(Bs.gB (n:Int) q.H m.i = false∧Bs.PU (n:Int) q.H m.i true q'.H)))∨(m.k = 5∧q'.H = D)∨(m.k≠4∧m.k≠5∧q'.H = q.H))
inductive Hr (L:List Int) (pb:Int):Qs→List (List UInt8)→List Mg→Qs→Int→Prop
  | nil (q:Qs):Hr L pb q [] [] q 0
  | dec (q:Qs) (y:List UInt8) (bs:List (List UInt8)):decE y≠0→Hr L pb q (y :: bs) [] q (decE y)
  | ill (q:Qs) (y:List UInt8) (bs:List (List UInt8)):decE y = 0→legE L pb q.b (decS y).m (decS y).D≠0→Hr L pb q (y :: bs) [] q (legE L pb q.b (decS y).m (decS y).D)
  | ok (q q1 q':Qs) (y:List UInt8) (bs:List (List UInt8)) (xs:List Mg) (e:Int):decE y = 0→legE L pb q.b (decS y).m (decS y).D = 0→Hstep L.length q (decS y).m (decS y).D q1→Hr L pb q1 bs xs q' e →
      Hr L pb q (y :: bs) ((if (decS y).m.k = 1000 then [] else [⟨(decS y).m,(decS y).D,(decS y).hb⟩]) ++ xs) q' e
def EvM (es:List Ev) (xs:List Mg):Prop:=es.length = xs.length∧∀ (k:Nat) (e:Ev) (x:Mg),es[k]? = some e→xs[k]? = some x→e.hello = false∧e.peer = zr 20∧e.x.D = x.D∧e.x.hb = x.hb∧e.x.m = { x.m with d:=e.x.m.d,h:=e.x.m.h }
def Sg (g:Nat) (w:World) (φ:World→Prop):Prop:=∀ w',Fm.Fr (fun k=>k≠g) w w'→φ w'
theorem Sg.now {g:Nat} {w:World} {φ:World→Prop} (h:Sg g w φ):φ w:=h w (Fm.Fr.refl _ _)
theorem KT.fr {g:Nat} {w w':World} (h:KT w) (hf:Fm.Fr (fun k=>k≠g) w w') (hg:1 < g):KT w':=fun j v hj=>by
  have:=h j v hj
  rw [World.cell?_of_block (w:=w) (hf.block 0 h.pos (by omega))]
  exact this
theorem MT.fr {g:Nat} {w w':World} (h:Bs.MT w) (hf:Fm.Fr (fun k=>k≠g) w w') (hg:1 < g):Bs.MT w':=
  ⟨Nat.lt_of_lt_of_le h.1 hf.size,fun j hj=>(World.cell?_of_block (w:=w) (hf.block 1 h.1 (by omega))).trans (h.2 j hj)⟩
structure Fe (g:Nat) (w w':World):Prop where
  os:w'.os = w.os
  tape:w'.tape = w.tape
  output:w'.output = w.output
  size:w.heap.size≤w'.heap.size
  block:∀ k,k < w.heap.size→k≠g→(∀ cs f,w.heap[k]?≠some (.cells cs 100 f))→w'.heap[k]? = w.heap[k]?
theorem Fe.of_fr {g:Nat} {w w':World} (h:Fm.Fr (fun k=>k≠g) w w'):Fe g w w':=⟨h.os,h.tape,h.output,h.size,fun k hk hg _=>h.block k hk hg⟩
theorem Fe.of_below {g:Nat} {w w':World} (h:Below w.heap.size w w'):Fe g w w':=.of_fr (Fm.Fr.of_below h)
theorem Fe.trans {g:Nat} {a b c:World} (h1:Fe g a b) (h2:Fe g b c):Fe g a c:=
  ⟨h2.os.trans h1.os,h2.tape.trans h1.tape,h2.output.trans h1.output,Nat.le_trans h1.size h2.size,fun k hk hg hn=>by
    have e:=h1.block k hk hg hn
    exact (h2.block k (Nat.lt_of_lt_of_le hk h1.size) hg (by rw [e]; exact hn)).trans e⟩
def Se (g:Nat) (w:World) (φ:World→Prop):Prop:=∀ w',Fe g w w'→φ w'
theorem Fe.refl (g:Nat) (w:World):Fe g w w:=⟨rfl,rfl,rfl,Nat.le_refl _,fun _ _ _ _=>rfl⟩
theorem Se.now {g:Nat} {w:World} {φ:World→Prop} (h:Se g w φ):φ w:=h w (Fe.refl _ _)
theorem Se.fr {g:Nat} {w w':World} {φ:World→Prop} (h:Se g w φ) (hf:Fe g w w'):Se g w' φ:=fun _ hx=>h _ (hf.trans hx)
structure HC (w:World) (g:Nat) (P:Pv) (L:List Int) (H:List UInt8):Prop where
  pk:PK w g P
  g1:1 < g
  b0:64≤P.b
  b1:P.b≤16384
  lz:Se g w (fun u=>Bs.RZ u P.ln L)
  lok:LOk L
  hz:Se g w (fun u=>RB u P.hs H)
  hl:H.length≤140737488351232
  kt:KT w
  mt:Bs.MT w
theorem HC.pl {w:World} {g:Nat} {P:Pv} {L:List Int} {H:List UInt8} (h:HC w g P L H):PL w g P L:=⟨h.pk,h.b0,h.b1,h.lz.now,h.lok⟩
theorem HC.fr {w w':World} {g:Nat} {P:Pv} {L:List Int} {H:List UInt8} (h:HC w g P L H) (hf:Fe g w w') (hk:PK w' g P) (kt:KT w') (mt:Bs.MT w'):HC w' g P L H:=
  ⟨hk,h.g1,h.b0,h.b1,h.lz.fr hf,h.lok,h.hz.fr hf,h.hl,kt,mt⟩
theorem HC.below {w w':World} {g:Nat} {P:Pv} {L:List Int} {H:List UInt8} (h:HC w g P L H) (hb:Below w.heap.size w w'):HC w' g P L H:=h.fr (Fe.of_below hb) (h.pk.keep (hb.block g h.pk.lt)) (h.kt.below hb h.kt.pos) (h.mt.keep hb)
theorem equal_20 (w:World) (d:Nat) (l m:List UInt8) (hl:l.length = 20) (hm:m.length = 20):(Op.equalIn (d + 2) 41 (.agg (bc l)) (.agg (bc m))).run Tryz.prog w = .ok (decide (l = m)) w:=by
  obtain ⟨i,hi,hc⟩:=info5'
  rw [run_equalIn_array w (d + 1) _ _ Tryz.underlying41 hi,hc,eqItems_bytes w d l m (by omega) _ (fun j hj=>by rw [hl]; exact List.mem_range.1 hj),all_byt l m 20 hl hm]
def hinf (h:List UInt8):List UInt8:=(h.drop 8).take 20
def hpeer (h:List UInt8):List UInt8:=h.drop 28
theorem hparts {w:World} {gh:Nat} {h:List UInt8} {t:TypeId} (hg:w.heap[gh]? = some (.cells (bc h) t (0,0))):w.rangeAt gh 8 (Lib.byteCells (hinf h))∧w.rangeAt gh 28 (Lib.byteCells (hpeer h)):=by
  have key:∀ j,w.cell? ⟨gh,j,none⟩ = (Lib.byteCells h)[j]?:=fun j=>by simp [World.cell?,hg,bc]
  refine ⟨fun j v hj=>?_,fun j v hj=>?_⟩
  · rw [key]
    have hj':j < 20:=by
      have:=(List.getElem?_eq_some_iff.1 hj).1
      rw [bcl_len] at this
      unfold hinf at this
      rw [List.length_take] at this
      omega
    unfold hinf at hj
    simp only [Lib.byteCells,List.map_take,List.map_drop] at hj ⊢
    rw [List.getElem?_take_of_lt hj',List.getElem?_drop] at hj
    exact hj
  · rw [key]
    unfold hpeer at hj
    simp only [Lib.byteCells,List.map_drop] at hj ⊢
    rw [List.getElem?_drop] at hj
    exact hj
theorem hinf_len {h:List UInt8} (hl:h.length = 48):(hinf h).length = 20:=by unfold hinf; rw [List.length_take,List.length_drop]; omega
theorem hpeer_len {h:List UInt8} (hl:h.length = 48):(hpeer h).length = 20:=by unfold hpeer; rw [List.length_drop]; omega
theorem PK.infoR {w:World} {g:Nat} {P:Pv} (h:PK w g P):w.rangeAt g 0 (Lib.byteCells P.info):=fun j v hj=>by
  have hlt:=(List.getElem?_eq_some_iff.1 hj).1
  rw [Nat.zero_add]
  simp only [World.cell?,h.2]
  simp only [List.getElem?_toArray]
  unfold Pv.ls
  rw [List.getElem?_append_left hlt]
  exact hj
def hev (h:List UInt8):Ev:=⟨true,hpeer h,⟨zm, [], []⟩⟩
theorem hev_ok (B:Nat) (w:World) {h:List UInt8} (hl:h.length = 48):OEv B w (hev h):=
  ⟨hpeer_len hl,⟨rfl,⟨_,_,_,rfl⟩,⟨_,_,_,rfl⟩⟩,World.ownsRow_nil _ _ _ _,⟨0,rfl,World.ownsRow_nil _ _ _ _⟩,Nat.zero_le _,Nat.zero_le _⟩
def Dj (h0 h1:Value) (es:List Ev):Prop:=(es.filterMap (fun e=>e.x.m.d.ownBlock)).Nodup∧(h1 = h0∨∀ e ∈ es, ∀ k,e.x.m.d.ownBlock = some k→h1.ownBlock≠some k)∧(es.filterMap (fun e=>e.x.m.h.ownBlock)).Nodup
theorem ownb_ge {w:World} {B e size n:Nat} {v:Value} {xs:List Value} (h:w.ownsRow B e size v n xs) {k:Nat} (hk:v.ownBlock = some k):B≤k∧k < w.heap.size:=by
  rcases h.2 with ⟨rfl,_⟩ | ⟨q,cap,cur,rfl,h2,h3,_⟩
  · simp [Value.ownBlock] at hk
  · simp [Value.ownBlock] at hk
    subst hk
    exact ⟨h2,(Array.getElem?_eq_some_iff.1 h3).1⟩
theorem Dj.step {wr w2 w3 w4:World} {n B:Nat} {P':Pv} {es:List Ev} {Ph:Value} {H H0:List UInt8} {m:Mv} {D:List UInt8} {hv:Value} {H':List UInt8} (hd:Dj Ph P'.hs es) (he:∀ e ∈ es,OEv B wr e) (x:Mg) (hx:∀ k,x.m.d.ownBlock = some k→wr.heap.size≤k∧k < w2.heap.size) (hy:∀ k,x.m.h.ownBlock = some k→wr.heap.size≤k) (h23:w2.heap.size≤w3.heap.size) (hwr:wr.heap.size≤w3.heap.size) (hn:HN w3 w4 n P' H m D hv H') (ho:(P'.hs = Ph∧H = H0)∨OW B wr P'.hs H) :
    Dj Ph hv es∧Dj Ph hv (es ++ [⟨false,zr 20,x⟩]):=by
  have hlt:∀ e ∈ es, ∀ k,e.x.m.d.ownBlock = some k→k < wr.heap.size:=fun e h1 k h2=>(ownb_ge (he e h1).mg.d h2).2
  have hnd:((es ++ [(⟨false,zr 20,x⟩:Ev)]).filterMap (fun e=>e.x.m.d.ownBlock)).Nodup:=by
    rw [List.filterMap_append,List.nodup_append]
    refine ⟨hd.1,?_,fun a ha b hb=>?_⟩
    · cases hq:x.m.d.ownBlock <;> simp [hq]
    · obtain ⟨e,h1,h2⟩:=List.mem_filterMap.1 ha
      obtain ⟨e',h3,h4⟩:=List.mem_filterMap.1 hb
      simp only [List.mem_singleton] at h3
      subst h3
      have:=hlt e h1 a h2
      have:=(hx b h4).1
      omega
  have hnh:((es ++ [(⟨false,zr 20,x⟩:Ev)]).filterMap (fun e=>e.x.m.h.ownBlock)).Nodup:=by
    rw [List.filterMap_append,List.nodup_append]
    refine ⟨hd.2.2,?_,fun a ha b hb=>?_⟩
    · cases hq:x.m.h.ownBlock <;> simp [hq]
    · obtain ⟨e,h1,h2⟩:=List.mem_filterMap.1 ha
      obtain ⟨e',h3,h4⟩:=List.mem_filterMap.1 hb
      simp only [List.mem_singleton] at h3
      subst h3
      obtain ⟨_,_,hh⟩:=(he e h1).mg.h
      have:=(ownb_ge hh h2).2
      have:=hy b h4
      omega
  have old:hv = P'.hs→Dj Ph hv es∧Dj Ph hv (es ++ [⟨false,zr 20,x⟩]):=fun e=>by
    subst e
    refine ⟨hd,hnd,?_,hnh⟩
    rcases ho with ⟨h1,_⟩ | ho
    · exact .inl h1
    rcases hd.2.1 with h1 | h1
    · exact .inl h1
    refine .inr fun e he' k hk=>?_
    rcases List.mem_append.1 he' with h2 | h2
    · exact h1 e h2 k hk
    · simp only [List.mem_singleton] at h2
      subst h2
      intro hq
      have:=(ownb_ge ho hq).2
      have:=(hx k hk).1
      omega
  have new:OW w3.heap.size w4 hv H'→Dj Ph hv es∧Dj Ph hv (es ++ [⟨false,zr 20,x⟩]):=fun o=>by
    have q1:∀ e ∈ es, ∀ k,e.x.m.d.ownBlock = some k→hv.ownBlock≠some k:=fun e h1 k h2 hq=>by
      have:=hlt e h1 k h2
      have:=(ownb_ge o hq).1
      omega
    refine ⟨⟨hd.1,.inr q1,hd.2.2⟩,hnd,.inr (fun e he' k hk=>?_),hnh⟩
    rcases List.mem_append.1 he' with h2 | h2
    · exact q1 e h2 k hk
    · simp only [List.mem_singleton] at h2
      subst h2
      intro hq
      have:=(ownb_ge o hq).1
      have:=(hx k hk).2
      omega
  rcases hn with ⟨_,⟨_,h1,_⟩ | ⟨_,_,h3⟩⟩ | ⟨_,h1,h3⟩ | ⟨_,_,h1,_⟩
  · exact old h1
  · exact new h3
  · exact new (by rw [h1]; exact h3)
  · exact old h1
structure LI (w:World) (g:Nat) (P:Pv) (L:List Int) (q0:Qs) (bs:List (List UInt8)) (pre:List Ev) (n:Nat) (P':Pv) (q:Qs) (es:List Ev) (xs:List Mg) (ev:Value) (wr:World):Prop where
  fr:Fm.Fr (fun k=>k≠g) w wr
  hc:HC wr g P' L q.H
  sh:P' = { P with hs:=P'.hs,ic:=q.c,ii:=q.i,ib:=q.b }
  ev:EVS w.heap.size wr ev (pre ++ es)
  em:EvM es xs
  rd:∀ xs' q' e,Hr L P.b q (bs.drop n) xs' q' e→Hr L P.b q0 bs (xs ++ xs') q' e
  ln:(pre ++ es).length≤n + 1
  ho:(P'.hs = P.hs∧q.H = q0.H)∨OW w.heap.size wr P'.hs q.H
  dj:Dj P.hs P'.hs es
def HE (w:World) (g:Nat) (P:Pv) (L:List Int) (q0:Qs) (bs:List (List UInt8)) (pre:List Ev) (ev:Value) (er:Int) (w':World):Prop:=
  Fm.Fr (fun k=>k≠g) w w'∧∃ es xs q' P',EVS w.heap.size w' ev (pre ++ es)∧EvM es xs∧Hr L P.b q0 bs xs q' er∧HC w' g P' L q'.H∧P' = { P with hs:=P'.hs,ic:=q'.c,ii:=q'.i,ib:=q'.b }∧((P'.hs = P.hs∧q'.H = q0.H)∨OW w.heap.size w' P'.hs q'.H)∧Dj P.hs P'.hs es
theorem LI.done {w:World} {g:Nat} {P:Pv} {L:List Int} {q0:Qs} {bs:List (List UInt8)} {pre:List Ev} {n:Nat} {P':Pv} {q:Qs} {es:List Ev} {xs:List Mg} {ev:Value} {wr w':World} (h:LI w g P L q0 bs pre n P' q es xs ev wr) (hb:Below wr.heap.size wr w') (er:Int) (hr:Hr L P.b q (bs.drop n) [] q er):HE w g P L q0 bs pre ev er w':=by
  refine ⟨frT h.fr (Fm.Fr.of_below hb),es,xs,q,P',h.ev.fr (fun k _ hk=>hb.block k hk),h.em,?_,h.hc.below hb,h.sh,h.ho.imp id (fun o=>o.grow hb),h.dj⟩
  have:=h.rd [] q er hr
  rwa [List.append_nil] at this
theorem drop_at {bs:List (List UInt8)} {n:Nat} {y:List UInt8} (h:bs[n]? = some y):bs.drop n = y :: bs.drop (n + 1):=by
  obtain ⟨hn,rfl⟩:=List.getElem?_eq_some_iff.1 h
  exact List.drop_eq_getElem_cons hn
theorem OW.sg {B g:Nat} {w:World} {v:Value} {l:List UInt8} (h:OW B w v l) (hg:g < B):Se g w (fun u=>RB u v l):=fun w' hf=>by
  refine OW.rb (B:=B) ⟨h.1,?_⟩
  rcases h.2 with h1 | ⟨q,cap,cur,h1,h2,h3,h4⟩
  · exact .inl h1
  · refine .inr ⟨q,cap,cur,h1,h2,(hf.block q (Array.getElem?_eq_some_iff.1 h3).1 (by omega) (fun cs f e=>?_)).trans h3,h4⟩
    rw [h3] at e
    simp at e
theorem HC.took {w w':World} {g:Nat} {P:Pv} {L:List Int} {q:Qs} {m:Mv} {D:List UInt8} {hv:Value} {H':List UInt8} (hc:HC w g P L q.H) (hk:PK w' g (P.took hv m.k)) (hn:HN w w' L.length P q.H m D hv H') (hf:Fm.Fr (fun k=>k≠g) w w') (hD:D.length≤32768) :
    HC w' g (P.took hv m.k) L H'∧Hstep L.length q m D ⟨(sy m.k q.c q.i q.b).1,(sy m.k q.c q.i q.b).2.1,(sy m.k q.c q.i q.b).2.2,H'⟩:=by
  have hgl:=hc.pk.lt
  have key:Se g w' (fun u=>RB u hv H')∧H'.length≤140737488351232:=by
    rcases hn with ⟨_,⟨_,rfl,rfl⟩ | ⟨_,hpu,ho⟩⟩ | ⟨_,rfl,ho⟩ | ⟨_,_,rfl,rfl⟩
    · exact ⟨hc.hz.fr (Fe.of_fr hf),hc.hl⟩
    · refine ⟨OW.sg ho hgl,?_⟩
      rcases hpu with ⟨_,rfl⟩ | ⟨_,hbf⟩
      · exact Nat.zero_le _
      · have h1:=hbf.1
        have h2:=hc.lok.1
        omega
    · exact ⟨OW.sg ho hgl,by omega⟩
    · exact ⟨hc.hz.fr (Fe.of_fr hf),hc.hl⟩
  refine ⟨⟨hk,hc.g1,hc.b0,hc.b1,hc.lz.fr (Fe.of_fr hf),hc.lok,key.1,key.2,hc.kt.fr hf hc.g1,MT.fr hc.mt hf hc.g1⟩,rfl,rfl,rfl,?_⟩
  rcases hn with ⟨h4,⟨h1,_,h2⟩ | ⟨h1,hpu,_⟩⟩ | ⟨h5,h1,_⟩ | ⟨h4,h5,_,h1⟩
  · exact .inl ⟨h4,.inl ⟨h1,h2⟩⟩
  · exact .inl ⟨h4,.inr ⟨h1,hpu⟩⟩
  · exact .inr (.inl ⟨h5,h1⟩)
  · exact .inr (.inr ⟨h4,h5,h1⟩)
theorem OW.fe {B g:Nat} {w w':World} {v:Value} {l:List UInt8} (h:OW B w v l) (hg:g < B) (hf:Fe g w w'):OW B w' v l:=by
  refine ⟨h.1,?_⟩
  rcases h.2 with h1 | ⟨q,cap,cur,h1,h2,h3,h4⟩
  · exact .inl h1
  · refine .inr ⟨q,cap,cur,h1,h2,(hf.block q (Array.getElem?_eq_some_iff.1 h3).1 (by omega) (fun cs f e=>?_)).trans h3,h4⟩
    rw [h3] at e
    simp at e
theorem HN.ho {w3 w4 wr w:World} {g n:Nat} {P':Pv} {H H0:List UInt8} {Ph:Value} {m:Mv} {D:List UInt8} {hv:Value} {H':List UInt8} (hn:HN w3 w4 n P' H m D hv H') (ho:(P'.hs = Ph∧H = H0)∨OW w.heap.size wr P'.hs H) (hg:g < w.heap.size) (hs:w.heap.size≤w3.heap.size) (hf:Fe g wr w4):(hv = Ph∧H' = H0)∨OW w.heap.size w4 hv H':=by
  have old:hv = P'.hs→H' = H→(hv = Ph∧H' = H0)∨OW w.heap.size w4 hv H':=fun e1 e2=>by
    rw [e1,e2]
    exact ho.imp id (fun o=>o.fe hg hf)
  rcases hn with ⟨_,⟨_,h1,h2⟩ | ⟨_,_,h3⟩⟩ | ⟨_,rfl,h3⟩ | ⟨_,_,h1,h2⟩
  · exact old h1 h2
  · exact .inr (h3.mono hs)
  · exact .inr (h3.mono hs)
  · exact old h1 h2
theorem mbd_of (y:List UInt8) (d h:Value):MBd (mgOf y d h).m (decS y).D.length:=by
  have b:=decS_bd y
  have l:=(decS_len y).1
  exact ⟨b.b0,b.b1,b.l0,b.l1,by omega⟩
theorem EvM.nil:EvM [] []:=⟨rfl,fun k e x h _=>by simp at h⟩
theorem EvM.snoc {es:List Ev} {xs:List Mg} (h:EvM es xs) (y:List UInt8) (d1 h1:Value):EvM (es ++ [⟨false,zr 20,mgOf y d1 h1⟩]) (xs ++ [⟨(decS y).m,(decS y).D,(decS y).hb⟩]):=by
  refine ⟨by simp [h.1],fun k e x he hx=>?_⟩
  by_cases hk:k < es.length
  · rw [List.getElem?_append_left hk] at he
    rw [List.getElem?_append_left (by rw [← h.1]; exact hk)] at hx
    exact h.2 k e x he hx
  · rw [List.getElem?_append_right (by omega)] at he
    rw [List.getElem?_append_right (by rw [← h.1]; omega), ← h.1] at hx
    have hk0:k - es.length = 0:=by
      have:=(List.getElem?_eq_some_iff.1 he).1
      simp at this
      omega
    rw [hk0] at he hx
    simp at he hx
    subst he hx
    exact ⟨rfl,rfl,rfl,rfl,rfl⟩
theorem LI.next {w:World} {g:Nat} {P:Pv} {L:List Int} {q0:Qs} {bs:List (List UInt8)} {pre:List Ev} {n:Nat} {P':Pv} {q:Qs} {es:List Ev} {xs:List Mg} {ev:Value} {wr:World} (h:LI w g P L q0 bs pre n P' q es xs ev wr)
    {y:List UInt8} (hy:bs[n]? = some y) (hE:decE y = 0) (hL:legE L P.b q.b (decS y).m (decS y).D = 0) {w4:World} {hv:Value} {H':List UInt8} (hf:Fm.Fr (fun k=>k≠g) w w4)
    (hc:HC w4 g (P'.took hv (decS y).m.k) L H') (hs:Hstep L.length q (decS y).m (decS y).D ⟨(sy (decS y).m.k q.c q.i q.b).1,(sy (decS y).m.k q.c q.i q.b).2.1,(sy (decS y).m.k q.c q.i q.b).2.2,H'⟩)
    {es':List Ev} {ev':Value} (he:EVS w.heap.size w4 ev' (pre ++ es')) (hem:EvM es' (xs ++ (if (decS y).m.k = 1000 then [] else [⟨(decS y).m,(decS y).D,(decS y).hb⟩]))) (hl:(pre ++ es').length≤n + 2) (ho:(hv = P.hs∧H' = q0.H)∨OW w.heap.size w4 hv H') (hdj:Dj P.hs hv es') :
    LI w g P L q0 bs pre (n + 1) (P'.took hv (decS y).m.k) ⟨(sy (decS y).m.k q.c q.i q.b).1,(sy (decS y).m.k q.c q.i q.b).2.1,(sy (decS y).m.k q.c q.i q.b).2.2,H'⟩ es' (xs ++ (if (decS y).m.k = 1000 then [] else [⟨(decS y).m,(decS y).D,(decS y).hb⟩])) ev' w4:=by
  refine ⟨hf,hc,?_,he,hem,fun xs' q' e hr=>?_,hl,ho,hdj⟩
  · have h1:=h.sh
    have e1:P'.ic = q.c:=by rw [h1]
    have e2:P'.ii = q.i:=by rw [h1]
    have e3:P'.ib = q.b:=by rw [h1]
    unfold Pv.took
    rw [e1,e2,e3]
    conv=>lhs; rw [h1]
  · have:=h.rd _ q' e (by rw [drop_at hy]; exact Hr.ok q _ q' y _ xs' e hE hL hs hr)
    rwa [← List.append_assoc] at this
theorem rd_facts {h:Bool} {l:List UInt8} {met bs:List (List UInt8)} {h':Bool} {r:List UInt8} {e:Int} (x:Fm.Rd h l met bs h' r e):(h = false→met = [])∧met.length≤1∧(∀ b ∈ bs,b.length≤32768)∧4 * bs.length≤l.length:=by
  induction x with
  | bad=>exact ⟨(fun h=>by cases h),by simp,by simp,by simp⟩
  | few=>exact ⟨(fun h=>by cases h),by simp,by simp,by simp⟩
  | hello l met bs h r e _ hl _ ih =>
    obtain ⟨i1,_,i3,i4⟩:=ih
    refine ⟨(fun h=>by cases h),by rw [i1 rfl]; simp,i3,?_⟩
    rw [List.length_drop] at i4
    omega
  | num=>exact ⟨fun _=>rfl,by simp,by simp,by simp⟩
  | big=>exact ⟨fun _=>rfl,by simp,by simp,by simp⟩
  | part=>exact ⟨fun _=>rfl,by simp,by simp,by simp⟩
  | body l met bs h r e h4 hn hl _ ih =>
    obtain ⟨i1,i2,i3,i4⟩:=ih
    refine ⟨i1,i2,fun b hb=>?_,?_⟩
    · rcases List.mem_cons.1 hb with rfl | hb
      · rw [List.length_take]; omega
      · exact i3 b hb
    · rw [List.length_drop] at i4
      rw [List.length_cons]
      omega
structure FP (w:World) (g R:Nat) (P:Pv) (L:List Int) (H:List UInt8) (p s:Nat) (held:List UInt8) (hv:Value):Prop where
  pk:PK w g P
  stp:P.st = .pointer (some ⟨R,0,none⟩)
  why:P.why = 0
  gR:g < R
  g1:1 < g
  b0:64≤P.b
  b1:P.b≤16384
  lok:LOk L
  lo:Bs.OZ 0 w P.ln L
  lj:∀ k,P.ln.ownBlock = some k→k≠g∧k≠R∧hv.ownBlock≠some k
  ho:OW 0 w P.hs H
  hj:∀ k,P.hs.ownBlock = some k→k≠g∧k≠R∧hv.ownBlock≠some k
  hl:H.length≤140737488351232
  rk:Fm.RK w R p s hv 0
  st:Fm.St p s held
  ow:OW (R + 1) w hv held
  nil:held = []→hv = .slice none 0 0
  kt:KT w
  mt:Bs.MT w
theorem own_at {w w':World} {B e size n:Nat} {v:Value} {xs:List Value} (h:w.ownsRow B e size v n xs) (hk:∀ k,v.ownBlock = some k→(∃ cs,w.heap[k]? = some (.cells cs e (0,0)))→w'.heap[k]? = w.heap[k]?):w'.ownsRow B e size v n xs:=by
  refine ⟨h.1,?_⟩
  rcases h.2 with h1 | ⟨q,cap,cur,rfl,h2,h3,h4⟩
  · exact .inl h1
  · exact .inr ⟨q,cap,cur,rfl,h2,(hk q rfl ⟨_,h3⟩).trans h3,h4⟩
theorem own_ge {w:World} {B e size n:Nat} {v:Value} {xs:List Value} (h:w.ownsRow B e size v n xs) {k:Nat} (hk:v.ownBlock = some k):B≤k∧k < w.heap.size:=by
  rcases h.2 with ⟨rfl,_⟩ | ⟨q,cap,cur,rfl,h2,h3,_⟩
  · simp [Value.ownBlock] at hk
  · simp [Value.ownBlock] at hk
    subst hk
    exact ⟨h2,(Array.getElem?_eq_some_iff.1 h3).1⟩
theorem FP.hc {w w1:World} {g R:Nat} {P:Pv} {L:List Int} {H:List UInt8} {p s:Nat} {held:List UInt8} {hv:Value} (h:FP w g R P L H p s held hv) (fr:Fm.Fr (fun k=>k≠R∧hv.ownBlock≠some k) w w1) :
    HC w1 g P L H∧Bs.OZ 0 w1 P.ln L∧OW 0 w1 P.hs H:=by
  have hlow:∀ k,k≤g→hv.ownBlock≠some k:=fun k hk e=>by
    have:=(own_ge h.ow e).1
    have:=h.gR
    omega
  have hgR:=h.gR
  have hlo:Bs.OZ 0 w1 P.ln L:=own_at h.lo (fun k hk hx=>fr.block k (own_ge h.lo hk).2 ⟨(h.lj k hk).2.1,(h.lj k hk).2.2⟩)
  have hho:OW 0 w1 P.hs H:=own_at h.ho (fun k hk hx=>fr.block k (own_ge h.ho hk).2 ⟨(h.hj k hk).2.1,(h.hj k hk).2.2⟩)
  refine ⟨⟨h.pk.keep (fr.block g h.pk.lt ⟨by omega,hlow g (Nat.le_refl _)⟩),h.g1,h.b0,h.b1,fun w' hf=>?_,h.lok,fun w' hf=>?_,h.hl,fun j v hj=>?_,Nat.lt_of_lt_of_le h.mt.1 fr.size,fun j hj=>?_⟩,hlo,hho⟩
  · refine Bs.OZ.rz (B:=0) (own_at hlo (fun k hk hx=>?_))
    obtain ⟨cs,hx⟩:=hx
    refine hf.block k (own_ge hlo hk).2 (h.lj k hk).1 (fun cs' f e=>?_)
    rw [hx] at e
    simp at e
  · refine OW.rb (B:=0) (own_at hho (fun k hk hx=>?_))
    obtain ⟨cs,hx⟩:=hx
    refine hf.block k (own_ge hho hk).2 (h.hj k hk).1 (fun cs' f e=>?_)
    rw [hx] at e
    simp at e
  · have:=h.kt j v hj
    rw [World.cell?_of_block (w:=w) (fr.block 0 h.kt.pos ⟨by have:=h.g1; omega,hlow 0 (by have:=h.g1; omega)⟩)]
    exact this
  · exact (World.cell?_of_block (w:=w) (fr.block 1 h.mt.1 ⟨by have:=h.g1; omega,hlow 1 (by have:=h.g1; omega)⟩)).trans (h.mt.2 j hj)
theorem built_ev {ops:Array Oper} {rest:List Oper} {o:Oper} {a:Act} {w:World} {Q:Exit→Act→World→Prop} (hg:o.guard = none) (x0:Operand) (ho:o.op = .build 100 #[(2,x0)]) (v0:Value) (h0:a.eval x0 = v0) (T:Array Value)
    (hT:Tryz.prog.built 100 [(2,v0)] = some T) (h:wpList Tryz.prog ops Q rest (a.put o.dst (.agg T)) w):wpList Tryz.prog ops Q (o :: rest) a w:=by
  have e:(#[(2,x0)].map fun (i,y)=>(i,a.eval y)).toList = [(2,v0)]:=by simp [h0]
  exact wpList_build hg _ _ ho (by rw [e,hT]; rfl) (by rw [e,hT]; exact h)
set_option maxHeartbeats 4000000 in
set_option maxRecDepth 100000 in
theorem hear0 (w:World) (g:Nat) (P0:Pv) (L:List Int) (H:List UInt8) (hc:HC w g P0 L H) (bsv:Value) (bs:List (List UInt8)) (hb:Sg g w (fun u=>Fm.RBS u bsv bs)) (hbl:∀ b ∈ bs,b.length≤32768) (hbn:bs.length≤16777216) (ma:Option Addr) (c0:Nat) :
    Calls Tryz.prog 41 #[.pointer (some ⟨g,0,none⟩),.slice ma 0 c0,bsv] w fun e w'=>∃ ev er,e = .returned (.tuple #[ev,.int .i64 er])∧HE w g P0 L ⟨P0.ic,P0.ii,P0.ib,H⟩ bs [] ev er w':=by
  have HBS:Hid (Sg g w (fun u=>Fm.RBS u bsv bs)):=hb
  have HBL:Hid (∀ b ∈ bs,b.length≤32768):=hbl
  obtain ⟨q0,hq0⟩:∃ q:Qs,q = ⟨P0.ic,P0.ii,P0.ib,H⟩:=⟨_,rfl⟩
  rw [← hq0]
  obtain ⟨pre,hpre⟩:∃ p:List Ev,p = []:=⟨_,rfl⟩
  rw [← hpre]
  have HI0:Hid (LI w g P0 L q0 bs pre 0 P0 q0 [] [] (.slice none 0 0) w):=⟨Fm.Fr.refl _ _,by rw [hq0]; exact hc,by rw [hq0],by rw [hpre]; exact EVS.nil _ _,EvM.nil,fun xs' q' e h=>h,by rw [hpre]; exact Nat.zero_le _,.inl ⟨rfl,rfl⟩,⟨List.nodup_nil,.inl rfl,List.nodup_nil⟩⟩
  obtain ⟨va,vc,rfl,_⟩:=hb.now
  have HGW:Hid (g < w.heap.size):=hc.pk.lt
  clear hb hbl hpre hq0 hc
  go_enter Tryz.func41,Tryz.ntmps41
  go_wp2_with fail
  go_loopw [8,17] (fun v t wr=>v = .slice none 0 0∧t = .int .i64 0∧w = wr) (fun _ _ _=>0)
  case atStart=>exact ⟨rfl,rfl,rfl⟩
  case round =>
    obtain ⟨rfl,rfl,rfl⟩:=hrel
    go_wp2_with fail
    go_loopw [8,41] (fun v t wr=>∃ (n:Nat) (P':Pv) (q:Qs) (es:List Ev) (xs:List Mg),n≤bs.length∧t = .int .i64 n∧Hid (LI w g P0 L q0 bs pre n P' q es xs v wr)) (fun _ t _=>bs.length - (intOf t).toNat)
    case atStart=>exact ⟨0,P0,q0, [], [],Nat.zero_le _,rfl,HI0⟩
    case round =>
      obtain ⟨n,P',q,es,xs,hn,rfl,H⟩:=hrel
      clear HI0
      obtain ⟨ea,ec,rfl⟩:=H.out.ev.form
      obtain ⟨nE,hnE⟩:∃ k,k = (pre ++ es).length:=⟨_,rfl⟩
      rw [← hnE] at H ⊢
      have HNE:Hid (nE = (pre ++ es).length):=hnE
      clear hnE
      by_cases hlt:n < bs.length
      · have hx:bs[n]? = some bs[n]:=List.getElem?_eq_getElem hlt
        generalize hbn:bs[n] = y at hx
        have hyl:y.length≤32768:=HBL.out y (List.mem_of_getElem? hx)
        obtain ⟨a',c',e',_,hR⟩:=HBS.out _ H.out.fr
        simp only [Value.slice.injEq] at e'
        obtain ⟨rfl, -,rfl⟩:=e'
        rcases hR with h | ⟨gb,ob,rfl,hgb,hR⟩
        · rw [h] at hlt; simp at hlt
        obtain ⟨bu,hcu,hbu⟩:=hR n hlt
        have hgd:bs.getD n [] = y:=by rw [List.getD_eq_getElem?_getD,hx]; rfl
        rw [hgd] at hbu
        obtain ⟨ba,bc',rfl,_⟩:=id hbu
        have HY:Hid (bs[n]? = some y∧RB wr (.slice ba y.length bc') y):=⟨hx,hbu⟩
        have hpn:=H.out.ln
        clear hR hbu hx hgd hbn
        go_wp2_with fail
        refine (decodeT wr _ y (by omega) HY.out.2 H.out.hc.kt).mono ?_
        rintro e w2 ⟨d1,h1,rfl,q1,q2,q3⟩
        have HD1:Hid ((∀ k,d1.ownBlock = some k→wr.heap.size≤k∧k < w2.heap.size)∧(∀ k,h1.ownBlock = some k→wr.heap.size≤k)):=⟨fun k hk=>ownb_ge q1 hk,fun k hk=>by obtain ⟨_,_,hh⟩:=q2; exact (ownb_ge hh hk).1⟩
        have M1:OMg w.heap.size w2 (mgOf y d1 h1):=OMg.of_dec H.out.fr.size q1 q2
        have e1:({ (decS y).m with d:=d1,h:=h1 }:Mv) = (mgOf y d1 h1).m:=rfl
        rw [e1]
        have HMB:Hid (MBd (mgOf y d1 h1).m (decS y).D.length∧(mgOf y d1 h1).D = (decS y).D∧mgOf y d1 h1 = mgOf y d1 h1∧0≤(mgOf y d1 h1).m.i∧(mgOf y d1 h1).m.i≤4294967295):=⟨mbd_of y d1 h1,rfl,rfl,(decS_bd y).i0,(decS_bd y).i1⟩
        have hz2:=heapNew w2 (.cells z40 40)
        have hi1:=info_msg M1.ok
        have ho1:=M1.ok.one
        have hs1:z40.size = (mgOf y d1 h1).m.cs.size:=M1.ok.size.symm
        have hc:=heapSetRow _ _ _ (mgOf y d1 h1).m.cs _ hz2
        have bX:Below w2.heap.size w2 ((w2.alloc (.cells z40 40)).setRow w2.heap.size (mgOf y d1 h1).m.cs):=belowSetRow ((Below.refl _ _).alloc (Nat.le_refl _) _) (Nat.le_refl _) _
        obtain ⟨X8,hX8⟩:∃ X,X = (w2.alloc (.cells z40 40)).setRow w2.heap.size (mgOf y d1 h1).m.cs:=⟨_,rfl⟩
        have HX8:Hid (X8 = (w2.alloc (.cells z40 40)).setRow w2.heap.size (mgOf y d1 h1).m.cs):=hX8
        rw [← hX8] at hc bX
        have HB8:Hid (Below wr.heap.size wr X8):=q3.trans (bX.mono q3.size)
        have HM8:Hid (OMg w.heap.size X8 (mgOf y d1 h1)∧MB X8 w2.heap.size (mgOf y d1 h1).m):=⟨M1.grow bX,hc⟩
        have HSZ2:Hid (w.heap.size≤w2.heap.size):=Nat.le_trans H.out.fr.size q3.size
        clear bX hX8 q1 q2 q3 M1 e1
        by_cases h0:decE y = 0
        · rw [h0]
          have HE0:Hid (decE y = 0):=h0
          clear h0
          have HLG:Hid (Calls Tryz.prog 70 #[.pointer (some ⟨g,0,none⟩),.agg (mgOf y d1 h1).m.cs] X8 fun e w'=>e = .returned (.int .i64 (legE L P'.b P'.ib (mgOf y d1 h1).m (decS y).D))∧Below X8.heap.size X8 w'):=legalT X8 g P' L (H.out.hc.below HB8.out).pl (mgOf y d1 h1).m HM8.out.1.ok (decS y).D HM8.out.1.d.rb HMB.out.1 (H.out.hc.below HB8.out).mt
          have hle:legE L P'.b P'.ib (mgOf y d1 h1).m (decS y).D = legE L P0.b q.b (decS y).m (decS y).D:=by
            have h1:=H.out.sh
            have e1:P'.b = P0.b:=by rw [h1]
            have e2:P'.ib = q.b:=by rw [h1]
            rw [e1,e2]
            rfl
          rw [hle] at HLG
          clear hle
          go_wp2_with (first |(refine wpList_store_row rfl 40 _ _ rfl w2.heap.size (mgOf y d1 h1).m.cs rfl rfl 40 z40 hz2 hi1 hs1 ho1 ?_; rw [← HX8.out]) |(refine load_msg_if rfl _ rfl w2.heap.size rfl (mgOf y d1 h1).m.cs hc hi1 ?_))
          refine HLG.out.mono ?_
          rintro e w3 ⟨rfl,b3⟩
          have HW3:Hid (Below wr.heap.size wr w3):=HB8.out.trans (b3.mono HB8.out.size)
          have HM3:Hid (OMg w.heap.size w3 (mgOf y d1 h1)∧MB w3 w2.heap.size (mgOf y d1 h1).m):=⟨HM8.out.1.grow b3,HM8.out.2.below b3⟩
          clear hc b3 HLG HX8 hz2 ho1 hs1 HB8 HM8
          by_cases hl0:legE L P0.b q.b (decS y).m (decS y).D = 0
          · rw [hl0]
            have HL0:Hid (legE L P0.b q.b (decS y).m (decS y).D = 0):=hl0
            clear hl0
            have HC3:Hid (HC w3 g P' L q.H):=H.out.hc.below HW3.out
            have HTK:Hid (Calls Tryz.prog 71 #[.pointer (some ⟨g,0,none⟩),.agg (mgOf y d1 h1).m.cs] w3 fun e w'=>e = .returned (.tuple #[])∧∃ hv H',PK w' g (P'.took hv (mgOf y d1 h1).m.k)∧HN w3 w' L.length P' q.H (mgOf y d1 h1).m (decS y).D hv H'∧Fm.Fr (fun k=>k≠g) w3 w'):=takeT w3 g P' L HC3.out.pl q.H HC3.out.hz.now HC3.out.hl (mgOf y d1 h1).m (decS y).D HM3.out.1.d.rb (by have:=(decS_len y).1; omega) HC3.out.mt (by have:=HMB.out.2.2.2.1; omega) (by have:=HMB.out.2.2.2.2; omega)
            have hc3:=HM3.out.2
            go_wp2_with (first |(refine load_msg_if rfl _ rfl w2.heap.size rfl (mgOf y d1 h1).m.cs hc3 hi1 ?_))
            refine HTK.out.mono ?_
            rintro e w4 ⟨rfl,hv,H',k4,hn4,f4⟩
            have hgw:g < w.heap.size:=HGW.out
            have hw2:w.heap.size≤w2.heap.size:=HSZ2.out
            have hc4:MB w4 w2.heap.size (mgOf y d1 h1).m:=(f4.block w2.heap.size HM3.out.2.lt (by omega)).trans HM3.out.2
            have HF4:Hid (Fm.Fr (fun k=>k≠g) w w4):=frT H.out.fr (frT (Fm.Fr.of_below HW3.out) f4)
            have kk:∀ k,w.heap.size≤k→k < wr.heap.size→w4.heap[k]? = wr.heap[k]?:=fun k h1 h2=>(frT (Fm.Fr.of_below HW3.out) f4).block k h2 (by omega)
            have kk3:∀ k,w.heap.size≤k→k < w3.heap.size→w4.heap[k]? = w3.heap[k]?:=fun k h1 h2=>f4.block k h2 (by omega)
            have HEV:Hid (EVS w.heap.size w4 (.slice ea nE ec) (pre ++ es)):=H.out.ev.fr kk
            have HMG:Hid (OMg w.heap.size w4 (mgOf y d1 h1)):=HM3.out.1.fr kk3
            have HTT:Hid (HC w4 g (P'.took hv (decS y).m.k) L H'∧Hstep L.length q (decS y).m (decS y).D ⟨(sy (decS y).m.k q.c q.i q.b).1,(sy (decS y).m.k q.c q.i q.b).2.1,(sy (decS y).m.k q.c q.i q.b).2.2,H'⟩):=HC.took (m:=(mgOf y d1 h1).m) HC3.out k4 hn4 f4 (decS_len y).1
            have HP4:Hid (MB w4 w2.heap.size (mgOf y d1 h1).m):=hc4
            have HHO:Hid ((hv = P0.hs∧H' = q0.H)∨OW w.heap.size w4 hv H'):=HN.ho hn4 H.out.ho HGW.out (Nat.le_trans H.out.fr.size HW3.out.size) (Fe.of_fr (frT (Fm.Fr.of_below HW3.out) f4))
            have HDJ:Hid (Dj P0.hs hv es∧Dj P0.hs hv (es ++ [⟨false,zr 20,mgOf y d1 h1⟩])):=Dj.step H.out.dj (fun e he=>H.out.ev.2 e (List.mem_append_right _ he)) (mgOf y d1 h1) HD1.out.1 HD1.out.2 (Nat.le_of_lt HM3.out.2.lt) HW3.out.size hn4 H.out.ho
            clear k4 hn4 f4 kk kk3 HTK hc3 hc4 HC3 HM3 HW3
            have c0:w4.cell? ⟨w2.heap.size,0,none⟩ = some (.int .i64 (decS y).m.k):=HP4.out.c0
            by_cases k1000:(decS y).m.k = 1000
            · have HNx:=Lib.hid (H.out.next HY.out.1 HE0.out HL0.out HF4.out HTT.out.1 HTT.out.2 HEV.out (es':=es) (by rw [if_pos k1000,List.append_nil]; exact H.out.em) (by have:=H.out.ln; omega) HHO.out HDJ.out.1)
              rw [k1000] at c0
              clear k1000
              go_wp2
              exact ⟨⟨n + 1,_,_,_,_,by omega,by go_num,HNx⟩,by simp [intOf]; omega⟩
            · have hk1:((decS y).m.k != 1000) = true:=by simp [k1000]
              have hT:Tryz.prog.built 100 [(2,.agg (mgOf y d1 h1).m.cs)] = some (Ev.ls ⟨false,zr 20,mgOf y d1 h1⟩).toArray:=builtM (mgOf y d1 h1).m HMG.out.ok
              have hT61:(Ev.ls ⟨false,zr 20,mgOf y d1 h1⟩).toArray.size = 61:=Ev.len (B:=w.heap.size) (w:=w4) ⟨rfl,HMG.out⟩
              have HLN:Hid (xs ++ (if (decS y).m.k = 1000 then [] else [⟨(decS y).m,(decS y).D,(decS y).hb⟩]) = xs ++ [⟨(decS y).m,(decS y).D,(decS y).hb⟩]):=by
                show _ = _
                rw [if_neg k1000]
              have hc4:=HP4.out
              clear k1000
              generalize hTT:(Ev.ls ⟨false,zr 20,mgOf y d1 h1⟩).toArray = TT at *
              have HTe:Hid ((Ev.ls ⟨false,zr 20,mgOf y d1 h1⟩).toArray = TT):=hTT
              clear hTT
              have b5:Below w4.heap.size w4 (w4.alloc (.cells TT 100)):=(Below.refl _ _).alloc (Nat.le_refl _) _
              have HV5:Hid (EVS w.heap.size (w4.alloc (.cells TT 100)) (.slice ea nE ec) (pre ++ es)∧(w4.alloc (.cells TT 100)).heap[w4.heap.size]? = some (.cells (Ev.ls ⟨false,zr 20,mgOf y d1 h1⟩).toArray 100 (0,0))∧OEv w.heap.size (w4.alloc (.cells TT 100)) ⟨false,zr 20,mgOf y d1 h1⟩∧w.heap.size≤(w4.alloc (.cells TT 100)).heap.size∧(pre ++ es).length < 107374182):=⟨HEV.out.fr (fun k _ hk=>b5.block k hk),by rw [HTe.out]; exact heapNew _ _,⟨rfl,HMG.out.grow b5⟩,Nat.le_trans HF4.out.size b5.size,by have:=H.out.ln; omega⟩
              have HB5:=Lib.hid b5
              clear b5 HEV HMG
              go_wp2_with (first |(refine load_msg_if rfl _ rfl w2.heap.size rfl (mgOf y d1 h1).m.cs hc4 hi1 ?_) |(refine built_ev rfl _ rfl _ rfl TT hT ?_) |(refine build_ev rfl _ rfl TT rfl hT61 ?_) |(at_builtin; refine append_ev rfl _ _ rfl rfl HV5.out.1 w4.heap.size ⟨false,zr 20,mgOf y d1 h1⟩ rfl HV5.out.2.1 HV5.out.2.2.1 HV5.out.2.2.2.1 HV5.out.2.2.2.2 ?_; intro v6 w6 ev6 b6 s6 o6))
              obtain ⟨a6,c6,rfl⟩:=ev6.form
              have HNx:Hid (LI w g P0 L q0 bs pre (n + 1) (P'.took hv (decS y).m.k) ⟨(sy (decS y).m.k q.c q.i q.b).1,(sy (decS y).m.k q.c q.i q.b).2.1,(sy (decS y).m.k q.c q.i q.b).2.2,H'⟩ (es ++ [⟨false,zr 20,mgOf y d1 h1⟩]) (xs ++ (if (decS y).m.k = 1000 then [] else [⟨(decS y).m,(decS y).D,(decS y).hb⟩])) (.slice a6 ((pre ++ es) ++ [(⟨false,zr 20,mgOf y d1 h1⟩:Ev)]).length c6) w6):=by
                have hb6:Below w.heap.size w4 w6:=(HB5.out.mono HF4.out.size).trans b6
                have hf6:Fm.Fr (fun k=>k≠g) w w6:=⟨hb6.os.trans HF4.out.os,hb6.tape.trans HF4.out.tape,hb6.output.trans HF4.out.output,Nat.le_trans HF4.out.size hb6.size,fun k hk hg=>(hb6.block k hk).trans (HF4.out.block k hk hg)⟩
                have hfe:Fe g w4 w6:=(Fe.of_below HB5.out).trans ⟨o6.1,o6.2.1,o6.2.2.1,o6.2.2.2,fun k hk _ hn=>s6 k hk hn⟩
                have h5:=HTT.out.1
                have hc6:HC w6 g (P'.took hv (decS y).m.k) L H':=h5.fr hfe (h5.pk.keep (hb6.block g HGW.out)) (h5.kt.below hb6 (by have:=HGW.out; have:=h5.g1; omega)) ⟨Nat.lt_of_lt_of_le h5.mt.1 hb6.size,fun j hj=>(World.cell?_of_block (w:=w4) (hb6.block 1 (by have:=HGW.out; have:=h5.g1; omega))).trans (h5.mt.2 j hj)⟩
                refine H.out.next HY.out.1 HE0.out HL0.out hf6 hc6 HTT.out.2 (by rw [← List.append_assoc]; exact ev6) (by rw [HLN.out]; exact H.out.em.snoc y d1 h1) ?_ (HHO.out.imp id (fun o=>o.fe HGW.out hfe)) HDJ.out.2
                have:=H.out.ln
                simp only [List.length_append,List.length_cons,List.length_nil] at this ⊢
                omega
              clear ev6 b6 s6 o6 HV5 HB5 hT hT61 hc4 HTe c0
              obtain ⟨n6,hn6⟩:∃ k,k = ((pre ++ es) ++ [(⟨false,zr 20,mgOf y d1 h1⟩:Ev)]).length:=⟨_,rfl⟩
              rw [← hn6] at HNx ⊢
              clear hn6
              go_wp2
              exact ⟨⟨n + 1,_,_,_,_,by omega,by go_num,HNx⟩,by simp [intOf]; omega⟩
          · have hne:(legE L P0.b q.b (decS y).m (decS y).D != 0) = true:=by simp [hl0]
            have HEn:Hid (HE w g P0 L q0 bs pre (.slice ea nE ec) (legE L P0.b q.b (decS y).m (decS y).D) w3):=H.out.done HW3.out _ (by rw [drop_at HY.out.1]; exact Hr.ill q y _ HE0.out hl0)
            generalize legE L P0.b q.b (decS y).m (decS y).D = er at *
            clear hl0
            go_wp2
            go_ret2
            exact ⟨_,_,rfl,HEn.out⟩
        · have hne:(decE y == 0) = false:=by simp [h0]
          have hne2:(decE y != 0) = true:=by simp [h0]
          have HEn:Hid (HE w g P0 L q0 bs pre (.slice ea nE ec) (decE y) X8):=H.out.done HB8.out _ (by rw [drop_at HY.out.1]; exact Hr.dec q y _ h0)
          generalize decE y = er at *
          clear h0 hc
          go_wp2_with (first |(refine wpList_store_row rfl 40 _ _ rfl w2.heap.size (mgOf y d1 h1).m.cs rfl rfl 40 z40 hz2 hi1 hs1 ho1 ?_; rw [← HX8.out]))
          go_ret2
          exact ⟨_,_,rfl,HEn.out⟩
      · have hnn:bs.length = n:=by omega
        have HEn:Hid (HE w g P0 L q0 bs pre (.slice ea nE ec) 0 wr):=H.out.done (Below.refl _ _) 0 (by rw [List.drop_eq_nil_of_le (by omega)]; exact Hr.nil q)
        clear H
        go_wp2
        go_ret2
        exact ⟨_,_,rfl,HEn.out⟩
end Go.Proofs.YtfjjpbebnoghmaaGreatDoor
