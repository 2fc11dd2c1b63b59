import Derived.Test.YtfjjpbebnoghmaaGreatDoorK00
import Derived.Test.YtfjjpbebnoghmaaGreatDoorK35
import Derived.Test.YtfjjpbebnoghmaaGreatDoorK34
import Derived.BigQuiet
import Derived.Test.YtfjjpbebnoghmaaGreatDoorK31
namespace Go.Proofs.YtfjjpbebnoghmaaGreatDoor
open Go.RowKit
theorem hr_len {L:List Int} {pb:Int} {q q1:Qs} {bs:List (List UInt8)} {xs:List Mg} {e:Int} (x:Hr L pb q bs xs q1 e):xs.length≤bs.length:=by
  induction x with
  | nil=>simp
  | dec=>simp
  | ill=>simp
  | ok q qa q' y bs xs e h h' hs _ ih =>
    rw [List.length_append,List.length_cons]
    split <;> simp <;> omega
theorem FP.frZ {w w':World} {g R:Nat} {P:Pv} {L:List Int} {H:List UInt8} {p s:Nat} {held:List UInt8} {hv:Value} {S:Nat→Prop} (h:FP w g R P L H p s held hv) (fr:Fm.Fr S w w') (hg:S g) (hR:S R) (h0:S 0) (h1:S 1) (hz:∀ k,P.ln.ownBlock = some k→S k) (h8:∀ k,P.hs.ownBlock = some k→S k) (hh:∀ k,hv.ownBlock = some k→S k):FP w' g R P L H p s held hv:=
  ⟨h.pk.keep (fr.block g h.pk.lt hg),h.stp,h.why,h.gR,h.g1,h.b0,h.b1,h.lok,own_at h.lo (fun k hk _=>fr.block k (own_ge h.lo hk).2 (hz k hk)),h.lj,own_at h.ho (fun k hk _=>fr.block k (own_ge h.ho hk).2 (h8 k hk)),h.hj,h.hl,(fr.block R h.rk.lt hR).trans h.rk,h.st,own_at h.ow (fun k hk _=>fr.block k (own_ge h.ow hk).2 (hh k hk)),h.nil,
    fun j v hj=>by rw [World.cell?_of_block (w:=w) (fr.block 0 h.kt.pos h0)]; exact h.kt j v hj,
    ⟨Nat.lt_of_lt_of_le h.mt.1 fr.size,fun j hj=>(World.cell?_of_block (w:=w) (fr.block 1 h.mt.1 h1)).trans (h.mt.2 j hj)⟩⟩
theorem eb_tag {B:Nat} {w:World} {ev:Value} {es:List Ev} (h:EVS B w ev es) {k:Nat} (hk:eb ev es k):B≤k∧k < w.heap.size∧∃ cs t,w.heap[k]? = some (.cells cs t (0,0))∧(t = 100∨t = 25∨(t = 5∧∃ e ∈ es,e.x.m.d.ownBlock = some k)):=by
  rcases hk with hk | ⟨e,he,hk | hk⟩
  · obtain ⟨h1,h2,cs,h3⟩:=rowTag h.1 hk
    exact ⟨h1,h2,cs,_,h3,.inl rfl⟩
  · obtain ⟨h1,h2,cs,h3⟩:=rowTag (h.2 e he).mg.d hk
    exact ⟨h1,h2,cs,_,h3,.inr (.inr ⟨rfl,e,he,hk⟩)⟩
  · obtain ⟨_,_,hh⟩:=(h.2 e he).mg.h
    obtain ⟨h1,h2,cs,h3⟩:=rowTag hh hk
    exact ⟨h1,h2,cs,_,h3,.inr (.inl rfl)⟩
theorem eb_own {B:Nat} {w:World} {ev:Value} {es:List Ev} (h:EVS B w ev es) {hs:Value} {H:List UInt8} {B':Nat} (ho:OW B' w hs H) (hd:∀ e ∈ es, ∀ k,e.x.m.d.ownBlock = some k→hs.ownBlock≠some k) {k:Nat} (hk:hs.ownBlock = some k):¬ eb ev es k:=fun he=>by
  obtain ⟨_,_,cs,t,h1,h2⟩:=eb_tag h he
  obtain ⟨_,_,cs',h3⟩:=rowTag ho hk
  rcases h2 with rfl | rfl | ⟨_,e,he,hb⟩
  · exact tag_ne h1 h3 (by decide) rfl
  · exact tag_ne h1 h3 (by decide) rfl
  · exact hd e he k hb hk
theorem EVS.frS {S:Nat→Prop} {B:Nat} {w w':World} {v:Value} {es:List Ev} (h:EVS B w v es) (f:Fm.Fr S w w') (hs:∀ k,eb v es k→S k):EVS B w' v es:=
  ⟨rowFr h.1 f (fun k hk=>hs k (.inl hk)),fun e he=>⟨(h.2 e he).pr,(h.2 e he).mg.ok,(h.2 e he).mg.d.frS f (fun k hk=>hs k (.inr ⟨e,he,.inl hk⟩)),(by
    obtain ⟨n,en,hh⟩:=(h.2 e he).mg.h
    exact ⟨n,en,rowFr hh f (fun k hk=>hs k (.inr ⟨e,he,.inr hk⟩))⟩),(h.2 e he).mg.dl,(h.2 e he).mg.hl⟩⟩
theorem bytes_inj {l m:List UInt8} (h:Lib.byteCells l = Lib.byteCells m):l = m:=by
  unfold Lib.byteCells at h
  refine List.map_inj_right (fun a b e=>?_) |>.1 h
  simp only [Value.int.injEq,true_and] at e
  exact UInt8.toNat_inj.1 (by omega)
theorem PK.inj {w:World} {g:Nat} {P Q:Pv} (h1:PK w g P) (h2:PK w g Q):P = Q:=by
  have e:=h1.2.symm.trans h2.2
  simp only [Option.some.injEq,Obj.cells.injEq,and_true] at e
  have e':P.ls = Q.ls:=by simpa using e
  unfold Pv.ls at e'
  have hl:(Lib.byteCells P.info).length = (Lib.byteCells Q.info).length:=by rw [bcl_len,bcl_len,h1.1,h2.1]
  obtain ⟨a,b⟩:=List.append_inj e' hl
  have a:=bytes_inj a
  cases P
  cases Q
  simp only [Pv.tl,List.cons.injEq,Value.int.injEq,Value.bool.injEq,true_and,and_true] at a b
  obtain ⟨b1,b2,b3,b4,b5,b6,b7,b8,b9,b10,b11,b12⟩:=b
  subst a b1 b2 b3 b4 b5 b6 b7 b8 b9 b10 b11 b12
  rfl
def Told (info:List UInt8) (L:List Int) (b:Int) (q:Qs) (met bs:List (List UInt8)) (es:List Ev) (q':Qs) (sh:Bool) (er1:Int):Prop:=
  (∃ h,met = [h]∧hinf h≠info∧es = []∧q' = q∧sh = false∧er1 = 171) ∨
  ((∀ h ∈ met,hinf h = info)∧sh = !met.isEmpty∧∃ es' xs,es = met.map hev ++ es'∧EvM es' xs∧Hr L b q bs xs q' er1)
theorem Told.same {info:List UInt8} {L:List Int} {b:Int} {q:Qs} {met bs:List (List UInt8)} {es ys:List Ev} {q1 q2:Qs} {s1 s2:Bool} {e1 e2:Int} (h1:Told info L b q met bs es q1 s1 e1) (h2:Told info L b q met bs ys q2 s2 e2):EvQ es ys∧q2 = q1∧s2 = s1∧e2 = e1:=by
  rcases h1 with ⟨h,rfl,a1,rfl,rfl,rfl,rfl⟩ | ⟨a1,rfl,es',xs,rfl,a4,a5⟩ <;> rcases h2 with ⟨k,c0,c1,rfl,rfl,rfl,rfl⟩ | ⟨c1,rfl,ys',xs2,rfl,c4,c5⟩
  · exact ⟨⟨rfl,fun k x y h=>by simp at h⟩,rfl,rfl,rfl⟩
  · exact absurd (c1 h (by simp)) a1
  · subst c0
    exact absurd (a1 k (by simp)) c1
  · obtain ⟨rfl,rfl,rfl⟩:=a5.det c5
    exact ⟨EvH.same ⟨_,rfl,a4⟩ ⟨_,rfl,c4⟩,rfl,rfl,rfl⟩
structure FB (w:World) (g R:Nat) (P:Pv) (L:List Int) (hv:Value) (ev:Value) (es:List Ev) (fin:Int) (P':Pv) (H':List UInt8) (h':Bool) (r:List UInt8) (w':World):Prop where
  evs:EVS w.heap.size w' ev es
  nd:(es.filterMap (fun e=>e.x.m.d.ownBlock)).Nodup
  fr:Fm.Fr (fun k=>k≠g∧k≠R∧hv.ownBlock≠some k) w w'
  ho:OW 0 w' P'.hs H'
  hl:H'.length≤140737488351232
  hb:∀ k,P'.hs.ownBlock = some k→P.hs.ownBlock = some k∨(w.heap.size≤k∧¬ eb ev es k)
  en:(fin = 0∧∃ p' s' held' hv',FP w' g R P' L H' p' s' held' hv'∧h' = (p' == 2)∧Fm.tx p' s' held' = r∧(∀ k,hv'.ownBlock = some k→hv.ownBlock = some k∨(w.heap.size≤k∧¬ eb ev es k))) ∨
    (fin≠0∧PK w' g { P' with why:=fin,st:=.pointer none,ln:=.slice none 0 0 })
theorem FdE.both {w:World} {g R:Nat} {P:Pv} {L:List Int} {H:List UInt8} {p s:Nat} {held:List UInt8} {hv:Value} {l:List UInt8} {e:Ending} {w':World} (hf:FP w g R P L H p s held hv) (h:FdE w g R P L H p s held hv l e w') :
    ∃ ev fin es er1 met bs h' r er P' q' sh,e = .returned (.tuple #[ev,.int .i64 fin])∧Fm.Rd (p == 2) (Fm.tx p s held ++ l) met bs h' r er∧fin = (if er1 = 0 then er else er1)∧Told P.info L P.b ⟨P.ic,P.ii,P.ib,H⟩ met bs es q' sh er1 ∧
      P' = { P with sh:=P.sh || sh,hs:=P'.hs,ic:=q'.c,ii:=q'.i,ib:=q'.b }∧FB w g R P L hv ev es fin P' q'.H h' r w':=by
  obtain ⟨ev,fin,mv,bsv,er,met,bs,h',r,p',s',held',hv',w1,er1,w2,rfl,po,hrs,hfin,hend⟩:=h
  obtain ⟨hc1,hlo,hho⟩:=hf.hc po.fr
  have fin0:fin = 0→er = 0:=fun h0=>by
    rw [hfin] at h0
    split at h0
    · exact h0
    · rename_i h; exact absurd h0 h
  have key:∃ es q' P' sh,EVS w1.heap.size w2 ev es∧Fm.Fr (fun k=>k≠g) w1 w2∧HC w2 g P' L q'.H∧P' = { P with sh:=P.sh || sh,hs:=P'.hs,ic:=q'.c,ii:=q'.i,ib:=q'.b } ∧
      ((P'.hs = P.hs∧q'.H = H)∨OW w1.heap.size w2 P'.hs q'.H)∧Told P.info L P.b ⟨P.ic,P.ii,P.ib,H⟩ met bs es q' sh er1∧Dq es P'.hs:=by
    rcases hrs with ⟨rfl,fr2,es2,xs2,q',P',hvs,hem,hr2,hc,hP',ho,hdj⟩ | ⟨h,rfl,⟨hne,rfl,h171,hbw⟩ | ⟨heq,fr2,es2,xs2,q',P',hvs,hem,hr2,hc,hP',ho,hdj⟩⟩
    · refine ⟨es2,q',P',false,hvs,fr2,hc,?_,ho,.inr ⟨(fun _ h=>by cases h),rfl,es2,xs2,rfl,hem,hr2⟩,Dq.of (pre:=[]) hdj hvs (fun _ h=>by cases h) (fun k hk=>Nat.lt_of_lt_of_le (own_ge hf.ho hk).2 po.fr.size)⟩
      rw [Bool.or_false]
      exact hP'
    · refine ⟨[],⟨P.ic,P.ii,P.ib,H⟩,P,false,EVS.nil _ _,Fm.Fr.of_below hbw,hc1.below hbw,?_,.inl ⟨rfl,rfl⟩,.inl ⟨h,rfl,hne,rfl,rfl,rfl,h171⟩,⟨List.nodup_nil,(fun _ h=>by cases h),List.nodup_nil⟩⟩
      rw [Bool.or_false]
    · refine ⟨[hev h] ++ es2,q',P',true,hvs,fr2,hc,?_,ho,.inr ⟨fun x hx=>?_,rfl,es2,xs2,rfl,hem,hr2⟩,Dq.of (pre:=[hev h]) hdj hvs (fun e h=>by simp at h; subst h; exact ⟨rfl,rfl⟩) (fun k hk=>Nat.lt_of_lt_of_le (own_ge hf.ho hk).2 po.fr.size)⟩
      · rw [Bool.or_true]
        exact hP'
      · simp at hx; subst hx; exact heq
  obtain ⟨es,q',P',sh,hvs,fr2,hc,hP',ho,htold,hdq⟩:=key
  have hgl:=hf.pk.lt
  have ho2:OW 0 w2 P'.hs q'.H:=by
    rcases ho with ⟨e1,e2⟩ | ho
    · rw [e1,e2]
      exact own_at hho (fun k hk _=>fr2.block k (own_ge hho hk).2 (hf.hj k hk).1)
    · exact ho.mono (Nat.zero_le _)
  have fr12:Fm.Fr (fun k=>k≠g∧k≠R∧hv.ownBlock≠some k) w w2:=(po.fr.mono (fun k _ (h:k≠g∧k≠R∧hv.ownBlock≠some k)=>h.2)).trans (fr2.mono (fun k _ (h:k≠g∧k≠R∧hv.ownBlock≠some k)=>h.1)) (fun _ _ x=>x)
  have i3:P'.ln = P.ln:=by rw [hP']
  have i4:P'.st = P.st:=by rw [hP']
  have i5:P'.why = P.why:=by rw [hP']
  have nob:∀ k,P'.hs.ownBlock = some k→∀ w',EVS w1.heap.size w' ev es→OW 0 w' P'.hs q'.H→P.hs.ownBlock = some k∨(w.heap.size≤k∧¬ eb ev es k):=fun k hk w' hev' how=>by
    rcases ho with ⟨e1,_⟩ | ho
    · exact .inl (by rw [← e1]; exact hk)
    · exact .inr ⟨Nat.le_trans po.fr.size (own_ge ho hk).1,eb_own hev' how hdq.2.1 hk⟩
  rcases hend with ⟨h0,rfl⟩ | ⟨h0,P1,k1,k2,fr3⟩
  · obtain rfl:=fin0 h0
    have st:=po.st rfl
    have hfp:=hf.after po fr2 hc i3 i4 i5 ho
    refine ⟨ev,fin,es,er1,met,bs,h',r,0,P',q',sh,rfl,po.rd,hfin,htold,hP',⟨hvs.mono po.fr.size,hdq.1,fr12,ho2,hc.hl,fun k hk=>nob k hk _ hvs ho2,.inl ⟨h0,p',s',held',hv',hfp,st.2.1,st.2.2,fun k hk=>?_⟩⟩⟩
    rcases po.at_ with h1 | h1
    · exact .inl (by rw [← h1]; exact hk)
    · exact .inr ⟨h1 k hk,fun he=>by have:=(eb_tag hvs he).1; have:=(own_ge po.ow hk).2; omega⟩
  · obtain rfl:=k1.inj hc.pk
    have hvs3:EVS w1.heap.size w' ev es:=hvs.fr (fun k hk hlt=>fr3.block k hlt (fun e=>by have:=po.fr.size; omega))
    have ho3:OW 0 w' P1.hs q'.H:=by
      refine own_at ho2 (fun k hk hx=>fr3.block k (own_ge ho2 hk).2 ?_)
      obtain ⟨cs,hx⟩:=hx
      rintro rfl
      have:=hc.pk.2
      rw [hx] at this
      simp at this
    exact ⟨ev,fin,es,er1,met,bs,h',r,er,P1,q',sh,rfl,po.rd,hfin,htold,hP',⟨hvs3.mono po.fr.size,hdq.1,fr12.trans (fr3.mono (fun k _ (h:k≠g∧k≠R∧hv.ownBlock≠some k)=>h.1)) (fun _ _ x=>x),ho3,hc.hl,fun k hk=>nob k hk _ hvs3 ho3,.inr ⟨h0,k2⟩⟩⟩
structure FQ (w:World) (g S:Nat) (Q:Rv) (L:List Int) (T:List UInt8) (av:Value) (ev:Value) (ys:List Ev) (fin:Int) (Q':Rv) (H':List UInt8) (w':World):Prop where
  evs:EVS w.heap.size w' ev ys
  fr:Fm.Fr (fun k=>k≠g∧k≠S∧av.ownBlock≠some k) w w'
  ho:OW 0 w' Q'.hs H'
  hb:∀ k,Q'.hs.ownBlock = some k→Q.hs.ownBlock = some k∨w.heap.size≤k
  en:(fin = 0∧∃ av',QP w' g S Q' L H' T av'∧(∀ k,av'.ownBlock = some k→av.ownBlock = some k∨w.heap.size≤k)) ∨
    (fin≠0∧RQ w' g { Q' with gone:=true,why:=fin })
theorem RFe.both {w w1:World} {g S:Nat} {Q:Rv} {L:List Int} {H A l:List UInt8} {av av':Value} {er:Int} {sh:Bool} {bs:List (List UInt8)} {pre:List Ev} {ev:Value} {fin:Int} {w':World} (hp:QP w g S Q L H A av) (hpa:RPa w S (A ++ l) av av' er w1)
    (h:RFe w1 g { Q with sh:=Q.sh || sh } L ⟨Q.c,Q.i,Q.hd,H⟩ bs pre er ev fin w') :
    ∃ er1 es xs q' Q',EvM es xs∧Hr L Q.b ⟨Q.c,Q.i,Q.hd,H⟩ bs xs q' er1∧fin = (if er1 = 0 then er else er1)∧Q' = { Q with sh:=Q.sh || sh,hs:=Q'.hs,c:=q'.c,i:=q'.i,hd:=q'.b }∧FQ w g S Q L (A ++ l) av ev (pre ++ es) fin Q' q'.H w':=by
  obtain ⟨er1,w2,Q',⟨fr2,es,xs,q',hvs,hem,hr,hc,hQ',ho⟩,hfin,hend⟩:=h
  obtain ⟨rf1,ow1,nil1,at1,fr1⟩:=hpa
  have hgS:=hp.gS
  have hgl:=hp.rq.lt
  have hSl:=hp.rf.lt
  have hho:OW 0 w1 Q.hs H:=own_at hp.ho (fun k hk hx=>fr1.block k (own_ge hp.ho hk).2 ⟨(hp.hj k hk).2.1,(hp.hj k hk).2.2⟩)
  have hlo:Bs.OZ 0 w1 Q.ln L:=own_at hp.lo (fun k hk hx=>fr1.block k (own_ge hp.lo hk).2 ⟨(hp.lj k hk).2.1,(hp.lj k hk).2.2⟩)
  have ho2:OW 0 w2 Q'.hs q'.H:=by
    rcases ho with ⟨e1,e2⟩ | ho
    · rw [e1,e2]
      exact own_at hho (fun k hk _=>fr2.block k (own_ge hho hk).2 (hp.hj k hk).1)
    · exact ho.mono (Nat.zero_le _)
  have hat:∀ k,k < w.heap.size→av.ownBlock≠some k→av'.ownBlock≠some k:=fun k hk hn e=>by
    rcases at1 with h | h
    · rw [h] at e; exact hn e
    · have:=h k e; omega
  have fr12:Fm.Fr (fun k=>k≠g∧k≠S∧av.ownBlock≠some k) w w2:=(fr1.mono (fun k _ (h:k≠g∧k≠S∧av.ownBlock≠some k)=>h.2)).trans (fr2.mono (fun k _ (h:k≠g∧k≠S∧av.ownBlock≠some k)=>h.1)) (fun _ _ x=>x)
  have hbb:∀ k,Q'.hs.ownBlock = some k→Q.hs.ownBlock = some k∨w.heap.size≤k:=fun k hk=>by
    rcases ho with ⟨e1,_⟩ | ho
    · exact .inl (by rw [← e1]; exact hk)
    · exact .inr (Nat.le_trans fr1.size (own_ge ho hk).1)
  have j1:Q'.ln = Q.ln:=by rw [hQ']
  have j2:Q'.r = Q.r:=by rw [hQ']
  have j3:Q'.gone = Q.gone:=by rw [hQ']
  rcases hend with ⟨h0,rfl⟩ | ⟨h0,k2,fr3⟩
  · have her:er = 0:=by
      rw [hfin] at h0
      split at h0
      · exact h0
      · rename_i h; exact absurd h0 h
    rw [her] at rf1
    refine ⟨er1,es,xs,q',Q',hem,hr,hfin,hQ',⟨hvs.mono fr1.size,fr12,ho2,hbb,.inl ⟨h0,av',⟨hc.rq,j3.trans hp.go,j2.trans hp.rp,hgS,hc.b0,hc.b1,hp.lok,?_,?_,ho2,?_,hc.hl,(fr2.block S (Nat.lt_of_lt_of_le hSl fr1.size) (by omega)).trans rf1,own_at ow1 (fun k hk _=>fr2.block k (own_ge ow1 hk).2 (by have:=(own_ge ow1 hk).1; omega)),nil1⟩,fun k hk=>?_⟩⟩⟩
    · rw [j1]
      exact own_at hlo (fun k hk _=>fr2.block k (own_ge hlo hk).2 (hp.lj k hk).1)
    · rw [j1]
      exact fun k hk=>⟨(hp.lj k hk).1,(hp.lj k hk).2.1,hat k (own_ge hp.lo hk).2 (hp.lj k hk).2.2⟩
    · intro k hk
      rcases ho with ⟨e1,_⟩ | ho
      · rw [e1] at hk
        exact ⟨(hp.hj k hk).1,(hp.hj k hk).2.1,hat k (own_ge hp.ho hk).2 (hp.hj k hk).2.2⟩
      · have h1:=(own_ge ho hk).1
        have h2:=fr1.size
        exact ⟨by omega,by omega,fun e=>by have:=(own_ge ow1 e).2; omega⟩
    · rcases at1 with h1 | h1
      · exact .inl (by rw [← h1]; exact hk)
      · exact .inr (h1 k hk)
  · have hvs3:EVS w1.heap.size w' ev (pre ++ es):=hvs.fr (fun k hk hlt=>fr3.block k hlt (fun e=>by have:=fr1.size; omega))
    have ho3:OW 0 w' Q'.hs q'.H:=by
      refine own_at ho2 (fun k hk hx=>fr3.block k (own_ge ho2 hk).2 ?_)
      obtain ⟨cs,hx⟩:=hx
      rintro rfl
      have:=hc.rq.2
      rw [hx] at this
      simp at this
    exact ⟨er1,es,xs,q',Q',hem,hr,hfin,hQ',⟨hvs3.mono fr1.size,fr12.trans (fr3.mono (fun k _ (h:k≠g∧k≠S∧av.ownBlock≠some k)=>h.1)) (fun _ _ x=>x),ho3,hbb,.inr ⟨h0,k2⟩⟩⟩
structure BA (w:World) (g R:Nat) (P:Pv) (G S:Nat) (Q:Rv) (H:List UInt8) (Z Y:Nat→Prop) (n:Nat) (L:List Int) (p s:Nat) (held:List UInt8) (hv:Value) (A:List UInt8) (av:Value) (met0 bs0:List (List UInt8)):Prop where
  fp:FP w g R P L H p s held hv
  qp:QP w G S Q L H A av
  rd:Fm.Rd true A met0 bs0 (p == 2) (Fm.tx p s held) 0
  al:A.length≤n
  hd:Q.hd = P.ib
  sd:Q.sd = P.wb
  b:Q.b = P.b
  zR:Z R
  zl:∀ k,P.ln.ownBlock = some k→Z k
  zv:∀ k,hv.ownBlock = some k→Z k
  yS:Y S
  yl:∀ k,Q.ln.ownBlock = some k→Y k
  ya:∀ k,av.ownBlock = some k→Y k
structure BB (w:World) (g R:Nat) (P:Pv) (G S:Nat) (Q:Rv) (H:List UInt8) (Z Y:Nat→Prop) (n:Nat):Prop where
  pk:PK w g P
  zg:Z g
  b0:64≤P.b
  hs:OW 0 w P.hs H
  zh:∀ k,P.hs.ownBlock = some k→Z k
  hl:H.length≤140737488351232
  rq:RQ w G Q
  yg:Y G
  hq:OW 0 w Q.hs H
  yh:∀ k,Q.hs.ownBlock = some k→Y k
  sh:Q.sh = P.sh
  gone:Q.gone = (P.why != 0)
  why:Q.why = P.why
  ac:Q.ac = P.wc
  ai:Q.ai = P.wi
  c:Q.c = P.ic
  i:Q.i = P.ii
  inf:Q.info = P.info
  al:P.why = 0→∃ L p s held hv A av met0 bs0,BA w g R P G S Q H Z Y n L p s held hv A av met0 bs0
theorem QP.frZ {w w':World} {g S:Nat} {Q:Rv} {L:List Int} {H A:List UInt8} {av:Value} {T:Nat→Prop} (h:QP w g S Q L H A av) (f:Fm.Fr T w w') (hg:T g) (hS:T S) (hl:∀ k,Q.ln.ownBlock = some k→T k) (hh:∀ k,Q.hs.ownBlock = some k→T k) (ha:∀ k,av.ownBlock = some k→T k):QP w' g S Q L H A av:=
  ⟨h.rq.keep (f.block g h.rq.lt hg),h.go,h.rp,h.gS,h.b0,h.b1,h.lok,own_at h.lo (fun k hk _=>f.block k (own_ge h.lo hk).2 (hl k hk)),h.lj,own_at h.ho (fun k hk _=>f.block k (own_ge h.ho hk).2 (hh k hk)),h.hj,h.hl,(f.block S h.rf.lt hS).trans h.rf,own_at h.ow (fun k hk _=>f.block k (own_ge h.ow hk).2 (ha k hk)),h.nil⟩
theorem BB.fr {w w':World} {g R:Nat} {P:Pv} {G S:Nat} {Q:Rv} {H:List UInt8} {Z Y T:Nat→Prop} {n:Nat} (h:BB w g R P G S Q H Z Y n) (f:Fm.Fr T w w') (hz:∀ k,Z k→T k) (hy:∀ k,Y k→T k) (h0:T 0) (h1:T 1):BB w' g R P G S Q H Z Y n:=by
  refine ⟨h.pk.keep (f.block g h.pk.lt (hz g h.zg)),h.zg,h.b0,h.hs.frS f (fun k hk=>hz k (h.zh k hk)),h.zh,h.hl,h.rq.keep (f.block G h.rq.lt (hy G h.yg)),h.yg,h.hq.frS f (fun k hk=>hy k (h.yh k hk)),h.yh,h.sh,h.gone,h.why,h.ac,h.ai,h.c,h.i,h.inf,fun hw=>?_⟩
  obtain ⟨L,p,s,held,hv,A,av,met0,bs0,c⟩:=h.al hw
  exact ⟨L,p,s,held,hv,A,av,met0,bs0,c.fp.frZ f (hz g h.zg) (hz R c.zR) h0 h1 (fun k hk=>hz k (c.zl k hk)) (fun k hk=>hz k (h.zh k hk)) (fun k hk=>hz k (c.zv k hk)),c.qp.frZ f (hy G h.yg) (hy S c.yS) (fun k hk=>hy k (c.yl k hk)) (fun k hk=>hy k (h.yh k hk)) (fun k hk=>hy k (c.ya k hk)),c.rd,c.al,c.hd,c.sd,c.b,c.zR,c.zl,c.zv,c.yS,c.yl,c.ya⟩
theorem BB.below {w w':World} {g R:Nat} {P:Pv} {G S:Nat} {Q:Rv} {H:List UInt8} {Z Y:Nat→Prop} {n:Nat} (h:BB w g R P G S Q H Z Y n) (hb:Below w.heap.size w w'):BB w' g R P G S Q H Z Y n:=h.fr (T:=fun _=>True) (Fm.Fr.of_below hb) (fun _ _=>trivial) (fun _ _=>trivial) trivial trivial
theorem BB.mono {w:World} {g R:Nat} {P:Pv} {G S:Nat} {Q:Rv} {H:List UInt8} {Z Y Z' Y':Nat→Prop} {n m:Nat} (h:BB w g R P G S Q H Z Y n) (hz:∀ k,Z k→Z' k) (hy:∀ k,Y k→Y' k) (hn:n≤m):BB w g R P G S Q H Z' Y' m:=by
  refine ⟨h.pk,hz _ h.zg,h.b0,h.hs,fun k hk=>hz k (h.zh k hk),h.hl,h.rq,hy _ h.yg,h.hq,fun k hk=>hy k (h.yh k hk),h.sh,h.gone,h.why,h.ac,h.ai,h.c,h.i,h.inf,fun hw=>?_⟩
  obtain ⟨L,p,s,held,hv,A,av,met0,bs0,c⟩:=h.al hw
  exact ⟨L,p,s,held,hv,A,av,met0,bs0,c.fp,c.qp,c.rd,Nat.le_trans c.al hn,c.hd,c.sd,c.b,hz _ c.zR,fun k hk=>hz k (c.zl k hk),fun k hk=>hz k (c.zv k hk),hy _ c.yS,fun k hk=>hy k (c.yl k hk),fun k hk=>hy k (c.ya k hk)⟩
theorem rfeedT (w:World) (g S:Nat) (Q:Rv) (L:List Int) (H A l:List UInt8) (av bv:Value) (hp:QP w g S Q L H A av) (hr:RB w bv l) (hl:A.length + l.length≤16777216)
    {met0 bs0 met bs:List (List UInt8)} {h' h2:Bool} {r r2:List UInt8} {er:Int} (rd0:Fm.Rd true A met0 bs0 h' r 0) (rd1:Fm.Rd h' (r ++ l) met bs h2 r2 er) :
    Calls Tryz.prog 21 #[.pointer (some ⟨g,0,none⟩),bv] w fun e w'=>∃ ev fin ys er1 q' sh Q',e = .returned (.tuple #[ev,.int .i64 fin])∧fin = (if er1 = 0 then er else er1)∧Told Q.info L Q.b ⟨Q.c,Q.i,Q.hd,H⟩ met bs ys q' sh er1 ∧
      Q' = { Q with sh:=Q.sh || sh,hs:=Q'.hs,c:=q'.c,i:=q'.i,hd:=q'.b }∧FQ w g S Q L (A ++ l) av ev ys fin Q' q'.H w':=by
  have hone:=(rd_facts rd1).2.1
  rcases met with _ | ⟨h,_ | ⟨h3,tl⟩⟩
  · refine (rfeed0 w g S Q L H A l av bv hp hr hl rd0 rd1).mono ?_
    rintro e w' ⟨ev,fin,w1,av',rfl,hpa,hx⟩
    have hx':RFe w1 g { Q with sh:=Q.sh || false } L ⟨Q.c,Q.i,Q.hd,H⟩ bs [] er ev fin w':=by
      rw [Bool.or_false]
      exact hx
    obtain ⟨er1,es,xs,q',Q',h1,h2,h3,h4,h5⟩:=hx'.both hp hpa
    exact ⟨ev,fin,es,er1,q',false,Q',rfl,h3,.inr ⟨(fun _ h=>by cases h),rfl,es,xs,rfl,h1,h2⟩,h4,h5⟩
  · refine (rfeed1 w g S Q L H A l av bv hp hr hl h rd0 rd1).mono ?_
    rintro e w' ⟨ev,fin,w1,av',rfl,hpa,hx⟩
    rcases hx with ⟨hne,rfl,rfl,hq,f2⟩ | ⟨heq,hx⟩
    · have hgl:=hp.rq.lt
      have hgS:=hp.gS
      have hho:OW 0 w1 Q.hs H:=own_at hp.ho (fun k hk hx=>hpa.2.2.2.2.block k (own_ge hp.ho hk).2 ⟨(hp.hj k hk).2.1,(hp.hj k hk).2.2⟩)
      refine ⟨_,171, [],171,⟨Q.c,Q.i,Q.hd,H⟩,false,Q,rfl,rfl,.inl ⟨h,rfl,hne,rfl,rfl,rfl,rfl⟩,by rw [Bool.or_false],⟨EVS.nil _ _,(hpa.2.2.2.2.mono (fun k _ (h:k≠g∧k≠S∧av.ownBlock≠some k)=>h.2)).trans (f2.mono (fun k _ (h:k≠g∧k≠S∧av.ownBlock≠some k)=>h.1)) (fun _ _ x=>x),own_at hho (fun k hk _=>f2.block k (own_ge hho hk).2 (hp.hj k hk).1),fun k hk=>.inl hk,.inr ⟨by decide,hq⟩⟩⟩
    · have hx':RFe w1 g { Q with sh:=Q.sh || true } L ⟨Q.c,Q.i,Q.hd,H⟩ bs [hev h] er ev fin w':=by
        rw [Bool.or_true]
        exact hx
      obtain ⟨er1,es,xs,q',Q',h1,h2,h3,h4,h5⟩:=hx'.both hp hpa
      exact ⟨ev,fin, [hev h] ++ es,er1,q',true,Q',rfl,h3,.inr ⟨fun x hx=>by simp at hx; subst hx; exact heq,rfl,es,xs,rfl,h1,h2⟩,h4,h5⟩
  · simp at hone
theorem Told.len {info:List UInt8} {L:List Int} {b:Int} {q:Qs} {met bs:List (List UInt8)} {es:List Ev} {q1:Qs} {s1:Bool} {e1:Int} (h:Told info L b q met bs es q1 s1 e1) (hm:met.length≤1):es.length≤1 + bs.length:=by
  rcases h with ⟨_,_,_,rfl,_⟩ | ⟨_,_,es',xs,rfl,hem,hr⟩
  · simp
  · have h1:=hr_len hr
    have h2:=hem.1
    rw [List.length_append,List.length_map]
    omega
theorem BB.feed {w:World} {g R:Nat} {P:Pv} {G S:Nat} {Q:Rv} {H:List UInt8} {Z Y:Nat→Prop} {n:Nat} (h:BB w g R P G S Q H Z Y n) (bd:∀ k,Z k∨Y k→1 < k∧k < w.heap.size) (dj:∀ k,Z k→¬ Y k) (bv:Value) (l:List UInt8) (hb:Fm.RN (fun k=>¬ Z k) w bv l) (hn:n + l.length≤16777216) :
    Calls Tryz.prog 20 #[.pointer (some ⟨g,0,none⟩),bv] w fun e w1=>∃ ev fin es,e = .returned (.tuple #[ev,.int .i64 fin])∧EVS w.heap.size w1 ev es∧(es.filterMap (fun e=>e.x.m.d.ownBlock)).Nodup∧es.length≤107374182∧Fm.Fr (fun k=>¬ Z k) w w1 ∧
      ∀ dv,RB w1 dv l→Calls Tryz.prog 21 #[.pointer (some ⟨G,0,none⟩),dv] w1 fun e' w2=>∃ kv ys P' Q' H',e' = .returned (.tuple #[kv,.int .i64 fin])∧EVS w1.heap.size w2 kv ys∧EvQ es ys∧Fm.Fr (fun k=>¬ Y k) w1 w2 ∧
        BB w2 g R P' G S Q' H' (fun k=>Z k∨(w.heap.size≤k∧k < w1.heap.size∧¬ eb ev es k)) (fun k=>Y k∨(w1.heap.size≤k∧k < w2.heap.size)) (n + l.length):=by
  have yz:∀ k,Y k→¬ Z k:=fun k hy hz=>dj k hz hy
  by_cases hw:P.why = 0
  · obtain ⟨L,p,s,held,hv,A,av,met0,bs0,c⟩:=h.al hw
    have hA:=c.al
    refine (feedT w g R P L H p s held hv c.fp bv l (hb.move (fun k hk e=>hk (c.zv k e)) (fun _ _ _ _=>rfl)) (by omega)).mono ?_
    intro e w1 hx
    obtain ⟨ev,fin,es,er1,met,bs,h',r,er,P',q',sh,rfl,rd1,hfin,htold,hP',fb⟩:=hx.both c.fp
    have hf1:Fm.Fr (fun k=>¬ Z k) w w1:=fb.fr.mono (fun k _ hk=>⟨fun e=>hk (by rw [e]; exact h.zg),fun e=>hk (by rw [e]; exact c.zR),fun e=>hk (c.zv k e)⟩)
    have hel:es.length≤107374182:=by
      have h1:=htold.len (rd_facts rd1).2.1
      have h2:=(rd_facts (c.rd.app rfl rd1)).2.2.2
      rw [List.length_append,List.length_append] at h2
      omega
    refine ⟨ev,fin,es,rfl,fb.evs,fb.nd,hel,hf1,fun dv hdv=>?_⟩
    have qp1:QP w1 G S Q L H A av:=c.qp.frZ hf1 (yz G h.yg) (yz S c.yS) (fun k hk=>yz k (c.yl k hk)) (fun k hk=>yz k (h.yh k hk)) (fun k hk=>yz k (c.ya k hk))
    refine (rfeedT w1 G S Q L H A l av dv qp1 hdv (by omega) c.rd rd1).mono ?_
    rintro e w2 ⟨kv,fin2,ys,er2,q2,sh2,Q',rfl,hfin2,htold2,hQ',fq⟩
    have ht2:Told P.info L P.b ⟨P.ic,P.ii,P.ib,H⟩ met bs ys q2 sh2 er2:=by
      rw [← h.inf, ← c.b, ← h.c, ← h.i, ← c.hd]
      exact htold2
    obtain ⟨heq,rfl,rfl,rfl⟩:=htold.same ht2
    obtain rfl:fin2 = fin:=by rw [hfin,hfin2]
    have hf2:Fm.Fr (fun k=>¬ Y k) w1 w2:=fq.fr.mono (fun k _ hk=>⟨fun e=>hk (by rw [e]; exact h.yg),fun e=>hk (by rw [e]; exact c.yS),fun e=>hk (c.ya k e)⟩)
    have hs1:=hf1.size
    have ny:∀ k,(Z k∨(w.heap.size≤k∧k < w1.heap.size∧¬ eb ev es k))→¬ Y k:=fun k hk hy=>by
      rcases hk with hk | hk
      · exact dj k hk hy
      · have:=(bd k (.inr hy)).2
        omega
    have zhs:∀ k,P'.hs.ownBlock = some k→Z k∨(w.heap.size≤k∧k < w1.heap.size∧¬ eb ev es k):=fun k hk=>by
      rcases fb.hb k hk with h1 | ⟨h1,h2⟩
      · exact .inl (h.zh k h1)
      · exact .inr ⟨h1,(own_ge fb.ho hk).2,h2⟩
    have yhs:∀ k,Q'.hs.ownBlock = some k→Y k∨(w1.heap.size≤k∧k < w2.heap.size):=fun k hk=>by
      rcases fq.hb k hk with h1 | h1
      · exact .inl (h.yh k h1)
      · exact .inr ⟨h1,(own_ge fq.ho hk).2⟩
    have ho2:OW 0 w2 P'.hs q2.H:=fb.ho.frS hf2 (fun k hk=>ny k (zhs k hk))
    have p1:P'.info = P.info:=by rw [hP']
    have p2:P'.b = P.b:=by rw [hP']
    have p3:P'.wc = P.wc:=by rw [hP']
    have p4:P'.wi = P.wi:=by rw [hP']
    have p5:P'.wb = P.wb:=by rw [hP']
    have p6:P'.ln = P.ln:=by rw [hP']
    have p7:P'.why = P.why:=by rw [hP']
    have p8:P'.sh = (P.sh || sh2):=by rw [hP']
    have p9:P'.ic = q2.c:=by rw [hP']
    have p10:P'.ii = q2.i:=by rw [hP']
    have p11:P'.ib = q2.b:=by rw [hP']
    have k1:Q'.info = Q.info:=by rw [hQ']
    have k2:Q'.b = Q.b:=by rw [hQ']
    have k3:Q'.ac = Q.ac:=by rw [hQ']
    have k4:Q'.ai = Q.ai:=by rw [hQ']
    have k5:Q'.sd = Q.sd:=by rw [hQ']
    have k6:Q'.ln = Q.ln:=by rw [hQ']
    have k7:Q'.gone = Q.gone:=by rw [hQ']
    have k8:Q'.sh = (Q.sh || sh2):=by rw [hQ']
    have k9:Q'.c = q2.c:=by rw [hQ']
    have k10:Q'.i = q2.i:=by rw [hQ']
    have k11:Q'.hd = q2.b:=by rw [hQ']
    have k12:Q'.why = Q.why:=by rw [hQ']
    have c1:Q'.sh = P'.sh:=by rw [p8,k8,h.sh]
    rcases fb.en with ⟨h0,p',s',held',hv',hfp,rfl,hr,hzv⟩ | ⟨h0,hpk⟩
    · rcases fq.en with ⟨_,av',hqp,hya⟩ | ⟨h9,_⟩
      · have hw':P'.why = 0:=p7.trans hw
        have hgo:Q'.gone = (P'.why != 0):=by rw [k7,h.gone,p7]
        have zv':∀ k,hv'.ownBlock = some k→Z k∨(w.heap.size≤k∧k < w1.heap.size∧¬ eb ev es k):=fun k hk=>by
          rcases hzv k hk with h1 | ⟨h1,h2⟩
          · exact .inl (c.zv k h1)
          · exact .inr ⟨h1,(own_ge hfp.ow hk).2,h2⟩
        have hfp2:FP w2 g R P' L q2.H p' s' held' hv':=hfp.frZ hf2 (ny g (.inl h.zg)) (ny R (.inl c.zR)) (fun hy=>by have:=(bd 0 (.inr hy)).1; omega) (fun hy=>by have:=(bd 1 (.inr hy)).1; omega) (fun k hk=>ny k (.inl (c.zl k (by rw [← p6]; exact hk)))) (fun k hk=>ny k (zhs k hk)) (fun k hk=>ny k (zv' k hk))
        refine ⟨kv,ys,P',Q',q2.H,rfl,fq.evs,heq,hf2,⟨hfp2.pk,.inl h.zg,hfp2.b0,ho2,zhs,fb.hl,hqp.rq,.inl h.yg,fq.ho,yhs,c1,hgo,by rw [k12,p7,h.why],by rw [k3,p3,h.ac],by rw [k4,p4,h.ai],k9.trans p9.symm,k10.trans p10.symm,by rw [k1,p1,h.inf],fun _=>⟨L,p',s',held',hv',A ++ l,av',met0 ++ met,bs0 ++ bs,hfp2,hqp,?_,by rw [List.length_append]; omega,k11.trans p11.symm,by rw [k5,p5,c.sd],by rw [k2,p2,c.b],.inl c.zR,fun k hk=>.inl (c.zl k (by rw [← p6]; exact hk)),zv',.inl c.yS,fun k hk=>.inl (c.yl k (by rw [← k6]; exact hk)),fun k hk=>?_⟩⟩⟩
        · rw [hr]
          have:=c.rd.app rfl rd1
          have he0:er = 0:=by
            rw [hfin] at h0
            split at h0
            · exact h0
            · rename_i h; exact absurd h0 h
          rw [he0] at this
          exact this
        · rcases hya k hk with h1 | h1
          · exact .inl (c.ya k h1)
          · exact .inr ⟨h1,(own_ge hqp.ow hk).2⟩
      · exact absurd h0 h9
    · rcases fq.en with ⟨h9,_⟩ | ⟨_,hrq⟩
      · exact absurd h9 h0
      · have hpk2:PK w2 g { P' with why:=fin2,st:=.pointer none,ln:=.slice none 0 0 }:=hpk.keep (hf2.block g hpk.lt (ny g (.inl h.zg)))
        have hb0:64≤P'.b:=by rw [p2]; exact h.b0
        have hne:(fin2 != 0) = true:=by simp [h0]
        exact ⟨kv,ys,_,_,q2.H,rfl,fq.evs,heq,hf2,⟨hpk2,.inl h.zg,hb0,ho2,zhs,fb.hl,hrq,.inl h.yg,fq.ho,yhs,c1,hne.symm,rfl,by show Q'.ac = P'.wc; rw [k3,p3,h.ac],by show Q'.ai = P'.wi; rw [k4,p4,h.ai],k9.trans p9.symm,k10.trans p10.symm,by show Q'.info = P'.info; rw [k1,p1,h.inf],fun h8=>absurd h8 h0⟩⟩
  · obtain ⟨a,c,rfl,_⟩:=hb
    refine (feedGone w g P h.pk (by have:=h.b0; omega) hw a l.length c).mono ?_
    rintro e w1 ⟨rfl,rfl⟩
    refine ⟨_,_, [],rfl,EVS.nil _ _,List.nodup_nil,Nat.zero_le _,Fm.Fr.refl _ _,fun dv hdv=>?_⟩
    have hgo:Q.gone = true:=by rw [h.gone]; simp [hw]
    refine (rfeedGone w1 G Q h.rq hgo dv).mono ?_
    rintro e w2 ⟨rfl,rfl⟩
    exact ⟨_, [],P,Q,H,rfl,EVS.nil _ _,⟨rfl,fun k x y h=>by simp at h⟩,Fm.Fr.refl _ _,h.mono (fun k hk=>.inl hk) (fun k hk=>.inl hk) (Nat.le_add_right _ _)⟩
structure OMw (B:Nat) (w:World) (m:Mv) (D hb:List UInt8):Prop where
  ok:m.ok
  d:OW B w m.d D
  h:OH B w m.h hb
set_option maxHeartbeats 1000000 in
set_option maxRecDepth 100000 in
theorem twinW (w:World) (m:Mv) (D hb:List UInt8) (hm:MM w m D hb) :
    Calls Tryz.prog 26 #[.agg m.cs] w fun e w'=>∃ d' h',e = .returned (.agg { m with d:=d',h:=h' }.cs)∧OMw w.heap.size w' { m with d:=d',h:=h' } D hb∧Below w.heap.size w w':=by
  have C0:∃ X,(((w.alloc (.cells m.cs 40)).alloc (.cells zm.cs 40)).alloc (.cells zm.cs 40)).setRow (w.heap.size + 2) m.cs = X∧MB X w.heap.size m∧MB X (w.heap.size + 1) zm∧MB X (w.heap.size + 2) m∧Below w.heap.size w X∧X.heap.size = w.heap.size + 3:=by
    have g2:MB (((w.alloc (.cells m.cs 40)).alloc (.cells zm.cs 40)).alloc (.cells zm.cs 40)) (w.heap.size + 2) zm:=heapLast _ _ (by simp)
    refine ⟨_,rfl,?_,?_,g2.setRow,belowSetRow ((((Below.refl _ _).alloc (Nat.le_refl _) _).alloc (by simp) _).alloc (by simp; omega) _) (by omega) _,by simp [World.setRow]⟩
    · show (World.setRow _ _ _).heap[_]? = _
      rw [setRow_other _ _ _ _ (by omega),heapOld _ _ _ (by simp; omega),heapOld _ _ _ (by simp),heapNew]
    · show (World.setRow _ _ _).heap[_]? = _
      rw [setRow_other _ _ _ _ (by omega),heapOld _ _ _ (by simp)]; exact heapLast _ _ (by simp)
  have g2:MB (((w.alloc (.cells m.cs 40)).alloc (.cells zm.cs 40)).alloc (.cells zm.cs 40)) (w.heap.size + 2) zm:=heapLast _ _ (by simp)
  have hc2:((w.alloc (.cells m.cs 40)).alloc (.cells zm.cs 40)).heap[w.heap.size]? = some (.cells m.cs 40 (0,0)):=by rw [heapOld _ _ _ (by simp),heapNew]
  have HM:Hid (MM w m D hb):=hm
  have ok:=hm.ok
  have him:=info_msg ok
  have hone:=ok.one
  have hsz:zm.cs.size = m.cs.size:=by rw [zm_ok.size,ok.size]
  have l2:=g2.cells
  clear g2 hm
  go_enter Tryz.func26,Tryz.ntmps26
  go_upto_region 2 with (first |(refine wpList_load_row rfl 40 _ rfl w.heap.size rfl 40 m.cs (0,0) _ hc2 Tryz.underlying40 rfl him ?_) |(refine wpList_store_row rfl 40 _ _ rfl (w.heap.size + 2) m.cs rfl rfl 40 zm.cs l2 him hsz hone ?_))
  rw [z40_eq]
  obtain ⟨X,hX,C0⟩:=C0
  rw [hX]
  clear hX hc2 l2 hsz hone
  have HX:Hid (MB X w.heap.size m∧MB X (w.heap.size + 1) zm∧MB X (w.heap.size + 2) m∧Below w.heap.size w X∧X.heap.size = w.heap.size + 3):=C0
  have a4:=C0.2.2.1.c4
  have f4:=C0.2.2.1.free 4
  clear C0
  go_upto_region 3 with fail
  have HX1:Hid (MB (X.setCell ⟨w.heap.size + 2,4,none⟩ (.slice none 0 0)) w.heap.size m∧MB (X.setCell ⟨w.heap.size + 2,4,none⟩ (.slice none 0 0)) (w.heap.size + 1) zm∧MB (X.setCell ⟨w.heap.size + 2,4,none⟩ (.slice none 0 0)) (w.heap.size + 2) { m with d:=.slice none 0 0 }∧Below w.heap.size w (X.setCell ⟨w.heap.size + 2,4,none⟩ (.slice none 0 0))∧(X.setCell ⟨w.heap.size + 2,4,none⟩ (.slice none 0 0)).heap.size = w.heap.size + 3):=
    ⟨HX.out.1.besides (Besides.setCell _ _ _ _) (by omega),HX.out.2.1.besides (Besides.setCell _ _ _ _) (by omega),HX.out.2.2.1.set 4 _ rfl,HX.out.2.2.2.1.setCell (by show _≤_ + 2; omega) _,by simp; exact HX.out.2.2.2.2⟩
  clear a4 f4 HX
  generalize X.setCell ⟨w.heap.size + 2,4,none⟩ (.slice none 0 0) = X1 at *
  have ok1:Mv.ok { m with d:=.slice none 0 0 }:=⟨ok.r,⟨_,_,_,rfl⟩,ok.h⟩
  have a39:=HX1.out.2.2.1.c39 ok1
  have f39:=HX1.out.2.2.1.free 39
  go_upto_region 4 with fail
  have HX2:Hid (MB (X1.setCell ⟨w.heap.size + 2,39,none⟩ (.slice none 0 0)) w.heap.size m∧MB (X1.setCell ⟨w.heap.size + 2,39,none⟩ (.slice none 0 0)) (w.heap.size + 1) zm∧MB (X1.setCell ⟨w.heap.size + 2,39,none⟩ (.slice none 0 0)) (w.heap.size + 2) { m with d:=.slice none 0 0,h:=.slice none 0 0 }∧Below w.heap.size w (X1.setCell ⟨w.heap.size + 2,39,none⟩ (.slice none 0 0))∧(X1.setCell ⟨w.heap.size + 2,39,none⟩ (.slice none 0 0)).heap.size = w.heap.size + 3):=
    ⟨HX1.out.1.besides (Besides.setCell _ _ _ _) (by omega),HX1.out.2.1.besides (Besides.setCell _ _ _ _) (by omega),HX1.out.2.2.1.set 39 _ (Mv.set39 ok1 _),HX1.out.2.2.2.1.setCell (by show _≤_ + 2; omega) _,by simp; exact HX1.out.2.2.2.2⟩
  clear a39 f39 HX1 ok1
  generalize X1.setCell ⟨w.heap.size + 2,39,none⟩ (.slice none 0 0) = X2 at *
  have a4:X2.cell? ⟨w.heap.size + 2,4,none⟩ = some (.slice none 0 0):=HX2.out.2.2.1.c4
  have f4:=HX2.out.2.2.1.free 4
  have m4:=HX2.out.1.c4
  have hlt2:w.heap.size + 2 < X2.heap.size:=by rw [HX2.out.2.2.2.2]; omega
  have HD:Hid (RB X2 m.d D∧RH X2 m.h hb∧([]:List UInt8).length + D.length≤140737488351232∧hb.length≤140737488351232):=by
    have hb':=HX2.out.2.2.2.1
    exact ⟨HM.out.d.keep hb',HM.out.h.keep hb',by have:=HM.out.dl; simpa using this,HM.out.hl⟩
  have HO:Hid (OW X2.heap.size X2 (.slice none 0 0) []):=World.ownsRow_nil _ _ _ _
  go_upto_region 5 with (first |(at_builtin; refine append_bytes rfl _ _ rfl rfl HO.out rfl HD.out.1 (Nat.le_refl _) HD.out.2.2.1 ?_; intro d' X3 o3 b3; simp only [List.nil_append] at o3; obtain ⟨da,dc,rfl⟩:=o3.form; have t4:=(b3.cell (p:=⟨w.heap.size + 2,4,none⟩) hlt2).trans a4; have t5:=(b3.frozen (p:=⟨w.heap.size + 2,4,none⟩) hlt2).trans f4))
  have H4:Hid (MB (X3.setCell ⟨w.heap.size + 2,4,none⟩ (.slice da D.length dc)) w.heap.size m∧MB (X3.setCell ⟨w.heap.size + 2,4,none⟩ (.slice da D.length dc)) (w.heap.size + 1) zm∧MB (X3.setCell ⟨w.heap.size + 2,4,none⟩ (.slice da D.length dc)) (w.heap.size + 2) { m with d:=.slice da D.length dc,h:=.slice none 0 0 }∧Below w.heap.size w (X3.setCell ⟨w.heap.size + 2,4,none⟩ (.slice da D.length dc))∧w.heap.size + 2 < (X3.setCell ⟨w.heap.size + 2,4,none⟩ (.slice da D.length dc)).heap.size∧OW (w.heap.size + 3) (X3.setCell ⟨w.heap.size + 2,4,none⟩ (.slice da D.length dc)) (.slice da D.length dc) D∧RH (X3.setCell ⟨w.heap.size + 2,4,none⟩ (.slice da D.length dc)) m.h hb):=by
    have hs2:=HX2.out.2.2.2.2
    have bb:Below X2.heap.size X2 X3:=b3
    have b4:Below w.heap.size w X3:=HX2.out.2.2.2.1.trans (bb.mono (by omega))
    have hs3:=bb.size
    have g0:=HX2.out.1.below bb
    have g1:=HX2.out.2.1.below bb
    have g2:=HX2.out.2.2.1.below bb
    exact ⟨g0.besides (Besides.setCell _ _ _ _) (by omega),g1.besides (Besides.setCell _ _ _ _) (by omega),g2.set 4 _ rfl,b4.setCell (by show _≤_ + 2; omega) _,by simp; omega,ownsRow_setCell_below (ownsRow_mono o3 (by omega)) (by show w.heap.size + 2 < _; omega) _,HM.out.h.keep (b4.setCell (by show _≤_ + 2; omega) _)⟩
  clear t4 t5 o3 b3 HO HD hlt2 m4 f4 a4 HX2
  generalize X3.setCell ⟨w.heap.size + 2,4,none⟩ (.slice da D.length dc) = X4 at *
  have ok4:Mv.ok { m with d:=.slice da D.length dc,h:=.slice none 0 0 }:=⟨ok.r,⟨_,_,_,rfl⟩,⟨_,_,_,rfl⟩⟩
  have a39:X4.cell? ⟨w.heap.size + 2,39,none⟩ = some (.slice none 0 0):=H4.out.2.2.1.c39 ok4
  have f39:=H4.out.2.2.1.free 39
  have m39:=H4.out.1.c39 ok
  have hlt2:w.heap.size + 2 < X4.heap.size:=H4.out.2.2.2.2.1
  have HH:Hid (RH X4 m.h hb∧hb.length≤140737488351232):=⟨H4.out.2.2.2.2.2.2,HM.out.hl⟩
  go_upto_region 6 with (first |(at_builtin; refine append_hashes rfl _ _ rfl rfl rfl HH.out.1 HH.out.2 ?_; intro h' X5 o5 b5; obtain ⟨ha,hn,hc,rfl,_⟩:=o5.rh; have t4:=(b5.cell (p:=⟨w.heap.size + 2,39,none⟩) hlt2).trans a39; have t5:=(b5.frozen (p:=⟨w.heap.size + 2,39,none⟩) hlt2).trans f39))
  have H5:Hid (MB (X5.setCell ⟨w.heap.size + 2,39,none⟩ (.slice ha hn hc)) (w.heap.size + 1) zm∧MB (X5.setCell ⟨w.heap.size + 2,39,none⟩ (.slice ha hn hc)) (w.heap.size + 2) { m with d:=.slice da D.length dc,h:=.slice ha hn hc }∧Below w.heap.size w (X5.setCell ⟨w.heap.size + 2,39,none⟩ (.slice ha hn hc))∧OW (w.heap.size + 3) (X5.setCell ⟨w.heap.size + 2,39,none⟩ (.slice ha hn hc)) (.slice da D.length dc) D∧OH (w.heap.size + 3) (X5.setCell ⟨w.heap.size + 2,39,none⟩ (.slice ha hn hc)) (.slice ha hn hc) hb):=by
    have b6:Below w.heap.size w X5:=H4.out.2.2.2.1.trans (b5.mono (by omega))
    have g1:=H4.out.2.1.below b5
    have g2:=H4.out.2.2.1.below b5
    obtain ⟨n,hn',hown⟩:=o5
    exact ⟨g1.besides (Besides.setCell _ _ _ _) (by omega),g2.set 39 _ (Mv.set39 ok4 _),b6.setCell (by show _≤_ + 2; omega) _,ownsRow_setCell_below (OW.grow H4.out.2.2.2.2.2.1 b5) (by show w.heap.size + 2 < _; omega) _,⟨n,hn',ownsRow_setCell_below (ownsRow_mono hown (by omega)) (by show w.heap.size + 2 < _; omega) _⟩⟩
  clear t4 t5 o5 b5 HH hlt2 m39 f39 a39 H4 ok4
  generalize X5.setCell ⟨w.heap.size + 2,39,none⟩ (.slice ha hn hc) = X6 at *
  have ok5:Mv.ok { m with d:=.slice da D.length dc,h:=.slice ha hn hc }:=⟨ok.r,⟨_,_,_,rfl⟩,⟨_,_,_,rfl⟩⟩
  have l2:=H5.out.2.1.cells
  have l1:=H5.out.1.cells
  have him5:=info_msg ok5
  have hone5:=ok5.one
  have hsz5:zm.cs.size = Array.size (Mv.cs { m with d:=.slice da D.length dc,h:=.slice ha hn hc }):=by rw [zm_ok.size,ok5.size]
  have HE:Hid (MB (X6.setRow (w.heap.size + 1) (Mv.cs { m with d:=.slice da D.length dc,h:=.slice ha hn hc })) (w.heap.size + 1) { m with d:=.slice da D.length dc,h:=.slice ha hn hc }∧OMw w.heap.size (X6.setRow (w.heap.size + 1) (Mv.cs { m with d:=.slice da D.length dc,h:=.slice ha hn hc })) { m with d:=.slice da D.length dc,h:=.slice ha hn hc } D hb∧Below w.heap.size w (X6.setRow (w.heap.size + 1) (Mv.cs { m with d:=.slice da D.length dc,h:=.slice ha hn hc }))):=by
    refine ⟨H5.out.1.setRow,⟨ok5,?_,?_⟩,belowSetRow H5.out.2.2.1 (by omega) _⟩
    · exact ownsRow_mono (ownsRow_keepB H5.out.2.2.2.1 (fun k hk _=>setRow_other _ _ _ _ (by omega))) (by omega)
    · obtain ⟨n,e1,e2⟩:=H5.out.2.2.2.2
      exact ⟨n,e1,ownsRow_mono (ownsRow_keepB e2 (fun k hk _=>setRow_other _ _ _ _ (by omega))) (by omega)⟩
  have HK:Hid (Mv.ok { m with d:=.slice da D.length dc,h:=.slice ha hn hc }):=ok5
  clear ok5 H5
  generalize hmm:({ m with d:=.slice da D.length dc,h:=.slice ha hn hc }:Mv) = M at *
  have HMM:Hid (({ m with d:=.slice da D.length dc,h:=.slice ha hn hc }:Mv) = M):=hmm
  clear hmm
  go_wp2_with (first |(refine wpList_load_row rfl 40 _ rfl (w.heap.size + 2) rfl 40 M.cs (0,0) _ l2 Tryz.underlying40 rfl him5 ?_) |(refine wpList_store_row rfl 40 _ _ rfl (w.heap.size + 1) M.cs rfl rfl 40 zm.cs l1 him5 hsz5 hone5 ?_))
  exact bodyPost_ret (results_msg Tryz.results26 _ _ (w.heap.size + 1) M rfl HE.out.1 HK.out) rfl ⟨_,_,by rw [HMM.out],by rw [HMM.out]; exact HE.out.2.1,HE.out.2.2⟩
end Go.Proofs.YtfjjpbebnoghmaaGreatDoor
