import Derived.Test.YtdlnnnlmlaploabGreatDoorK24
import Derived.Test.YtdlnnnlmlaploabGreatDoorK23
import Derived.Test.YtdlnnnlmlaploabGreatDoorK25
namespace Go.Proofs.YtdlnnnlmlaploabGreatDoor
open Go.RowKit Go.Deep
theorem catN_ge {f:Nat → List UInt8}:∀ {n:Nat},(∀ i,i < n → 1 ≤ (f i).length) → n ≤ (catN f n).length
  | 0,_=>Nat.zero_le _
  | n + 1,h=>by
    show n + 1 ≤ (catN f n ++ f n).length
    rw [List.length_append]
    have:=catN_ge (f:=f) (n:=n) (fun i hi=>h i (by omega))
    have:=h n (by omega)
    omega
theorem txt_pos {t:T} (hv:VT t) (hf:t.full):1 ≤ (txt t).length:=by
  cases t with
  | no=>exact hf.elim
  | mk k n s ln l dn ky dv=>have:=txt_ge hv; omega
theorem first_gr (key:ByteArray) (ky:Nat → ByteArray):∀ dn, ∃ j0,j0 ≤ dn∧(∀ j,j < j0 → Op.bytesLess key.toList (ky j).toList = false)∧(j0 < dn → Op.bytesLess key.toList (ky j0).toList = true)
  | 0=>⟨0,Nat.le_refl _,fun j hj=>absurd hj (Nat.not_lt_zero _),fun h=>absurd h (Nat.lt_irrefl _)⟩
  | dn + 1=>by
    obtain ⟨j0,h1,h2,h3⟩:=first_gr key ky dn
    by_cases h:j0 < dn
    · exact ⟨j0,by omega,h2,fun _=>h3 h⟩
    · obtain rfl:j0 = dn:=by omega
      by_cases hl:Op.bytesLess key.toList (ky j0).toList = true
      · exact ⟨j0,by omega,h2,fun _=>hl⟩
      · refine ⟨j0 + 1,Nat.le_refl _,fun j hj=>?_,fun h=>absurd h (Nat.lt_irrefl _)⟩
        by_cases e:j = j0
        · subst e; simpa using hl
        · exact h2 j (by omega)
theorem wtx_le (s:ByteArray) (h:s.size ≤ 10000000000000):(wtx s).length ≤ s.size + 40:=by
  have h1:=Lib.itoa_length_le s.size (by omega) (by omega)
  have h2:(wtx s).length = (Lib.itoa (s.size:Int)).length + (s.size + 1):=by
    show (Lib.itoa (s.size:Int) ++ 58 :: s.data.toList).length = _
    rw [List.length_append,List.length_cons,Array.length_toList]; rfl
  omega
theorem wi_good {x:T} (hx:Pd x):∀ (p:List (Int × ByteArray)) (t:T),Pd t → (∀ q ∈ p,q.2.size ≤ 10000000000000) → (txt t).length ≤ 1048576 → (wiT x p t).2 = 0 → Pd (wiT x p t).1∧(txt (wiT x p t).1).length ≤ (txt t).length + (txt x).length + 10000000000040
  | [],t,_,_,_,_=>⟨hx,by show (txt x).length ≤ _; omega⟩
  | q :: p,.no,ht,_,_,h=>by have:=ht.full; exact this.elim
  | q :: p,.mk k n s ln l dn ky dv,ht,hq,hl,h=>by
    have ih:=wi_good hx p
    have hq2:∀ q ∈ p,q.2.size ≤ 10000000000000:=fun r hr=>hq r (by simp [hr])
    have hge:=txt_ge ht.vt
    have hlnc:ln ≤ (catN (fun i=>txt (l i)) ln).length:=catN_ge fun i hi=>txt_pos (ht.kid hi).vt (ht.kid hi).full
    have hdnc:dn ≤ (catN (fun i=>wtx (ky i) ++ txt (dv i)) dn).length:=catN_ge fun i hi=>by rw [List.length_append]; have:=txt_pos (ht.pair hi).1.vt (ht.pair hi).1.full; omega
    by_cases h3:k = 3
    · subst h3
      have e:txt (.mk 3 n s ln l dn ky dv) = 108 :: (catN (fun i=>txt (l i)) ln ++ [101]):=rfl
      by_cases hr:∃ i:Nat,i < ln∧(i:Int) = q.1
      · obtain ⟨i,i1,i2⟩:=hr
        have hDl:=(Desc.list (n:=n) (s:=s) (dn:=dn) (ky:=ky) (dv:=dv) (fr:=0) (fi:=0) (key:=q.2) i1 i2.symm (.here (t:=l i)))
        obtain ⟨w1,w2⟩:=hDl.wi (x:=x) p ht.vt
        have eq:[(q.1,q.2)] ++ p = q :: p:=rfl
        rw [eq] at w1 w2
        have hz:(wiT x p (l i)).2 = 0:=w1.symm.trans h
        obtain ⟨A,B,a1,a2,_,a4⟩:=w2 hz
        have hli:(txt (l i)).length ≤ 1048576:=by
          have:=congrArg List.length a1
          simp only [List.length_append] at this
          omega
        obtain ⟨g1,g2⟩:=ih (l i) (ht.kid i1) hq2 hli hz
        refine ⟨a4 ht g1,?_⟩
        rw [a2,a1]
        simp only [List.length_append]
        omega
      · have hno:∀ i:Nat,i < ln → (i:Int) ≠ q.1:=fun i hi e=>hr ⟨i,hi,e⟩
        by_cases hE:q.1 = (ln:Int)∧p.isEmpty = true
        · obtain ⟨e1,e2⟩:=hE
          obtain rfl:p = []:=List.isEmpty_iff.1 e2
          obtain ⟨u',u1,u2,u3⟩:=wiT_list_end (x:=x) (n:=n) (s:=s) (l:=l) (dn:=dn) (ky:=ky) (dv:=dv) e1
          rw [u1]
          refine ⟨u3 ht hx (by omega),?_⟩
          show (txt u').length ≤ _
          rw [u2,e]
          simp only [List.length_append,List.length_cons,List.length_nil]
          omega
        · rw [wiT_list_no hno (by
            by_cases e1:q.1 = (ln:Int)
            · right
              cases he:p.isEmpty with
              | false=>rfl
              | true=>exact absurd ⟨e1,he⟩ hE
            · exact .inl e1)] at h
          cases h
    · by_cases h4:k = 4
      · subst h4
        have e:txt (.mk 4 n s ln l dn ky dv) = 100 :: (catN (fun i=>wtx (ky i) ++ txt (dv i)) dn ++ [101]):=rfl
        by_cases hr:∃ i,i < dn∧ky i = q.2
        · obtain ⟨i,i1,i2⟩:=hr
          have hDl:=(Desc.dict (n:=n) (s:=s) (ln:=ln) (l:=l) (fr:=0) (fi:=0) (nm:=q.1) i1 i2.symm (.here (t:=dv i)))
          obtain ⟨w1,w2⟩:=hDl.wi (x:=x) p ht.vt
          have eq:[(q.1,q.2)] ++ p = q :: p:=rfl
          rw [eq] at w1 w2
          have hz:(wiT x p (dv i)).2 = 0:=w1.symm.trans h
          obtain ⟨A,B,a1,a2,_,a4⟩:=w2 hz
          have hli:(txt (dv i)).length ≤ 1048576:=by
            have:=congrArg List.length a1
            simp only [List.length_append] at this
            omega
          obtain ⟨g1,g2⟩:=ih (dv i) (ht.pair i1).1 hq2 hli hz
          refine ⟨a4 ht g1,?_⟩
          rw [a2,a1]
          simp only [List.length_append]
          omega
        · have hno:∀ i,i < dn → ky i ≠ q.2:=fun i hi e=>hr ⟨i,hi,e⟩
          cases he:p.isEmpty with
          | false =>
            rw [wiT_dict_no hno he] at h
            cases h
          | true =>
            obtain rfl:p = []:=List.isEmpty_iff.1 he
            obtain ⟨j0,j1,j2,j3⟩:=first_gr q.2 ky dn
            obtain ⟨u',z,u1,u2,u3,u4⟩:=wiT_dict_ins (x:=x) (q:=q) (n:=n) (s:=s) (l:=l) ht.vt hno j1 j2 j3
            have hk:=hq q (by simp)
            have hw:=wtx_le q.2 hk
            rw [u1]
            refine ⟨u4 ht hx (by omega) (by omega),?_⟩
            show (txt u').length ≤ _
            rw [u3,e,u2]
            simp only [List.length_append,List.length_cons,List.length_nil]
            omega
      · rw [wiT_leaf h3 h4] at h
        cases h
def Sw (A H:Nat) (lv:Value) (b:Nat):Prop:=b < A ∨ (H ≤ b∧lv.ownBlock ≠ some b)
theorem vrow_add {A H:Nat} {wr W w5:World} {lv lv':Value} {L:List T} {us:List Value} {t:T} {x y:Value} (hA:A ≤ H)
    (hel:∀ k,k < L.length → ∃ x y,RV (Sw A H lv) wr (L.getD k .no) x y∧∀ r,r < 5 → us[k * 5 + r]? = (cv (L.getD k .no) x y)[r]?) (hl:us.length = L.length * 5)
    (hwW:Below wr.heap.size wr W) (hrv:RV (fun b=>b < A ∨ (H ≤ b∧lv.ownBlock ≠ some b)) W t x y) (hlo:∀ q,lv.ownBlock = some q → H ≤ q∧q < wr.heap.size)
    (hg:W.grownBy w5 lv.ownBlock) (hat:lv'.ownBlock = lv.ownBlock ∨ lv'.ownBlock = some W.heap.size) (h3:w5.ownsRow H 55 5 lv' (L.length + 1) (us ++ cv t x y)) :
    VRow H (Sw A H lv') w5 lv' (L ++ [t]):=by
  have h2:∀ k,k < L.length → ∃ x y,RV (fun b=>Sw A H lv b∧b < W.heap.size) W (L.getD k .no) x y∧∀ r,r < 5 → us[k * 5 + r]? = (cv (L.getD k .no) x y)[r]?:=fun k hk=>by
    obtain ⟨x',y',q1,q2⟩:=hel k hk
    exact ⟨x',y',RV.move (fun b hb hl=>⟨hb,Nat.lt_of_lt_of_le hl hwW.size⟩) hwW.size (fun b _ hl=>hwW.block b hl) _ _ _ q1,q2⟩
  have hrv':RV (fun b=>Sw A H lv b∧b < W.heap.size) W t x y:=RV.move (fun b hb hl=>⟨hb,hl⟩) (Nat.le_refl _) (fun _ _ _=>rfl) _ _ _ hrv
  have hV:=VRow.snoc (S:=fun b=>Sw A H lv b∧b < W.heap.size) (v:=lv) h2 hl hg (fun b hb _ e=>by
    rcases hb.1 with h | h
    · have:=(hlo b e).1; omega
    · exact h.2 e) h3 hrv'
  refine hV.keep (Nat.le_refl _) (fun _ _ _=>rfl) (fun b hb _=>⟨?_,rfl⟩)
  rcases hb.1 with h | ⟨h,h'⟩
  · exact .inl h
  · refine .inr ⟨h,fun e=>?_⟩
    rcases hat with h1 | h1
    · exact h' (h1 ▸ e)
    · rw [h1] at e
      injection e with e
      have:=hb.2; omega
theorem prow_add {A H:Nat} {wr W w5:World} {lv lv':Value} {L:List (ByteArray × T)} {us:List Value} {key:ByteArray} {t:T} {x y:Value} (hA:A ≤ H)
    (hel:∀ k,k < L.length → ∃ x y,RV (Sw A H lv) wr (L.getD k (ByteArray.empty,.no)).2 x y∧∀ r,r < 6 → us[k * 6 + r]? = (.string (L.getD k (ByteArray.empty,.no)).1 :: cv (L.getD k (ByteArray.empty,.no)).2 x y)[r]?) (hl:us.length = L.length * 6)
    (hwW:Below wr.heap.size wr W) (hrv:RV (fun b=>b < A ∨ (H ≤ b∧lv.ownBlock ≠ some b)) W t x y) (hlo:∀ q,lv.ownBlock = some q → H ≤ q∧q < wr.heap.size)
    (hg:W.grownBy w5 lv.ownBlock) (hat:lv'.ownBlock = lv.ownBlock ∨ lv'.ownBlock = some W.heap.size) (h3:w5.ownsRow H 67 6 lv' (L.length + 1) (us ++ .string key :: cv t x y)) :
    PRow H (Sw A H lv') w5 lv' (L ++ [(key,t)]):=by
  have h2:∀ k,k < L.length → ∃ x y,RV (fun b=>Sw A H lv b∧b < W.heap.size) W (L.getD k (ByteArray.empty,.no)).2 x y∧∀ r,r < 6 → us[k * 6 + r]? = (.string (L.getD k (ByteArray.empty,.no)).1 :: cv (L.getD k (ByteArray.empty,.no)).2 x y)[r]?:=fun k hk=>by
    obtain ⟨x',y',q1,q2⟩:=hel k hk
    exact ⟨x',y',RV.move (fun b hb hl=>⟨hb,Nat.lt_of_lt_of_le hl hwW.size⟩) hwW.size (fun b _ hl=>hwW.block b hl) _ _ _ q1,q2⟩
  have hrv':RV (fun b=>Sw A H lv b∧b < W.heap.size) W t x y:=RV.move (fun b hb hl=>⟨hb,hl⟩) (Nat.le_refl _) (fun _ _ _=>rfl) _ _ _ hrv
  have hV:=PRow.snoc (S:=fun b=>Sw A H lv b∧b < W.heap.size) (v:=lv) h2 hl hg (fun b hb _ e=>by
    rcases hb.1 with h | h
    · have:=(hlo b e).1; omega
    · exact h.2 e) h3 hrv'
  refine hV.keep (Nat.le_refl _) (fun _ _ _=>rfl) (fun b hb _=>⟨?_,rfl⟩)
  rcases hb.1 with h | ⟨h,h'⟩
  · exact .inl h
  · refine .inr ⟨h,fun e=>?_⟩
    rcases hat with h1 | h1
    · exact h' (h1 ▸ e)
    · rw [h1] at e
      injection e with e
      have:=hb.2; omega
theorem info55v:(Tryz.prog.info? 55).map (fun i=>(i.zero,i.size,i.bytes)) = some (some (.agg #[.int .i64 0,.int .i64 0,.string ByteArray.empty,.slice none 0 0,.slice none 0 0]),5,80):=by kernel_rfl
theorem info67p:(Tryz.prog.info? 67).map (fun i=>(i.zero,i.size,i.bytes)) = some (some (.agg #[.string ByteArray.empty,.int .i64 0,.int .i64 0,.string ByteArray.empty,.slice none 0 0,.slice none 0 0]),6,96):=by kernel_rfl
theorem append_val {ops:Array Oper} {rest:List Oper} {o:Oper} {a:Act} {Q:Exit → Act → World → Prop} {w:World} {B:Nat} {sv:Value} {m:Nat} {us:List Value} {t:T} {x1 y1:Value} (hgd:o.guard = none) (s x:Operand)
    (ho:o.op = .call { callee:=.builtin .append,args:=#[s,x],argTypes:=#[52,52] }) (hs:a.eval s = sv) (hown:w.ownsRow B 55 5 sv m us) (b:Nat) (hx:a.eval x = .slice (some ⟨b,0,none⟩) 1 1)
    (hc:obj w b (.int .i64 t.k) (.int .i64 t.n) (.string t.s) x1 y1) (h1:x1.oneCell' = true) (h2:y1.oneCell' = true) (hB:B ≤ w.heap.size) (hlim:m ≤ 4294967296)
    (h:∀ v' w',w'.ownsRow B 55 5 v' (m + 1) (us ++ cv t x1 y1) → w.grownBy w' sv.ownBlock → (v'.ownBlock = sv.ownBlock ∨ v'.ownBlock = some w.heap.size) → wpList Tryz.prog ops Q rest (a.put o.dst v') w'):wpList Tryz.prog ops Q (o :: rest) a w:=by
  obtain ⟨i0,hi,hz0,hz1,hz2⟩:=info_parts info55v
  obtain ⟨c0,c1,c2,c3,c4⟩:=hc.cells
  refine wpList_append_own_at w hgd s x 52 ho B 55 i0 _ 5 80 Tryz.underlying52 hi hz0 hz1 hz2 rfl (by omega) sv m us hs hown ⟨b,0,none⟩ 1 1 (cv t x1 y1) hx rfl (fun j u hu=>?_) (fun u hu=>?_) (by unfold maxLen; omega) (by omega) hB (fun v' w' h1 h2 _ h4=>h v' w' h1 h2 h4)
  · match j,hu with
    | 0,hu=>simp [cv] at hu; subst hu; simpa [Addr.add] using c0
    | 1,hu=>simp [cv] at hu; subst hu; simpa [Addr.add] using c1
    | 2,hu=>simp [cv] at hu; subst hu; simpa [Addr.add] using c2
    | 3,hu=>simp [cv] at hu; subst hu; simpa [Addr.add] using c3
    | 4,hu=>simp [cv] at hu; subst hu; simpa [Addr.add] using c4
  · simp [cv] at hu
    rcases hu with rfl | rfl | rfl | rfl | rfl
    · rfl
    · rfl
    · rfl
    · exact h1
    · exact h2
theorem append_pair {ops:Array Oper} {rest:List Oper} {o:Oper} {a:Act} {Q:Exit → Act → World → Prop} {w:World} {B:Nat} {sv:Value} {m:Nat} {us:List Value} {key:ByteArray} {t:T} {x1 y1:Value} (hgd:o.guard = none) (s x:Operand)
    (ho:o.op = .call { callee:=.builtin .append,args:=#[s,x],argTypes:=#[53,53] }) (hs:a.eval s = sv) (hown:w.ownsRow B 67 6 sv m us) (b:Nat) (hx:a.eval x = .slice (some ⟨b,0,none⟩) 1 1)
    (hc:blk w b 67 #[.string key,.int .i64 t.k,.int .i64 t.n,.string t.s,x1,y1]) (h1:x1.oneCell' = true) (h2:y1.oneCell' = true) (hB:B ≤ w.heap.size) (hlim:m ≤ 4294967296)
    (h:∀ v' w',w'.ownsRow B 67 6 v' (m + 1) (us ++ .string key :: cv t x1 y1) → w.grownBy w' sv.ownBlock → (v'.ownBlock = sv.ownBlock ∨ v'.ownBlock = some w.heap.size) → wpList Tryz.prog ops Q rest (a.put o.dst v') w'):wpList Tryz.prog ops Q (o :: rest) a w:=by
  obtain ⟨i0,hi,hz0,hz1,hz2⟩:=info_parts info67p
  refine wpList_append_own_at w hgd s x 53 ho B 67 i0 _ 6 96 Tryz.underlying53 hi hz0 hz1 hz2 rfl (by omega) sv m us hs hown ⟨b,0,none⟩ 1 1 (.string key :: cv t x1 y1) hx rfl (fun j u hu=>?_) (fun u hu=>?_) (by unfold maxLen; omega) (by omega) hB (fun v' w' h1 h2 _ h4=>h v' w' h1 h2 h4)
  · have:=hc.cell j
    match j,hu,this with
    | 0,hu,this=>simp [cv] at hu; subst hu; simpa [Addr.add] using this
    | 1,hu,this=>simp [cv] at hu; subst hu; simpa [Addr.add] using this
    | 2,hu,this=>simp [cv] at hu; subst hu; simpa [Addr.add] using this
    | 3,hu,this=>simp [cv] at hu; subst hu; simpa [Addr.add] using this
    | 4,hu,this=>simp [cv] at hu; subst hu; simpa [Addr.add] using this
    | 5,hu,this=>simp [cv] at hu; subst hu; simpa [Addr.add] using this
  · simp [cv] at hu
    rcases hu with rfl | rfl | rfl | rfl | rfl | rfl
    · rfl
    · rfl
    · rfl
    · rfl
    · exact h1
    · exact h2
def wlR (x:T) (nm:Int) (ln:Nat):Sum (List T) Int → T × Int
  | .inr e=>(t0,e)
  | .inl L=>(tList (if nm = (ln:Int) then L ++ [x] else L),0)
theorem wiT_listR {x:T} {q:Int × ByteArray} {p:List (Int × ByteArray)} {n:Int} {s:ByteArray} {ln:Nat} {l:Nat → T} {dn:Nat} {ky:Nat → ByteArray} {dv:Nat → T}:wiT x (q :: p) (.mk 3 n s ln l dn ky dv) = (if q.1 < 0 ∨ (ln:Int) < q.1 ∨ (q.1 = (ln:Int)∧p.isEmpty = false) then (t0,30) else wlR x q.1 ln (lG q.1 (wiT x p) l ln)):=by
  rw [wiT_list]
  split
  · rfl
  · cases lG q.1 (wiT x p) l ln <;> rfl
def wdR (x:T) (key:ByteArray) (em:Bool):Sum (List (ByteArray × T) × Bool) Int → T × Int
  | .inr e=>(t0,e)
  | .inl (L,d)=>if d = true then (tDict L,0) else if em = true then (tDict (L ++ [(key,x)]),0) else (t0,30)
theorem wiT_dictR {x:T} {q:Int × ByteArray} {p:List (Int × ByteArray)} {n:Int} {s:ByteArray} {ln:Nat} {l:Nat → T} {dn:Nat} {ky:Nat → ByteArray} {dv:Nat → T}:wiT x (q :: p) (.mk 4 n s ln l dn ky dv) = wdR x q.2 p.isEmpty (dG q.2 p.isEmpty (wiT x p) x ky dv dn):=by
  rw [wiT_dict]
  cases dG q.2 p.isEmpty (wiT x p) x ky dv dn with
  | inr e=>rfl
  | inl r=>rfl
def WIC (f:Nat) (x:T) (p:List (Int × ByteArray)) (t:T):Prop:=∀ (A:Nat) (x1 y1 x2 y2:Value) (w:World) (pa:Option Addr) (pc:Nat),A ≤ w.heap.size → PSA A w (.slice pa p.length pc) p → p.length ≤ pc → p.length ≤ 140737488351232 → RV (fun b=>b < A) w t x1 y1 → t.small → RV (fun b=>b < A) w x x2 y2 →
  Calls Tryz.prog f #[vv t x1 y1,.slice pa p.length pc,vv x x2 y2] w fun e w'=>∃ x' y',e = .returned (.tuple #[vv (wiT x p t).1 x' y',.int .i64 (wiT x p t).2])∧RV (fun b=>b < A ∨ w.heap.size ≤ b) w' (wiT x p t).1 x' y'∧Below w.heap.size w w'
def PSP (b v:List UInt8) (p:List (Int × ByteArray)) (w:World) (val:Value) (er:Int):Prop:=
  ∃ t k e0,DOUT b t k e0∧((e0 ≠ 0∧er = e0∧val = .slice none 0 0) ∨ (e0 = 0∧∃ t2 k2 e2,DOUT v t2 k2 e2∧((e2 ≠ 0∧er = 33∧val = .slice none 0 0) ∨ (e2 = 0∧(((wiT t2 p t).2 ≠ 0∧er = (wiT t2 p t).2∧val = .slice none 0 0) ∨ ((wiT t2 p t).2 = 0 ∧
    ((¬ (wk (wiT t2 p t).1 0 = 0∧(txt (wiT t2 p t).1).length ≤ 1048576)∧er = 34∧val = .slice none 0 0) ∨ ((wk (wiT t2 p t).1 0 = 0∧(txt (wiT t2 p t).1).length ≤ 1048576)∧er = 0∧∃ B,OW B w val (txt (wiT t2 p t).1)))))))))
def AWI:Prop:=∀ (x:T) (p:List (Int × ByteArray)) (t:T),WIC 23 x p t
set_option maxRecDepth 10000 in
set_option maxHeartbeats 2000000 in
theorem put8 (HWI:Hid AWI) (a va:Option Addr) (c vc:Nat) (b v:List UInt8) (w:World) (pa:Option Addr) (pc:Nat) (p:List (Int × ByteArray)) (hr:RB w (.slice a b.length c) b) (hrv:RB w (.slice va v.length vc) v) (hl0:b.length ≤ 140737488351232) (hl1:v.length ≤ 140737488351232) (hT:TB w.heap.size w) (hP:PSA w.heap.size w (.slice pa p.length pc) p) (hpc:p.length ≤ pc) (hp:p.length ≤ 140737488351232) (hks:∀ q ∈ p,q.2.size ≤ 10000000000000) :
    Calls Tryz.prog 8 #[.slice a b.length c,.slice pa p.length pc,.slice va v.length vc] w fun e w'=>∃ v' er,e = .returned (.tuple #[v',.int .i64 er])∧PSP b v p w' v' er∧Below w.heap.size w w':=by
  have HR:=Lib.hid (And.intro hr (And.intro hT (And.intro hP hrv)))
  have HK:=Lib.hid hks
  clear hr hT hP hrv hks
  go_enter Tryz.func8,Tryz.ntmps8
  go_wp2_with fail
  refine (decode11 _ b w HR.out.1 hl0).mono ?_
  rintro e w1 ⟨t,x,y,k,e0,rfl,hrv,hd,hb1⟩
  obtain ⟨⟨xa,xn,xc,rfl⟩,⟨ya,yn,yc,rfl⟩⟩:=hrv.slices
  have H1:Hid (RV (fun _=>True) w1 t (.slice xa xn xc) (.slice ya yn yc)∧DOUT b t k e0∧Below w.heap.size w w1∧Below w1.heap.size w1 (w1.alloc (Obj.cells #[.int .i64 t.k,.int .i64 t.n,.string t.s,.slice xa xn xc,.slice ya yn yc] 55))∧obj (w1.alloc (Obj.cells #[.int .i64 t.k,.int .i64 t.n,.string t.s,.slice xa xn xc,.slice ya yn yc] 55)) w1.heap.size (.int .i64 t.k) (.int .i64 t.n) (.string t.s) (.slice xa xn xc) (.slice ya yn yc)):=⟨hrv,hd,hb1,(Below.refl _ _).alloc (Nat.le_refl _) _,heap_new _ _⟩
  clear hrv hd hb1
  unfold vv
  by_cases he:e0 = 0
  case neg =>
    have he':(e0 != 0) = true:=by simpa using he
    have HE:Hid (∀ w',PSP b v p w' (.slice none 0 0) e0):=fun w'=>⟨t,k,e0,H1.out.2.1,.inl ⟨he,rfl,rfl⟩⟩
    have HB:Hid (Below w.heap.size w (w1.alloc (Obj.cells #[.int .i64 t.k,.int .i64 t.n,.string t.s,.slice xa xn xc,.slice ya yn yc] 55))):=H1.out.2.2.1.trans (H1.out.2.2.2.1.mono H1.out.2.2.1.size)
    clear H1
    go_wp2
    go_ret2
    exact ⟨_,_,rfl,HE.out _,HB.out⟩
  subst he
  have HB:Hid (Below w.heap.size w (w1.alloc (Obj.cells #[.int .i64 t.k,.int .i64 t.n,.string t.s,.slice xa xn xc,.slice ya yn yc] 55))):=H1.out.2.2.1.trans (H1.out.2.2.2.1.mono H1.out.2.2.1.size)
  go_wp2_with fail
  refine (decode11 _ v (w1.alloc (Obj.cells #[.int .i64 t.k,.int .i64 t.n,.string t.s,.slice xa xn xc,.slice ya yn yc] 55)) (HR.out.2.2.2.keep HB.out) hl1).mono ?_
  rintro e w2 ⟨t2,x2,y2,k2,e2,rfl,hrv2,hd2,hb2⟩
  obtain ⟨⟨xa2,xn2,xc2,rfl⟩,⟨ya2,yn2,yc2,rfl⟩⟩:=hrv2.slices
  have b2:Below w2.heap.size w2 (w2.alloc (Obj.cells #[.int .i64 t2.k,.int .i64 t2.n,.string t2.s,.slice xa2 xn2 xc2,.slice ya2 yn2 yc2] 55)):=(Below.refl _ _).alloc (Nat.le_refl _) _
  have o2:obj (w2.alloc (Obj.cells #[.int .i64 t2.k,.int .i64 t2.n,.string t2.s,.slice xa2 xn2 xc2,.slice ya2 yn2 yc2] 55)) w2.heap.size (.int .i64 t2.k) (.int .i64 t2.n) (.string t2.s) (.slice xa2 xn2 xc2) (.slice ya2 yn2 yc2):=heap_new _ _
  have bA:Below w1.heap.size w1 (w2.alloc (Obj.cells #[.int .i64 t2.k,.int .i64 t2.n,.string t2.s,.slice xa2 xn2 xc2,.slice ya2 yn2 yc2] 55)):=by
    have h1:=H1.out.2.2.2.1
    exact h1.trans ((hb2.trans (b2.mono hb2.size)).mono h1.size)
  have H2:Hid (DOUT b t k 0∧DOUT v t2 k2 e2∧Below w.heap.size w (w2.alloc (Obj.cells #[.int .i64 t2.k,.int .i64 t2.n,.string t2.s,.slice xa2 xn2 xc2,.slice ya2 yn2 yc2] 55))∧RV (fun b=>b < (w2.alloc (Obj.cells #[.int .i64 t2.k,.int .i64 t2.n,.string t2.s,.slice xa2 xn2 xc2,.slice ya2 yn2 yc2] 55)).heap.size) (w2.alloc (Obj.cells #[.int .i64 t2.k,.int .i64 t2.n,.string t2.s,.slice xa2 xn2 xc2,.slice ya2 yn2 yc2] 55)) t (.slice xa xn xc) (.slice ya yn yc)∧RV (fun b=>b < (w2.alloc (Obj.cells #[.int .i64 t2.k,.int .i64 t2.n,.string t2.s,.slice xa2 xn2 xc2,.slice ya2 yn2 yc2] 55)).heap.size) (w2.alloc (Obj.cells #[.int .i64 t2.k,.int .i64 t2.n,.string t2.s,.slice xa2 xn2 xc2,.slice ya2 yn2 yc2] 55)) t2 (.slice xa2 xn2 xc2) (.slice ya2 yn2 yc2)∧obj (w2.alloc (Obj.cells #[.int .i64 t2.k,.int .i64 t2.n,.string t2.s,.slice xa2 xn2 xc2,.slice ya2 yn2 yc2] 55)) w1.heap.size (.int .i64 t.k) (.int .i64 t.n) (.string t.s) (.slice xa xn xc) (.slice ya yn yc)∧obj (w2.alloc (Obj.cells #[.int .i64 t2.k,.int .i64 t2.n,.string t2.s,.slice xa2 xn2 xc2,.slice ya2 yn2 yc2] 55)) w2.heap.size (.int .i64 t2.k) (.int .i64 t2.n) (.string t2.s) (.slice xa2 xn2 xc2) (.slice ya2 yn2 yc2)):=by
    obtain ⟨q1,q2,q3,q4,q5⟩:=H1.out
    refine ⟨q2,hd2,q3.trans (bA.mono q3.size),RV.move (fun _ _ hl=>Nat.lt_of_lt_of_le hl bA.size) bA.size (fun b _ hl=>bA.block b hl) _ _ _ q1,RV.move (fun _ _ hl=>Nat.lt_of_lt_of_le hl b2.size) b2.size (fun b _ hl=>b2.block b hl) _ _ _ hrv2,?_,o2⟩
    have h5:=hb2.trans (b2.mono hb2.size)
    exact q5.keep (h5.block _ q5.lt)
  clear hrv2 hd2 hb2 b2 o2 bA H1 HB
  unfold vv
  generalize w1.heap.size = Vb at *
  by_cases he:e2 = 0
  case neg =>
    have he':(e2 != 0) = true:=by simpa using he
    have HE:Hid (∀ w',PSP b v p w' (.slice none 0 0) 33):=fun w'=>⟨t,k,0,H2.out.1,.inr ⟨rfl,t2,k2,e2,H2.out.2.1,.inl ⟨he,rfl,rfl⟩⟩⟩
    have HB:Hid (Below w.heap.size w (w2.alloc (Obj.cells #[.int .i64 t2.k,.int .i64 t2.n,.string t2.s,.slice xa2 xn2 xc2,.slice ya2 yn2 yc2] 55))):=H2.out.2.2.1
    clear H2
    go_wp2
    go_ret2
    exact ⟨_,_,rfl,HE.out _,HB.out⟩
  subst he
  obtain ⟨c0,c1,c2,c3,c4⟩:=H2.out.2.2.2.2.2.1.cells
  obtain ⟨d0,d1,d2,d3,d4⟩:=H2.out.2.2.2.2.2.2.cells
  have HC:Hid (WIC 23 t2 p t):=HWI.out t2 p t
  have HD1:=Lib.hid (dout_nrm H2.out.1).2
  have HD2:=Lib.hid (dout_nrm H2.out.2.1).2
  go_wp2_with fail
  generalize (w2.alloc (Obj.cells #[.int .i64 t2.k,.int .i64 t2.n,.string t2.s,.slice xa2 xn2 xc2,.slice ya2 yn2 yc2] 55)) = W2 at *
  generalize w2.heap.size = Xb at *
  refine (HC.out W2.heap.size _ _ _ _ W2 pa pc (Nat.le_refl _) (HR.out.2.2.1.on H2.out.2.2.1) hpc hp H2.out.2.2.2.1 HD1.out.small H2.out.2.2.2.2.1).mono ?_
  rintro e w3 ⟨x3,y3,rfl,hr3,hb3⟩
  obtain ⟨⟨xa3,xn3,xc3,rfl⟩,⟨ya3,yn3,yc3,rfl⟩⟩:=hr3.slices
  have H3:Hid (DOUT b t k 0∧DOUT v t2 k2 0∧RV (fun _=>True) w3 (wiT t2 p t).1 (.slice xa3 xn3 xc3) (.slice ya3 yn3 yc3)∧Below w.heap.size w w3):=⟨H2.out.1,H2.out.2.1,RV.move (fun _ _ _=>trivial) (Nat.le_refl _) (fun _ _ _=>rfl) _ _ _ hr3,H2.out.2.2.1.trans (hb3.mono H2.out.2.2.1.size)⟩
  have HG:Hid ((wiT t2 p t).2 = 0 → Pd (wiT t2 p t).1∧(txt (wiT t2 p t).1).length ≤ 80000000000000):=fun hz=>by
    have l1:=(dout_txt H2.out.1).2.2
    have l2:=(dout_txt H2.out.2.1).2.2
    rw [(dout_txt H2.out.1).1] at l1
    rw [(dout_txt H2.out.2.1).1] at l2
    obtain ⟨g1,g2⟩:=wi_good HD2.out p t HD1.out HK.out l1 hz
    exact ⟨g1,by omega⟩
  have HP:Hid (∀ w' val er,(((wiT t2 p t).2 ≠ 0∧er = (wiT t2 p t).2∧val = .slice none 0 0) ∨ ((wiT t2 p t).2 = 0 ∧
    ((¬ (wk (wiT t2 p t).1 0 = 0∧(txt (wiT t2 p t).1).length ≤ 1048576)∧er = 34∧val = .slice none 0 0) ∨ ((wk (wiT t2 p t).1 0 = 0∧(txt (wiT t2 p t).1).length ≤ 1048576)∧er = 0∧∃ B,OW B w' val (txt (wiT t2 p t).1))))) → PSP b v p w' val er):=fun w' val er h=>⟨t,k,0,H3.out.1,.inr ⟨rfl,t2,k2,0,H3.out.2.1,.inr ⟨rfl,h⟩⟩⟩
  have H4:Hid (RV (fun _=>True) w3 (wiT t2 p t).1 (.slice xa3 xn3 xc3) (.slice ya3 yn3 yc3)∧Below w.heap.size w w3):=H3.out.2.2
  clear hr3 hb3 c0 c1 c2 c3 c4 d0 d1 d2 d3 d4 H2 H3 HC HD1 HD2
  unfold vv
  generalize wiT t2 p t = R at *
  obtain ⟨Y,E⟩:=R
  dsimp only at *
  have HO:Hid (obj (w3.alloc (Obj.cells #[.int .i64 Y.k,.int .i64 Y.n,.string Y.s,.slice xa3 xn3 xc3,.slice ya3 yn3 yc3] 55)) w3.heap.size (.int .i64 Y.k) (.int .i64 Y.n) (.string Y.s) (.slice xa3 xn3 xc3) (.slice ya3 yn3 yc3)∧Below w.heap.size w (w3.alloc (Obj.cells #[.int .i64 Y.k,.int .i64 Y.n,.string Y.s,.slice xa3 xn3 xc3,.slice ya3 yn3 yc3] 55))∧RV (fun _=>True) (w3.alloc (Obj.cells #[.int .i64 Y.k,.int .i64 Y.n,.string Y.s,.slice xa3 xn3 xc3,.slice ya3 yn3 yc3] 55)) Y (.slice xa3 xn3 xc3) (.slice ya3 yn3 yc3)):=⟨heap_new _ _,H4.out.2.alloc H4.out.2.size _,Below.rv ((Below.refl _ _).alloc (Nat.le_refl _) _) (Nat.le_refl _) H4.out.1⟩
  clear H4
  by_cases he:E = 0
  case neg =>
    have he':(E != 0) = true:=by simpa using he
    have HE:Hid (∀ w',PSP b v p w' (.slice none 0 0) E):=fun w'=>HP.out w' _ _ (.inl ⟨he,rfl,rfl⟩)
    clear HP HG
    go_wp2
    go_ret2
    exact ⟨_,_,rfl,HE.out _,HO.out.2.1⟩
  subst he
  obtain ⟨c0,c1,c2,c3,c4⟩:=HO.out.1.cells
  obtain ⟨g1,g2⟩:=HG.out rfl
  have HP1:=Lib.hid g1
  clear g1
  go_wp2_with fail
  generalize (w3.alloc (Obj.cells #[.int .i64 Y.k,.int .i64 Y.n,.string Y.s,.slice xa3 xn3 xc3,.slice ya3 yn3 yc3] 55)) = W3 at *
  refine (encode8 Y _ _ W3 HP1.out.ok HP1.out.rng g2 (tb_up (HR.out.2.1.on HO.out.2.1) HO.out.2.1.size) HO.out.2.2).mono ?_
  rintro e w4 ⟨v4,er4,rfl,B4,l4,ho4,he4,hl4,hb4⟩
  have HBB:Hid (Below w.heap.size w w4):=HO.out.2.1.trans (hb4.mono HO.out.2.1.size)
  obtain ⟨a4,c4',rfl⟩:=ow_slice ho4
  clear c0 c1 c2 c3 c4 HO HG hb4 g2
  by_cases hG:wk Y 0 = 0∧(txt Y).length ≤ 1048576
  · have hz:er4 = 0:=by rw [he4,if_pos hG.1,if_neg (by omega)]
    rw [if_pos hG] at hl4
    subst hz hl4
    have HE:Hid (PSP b v p w4 (.slice a4 (txt Y).length c4') 0):=HP.out _ _ _ (.inr ⟨by first | rfl | trivial,.inr ⟨hG,rfl,B4,ho4⟩⟩)
    clear ho4 he4 HP hG
    go_wp2
    go_ret2
    exact ⟨_,_,rfl,HE.out,HBB.out⟩
  · have hz:er4 ≠ 0:=by
      rw [he4]
      by_cases h0:wk Y 0 = 0
      · rw [if_pos h0,if_pos (by have:¬ (txt Y).length ≤ 1048576:=fun h=>hG ⟨h0,h⟩; omega)]; decide
      · rw [if_neg h0]; exact h0
    have hz':(er4 != 0) = true:=by simpa using hz
    have HE:Hid (∀ w',PSP b v p w' (.slice none 0 0) 34):=fun w'=>HP.out w' _ _ (.inr ⟨by first | rfl | trivial,.inl ⟨hG,rfl,rfl⟩⟩)
    clear ho4 he4 hl4 HP hG
    go_wp2
    go_ret2
    exact ⟨_,_,rfl,HE.out _,HBB.out⟩
end Go.Proofs.YtdlnnnlmlaploabGreatDoor
