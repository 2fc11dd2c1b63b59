import Derived.Test.YtdlnnnlmlaploabGreatDoorK22
namespace Go.Proofs.YtdlnnnlmlaploabGreatDoor
open Go.RowKit Go.Deep
theorem kids_mono {g:Nat → Nat → List Sp}:∀ {n i:Nat},i ≤ n → (kids g i).length ≤ (kids g n).length
  | 0, i, h => by obtain rfl : i = 0 := by omega
                  exact Nat.le_refl _
  | n + 1,i,h=>by
    by_cases e:i = n + 1
    · subst e; exact Nat.le_refl _
    · refine Nat.le_trans (kids_mono (n:=n) (i:=i) (by omega)) ?_
      show _ ≤ (kids g n ++ g n _).length
      rw [List.length_append]
      omega
theorem kids_at {g:Nat → Nat → List Sp}:∀ {n q:Nat} {y:Sp},(kids g n)[q]? = some y → ∃ i q',i < n∧q = (kids g i).length + q'∧(g i (kids g i).length)[q']? = some y
  | 0,q,y,h=>by simp [kids] at h
  | n + 1,q,y,h=>by
    have h':(kids g n ++ g n (kids g n).length)[q]? = some y:=h
    by_cases hq:q < (kids g n).length
    · rw [List.getElem?_append_left hq] at h'
      obtain ⟨i,q',h1,h2,h3⟩:=kids_at h'
      exact ⟨i,q',by omega,h2,h3⟩
    · rw [List.getElem?_append_right (by omega)] at h'
      exact ⟨n,q - (kids g n).length,by omega,by omega,h'⟩
theorem kids_mem {g:Nat → Nat → List Sp} {n:Nat} {y:Sp} (h:y ∈ kids g n):∃ i,i < n∧y ∈ g i (kids g i).length∧(kids g i).length + (g i (kids g i).length).length ≤ (kids g n).length:=by
  obtain ⟨q,hq⟩:=List.getElem?_of_mem h
  obtain ⟨i,q',h1,_,h3⟩:=kids_at hq
  refine ⟨i,h1,List.mem_of_getElem? h3,?_⟩
  have:=kids_mono (g:=g) (n:=n) (i:=i + 1) (by omega)
  have e:(kids g (i + 1)).length = (kids g i).length + (g i (kids g i).length).length:=by show (kids g i ++ g i _).length = _; rw [List.length_append]
  omega
theorem kids_split {g:Nat → Nat → List Sp} {n i:Nat} (h:i < n):∃ R,kids g n = kids g i ++ g i (kids g i).length ++ R∧∀ y ∈ R, ∃ j,i < j∧j < n∧y ∈ g j (kids g j).length∧(kids g (i + 1)).length ≤ (kids g j).length:=by
  induction n with
  | zero=>omega
  | succ n ih =>
    by_cases e:i = n
    · subst e
      exact ⟨[],by rw [List.append_nil]; rfl,fun y hy=>by cases hy⟩
    · obtain ⟨R,h1,h2⟩:=ih (by omega)
      refine ⟨R ++ g n (kids g n).length,?_,fun y hy=>?_⟩
      · show kids g n ++ g n _ = _
        rw [← List.append_assoc, ← h1]
      · rcases List.mem_append.1 hy with hy | hy
        · obtain ⟨j,a,b,c,d⟩:=h2 y hy
          exact ⟨j,a,by omega,c,d⟩
        · exact ⟨n,by omega,by omega,hy,kids_mono (by omega)⟩
abbrev gL (l:Nat → T) (here:Nat) (sp:Sp) (i m:Nat):List Sp:=walkT (l i) (here + 1 + m) { fr:=sp.fr + 1 + (catN (fun i=>txt (l i)) i).length,dep:=sp.dep + 1,up:=here,nth:=i }
abbrev gD (l:Nat → T) (ln:Nat) (ky:Nat → ByteArray) (dv:Nat → T) (here:Nat) (sp:Sp) (i m:Nat):List Sp:=walkT (dv i) (here + 1 + (kids (gL l here sp) ln).length + m) { fr:=sp.fr + 1 + (catN (fun i=>txt (l i)) ln).length + (catN (fun i=>wtx (ky i) ++ txt (dv i)) i).length + (wtx (ky i)).length,dep:=sp.dep + 1,up:=here,nth:=i,key:=ky i }
theorem walkT_mk (k n:Int) (s:ByteArray) (ln:Nat) (l:Nat → T) (dn:Nat) (ky:Nat → ByteArray) (dv:Nat → T) (here:Nat) (sp:Sp) :
    walkT (.mk k n s ln l dn ky dv) here sp = { sp with kind:=k,to:=sp.fr + (txt (.mk k n s ln l dn ky dv)).length } :: (kids (gL l here sp) ln ++ kids (gD l ln ky dv here sp) dn):=rfl
theorem walk_up:∀ (t:T) (here:Nat) (sp:Sp) (q:Nat) (y:Sp),(walkT t here sp)[q]? = some y → q = 0 ∨ ((here:Int) ≤ y.up∧y.up < ((here + (walkT t here sp).length:Nat):Int)∧(y.up = (here:Int) ∨ ((here:Int) < y.up))):=by
  intro t
  induction t with
  | no=>intro here sp q y h; simp [walkT] at h
  | mk k n s ln l dn ky dv il id =>
    intro here sp q y h
    rw [walkT_mk] at h ⊢
    cases q with
    | zero=>exact .inl rfl
    | succ q =>
      refine .inr ?_
      rw [List.getElem?_cons_succ] at h
      rw [List.length_cons,List.length_append]
      by_cases hq:q < (kids (gL l here sp) ln).length
      · rw [List.getElem?_append_left hq] at h
        obtain ⟨i,q',h1,h2,h3⟩:=kids_at h
        have hm:=kids_mono (g:=gL l here sp) (n:=ln) (i:=i + 1) (by omega)
        have e:(kids (gL l here sp) (i + 1)).length = (kids (gL l here sp) i).length + (gL l here sp i (kids (gL l here sp) i).length).length:=by show (kids (gL l here sp) i ++ gL l here sp i _).length = _; rw [List.length_append]
        rcases il i _ _ q' y h3 with rfl | ⟨a1,a2,_⟩
        · have hy:y.up = (here:Int):=by
            cases hli:l i with
            | no=>unfold gL at h3; rw [hli] at h3; simp [walkT] at h3
            | mk k2 n2 s2 ln2 l2 dn2 ky2 dv2 =>
              unfold gL at h3
              rw [hli,walkT_mk] at h3
              simp only [List.getElem?_cons_zero,Option.some.injEq] at h3
              rw [← h3]
          rw [hy]
          exact ⟨Int.le_refl _,by omega,.inl rfl⟩
        · refine ⟨by omega,?_,.inr (by omega)⟩
          have a3:y.up < ((here + 1 + (kids (gL l here sp) i).length + (gL l here sp i (kids (gL l here sp) i).length).length:Nat):Int):=a2
          omega
      · rw [List.getElem?_append_right (by omega)] at h
        obtain ⟨i,q',h1,h2,h3⟩:=kids_at h
        have hm:=kids_mono (g:=gD l ln ky dv here sp) (n:=dn) (i:=i + 1) (by omega)
        have e:(kids (gD l ln ky dv here sp) (i + 1)).length = (kids (gD l ln ky dv here sp) i).length + (gD l ln ky dv here sp i (kids (gD l ln ky dv here sp) i).length).length:=by show (kids (gD l ln ky dv here sp) i ++ gD l ln ky dv here sp i _).length = _; rw [List.length_append]
        rcases id i _ _ q' y h3 with rfl | ⟨a1,a2,_⟩
        · have hy:y.up = (here:Int):=by
            cases hli:dv i with
            | no=>unfold gD at h3; rw [hli] at h3; simp [walkT] at h3
            | mk k2 n2 s2 ln2 l2 dn2 ky2 dv2 =>
              unfold gD at h3
              rw [hli,walkT_mk] at h3
              simp only [List.getElem?_cons_zero,Option.some.injEq] at h3
              rw [← h3]
          rw [hy]
          exact ⟨Int.le_refl _,by omega,.inl rfl⟩
        · refine ⟨by omega,?_,.inr (by omega)⟩
          have a3:y.up < ((here + 1 + (kids (gL l here sp) ln).length + (kids (gD l ln ky dv here sp) i).length + (gD l ln ky dv here sp i (kids (gD l ln ky dv here sp) i).length).length:Nat):Int):=a2
          omega
def Seg (L:List Sp) (r:Nat) (u:T) (sp:Sp):Prop:=
  ∃ X Y,L = X ++ walkT u r sp ++ Y∧X.length = r∧∀ y ∈ Y,y.up < (r:Int) ∨ ((r + (walkT u r sp).length:Nat):Int) ≤ y.up
theorem seg_root (t:T) (sp:Sp):Seg (walkT t 0 sp) 0 t sp:=⟨[], [],by simp,rfl,fun y hy=>by cases hy⟩
theorem seg_at {L:List Sp} {r:Nat} {k n:Int} {s:ByteArray} {ln:Nat} {l:Nat → T} {dn:Nat} {ky:Nat → ByteArray} {dv:Nat → T} {sp:Sp} (h:Seg L r (.mk k n s ln l dn ky dv) sp):L[r]? = some { sp with kind:=k,to:=sp.fr + (txt (.mk k n s ln l dn ky dv)).length }:=by
  obtain ⟨X,Y,h1,h2,_⟩:=h
  rw [h1,walkT_mk,List.append_assoc,List.getElem?_append_right (by omega),h2,Nat.sub_self]
  rfl
theorem seg_list {L:List Sp} {r:Nat} {k n:Int} {s:ByteArray} {ln:Nat} {l:Nat → T} {dn:Nat} {ky:Nat → ByteArray} {dv:Nat → T} {sp:Sp} (h:Seg L r (.mk k n s ln l dn ky dv) sp) {i:Nat} (hi:i < ln) :
    Seg L (r + 1 + (kids (gL l r sp) i).length) (l i) { fr:=sp.fr + 1 + (catN (fun i=>txt (l i)) i).length,dep:=sp.dep + 1,up:=r,nth:=i }:=by
  obtain ⟨X,Y,h1,h2,h3⟩:=h
  obtain ⟨R,hR,hR2⟩:=kids_split (g:=gL l r sp) hi
  refine ⟨X ++ ({ sp with kind:=k,to:=sp.fr + (txt (.mk k n s ln l dn ky dv)).length } :: kids (gL l r sp) i),R ++ kids (gD l ln ky dv r sp) dn ++ Y,?_,?_,?_⟩
  · rw [h1,walkT_mk,hR]
    simp [List.append_assoc]
  · rw [List.length_append,List.length_cons,h2]; omega
  · intro y hy
    have e1:(kids (gL l r sp) (i + 1)).length = (kids (gL l r sp) i).length + (gL l r sp i (kids (gL l r sp) i).length).length:=by show (kids (gL l r sp) i ++ gL l r sp i _).length = _; rw [List.length_append]
    have eW:(walkT (.mk k n s ln l dn ky dv) r sp).length = 1 + (kids (gL l r sp) ln).length + (kids (gD l ln ky dv r sp) dn).length:=by rw [walkT_mk,List.length_cons,List.length_append]; omega
    have hm1:=kids_mono (g:=gL l r sp) (n:=ln) (i:=i + 1) (by omega)
    show _ ∨ ((r + 1 + (kids (gL l r sp) i).length + (gL l r sp i (kids (gL l r sp) i).length).length:Nat):Int) ≤ y.up
    rcases List.mem_append.1 hy with hy | hy
    · rcases List.mem_append.1 hy with hy | hy
      · obtain ⟨j,j1,j2,j3,j4⟩:=hR2 y hy
        obtain ⟨q,hq⟩:=List.getElem?_of_mem j3
        rcases walk_up (l j) _ _ q y hq with rfl | ⟨a1,_,_⟩
        · left
          cases hli:l j with
          | no=>unfold gL at hq; rw [hli] at hq; simp [walkT] at hq
          | mk k2 n2 s2 ln2 l2 dn2 ky2 dv2 =>
            unfold gL at hq
            rw [hli,walkT_mk] at hq
            simp only [List.getElem?_cons_zero,Option.some.injEq] at hq
            rw [← hq]
            show (r:Int) < _
            omega
        · right; omega
      · obtain ⟨j,j1,j3,j4⟩:=kids_mem hy
        obtain ⟨q,hq⟩:=List.getElem?_of_mem j3
        rcases walk_up (dv j) _ _ q y hq with rfl | ⟨a1,_,_⟩
        · left
          cases hli:dv j with
          | no=>unfold gD at hq; rw [hli] at hq; simp [walkT] at hq
          | mk k2 n2 s2 ln2 l2 dn2 ky2 dv2 =>
            unfold gD at hq
            rw [hli,walkT_mk] at hq
            simp only [List.getElem?_cons_zero,Option.some.injEq] at hq
            rw [← hq]
            show (r:Int) < _
            omega
        · right; omega
    · rcases h3 y hy with h | h
      · left; omega
      · right; rw [eW] at h; omega
theorem seg_dict {L:List Sp} {r:Nat} {k n:Int} {s:ByteArray} {ln:Nat} {l:Nat → T} {dn:Nat} {ky:Nat → ByteArray} {dv:Nat → T} {sp:Sp} (h:Seg L r (.mk k n s ln l dn ky dv) sp) {i:Nat} (hi:i < dn) :
    Seg L (r + 1 + (kids (gL l r sp) ln).length + (kids (gD l ln ky dv r sp) i).length) (dv i) { fr:=sp.fr + 1 + (catN (fun i=>txt (l i)) ln).length + (catN (fun i=>wtx (ky i) ++ txt (dv i)) i).length + (wtx (ky i)).length,dep:=sp.dep + 1,up:=r,nth:=i,key:=ky i }:=by
  obtain ⟨X,Y,h1,h2,h3⟩:=h
  obtain ⟨R,hR,hR2⟩:=kids_split (g:=gD l ln ky dv r sp) hi
  refine ⟨X ++ ({ sp with kind:=k,to:=sp.fr + (txt (.mk k n s ln l dn ky dv)).length } :: (kids (gL l r sp) ln ++ kids (gD l ln ky dv r sp) i)),R ++ Y,?_,?_,?_⟩
  · rw [h1,walkT_mk,hR]
    simp [List.append_assoc]
  · rw [List.length_append,List.length_cons,List.length_append,h2]; omega
  · intro y hy
    have e1:(kids (gD l ln ky dv r sp) (i + 1)).length = (kids (gD l ln ky dv r sp) i).length + (gD l ln ky dv r sp i (kids (gD l ln ky dv r sp) i).length).length:=by show (kids (gD l ln ky dv r sp) i ++ gD l ln ky dv r sp i _).length = _; rw [List.length_append]
    have eW:(walkT (.mk k n s ln l dn ky dv) r sp).length = 1 + (kids (gL l r sp) ln).length + (kids (gD l ln ky dv r sp) dn).length:=by rw [walkT_mk,List.length_cons,List.length_append]; omega
    have hm1:=kids_mono (g:=gD l ln ky dv r sp) (n:=dn) (i:=i + 1) (by omega)
    show _ ∨ ((r + 1 + (kids (gL l r sp) ln).length + (kids (gD l ln ky dv r sp) i).length + (gD l ln ky dv r sp i (kids (gD l ln ky dv r sp) i).length).length:Nat):Int) ≤ y.up
    rcases List.mem_append.1 hy with hy | hy
    · obtain ⟨j,j1,j2,j3,j4⟩:=hR2 y hy
      obtain ⟨q,hq⟩:=List.getElem?_of_mem j3
      rcases walk_up (dv j) _ _ q y hq with rfl | ⟨a1,_,_⟩
      · left
        cases hli:dv j with
        | no=>unfold gD at hq; rw [hli] at hq; simp [walkT] at hq
        | mk k2 n2 s2 ln2 l2 dn2 ky2 dv2 =>
          unfold gD at hq
          rw [hli,walkT_mk] at hq
          simp only [List.getElem?_cons_zero,Option.some.injEq] at hq
          rw [← hq]
          show (r:Int) < _
          omega
      · right; omega
    · rcases h3 y hy with h | h
      · left; omega
      · right; rw [eW] at h; omega
theorem seg_kid {L:List Sp} {r:Nat} {k n:Int} {s:ByteArray} {ln:Nat} {l:Nat → T} {dn:Nat} {ky:Nat → ByteArray} {dv:Nat → T} {sp:Sp} (h:Seg L r (.mk k n s ln l dn ky dv) sp) {j:Nat} {y:Sp} (hj:r < j) (hy:L[j]? = some y) (hu:y.up = (r:Int)) :
    (∃ i,i < ln∧j = r + 1 + (kids (gL l r sp) i).length∧y.nth = i∧y.key = ByteArray.empty) ∨ (∃ i,i < dn∧j = r + 1 + (kids (gL l r sp) ln).length + (kids (gD l ln ky dv r sp) i).length∧y.nth = i∧y.key = ky i):=by
  obtain ⟨X,Y,h1,h2,h3⟩:=h
  rw [h1,walkT_mk,List.append_assoc,List.getElem?_append_right (by omega),h2] at hy
  obtain ⟨q,hq⟩:∃ q,j - r = q + 1:=⟨j - r - 1,by omega⟩
  rw [hq,List.cons_append,List.getElem?_cons_succ,List.append_assoc] at hy
  by_cases c1:q < (kids (gL l r sp) ln).length
  · rw [List.getElem?_append_left c1] at hy
    obtain ⟨i,q',g1,g2,g3⟩:=kids_at hy
    rcases walk_up (l i) _ _ q' y g3 with rfl | ⟨a1,_,_⟩
    · refine .inl ⟨i,g1,by omega,?_⟩
      cases hli:l i with
      | no=>unfold gL at g3; rw [hli] at g3; simp [walkT] at g3
      | mk k2 n2 s2 ln2 l2 dn2 ky2 dv2 =>
        unfold gL at g3
        rw [hli,walkT_mk] at g3
        simp only [List.getElem?_cons_zero,Option.some.injEq] at g3
        rw [← g3]
        exact ⟨rfl,rfl⟩
    · omega
  · rw [List.getElem?_append_right (by omega)] at hy
    by_cases c2:q - (kids (gL l r sp) ln).length < (kids (gD l ln ky dv r sp) dn).length
    · rw [List.getElem?_append_left c2] at hy
      obtain ⟨i,q',g1,g2,g3⟩:=kids_at hy
      rcases walk_up (dv i) _ _ q' y g3 with rfl | ⟨a1,_,_⟩
      · refine .inr ⟨i,g1,by omega,?_⟩
        cases hli:dv i with
        | no=>unfold gD at g3; rw [hli] at g3; simp [walkT] at g3
        | mk k2 n2 s2 ln2 l2 dn2 ky2 dv2 =>
          unfold gD at g3
          rw [hli,walkT_mk] at g3
          simp only [List.getElem?_cons_zero,Option.some.injEq] at g3
          rw [← g3]
          exact ⟨rfl,rfl⟩
      · omega
    · rw [List.getElem?_append_right (by omega)] at hy
      have:=h3 y (List.mem_of_getElem? hy)
      rw [walkT_mk,List.length_cons,List.length_append] at this
      omega
inductive Desc:T → Nat → Nat → List (Int × ByteArray) → T → Nat → Nat → Prop where
  | here {t:T} {fr fi:Nat}:Desc t fr fi [] t fr fi
  | list {n:Int} {s:ByteArray} {ln:Nat} {l:Nat → T} {dn:Nat} {ky:Nat → ByteArray} {dv:Nat → T} {fr fi i:Nat} {nm:Int} {key:ByteArray} {p:List (Int × ByteArray)} {u:T} {fr' fi':Nat}:i < ln → nm = (i:Int) → Desc (l i) (fr + 1 + (catN (fun i=>txt (l i)) i).length) (fr + 1 + (catN (fun i=>txt (l i)) i).length) p u fr' fi' → Desc (.mk 3 n s ln l dn ky dv) fr fi ((nm,key) :: p) u fr' fi'
  | dict {n:Int} {s:ByteArray} {ln:Nat} {l:Nat → T} {dn:Nat} {ky:Nat → ByteArray} {dv:Nat → T} {fr fi i:Nat} {nm:Int} {key:ByteArray} {p:List (Int × ByteArray)} {u:T} {fr' fi':Nat}:i < dn → key = ky i → Desc (dv i) (fr + 1 + (catN (fun i=>wtx (ky i) ++ txt (dv i)) i).length + (wtx (ky i)).length) (fr + 1 + (catN (fun i=>wtx (ky i) ++ txt (dv i)) i).length) p u fr' fi' → Desc (.mk 4 n s ln l dn ky dv) fr fi ((nm,key) :: p) u fr' fi'
theorem Desc.trans {t:T} {fr fi:Nat} {p:List (Int × ByteArray)} {u:T} {fr' fi':Nat} (h:Desc t fr fi p u fr' fi'):∀ {q:List (Int × ByteArray)} {v:T} {fr2 fi2:Nat},Desc u fr' fi' q v fr2 fi2 → Desc t fr fi (p ++ q) v fr2 fi2:=by
  induction h with
  | here=>exact fun h=>h
  | list h1 h2 _ ih=>exact fun h=>.list h1 h2 (ih h)
  | dict h1 h2 _ ih=>exact fun h=>.dict h1 h2 (ih h)
theorem vt_kinds {k n:Int} {s:ByteArray} {ln:Nat} {l:Nat → T} {dn:Nat} {ky:Nat → ByteArray} {dv:Nat → T} (h:VT (.mk k n s ln l dn ky dv)):(k = 3 ∨ ln = 0)∧(k = 4 ∨ dn = 0):=by
  obtain ⟨_,_,_,_,o5,o6⟩:1 ≤ k∧k ≤ 4∧(k = 1 ∨ n = 0)∧(k = 2 ∨ s.toList = [])∧(k = 3 ∨ ln = 0)∧(k = 4 ∨ dn = 0):=of_decide_eq_true h.1
  exact ⟨o5,o6⟩
theorem Led.desc {t:T} {sp0:Sp} (h0:sp0.fr = 0) (hvt:VT t) (hfl:t.full) {p:List (Int × ByteArray)} {d r:Nat} (h:Led p ((walkT t 0 sp0).map Sp.v) d r):∃ u sp fi,Seg (walkT t 0 sp0) r u sp∧Desc t 0 0 (p.take d) u sp.fr fi∧VT u∧u.full:=by
  induction h with
  | root=>exact ⟨t,sp0,0,seg_root t sp0,by rw [h0,List.take_zero]; exact .here,hvt,hfl⟩
  | @next d r r' n k y x _ h1 h2 h3 h4 h5 h6 _ ih =>
    obtain ⟨u,sp,fi,hs,hd,hv,hfu⟩:=ih
    rw [List.getElem?_map,Option.map_eq_some_iff] at h2 h5
    obtain ⟨y',hy',rfl⟩:=h2
    obtain ⟨x',hx',rfl⟩:=h5
    have htk:p.take (d + 1) = p.take d ++ [(n,k)]:=by rw [List.take_add_one,h1]; rfl
    cases u with
    | no=>exact hfu.elim
    | mk k2 n2 s2 ln l dn ky dv =>
      have hyk:y'.kind = k2:=by
        have:=seg_at hs
        rw [hy'] at this
        rw [Option.some.inj this]
      obtain ⟨v1,v2⟩:=vt_kinds hv
      have hu:x'.up = (r:Int):=h6.1
      have hk34:k2 = 3 ∨ k2 = 4:=by rw [← hyk]; exact h3
      have hm:(k2 = 3∧((x'.nth:Nat):Int) = n) ∨ (k2 = 4∧x'.key = k):=by
        rcases h6.2 with ⟨e,e2⟩ | ⟨e,e2⟩
        · exact .inl ⟨hyk.symm.trans e,e2⟩
        · exact .inr ⟨hyk.symm.trans e,e2⟩
      rcases seg_kid hs h4 hx' hu with ⟨i,i1,i2,i3,_⟩ | ⟨i,i1,i2,_,i4⟩
      · obtain rfl:k2 = 3:=by omega
        refine ⟨l i,_,sp.fr + 1 + (catN (fun i=>txt (l i)) i).length,by rw [i2]; exact seg_list hs i1,?_,hv.2.1 i i1,hfu.1 i i1⟩
        rw [htk]
        refine hd.trans (.list i1 ?_ .here)
        rcases hm with ⟨_,e⟩ | ⟨e,_⟩
        · rw [← e,i3]
        · cases e
      · obtain rfl:k2 = 4:=by omega
        obtain rfl:ln = 0:=by omega
        refine ⟨dv i,_,sp.fr + 1 + (catN (fun i=>wtx (ky i) ++ txt (dv i)) i).length,by rw [i2]; exact seg_dict hs i1,?_,(hv.2.2 i i1).2,hfu.2 i i1⟩
        rw [htk]
        refine hd.trans (.dict i1 ?_ ?_)
        · rcases hm with ⟨e,_⟩ | ⟨_,e⟩
          · cases e
          · rw [← e,i4]
        · show Desc (dv i) _ _ [] (dv i) (sp.fr + 1 + (catN (fun i=>txt (l i)) 0).length + (catN (fun i=>wtx (ky i) ++ txt (dv i)) i).length + (wtx (ky i)).length) _
          have e:sp.fr + 1 + (catN (fun i=>txt (l i)) 0).length + (catN (fun i=>wtx (ky i) ++ txt (dv i)) i).length + (wtx (ky i)).length = sp.fr + 1 + (catN (fun i=>wtx (ky i) ++ txt (dv i)) i).length + (wtx (ky i)).length:=by
            show sp.fr + 1 + 0 + _ + _ = _
            omega
          rw [e]
          exact .here
theorem Desc.text {t:T} {fr fi:Nat} {p:List (Int × ByteArray)} {u:T} {fr' fi':Nat} (h:Desc t fr fi p u fr' fi'):fi ≤ fr → VT t → ∃ A B,txt t = A ++ txt u ++ B∧fr' = fr + A.length∧fi' ≤ fr'∧VT u:=by
  induction h with
  | here=>exact fun h1 h2=>⟨[], [],by simp,rfl,h1,h2⟩
  | @list n s ln l dn ky dv fr fi i nm key p u fr' fi' h1 _ _ ih =>
    intro _ hv
    obtain ⟨A,B,e1,e2,e3,e4⟩:=ih (Nat.le_refl _) (hv.2.1 i h1)
    obtain ⟨z,hz⟩:=catN_split (g:=fun i=>txt (l i)) h1
    have e:txt (.mk 3 n s ln l dn ky dv) = 108 :: (catN (fun i=>txt (l i)) ln ++ [101]):=rfl
    refine ⟨108 :: (catN (fun i=>txt (l i)) i ++ A),B ++ z ++ [101],?_,?_,e3,e4⟩
    · rw [e,hz,e1]; simp
    · rw [e2,List.length_cons,List.length_append]; omega
  | @dict n s ln l dn ky dv fr fi i nm key p u fr' fi' h1 _ _ ih =>
    intro _ hv
    obtain ⟨A,B,e1,e2,e3,e4⟩:=ih (by omega) (hv.2.2 i h1).2
    obtain ⟨z,hz⟩:=catN_split (g:=fun i=>wtx (ky i) ++ txt (dv i)) h1
    have e:txt (.mk 4 n s ln l dn ky dv) = 100 :: (catN (fun i=>wtx (ky i) ++ txt (dv i)) dn ++ [101]):=rfl
    refine ⟨100 :: (catN (fun i=>wtx (ky i) ++ txt (dv i)) i ++ wtx (ky i) ++ A),B ++ z ++ [101],?_,?_,e3,e4⟩
    · rw [e,hz,e1]; simp
    · rw [e2,List.length_cons,List.length_append,List.length_append]; omega
def FIo (K:List Vi) (v:Vi):Prop:=(v.up = -1∧v.fi = 0) ∨ (0 ≤ v.up∧0 ≤ v.fi∧∃ y,K[v.up.toNat]? = some y∧((y.kd = 3∧v.fi = v.fr) ∨ (y.kd = 4∧v.fi + ((wtx v.ky).length:Int) = v.fr)))
theorem FIo.mono {K L:List Vi} (hs:Sub K L) {v:Vi} (h:FIo K v):FIo L v:=by
  rcases h with h | ⟨h0,h00,y,h1,h2⟩
  · exact .inl h
  · obtain ⟨z,hz,e⟩:=hs _ y h1
    refine .inr ⟨h0,h00,z,hz,?_⟩
    rw [e.kd]
    exact h2
theorem leaf_str {b:List UInt8} {i j:Nat} {t:T} (hi:i ≤ b.length) (hlim:b.length ≤ 1048576) (hn:¬ (byt b i = 105 ∨ byt b i = 108 ∨ byt b i = 100)) (h:leafO b i = .val t j):(wtx t.s).length = j:=by
  have h1:byt b i ≠ 108:=fun e=>hn (.inr (.inl e))
  have h2:byt b i ≠ 100:=fun e=>hn (.inr (.inr e))
  obtain ⟨_,q2,q3⟩:=leaf_val hi hlim h1 h2 h
  rcases q3 with e | e
  · exfalso
    by_cases hl:i < b.length
    · rw [leaf_eq hl h1 h2] at h
      unfold scal at h
      rw [bytDrop,Nat.add_zero,if_neg (fun e=>hn (.inl e))] at h
      split at h
      · cases hs:strg (b.drop i) 0 with
        | bad p e=>rw [hs] at h; cases h
        | ok s j' =>
          rw [hs] at h
          injection h with h3 _
          rw [e] at h3
          cases h3
      · cases h
    · rw [leaf_end (by omega)] at h; cases h
  · rw [e] at q2
    exact q2
def PVal:RS → Prop
  | .val (l :: _) i _=>0 ≤ l.be∧((l.kd = 3∧l.be = (i:Int)) ∨ (l.kd = 4∧l.be + ((wtx l.kk).length:Int) = (i:Int)))
  | _=>True
theorem Rch.firsts {b:List UInt8} (hlim:b.length ≤ 1048576) {go:List Vi → Bool} {h:List Vi} {s:RS} (H:Rch b go h s):(∀ l ∈ s.ls,FIo (sk h) l.bg)∧PVal s:=by
  induction H with
  | start=>exact ⟨fun l hl=>(by cases hl),trivial⟩
  | @value h ls i n v ls' i' hr hv _ ih =>
    obtain ⟨ih1,ih2⟩:=ih
    obtain ⟨f1,f2,f3,f4⟩:=vg_facts hlim hr hv
    obtain ⟨pn,pl⟩:=hr.places
    have pn':(sk h).length = n:=pn
    rw [sk_new (by rw [pn']; exact f1)]
    refine ⟨?_,by cases ls' <;> trivial⟩
    show ∀ l ∈ ls',FIo (sk h ++ [v]) l.bg
    have hk:LK (sk h) ls:=hr.lk hlim
    have hvF:FIo (sk h) v:=by
      have e:v.fi = (dueV ls i n).fi∧v.fr = (dueV ls i n).fr∧v.ky = (dueV ls i n).ky∧v.up = (dueV ls i n).up:=by
        rcases hv with ⟨t,j,_,_,_,rfl,_,_⟩ | ⟨_,_,c3,_,_⟩
        · exact ⟨rfl,rfl,rfl,rfl⟩
        · rcases c3 with ⟨_,rfl⟩ | ⟨_,rfl⟩ <;> exact ⟨rfl,rfl,rfl,rfl⟩
      obtain ⟨e1,e2,e3,e4⟩:=e
      unfold FIo
      rw [e1,e2,e3,e4]
      cases ls with
      | nil=>exact .inl ⟨rfl,rfl⟩
      | cons l r =>
        obtain ⟨⟨_,_,k3,y,k4,k5⟩,k6⟩:=hk
        refine .inr ⟨by show 0 ≤ l.pl; have:=k6.up; omega,ih2.1,y,k4,?_⟩
        have hyk:y.kd = l.kd:=k5.kd
        rw [hyk]
        exact ih2.2
    rcases f4 with ⟨_,rfl⟩ | ⟨_,rfl,_,hbg⟩
    · exact fun l hl=>(ih1 l hl).mono (sub_app _ _)
    · intro l hl
      rcases List.mem_cons.1 hl with rfl | hl
      · rw [hbg]; exact hvF.mono (sub_app _ _)
      · exact (ih1 l hl).mono (sub_app _ _)
  | @part h l r i n l' i' hr _ hp ih =>
    obtain ⟨ih1,_⟩:=ih
    have hi:i ≤ b.length:=(hr.ok hlim).1
    have e:=part_same hp
    refine ⟨fun x hx=>?_,?_⟩
    · rcases List.mem_cons.1 hx with rfl | hx
      · rw [e]; exact ih1 l (by simp [RS.ls])
      · exact ih1 x (by simp [RS.ls,hx])
    · rcases hp with ⟨c1,rfl,rfl⟩ | ⟨c1,c2,t,j,c3,_,rfl,rfl⟩
      · exact ⟨Int.natCast_nonneg _,.inl ⟨c1,rfl⟩⟩
      · refine ⟨Int.natCast_nonneg _,.inr ⟨c1,?_⟩⟩
        have:=leaf_str hi hlim c2 c3
        show (i:Int) + ((wtx t.s).length:Int) = ((i + j:Nat):Int)
        omega
  | @close h l r i n hr _ _ _ ih =>
    obtain ⟨ih1,_⟩:=ih
    obtain ⟨pn,pl⟩:=hr.places
    have pn':(sk h).length = n:=pn
    have hl:=pl l (by simp [RS.ls])
    have hl2:l.pl < (n:Int):=hl.2
    rw [sk_old (v:=endV l i) (k:=l.pl.toNat) (by show l.pl = _; omega) (by omega)]
    refine ⟨fun x hx=>(ih1 x (by simp [RS.ls]; exact .inr hx)).mono (sub_modify _ _ _),trivial⟩
theorem vg_first {b:List UInt8} (hlim:b.length ≤ 1048576) {go:List Vi → Bool} {h:List Vi} {ls:List Lv} {i n:Nat} {v:Vi} {ls':List Lv} {i':Nat} (hr:Rch b go h (.val ls i n)) (hv:VG b ls i n v ls' i'):FIo (sk h) v:=by
  have hk:LK (sk h) ls:=hr.lk hlim
  have ih2:=(hr.firsts hlim).2
  have e:v.fi = (dueV ls i n).fi∧v.fr = (dueV ls i n).fr∧v.ky = (dueV ls i n).ky∧v.up = (dueV ls i n).up:=by
    rcases hv with ⟨t,j,_,_,_,rfl,_,_⟩ | ⟨_,_,c3,_,_⟩
    · exact ⟨rfl,rfl,rfl,rfl⟩
    · rcases c3 with ⟨_,rfl⟩ | ⟨_,rfl⟩ <;> exact ⟨rfl,rfl,rfl,rfl⟩
  obtain ⟨e1,e2,e3,e4⟩:=e
  unfold FIo
  rw [e1,e2,e3,e4]
  cases ls with
  | nil=>exact .inl ⟨rfl,rfl⟩
  | cons l r =>
    obtain ⟨⟨_,_,k3,y,k4,k5⟩,k6⟩:=hk
    refine .inr ⟨by show 0 ≤ l.pl; have:=k6.up; omega,ih2.1,y,k4,?_⟩
    have hyk:y.kd = l.kd:=k5.kd
    rw [hyk]
    exact ih2.2
theorem less_trans:∀ x y z:List UInt8,Op.bytesLess x y = true → Op.bytesLess y z = true → Op.bytesLess x z = true
  | _, [],_=>by intro h; simp [Op.bytesLess] at h
  | _,_ :: _, []=>by intro _ h; simp [Op.bytesLess] at h
  | [],_ :: _,_ :: _=>by intro _ _; rfl
  | a :: x,b :: y,c :: z=>by
    intro h1 h2
    have ih:=less_trans x y z
    simp only [Op.bytesLess,Bool.or_eq_true,decide_eq_true_eq,Bool.and_eq_true,beq_iff_eq] at h1 h2 ⊢
    rcases h1 with h1 | ⟨rfl,h1⟩
    · rcases h2 with h2 | ⟨rfl,h2⟩
      · exact .inl (by have:=UInt8.lt_iff_toNat_lt.1 h1; have:=UInt8.lt_iff_toNat_lt.1 h2; exact UInt8.lt_iff_toNat_lt.2 (by omega))
      · exact .inl h1
    · rcases h2 with h2 | ⟨rfl,h2⟩
      · exact .inl h2
      · exact .inr ⟨rfl,ih h1 h2⟩
theorem less_irrefl:∀ x:List UInt8,Op.bytesLess x x = false
  | []=>rfl
  | a :: x=>by
    have ih:=less_irrefl x
    simp only [Op.bytesLess,ih,Bool.and_false,Bool.or_false,decide_eq_false_iff_not]
    exact fun hc=>by have:=UInt8.lt_iff_toNat_lt.1 hc; omega
theorem rise_of {ky:Nat → ByteArray} {dn:Nat} (h:∀ i,i < dn → keyBad ky i = false):∀ q p,p < q → q < dn → Op.bytesLess (ky p).toList (ky q).toList = true:=by
  have one:∀ p,p + 1 < dn → Op.bytesLess (ky p).toList (ky (p + 1)).toList = true:=fun p hp=>by
    have h1:=h (p + 1) hp
    have h2:=bytes_tri (ky (p + 1)).toList (ky p).toList
    rw [show (Op.bytesLess (ky (p + 1)).toList (ky p).toList || (ky (p + 1)).toList == (ky p).toList) = false from h1] at h2
    simpa using h2
  intro q
  induction q with
  | zero=>intro p hp; omega
  | succ q ih =>
    intro p hp hq
    by_cases e:p = q
    · subst e; exact one p hq
    · exact less_trans _ _ _ (ih p (by omega) (by omega)) (one q hq)
theorem rise_ne {ky:Nat → ByteArray} {dn:Nat} (h:∀ i,i < dn → keyBad ky i = false) {i j:Nat} (hi:i < dn) (hj:j < dn) (e:ky j = ky i):j = i:=by
  rcases Nat.lt_trichotomy j i with h1 | h1 | h1
  · have:=rise_of h i j h1 hi
    rw [e,less_irrefl] at this; cases this
  · exact h1
  · have:=rise_of h j i h1 hj
    rw [e,less_irrefl] at this; cases this
def outL (nm:Int) (o:Nat → Option T) (l:Nat → T):Nat → List T
  | 0=>[]
  | j + 1=>outL nm o l j ++ (if (j:Int) = nm then (o j).toList else [l j])
def outD (key:ByteArray) (o:Nat → Option T) (ky:Nat → ByteArray) (dv:Nat → T):Nat → List (ByteArray × T)
  | 0=>[]
  | j + 1=>outD key o ky dv j ++ (if ky j = key then (o j).toList.map (fun t=>(ky j,t)) else [(ky j,dv j)])
theorem catN_take {α:Type} (L:List α) (d:α) (f:α → List UInt8):∀ n,n ≤ L.length → catN (fun i=>f (L.getD i d)) n = (L.take n).flatMap f
  | 0,_=>by simp [catN]
  | n + 1,h=>by
    have h1:n < L.length:=by omega
    show catN _ n ++ f (L.getD n d) = _
    rw [catN_take L d f n (by omega),List.take_add_one,List.flatMap_append]
    simp [List.getD,h1]
theorem catN_flat {α:Type} (L:List α) (d:α) (f:α → List UInt8):catN (fun i=>f (L.getD i d)) L.length = L.flatMap f:=by
  rw [catN_take L d f _ (Nat.le_refl _),List.take_length]
def pt (q:ByteArray × T):List UInt8:=wtx q.1 ++ txt q.2
theorem txt_listF (L:List T):txt (tList L) = 108 :: (L.flatMap txt ++ [101]):=by rw [txt_list,catN_flat L .no txt]
theorem txt_dictF (L:List (ByteArray × T)):txt (tDict L) = 100 :: (L.flatMap pt ++ [101]):=by rw [txt_dict]; exact congrArg (fun x=>100 :: (x ++ [101])) (catN_flat L (ByteArray.empty,.no) pt)
theorem outL_before {i:Nat} {o:Nat → Option T} {l:Nat → T}:∀ n,n ≤ i → (outL (i:Int) o l n).flatMap txt = catN (fun j=>txt (l j)) n
  | 0,_=>rfl
  | n + 1,h=>by
    show (outL (i:Int) o l n ++ _).flatMap txt = catN _ n ++ _
    rw [List.flatMap_append,outL_before n (by omega),if_neg (by omega)]
    simp
theorem outL_after {i:Nat} {o:Nat → Option T} {l:Nat → T}:∀ n,i < n → ∃ z,catN (fun j=>txt (l j)) n = catN (fun j=>txt (l j)) i ++ (txt (l i) ++ z)∧(outL (i:Int) o l n).flatMap txt = catN (fun j=>txt (l j)) i ++ ((o i).toList.flatMap txt ++ z)
  | 0,h=>by omega
  | n + 1,h=>by
    have e1:catN (fun j=>txt (l j)) (n + 1) = catN (fun j=>txt (l j)) n ++ txt (l n):=rfl
    have e2:outL (i:Int) o l (n + 1) = outL (i:Int) o l n ++ (if (n:Int) = (i:Int) then (o n).toList else [l n]):=rfl
    by_cases e:i = n
    · subst e
      exact ⟨[],by rw [e1]; simp,by rw [e2,if_pos rfl,List.flatMap_append,outL_before i (Nat.le_refl _)]; simp⟩
    · obtain ⟨z,h1,h2⟩:=outL_after (o:=o) (l:=l) n (show i < n by omega)
      exact ⟨z ++ txt (l n),by rw [e1,h1]; simp,by rw [e2,if_neg (by omega),List.flatMap_append,h2]; simp⟩
theorem outD_before {key:ByteArray} {o:Nat → Option T} {ky:Nat → ByteArray} {dv:Nat → T}:∀ n,(∀ j,j < n → ky j ≠ key) → (outD key o ky dv n).flatMap pt = catN (fun j=>wtx (ky j) ++ txt (dv j)) n
  | 0,_=>rfl
  | n + 1,h=>by
    show (outD key o ky dv n ++ _).flatMap pt = catN _ n ++ _
    rw [List.flatMap_append,outD_before n (fun j hj=>h j (by omega)),if_neg (h n (by omega))]
    simp [pt]
theorem outD_after {key:ByteArray} {i:Nat} {o:Nat → Option T} {ky:Nat → ByteArray} {dv:Nat → T} (hk:ky i = key):∀ n,(∀ j,j < n → ky j = key → j = i) → i < n → ∃ z,catN (fun j=>wtx (ky j) ++ txt (dv j)) n = catN (fun j=>wtx (ky j) ++ txt (dv j)) i ++ ((wtx (ky i) ++ txt (dv i)) ++ z)∧(outD key o ky dv n).flatMap pt = catN (fun j=>wtx (ky j) ++ txt (dv j)) i ++ (((o i).toList.map (fun t=>(ky i,t))).flatMap pt ++ z)
  | 0,_,h=>by omega
  | n + 1,hu,h=>by
    have e1:catN (fun j=>wtx (ky j) ++ txt (dv j)) (n + 1) = catN (fun j=>wtx (ky j) ++ txt (dv j)) n ++ (wtx (ky n) ++ txt (dv n)):=rfl
    have e2:outD key o ky dv (n + 1) = outD key o ky dv n ++ (if ky n = key then (o n).toList.map (fun t=>(ky n,t)) else [(ky n,dv n)]):=rfl
    by_cases e:i = n
    · subst e
      refine ⟨[],by rw [e1]; simp,?_⟩
      rw [e2,if_pos hk,List.flatMap_append,outD_before i (fun j hj e=>by have:=hu j (by omega) e; omega)]
      simp
    · obtain ⟨z,h1,h2⟩:=outD_after (o:=o) (dv:=dv) hk n (fun j hj=>hu j (by omega)) (show i < n by omega)
      refine ⟨z ++ (wtx (ky n) ++ txt (dv n)),by rw [e1,h1]; simp,?_⟩
      rw [e2,if_neg (fun e'=>by have:=hu n (by omega) e'; omega),List.flatMap_append,h2]
      simp [pt]
theorem outL_mem {nm:Int} {o:Nat → Option T} {l:Nat → T}:∀ {n:Nat} {x:T},x ∈ outL nm o l n → (∃ j,j < n∧x = l j) ∨ ∃ j,j < n∧(j:Int) = nm∧o j = some x
  | 0,x,h=>by cases h
  | n + 1,x,h=>by
    rcases List.mem_append.1 (show x ∈ outL nm o l n ++ _ from h) with h | h
    · rcases outL_mem h with ⟨j,h1,h2⟩ | ⟨j,h1,h2⟩
      · exact .inl ⟨j,by omega,h2⟩
      · exact .inr ⟨j,by omega,h2⟩
    · by_cases e:(n:Int) = nm
      · rw [if_pos e] at h
        exact .inr ⟨n,by omega,e,by simpa using h⟩
      · rw [if_neg e] at h
        exact .inl ⟨n,by omega,by simpa using h⟩
theorem outD_mem {key:ByteArray} {o:Nat → Option T} {ky:Nat → ByteArray} {dv:Nat → T}:∀ {n:Nat} {x:ByteArray × T},x ∈ outD key o ky dv n → ∃ j,j < n∧x.1 = ky j∧(x.2 = dv j ∨ (ky j = key∧o j = some x.2))
  | 0,x,h=>by cases h
  | n + 1,x,h=>by
    rcases List.mem_append.1 (show x ∈ outD key o ky dv n ++ _ from h) with h | h
    · obtain ⟨j,h1,h2⟩:=outD_mem h
      exact ⟨j,by omega,h2⟩
    · by_cases e:ky n = key
      · rw [if_pos e] at h
        obtain ⟨t,t1,rfl⟩:=List.mem_map.1 h
        exact ⟨n,by omega,rfl,.inr ⟨e,by simpa using t1⟩⟩
      · rw [if_neg e] at h
        obtain rfl:x = (ky n,dv n):=by simpa using h
        exact ⟨n,by omega,rfl,.inl rfl⟩
theorem opt_len {α:Type} (o:Option α):o.toList.length ≤ 1:=by cases o <;> simp
theorem outL_len {nm:Int} {o:Nat → Option T} {l:Nat → T}:∀ n,(outL nm o l n).length ≤ n
  | 0=>Nat.le_refl _
  | n + 1=>by
    have h:=outL_len (nm:=nm) (o:=o) (l:=l) n
    show (outL nm o l n ++ _).length ≤ _
    rw [List.length_append]
    split
    · have:=opt_len (o n); omega
    · simp; omega
theorem outD_len {key:ByteArray} {o:Nat → Option T} {ky:Nat → ByteArray} {dv:Nat → T}:∀ n,(outD key o ky dv n).length ≤ n
  | 0=>Nat.le_refl _
  | n + 1=>by
    have h:=outD_len (key:=key) (o:=o) (ky:=ky) (dv:=dv) n
    show (outD key o ky dv n ++ _).length ≤ _
    rw [List.length_append]
    split
    · rw [List.length_map]
      have:=opt_len (o n); omega
    · simp; omega
theorem outD_rise {key:ByteArray} {o:Nat → Option T} {ky:Nat → ByteArray} {dv:Nat → T} {dn:Nat} (hr:∀ q p,p < q → q < dn → Op.bytesLess (ky p).toList (ky q).toList = true):∀ n,n ≤ dn → (outD key o ky dv n).Pairwise (fun a b=>Op.bytesLess a.1.toList b.1.toList = true)
  | 0,_=>List.Pairwise.nil
  | n + 1,h=>by
    show (outD key o ky dv n ++ _).Pairwise _
    rw [List.pairwise_append]
    refine ⟨outD_rise hr n (by omega),?_,fun a ha b hb=>?_⟩
    · split
      · cases o n <;> simp
      · simp
    · obtain ⟨j,j1,j2,_⟩:=outD_mem ha
      have hb1:b.1 = ky n:=by
        split at hb
        · obtain ⟨t,_,rfl⟩:=List.mem_map.1 hb; rfl
        · obtain rfl:b = (ky n,dv n):=by simpa using hb
          rfl
      rw [j2,hb1]
      exact hr n j j1 (by omega)
def lG (nm:Int) (f:T → T × Int) (l:Nat → T):Nat → Sum (List T) Int
  | 0=>.inl []
  | j + 1=>match lG nm f l j with
    | .inr e=>.inr e
    | .inl L=>if (j:Int) = nm then (if (f (l j)).2 = 0 then .inl (L ++ [(f (l j)).1]) else .inr (f (l j)).2) else .inl (L ++ [l j])
def dG (key:ByteArray) (em:Bool) (f:T → T × Int) (x:T) (ky:Nat → ByteArray) (dv:Nat → T):Nat → Sum (List (ByteArray × T) × Bool) Int
  | 0=>.inl ([],false)
  | j + 1=>match dG key em f x ky dv j with
    | .inr e=>.inr e
    | .inl (L,d)=>if ky j = key then (if (f (dv j)).2 = 0 then .inl (L ++ [(ky j,(f (dv j)).1)],true) else .inr (f (dv j)).2)
      else if Op.bytesLess key.toList (ky j).toList = true∧d = false then (if em = true then .inl (L ++ [(key,x)] ++ [(ky j,dv j)],true) else .inr 30)
      else .inl (L ++ [(ky j,dv j)],d)
def wiT (x:T):List (Int × ByteArray) → T → T × Int
  | [],_=>(x,0)
  | _ :: _,.no=>(t0,31)
  | q :: p,.mk k _ _ ln l dn ky dv =>
    if k = 3 then (if q.1 < 0 ∨ (ln:Int) < q.1 ∨ (q.1 = (ln:Int)∧p.isEmpty = false) then (t0,30) else
      match lG q.1 (wiT x p) l ln with
      | .inr e=>(t0,e)
      | .inl L=>(tList (if q.1 = (ln:Int) then L ++ [x] else L),0))
    else if k = 4 then (match dG q.2 p.isEmpty (wiT x p) x ky dv dn with
      | .inr e=>(t0,e)
      | .inl (L,d)=>if d = true then (tDict L,0) else if p.isEmpty = true then (tDict (L ++ [(q.2,x)]),0) else (t0,30))
    else (t0,31)
theorem lG_out {i:Nat} {f:T → T × Int} {l:Nat → T}:∀ n,lG (i:Int) f l n = if i < n∧(f (l i)).2 ≠ 0 then .inr (f (l i)).2 else .inl (outL (i:Int) (fun _=>some (f (l i)).1) l n)
  | 0=>by rw [if_neg (by omega)]; rfl
  | n + 1=>by
    have ih:=lG_out (i:=i) (f:=f) (l:=l) n
    unfold lG
    rw [ih]
    have e2:outL (i:Int) (fun _=>some (f (l i)).1) l (n + 1) = outL (i:Int) (fun _=>some (f (l i)).1) l n ++ (if (n:Int) = (i:Int) then [(f (l i)).1] else [l n]):=rfl
    by_cases hz:(f (l i)).2 = 0
    · rw [if_neg (fun h=>h.2 hz),if_neg (fun h=>h.2 hz),e2]
      dsimp only
      by_cases e:(n:Int) = (i:Int)
      · obtain rfl:n = i:=by omega
        rw [if_pos rfl,if_pos rfl,if_pos hz]
      · rw [if_neg e,if_neg e]
    · by_cases hin:i < n
      · rw [if_pos ⟨hin,hz⟩,if_pos ⟨by omega,hz⟩]
      · rw [if_neg (fun h=>hin h.1)]
        dsimp only
        by_cases e:(n:Int) = (i:Int)
        · obtain rfl:n = i:=by omega
          rw [if_pos rfl,if_neg hz,if_pos ⟨by omega,hz⟩]
        · rw [if_neg e,if_neg (fun h=>by omega),e2,if_neg e]
theorem lG_all {nm:Int} {f:T → T × Int} {l:Nat → T}:∀ n,(∀ j:Nat,j < n → (j:Int) ≠ nm) → lG nm f l n = .inl (outL nm (fun _=>none) l n)
  | 0,_=>rfl
  | n + 1,h=>by
    unfold lG
    rw [lG_all n (fun j hj=>h j (by omega))]
    dsimp only
    rw [if_neg (h n (by omega))]
    have e2:outL nm (fun _=>none) l (n + 1) = outL nm (fun _=>none) l n ++ (if (n:Int) = nm then [] else [l n]):=rfl
    rw [e2,if_neg (h n (by omega))]
theorem less_asym {x y:List UInt8} (h:Op.bytesLess x y = true):Op.bytesLess y x = false:=by
  cases h2:Op.bytesLess y x with
  | false=>rfl
  | true=>have:=less_trans x y x h h2; rw [less_irrefl] at this; cases this
theorem dG_out {i:Nat} {key:ByteArray} {em:Bool} {f:T → T × Int} {x:T} {ky:Nat → ByteArray} {dv:Nat → T} (hk:ky i = key) (hb:∀ j,j < i → Op.bytesLess key.toList (ky j).toList = false):∀ n,(∀ j,j < n → ky j = key → j = i) → dG key em f x ky dv n = if i < n then (if (f (dv i)).2 = 0 then .inl (outD key (fun _=>some (f (dv i)).1) ky dv n,true) else .inr (f (dv i)).2) else .inl (outD key (fun _=>some (f (dv i)).1) ky dv n,false)
  | 0,_=>by rw [if_neg (by omega)]; rfl
  | n + 1,hu=>by
    have ih:=dG_out (em:=em) (f:=f) (x:=x) (dv:=dv) hk hb n (fun j hj=>hu j (by omega))
    unfold dG
    rw [ih]
    have e2:outD key (fun _=>some (f (dv i)).1) ky dv (n + 1) = outD key (fun _=>some (f (dv i)).1) ky dv n ++ (if ky n = key then [(ky n,(f (dv i)).1)] else [(ky n,dv n)]):=rfl
    by_cases e:ky n = key
    · obtain rfl:n = i:=hu n (by omega) e
      rw [if_neg (Nat.lt_irrefl _),if_pos (Nat.lt_succ_self _)]
      dsimp only
      rw [if_pos e]
      by_cases hz:(f (dv n)).2 = 0
      · rw [if_pos hz,if_pos hz,e2,if_pos e]
      · rw [if_neg hz,if_neg hz]
    · have hni:n ≠ i:=fun h=>e (by rw [h]; exact hk)
      by_cases hin:i < n
      · rw [if_pos hin,if_pos (show i < n + 1 by omega)]
        by_cases hz:(f (dv i)).2 = 0
        · rw [if_pos hz,if_pos hz]
          dsimp only
          rw [if_neg e,if_neg (fun h=>by cases h.2),e2,if_neg e]
        · rw [if_neg hz,if_neg hz]
      · rw [if_neg hin,if_neg (show ¬ i < n + 1 by omega)]
        dsimp only
        rw [if_neg e,if_neg (fun h=>by rw [hb n (by omega)] at h; cases h.1),e2,if_neg e]
structure Pd (t:T):Prop where
  vt:VT t
  full:t.full
  rng:t.rng
  ok:t.ok
  small:t.small
theorem pd_list {L:List T} (hl:L.length ≤ 2147483647) (h:∀ y ∈ L,Pd y):Pd (tList L):=by
  have g:∀ i,i < L.length → Pd (L.getD i .no):=fun i hi=>h _ (getD_mem hi)
  refine ⟨⟨?_,fun i hi=>(g i hi).vt,fun i hi=>absurd hi (Nat.not_lt_zero _)⟩,⟨fun i hi=>(g i hi).full,fun i hi=>absurd hi (Nat.not_lt_zero _)⟩,⟨by decide,by decide,hl,Nat.zero_le _,fun i hi=>(g i hi).rng,fun i hi=>absurd hi (Nat.not_lt_zero _)⟩,⟨by decide,by omega,Nat.zero_le _,fun i hi=>(g i hi).ok,fun i hi=>absurd hi (Nat.not_lt_zero _)⟩,⟨hl,Nat.zero_le _,fun i hi=>(g i hi).small,fun i hi=>absurd hi (Nat.not_lt_zero _)⟩⟩
  rw [ownB_iff]
  exact ⟨by decide,by decide,.inr rfl,.inr empty_nil,.inl rfl,.inr rfl⟩
theorem pd_dict {L:List (ByteArray × T)} (hl:L.length ≤ 2147483647) (h:∀ y ∈ L,Pd y.2∧y.1.size ≤ 140737488351232) (hp:L.Pairwise (fun a b=>Op.bytesLess a.1.toList b.1.toList = true)):Pd (tDict L):=by
  have g:∀ i,i < L.length → Pd (L.getD i (ByteArray.empty,.no)).2∧(L.getD i (ByteArray.empty,.no)).1.size ≤ 140737488351232:=fun i hi=>h _ (getD_mem hi)
  have hk:∀ i,i < L.length → keyBad (fun i=>(L.getD i (ByteArray.empty,.no)).1) i = false:=by
    intro i hi
    match i,hi with
    | 0,_=>rfl
    | q + 1,hi =>
      have:=(List.pairwise_iff_getElem.1 hp) q (q + 1) (by omega) hi (by omega)
      show leB (L.getD (q + 1) (ByteArray.empty,.no)).1 (L.getD q (ByteArray.empty,.no)).1 = false
      rw [List.getD,List.getD,List.getElem?_eq_getElem hi,List.getElem?_eq_getElem (show q < _ by omega)]
      have h2:=bytes_tri (L[q + 1]).1.toList (L[q]).1.toList
      rw [this] at h2
      exact h2.symm
  refine ⟨⟨?_,fun i hi=>absurd hi (Nat.not_lt_zero _),fun i hi=>⟨hk i hi,(g i hi).1.vt⟩⟩,⟨fun i hi=>absurd hi (Nat.not_lt_zero _),fun i hi=>(g i hi).1.full⟩,⟨by decide,by decide,Nat.zero_le _,hl,fun i hi=>absurd hi (Nat.not_lt_zero _),fun i hi=>(g i hi).1.rng⟩,⟨by decide,Nat.zero_le _,by omega,fun i hi=>absurd hi (Nat.not_lt_zero _),fun i hi=>⟨(g i hi).2,(g i hi).1.ok⟩⟩,⟨Nat.zero_le _,hl,fun i hi=>absurd hi (Nat.not_lt_zero _),fun i hi=>(g i hi).1.small⟩⟩
  rw [ownB_iff]
  exact ⟨by decide,by decide,.inr rfl,.inr empty_nil,.inr rfl,.inl rfl⟩
theorem Pd.kid {k n:Int} {s:ByteArray} {ln:Nat} {l:Nat → T} {dn:Nat} {ky:Nat → ByteArray} {dv:Nat → T} (h:Pd (.mk k n s ln l dn ky dv)) {i:Nat} (hi:i < ln):Pd (l i):=⟨h.vt.2.1 i hi,h.full.1 i hi,h.rng.2.2.2.2.1 i hi,h.ok.2.2.2.1 i hi,h.small.2.2.1 i hi⟩
theorem Pd.pair {k n:Int} {s:ByteArray} {ln:Nat} {l:Nat → T} {dn:Nat} {ky:Nat → ByteArray} {dv:Nat → T} (h:Pd (.mk k n s ln l dn ky dv)) {i:Nat} (hi:i < dn):Pd (dv i)∧(ky i).size ≤ 140737488351232:=⟨⟨(h.vt.2.2 i hi).2,h.full.2 i hi,h.rng.2.2.2.2.2 i hi,(h.ok.2.2.2.2 i hi).2,h.small.2.2.2 i hi⟩,(h.ok.2.2.2.2 i hi).1⟩
theorem wiT_list {x:T} {q:Int × ByteArray} {p:List (Int × ByteArray)} {n:Int} {s:ByteArray} {ln:Nat} {l:Nat → T} {dn:Nat} {ky:Nat → ByteArray} {dv:Nat → T}:wiT x (q :: p) (.mk 3 n s ln l dn ky dv) = (if q.1 < 0 ∨ (ln:Int) < q.1 ∨ (q.1 = (ln:Int)∧p.isEmpty = false) then (t0,30) else
      match lG q.1 (wiT x p) l ln with
      | .inr e=>(t0,e)
      | .inl L=>(tList (if q.1 = (ln:Int) then L ++ [x] else L),0)):=if_pos rfl
theorem wiT_dict {x:T} {q:Int × ByteArray} {p:List (Int × ByteArray)} {n:Int} {s:ByteArray} {ln:Nat} {l:Nat → T} {dn:Nat} {ky:Nat → ByteArray} {dv:Nat → T}:wiT x (q :: p) (.mk 4 n s ln l dn ky dv) = (match dG q.2 p.isEmpty (wiT x p) x ky dv dn with
      | .inr e=>(t0,e)
      | .inl (L,d)=>if d = true then (tDict L,0) else if p.isEmpty = true then (tDict (L ++ [(q.2,x)]),0) else (t0,30)):=(if_neg (by decide)).trans (if_pos rfl)
theorem Desc.wi {x:T} {t:T} {fr fi:Nat} {p:List (Int × ByteArray)} {u:T} {fr' fi':Nat} (h:Desc t fr fi p u fr' fi') (r:List (Int × ByteArray)):VT t →
    (wiT x (p ++ r) t).2 = (wiT x r u).2∧((wiT x r u).2 = 0 → ∃ A B,txt t = A ++ (txt u ++ B)∧txt (wiT x (p ++ r) t).1 = A ++ (txt (wiT x r u).1 ++ B)∧fr' = fr + A.length∧(Pd t → Pd (wiT x r u).1 → Pd (wiT x (p ++ r) t).1)):=by
  induction h with
  | here=>exact fun _=>⟨rfl,fun _=>⟨[], [],by simp,by simp,rfl,fun _ h=>h⟩⟩
  | @list n s ln l dn ky dv fr fi i nm key p u fr' fi' h1 hnm hD ih =>
    intro hv
    subst hnm
    obtain ⟨ih1,ih2⟩:=ih (hv.2.1 i h1)
    have e:txt (.mk 3 n s ln l dn ky dv) = 108 :: (catN (fun i=>txt (l i)) ln ++ [101]):=rfl
    rw [List.cons_append,wiT_list,if_neg (by dsimp only; omega),lG_out,e]
    by_cases hz:(wiT x r u).2 = 0
    · rw [if_neg (fun h=>h.2 (ih1.trans hz))]
      dsimp only
      rw [if_neg (by omega)]
      refine ⟨hz.symm,fun _=>?_⟩
      obtain ⟨A,B,a1,a2,a3,a4⟩:=ih2 hz
      obtain ⟨z,z1,z2⟩:=outL_after (o:=fun _=>some (wiT x (p ++ r) (l i)).1) (l:=l) ln h1
      refine ⟨108 :: (catN (fun i=>txt (l i)) i ++ A),B ++ (z ++ [101]),by rw [z1,a1]; simp,?_,by rw [a3]; simp; omega,fun hp hu=>?_⟩
      · rw [txt_listF,z2]
        simp [a2]
      · refine pd_list (Nat.le_trans (outL_len ln) hp.small.1) fun y hy=>?_
        rcases outL_mem hy with ⟨j,j1,rfl⟩ | ⟨j,j1,_,j3⟩
        · exact hp.kid j1
        · rw [← Option.some.inj j3]
          exact a4 (hp.kid h1) hu
    · rw [if_pos ⟨h1,fun h=>hz (ih1.symm.trans h)⟩]
      exact ⟨ih1,fun h=>absurd h hz⟩
  | @dict n s ln l dn ky dv fr fi i nm key p u fr' fi' h1 hkey hD ih =>
    intro hv
    subst hkey
    obtain ⟨ih1,ih2⟩:=ih (hv.2.2 i h1).2
    have e:txt (.mk 4 n s ln l dn ky dv) = 100 :: (catN (fun i=>wtx (ky i) ++ txt (dv i)) dn ++ [101]):=rfl
    have hr:=rise_of (fun i hi=>(hv.2.2 i hi).1)
    have hne:∀ j,j < dn → ky j = ky i → j = i:=fun j hj ej=>rise_ne (fun i hi=>(hv.2.2 i hi).1) h1 hj ej
    rw [List.cons_append,wiT_dict,dG_out rfl (fun j hj=>less_asym (hr i j hj h1)) dn hne,if_pos h1,e]
    by_cases hz:(wiT x r u).2 = 0
    · rw [if_pos (ih1.trans hz)]
      dsimp only
      rw [if_pos rfl]
      refine ⟨hz.symm,fun _=>?_⟩
      obtain ⟨A,B,a1,a2,a3,a4⟩:=ih2 hz
      obtain ⟨z,z1,z2⟩:=outD_after (key:=ky i) (o:=fun _=>some (wiT x (p ++ r) (dv i)).1) (dv:=dv) rfl dn hne h1
      refine ⟨100 :: (catN (fun i=>wtx (ky i) ++ txt (dv i)) i ++ (wtx (ky i) ++ A)),B ++ (z ++ [101]),by rw [z1,a1]; simp,?_,by rw [a3]; simp; omega,fun hp hu=>?_⟩
      · rw [txt_dictF,z2]
        simp [a2,pt]
      · refine pd_dict (Nat.le_trans (outD_len dn) hp.small.2.1) (fun y hy=>?_) (outD_rise hr dn (Nat.le_refl _))
        obtain ⟨j,j1,j0,j2 | ⟨j2,j3⟩⟩:=outD_mem hy
        · rw [j2,j0]; exact hp.pair j1
        · rw [← Option.some.inj j3,j0]
          exact ⟨a4 (hp.pair h1).1 hu,(hp.pair j1).2⟩
    · rw [if_neg (fun h=>hz (ih1.symm.trans h))]
      exact ⟨ih1,fun h=>absurd h hz⟩
theorem first_bad {f:Nat → Int}:∀ {n:Nat},(∃ i,i < n∧f i ≠ 0) → ∃ i,i < n∧f i ≠ 0∧∀ j,j < i → f j = 0
  | 0,h=>by obtain ⟨i,h,_⟩:=h; omega
  | n + 1,h=>by
    by_cases h1:∃ i,i < n∧f i ≠ 0
    · obtain ⟨i,i1,i2,i3⟩:=first_bad h1
      exact ⟨i,by omega,i2,i3⟩
    · obtain ⟨i,i1,i2⟩:=h
      have hz:∀ j,j < n → f j = 0:=fun j hj=>Classical.byContradiction fun e=>h1 ⟨j,hj,e⟩
      have:i = n:=by
        by_cases e:i < n
        · exact absurd (hz i e) i2
        · omega
      subst this
      exact ⟨i,i1,i2,hz⟩
def RDB (t:T):Prop:=∀ (b r:List UInt8) (st:List Fr) (i:Nat),VT t → wk t st.length ≠ 0 → t.full → t.rng → t.ok → AW st → b.drop i = txt t ++ r → ∃ p e,Run b (.go st i) (.bad p e)
theorem reads_bad (t:T):RDB t:=by
  induction t with
  | no=>intro b r st i _ _ h; exact h.elim
  | mk k n s ln l dn ky dv il id =>
    intro b r st i hv hw hf hr hk haw hx
    obtain ⟨r1,r2,_,_,r5,r6⟩:=hr
    obtain ⟨o1,_,_,o4,o5⟩:=hk
    obtain ⟨k1,k4,_⟩:=(ownB_iff k n s ln dn).1 hv.1
    have hk3:3 ≤ k:=by
      by_cases h3:3 ≤ k
      · exact h3
      · exact absurd (wk_build hv.1 (fun h=>absurd h h3)) hw
    by_cases e3:k = 3
    · subst e3
      obtain ⟨_,v2⟩:=vt_kinds hv
      obtain rfl:dn = 0:=by omega
      have ht:txt (.mk 3 n s ln l 0 ky dv) = 108 :: (catN (fun i=>txt (l i)) ln ++ [101]):=rfl
      rw [ht,List.cons_append] at hx
      obtain ⟨h1,h2,h3⟩:=drop_cons hx
      rw [List.append_assoc] at h3
      by_cases hd:32 ≤ st.length
      · refine ⟨i,24,.one ?_⟩
        rw [step_opn h2 haw (by rw [h1]; decide)]
        unfold opn
        rw [if_pos h1,if_pos hd]
      have ho:step b st i = .go ({ d:=false } :: st) (i + 1):=by
        rw [step_opn h2 haw (by rw [h1]; decide)]
        unfold opn
        rw [if_pos h1,if_neg hd]
      obtain ⟨i0,i1,i2,i3⟩:∃ i0,i0 < ln∧wk (l i0) ((st.length:Int) + 1) ≠ 0∧∀ j,j < i0 → wk (l j) ((st.length:Int) + 1) = 0:=first_bad (f:=fun j=>wk (l j) ((st.length:Int) + 1)) (Classical.byContradiction fun h=>hw (wk_build hv.1 fun _=>⟨by omega,fun j hj=>Classical.byContradiction fun e=>h ⟨j,hj,e⟩,fun j hj=>absurd hj (Nat.not_lt_zero _)⟩))
      have hloop:∀ j,j ≤ i0 → Run b (.go ({ d:=false } :: st) (i + 1)) (.go ({ d:=false,ls:=lsN (fun i=>nrm (l i)) j } :: st) (i + 1 + (catN (fun i=>txt (l i)) j).length)):=by
        intro j
        induction j with
        | zero=>exact fun _=>.refl _
        | succ j ih =>
          intro hj
          refine (ih (by omega)).trans ?_
          obtain ⟨z,hz⟩:=catN_split (g:=fun i=>txt (l i)) (j:=j) (n:=ln) (by omega)
          rw [hz,List.append_assoc] at h3
          have h4:=drop_app h3
          rw [List.append_assoc] at h4
          have:=reads (l j) b _ ({ d:=false,ls:=lsN (fun i=>nrm (l i)) j } :: st) _ (i3 j (by omega)) (hf.1 j (by omega)) (r5 j (by omega)) (o4 j (by omega)) (fun e=>by cases e) h4
          rw [catN,List.length_append, ← Nat.add_assoc]
          exact this
      obtain ⟨z,hz⟩:=catN_split (g:=fun i=>txt (l i)) (j:=i0) (n:=ln) i1
      rw [hz,List.append_assoc] at h3
      have h4:=drop_app h3
      rw [List.append_assoc] at h4
      obtain ⟨p,e,hrun⟩:=il i0 b _ ({ d:=false,ls:=lsN (fun i=>nrm (l i)) i0 } :: st) _ (hv.2.1 i0 i1) i2 (hf.1 i0 i1) (r5 i0 i1) (o4 i0 i1) (fun e=>by cases e) h4
      exact ⟨p,e,(Run.one ho).trans ((hloop i0 (Nat.le_refl _)).trans hrun)⟩
    · obtain rfl:k = 4:=by omega
      obtain ⟨v1,_⟩:=vt_kinds hv
      obtain rfl:ln = 0:=by omega
      have ht:txt (.mk 4 n s 0 l dn ky dv) = 100 :: (catN (fun i=>wtx (ky i) ++ txt (dv i)) dn ++ [101]):=rfl
      rw [ht,List.cons_append] at hx
      obtain ⟨h1,h2,h3⟩:=drop_cons hx
      rw [List.append_assoc] at h3
      by_cases hd:32 ≤ st.length
      · refine ⟨i,24,.one ?_⟩
        rw [step_opn h2 haw (by rw [h1]; decide)]
        unfold opn
        rw [if_neg (by rw [h1]; decide),if_pos h1,if_pos hd]
      have ho:step b st i = .go ({ d:=true } :: st) (i + 1):=by
        rw [step_opn h2 haw (by rw [h1]; decide)]
        unfold opn
        rw [if_neg (by rw [h1]; decide),if_pos h1,if_neg hd]
      obtain ⟨i0,i1,i2,i3⟩:∃ i0,i0 < dn∧wk (dv i0) ((st.length:Int) + 1) ≠ 0∧∀ j,j < i0 → wk (dv j) ((st.length:Int) + 1) = 0:=first_bad (f:=fun j=>wk (dv j) ((st.length:Int) + 1)) (Classical.byContradiction fun h=>hw (wk_build hv.1 fun _=>⟨by omega,fun j hj=>absurd hj (Nat.not_lt_zero _),fun j hj=>⟨(hv.2.2 j hj).1,Classical.byContradiction fun e=>h ⟨j,hj,e⟩⟩⟩))
      have keyed:∀ j,j < dn → ∀ r',b.drop (i + 1 + (catN (fun i=>wtx (ky i) ++ txt (dv i)) j).length) = wtx (ky j) ++ r' → step b ({ d:=true,ps:=lsN (fun i=>(ky i,nrm (dv i))) j } :: st) (i + 1 + (catN (fun i=>wtx (ky i) ++ txt (dv i)) j).length) = .go ({ d:=true,ps:=lsN (fun i=>(ky i,nrm (dv i))) j,key:=ky j,has:=true } :: st) (i + 1 + (catN (fun i=>wtx (ky i) ++ txt (dv i)) j).length + (wtx (ky j)).length):=by
        intro j hj r' h4
        obtain ⟨s1,s2,s3⟩:=strg_rd (o5 j hj).1 h4
        have hne:∀ c,dig c = false → byt b (i + 1 + (catN (fun i=>wtx (ky i) ++ txt (dv i)) j).length) ≠ c:=fun c hc e=>by rw [e,hc] at s2; cases s2
        unfold step
        rw [if_neg (by omega)]
        dsimp only
        rw [if_pos ⟨rfl,rfl⟩,if_neg (hne _ (by decide))]
        unfold keyy
        rw [if_neg (by rw [s2]; decide),s1]
        dsimp only
        rw [if_neg]
        rintro ⟨g1,g2⟩
        match j,g1,g2,hj with
        | 0,g1,_,_=>exact g1 rfl
        | q + 1,_,g2,hj =>
          rw [last_getD,lsN_len,Nat.add_sub_cancel,lsN_get _ _ (Nat.lt_succ_self q)] at g2
          have:=(hv.2.2 (q + 1) hj).1
          rw [show keyBad ky (q + 1) = leB (ky (q + 1)) (ky q) from rfl,g2] at this
          cases this
      have hloop:∀ j,j ≤ i0 → Run b (.go ({ d:=true } :: st) (i + 1)) (.go ({ d:=true,ps:=lsN (fun i=>(ky i,nrm (dv i))) j } :: st) (i + 1 + (catN (fun i=>wtx (ky i) ++ txt (dv i)) j).length)):=by
        intro j
        induction j with
        | zero=>exact fun _=>.refl _
        | succ j ih =>
          intro hj
          refine (ih (by omega)).trans ?_
          obtain ⟨z,hz⟩:=catN_split (g:=fun i=>wtx (ky i) ++ txt (dv i)) (j:=j) (n:=dn) (by omega)
          rw [hz,List.append_assoc] at h3
          have h4:=drop_app h3
          rw [List.append_assoc,List.append_assoc] at h4
          refine (Run.one (keyed j (by omega) _ h4)).trans ?_
          have h5:=drop_app h4
          have:=reads (dv j) b _ ({ d:=true,ps:=lsN (fun i=>(ky i,nrm (dv i))) j,key:=ky j,has:=true } :: st) _ (i3 j (by omega)) (hf.2 j (by omega)) (r6 j (by omega)) (o5 j (by omega)).2 (fun _=>rfl) h5
          rw [catN,List.length_append,List.length_append, ← Nat.add_assoc, ← Nat.add_assoc]
          exact this
      obtain ⟨z,hz⟩:=catN_split (g:=fun i=>wtx (ky i) ++ txt (dv i)) (j:=i0) (n:=dn) i1
      rw [hz,List.append_assoc] at h3
      have h4:=drop_app h3
      rw [List.append_assoc,List.append_assoc] at h4
      have h5:=drop_app h4
      obtain ⟨p,e,hrun⟩:=id i0 b _ ({ d:=true,ps:=lsN (fun i=>(ky i,nrm (dv i))) i0,key:=ky i0,has:=true } :: st) _ (hv.2.2 i0 i1).2 i2 (hf.2 i0 i1) (r6 i0 i1) (o5 i0 i1).2 (fun _=>rfl) h5
      exact ⟨p,e,(Run.one ho).trans ((hloop i0 (Nat.le_refl _)).trans ((Run.one (keyed i0 i1 _ h4)).trans hrun))⟩
theorem dout_iff {y:T} (hp:Pd y) {t:T} {k:Nat} {er:Int} (hd:DOUT (txt y) t k er):er = 0 ↔ (wk y 0 = 0∧(txt y).length ≤ 1048576):=by
  constructor
  · intro e
    subst e
    have hl:=(dout_txt hd).2.2
    refine ⟨Classical.byContradiction fun hw=>?_,hl⟩
    obtain ⟨p,e,hr⟩:=reads_bad y (txt y) [] [] 0 hp.vt hw hp.full hp.rng hp.ok trivial (by simp)
    obtain ⟨n,hr'⟩:=dout_run hd
    have:=Run.unique hr hr' trivial trivial
    cases this
  · rintro ⟨hw,hl⟩
    exact (hd.unique (dout_written hw hp.full hp.rng hp.ok hl)).2.2
theorem dout_nrm {b:List UInt8} {t:T} {k:Nat} (hd:DOUT b t k 0):t = nrm t∧Pd t:=by
  obtain ⟨h1,⟨h2,h3,h4⟩,h5⟩:=dout_txt hd
  have hv:=vt_of_wk t _ h2
  have hp:Pd t:=⟨hv,dout_full hd,h4,ok_of t hv h3 (by rw [← h1]; exact h5),h3⟩
  have hd2:=dout_written h2 hp.full hp.rng hp.ok (by rw [← h1]; exact h5)
  rw [← h1] at hd2
  exact ⟨(hd.unique hd2).1,hp⟩
theorem nrm_kid {n:Int} {s:ByteArray} {ln:Nat} {l:Nat → T} {dn:Nat} {ky:Nat → ByteArray} {dv:Nat → T} (h:T.mk 3 n s ln l dn ky dv = nrm (.mk 3 n s ln l dn ky dv)) {i:Nat} (hi:i < ln):l i = nrm (l i):=by
  have e:nrm (.mk 3 n s ln l dn ky dv) = tList (lsN (fun i=>nrm (l i)) ln):=rfl
  rw [e] at h
  injection h with _ _ _ _ h5
  have:=congrFun h5 i
  rw [this]
  conv=>rhs; rw [← this]
  exact lsN_get _ _ hi
theorem nrm_pair {n:Int} {s:ByteArray} {ln:Nat} {l:Nat → T} {dn:Nat} {ky:Nat → ByteArray} {dv:Nat → T} (h:T.mk 4 n s ln l dn ky dv = nrm (.mk 4 n s ln l dn ky dv)) {i:Nat} (hi:i < dn):dv i = nrm (dv i):=by
  have e:nrm (.mk 4 n s ln l dn ky dv) = tDict (lsN (fun i=>(ky i,nrm (dv i))) dn):=rfl
  rw [e] at h
  injection h with _ _ _ _ _ _ _ h8
  have:=congrFun h8 i
  rw [this]
  conv=>rhs; rw [← this]
  rw [lsN_get _ _ hi]
theorem Desc.own {t:T} {fr fi:Nat} {p:List (Int × ByteArray)} {u:T} {fr' fi':Nat} (h:Desc t fr fi p u fr' fi'):∀ ar:Nat,t = nrm t → Pd t → wk t ar = 0 → u = nrm u∧Pd u∧wk u 0 = 0:=by
  induction h with
  | here=>exact fun ar h1 h2 h3=>⟨h1,h2,wk_zero _ ar h3⟩
  | @list n s ln l dn ky dv fr fi i nm key p u fr' fi' h1 hnm hD ih =>
    intro ar g1 g2 g3
    obtain ⟨_,a2,_⟩:=(wk_mk g3).2 (by decide)
    exact ih (ar + 1) (nrm_kid g1 h1) (g2.kid h1) (a2 i h1)
  | @dict n s ln l dn ky dv fr fi i nm key p u fr' fi' h1 hkey hD ih =>
    intro ar g1 g2 g3
    obtain ⟨_,_,a3⟩:=(wk_mk g3).2 (by decide)
    exact ih (ar + 1) (nrm_pair g1 h1) (g2.pair h1).1 (a3 i h1).2
def lenT:T → Nat
  | .no=>0
  | .mk _ _ _ ln _ _ _ _=>ln
def RKy:List Fr → List ByteArray → Prop
  | [],ks=>ks = []
  | [f],ks=>(f.d = true → f.ps.map (·.1) = ks)∧(f.d = false → f.ls.length = ks.length)
  | _ :: g :: r,ks=>RKy (g :: r) ks
def RKe (st:List Fr) (t:T) (ks:List ByteArray):Prop:=
  match st with
  | []=>(t.k = 4 → keysT t = ks)∧(t.k = 3 → lenT t = ks.length)
  | f :: r=>RKy (f.join t :: r) ks
theorem ry_join {f:Fr} {r:List Fr} {t:T} {ks:List ByteArray} {ky:ByteArray} (h:RKy (f :: r) ks) (hk:f.d = true → ky = f.key):RKy (f.join t :: r) (if ((r.length + 1:Nat):Int) = 1 then ks ++ [ky] else ks):=by
  match r,h with
  | [],h =>
    rw [if_pos (by rfl)]
    refine ⟨fun hd=>?_,fun hd=>?_⟩
    · unfold Fr.join at hd ⊢
      by_cases hd2:f.d = true
      · rw [if_pos hd2]
        show (f.ps ++ [(f.key,t)]).map (·.1) = _
        rw [List.map_append,h.1 hd2,hk hd2]
        rfl
      · rw [if_neg hd2] at hd; cases hd
    · unfold Fr.join at hd ⊢
      by_cases hd2:f.d = true
      · rw [if_pos hd2] at hd; cases hd
      · rw [if_neg hd2]
        show (f.ls ++ [t]).length = _
        rw [List.length_append,List.length_append,h.2 (by simpa using hd2)]
        rfl
  | g :: r,h =>
    rw [if_neg (by rw [List.length_cons]; omega)]
    exact h
theorem ry_key {f f':Fr} {r:List Fr} {ks:List ByteArray} (h:RKy (f :: r) ks) (hd:f'.d = f.d) (hp:f'.ps = f.ps) (hl:f'.ls = f.ls):RKy (f' :: r) ks:=by
  match r,h with
  | [],h=>exact ⟨fun e=>by rw [hp]; exact h.1 (by rw [← hd]; exact e),fun e=>by rw [hl]; exact h.2 (by rw [← hd]; exact e)⟩
  | g :: r,h=>exact h
theorem ry_open {d:Bool} {st:List Fr} {ks:List ByteArray} (h:RKy st ks):RKy ({ d:=d } :: st) ks:=by
  match st,h with
  | [],h=>exact ⟨fun _=>by rw [show ks = [] from h]; rfl,fun _=>by rw [show ks = [] from h]; rfl⟩
  | g :: r,h=>exact h
def PY (b:List UInt8) (h:List Vi):RS → Prop
  | .val ls i _=>∃ st,Run b (.go [] 0) (.go st i)∧Waits b st i∧LRw ls st∧(sk h).map Vi.o = (stS st).1.map Sp.v∧RKy st (kyF h)
  | .mid [] i _=>∃ t,Run b (.go [] 0) (.val t i)∧(sk h).map Vi.o = (walkT t 0 (dueS [])).map Sp.v∧((t.k = 4 → keysT t = kyF h)∧(t.k = 3 → lenT t = (kyF h).length))
  | .mid (l :: r) i _=>∃ f s,Run b (.go [] 0) (.go (f :: s) i)∧LB l f s∧LRw r s∧(sk h).map Vi.o = (stS (f :: s)).1.map Sp.v∧RKy (f :: s) (kyF h)
theorem deliver_PY {b:List UInt8} {h':List Vi} {ls:List Lv} {st:List Fr} {t:T} {j n:Nat} (hr:Run b (.go [] 0) (deliver st t j)) (hw:LRw ls st) (hs:(sk h').map Vi.o = ((stS st).1 ++ walkT t (stS st).1.length (dueS st)).map Sp.v) (hkk:RKe st t (kyF h')):PY b h' (.mid ls j n):=by
  match ls,st,hw with
  | [], [],_=>exact ⟨t,hr,hs,hkk⟩
  | l :: r,f :: s,hw =>
    obtain ⟨h1,h2⟩:=hw
    refine ⟨f.join t,s,hr,⟨⟨?_,h1.bs.pl⟩,?_,fun hd=>?_,fun hd=>?_,fun hd _=>?_⟩,h2,by rw [stS_join h1.has]; exact hs,hkk⟩
    · rw [h1.bs.o]
      unfold Fr.join Fr.kd
      by_cases hd:f.d = true
      · simp [hd]
      · simp [hd]
    · rw [h1.pa]
      unfold Fr.join Fr.num
      by_cases hd:f.d = true
      · simp [hd]
      · simp [hd]
    · rw [h1.kk]
      unfold Fr.join at hd
      unfold Fr.ky
      by_cases hd2:f.d = true
      · rw [if_pos hd2] at hd; cases hd
      · rw [if_neg hd2]
    · unfold Fr.join at hd ⊢
      by_cases hd2:f.d = true
      · rw [if_pos hd2]
      · rw [if_neg hd2] at hd; cases hd
    · unfold Fr.join at hd ⊢
      by_cases hd2:f.d = true
      · rw [if_pos hd2,h1.kk]
        unfold Fr.ky
        rw [if_pos hd2]
        simp
      · rw [if_neg hd2] at hd; cases hd
theorem Rch.counted {b:List UInt8} (hlim:b.length ≤ 1048576) {h:List Vi} {s:RS} (H:Rch b gT h s):PY b h s:=by
  induction H with
  | start=>exact ⟨[],.refl _,waits_nil _ _,trivial,rfl,rfl⟩
  | @value h ls i n v ls' i' hr hv _ ih =>
    obtain ⟨st,h1,h2,h3,h4,hK⟩:=ih
    obtain ⟨hi,hx⟩:=run_at hlim h1
    obtain ⟨pn,_⟩:=hr.places
    have pn':(sk h).length = n:=pn
    have hd:=due_o (n:=n) h3 hx
    have hL:(stS st).1.length = n:=by rw [← pn', ← List.length_map (f:=Vi.o),h4,List.length_map]
    rcases hv with ⟨t,j,c1,c2,c3,rfl,rfl,rfl⟩ | ⟨c1,c2,c3,rfl,rfl⟩
    · have e:=step_leaf hi h2 c1 c2
      rw [c3] at e
      obtain ⟨q1,q2,q3⟩:=leaf_val hi hlim c1 c2 c3
      refine deliver_PY (h1.snoc e) h3 ?_ ?_
      rotate_left
      · rw [kyF_snoc]
        have hj:=leaf_pos hi hlim c1 c2 c3
        match ls',st,h3,hK with
        | [], [],_,hK =>
          refine ⟨fun hk4=>?_,fun hk4=>?_⟩
          · rcases q3 with e3 | e3
            · rw [e3] at hk4; cases hk4
            · rw [e3] at hk4; cases hk4
          · rcases q3 with e3 | e3
            · rw [e3] at hk4; cases hk4
            · rw [e3] at hk4; cases hk4
        | l :: r,f :: s,h3,hK =>
          have:=ry_join (t:=t) (ky:=l.kk) hK (fun hd=>by rw [h3.1.kk]; unfold Fr.ky; rw [if_pos hd])
          have hlen:r.length = s.length:=h3.2.len
          have hc:(({ dueV (l :: r) i n with kd:=t.k,to:=(i:Int) + (j:Int) }:Vi).dp = 1∧({ dueV (l :: r) i n with kd:=t.k,to:=(i:Int) + (j:Int) }:Vi).to ≠ 0) ↔ ((s.length + 1:Nat):Int) = 1:=by
            show (((r.length + 1:Nat):Int) = 1∧(i:Int) + (j:Int) ≠ 0) ↔ _
            rw [hlen]
            constructor
            · exact fun h=>h.1
            · exact fun h=>⟨h,by omega⟩
          show RKy _ _
          by_cases h1:((s.length + 1:Nat):Int) = 1
          · rw [if_pos h1] at this
            rw [if_pos (hc.2 h1)]
            exact this
          · rw [if_neg h1] at this
            rw [if_neg (fun h=>h1 (hc.1 h))]
            exact this
      rw [sk_app (by rw [pn']; exact (due_fr' ls' i n).2.2.1),h4,leaf_walk q3,List.map_append]
      congr 1
      show [_] = [_]
      congr 1
      have hv:Vi.o { dueV ls' i n with kd:=t.k,to:=(i:Int) + (j:Int) } = { Vi.o (dueV ls' i n) with kd:=t.k,to:=(i:Int) + (j:Int) }:=rfl
      rw [hv,hd]
      have:(dueS st).fr = i:=by unfold dueS; rw [due_fr,hx]
      simp only [Sp.v,this,q2,Int.natCast_add]
    · have hl:st.length < 32:=by rw [← h3.len]; exact c2
      have key:∀ (d:Bool) (kdv:Int),kdv = (if d = true then 4 else 3) → v = { dueV ls i n with kd:=kdv } → step b st i = .go ({ d:=d } :: st) (i + 1) → PY b (h ++ [v]) (.mid (newL v :: ls) (i + 1) (n + 1)):=by
        intro d kdv hk hv hst
        subst hv
        refine ⟨{ d:=d },st,h1.snoc hst,⟨⟨?_,?_⟩,?_,fun _=>rfl,fun _=>rfl,fun _ hp=>absurd rfl hp⟩,h3,?_,by rw [kyF_snoc,if_neg (fun h=>h.2 (due_fr' ls i n).2.1)]; exact ry_open hK⟩
        · have e1:(newL { dueV ls i n with kd:=kdv }).o = { Vi.o (dueV ls i n) with kd:=kdv,to:=0 }:=rfl
          rw [e1,hd,hk]
          rfl
        · show (dueV ls i n).pl = _
          rw [(due_fr' ls i n).2.2.1,hL]
        · show (0:Int) = _
          unfold Fr.num
          cases d <;> rfl
        · rw [sk_app (by rw [pn']; exact (due_fr' ls i n).2.2.1),h4,stS_open,List.map_append]
          congr 1
          show [_] = [_]
          congr 1
          have e1:Vi.o { dueV ls i n with kd:=kdv } = { Vi.o (dueV ls i n) with kd:=kdv }:=rfl
          rw [e1,hd,hk]
          show (⟨_,_,((dueS st).to:Int),_,_,_,_,_,_⟩:Vi) = ⟨_,_,0,_,_,_,_,_,_⟩
          have:(dueS st).to = 0:=by unfold dueS; cases st <;> rfl
          rw [this]
          rfl
      rcases c3 with ⟨c3,hv⟩ | ⟨c3,hv⟩
      · exact key false 3 rfl hv (by rw [sx_list c1 h2 c3,if_neg (by omega)])
      · exact key true 4 rfl hv (by rw [sx_dict c1 h2 c3,if_neg (by omega)])
  | @part h l r i n l' i' hr hb hp ih =>
    obtain ⟨f,s,h1,h2,h3,h4,hK⟩:=ih
    obtain ⟨hi,hx⟩:=run_at hlim h1
    have hkd:l.kd = f.kd:=by have:=congrArg Vi.kd h2.bs.o; exact this
    rcases hp with ⟨c1,rfl,rfl⟩ | ⟨c1,c2,t,j,c3,c4,rfl,rfl⟩
    · have hd:f.d = false:=by
        rw [c1] at hkd
        unfold Fr.kd at hkd
        cases hf:f.d with
        | false=>rfl
        | true=>rw [hf] at hkd; cases hkd
      refine ⟨f :: s,h1,fun f' r' e=>?_,⟨⟨⟨h2.bs.o,h2.bs.pl⟩,by show l.pa + 1 = _; rw [h2.pa],?_,fun e=>by rw [hd] at e; cases e⟩,h3⟩,h4,hK⟩
      · injection e with e1 e2; subst e1; exact ⟨(fun e=>by rw [hd] at e; cases e),fun _=>hb⟩
      · show l.kk = f.ky
        rw [h2.kl hd]
        unfold Fr.ky
        rw [hd]
        rfl
    · have hd:f.d = true:=by
        rw [c1] at hkd
        unfold Fr.kd at hkd
        cases hf:f.d with
        | true=>rfl
        | false=>rw [hf] at hkd; cases hkd
      have e:=sx_key (r:=s) hi hd (h2.has hd) hb (fun e=>c2 (.inr (.inl e))) (fun e=>c2 (.inr (.inr e))) (fun e=>c2 (.inl e))
      rw [c3] at e
      have hn:¬ (f.ps ≠ []∧leB t.s (f.ps.getLastD (ByteArray.empty,.no)).1 = true):=fun ⟨e1,e2⟩=>c4 ⟨by
        rw [h2.pa]
        unfold Fr.num
        rw [if_pos hd]
        have:=List.length_pos_iff.2 e1
        omega,by rw [h2.kd hd e1]; exact e2⟩
      dsimp only at e
      rw [if_neg hn] at e
      refine ⟨{ f with key:=t.s,has:=true } :: s,h1.snoc e,fun f' r' e=>?_,⟨⟨⟨h2.bs.o,h2.bs.pl⟩,by show l.pa + 1 = _; rw [h2.pa]; rfl,?_,fun _=>rfl⟩,h3⟩,h4,ry_key hK rfl rfl rfl⟩
      · injection e with e1 e2; subst e1; exact ⟨fun _=>rfl,fun e=>by rw [show ({ f with key:=t.s,has:=true }:Fr).d = f.d from rfl,hd] at e; cases e⟩
      · show t.s = Fr.ky { f with key:=t.s,has:=true }
        unfold Fr.ky
        rw [if_pos hd]
  | @close h l r i n hr hi hb _ ih =>
    obtain ⟨f,s,h1,h2,h3,h4,hK⟩:=ih
    have e:=sx_end (r:=s) hi h2.has hb
    have hr':=h1.snoc e
    refine deliver_PY hr' h3 ?_ ?_
    rotate_left
    · rw [kyF_snoc]
      have hdp:l.dp = (s.length:Int):=by
        have:=congrArg Vi.dp h2.bs.o
        have e2:l.dp = ((dueS s).dep:Int):=this
        rw [e2]
        unfold dueS
        rw [due_dep]
      have hky:l.ky = (dueS s).key:=congrArg Vi.ky h2.bs.o
      have hto:(endV l i).to ≠ 0:=by show (i:Int) + 1 ≠ 0; omega
      match s,r,h3,hK,hdp,hky with
      | [], [],_,hK,hdp,_ =>
        rw [if_neg (fun h=>by have h1:l.dp = 1:=h.1; rw [hdp] at h1; cases h1)]
        refine ⟨fun hk4=>?_,fun hk4=>?_⟩
        · unfold Fr.close at hk4 ⊢
          by_cases hd:f.d = true
          · rw [if_pos hd,keys_dict]; exact hK.1 hd
          · rw [if_neg hd] at hk4; cases hk4
        · unfold Fr.close at hk4 ⊢
          by_cases hd:f.d = true
          · rw [if_pos hd] at hk4; cases hk4
          · rw [if_neg hd]; exact hK.2 (by simpa using hd)
      | g :: u,l2 :: r2,h3,hK,hdp,hky =>
        have hK2:RKy (g :: u) (kyF h):=hK
        have:=ry_join (t:=f.close) (ky:=l.ky) hK2 (fun hd=>by rw [hky]; show g.ky = _; unfold Fr.ky; rw [if_pos hd])
        have hdp2:(endV l i).dp = ((u.length + 1:Nat):Int):=hdp
        show RKy _ _
        by_cases h1:((u.length + 1:Nat):Int) = 1
        · rw [if_pos h1] at this
          rw [if_pos ⟨by rw [hdp2]; exact h1,hto⟩]
          exact this
        · rw [if_neg h1] at this
          rw [if_neg (fun h=>h1 (by rw [← hdp2]; exact h.1))]
          exact this
    obtain ⟨pn,pl⟩:=hr.places
    have hlt:=pl l (by simp [RS.ls])
    have pn':(sk h).length = n:=pn
    have hlt':l.pl < (n:Int):=hlt.2
    have hpl:(endV l i).pl = ((stS s).1.length:Int):=h2.bs.pl
    rw [sk_end hpl (by have:=h2.bs.pl; omega),h4,stS_close,stS_top,List.map_append,List.map_cons,List.map_append,List.map_cons]
    have hm:=modify_mid (fun x:Vi=>{ x with to:=(endV l i).to }) (({ dueS s with kind:=f.kd,to:=0 }:Sp).v) ((f.rest (stS s).1.length (dueS s)).map Sp.v) ((stS s).1.map Sp.v)
    rw [List.length_map] at hm
    rw [hm]
    have hlen:i + 1 = (stx s).length + (txt f.close).length:=by
      match s,r,h3,hr' with
      | [], [],_,hr'=>have:=(run_atv hlim hr').2; simpa [stx] using this
      | g :: u,l2 :: r2,h3,hr' =>
        have h5:=(run_at hlim hr').2
        rw [h5]
        show (stx u ++ (g.join f.close).tx).length = (stx u ++ g.tx).length + _
        rw [join_tx h3.1.has,List.length_append,List.length_append,List.length_append]
        omega
    have hE:({ (({ dueS s with kind:=f.kd,to:=0 }:Sp).v) with to:=(endV l i).to }:Vi) = (endS f s).v:=by
      have:(endV l i).to = (((stx s).length + (txt f.close).length:Nat):Int):=by rw [← hlen]; rfl
      rw [this]
      rfl
    rw [hE]
def OPs (ks:List ByteArray):List Fr → Prop
  | []=>ks = []
  | [f]=>f.d = true → ks <+: f.ps.map (·.1)
  | _ :: g :: r=>OPs ks (g :: r)
def OPo (ks:List ByteArray):Out → Prop
  | .go st _=>OPs ks st
  | .val t _=>t.k = 4 → ks <+: keysT t
  | .bad _ _=>True
theorem op_deliver {ks:List ByteArray} {st:List Fr} {t:T} {j:Nat} (h:OPs ks st):OPo ks (deliver st t j):=by
  match st,h with
  | [],h=>intro _; rw [show ks = [] from h]; exact List.nil_prefix
  | [f],h =>
    intro hd
    unfold Fr.join at hd ⊢
    by_cases hd2:f.d = true
    · rw [if_pos hd2]
      show ks <+: (f.ps ++ [(f.key,t)]).map (·.1)
      rw [List.map_append]
      exact (h hd2).trans (List.prefix_append _ _)
    · rw [if_neg hd2] at hd; cases hd
  | f :: g :: r,h=>exact h
theorem op_open {ks:List ByteArray} {st:List Fr} {d:Bool} (h:OPs ks st):OPs ks ({ d:=d } :: st):=by
  match st,h with
  | [],h=>intro _; rw [show ks = [] from h]; exact List.nil_prefix
  | f :: r,h=>exact h
theorem op_opn {ks:List ByteArray} {b:List UInt8} {st:List Fr} {i:Nat} (h:OPs ks st):OPo ks (opn b st i):=by
  unfold opn
  split
  · split
    · trivial
    · exact op_open h
  · split
    · split
      · trivial
      · exact op_open h
    · unfold scal
      split
      · cases numb b i with
        | bad p e=>trivial
        | ok n j=>exact op_deliver h
      · split
        · cases strg b i with
          | bad p e=>trivial
          | ok n j=>exact op_deliver h
        · trivial
theorem op_close {ks:List ByteArray} {f:Fr} {r:List Fr} {i:Nat} (h:OPs ks (f :: r)):OPo ks (deliver r f.close i):=by
  match r,h with
  | [],h =>
    intro hk
    unfold Fr.close at hk ⊢
    by_cases hd:f.d = true
    · rw [if_pos hd,keys_dict]; exact h hd
    · rw [if_neg hd] at hk; cases hk
  | g :: r,h=>exact op_deliver (st:=g :: r) h
theorem op_step {ks:List ByteArray} {b:List UInt8} {st:List Fr} {i:Nat} (h:OPs ks st):OPo ks (step b st i):=by
  unfold step
  split
  · trivial
  · match st,h with
    | [],h=>exact op_opn h
    | f :: r,h =>
      dsimp only
      split
      · split
        · exact op_close h
        · unfold keyy
          split
          · trivial
          · cases strg b i with
            | bad p e=>trivial
            | ok s j =>
              dsimp only
              split
              · trivial
              · match r,h with
                | [],h=>exact h
                | g :: r,h=>exact h
      · split
        · exact op_close h
        · exact op_opn h
theorem run_op {ks:List ByteArray} {b:List UInt8} {o q:Out} (H:Run b o q):OPo ks o → OPo ks q:=by
  induction H with
  | refl=>exact fun h=>h
  | more _ ih=>exact fun h=>ih (op_step h)
theorem op_of_ry:∀ {st:List Fr} {ks:List ByteArray},RKy st ks → OPs ks st
  | [],_,h=>h
  | [_],_,h=>fun hd=>by rw [h.1 hd]; exact List.prefix_rfl
  | _ :: g :: r,_,h=>op_of_ry (st:=g :: r) h
theorem Rch.prefix {b:List UInt8} (hlim:b.length ≤ 1048576) {h:List Vi} {s:RS} (H:Rch b gT h s) {u:T} {k:Nat} (hd:DOUT b u k 0) (h4:u.k = 4):kyF h <+: keysT u:=by
  obtain ⟨n,hr⟩:=dout_run hd
  have hp:=H.counted hlim
  match s,hp with
  | .val ls i m,hp =>
    obtain ⟨st,h1,_,_,_,hK⟩:=hp
    exact run_op (h1.rest hr trivial) (op_of_ry hK) h4
  | .mid [] i m,hp =>
    obtain ⟨t',h1,_,hK⟩:=hp
    have e:=Run.unique h1 hr trivial trivial
    injection e with e1 e2
    subst e1
    rw [hK.1 h4]; exact List.prefix_rfl
  | .mid (l :: r) i m,hp =>
    obtain ⟨f,st,h1,_,_,_,hK⟩:=hp
    exact run_op (h1.rest hr trivial) (op_of_ry hK) h4
theorem Nx.top {b:List UInt8} (hlim:b.length ≤ 1048576) {go:List Vi → Bool} {h:List Vi} {v:Vi} (H:Nx b go h v) (h1:v.dp = 1):v.up = 0∧0 < v.pl:=by
  have base:∀ {K:List Vi} {l:Lv},LK K [l] → ∀ {f:Fr},LBs l f [] → l.pl = 0:=fun _ _ hb=>hb.pl
  rcases H with ⟨ls,i,n,ls',i',hr,hv⟩ | ⟨l,r,i,n,hr,hi,hb,rfl⟩
  · obtain ⟨f1,f2,f3,_⟩:=vg_facts hlim hr hv
    obtain ⟨st,_,_,h3,_⟩:=hr.free.counted hlim
    match ls,st,h3,f2,f3,hr with
    | [l], [f],h3,f2,f3,hr =>
      have hz:l.pl = 0:=h3.1.bs.pl
      refine ⟨by rw [f2]; exact hz,?_⟩
      have:=(hr.places).2 l (by simp [RS.ls])
      have h5:l.pl < (n:Int):=this.2
      omega
    | [],_,_,_,f3,_=>rw [f3] at h1; cases h1
    | _ :: _ :: _,_,_,_,f3,_=>rw [f3,List.length_cons,List.length_cons] at h1; omega
    | [_], [],h3,_,_,_=>exact h3.elim
    | [_],_ :: _ :: _,h3,_,_,_=>exact h3.2.elim
  · have hk:LK (sk h) (l :: r):=hr.lk hlim
    obtain ⟨f,s,_,_,h3,_⟩:=hr.free.counted hlim
    obtain ⟨⟨k1,k2,k3,_⟩,_⟩:=hk
    have hdp:l.dp = 1:=h1
    match r,s,h3,k1,k2,k3 with
    | [l2], [g],h3,k1,k2,k3 =>
      have hz:l2.pl = 0:=h3.1.bs.pl
      have k1':l.up = l2.pl:=k1
      have k3':l2.pl < l.pl:=k3
      exact ⟨by show l.up = 0; omega,by show 0 < l.pl; omega⟩
    | [],_,_,_,k2,_=>rw [k2] at hdp; cases hdp
    | _ :: _ :: _,_,_,_,k2,_=>rw [k2,List.length_cons,List.length_cons] at hdp; omega
    | [_], [],h3,_,_,_=>exact h3.elim
    | [_],_ :: _ :: _,h3,_,_,_=>exact h3.2.elim
theorem Nx.whole {b:List UInt8} (hlim:b.length ≤ 1048576) {go:List Vi → Bool} {h:List Vi} {v:Vi} (H:Nx b go h v) {u:T} {k:Nat} (hd:DOUT b u k 0):∃ z,((walkT u 0 (dueS [])).map Sp.v)[v.pl.toNat]? = some z∧Eq6 v z∧FIo ((walkT u 0 (dueS [])).map Sp.v) v∧∃ s,Rch b gT (h ++ [v]) s:=by
  rcases H with ⟨ls,i,n,ls',i',hr,hv⟩ | ⟨l,r,i,n,hr,hi,hb,rfl⟩
  · have hx0:=Rch.value hr.free hv (go:=gT) rfl
    have hx:=hx0.ext hlim hd
    have hsub:Sub (sk (h ++ [v])) ((walkT u 0 (dueS [])).map Sp.v):=fun j y hy=>by obtain ⟨z,g1,g2,_⟩:=hx.old j y hy; exact ⟨z,g1,g2⟩
    obtain ⟨f1,f2,f3,f4⟩:=vg_facts hlim hr hv
    obtain ⟨pn,pl⟩:=hr.places
    have pn':(sk h).length = n:=pn
    have hsk:=sk_new (h:=h) (v:=v) (by rw [pn']; exact f1)
    have hat:(sk (h ++ [v]))[v.pl.toNat]? = some v:=by
      rw [hsk,f1, ← pn',Int.toNat_natCast,List.getElem?_append_right (Nat.le_refl _),Nat.sub_self]; rfl
    obtain ⟨z,g1,g2⟩:=hsub _ _ hat
    refine ⟨z,g1,g2,?_,_,hx0⟩
    have h1:=(vg_first hlim hr hv).mono (sub_app (sk h) [v])
    rw [← hsk] at h1
    exact h1.mono hsub
  · have hx0:=Rch.close hr.free hi hb (go:=gT) rfl
    have hx:=hx0.ext hlim hd
    have hsub:Sub (sk (h ++ [endV l i])) ((walkT u 0 (dueS [])).map Sp.v):=fun j y hy=>by obtain ⟨z,g1,g2,_⟩:=hx.old j y hy; exact ⟨z,g1,g2⟩
    have hk:LK (sk h) (l :: r):=hr.lk hlim
    obtain ⟨pn,pl⟩:=hr.places
    have pn':(sk h).length = n:=pn
    have hl:=pl l (by simp [RS.ls])
    have hl2:l.pl < (n:Int):=hl.2
    have hsk:sk (h ++ [endV l i]) = (sk h).modify l.pl.toNat fun x=>{ x with to:=(endV l i).to }:=sk_old (by show l.pl = _; omega) (by omega)
    obtain ⟨⟨_,_,_,x,k4,k5⟩,_⟩:=hk
    obtain ⟨y,y1,y2⟩:=sub_modify (sk h) l.pl.toNat (endV l i).to _ x k4
    rw [← hsk] at y1
    obtain ⟨z,g1,g2⟩:=hsub _ _ y1
    have e6:Eq6 (endV l i) l.bg:=⟨rfl,rfl,rfl,rfl,rfl,rfl⟩
    refine ⟨z,g1,e6.trans (k5.trans (y2.trans g2)),?_,_,hx0⟩
    have h1:FIo (sk h) (endV l i):=(hr.firsts hlim).1 l (by simp [RS.ls])
    have h2:=h1.mono (sub_modify (sk h) l.pl.toNat (endV l i).to)
    rw [← hsk] at h2
    exact h2.mono hsub
theorem Nx.begins {b:List UInt8} (hlim:b.length ≤ 1048576) {go:List Vi → Bool} {h:List Vi} {v:Vi} (H:Nx b go h v) {k n:Int} {s:ByteArray} {ln:Nat} {l:Nat → T} {dn:Nat} {ky:Nat → ByteArray} {dv:Nat → T} {kk:Nat} (hd:DOUT b (.mk k n s ln l dn ky dv) kk 0) (hv:VT (.mk k n s ln l dn ky dv)) (h1:v.dp = 1) :
    (k = 3∧v.ky = ByteArray.empty) ∨ (k = 4∧∃ i,i < dn∧v.ky = ky i∧v.fi = ((1 + (catN (fun i=>wtx (ky i) ++ txt (dv i)) i).length:Nat):Int)):=by
  obtain ⟨t1,t2⟩:=H.top hlim h1
  obtain ⟨z,z1,z2,z3,_⟩:=H.whole hlim hd
  obtain ⟨w1,w2⟩:=vt_kinds hv
  have hroot:=seg_root (.mk k n s ln l dn ky dv) (dueS [])
  rw [List.getElem?_map,Option.map_eq_some_iff] at z1
  obtain ⟨z',hz',rfl⟩:=z1
  have hup:z'.up = ((0:Nat):Int):=z2.up.trans t1
  have hky:z'.key = v.ky:=z2.ky
  have hfr:(z'.fr:Int) = v.fr:=z2.fr
  rcases seg_kid hroot (j:=v.pl.toNat) (by omega) hz' hup with ⟨i,i1,i2,i3,i4⟩ | ⟨i,i1,i2,_,i4⟩
  · exact .inl ⟨by omega,hky.symm.trans i4⟩
  · have hk4:k = 4:=by omega
    subst hk4
    obtain rfl:ln = 0:=by omega
    refine .inr ⟨rfl,i,i1,hky.symm.trans i4,?_⟩
    have hs2:=seg_dict hroot i1
    have hroot0:=seg_at hroot
    rcases z3 with ⟨e,_⟩ | ⟨_,g2,y,y1,y2⟩
    · omega
    · rw [t1] at y1
      rw [List.getElem?_map,show (0:Int).toNat = 0 from rfl,hroot0] at y1
      simp only [Option.map_some,Option.some.injEq] at y1
      have hy4:y.kd = 4:=by rw [← y1]; rfl
      rcases y2 with ⟨e,_⟩ | ⟨_,y2⟩
      · rw [hy4] at e; cases e
      · have hfr2:z'.fr = 0 + 1 + 0 + (catN (fun i=>wtx (ky i) ++ txt (dv i)) i).length + (wtx (ky i)).length:=by
          rw [← i2] at hs2
          cases hdv:dv i with
          | no =>
            obtain ⟨X,Y,x1,x2,x3⟩:=hs2
            rw [hdv] at x1
            exact absurd (show (T.no).full from hdv ▸ (dout_full hd).2 i i1) (fun h=>h.elim)
          | mk k2 n2 s2 ln2 l2 dn2 ky2 dv2 =>
            rw [hdv] at hs2
            have:=seg_at hs2
            rw [hz'] at this
            rw [Option.some.inj this]
            rfl
        rw [← hky,i4] at y2
        omega
end Go.Proofs.YtdlnnnlmlaploabGreatDoor
