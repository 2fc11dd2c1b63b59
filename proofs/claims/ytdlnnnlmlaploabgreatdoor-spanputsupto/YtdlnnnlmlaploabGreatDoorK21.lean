import Derived.Test.YtdlnnnlmlaploabGreatDoorK19
import Derived.Test.YtdlnnnlmlaploabGreatDoorK20
namespace Go.Proofs.YtdlnnnlmlaploabGreatDoor
open Go.RowKit Go.Deep
def stW:List (Int × ByteArray) → List Value
  | []=>[]
  | x :: r=>.int .i64 x.1 :: .string x.2 :: stW r
theorem stW_len:∀ p,(stW p).length = p.length * 2
  | []=>rfl
  | _ :: r=>by show (stW r).length + 1 + 1 = (r.length + 1) * 2; rw [stW_len r]; omega
theorem stW_at:∀ (p:List (Int × ByteArray)) (i:Nat) (n:Int) (k:ByteArray),p[i]? = some (n,k) → (stW p)[i * 2]? = some (.int .i64 n)∧(stW p)[i * 2 + 1]? = some (.string k)
  | [],i,n,k,h=>by simp at h
  | x :: r,0,n,k,h=>by
    simp only [List.getElem?_cons_zero,Option.some.injEq] at h
    subst h
    exact ⟨rfl,rfl⟩
  | x :: r,i + 1,n,k,h=>by
    rw [List.getElem?_cons_succ] at h
    obtain ⟨h1,h2⟩:=stW_at r i n k h
    rw [show (i + 1) * 2 = i * 2 + 1 + 1 by omega]
    exact ⟨h1,h2⟩
theorem stW_one:∀ (p:List (Int × ByteArray)), ∀ u ∈ stW p,u.oneCell' = true
  | [],u,h=>by cases h
  | x :: r,u,h=>by
    rcases List.mem_cons.1 h with rfl | h
    · rfl
    · rcases List.mem_cons.1 h with rfl | h
      · rfl
      · exact stW_one r u h
theorem stW_cell:∀ (p:List (Int × ByteArray)) (f:Nat → Option Value),(∀ i n k,p[i]? = some (n,k) → f (i * 2) = some (.int .i64 n)∧f (i * 2 + 1) = some (.string k)) → ∀ j u,(stW p)[j]? = some u → f j = some u
  | [],f,_,j,u,h=>by simp [stW] at h
  | x :: r,f,hf,j,u,h=>by
    obtain ⟨n,k⟩:=x
    obtain ⟨h0,h1⟩:=hf 0 n k rfl
    match j,h with
    | 0,h=>obtain rfl:=Option.some.inj h; exact h0
    | 1,h=>obtain rfl:=Option.some.inj h; exact h1
    | j + 2,h =>
      exact stW_cell r (fun i=>f (i + 2)) (fun i n k hi=>by
        obtain ⟨a,b⟩:=hf (i + 1) n k (by rw [List.getElem?_cons_succ]; exact hi)
        rw [show (i + 1) * 2 = i * 2 + 2 by omega] at a b
        exact ⟨a,b⟩) j u h
theorem info34:(Tryz.prog.info? 51).map (fun i=>(i.zero,i.size,i.bytes)) = some (some (.agg #[.int .i64 0,.string ByteArray.empty]),2,24):=by kernel_rfl
theorem append_steps {ops:Array Oper} {rest:List Oper} {o:Oper} {a:Act} {Q:Exit → Act → World → Prop} {w:World} {v:Value} {p:List (Int × ByteArray)} (hgd:o.guard = none) (s x:Operand)
    (ho:o.op = .call { callee:=.builtin .append,args:=#[s,x],argTypes:=#[23,23] }) (hs:a.eval s = .slice none 0 0) (hx:a.eval x = v) (hv:PSA w.heap.size w v p) (shape:v = .slice none 0 0 ∨ ∃ ad n c,v = .slice (some ad) n c)
    (hlim:p.length * 24 ≤ 140737488355328)
    (h:∀ v' w',w'.ownsRow w.heap.size 51 2 v' p.length (stW p) → Below w.heap.size w w' → wpList Tryz.prog ops Q rest (a.put o.dst v') w'):wpList Tryz.prog ops Q (o :: rest) a w:=by
  obtain ⟨i0,hi,hz0,hz1,hz2⟩:=info_parts info34
  have hown:w.ownsRow w.heap.size 51 2 (.slice none 0 0) 0 []:=World.ownsRow_nil _ _ _ _
  rcases shape with rfl | ⟨ad,n,c,rfl⟩
  · have hm:p = []:=by
      obtain ⟨a',c',he,_⟩:=hv
      cases p with
      | nil=>rfl
      | cons _ _=>simp at he
    subst hm
    exact wpList_append_own_none hgd s x 23 ho w.heap.size 51 i0 2 Tryz.underlying23 hi _ 0 [] hs hown hx (h _ w hown (Below.refl _ _))
  · obtain ⟨a',c',he,hcell⟩:=hv
    cases he
    refine wpList_append_own w hgd s x 23 ho w.heap.size 51 i0 _ 2 24 Tryz.underlying23 hi hz0 hz1 hz2 rfl (by omega) _ 0 [] hs hown ad p.length c (stW p) hx (stW_len p) (fun j u hu=>?_) (stW_one p) (by unfold maxLen; omega) (by omega) (Nat.le_refl _) (fun v' w' h1 h2 _=>?_)
    · rcases hcell with h0 | ⟨g,o',hae,_,hc⟩
      · subst h0; simp [stW] at hu
      cases hae
      have hadd:(⟨g,o',none⟩:Addr).add j = ⟨g,o' + j,none⟩:=by unfold Addr.add; split <;> simp_all
      rw [hadd]
      exact stW_cell p (fun i=>w.cell? ⟨g,o' + i,none⟩) (fun i n k hi=>hc i n k hi) j u hu
    · refine h v' w' ?_ ((Below.refl _ w).grown h2 (Nat.le_refl _) (fun k hk=>by cases hk))
      rw [Nat.zero_add,List.nil_append] at h1
      exact h1
theorem PSA.of_own {w:World} {B:Nat} {v:Value} {p:List (Int × ByteArray)} (h:w.ownsRow B 51 2 v p.length (stW p)):PSA w.heap.size w v p∧(v = .slice none 0 0 ∨ ∃ ad n c,v = .slice (some ad) n c):=by
  obtain ⟨_,h⟩:=h
  rcases h with ⟨rfl,h0⟩ | ⟨g,cap,cur,rfl,hB,hg,hc,hm,hs,ht⟩
  · obtain rfl:p = []:=List.eq_nil_of_length_eq_zero h0
    exact ⟨⟨none,0,rfl,.inl rfl⟩,.inl rfl⟩
  · refine ⟨⟨_,cap,rfl,.inr ⟨g,0,rfl,(show blk w g 51 cur from hg).lt,fun i n k hi=>?_⟩⟩,.inr ⟨_,_,_,rfl⟩⟩
    have hil:i < p.length:=(List.getElem?_eq_some_iff.1 hi).1
    obtain ⟨h1,h2⟩:=stW_at p i n k hi
    constructor
    · rw [Nat.zero_add,(show blk w g 51 cur from hg).cell, ← h1, ← ht,List.getElem?_take_of_lt (by omega),Array.getElem?_toList]
    · rw [Nat.zero_add,(show blk w g 51 cur from hg).cell, ← h2, ← ht,List.getElem?_take_of_lt (by omega),Array.getElem?_toList]
theorem PSA.up {A B:Nat} {w:World} {v:Value} {p:List (Int × ByteArray)} (h:PSA A w v p) (hB:A ≤ B):PSA B w v p:=by
  obtain ⟨a,c,rfl,h⟩:=h
  refine ⟨a,c,rfl,?_⟩
  rcases h with h | ⟨g,o,h1,h2,h3⟩
  · exact .inl h
  · exact .inr ⟨g,o,h1,Nat.lt_of_lt_of_le h2 hB,h3⟩
theorem PSA.on {w w':World} {v:Value} {p:List (Int × ByteArray)} (h:PSA w.heap.size w v p) (hb:Below w.heap.size w w'):PSA w'.heap.size w' v p:=
  (h.keep (fun k hk=>hb.block k hk)).up hb.size
set_option maxHeartbeats 1000000 in
theorem twinSteps15 (v:Value) (p:List (Int × ByteArray)) (w:World) (h:PSA w.heap.size w v p) (s:v = .slice none 0 0 ∨ ∃ ad n c,v = .slice (some ad) n c) (hlim:p.length * 24 ≤ 140737488355328) :
    Calls Tryz.prog 6 #[v] w fun e w'=>∃ v,e = .returned v∧w'.ownsRow w.heap.size 51 2 v p.length (stW p)∧Below w.heap.size w w':=by
  have H1:=Lib.hid h
  have S1:=Lib.hid s
  obtain ⟨a1,c1,rfl,_⟩:=h
  clear s
  go_enter Tryz.func6,Tryz.ntmps6
  go_wp2_with (at_builtin; refine append_steps (p:=p) (v:=.slice a1 p.length c1) rfl _ _ rfl rfl rfl H1.out S1.out hlim ?_; intro v8 w8 ho8 hb8; have O8:=Lib.hid (And.intro ho8 hb8); clear ho8 hb8)
  go_wp2
  go_ret
  exact ⟨_,rfl,O8.out⟩
set_option maxRecDepth 10000 in
set_option maxHeartbeats 2000000 in
theorem stepsSame19 (v1 v2:Value) (p:List (Int × ByteArray)) (w:World) (hl:p.length ≤ 140737488351232) (h1:PSA w.heap.size w v1 p) (h2:PSA w.heap.size w v2 p) :
    Calls Tryz.prog 10 #[v1,v2] w fun e w'=>e = .returned (.bool true)∧Below w.heap.size w w':=by
  obtain ⟨a1,c1,rfl,h1⟩:=h1
  obtain ⟨a2,c2,rfl,h2⟩:=h2
  have HH:=Lib.hid (And.intro h1 h2)
  clear h1 h2
  generalize hn:p.length = n at *
  have HN:=Lib.hid hn
  clear hn
  go_enter Tryz.func10,Tryz.ntmps10
  go_wp2
  go_loopw [5] (fun t wr=>∃ k nq:Nat,k ≤ n∧t = .int .i64 k∧wr = w.drewN nq) (fun t _=>n - (intOf t).toNat)
  case atStart=>exact ⟨0,0,Nat.zero_le _,rfl,rfl⟩
  case round =>
    obtain ⟨k,nq,hk,rfl,rfl⟩:=hrel
    by_cases hlt:k < n
    · obtain ⟨h1,h2⟩:=HH.out
      rcases h1 with h | ⟨g1,o1,rfl,hg1,h1⟩
      · have:=HN.out; rw [h] at this; simp at this; omega
      rcases h2 with h | ⟨g2,o2,rfl,hg2,h2⟩
      · have:=HN.out; rw [h] at this; simp at this; omega
      obtain ⟨⟨nm,ky⟩,hx⟩:∃ x,p[k]? = some x:=⟨_,List.getElem?_eq_getElem (by rw [HN.out]; exact hlt)⟩
      obtain ⟨x1,x2⟩:=h1 k nm ky hx
      obtain ⟨y1,y2⟩:=h2 k nm ky hx
      have k0:(0:Int) ≤ (k:Int):=by omega
      have k1:(k:Int) < (n:Int):=by omega
      clear h1 h2 hx HH HN hg1 hg2
      go_wp2
      go_quiet (fail)
      go_wp2
      exact ⟨⟨k + 1,_,by omega,by go_num,rfl⟩,by simp [intOf]; omega⟩
    · go_wp2
      go_ret
      exact ⟨rfl,⟨rfl,rfl,rfl,Nat.le_refl _,fun _ _=>rfl⟩⟩
def nestB (q:Vi):Bool:=q.kd == 3 || q.kd == 4
theorem nests36 (q:Vi) (w:World):Calls Tryz.prog 34 #[.agg (Vi.cs q)] w fun e w'=>e = .returned (.bool (nestB q))∧Below w.heap.size w w':=by
  obtain ⟨kd,fr,to,dp,up,nt,ky,pl,fi⟩:=q
  have b0:Below w.heap.size w (w.alloc (Obj.cells (Vi.cs ⟨kd,fr,to,dp,up,nt,ky,pl,fi⟩) 45)):=(Below.refl _ _).alloc (Nat.le_refl _) _
  have HB:=Lib.hid b0
  clear b0
  by_cases h3:kd = 3
  · subst h3
    go_enter Tryz.func34,Tryz.ntmps34
    go_wp2
    go_ret
    exact ⟨rfl,HB.out⟩
  · have h3':(kd == 3) = false:=beq_eq_false_iff_ne.2 h3
    go_enter Tryz.func34,Tryz.ntmps34
    go_wp2
    go_ret
    exact ⟨by unfold nestB; simp [h3'],HB.out⟩
set_option maxRecDepth 10000 in
set_option maxHeartbeats 1000000 in
theorem follow22 (a:Option Addr) (c:Nat) (b:List UInt8) (w:World) (pa:Option Addr) (pn pc:Nat) (p:List (Int × ByteArray)) (hr:RB w (.slice a b.length c) b) (hev:EVw w) (hl:b.length ≤ 1048576) (hP:PSA w.heap.size w (.slice pa pn pc) p) (hp:p.length ≤ 140737488351232) :
    Calls Tryz.prog 19 #[.slice a b.length c,.slice pa pn pc] w fun e w'=>∃ h pp er,Fin b (goF p) h pp er∧Below w.heap.size w w'∧e = .returned (.tuple #[.agg (Vi.cs (fwF p h).1),.int .i64 (if (fwF p h).1.dp = (pn:Int) then 0 else if nestB (fwF p h).1 = true then 30 else 31)]):=by
  have b1:Below w.heap.size w (((w.alloc (Obj.cells #[.slice pa pn pc] 23)).alloc zero9).alloc (Obj.cells #[.int .i64 0,.int .i64 0,.int .i64 0,.int .i64 0,.int .i64 0,.int .i64 0,.string { data:=#[] },.int .i64 (-1),.int .i64 0] 45)):=(((Below.refl _ _).alloc (Nat.le_refl _) _).alloc (by simp) _).alloc (by simp; omega) _
  have hn1:(w.alloc (Obj.cells #[.slice pa pn pc] 23)).heap.size = w.heap.size + 1:=by simp
  have hn2:((w.alloc (Obj.cells #[.slice pa pn pc] 23)).alloc zero9).heap.size = w.heap.size + 1 + 1:=by simp
  have o1:blk (((w.alloc (Obj.cells #[.slice pa pn pc] 23)).alloc zero9).alloc (Obj.cells #[.int .i64 0,.int .i64 0,.int .i64 0,.int .i64 0,.int .i64 0,.int .i64 0,.string { data:=#[] },.int .i64 (-1),.int .i64 0] 45)) w.heap.size 23 #[.slice pa pn pc]:=by
    have h0:blk (w.alloc (Obj.cells #[.slice pa pn pc] 23)) w.heap.size 23 #[.slice pa pn pc]:=heap_new _ _
    have h1:=h0.keep (((Below.refl _ _).alloc (Nat.le_refl _) zero9:Below (w.alloc (Obj.cells #[.slice pa pn pc] 23)).heap.size _ _).block _ h0.lt)
    exact h1.keep (((Below.refl _ _).alloc (Nat.le_refl _) _:Below ((w.alloc (Obj.cells #[.slice pa pn pc] 23)).alloc zero9).heap.size _ _).block _ h1.lt)
  have o2:blk (((w.alloc (Obj.cells #[.slice pa pn pc] 23)).alloc zero9).alloc (Obj.cells #[.int .i64 0,.int .i64 0,.int .i64 0,.int .i64 0,.int .i64 0,.int .i64 0,.string { data:=#[] },.int .i64 (-1),.int .i64 0] 45)) (w.heap.size + 1) 45 #[.int .i64 0,.int .i64 0,.int .i64 0,.int .i64 0,.int .i64 0,.int .i64 0,.string { data:=#[] },.int .i64 0,.int .i64 0]:=by
    have h0:=heap_new (w.alloc (Obj.cells #[.slice pa pn pc] 23)) zero9
    rw [hn1] at h0
    have h0':blk ((w.alloc (Obj.cells #[.slice pa pn pc] 23)).alloc zero9) (w.heap.size + 1) 45 #[.int .i64 0,.int .i64 0,.int .i64 0,.int .i64 0,.int .i64 0,.int .i64 0,.string { data:=#[] },.int .i64 0,.int .i64 0]:=h0
    exact h0'.keep (((Below.refl _ _).alloc (Nat.le_refl _) _:Below ((w.alloc (Obj.cells #[.slice pa pn pc] 23)).alloc zero9).heap.size _ _).block _ h0'.lt)
  have o3:blk (((w.alloc (Obj.cells #[.slice pa pn pc] 23)).alloc zero9).alloc (Obj.cells #[.int .i64 0,.int .i64 0,.int .i64 0,.int .i64 0,.int .i64 0,.int .i64 0,.string { data:=#[] },.int .i64 (-1),.int .i64 0] 45)) (w.heap.size + 1 + 1) 45 (Vi.cs fw0):=by
    have h0:=heap_new ((w.alloc (Obj.cells #[.slice pa pn pc] 23)).alloc zero9) (Obj.cells #[.int .i64 0,.int .i64 0,.int .i64 0,.int .i64 0,.int .i64 0,.int .i64 0,.string { data:=#[] },.int .i64 (-1),.int .i64 0] 45)
    rw [hn2] at h0
    exact h0
  obtain ⟨a',c',e',hc,ht⟩:=hr
  cases e'
  have hA:b = [] ∨ ∀ g o,a = some ⟨g,o,none⟩ → g < w.heap.size:=by
    rcases ht with h | ⟨g',o',e',h1,_⟩
    · exact .inl h
    · exact .inr fun g o e=>by rw [e'] at e; injection e with e; injection e with e1; omega
  have h4:4 < w.heap.size:=by obtain ⟨_,⟨t,p,h2⟩⟩:=hev; exact World.block_lt_of_cell? w _ h2
  have ht1:b = [] ∨ ∃ g o,a = some ⟨g,o,none⟩∧g < (((w.alloc (Obj.cells #[.slice pa pn pc] 23)).alloc zero9).alloc (Obj.cells #[.int .i64 0,.int .i64 0,.int .i64 0,.int .i64 0,.int .i64 0,.int .i64 0,.string { data:=#[] },.int .i64 (-1),.int .i64 0] 45)).heap.size∧∀ j,j < b.length → (((w.alloc (Obj.cells #[.slice pa pn pc] 23)).alloc zero9).alloc (Obj.cells #[.int .i64 0,.int .i64 0,.int .i64 0,.int .i64 0,.int .i64 0,.int .i64 0,.string { data:=#[] },.int .i64 (-1),.int .i64 0] 45)).cell? ⟨g,o + j,none⟩ = some (.int .u8 ((byt b j).toNat:Int)):=by
    rcases ht with h | ⟨g,o,h1,h2,h3⟩
    · exact .inl h
    · exact .inr ⟨g,o,h1,Nat.lt_of_lt_of_le h2 b1.size,fun j hj=>(b1.cell h2).trans (h3 j hj)⟩
  have hJ:JF (w.heap.size + 1 + 1) w.heap.size w.heap.size p (.slice pa pn pc) [] (((w.alloc (Obj.cells #[.slice pa pn pc] 23)).alloc zero9).alloc (Obj.cells #[.int .i64 0,.int .i64 0,.int .i64 0,.int .i64 0,.int .i64 0,.int .i64 0,.string { data:=#[] },.int .i64 (-1),.int .i64 0] 45)) (fun k=>k = w.heap.size + 1 + 1 ∨ k = w.heap.size):=⟨by omega,Nat.le_refl _,by omega,b1.size,o3,o1,hP.keep (fun k hk=>b1.block k hk),fun k=>Iff.rfl⟩
  have C:=Lib.hid (read26 (visF hl hp) hl hc hA h4 b1.size (hev.keep b1) ht1 hJ)
  have H0:=Lib.hid (And.intro b1 o2)
  clear hP hev hc ht hA h4 ht1 hJ b1 o1 o2 o3 hn1 hn2
  go_enter Tryz.func19,Tryz.ntmps19
  go_wp2_with fail
  refine C.out.mono ?_
  rintro e WW ⟨h,pp,er,S,rfl,hF,⟨_,_,_,_,h5,h6,_,_⟩,hv⟩
  have HF:=Lib.hid hF
  obtain ⟨⟨qkd,qfr,qto,qdp,qup,qnt,qky,qpl,qfi⟩,hq⟩:∃ q,(fwF p h).1 = q:=⟨_,rfl⟩
  have HQ:=Lib.hid hq
  rw [hq] at h5
  have H1:Hid (Below w.heap.size w WW∧blk WW (w.heap.size + 1) 45 #[.int .i64 0,.int .i64 0,.int .i64 0,.int .i64 0,.int .i64 0,.int .i64 0,.string { data:=#[] },.int .i64 0,.int .i64 0]∧blk WW (w.heap.size + 1 + 1) 45 #[.int .i64 qkd,.int .i64 qfr,.int .i64 qto,.int .i64 qdp,.int .i64 qup,.int .i64 qnt,.string qky,.int .i64 qpl,.int .i64 qfi]∧blk WW w.heap.size 23 #[.slice pa pn pc]):=by
    obtain ⟨q1,q2⟩:=H0.out
    refine ⟨⟨hv.os.trans q1.os,hv.tape.trans q1.tape,hv.output.trans q1.output,Nat.le_trans q1.size hv.size,fun k hk=>(hv.block k (Nat.lt_of_lt_of_le hk q1.size) (by show ¬ (k = _ ∨ k = _); omega)).trans (q1.block k hk)⟩,q2.keep (hv.block _ q2.lt (by show ¬ (_ = _ ∨ _ = _); omega)),h5,h6⟩
  clear C H0 hF h5 h6 hv hq
  generalize hAb:w.heap.size + 1 + 1 = Ab at *
  generalize hRb:w.heap.size + 1 = Rb at *
  obtain ⟨Pb,hPb⟩:∃ Pb,Pb = w.heap.size:=⟨_,rfl⟩
  have HZ:Hid (Rb = w.heap.size + 1):=hRb.symm
  have n1:Rb ≠ Ab:=by omega
  have n2:Ab ≠ Rb:=by omega
  have n3:Rb ≠ w.heap.size:=by omega
  have n4:w.heap.size ≠ Rb:=by omega
  clear hAb hRb hPb
  obtain ⟨z0,z1,z2,z3,z4,z5,z6,z7,z8⟩:=H1.out.2.1.cells9
  obtain ⟨f0,f1,f2,f3,f4,f5,f6,f7,f8⟩:=H1.out.2.1.frozen9
  obtain ⟨a0,a1,a2,a3,a4,a5,a6,a7,a8⟩:=H1.out.2.2.1.cells9
  have pcell:WW.cell? ⟨w.heap.size,0,none⟩ = some (.slice pa pn pc):=H1.out.2.2.2.cell 0
  by_cases hd:qdp = (pn:Int)
  · subst hd
    go_wp2
    obtain ⟨y1,y2⟩:=box9B H1.out.2.1 (.int .i64 qkd) (.int .i64 qfr) (.int .i64 qto) (.int .i64 (pn:Int)) (.int .i64 qup) (.int .i64 qnt) (.string qky) (.int .i64 qpl) (.int .i64 qfi)
    generalize hX:set9 WW Rb (.int .i64 qkd) (.int .i64 qfr) (.int .i64 qto) (.int .i64 (pn:Int)) (.int .i64 qup) (.int .i64 qnt) (.string qky) (.int .i64 qpl) (.int .i64 qfi) = X at *
    unfold set9 at hX
    rw [hX]
    refine bodyPost_ret (v:=.tuple #[.agg #[.int .i64 qkd,.int .i64 qfr,.int .i64 qto,.int .i64 (pn:Int),.int .i64 qup,.int .i64 qnt,.string qky,.int .i64 qpl,.int .i64 qfi],.int .i64 0]) (results_cell47t Tryz.results19 _ _ Rb _ rfl y2 rfl) rfl ?_
    refine ⟨h,pp,er,HF.out,?_,?_⟩
    · have hb:=H1.out.1
      have hz:=HZ.out
      exact ⟨y1.os.trans hb.os,y1.tape.trans hb.tape,y1.output.trans hb.output,Nat.le_trans hb.size y1.size,fun k hk=>(y1.block k (Nat.lt_of_lt_of_le hk hb.size) (by omega)).trans (hb.block k hk)⟩
    · rw [HQ.out]
      rw [if_pos rfl]
  · have hd':(qdp == (pn:Int)) = false:=beq_eq_false_iff_ne.2 hd
    have HN:=Lib.hid (nests36 ⟨qkd,qfr,qto,qdp,qup,qnt,qky,qpl,qfi⟩ WW)
    go_wp2_with fail
    refine HN.out.mono ?_
    rintro e W5 ⟨rfl,hb5⟩
    have H2:Hid (Below w.heap.size w W5∧blk W5 Rb 45 #[.int .i64 0,.int .i64 0,.int .i64 0,.int .i64 0,.int .i64 0,.int .i64 0,.string { data:=#[] },.int .i64 0,.int .i64 0]∧blk W5 Ab 45 #[.int .i64 qkd,.int .i64 qfr,.int .i64 qto,.int .i64 qdp,.int .i64 qup,.int .i64 qnt,.string qky,.int .i64 qpl,.int .i64 qfi]∧blk W5 w.heap.size 23 #[.slice pa pn pc]):=by
      obtain ⟨q1,q2,q3,q4⟩:=H1.out
      exact ⟨q1.trans (hb5.mono q1.size),q2.keep (hb5.block _ q2.lt),q3.keep (hb5.block _ q3.lt),q4.keep (hb5.block _ q4.lt)⟩
    clear HN hb5 H1 pcell z0 z1 z2 z3 z4 z5 z6 z7 z8 f0 f1 f2 f3 f4 f5 f6 f7 f8 a0 a1 a2 a3 a4 a5 a6 a7 a8
    obtain ⟨z0,z1,z2,z3,z4,z5,z6,z7,z8⟩:=H2.out.2.1.cells9
    obtain ⟨f0,f1,f2,f3,f4,f5,f6,f7,f8⟩:=H2.out.2.1.frozen9
    obtain ⟨a0,a1,a2,a3,a4,a5,a6,a7,a8⟩:=H2.out.2.2.1.cells9
    have pcell:W5.cell? ⟨w.heap.size,0,none⟩ = some (.slice pa pn pc):=H2.out.2.2.2.cell 0
    cases hn:nestB ⟨qkd,qfr,qto,qdp,qup,qnt,qky,qpl,qfi⟩ with
    | true =>
      go_wp2
      obtain ⟨y1,y2⟩:=box9B H2.out.2.1 (.int .i64 qkd) (.int .i64 qfr) (.int .i64 qto) (.int .i64 qdp) (.int .i64 qup) (.int .i64 qnt) (.string qky) (.int .i64 qpl) (.int .i64 qfi)
      generalize hX:set9 W5 Rb (.int .i64 qkd) (.int .i64 qfr) (.int .i64 qto) (.int .i64 qdp) (.int .i64 qup) (.int .i64 qnt) (.string qky) (.int .i64 qpl) (.int .i64 qfi) = X at *
      unfold set9 at hX
      rw [hX]
      refine bodyPost_ret (v:=.tuple #[.agg #[.int .i64 qkd,.int .i64 qfr,.int .i64 qto,.int .i64 qdp,.int .i64 qup,.int .i64 qnt,.string qky,.int .i64 qpl,.int .i64 qfi],.int .i64 30]) (results_cell47t Tryz.results19 _ _ Rb _ rfl y2 rfl) rfl ?_
      refine ⟨h,pp,er,HF.out,?_,?_⟩
      · have hb:=H2.out.1
        have hz:=HZ.out
        exact ⟨y1.os.trans hb.os,y1.tape.trans hb.tape,y1.output.trans hb.output,Nat.le_trans hb.size y1.size,fun k hk=>(y1.block k (Nat.lt_of_lt_of_le hk hb.size) (by omega)).trans (hb.block k hk)⟩
      · rw [HQ.out]
        rw [if_neg hd,if_pos hn]
    | false =>
      go_wp2
      obtain ⟨y1,y2⟩:=box9B H2.out.2.1 (.int .i64 qkd) (.int .i64 qfr) (.int .i64 qto) (.int .i64 qdp) (.int .i64 qup) (.int .i64 qnt) (.string qky) (.int .i64 qpl) (.int .i64 qfi)
      generalize hX:set9 W5 Rb (.int .i64 qkd) (.int .i64 qfr) (.int .i64 qto) (.int .i64 qdp) (.int .i64 qup) (.int .i64 qnt) (.string qky) (.int .i64 qpl) (.int .i64 qfi) = X at *
      unfold set9 at hX
      rw [hX]
      refine bodyPost_ret (v:=.tuple #[.agg #[.int .i64 qkd,.int .i64 qfr,.int .i64 qto,.int .i64 qdp,.int .i64 qup,.int .i64 qnt,.string qky,.int .i64 qpl,.int .i64 qfi],.int .i64 31]) (results_cell47t Tryz.results19 _ _ Rb _ rfl y2 rfl) rfl ?_
      refine ⟨h,pp,er,HF.out,?_,?_⟩
      · have hb:=H2.out.1
        have hz:=HZ.out
        exact ⟨y1.os.trans hb.os,y1.tape.trans hb.tape,y1.output.trans hb.output,Nat.le_trans hb.size y1.size,fun k hk=>(y1.block k (Nat.lt_of_lt_of_le hk hb.size) (by omega)).trans (hb.block k hk)⟩
      · rw [HQ.out]
        rw [if_neg hd,if_neg (by rw [hn]; exact Bool.false_ne_true)]
theorem Rch.free {b:List UInt8} {go:List Vi → Bool} {h:List Vi} {s:RS} (H:Rch b go h s):Rch b gT h s:=by
  induction H with
  | start=>exact .start
  | value _ hv _ ih=>exact .value ih hv rfl
  | part _ hb hp ih=>exact .part ih hb hp
  | close _ hi hb _ ih=>exact .close ih hi hb rfl
theorem Rch.went {b:List UInt8} {go:List Vi → Bool} {h:List Vi} {s:RS} (H:Rch b go h s):∀ k,0 < k → k ≤ h.length → go (h.take k) = true:=by
  induction H with
  | start=>intro k h1 h2; simp at h2; omega
  | @value h ls i n v ls' i' _ _ hg ih =>
    intro k h1 h2
    rw [List.length_append,List.length_singleton] at h2
    by_cases hk:k ≤ h.length
    · rw [List.take_append_of_le_length hk]; exact ih k h1 hk
    · rw [List.take_of_length_le (by rw [List.length_append,List.length_singleton]; omega)]; exact hg
  | part _ _ _ ih=>exact ih
  | @close h l r i n _ _ _ hg ih =>
    intro k h1 h2
    rw [List.length_append,List.length_singleton] at h2
    by_cases hk:k ≤ h.length
    · rw [List.take_append_of_le_length hk]; exact ih k h1 hk
    · rw [List.take_of_length_le (by rw [List.length_append,List.length_singleton]; omega)]; exact hg
structure Ag (x y:Sp):Prop where
  kd:y.kind = x.kind
  fr:y.fr = x.fr
  dp:y.dep = x.dep
  up:y.up = x.up
  nt:y.nth = x.nth
  ky:y.key = x.key
  to:x.to ≠ 0 → y.to = x.to
theorem Ag.refl (x:Sp):Ag x x:=⟨rfl,rfl,rfl,rfl,rfl,rfl,fun _=>rfl⟩
theorem Ag.trans {x y z:Sp} (h:Ag x y) (k:Ag y z):Ag x z:=⟨k.kd.trans h.kd,k.fr.trans h.fr,k.dp.trans h.dp,k.up.trans h.up,k.nt.trans h.nt,k.ky.trans h.ky,fun e=>(k.to (by rw [h.to e]; exact e)).trans (h.to e)⟩
structure Ext (P:Int → Prop) (A B:List Sp):Prop where
  old:∀ (j:Nat) (x:Sp),A[j]? = some x → ∃ y,B[j]? = some y∧Ag x y
  new:∀ (j:Nat) (y:Sp),A.length ≤ j → B[j]? = some y → P y.up ∨ (A.length:Int) ≤ y.up
theorem Ext.len {P:Int → Prop} {A B:List Sp} (h:Ext P A B):A.length ≤ B.length:=by
  rcases Nat.lt_or_ge B.length A.length with g | g
  · obtain ⟨y,hy,_⟩:=h.old B.length _ (List.getElem?_eq_getElem g)
    rw [List.getElem?_eq_none (Nat.le_refl _)] at hy
    cases hy
  · exact g
theorem Ext.trans {P P':Int → Prop} {A B C:List Sp} (h:Ext P A B) (k:Ext P' B C) (hp:∀ u,P' u → P u ∨ (A.length:Int) ≤ u):Ext P A C where
  old:=fun j x hx=>by
    obtain ⟨y,hy,a1⟩:=h.old j x hx
    obtain ⟨z,hz,a2⟩:=k.old j y hy
    exact ⟨z,hz,a1.trans a2⟩
  new:=fun j z hj hz=>by
    by_cases hb:j < B.length
    · obtain ⟨z',hz',a⟩:=k.old j _ (List.getElem?_eq_getElem hb)
      obtain rfl:=Option.some.inj (hz.symm.trans hz')
      rw [a.up]
      exact h.new j _ hj (List.getElem?_eq_getElem hb)
    · rcases k.new j z (by omega) hz with g | g
      · exact hp _ g
      · have:=h.len
        exact .inr (by omega)
theorem Ext.refl (P:Int → Prop) (A:List Sp):Ext P A A where
  old:=fun j x hx=>⟨x,hx,.refl x⟩
  new:=fun j y hj hy=>by rw [List.getElem?_eq_none hj] at hy; cases hy
theorem Ext.app {P:Int → Prop} {A B:List Sp} (hB:∀ y ∈ B,P y.up ∨ (A.length:Int) ≤ y.up):Ext P A (A ++ B) where
  old:=fun j x hx=>by
    have hl:=(List.getElem?_eq_some_iff.1 hx).1
    exact ⟨x,by rw [List.getElem?_append_left hl]; exact hx,.refl x⟩
  new:=fun j y hj hy=>by
    rw [List.getElem?_append_right hj] at hy
    exact hB y (List.mem_of_getElem? hy)
theorem Ext.set {P:Int → Prop} {A B:List Sp} {x y:Sp} (h:Ag x y):Ext P (A ++ x :: B) (A ++ y :: B) where
  old:=fun j z hz=>by
    by_cases h1:j < A.length
    · rw [List.getElem?_append_left h1] at hz ⊢
      exact ⟨z,hz,.refl z⟩
    · rw [List.getElem?_append_right (by omega)] at hz ⊢
      match hj:j - A.length with
      | 0 =>
        rw [hj] at hz
        simp only [List.getElem?_cons_zero,Option.some.injEq] at hz ⊢
        subst hz
        exact ⟨y,rfl,h⟩
      | m + 1 =>
        rw [hj] at hz
        simp only [List.getElem?_cons_succ] at hz ⊢
        exact ⟨z,hz,.refl z⟩
  new:=fun j z hj hz=>by
    rw [List.getElem?_eq_none (by simpa using hj)] at hz
    cases hz
def plS:List Fr → Int → Prop
  | [],k=>k = -1
  | _ :: r,k=>k = ((stS r).1.length:Int) ∨ plS r k
theorem plS_top:∀ st:List Fr,plS st (dueS st).up
  | []=>rfl
  | _ :: _=>.inl rfl
def spO:Out → List Sp
  | .go st _=>(stS st).1
  | .val t _=>walkT t 0 (dueS [])
  | .bad _ _=>[]
def plO:Out → Int → Prop
  | .go st _=>plS st
  | .val _ _=>fun _=>False
  | .bad _ _=>fun _=>False
theorem spO_deliver {st:List Fr} {t:T} {j:Nat} (hw:AW st):spO (deliver st t j) = (stS st).1 ++ walkT t (stS st).1.length (dueS st):=by
  match st,hw with
  | [],_=>rfl
  | f :: r,hw=>exact stS_join hw
theorem plO_deliver {st:List Fr} {t:T} {j:Nat} {u:Int} (h:plO (deliver st t j) u):plS st u:=by
  match st,h with
  | [],h=>exact h.elim
  | f :: r,h=>exact h
def Grow (st:List Fr) (o:Out):Prop:=Ext (plS st) (stS st).1 (spO o)∧∀ u,plO o u → plS st u ∨ ((stS st).1.length:Int) ≤ u
theorem grow_leaf {st:List Fr} {t:T} {j:Nat} (hw:AW st) (ht:t = tNum t.n ∨ t = tStr t.s):Grow st (deliver st t j):=by
  refine ⟨?_,fun u hu=>.inl (plO_deliver hu)⟩
  rw [spO_deliver hw]
  refine Ext.app fun y hy=>.inl ?_
  have e:y.up = (dueS st).up:=by
    rcases ht with e | e
    · rw [e,walkT_num] at hy; rw [List.mem_singleton.1 hy]
    · rw [e,walkT_str] at hy; rw [List.mem_singleton.1 hy]
  rw [e]
  exact plS_top st
theorem grow_open {st:List Fr} (d:Bool) (i:Nat):Grow st (.go ({ d:=d } :: st) i):=by
  refine ⟨?_,fun u hu=>?_⟩
  · show Ext _ _ (stS ({ d:=d } :: st)).1
    rw [stS_open]
    refine Ext.app fun y hy=>.inl ?_
    rw [List.mem_singleton.1 hy]
    exact plS_top st
  · rcases hu with rfl | hu
    · exact .inr (Int.le_refl _)
    · exact .inl hu
theorem grow_close {f:Fr} {r:List Fr} {i:Nat} (hw:AW r):Grow (f :: r) (deliver r f.close i):=by
  refine ⟨?_,fun u hu=>.inl (.inr (plO_deliver hu))⟩
  rw [spO_deliver hw,stS_close,stS_top]
  exact Ext.set ⟨rfl,rfl,rfl,rfl,rfl,rfl,fun e=>absurd rfl e⟩
theorem grow_opn {b:List UInt8} {st:List Fr} {i:Nat} (hw:AW st) (hb:∀ p e,opn b st i ≠ .bad p e):Grow st (opn b st i):=by
  unfold opn at hb ⊢
  split
  · rename_i h1
    rw [if_pos h1] at hb
    split
    · rename_i h2; rw [if_pos h2] at hb; exact absurd rfl (hb _ _)
    · exact grow_open false _
  · rename_i h1
    rw [if_neg h1] at hb
    split
    · rename_i h3
      rw [if_pos h3] at hb
      split
      · rename_i h2; rw [if_pos h2] at hb; exact absurd rfl (hb _ _)
      · exact grow_open true _
    · rename_i h3
      rw [if_neg h3] at hb
      unfold scal at hb ⊢
      split
      · rename_i h4
        rw [if_pos h4] at hb
        cases hn:numb b i with
        | bad p e=>rw [hn] at hb; exact absurd rfl (hb _ _)
        | ok n j=>exact grow_leaf hw (.inl rfl)
      · rename_i h4
        rw [if_neg h4] at hb
        split
        · rename_i h5
          rw [if_pos h5] at hb
          cases hn:strg b i with
          | bad p e=>rw [hn] at hb; exact absurd rfl (hb _ _)
          | ok n j=>exact grow_leaf hw (.inr rfl)
        · rename_i h5
          rw [if_neg h5] at hb
          exact absurd rfl (hb _ _)
theorem grow_step {b:List UInt8} {st:List Fr} {i:Nat} (hO:OI b (.go st i)) (hb:∀ p e,step b st i ≠ .bad p e):Grow st (step b st i):=by
  obtain ⟨_,_,hs⟩:=hO
  unfold step at hb ⊢
  split
  · rename_i h1; rw [if_pos h1] at hb; exact absurd rfl (hb _ _)
  · rename_i h1
    rw [if_neg h1] at hb
    match st,hs,hb with
    | [],hs,hb=>exact grow_opn trivial hb
    | f :: r,hs,hb =>
      dsimp only at hb ⊢
      split
      · rename_i hf
        rw [if_pos hf] at hb
        split
        · exact grow_close hs.2.1
        · rename_i hc
          rw [if_neg hc] at hb
          unfold keyy at hb ⊢
          split
          · rename_i h2; rw [if_pos h2] at hb; exact absurd rfl (hb _ _)
          · rename_i h2
            rw [if_neg h2] at hb
            cases hn:strg b i with
            | bad p e=>rw [hn] at hb; exact absurd rfl (hb _ _)
            | ok s j =>
              rw [hn] at hb
              dsimp only at hb ⊢
              split
              · rename_i h3; rw [if_pos h3] at hb; exact absurd rfl (hb _ _)
              · exact ⟨Ext.refl _ _,fun u hu=>.inl hu⟩
      · rename_i hf
        rw [if_neg hf] at hb
        split
        · exact grow_close hs.2.1
        · rename_i hc
          rw [if_neg hc] at hb
          refine grow_opn (fun e=>?_) hb
          cases hh:f.has with
          | true=>rfl
          | false=>exact absurd ⟨e,hh⟩ hf
theorem run_grow {b:List UInt8} (hlim:b.length ≤ 1048576) {o q:Out} (H:Run b o q):∀ {t:T} {n:Nat},q = .val t n → OI b o → Ext (plO o) (spO o) (walkT t 0 (dueS [])):=by
  induction H with
  | refl o=>intro t n e _; subst e; exact Ext.refl _ _
  | @more st i o hr ih =>
    intro t n e hO
    subst e
    have hb:∀ p e,step b st i ≠ .bad p e:=fun p e h=>by
      rw [h] at hr
      cases hr
    obtain ⟨h1,h2⟩:=grow_step hO hb
    exact h1.trans (ih rfl (oi_step (by omega) hO)) h2
theorem Run.rest {b:List UInt8} {o p q:Out} (h:Run b o p) (k:Run b o q) (hq:q.fin):Run b p q:=by
  induction h with
  | refl o=>exact k
  | more _ ih =>
    cases k with
    | refl=>exact hq.elim
    | more k'=>exact ih k'
theorem dout_run {b:List UInt8} {t:T} {k:Nat} (h:DOUT b t k 0):∃ n,Run b (.go [] 0) (.val t n):=by
  rcases h with ⟨_,_,_,n,hr,_⟩ | ⟨_,⟨e,_⟩ | ⟨hr,_⟩ | ⟨_,_,e⟩⟩
  · exact ⟨n,hr⟩
  · cases e
  · have:=run_er hr; omega
  · cases e
structure Eq6 (x y:Vi):Prop where
  kd:y.kd = x.kd
  fr:y.fr = x.fr
  dp:y.dp = x.dp
  up:y.up = x.up
  nt:y.nt = x.nt
  ky:y.ky = x.ky
theorem Eq6.refl (x:Vi):Eq6 x x:=⟨rfl,rfl,rfl,rfl,rfl,rfl⟩
theorem Eq6.trans {x y z:Vi} (h:Eq6 x y) (k:Eq6 y z):Eq6 x z:=⟨k.kd.trans h.kd,k.fr.trans h.fr,k.dp.trans h.dp,k.up.trans h.up,k.nt.trans h.nt,k.ky.trans h.ky⟩
theorem Eq6.symm {x y:Vi} (h:Eq6 x y):Eq6 y x:=⟨h.kd.symm,h.fr.symm,h.dp.symm,h.up.symm,h.nt.symm,h.ky.symm⟩
structure EX (ls:List Lv) (K L:List Vi):Prop where
  old:∀ (j:Nat) (x:Vi),K[j]? = some x → ∃ y,L[j]? = some y∧Eq6 x y∧(x.to ≠ 0 → y.to = x.to)
  new:∀ (j:Nat) (y:Vi),K.length ≤ j → L[j]? = some y → (y.up = -1 ∨ ∃ l ∈ ls,l.pl = y.up) ∨ (K.length:Int) ≤ y.up
theorem plS_ls:∀ {ls:List Lv} {st:List Fr},LRw ls st → ∀ {k:Int},plS st k → k = -1 ∨ ∃ l ∈ ls,l.pl = k
  | [], [],_,_,h=>.inl h
  | l :: r,f :: s,hw,k,h=>by
    rcases h with h | h
    · exact .inr ⟨l,by simp,by rw [hw.1.bs.pl,h]⟩
    · rcases plS_ls hw.2 h with e | ⟨x,hx,e⟩
      · exact .inl e
      · exact .inr ⟨x,by simp [hx],e⟩
  | [],_ :: _,h,_,_=>h.elim
  | _ :: _, [],h,_,_=>h.elim
theorem EX.of {ls:List Lv} {K:List Vi} {A B:List Sp} {P:Int → Prop} (h:K.map Vi.o = A.map Sp.v) (hx:Ext P A B) (hP:∀ k,P k → k = -1 ∨ ∃ l ∈ ls,l.pl = k):EX ls K (B.map Sp.v):=by
  have hl:K.length = A.length:=by rw [← List.length_map (f:=Vi.o),h,List.length_map]
  constructor
  · intro j x hj
    have h1:(A.map Sp.v)[j]? = some x.o:=by rw [← h,List.getElem?_map,hj]; rfl
    rw [List.getElem?_map,Option.map_eq_some_iff] at h1
    obtain ⟨a,ha,hax⟩:=h1
    obtain ⟨y,hy,ag⟩:=hx.old j a ha
    refine ⟨y.v,by rw [List.getElem?_map,hy]; rfl,⟨?_,?_,?_,?_,?_,?_⟩,fun hne=>?_⟩
    · rw [show x.kd = x.o.kd from rfl, ← hax]; exact ag.kd
    · rw [show x.fr = x.o.fr from rfl, ← hax]; exact congrArg Int.ofNat ag.fr
    · rw [show x.dp = x.o.dp from rfl, ← hax]; exact congrArg Int.ofNat ag.dp
    · rw [show x.up = x.o.up from rfl, ← hax]; exact ag.up
    · rw [show x.nt = x.o.nt from rfl, ← hax]; exact congrArg Int.ofNat ag.nt
    · rw [show x.ky = x.o.ky from rfl, ← hax]; exact ag.ky
    · rw [show x.to = x.o.to from rfl, ← hax] at hne ⊢
      have hne':a.to ≠ 0:=fun e=>hne (by show (a.to:Int) = 0; rw [e]; rfl)
      exact congrArg Int.ofNat (ag.to hne')
  · intro j y hj hy
    rw [List.getElem?_map,Option.map_eq_some_iff] at hy
    obtain ⟨a,ha,rfl⟩:=hy
    rcases hx.new j a (by omega) ha with g | g
    · exact .inl (hP _ g)
    · exact .inr (by rw [hl]; exact g)
theorem Rch.ext {b:List UInt8} (hlim:b.length ≤ 1048576) {h:List Vi} {s:RS} (H:Rch b gT h s) {t:T} {k:Nat} (hd:DOUT b t k 0):EX s.ls (sk h) ((walkT t 0 (dueS [])).map Sp.v):=by
  obtain ⟨n,hr⟩:=dout_run hd
  have hp:=H.plain hlim
  have h0:OI b (.go [] 0):=⟨Nat.zero_le _,rfl,trivial⟩
  match s,hp with
  | .val ls i m,hp =>
    obtain ⟨st,h1,_,h3,h4⟩:=hp
    exact EX.of h4 (run_grow hlim (h1.rest hr trivial) rfl (oi_run (by omega) h1 h0)) fun k hk=>plS_ls h3 hk
  | .mid [] i m,hp =>
    obtain ⟨t',h1,h4⟩:=hp
    have e:=Run.unique h1 hr trivial trivial
    injection e with e1 e2
    subst e1
    exact EX.of h4 (Ext.refl (fun _=>False) _) fun k hk=>hk.elim
  | .mid (l :: r) i m,hp =>
    obtain ⟨f,st,h1,h2,h3,h4⟩:=hp
    refine EX.of h4 (run_grow hlim (h1.rest hr trivial) rfl (oi_run (by omega) h1 h0)) fun k hk=>?_
    rcases hk with rfl | hk
    · exact .inr ⟨l,by simp [RS.ls],h2.bs.pl⟩
    · rcases plS_ls h3 hk with e | ⟨x,hx,e⟩
      · exact .inl e
      · exact .inr ⟨x,by simp [RS.ls,hx],e⟩
def stM (k:Int) (here:Nat) (nm:Int) (ky:ByteArray) (x:Vi):Prop:=x.up = (here:Int)∧((k = 3∧x.nt = nm) ∨ (k = 4∧x.ky = ky))
inductive Led (p:List (Int × ByteArray)) (L:List Vi):Nat → Nat → Prop where
  | root:Led p L 0 0
  | next {d r r':Nat} {n:Int} {k:ByteArray} {y x:Vi}:Led p L d r → p[d]? = some (n,k) → L[r]? = some y → (y.kd = 3 ∨ y.kd = 4) → r < r' → L[r']? = some x → stM y.kd r n k x → (∀ (j:Nat) (z:Vi),r < j → j < r' → L[j]? = some z → ¬ stM y.kd r n k z) → Led p L (d + 1) r'
theorem Led.le {p:List (Int × ByteArray)} {L:List Vi} {d r:Nat} (h:Led p L d r):d ≤ p.length:=by
  cases h with
  | root=>exact Nat.zero_le _
  | next _ h _ _ _ _ _ _=>exact (List.getElem?_eq_some_iff.1 h).1
def Sub (K L:List Vi):Prop:=∀ (j:Nat) (x:Vi),K[j]? = some x → ∃ y,L[j]? = some y∧Eq6 x y
theorem stM.eq {k:Int} {r:Nat} {n:Int} {s:ByteArray} {x y:Vi} (h:stM k r n s x) (e:Eq6 x y):stM k r n s y:=by
  unfold stM at h ⊢
  rw [e.up,e.nt,e.ky]
  exact h
theorem Led.mono {p:List (Int × ByteArray)} {K L:List Vi} (hs:Sub K L) {d r:Nat} (h:Led p K d r):Led p L d r:=by
  induction h with
  | root=>exact .root
  | @next d r r' n k y x _ h1 h2 h3 h4 h5 h6 h7 ih =>
    obtain ⟨y',hy',ey⟩:=hs r y h2
    obtain ⟨x',hx',ex⟩:=hs r' x h5
    refine .next ih h1 hy' (by rw [ey.kd]; exact h3) h4 hx' (by rw [ey.kd]; exact h6.eq ex) fun j z hj1 hj2 hz=>?_
    rw [ey.kd]
    have hl:=(List.getElem?_eq_some_iff.1 h5).1
    have hjl:j < K.length:=by omega
    obtain ⟨z',hz',ez⟩:=hs j _ (List.getElem?_eq_getElem hjl)
    obtain rfl:=Option.some.inj (hz.symm.trans hz')
    exact fun hm=>h7 j _ hj1 hj2 (List.getElem?_eq_getElem hjl) (hm.eq ez.symm)
theorem sub_app (K B:List Vi):Sub K (K ++ B):=fun j x hx=>⟨x,by rw [List.getElem?_append_left (List.getElem?_eq_some_iff.1 hx).1]; exact hx,.refl x⟩
theorem get_modify (K:List Vi) (k:Nat) (to:Int) (j:Nat):(K.modify k fun x=>{ x with to:=to })[j]? = (K[j]?).map fun x=>if k = j then { x with to:=to } else x:=by
  rw [List.getElem?_modify]; rfl
theorem sub_modify (K:List Vi) (k:Nat) (to:Int):Sub K (K.modify k fun x=>{ x with to:=to }):=fun j x hx=>by
  refine ⟨if k = j then { x with to:=to } else x,by rw [get_modify,hx]; rfl,?_⟩
  split
  · exact ⟨rfl,rfl,rfl,rfl,rfl,rfl⟩
  · exact .refl x
theorem modify_sub (K:List Vi) (k:Nat) (to:Int):Sub (K.modify k fun x=>{ x with to:=to }) K:=fun j x hx=>by
  rw [get_modify,Option.map_eq_some_iff] at hx
  obtain ⟨y,hy,rfl⟩:=hx
  refine ⟨y,hy,?_⟩
  split
  · exact ⟨rfl,rfl,rfl,rfl,rfl,rfl⟩
  · exact .refl y
theorem sk_new {h:List Vi} {v:Vi} (hp:v.pl = ((sk h).length:Int)):sk (h ++ [v]) = sk h ++ [v]:=by
  rw [sk_snoc]
  unfold skStep
  rw [if_pos hp,hp]
  exact modify_mid (fun x:Vi=>{ x with to:=v.to }) v [] (sk h)
theorem sk_old {h:List Vi} {v:Vi} {k:Nat} (hp:v.pl = (k:Int)) (hk:k < (sk h).length):sk (h ++ [v]) = (sk h).modify k fun x=>{ x with to:=v.to }:=by
  rw [sk_snoc]
  unfold skStep
  rw [if_neg (by omega),hp]
  rfl
def upOf:List Lv → Int
  | []=>-1
  | l :: _=>l.pl
def Lv.bg (l:Lv):Vi:=⟨l.kd,l.fr,0,l.dp,l.up,l.nt,l.ky,l.pl,l.fi⟩
def LK (K:List Vi):List Lv → Prop
  | []=>True
  | l :: r=>(l.up = upOf r∧l.dp = (r.length:Int)∧upOf r < l.pl∧∃ x,K[l.pl.toNat]? = some x∧Eq6 l.bg x)∧LK K r
theorem LK.mono {K L:List Vi} (hs:Sub K L):∀ {ls:List Lv},LK K ls → LK L ls
  | [],_=>trivial
  | _ :: _,⟨⟨h1,h2,h3,x,h4,h5⟩,h⟩=>by
    obtain ⟨y,hy,e⟩:=hs _ x h4
    exact ⟨⟨h1,h2,h3,y,hy,h5.trans e⟩,h.mono hs⟩
theorem LK.up {K:List Vi}:∀ {ls:List Lv},LK K ls → -1 ≤ upOf ls
  | [],_=>Int.le_refl _
  | _ :: r,h=>by
    have:=LK.up (ls:=r) h.2
    have:=h.1.2.2.1
    show -1 ≤ Lv.pl _
    omega
theorem LK.lt {K:List Vi}:∀ {u:List Lv} {l:Lv} {r:List Lv},LK K (u ++ l :: r) → ∀ a ∈ u,l.pl < a.pl
  | [],_,_,_,_,ha=>by cases ha
  | a :: u,l,r,h,x,hx=>by
    rcases List.mem_cons.1 hx with rfl | hx
    · have h3:=h.1.2.2.1
      cases u with
      | nil=>exact h3
      | cons c u =>
        have h4:c.pl < x.pl:=h3
        have:=LK.lt (u:=c :: u) h.2 c (by simp)
        omega
    · exact LK.lt (u:=u) h.2 x hx
theorem LK.mem {K:List Vi}:∀ {u:List Lv} {l:Lv} {r:List Lv},LK K (u ++ l :: r) → LK K (l :: r)
  | [],_,_,h=>h
  | _ :: u,_,_,h=>LK.mem (u:=u) h.2
theorem vg_facts {b:List UInt8} (hlim:b.length ≤ 1048576) {go:List Vi → Bool} {h:List Vi} {ls:List Lv} {i n:Nat} {v:Vi} {ls':List Lv} {i':Nat} (hr:Rch b go h (.val ls i n)) (hv:VG b ls i n v ls' i') :
    v.pl = (n:Int)∧v.up = upOf ls∧v.dp = (ls.length:Int)∧((v.to ≠ 0∧ls' = ls) ∨ (v.to = 0∧ls' = newL v :: ls∧(v.kd = 3 ∨ v.kd = 4)∧(newL v).bg = v)):=by
  have hi:i ≤ b.length:=(hr.ok hlim).1
  have hu:(dueV ls i n).up = upOf ls:=by cases ls <;> rfl
  obtain ⟨d1,d2,d3,d4⟩:=due_fr' ls i n
  rcases hv with ⟨t,j,c1,c2,c3,rfl,rfl,rfl⟩ | ⟨c1,c2,c3,rfl,rfl⟩
  · have hj:=leaf_pos hi hlim c1 c2 c3
    exact ⟨d3,hu,due_dpt _ _ _,.inl ⟨by show (i:Int) + (j:Int) ≠ 0; omega,rfl⟩⟩
  · have key:∀ kdv:Int,(kdv = 3 ∨ kdv = 4) → v = { dueV ls i n with kd:=kdv } → v.pl = (n:Int)∧v.up = upOf ls∧v.dp = (ls.length:Int)∧((v.to ≠ 0∧newL v :: ls = ls) ∨ (v.to = 0∧newL v :: ls = newL v :: ls∧(v.kd = 3 ∨ v.kd = 4)∧(newL v).bg = v)):=by
      intro kdv hk hv
      subst hv
      refine ⟨d3,hu,due_dpt _ _ _,.inr ⟨d2,rfl,hk,?_⟩⟩
      show (⟨_,_,0,_,_,_,_,_,_⟩:Vi) = ⟨_,_,(dueV ls i n).to,_,_,_,_,_,_⟩
      rw [d2]
      rfl
    rcases c3 with ⟨_,hv⟩ | ⟨_,hv⟩
    · exact key 3 (.inl rfl) hv
    · exact key 4 (.inr rfl) hv
theorem part_same {b:List UInt8} {l l':Lv} {i i':Nat} (hp:PGd b l i l' i'):l'.bg = l.bg:=by
  rcases hp with ⟨_,rfl,_⟩ | ⟨_,_,t,j,_,_,rfl,_⟩ <;> rfl
theorem bg_fields {l l':Lv} (h:l'.bg = l.bg):l'.kd = l.kd∧l'.up = l.up∧l'.dp = l.dp∧l'.pl = l.pl:=
  ⟨congrArg Vi.kd h,congrArg Vi.up h,congrArg Vi.dp h,congrArg Vi.pl h⟩
theorem Rch.lk {b:List UInt8} (hlim:b.length ≤ 1048576) {go:List Vi → Bool} {h:List Vi} {s:RS} (H:Rch b go h s):LK (sk h) s.ls:=by
  induction H with
  | start=>trivial
  | @value h ls i n v ls' i' hr hv _ ih =>
    obtain ⟨f1,f2,f3,f4⟩:=vg_facts hlim hr hv
    obtain ⟨pn,pl⟩:=hr.places
    have pn':(sk h).length = n:=pn
    have ih':LK (sk h) ls:=ih
    rw [sk_new (by rw [pn']; exact f1)]
    have hb:=ih'.mono (sub_app (sk h) [v])
    show LK _ ls'
    rcases f4 with ⟨_,rfl⟩ | ⟨_,rfl,_,hbg⟩
    · exact hb
    · obtain ⟨_,g2,g3,g4⟩:=(⟨rfl,rfl,rfl,rfl⟩:(newL v).kd = v.kd∧(newL v).up = v.up∧(newL v).dp = v.dp∧(newL v).pl = v.pl)
      refine ⟨⟨g2.trans f2,g3.trans f3,?_,v,?_,by rw [hbg]; exact .refl v⟩,hb⟩
      · rw [g4,f1]
        cases ls with
        | nil=>show (-1:Int) < _; omega
        | cons l r=>exact (pl l (by simp [RS.ls])).2
      · rw [g4,f1,show ((n:Int)).toNat = n from rfl, ← pn']
        simp
  | @part h l r i n l' i' _ _ hp ih =>
    obtain ⟨⟨h1,h2,h3,x,h4,h5⟩,h6⟩:LK (sk h) (l :: r):=ih
    have e:=part_same hp
    obtain ⟨_,e2,e3,e4⟩:=bg_fields e
    exact ⟨⟨e2.trans h1,e3.trans h2,by rw [e4]; exact h3,x,by rw [e4]; exact h4,by rw [e]; exact h5⟩,h6⟩
  | @close h l r i n hr _ _ _ ih =>
    obtain ⟨_,h6⟩:LK (sk h) (l :: r):=ih
    obtain ⟨pn,pl⟩:=hr.places
    have pn':(sk h).length = n:=pn
    have hl:=pl l (by simp [RS.ls])
    have hl2:l.pl < (n:Int):=hl.2
    rw [sk_old (v:=endV l i) (k:=l.pl.toNat) (by show l.pl = _; omega) (by omega)]
    exact h6.mono (sub_modify _ _ _)
theorem fw_lead {p:List (Int × ByteArray)} {q v:Vi} (h1:v.up = q.pl) (h2:leadsP p q.kd v = true):fw p q v = (v,decide (v.to = 0)):=by
  unfold fw fwS
  rw [if_pos ⟨h1,h2⟩]
  by_cases ht:v.to = 0
  · rw [fwE_miss (fun h=>h.2 ht)]; simp [ht]
  · rw [fwE_hit rfl ht]; simp [ht]
theorem fw_past {p:List (Int × ByteArray)} {q v:Vi} (h1:¬ (v.up = q.pl∧leadsP p q.kd v = true)) (h2:v.pl ≠ q.pl):fw p q v = (q,true):=by
  unfold fw fwS
  rw [if_neg h1,fwE_miss (fun h=>h2 h.1)]
theorem fw_end {p:List (Int × ByteArray)} {q v:Vi} (h1:¬ (v.up = q.pl∧leadsP p q.kd v = true)) (h2:v.pl = q.pl) (h3:v.to ≠ 0):fw p q v = (v,false):=by
  unfold fw fwS
  rw [if_neg h1,fwE_hit h2 h3]
theorem leads_iff {p:List (Int × ByteArray)} {ar:Int} {v:Vi} {d here:Nat} (ha:ar = 3 ∨ ar = 4) (hd:v.dp = ((d + 1:Nat):Int)) (hu:v.up = (here:Int)):leadsP p ar v = true ↔ ∃ n k,p[d]? = some (n,k)∧stM ar here n k v:=by
  unfold leadsP
  rw [if_neg (by rw [hd]; omega),hd,show (((d + 1:Nat):Int) - 1).toNat = d by omega]
  cases hp:p[d]? with
  | none=>exact ⟨fun h=>by simp at h,fun ⟨n,k,h,_⟩=>by cases h⟩
  | some nk =>
    obtain ⟨n,k⟩:=nk
    dsimp only
    constructor
    · intro h
      refine ⟨n,k,rfl,hu,?_⟩
      rcases ha with rfl | rfl
      · rw [if_pos rfl] at h
        exact .inl ⟨rfl,by simpa using (beq_iff_eq.1 h).symm⟩
      · rw [if_neg (by decide)] at h
        exact .inr ⟨rfl,ba_ext (by rw [← ByteArray.toList_eq, ← ByteArray.toList_eq]; exact (beq_iff_eq.1 h).symm)⟩
    · rintro ⟨n',k',e,_,h⟩
      cases e
      rcases h with ⟨rfl,h⟩ | ⟨rfl,h⟩
      · rw [if_pos rfl,h]; exact beq_self_eq_true _
      · rw [if_neg (by decide),h]; exact beq_self_eq_true _
def NoM (p:List (Int × ByteArray)) (K:List Vi) (l:Lv) (d:Nat):Prop:=∀ n k,p[d]? = some (n,k) → ∀ (j:Nat) (x:Vi),l.pl.toNat < j → K[j]? = some x → ¬ stM l.kd l.pl.toNat n k x
def FI (p:List (Int × ByteArray)) (K:List Vi) (q:Vi) (ls:List Lv):Prop:=∃ u l r,ls = u ++ l :: r∧q = l.bg∧(l.kd = 3 ∨ l.kd = 4)∧Led p K r.length l.pl.toNat∧NoM p K l r.length
theorem fw_value {p:List (Int × ByteArray)} {K:List Vi} {q:Vi} {ls:List Lv} {v:Vi} (h:(K = []∧ls = []∧q = fw0) ∨ FI p K q ls) (hk:LK K ls) (hp:∀ l ∈ ls,l.pl < (K.length:Int)) (v1:v.pl = (K.length:Int)) (v2:v.up = upOf ls) (v3:v.dp = (ls.length:Int)) :
    (fw p q v = (v,decide (v.to = 0))∧Led p (K ++ [v]) ls.length K.length) ∨ (fw p q v = (q,true)∧FI p (K ++ [v]) q ls):=by
  rcases h with ⟨rfl,rfl,rfl⟩ | ⟨u,l,r,rfl,rfl,hc,hl,hn⟩
  · refine .inl ⟨fw_lead v2 ?_,.root⟩
    unfold leadsP
    rw [if_pos (show v.dp = 0 from v3)]
  · have hm:=hk.mem
    obtain ⟨⟨k1,k2,k3,y,k4,k5⟩,k6⟩:=hm
    have h0:0 ≤ l.pl:=by have:=k6.up; omega
    have hlt:l.pl < (K.length:Int):=hp l (by simp)
    have hne:v.pl ≠ l.bg.pl:=by show v.pl ≠ l.pl; omega
    have newNoM:(∀ n k,p[r.length]? = some (n,k) → ¬ stM l.kd l.pl.toNat n k v) → NoM p (K ++ [v]) l r.length:=by
      intro hv n k hpk j x hj hx
      by_cases hjl:j < K.length
      · rw [List.getElem?_append_left hjl] at hx
        exact hn n k hpk j x hj hx
      · rw [List.getElem?_append_right (by omega)] at hx
        have hjl':=(List.getElem?_eq_some_iff.1 hx).1
        have:j - K.length = 0:=by simp at hjl'; omega
        rw [this] at hx
        obtain rfl:=Option.some.inj hx
        exact hv n k hpk
    cases u with
    | nil =>
      have v2':v.up = l.pl:=v2
      have v2n:v.up = (l.pl.toNat:Int):=by omega
      have v3':v.dp = ((r.length + 1:Nat):Int):=v3
      by_cases hle:leadsP p l.kd v = true
      · refine .inl ⟨fw_lead v2' hle,?_⟩
        obtain ⟨n,k,hpk,hst⟩:=(leads_iff hc v3' v2n).1 hle
        have hyk:y.kd = l.kd:=k5.kd
        show Led p (K ++ [v]) (r.length + 1) K.length
        refine .next (y:=y) (x:=v) (hl.mono (sub_app K [v])) hpk (by rw [List.getElem?_append_left (by omega)]; exact k4) (by rw [hyk]; exact hc) (by omega) (by simp) (by rw [hyk]; exact hst) fun j z hj1 hj2 hz=>?_
        rw [List.getElem?_append_left hj2] at hz
        rw [hyk]
        exact hn n k hpk j z hj1 hz
      · refine .inr ⟨fw_past (fun h=>hle h.2) hne, [],l,r,rfl,rfl,hc,hl.mono (sub_app K [v]),newNoM fun n k hpk hst=>hle ((leads_iff hc v3' v2n).2 ⟨n,k,hpk,hst⟩)⟩
    | cons a u =>
      have hal:l.pl < a.pl:=hk.lt a (by simp)
      have v2':v.up = a.pl:=v2
      exact .inr ⟨fw_past (fun h=>by have h1:v.up = l.pl:=h.1; omega) hne,a :: u,l,r,rfl,rfl,hc,hl.mono (sub_app K [v]),newNoM fun n k hpk hst=>by have:=hst.1; omega⟩
theorem fw_close {p:List (Int × ByteArray)} {K:List Vi} {q:Vi} {l0:Lv} {r0:List Lv} {i:Nat} (h:FI p K q (l0 :: r0)) (hk:LK K (l0 :: r0)) :
    (fw p q (endV l0 i) = (endV l0 i,false)∧(l0.kd = 3 ∨ l0.kd = 4)∧Led p K r0.length l0.pl.toNat∧NoM p K l0 r0.length) ∨ (fw p q (endV l0 i) = (q,true)∧FI p K q r0):=by
  obtain ⟨u,l,r,e,rfl,hc,hl,hn⟩:=h
  have hto:(endV l0 i).to ≠ 0:=by show (i:Int) + 1 ≠ 0; omega
  cases u with
  | nil =>
    injection e with e1 e2
    subst e1 e2
    refine .inl ⟨fw_end (fun h=>?_) rfl hto,hc,hl,hn⟩
    have h1:l0.up = l0.pl:=h.1
    have h2:=hk.1.1
    have h3:=hk.1.2.2.1
    omega
  | cons a u =>
    injection e with e1 e2
    subst e1 e2
    have hal:l.pl < l0.pl:=LK.lt (u:=l0 :: u) hk l0 (by simp)
    have hm:=LK.mem (u:=l0 :: u) hk
    obtain ⟨⟨k1,k2,k3,y,k4,k5⟩,k6⟩:=hm
    have h0:0 ≤ l.pl:=by have:=k6.up; omega
    refine .inr ⟨fw_past (fun h=>?_) (by show l0.pl ≠ l.pl; omega),u,l,r,rfl,rfl,hc,hl,hn⟩
    have h1:l0.up = l.pl:=h.1
    have h2:l0.up = upOf (u ++ l :: r):=hk.1.1
    cases u with
    | nil =>
      obtain ⟨x,hx,ex⟩:=hk.1.2.2.2
      have h3:l0.dp = ((r.length + 1:Nat):Int):=hk.1.2.1
      obtain ⟨n,k,hpk,hst⟩:=(leads_iff (v:=endV l0 i) (d:=r.length) (here:=l.pl.toNat) hc h3 (by show l0.up = _; omega)).1 h.2
      exact hn n k hpk l0.pl.toNat x (by omega) hx (hst.eq ⟨ex.kd,ex.fr,ex.dp,ex.up,ex.nt,ex.ky⟩)
    | cons c u =>
      have h3:l0.up = c.pl:=h2
      have h4:=LK.lt (u:=c :: u) hk.2 c (by simp)
      omega
theorem NoM.mono {p:List (Int × ByteArray)} {K L:List Vi} (hs:Sub L K) {l:Lv} {d:Nat} (h:NoM p K l d):NoM p L l d:=fun n k hp j x hj hx hm=>by
  obtain ⟨y,hy,e⟩:=hs j x hx
  exact h n k hp j y hj hy (hm.eq e)
theorem FI.mono {p:List (Int × ByteArray)} {K L:List Vi} (h1:Sub K L) (h2:Sub L K) {q:Vi} {ls:List Lv} (h:FI p K q ls):FI p L q ls:=by
  obtain ⟨u,l,r,e1,e2,hc,hl,hn⟩:=h
  exact ⟨u,l,r,e1,e2,hc,hl.mono h1,hn.mono h2⟩
theorem Rch.fi {b:List UInt8} (hlim:b.length ≤ 1048576) {p:List (Int × ByteArray)} {h:List Vi} {s:RS} (H:Rch b (goF p) h s):(h = []∧s = .val [] 0 0) ∨ FI p (sk h) (fwF p h).1 s.ls:=by
  induction H with
  | start=>exact .inl ⟨rfl,rfl⟩
  | @value h ls i n v ls' i' hr hv hg ih =>
    obtain ⟨f1,f2,f3,f4⟩:=vg_facts hlim hr hv
    obtain ⟨pn,pl⟩:=hr.places
    have pn':(sk h).length = n:=pn
    have hk:LK (sk h) ls:=hr.lk hlim
    have ih':(sk h = []∧ls = []∧(fwF p h).1 = fw0) ∨ FI p (sk h) (fwF p h).1 ls:=by
      rcases ih with ⟨rfl,e⟩ | ih
      · injection e with e1
        exact .inl ⟨rfl,e1,rfl⟩
      · exact .inr ih
    have hg':(fw p (fwF p h).1 v).2 = true:=by rw [← fwF_snoc]; exact hg
    refine .inr ?_
    rw [sk_new (by rw [pn']; exact f1),fwF_snoc]
    show FI p _ _ ls'
    rcases fw_value (p:=p) ih' hk (fun l hl=>by rw [pn']; exact (pl l hl).2) (by rw [pn']; exact f1) f2 f3 with ⟨e,hled⟩ | ⟨e,hfi⟩
    · rw [e] at hg' ⊢
      have ht:v.to = 0:=by simpa using hg'
      rcases f4 with ⟨h1,_⟩ | ⟨_,rfl,hc,hbg⟩
      · exact absurd ht h1
      · have g1:(newL v).kd = v.kd:=rfl
        have g4:(newL v).pl = v.pl:=rfl
        have hpl:(newL v).pl.toNat = (sk h).length:=by rw [g4,f1,pn']; rfl
        refine ⟨[],newL v,ls,rfl,hbg.symm,by rw [g1]; exact hc,by rw [hpl]; exact hled,fun n' k _ j x hj hx=>?_⟩
        rw [hpl] at hj
        rw [List.getElem?_eq_none (by simp; omega)] at hx
        cases hx
    · rw [e]
      rcases f4 with ⟨_,rfl⟩ | ⟨_,rfl,_,_⟩
      · exact hfi
      · obtain ⟨u,l,r,e1,e2,hc,hl,hn⟩:=hfi
        exact ⟨newL v :: u,l,r,by rw [e1]; rfl,e2,hc,hl,hn⟩
  | @part h l r i n l' i' _ _ hp ih =>
    rcases ih with ⟨_,e⟩ | ih
    · cases e
    · refine .inr ?_
      obtain ⟨u,l2,r2,e1,e2,hc,hl,hn⟩:=ih
      have e:=part_same hp
      obtain ⟨g1,_,_,g4⟩:=bg_fields e
      cases u with
      | nil =>
        have e1':l :: r = l2 :: r2:=e1
        injection e1' with e3 e4
        subst e3 e4
        refine ⟨[],l',r,rfl,by rw [e]; exact e2,by rw [g1]; exact hc,by rw [g4]; exact hl,fun n' k hpk j x hj hx=>?_⟩
        rw [g4] at hj ⊢
        rw [g1]
        exact hn n' k hpk j x hj hx
      | cons a u =>
        have e1':l :: r = a :: (u ++ l2 :: r2):=e1
        injection e1' with e3 e4
        exact ⟨l' :: u,l2,r2,by rw [e4]; rfl,e2,hc,hl,hn⟩
  | @close h l r i n hr _ _ hg ih =>
    rcases ih with ⟨_,e⟩ | ih
    · cases e
    · refine .inr ?_
      have hk:LK (sk h) (l :: r):=hr.lk hlim
      obtain ⟨pn,pl⟩:=hr.places
      have pn':(sk h).length = n:=pn
      have hl:=pl l (by simp [RS.ls])
      have hl2:l.pl < (n:Int):=hl.2
      have hg':(fw p (fwF p h).1 (endV l i)).2 = true:=by rw [← fwF_snoc]; exact hg
      rw [sk_old (v:=endV l i) (k:=l.pl.toNat) (by show l.pl = _; omega) (by omega),fwF_snoc]
      rcases fw_close (i:=i) (show FI p (sk h) (fwF p h).1 (l :: r) from ih) hk with ⟨e,_⟩ | ⟨e,hfi⟩
      · rw [e] at hg'; cases hg'
      · rw [e]
        exact hfi.mono (sub_modify _ _ _) (modify_sub _ _ _)
structure FO2 (p:List (Int × ByteArray)) (L:List Vi) (q:Vi) (d r:Nat) (x:Vi):Prop where
  dp:q.dp = (d:Int)
  led:Led p L d r
  at':L[r]? = some x
  eq:Eq6 q x
  to:x.to = q.to
  no:(q.kd = 3 ∨ q.kd = 4) → ∀ n k,p[d]? = some (n,k) → ∀ (j:Nat) (z:Vi),r < j → L[j]? = some z → ¬ stM q.kd r n k z
theorem leaf_kd {b:List UInt8} (hlim:b.length ≤ 1048576) {go:List Vi → Bool} {h:List Vi} {ls:List Lv} {i n:Nat} {v:Vi} {ls':List Lv} {i':Nat} (hr:Rch b go h (.val ls i n)) (hv:VG b ls i n v ls' i') (ht:v.to ≠ 0):¬ (v.kd = 3 ∨ v.kd = 4):=by
  have hi:i ≤ b.length:=(hr.ok hlim).1
  obtain ⟨d1,d2,d3,d4⟩:=due_fr' ls i n
  rcases hv with ⟨t,j,c1,c2,c3,rfl,rfl,rfl⟩ | ⟨c1,c2,c3,rfl,rfl⟩
  · show ¬ (t.k = 3 ∨ t.k = 4)
    rcases (leaf_val hi hlim c1 c2 c3).2.2 with e | e
    · rw [e]; show ¬ ((1:Int) = 3 ∨ (1:Int) = 4); omega
    · rw [e]; show ¬ ((2:Int) = 3 ∨ (2:Int) = 4); omega
  · rcases c3 with ⟨_,hv⟩ | ⟨_,hv⟩
    · exact absurd (by rw [hv]; exact d2) ht
    · exact absurd (by rw [hv]; exact d2) ht
theorem Fin.led {b:List UInt8} (hlim:b.length ≤ 1048576) {p:List (Int × ByteArray)} {h:List Vi} {pp e0:Int} (H:Fin b (goF p) h pp e0) {t:T} {k:Nat} (hd:DOUT b t k 0):∃ d r x,FO2 p ((walkT t 0 (dueS [])).map Sp.v) (fwF p h).1 d r x:=by
  have bad:∀ {h:List Vi} {pp er:Int},Fin b gT h pp er → er = 0:=fun hF=>by
    obtain ⟨t',k',_,hd',_⟩:=hF.out hlim
    exact (DOUT.unique hd hd').2.2.symm
  cases H with
  | @vstop h ls i n v ls' i' hr hv hg =>
    obtain ⟨f1,f2,f3,f4⟩:=vg_facts hlim hr hv
    obtain ⟨pn,pl⟩:=hr.places
    have pn':(sk h).length = n:=pn
    have hk:LK (sk h) ls:=hr.lk hlim
    have ih':(sk h = []∧ls = []∧(fwF p h).1 = fw0) ∨ FI p (sk h) (fwF p h).1 ls:=by
      rcases hr.fi hlim with ⟨rfl,e⟩ | ih
      · injection e with e1
        exact .inl ⟨rfl,e1,rfl⟩
      · exact .inr ih
    have hg':(fw p (fwF p h).1 v).2 = false:=by rw [← fwF_snoc]; exact hg
    have hsk:sk (h ++ [v]) = sk h ++ [v]:=sk_new (by rw [pn']; exact f1)
    have hx:=(Rch.value hr.free hv rfl).ext hlim hd
    rw [hsk] at hx
    rcases fw_value (p:=p) ih' hk (fun l hl=>by rw [pn']; exact (pl l hl).2) (by rw [pn']; exact f1) f2 f3 with ⟨e,hled⟩ | ⟨e,hfi⟩
    · rw [e] at hg'
      have ht:v.to ≠ 0:=by simpa using hg'
      rw [fwF_snoc,e]
      obtain ⟨x,hx1,hx2,hx3⟩:=hx.old (sk h).length v (by simp)
      exact ⟨ls.length,(sk h).length,x,f3,hled.mono (fun j y hy=>by obtain ⟨z,g1,g2,_⟩:=hx.old j y hy; exact ⟨z,g1,g2⟩),hx1,hx2,hx3 ht,fun hc=>absurd hc (leaf_kd hlim hr hv ht)⟩
    · rw [e] at hg'; cases hg'
  | @estop h l r i n hr hi hb hg =>
    rcases hr.fi hlim with ⟨_,e⟩ | ih
    · cases e
    · have hk:LK (sk h) (l :: r):=hr.lk hlim
      obtain ⟨pn,pl⟩:=hr.places
      have pn':(sk h).length = n:=pn
      have hl:=pl l (by simp [RS.ls])
      have hl2:l.pl < (n:Int):=hl.2
      have hl0:0 ≤ l.pl:=hl.1
      have hg':(fw p (fwF p h).1 (endV l i)).2 = false:=by rw [← fwF_snoc]; exact hg
      have hsk:sk (h ++ [endV l i]) = (sk h).modify l.pl.toNat fun x=>{ x with to:=(endV l i).to }:=sk_old (by show l.pl = _; omega) (by omega)
      have hx:=(Rch.close hr.free hi hb rfl).ext hlim hd
      rw [hsk] at hx
      rcases fw_close (i:=i) (show FI p (sk h) (fwF p h).1 (l :: r) from ih) hk with ⟨e,hc,hled,hno⟩ | ⟨e,_⟩
      · rw [fwF_snoc,e]
        obtain ⟨y,hy,ey⟩:=hk.1.2.2.2
        have hy':((sk h).modify l.pl.toNat fun x=>{ x with to:=(endV l i).to })[l.pl.toNat]? = some { y with to:=(endV l i).to }:=by
          rw [get_modify,hy]
          show some (if l.pl.toNat = l.pl.toNat then _ else _) = _
          rw [if_pos rfl]
        obtain ⟨x,hx1,hx2,hx3⟩:=hx.old _ _ hy'
        have hsub:Sub ((sk h).modify l.pl.toNat fun x=>{ x with to:=(endV l i).to }) ((walkT t 0 (dueS [])).map Sp.v):=fun j y hy=>by obtain ⟨z,g1,g2,_⟩:=hx.old j y hy; exact ⟨z,g1,g2⟩
        refine ⟨r.length,l.pl.toNat,x,hk.1.2.1,(hled.mono (sub_modify _ _ _)).mono hsub,hx1,⟨hx2.kd.trans ey.kd,hx2.fr.trans ey.fr,hx2.dp.trans ey.dp,hx2.up.trans ey.up,hx2.nt.trans ey.nt,hx2.ky.trans ey.ky⟩,hx3 (by show (i:Int) + 1 ≠ 0; omega),fun _ n' k' hpk j z hj hz hst=>?_⟩
        show False
        by_cases hjl:j < ((sk h).modify l.pl.toNat fun x=>{ x with to:=(endV l i).to }).length
        · obtain ⟨z',hz',ez,_⟩:=hx.old j _ (List.getElem?_eq_getElem hjl)
          obtain rfl:=Option.some.inj (hz.symm.trans hz')
          exact (hno.mono (modify_sub _ _ _)) n' k' hpk j _ hj (List.getElem?_eq_getElem hjl) (hst.eq ez.symm)
        · have hzu:z.up = (l.pl.toNat:Int):=hst.1
          have hzu':z.up = l.pl:=by omega
          rcases hx.new j z (by omega) hz with (g | ⟨l2,hl2m,g⟩) | g
          · omega
          · have hl2m':l2 ∈ r:=hl2m
            obtain ⟨s1,s2,rfl⟩:=List.append_of_mem hl2m'
            have:=LK.lt (u:=l :: s1) hk l (by simp)
            omega
          · rw [List.length_modify] at g
            omega
      · rw [e] at hg'; cases hg'
  | vbad hr hz hv=>exact absurd (bad (.vbad hr.free hz hv)) hz
  | pbad hr hb hp =>
    have e:=bad (.pbad hr.free hb hp)
    subst e
    rcases hp.2 with ⟨_,e,_⟩ | ⟨_,⟨_,_,e,_⟩ | ⟨_,_,_,_,_,e,_⟩⟩
    · cases e
    · exact absurd rfl e
    · cases e
  | trail hr hi=>exact absurd (bad (.trail hr.free hi)) (by decide)
  | done hr hi =>
    rcases hr.fi hlim with ⟨_,e⟩ | ⟨u,l,r,e,_⟩
    · cases e
    · have:=congrArg List.length e
      simp [RS.ls] at this
end Go.Proofs.YtdlnnnlmlaploabGreatDoor
