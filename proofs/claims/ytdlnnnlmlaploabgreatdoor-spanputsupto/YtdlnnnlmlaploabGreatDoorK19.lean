import Derived.Test.YtdlnnnlmlaploabGreatDoorK18
namespace Go.Proofs.YtdlnnnlmlaploabGreatDoor
open Go.RowKit Go.Deep
def PS (w:World) (v:Value) (p:List (Int × ByteArray)):Prop:=∃ a c,v = .slice a p.length c∧(p = [] ∨ ∃ g o,a = some ⟨g,o,none⟩∧g < w.heap.size∧∀ i n k,p[i]? = some (n,k) → w.cell? ⟨g,o + i * 2,none⟩ = some (.int .i64 n)∧w.cell? ⟨g,o + i * 2 + 1,none⟩ = some (.string k))
theorem PS.keep {w w':World} {v:Value} {p:List (Int × ByteArray)} (h:PS w v p) (hb:Below w.heap.size w w'):PS w' v p:=by
  obtain ⟨a,c,rfl,h⟩:=h
  refine ⟨a,c,rfl,?_⟩
  rcases h with h | ⟨g,o,h1,h2,h3⟩
  · exact .inl h
  · exact .inr ⟨g,o,h1,Nat.lt_of_lt_of_le h2 hb.size,fun i n k hi=>⟨(World.cell?_of_block (w:=w) (hb.block g h2)).trans (h3 i n k hi).1,(World.cell?_of_block (w:=w) (hb.block g h2)).trans (h3 i n k hi).2⟩⟩
def leadsP (p:List (Int × ByteArray)) (ar:Int) (v:Vi):Bool:=
  if v.dp = 0 then true else match p[(v.dp - 1).toNat]? with
  | some (n,k)=>if ar = 3 then n == v.nt else k.toList == v.ky.toList
  | none=>false
set_option maxRecDepth 10000 in
set_option maxHeartbeats 2000000 in
theorem leads35 (pv:Value) (p:List (Int × ByteArray)) (w:World) (ar:Int) (v:Vi) (h:PS w pv p) (hd:∃ d:Nat,v.dp = (d:Int)∧d ≤ 1048577) (hp:p.length ≤ 140737488351232) :
    Calls Tryz.prog 33 #[pv,.int .i64 ar,.agg (Vi.cs v)] w fun e w'=>e = .returned (.bool (leadsP p ar v))∧Below w.heap.size w w':=by
  obtain ⟨kd,fr,to,dp,up,nt,ky,pl,fi⟩:=v
  obtain ⟨d,hd,hd2⟩:=hd
  obtain rfl:dp = (d:Int):=hd
  obtain ⟨a,c,rfl,h⟩:=h
  show Calls Tryz.prog 33 #[.slice a p.length c,.int .i64 ar,.agg #[.int .i64 kd,.int .i64 fr,.int .i64 to,.int .i64 (d:Int),.int .i64 up,.int .i64 nt,.string ky,.int .i64 pl,.int .i64 fi]] w _
  have b0:Below w.heap.size w (w.alloc (Obj.cells #[.int .i64 kd,.int .i64 fr,.int .i64 to,.int .i64 (d:Int),.int .i64 up,.int .i64 nt,.string ky,.int .i64 pl,.int .i64 fi] 45)):=(Below.refl _ _).alloc (Nat.le_refl _) _
  cases d with
  | zero =>
    have HB:=Lib.hid b0
    clear h b0
    go_enter Tryz.func33,Tryz.ntmps33
    go_wp2
    go_ret
    exact ⟨rfl,HB.out⟩
  | succ m =>
    have hm0:((m:Int) + 1 == 0) = false:=beq_eq_false_iff_ne.2 (by omega)
    have HLP:Hid (leadsP p ar ⟨kd,fr,to,((m + 1:Nat):Int),up,nt,ky,pl,fi⟩ = match p[m]? with | some (n,k)=>if ar = 3 then n == nt else k.toList == ky.toList | none=>false):=by
      show leadsP _ _ _ = _
      unfold leadsP
      rw [if_neg (by show ¬ ((m + 1:Nat):Int) = 0; omega)]
      rw [show ((((m + 1:Nat):Int)) - 1).toNat = m by omega]
    have HLP2:Hid (leadsP p ar ⟨kd,fr,to,(m:Int) + 1,up,nt,ky,pl,fi⟩ = match p[m]? with | some (n,k)=>if ar = 3 then n == nt else k.toList == ky.toList | none=>false):=HLP
    by_cases hlen:p.length ≤ m
    · have hlen':(p.length:Int) ≤ (m:Int):=by omega
      have hl2:(p.length:Int) < (m:Int) + 1:=by omega
      have HB:=Lib.hid b0
      have HE:Hid (p[m]? = none):=List.getElem?_eq_none hlen
      clear h b0
      go_enter Tryz.func33,Tryz.ntmps33
      go_wp2
      go_ret
      exact ⟨by rw [HLP.out,HE.out]; rfl,HB.out⟩
    · have hlt:m < p.length:=by omega
      obtain ⟨⟨n,k⟩,hx⟩:∃ x,p[m]? = some x:=⟨_,List.getElem?_eq_getElem hlt⟩
      rcases h with rfl | ⟨g,o,rfl,hg,hcell⟩
      · simp at hlt
      obtain ⟨g0,g1⟩:=hcell m n k hx
      have g0a:=cell_alloc_old (o:=Obj.cells #[.int .i64 kd,.int .i64 fr,.int .i64 to,.int .i64 ((m:Int) + 1),.int .i64 up,.int .i64 nt,.string ky,.int .i64 pl,.int .i64 fi] 45) g0
      have g1a:=cell_alloc_old (o:=Obj.cells #[.int .i64 kd,.int .i64 fr,.int .i64 to,.int .i64 ((m:Int) + 1),.int .i64 up,.int .i64 nt,.string ky,.int .i64 pl,.int .i64 fi] 45) g1
      have hnl:¬ (p.length:Int) < (m:Int) + 1:=by omega
      have hm1:(0:Int) ≤ (m:Int):=by omega
      have hm2:(m:Int) < (p.length:Int):=by omega
      have HX:=Lib.hid (And.intro hx b0)
      clear hcell hx hg b0
      by_cases har:ar = 3
      · subst har
        go_enter Tryz.func33,Tryz.ntmps33
        go_wp2
        go_ret
        exact ⟨by rw [HLP2.out,HX.out.1]; rfl,HX.out.2.alloc HX.out.2.size _⟩
      · have har':(ar == 3) = false:=beq_eq_false_iff_ne.2 har
        go_enter Tryz.func33,Tryz.ntmps33
        go_wp2
        go_ret
        exact ⟨by rw [HLP2.out,HX.out.1]; show _ = Ending.returned (Value.bool (if ar = 3 then _ else _)); rw [if_neg har]; rfl,HX.out.2.alloc HX.out.2.size _⟩
def fwS (p:List (Int × ByteArray)) (q v:Vi):Vi:=if v.up = q.pl∧leadsP p q.kd v = true then v else q
def fwE (q v:Vi):Vi × Bool:=if v.pl = q.pl∧v.to ≠ 0 then (v,false) else (q,true)
def fw (p:List (Int × ByteArray)) (q v:Vi):Vi × Bool:=fwE (fwS p q v) v
theorem fwE_hit {q v:Vi} (h:v.pl = q.pl) (ht:v.to ≠ 0):fwE q v = (v,false):=if_pos ⟨h,ht⟩
theorem fwE_miss {q v:Vi} (h:¬ (v.pl = q.pl∧v.to ≠ 0)):fwE q v = (q,true):=if_neg h
theorem box9B {w:World} {g:Nat} {c0 c1 c2 c3 c4 c5 c6 c7 c8:Value} (hk:blk w g 45 #[c0,c1,c2,c3,c4,c5,c6,c7,c8]) (v0 v1 v2 v3 v4 v5 v6 v7 v8:Value) :
    Besides g w (set9 w g v0 v1 v2 v3 v4 v5 v6 v7 v8)∧blk (set9 w g v0 v1 v2 v3 v4 v5 v6 v7 v8) g 45 #[v0,v1,v2,v3,v4,v5,v6,v7,v8]:=
  ⟨(((((((((Besides.refl g w).set1).set1).set1).set1).set1).set1).set1).set1).set1,((((((((hk.s0 v0).s1 v1).s2 v2).s3 v3).s4 v4).s5 v5).s6 v6).s7 v7).s8 v8⟩
set_option maxRecDepth 10000 in
set_option maxHeartbeats 2000000 in
theorem follow34 {w:World} {Ab Pb:Nat} (q v:Vi) (p:List (Int × ByteArray)) (pv:Value) (hq:blk w Ab 45 (Vi.cs q)) (hpc:w.cell? ⟨Pb,0,none⟩ = some pv) (hP:PS w pv p) (hd:∃ d:Nat,v.dp = (d:Int)∧d ≤ 1048577) (hp:p.length ≤ 140737488351232) :
    Calls Tryz.prog 32 #[.agg (Vi.cs v),.pointer (some ⟨Ab,0,none⟩),.pointer (some ⟨Pb,0,none⟩)] w fun e w'=>e = .returned (.bool (fw p q v).2)∧blk w' Ab 45 (Vi.cs (fw p q v).1)∧Besides Ab w w':=by
  obtain ⟨kd,fr,to,dp,up,nt,ky,pl,fi⟩:=v
  obtain ⟨d,hd,hd2⟩:=hd
  obtain rfl:dp = (d:Int):=hd
  obtain ⟨qkd,qfr,qto,qdp,qup,qnt,qky,qpl,qfi⟩:=q
  show Calls Tryz.prog 32 #[.agg #[.int .i64 kd,.int .i64 fr,.int .i64 to,.int .i64 (d:Int),.int .i64 up,.int .i64 nt,.string ky,.int .i64 pl,.int .i64 fi],.pointer (some ⟨Ab,0,none⟩),.pointer (some ⟨Pb,0,none⟩)] w _
  have b0:Below w.heap.size w (w.alloc (Obj.cells #[.int .i64 kd,.int .i64 fr,.int .i64 to,.int .i64 (d:Int),.int .i64 up,.int .i64 nt,.string ky,.int .i64 pl,.int .i64 fi] 45)):=(Below.refl _ _).alloc (Nat.le_refl _) _
  have H0:Hid (Besides Ab w (w.alloc (Obj.cells #[.int .i64 kd,.int .i64 fr,.int .i64 to,.int .i64 (d:Int),.int .i64 up,.int .i64 nt,.string ky,.int .i64 pl,.int .i64 fi] 45))∧blk (w.alloc (Obj.cells #[.int .i64 kd,.int .i64 fr,.int .i64 to,.int .i64 (d:Int),.int .i64 up,.int .i64 nt,.string ky,.int .i64 pl,.int .i64 fi] 45)) Ab 45 #[.int .i64 qkd,.int .i64 qfr,.int .i64 qto,.int .i64 qdp,.int .i64 qup,.int .i64 qnt,.string qky,.int .i64 qpl,.int .i64 qfi]∧blk (w.alloc (Obj.cells #[.int .i64 kd,.int .i64 fr,.int .i64 to,.int .i64 (d:Int),.int .i64 up,.int .i64 nt,.string ky,.int .i64 pl,.int .i64 fi] 45)) w.heap.size 45 #[.int .i64 kd,.int .i64 fr,.int .i64 to,.int .i64 (d:Int),.int .i64 up,.int .i64 nt,.string ky,.int .i64 pl,.int .i64 fi]∧PS (w.alloc (Obj.cells #[.int .i64 kd,.int .i64 fr,.int .i64 to,.int .i64 (d:Int),.int .i64 up,.int .i64 nt,.string ky,.int .i64 pl,.int .i64 fi] 45)) pv p∧Ab < w.heap.size):=⟨Besides.of_below b0,(show blk w Ab 45 #[.int .i64 qkd,.int .i64 qfr,.int .i64 qto,.int .i64 qdp,.int .i64 qup,.int .i64 qnt,.string qky,.int .i64 qpl,.int .i64 qfi] from hq).keep (b0.block _ (show blk w Ab 45 _ from hq).lt),heap_new _ _,hP.keep b0,(show blk w Ab 45 _ from hq).lt⟩
  have pc0:(w.alloc (Obj.cells #[.int .i64 kd,.int .i64 fr,.int .i64 to,.int .i64 (d:Int),.int .i64 up,.int .i64 nt,.string ky,.int .i64 pl,.int .i64 fi] 45)).cell? ⟨Pb,0,none⟩ = some pv:=cell_alloc_old hpc
  have HPV:Hid (∃ a n c,pv = .slice a n c):=by obtain ⟨a,c,rfl,_⟩:=hP; exact ⟨a,_,c,rfl⟩
  obtain ⟨pa,pn,pc,rfl⟩:=HPV.out
  clear hq hpc hP b0
  obtain ⟨a0,a1,a2,a3,a4,a5,a6,a7,a8⟩:=H0.out.2.1.cells9
  obtain ⟨z0,z1,z2,z3,z4,z5,z6,z7,z8⟩:=H0.out.2.1.frozen9
  obtain ⟨v0,v1,v2,v3,v4,v5,v6,v7,v8⟩:=H0.out.2.2.1.cells9
  by_cases hu:up = qpl
  · subst hu
    have HL:=Lib.hid (leads35 (.slice pa pn pc) p (w.alloc (Obj.cells #[.int .i64 kd,.int .i64 fr,.int .i64 to,.int .i64 (d:Int),.int .i64 up,.int .i64 nt,.string ky,.int .i64 pl,.int .i64 fi] 45)) qkd ⟨kd,fr,to,(d:Int),up,nt,ky,pl,fi⟩ H0.out.2.2.2.1 ⟨d,rfl,hd2⟩ hp)
    cases hlead:leadsP p qkd ⟨kd,fr,to,(d:Int),up,nt,ky,pl,fi⟩ with
    | true =>
      have HFW:Hid (fw p ⟨qkd,qfr,qto,qdp,qup,qnt,qky,up,qfi⟩ ⟨kd,fr,to,(d:Int),up,nt,ky,pl,fi⟩ = fwE ⟨kd,fr,to,(d:Int),up,nt,ky,pl,fi⟩ ⟨kd,fr,to,(d:Int),up,nt,ky,pl,fi⟩):=by
        show _ = _
        unfold fw fwS
        rw [if_pos ⟨rfl,hlead⟩]
      go_enter Tryz.func32,Tryz.ntmps32
      go_wp2_with fail
      refine HL.out.mono ?_
      rintro e w1 ⟨rfl,hb1⟩
      rw [hlead]
      have H1:Hid (Besides Ab w w1∧blk w1 Ab 45 #[.int .i64 qkd,.int .i64 qfr,.int .i64 qto,.int .i64 qdp,.int .i64 qup,.int .i64 qnt,.string qky,.int .i64 up,.int .i64 qfi]∧blk w1 w.heap.size 45 #[.int .i64 kd,.int .i64 fr,.int .i64 to,.int .i64 (d:Int),.int .i64 up,.int .i64 nt,.string ky,.int .i64 pl,.int .i64 fi]∧True):=by
        obtain ⟨q1,q2,q3,_⟩:=H0.out
        exact ⟨q1.trans (Besides.of_below hb1),q2.keep (hb1.block _ q2.lt),q3.keep (hb1.block _ q3.lt),trivial⟩
      clear hb1 HL a0 a1 a2 a3 a4 a5 a6 a7 a8 z0 z1 z2 z3 z4 z5 z6 z7 z8 v0 v1 v2 v3 v4 v5 v6 v7 v8
      obtain ⟨a0,a1,a2,a3,a4,a5,a6,a7,a8⟩:=H1.out.2.1.cells9
      obtain ⟨z0,z1,z2,z3,z4,z5,z6,z7,z8⟩:=H1.out.2.1.frozen9
      obtain ⟨v0,v1,v2,v3,v4,v5,v6,v7,v8⟩:=H1.out.2.2.1.cells9
      by_cases ht:to = 0
      · subst ht
        have i47:(Tryz.prog.info? 45).map (·.size) = some (Vi.cs (⟨kd,fr,0,(d:Int),up,nt,ky,pl,fi⟩:Vi)).size:=info47s
        have R2:Hid (Besides Ab w (w1.setRow Ab (Vi.cs (⟨kd,fr,0,(d:Int),up,nt,ky,pl,fi⟩:Vi)))∧blk (w1.setRow Ab (Vi.cs (⟨kd,fr,0,(d:Int),up,nt,ky,pl,fi⟩:Vi))) Ab 45 (Vi.cs (⟨kd,fr,0,(d:Int),up,nt,ky,pl,fi⟩:Vi))∧blk (w1.setRow Ab (Vi.cs (⟨kd,fr,0,(d:Int),up,nt,ky,pl,fi⟩:Vi))) w.heap.size 45 #[.int .i64 kd,.int .i64 fr,.int .i64 0,.int .i64 (d:Int),.int .i64 up,.int .i64 nt,.string ky,.int .i64 pl,.int .i64 fi]∧True):=by
          obtain ⟨q1,q2,q3,_⟩:=H1.out
          exact ⟨q1.trans (besides_row ..),blk_row q2 _,q3.keep ((besides_row ..).block _ q3.lt (by have:=H0.out.2.2.2.2; show w.heap.size ≠ Ab; omega)),trivial⟩
        go_wp2_with (first | (refine wpList_store_row rfl 45 _ _ rfl Ab (Vi.cs (⟨kd,fr,0,(d:Int),up,nt,ky,pl,fi⟩:Vi)) rfl rfl 45 _ H1.out.2.1 i47 rfl (cs_one _) ?_; (obtain ⟨d0,d1,d2,d3,d4,d5,d6,d7,d8⟩:=R2.out.2.1.cells9; obtain ⟨e0,e1,e2,e3,e4,e5,e6,e7,e8⟩:=R2.out.2.2.1.cells9; generalize w1.setRow Ab (Vi.cs (⟨kd,fr,0,(d:Int),up,nt,ky,pl,fi⟩:Vi)) = w2 at *)))
        go_wp2
        go_ret
        rw [HFW.out.trans (fwE_miss (fun h=>h.2 rfl))]
        exact ⟨rfl,R2.out.2.1,R2.out.1⟩
      · have ht':(to == 0) = false:=beq_eq_false_iff_ne.2 ht
        have i47:(Tryz.prog.info? 45).map (·.size) = some (Vi.cs (⟨kd,fr,to,(d:Int),up,nt,ky,pl,fi⟩:Vi)).size:=info47s
        have R2:Hid (Besides Ab w (w1.setRow Ab (Vi.cs (⟨kd,fr,to,(d:Int),up,nt,ky,pl,fi⟩:Vi)))∧blk (w1.setRow Ab (Vi.cs (⟨kd,fr,to,(d:Int),up,nt,ky,pl,fi⟩:Vi))) Ab 45 (Vi.cs (⟨kd,fr,to,(d:Int),up,nt,ky,pl,fi⟩:Vi))∧blk (w1.setRow Ab (Vi.cs (⟨kd,fr,to,(d:Int),up,nt,ky,pl,fi⟩:Vi))) w.heap.size 45 #[.int .i64 kd,.int .i64 fr,.int .i64 to,.int .i64 (d:Int),.int .i64 up,.int .i64 nt,.string ky,.int .i64 pl,.int .i64 fi]∧True):=by
          obtain ⟨q1,q2,q3,_⟩:=H1.out
          exact ⟨q1.trans (besides_row ..),blk_row q2 _,q3.keep ((besides_row ..).block _ q3.lt (by have:=H0.out.2.2.2.2; show w.heap.size ≠ Ab; omega)),trivial⟩
        go_wp2_with (first | (refine wpList_store_row rfl 45 _ _ rfl Ab (Vi.cs (⟨kd,fr,to,(d:Int),up,nt,ky,pl,fi⟩:Vi)) rfl rfl 45 _ H1.out.2.1 i47 rfl (cs_one _) ?_; (obtain ⟨d0,d1,d2,d3,d4,d5,d6,d7,d8⟩:=R2.out.2.1.cells9; obtain ⟨e0,e1,e2,e3,e4,e5,e6,e7,e8⟩:=R2.out.2.2.1.cells9; generalize w1.setRow Ab (Vi.cs (⟨kd,fr,to,(d:Int),up,nt,ky,pl,fi⟩:Vi)) = w2 at *)) | (refine wpList_store_row rfl 45 _ _ rfl Ab (Vi.cs (⟨kd,fr,to,(d:Int),up,nt,ky,pl,fi⟩:Vi)) rfl rfl 45 _ R2.out.2.1 i47 rfl (cs_one _) ?_))
        go_wp2
        go_ret
        rw [HFW.out.trans (fwE_hit rfl ht)]
        exact ⟨rfl,blk_row R2.out.2.1 _,R2.out.1.trans (besides_row ..)⟩
    | false =>
      have HFW:Hid (fw p ⟨qkd,qfr,qto,qdp,qup,qnt,qky,up,qfi⟩ ⟨kd,fr,to,(d:Int),up,nt,ky,pl,fi⟩ = fwE ⟨qkd,qfr,qto,qdp,qup,qnt,qky,up,qfi⟩ ⟨kd,fr,to,(d:Int),up,nt,ky,pl,fi⟩):=by
        show _ = _
        unfold fw fwS
        rw [if_neg (fun h=>by rw [hlead] at h; cases h.2)]
      go_enter Tryz.func32,Tryz.ntmps32
      go_wp2_with fail
      refine HL.out.mono ?_
      rintro e w1 ⟨rfl,hb1⟩
      rw [hlead]
      have H1:Hid (Besides Ab w w1∧blk w1 Ab 45 #[.int .i64 qkd,.int .i64 qfr,.int .i64 qto,.int .i64 qdp,.int .i64 qup,.int .i64 qnt,.string qky,.int .i64 up,.int .i64 qfi]∧blk w1 w.heap.size 45 #[.int .i64 kd,.int .i64 fr,.int .i64 to,.int .i64 (d:Int),.int .i64 up,.int .i64 nt,.string ky,.int .i64 pl,.int .i64 fi]∧True):=by
        obtain ⟨q1,q2,q3,_⟩:=H0.out
        exact ⟨q1.trans (Besides.of_below hb1),q2.keep (hb1.block _ q2.lt),q3.keep (hb1.block _ q3.lt),trivial⟩
      clear hb1 HL a0 a1 a2 a3 a4 a5 a6 a7 a8 z0 z1 z2 z3 z4 z5 z6 z7 z8 v0 v1 v2 v3 v4 v5 v6 v7 v8
      obtain ⟨a0,a1,a2,a3,a4,a5,a6,a7,a8⟩:=H1.out.2.1.cells9
      obtain ⟨z0,z1,z2,z3,z4,z5,z6,z7,z8⟩:=H1.out.2.1.frozen9
      obtain ⟨v0,v1,v2,v3,v4,v5,v6,v7,v8⟩:=H1.out.2.2.1.cells9
      by_cases hp:pl = up
      · subst hp
        by_cases ht:to = 0
        · subst ht
          go_wp2
          go_ret
          rw [HFW.out.trans (fwE_miss (fun h=>h.2 rfl))]
          exact ⟨rfl,H1.out.2.1,H1.out.1⟩
        · have ht':(to == 0) = false:=beq_eq_false_iff_ne.2 ht
          go_wp2
          go_ret
          obtain ⟨y1,y2⟩:=box9B H1.out.2.1 (.int .i64 kd) (.int .i64 fr) (.int .i64 to) (.int .i64 (d:Int)) (.int .i64 pl) (.int .i64 nt) (.string ky) (.int .i64 pl) (.int .i64 fi)
          rw [HFW.out.trans (fwE_hit rfl ht)]
          exact ⟨rfl,y2,H1.out.1.trans y1⟩
      · have hp':(pl != up) = true:=by simpa using hp
        go_wp2
        go_ret
        rw [HFW.out.trans (fwE_miss (fun h=>hp h.1))]
        exact ⟨rfl,H1.out.2.1,H1.out.1⟩
  · have hu':(up == qpl) = false:=beq_eq_false_iff_ne.2 hu
    have HFW:Hid (fw p ⟨qkd,qfr,qto,qdp,qup,qnt,qky,qpl,qfi⟩ ⟨kd,fr,to,(d:Int),up,nt,ky,pl,fi⟩ = fwE ⟨qkd,qfr,qto,qdp,qup,qnt,qky,qpl,qfi⟩ ⟨kd,fr,to,(d:Int),up,nt,ky,pl,fi⟩):=by
      show _ = _
      unfold fw fwS
      rw [if_neg (fun h=>hu h.1)]
    go_enter Tryz.func32,Tryz.ntmps32
    by_cases hp:pl = qpl
    · subst hp
      by_cases ht:to = 0
      · subst ht
        go_wp2
        go_ret
        rw [HFW.out.trans (fwE_miss (fun h=>h.2 rfl))]
        exact ⟨rfl,H0.out.2.1,H0.out.1⟩
      · have ht':(to == 0) = false:=beq_eq_false_iff_ne.2 ht
        go_wp2
        go_ret
        obtain ⟨y1,y2⟩:=box9B H0.out.2.1 (.int .i64 kd) (.int .i64 fr) (.int .i64 to) (.int .i64 (d:Int)) (.int .i64 up) (.int .i64 nt) (.string ky) (.int .i64 pl) (.int .i64 fi)
        rw [HFW.out.trans (fwE_hit rfl ht)]
        exact ⟨rfl,y2,H0.out.1.trans y1⟩
    · have hp':(pl != qpl) = true:=by simpa using hp
      go_wp2
      go_ret
      rw [HFW.out.trans (fwE_miss (fun h=>hp h.1))]
      exact ⟨rfl,H0.out.2.1,H0.out.1⟩
theorem due_dpt (ls:List Lv) (i n:Nat):(dueV ls i n).dp = (ls.length:Int):=by cases ls <;> rfl
theorem vg_dp {b:List UInt8} {ls:List Lv} {i n:Nat} {v:Vi} {ls':List Lv} {i':Nat} (h:VG b ls i n v ls' i'):v.dp = (ls.length:Int):=by
  rcases h with ⟨t,j,_,_,_,rfl,_,_⟩ | ⟨_,_,c3,_,_⟩
  · exact due_dpt ls i n
  · rcases c3 with ⟨_,rfl⟩ | ⟨_,rfl⟩ <;> exact due_dpt ls i n
theorem Rch.len {b:List UInt8} (hlim:b.length ≤ 1048576) {go:List Vi → Bool} {h:List Vi} {s:RS} (H:Rch b go h s):s.ls.length ≤ 32:=by
  have:=H.ok hlim
  cases s with
  | val ls i n=>exact this.2.2.1.1
  | mid ls i n=>exact this.2.2.1
theorem Rch.deps {b:List UInt8} (hlim:b.length ≤ 1048576) {go:List Vi → Bool} {h:List Vi} {s:RS} (H:Rch b go h s):∀ l ∈ s.ls, ∃ d:Nat,l.dp = (d:Int)∧d ≤ 32:=by
  induction H with
  | start=>intro l hl; cases hl
  | @value h ls i n v ls' i' hr hv _ ih =>
    have ih':∀ l ∈ ls, ∃ d:Nat,l.dp = (d:Int)∧d ≤ 32:=ih
    have hlen:ls.length ≤ 32:=hr.len hlim
    have hdp:=vg_dp hv
    show ∀ l ∈ ls',_
    rcases hv with ⟨t,j,_,_,_,_,rfl,_⟩ | ⟨_,_,_,rfl,_⟩
    · exact ih'
    · intro l hl
      rcases List.mem_cons.1 hl with rfl | hl
      · exact ⟨ls.length,hdp,hlen⟩
      · exact ih' l hl
  | @part h l r i n l' i' _ _ hp ih =>
    have ih':∀ x ∈ l :: r, ∃ d:Nat,x.dp = (d:Int)∧d ≤ 32:=ih
    show ∀ x ∈ l' :: r,_
    intro x hx
    rcases List.mem_cons.1 hx with rfl | hx
    · have:=ih' l (by simp)
      rcases hp with ⟨_,rfl,_⟩ | ⟨_,_,t,j,_,_,rfl,_⟩ <;> exact this
    · exact ih' x (by simp [hx])
  | @close h l r i n _ _ _ _ ih =>
    have ih':∀ x ∈ l :: r, ∃ d:Nat,x.dp = (d:Int)∧d ≤ 32:=ih
    show ∀ x ∈ r,_
    intro x hx
    exact ih' x (by simp [hx])
theorem Nx.dep {b:List UInt8} (hlim:b.length ≤ 1048576) {go:List Vi → Bool} {h:List Vi} {v:Vi} (H:Nx b go h v):∃ d:Nat,v.dp = (d:Int)∧d ≤ 1048577:=by
  rcases H with ⟨ls,i,n,ls',i',hr,hv⟩ | ⟨l,r,i,n,hr,_,_,rfl⟩
  · have hlen:ls.length ≤ 32:=hr.len hlim
    exact ⟨ls.length,vg_dp hv,by omega⟩
  · obtain ⟨d,h1,h2⟩:=hr.deps hlim l (by simp [RS.ls])
    exact ⟨d,h1,by omega⟩
def fw0:Vi:=⟨0,0,0,0,0,0,ByteArray.empty, -1,0⟩
def fwF (p:List (Int × ByteArray)) (h:List Vi):Vi × Bool:=h.foldl (fun s v=>fw p s.1 v) (fw0,true)
theorem fwF_snoc (p:List (Int × ByteArray)) (h:List Vi) (v:Vi):fwF p (h ++ [v]) = fw p (fwF p h).1 v:=by unfold fwF; rw [List.foldl_append]; rfl
abbrev goF (p:List (Int × ByteArray)):List Vi → Bool:=fun h=>(fwF p h).2
def PSA (A:Nat) (w:World) (v:Value) (p:List (Int × ByteArray)):Prop:=∃ a c,v = .slice a p.length c∧(p = [] ∨ ∃ g o,a = some ⟨g,o,none⟩∧g < A∧∀ i n k,p[i]? = some (n,k) → w.cell? ⟨g,o + i * 2,none⟩ = some (.int .i64 n)∧w.cell? ⟨g,o + i * 2 + 1,none⟩ = some (.string k))
theorem PSA.ps {A:Nat} {w:World} {v:Value} {p:List (Int × ByteArray)} (h:PSA A w v p) (hA:A ≤ w.heap.size):PS w v p:=by
  obtain ⟨a,c,rfl,h⟩:=h
  refine ⟨a,c,rfl,?_⟩
  rcases h with h | ⟨g,o,h1,h2,h3⟩
  · exact .inl h
  · exact .inr ⟨g,o,h1,by omega,h3⟩
theorem PSA.keep {A:Nat} {w w':World} {v:Value} {p:List (Int × ByteArray)} (h:PSA A w v p) (hb:∀ k,k < A → w'.heap[k]? = w.heap[k]?):PSA A w' v p:=by
  obtain ⟨a,c,rfl,h⟩:=h
  refine ⟨a,c,rfl,?_⟩
  rcases h with h | ⟨g,o,h1,h2,h3⟩
  · exact .inl h
  · exact .inr ⟨g,o,h1,h2,fun i n k hi=>⟨(World.cell?_of_block (w:=w) (hb g h2)).trans (h3 i n k hi).1,(World.cell?_of_block (w:=w) (hb g h2)).trans (h3 i n k hi).2⟩⟩
def JF (Ab Pb A:Nat) (p:List (Int × ByteArray)) (pv:Value) (h:List Vi) (w:World) (S:Nat → Prop):Prop:=
  A ≤ Ab∧A ≤ Pb∧Ab ≠ Pb∧A ≤ w.heap.size∧blk w Ab 45 (Vi.cs (fwF p h).1)∧blk w Pb 23 #[pv]∧PSA A w pv p∧∀ k,S k ↔ (k = Ab ∨ k = Pb)
theorem visF {b:List UInt8} (hlim:b.length ≤ 1048576) {Ab Pb A:Nat} {p:List (Int × ByteArray)} (hp:p.length ≤ 140737488351232) {pv:Value}:Vis b 32 #[.pointer (some ⟨Ab,0,none⟩),.pointer (some ⟨Pb,0,none⟩)] (goF p) (JF Ab Pb A p pv) A where
  keep:=fun h w w' S ⟨h1,h2,h3,h4,h5,h6,h7,h8⟩ hs hk =>
    ⟨h1,h2,h3,Nat.le_trans h4 hs,h5.keep (hk Ab (.inl ((h8 Ab).2 (.inl rfl)))),h6.keep (hk Pb (.inl ((h8 Pb).2 (.inr rfl)))),h7.keep (fun k hk'=>hk k (.inr hk')),h8⟩
  own:=fun h w S ⟨h1,h2,h3,h4,h5,h6,h7,h8⟩ k hk=>by
    rcases (h8 k).1 hk with rfl | rfl
    · exact ⟨h1,_,_,_,h5,by decide,by decide⟩
    · exact ⟨h2,_,_,_,h6,by decide,by decide⟩
  enter:=fun args w=>by
    show (callFunc 32 args).run Tryz.prog w = .ok (.enter 32 args) w
    kernel_rfl
  call:=fun h w S v ⟨h1,h2,h3,h4,h5,h6,h7,h8⟩ hx=>by
    refine (follow34 (fwF p h).1 v p pv h5 (h6.cell 0) (h7.ps h4) (hx.dep hlim) hp).mono ?_
    rintro e w' ⟨rfl,k1,k2⟩
    refine ⟨by show _ = Ending.returned (Value.bool (fwF p (h ++ [v])).2); rw [fwF_snoc],S,⟨h1,h2,h3,Nat.le_trans h4 k2.size,by rw [fwF_snoc]; exact k1,h6.keep (k2.block _ h6.lt (fun e=>h3 e.symm)),h7.keep (fun k hk=>k2.block k (by omega) (by omega)),h8⟩,⟨k2.os,k2.tape,k2.output,k2.size,fun k hk hn=>k2.block k hk (fun e=>hn ((h8 k).2 (.inl e))),fun k hk=>.inl hk⟩⟩
theorem tb_up {B B':Nat} {w:World} (h:TB B w) (hB:B ≤ B'):TB B' w:=fun w' hb=>h w' (hb.mono hB)
theorem wtx_size (s:ByteArray):s.size + 1 ≤ (wtx s).length:=by
  unfold wtx
  rw [List.length_append,List.length_cons]
  have:s.data.toList.length = s.size:=Array.length_toList
  omega
theorem txt_ge {k n:Int} {s:ByteArray} {ln:Nat} {l:Nat → T} {dn:Nat} {ky:Nat → ByteArray} {dv:Nat → T} (h:VT (.mk k n s ln l dn ky dv)) :
    1 + (catN (fun i=>txt (l i)) ln).length + (catN (fun i=>wtx (ky i) ++ txt (dv i)) dn).length ≤ (txt (.mk k n s ln l dn ky dv)).length:=by
  obtain ⟨o1,o2,o3,o4,o5,o6⟩:1 ≤ k∧k ≤ 4∧(k = 1 ∨ n = 0)∧(k = 2 ∨ s.toList = [])∧(k = 3 ∨ ln = 0)∧(k = 4 ∨ dn = 0):=of_decide_eq_true h.1
  by_cases hk1:k = 1
  · obtain rfl:ln = 0:=by omega
    obtain rfl:dn = 0:=by omega
    have e:txt (.mk k n s 0 l 0 ky dv) = 105 :: (Lib.itoa n ++ [101]):=if_pos hk1
    rw [e]; simp [catN]
  by_cases hk2:k = 2
  · obtain rfl:ln = 0:=by omega
    obtain rfl:dn = 0:=by omega
    have e:txt (.mk k n s 0 l 0 ky dv) = wtx s:=(if_neg hk1).trans (if_pos hk2)
    have:=wtx_size s
    rw [e]; simp [catN]; omega
  by_cases hk3:k = 3
  · obtain rfl:dn = 0:=by omega
    have e:txt (.mk k n s ln l 0 ky dv) = 108 :: (catN (fun i=>txt (l i)) ln ++ [101]):=(if_neg hk1).trans ((if_neg hk2).trans (if_pos hk3))
    rw [e]; simp [catN]; omega
  · obtain rfl:ln = 0:=by omega
    have e:txt (.mk k n s 0 l dn ky dv) = 100 :: (catN (fun i=>wtx (ky i) ++ txt (dv i)) dn ++ [101]):=(if_neg hk1).trans ((if_neg hk2).trans (if_neg hk3))
    rw [e]; simp [catN]; omega
end Go.Proofs.YtdlnnnlmlaploabGreatDoor
