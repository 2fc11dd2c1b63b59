import Derived.Test.YtfjjpbebnoghmaaGreatDoorK00
import Derived.Test.YtfjjpbebnoghmaaGreatDoorK24
import Derived.Test.YtfjjpbebnoghmaaGreatDoorK03
namespace Go.Proofs.YtfjjpbebnoghmaaGreatDoor
open Go.RowKit
def fl8:List UInt8:=[0,0,0,0,0,0,0,16]
theorem fl_built:Tryz.prog.built 95 [(7,.int .u8 16)] = some (bc fl8):=by kernel_rfl
theorem yieldsIf_built1 {ops:Array Oper} {S:World→Prop} {op:Oper} {a:Act} (hw:Region.wanted op (yielded ops a.tmps) = true) (t:TypeId) (i0:Nat) (x0:Operand) (ho:op.op = .build t #[(i0,x0)]) (v0:Value) (h0:a.eval x0 = v0) (T:Array Value)
    (hT:Tryz.prog.built t [(i0,v0)] = some T):YieldsIf Tryz.prog ops S op (.agg T) a:=
  .inl ⟨hw,fun w _=>by
    have hf:Tryz.prog.built t (#[(i0,x0)].map fun (i,x)=>(i,a.eval x)).toList = some T:=by
      rw [← hT]
      simp [h0]
    have h:=run_build w t _ T hf
    unfold execOp
    simp only [ho,Sem.run_bind,h,Result.andThen_ok,Sem.run_pure]⟩
theorem yieldsIf_built3 {ops:Array Oper} {S:World→Prop} {op:Oper} {a:Act} (hw:Region.wanted op (yielded ops a.tmps) = true) (t:TypeId) (x0 x1 x2:Operand) (ho:op.op = .build t #[(0,x0),(1,x1),(2,x2)]) (v0 v1 v2:Value) (h0:a.eval x0 = v0) (h1:a.eval x1 = v1) (h2:a.eval x2 = v2) (T:Array Value)
    (hT:Tryz.prog.built t [(0,v0),(1,v1),(2,v2)] = some T):YieldsIf Tryz.prog ops S op (.agg T) a:=
  .inl ⟨hw,fun w _=>by
    have hf:Tryz.prog.built t (#[(0,x0),(1,x1),(2,x2)].map fun (i,x)=>(i,a.eval x)).toList = some T:=by
      rw [← hT]
      simp [h0,h1,h2]
    have h:=run_build w t _ T hf
    unfold execOp
    simp only [ho,Sem.run_bind,h,Result.andThen_ok,Sem.run_pure]⟩
theorem built30 (parts:List (Nat × Value)):Tryz.prog.built 97 parts = Instr.fill (([(0,8),(8,20),(28,20)]:List (Nat × Nat)).toArray[·]?) (bc (zr 48)) parts:=by kernel_rfl
theorem fill_part (pl:Nat→Option (Nat × Nat)) (A M C:List UInt8) (pr:List UInt8) (i off:Nat) (rest:List (Nat × Value)) (hp:pl i = some (off,pr.length)) (hA:A.length = off) (hM:M.length = pr.length) :
    Instr.fill pl (bc (A ++ M ++ C)) ((i,.agg (bc pr)) :: rest) = Instr.fill pl (bc (A ++ pr ++ C)) rest:=by
  have hc:(Value.agg (bc pr)).cells = bc pr:=rfl
  conv=>lhs; unfold Instr.fill
  rw [hp]
  simp only [hc,bc_size]
  rw [if_neg (by simp [hA,hM])]
  congr 1
  apply Array.ext'
  rw [← Array.foldl_toList,Array.toList_zipIdx]
  have q:=foldl_off off (bc pr).toList 0 (bc (A ++ M ++ C)) (by rw [Array.length_toList,bc_size,bc_size]; simp [hA,hM])
  rw [q]
  rw [bc_list,bc_list,bc_list,Nat.add_zero,bcl_len,bcl_append,bcl_append,bcl_append,bcl_append]
  have d1:(Lib.byteCells A ++ Lib.byteCells M ++ Lib.byteCells C).take off = Lib.byteCells A:=by rw [List.append_assoc,List.take_left' (by rw [bcl_len,hA])]
  have d2:(Lib.byteCells A ++ Lib.byteCells M ++ Lib.byteCells C).drop (off + pr.length) = Lib.byteCells C:=List.drop_left' (by rw [List.length_append,bcl_len,bcl_len,hA,hM])
  rw [d1,d2]
theorem hello_built (i m:List UInt8) (hi:i.length = 20) (hm:m.length = 20):Tryz.prog.built 97 [(0,.agg (bc fl8)),(1,.agg (bc i)),(2,.agg (bc m))] = some (bc (fl8 ++ i ++ m)):=by
  rw [built30]
  have e0:bc (zr 48) = bc ([] ++ zr 8 ++ zr 40):=rfl
  rw [e0,fill_part _ [] (zr 8) (zr 40) fl8 0 0 _ rfl rfl rfl]
  have e1:bc ([] ++ fl8 ++ zr 40) = bc (fl8 ++ zr 20 ++ zr 20):=rfl
  rw [e1,fill_part _ fl8 (zr 20) (zr 20) i 1 8 _ (by rw [hi]; rfl) rfl (by rw [hi]; rfl)]
  have e2:fl8 ++ i ++ zr 20 = (fl8 ++ i) ++ zr 20 ++ []:=by simp
  rw [e2,fill_part _ (fl8 ++ i) (zr 20) [] m 2 28 _ (by rw [hm]; rfl) (by rw [List.length_append,hi]; rfl) (by rw [hm]; rfl)]
  unfold Instr.fill
  simp
set_option maxHeartbeats 2000000 in
set_option maxRecDepth 100000 in
theorem greetP (w:World) (g:Nat) (P:Pv) (h:PK w g P) (hb:0 < P.b) (me:List UInt8) (hme:me.length = 20) :
    Calls Tryz.prog 33 #[.pointer (some ⟨g,0,none⟩),.agg (bc me)] w fun e w'=>∃ v,e = .returned v∧OW w.heap.size w' v (Fm.sgn ++ (fl8 ++ P.info ++ me))∧Below w.heap.size w w':=by
  have bA:Below w.heap.size w (w.alloc (.cells (bc me) 41)):=(Below.refl _ _).alloc (Nat.le_refl _) _
  have HBA:=Lib.hid bA
  have HK1:=Lib.hid (h.keep (bA.block g h.lt))
  have HM:Hid (Calls Tryz.prog 56 #[.pointer (some ⟨g,0,none⟩)] (w.alloc (.cells (bc me) 41)) fun e w'=>e = .returned (.bool false)∧w' = w.alloc (.cells (bc me) 41)):=missingT _ g P HK1.out hb
  have hP:=h.1
  have hi1:(Tryz.prog.info? 41).map (·.size) = some (Lib.byteCells P.info).length:=by rw [bcl_len,hP]; exact info20
  have hi2:(Tryz.prog.info? 41).map (·.size) = some (Lib.byteCells me).length:=by rw [bcl_len,hme]; exact info20
  have rowOf:∀ u:World,u.heap[w.heap.size]? = some (.cells (bc me) 41 (0,0))→u.rangeAt w.heap.size 0 (Lib.byteCells me):=fun u hu j v hj=>by
    rw [Nat.zero_add]
    simp only [World.cell?,hu,bc]
    simpa using hj
  have HRI:Hid ((w.alloc (.cells (bc me) 41)).rangeAt g 0 (Lib.byteCells P.info)):=HK1.out.infoR
  have HRM:Hid ((w.alloc (.cells (bc me) 41)).rangeAt w.heap.size 0 (Lib.byteCells me)):=rowOf _ (heapNew _ _)
  have hkeep:∀ w2,Below (w.alloc (.cells (bc me) 41)).drew.heap.size (w.alloc (.cells (bc me) 41)).drew w2→w2.rangeAt g 0 (Lib.byteCells P.info)∧w2.rangeAt w.heap.size 0 (Lib.byteCells me):=fun w2 b2=>⟨(HK1.out.keep (b2.block g HK1.out.lt)).infoR,rowOf _ ((b2.block w.heap.size (by show w.heap.size < (w.heap.push _).size; simp)).trans (heapNew _ _))⟩
  clear bA h rowOf
  go_enter Tryz.func33,Tryz.ntmps33
  go_wp2_with fail
  refine HM.out.mono ?_
  rintro e w1 ⟨rfl,rfl⟩
  go_upto_region 3 with fail
  refine wp_region_held_drew (S:=fun u=>u.rangeAt g 0 (Lib.byteCells P.info)∧u.rangeAt w.heap.size 0 (Lib.byteCells me)) (by kernel_rfl) (⟨HRI.out,HRM.out⟩) (fun hHeld=>?_)
  refine tkA (i:=0) (v:=.agg (bc fl8)) rfl (yieldsIf_built1 (by rfl) 95 7 _ rfl (.int .u8 16) rfl _ fl_built) hHeld ?_
  simp only [Act.put,zq1,zq2,zq4,zq5,zq6]
  refine tkB (i:=1) (v:=.pointer (some ⟨g,0,none⟩)) rfl hHeld ?_
  simp only [Act.put,zq1,zq2,zq3,zq4,zq5,zq6]
  refine tkB (i:=2) (v:=.pointer (some ⟨g,0,none⟩)) rfl hHeld ?_
  simp only [Act.put,zq1,zq2,zq3,zq4,zq5,zq6]
  refine tkB (i:=3) (v:=.pointer (some ⟨g,0,none⟩)) rfl hHeld ?_
  simp only [Act.put,zq1,zq2,zq3,zq4,zq5,zq6]
  refine tkB (i:=4) (v:=.pointer (some ⟨g,0,none⟩)) rfl hHeld ?_
  simp only [Act.put,zq1,zq2,zq3,zq4,zq5,zq6]
  refine tkA (i:=5) (v:=.agg (bc P.info)) rfl (yieldsIf_load_mid (by rfl) _ _ rfl _ _ rfl _ _ (fun u hw=>hw.1) Tryz.underlying41 rfl hi1) hHeld ?_
  simp only [Act.put,zq1,zq2,zq3,zq4,zq5,zq6]
  refine tkA (i:=6) (v:=.agg (bc me)) rfl (yieldsIf_load_mid (by rfl) _ _ rfl _ _ rfl _ _ (fun u hw=>hw.2) Tryz.underlying41 rfl hi2) hHeld ?_
  simp only [Act.put,zq1,zq2,zq3,zq4,zq5,zq6]
  refine tkA (i:=7) (v:=.agg (bc (fl8 ++ P.info ++ me))) rfl (yieldsIf_built3 (by rfl) 97 _ _ _ rfl (.agg (bc fl8)) (.agg (bc P.info)) (.agg (bc me)) rfl rfl rfl _ (hello_built P.info me hP hme)) hHeld ?_
  simp only [Act.put,zq1,zq2,zq3,zq4,zq5,zq6]
  refine wpAnyH_ready (rs:=[8]) (by kernel_rfl) (by simp) ?_
  refine AllReadyH.cons (o:=_) rfl (fun K hK=>?_) AllReadyH.nil
  go_simp
  refine (Fm.greet (fl8 ++ P.info ++ me) (by simp [hP,hme,fl8]) _).mono ?_
  rintro e w2 ⟨v2,rfl,o2,b2⟩
  obtain ⟨a2,c2,rfl⟩:=o2.form
  have HO2:=Lib.hid (And.intro o2 b2)
  have K2:=hkeep w2 b2
  clear o2 b2
  obtain ⟨n2,hn2⟩:∃ k,k = (Fm.sgn ++ (fl8 ++ P.info ++ me)).length:=⟨_,rfl⟩
  rw [← hn2] at HO2 ⊢
  clear hn2
  go_wp2_with fail
  refine hK.out _ _ K2 (fun hHeld=>?_)
  clear hK K K2
  refine tkB (i:=9) (v:=.slice a2 n2 c2) rfl hHeld ?_
  simp only [Act.put,zq1,zq2,zq3,zq4,zq5,zq6]
  refine wpAnyH_done (by kernel_rfl) ?_ _
  clear hHeld
  have HEnd:Hid (OW w.heap.size w2 (.slice a2 n2 c2) (Fm.sgn ++ (fl8 ++ P.info ++ me))∧Below w.heap.size w w2):=⟨OW.mono HO2.out.1 (by show w.heap.size≤(w.heap.push _).size; simp),(belowN HBA.out 1).trans (HO2.out.2.mono (by show w.heap.size≤(w.heap.push _).size; simp))⟩
  clear HO2 hkeep
  go_wp2
  go_ret
  exact ⟨_,rfl,HEnd.out.1,HEnd.out.2⟩
set_option maxHeartbeats 1000000 in
theorem saysW (w:World) (g:Nat) (P:Pv) (h:PK w g P) (k:Int) :
    Calls Tryz.prog 51 #[.pointer (some ⟨g,25,none⟩),.int .i64 k] w fun e w'=>e = .returned (.tuple #[])∧PK w' g { P with wc:=(sy k P.wc P.wi P.wb).1,wi:=(sy k P.wc P.wi P.wb).2.1,wb:=(sy k P.wc P.wi P.wb).2.2 }∧Fm.Fr (fun k=>k≠g) w w':=by
  have HK:Hid (PK w g P):=h
  obtain ⟨c1,c2,c3,_⟩:=h.sides
  have f1:=h.fr 25
  have f2:=h.fr 26
  have f3:=h.fr 27
  clear h
  by_cases k0:k = -1
  · subst k0
    go_enter Tryz.func51,Tryz.ntmps51
    go_wp2
    (try simp only [Exit.inBlock,Exit.then]); refine bodyPost_ret (results_none rfl _ _ _) rfl ?_
    exact ⟨rfl,HK.out,Fm.Fr.refl _ _⟩
  by_cases k1:k = 1000
  · subst k1
    go_enter Tryz.func51,Tryz.ntmps51
    go_wp2
    (try simp only [Exit.inBlock,Exit.then]); refine bodyPost_ret (results_none rfl _ _ _) rfl ?_
    exact ⟨rfl,HK.out,Fm.Fr.refl _ _⟩
  by_cases k2:k = 0
  · subst k2
    go_enter Tryz.func51,Tryz.ntmps51
    go_wp2
    go_end0
    exact ⟨rfl,(HK.out.set 5 _ { P with wc:=true } rfl rfl).set 7 _ _ rfl rfl,((Fm.Fr.refl (fun k=>k≠g) w).setCell g 25 _ (fun h=>h rfl)).setCell g 27 _ (fun h=>h rfl)⟩
  by_cases k3:k = 1
  · subst k3
    go_enter Tryz.func51,Tryz.ntmps51
    go_wp2
    go_end0
    exact ⟨rfl,(HK.out.set 5 _ { P with wc:=false } rfl rfl).set 7 _ _ rfl rfl,((Fm.Fr.refl (fun k=>k≠g) w).setCell g 25 _ (fun h=>h rfl)).setCell g 27 _ (fun h=>h rfl)⟩
  by_cases k4:k = 2
  · subst k4
    go_enter Tryz.func51,Tryz.ntmps51
    go_wp2
    go_end0
    exact ⟨rfl,(HK.out.set 6 _ { P with wi:=true } rfl rfl).set 7 _ _ rfl rfl,((Fm.Fr.refl (fun k=>k≠g) w).setCell g 26 _ (fun h=>h rfl)).setCell g 27 _ (fun h=>h rfl)⟩
  by_cases k5:k = 3
  · subst k5
    go_enter Tryz.func51,Tryz.ntmps51
    go_wp2
    go_end0
    exact ⟨rfl,(HK.out.set 6 _ { P with wi:=false } rfl rfl).set 7 _ _ rfl rfl,((Fm.Fr.refl (fun k=>k≠g) w).setCell g 26 _ (fun h=>h rfl)).setCell g 27 _ (fun h=>h rfl)⟩
  have e:sy k P.wc P.wi P.wb = (P.wc,P.wi,true):=by unfold sy; rw [if_neg (by omega),if_neg k2,if_neg k3,if_neg k4,if_neg k5]
  rw [e]
  have q0:(k == -1) = false:=by simp [k0]
  have q1:(k == 1000) = false:=by simp [k1]
  have q2:(k == 0) = false:=by simp [k2]
  have q3:(k == 1) = false:=by simp [k3]
  have q4:(k == 2) = false:=by simp [k4]
  have q5:(k == 3) = false:=by simp [k5]
  clear k0 k1 k2 k3 k4 k5 e
  go_enter Tryz.func51,Tryz.ntmps51
  go_wp2
  go_end0
  exact ⟨rfl,HK.out.set 7 _ _ rfl rfl,(Fm.Fr.refl (fun k=>k≠g) w).setCell g 27 _ (fun h=>h rfl)⟩
theorem rms_one {w:World} {x:Mg} (h:MM w x.m x.D x.hb):RMS (w.alloc (.cells x.m.cs 40)) (.slice (some ⟨w.heap.size,0,none⟩) 1 1) [x]:=by
  refine ⟨some ⟨w.heap.size,0,none⟩,1,rfl,Nat.le_refl _,.inr ⟨w.heap.size,0,rfl,by simp,fun i y hy j u hu=>?_⟩,fun y hy=>?_⟩
  · match i,hy with
    | 0,hy =>
      simp at hy
      subst hy
      have hb:MB (w.alloc (.cells x.m.cs 40)) w.heap.size x.m:=heapNew _ _
      simpa using hb.cell j hu
  · simp at hy
    subst hy
    exact h.keep ((Below.refl _ _).alloc (Nat.le_refl _) _)
def Rv.st (Q:Rv) (hv:Value):Array Value:=#[.bool Q.sh,.bool Q.gone,.int .i64 Q.why,.bool Q.ac,.bool Q.ai,.bool Q.c,.bool Q.i,hv]
theorem RQ.rng {w:World} {g:Nat} {Q:Rv} (h:RQ w g Q):w.rangeAt g 24 [.bool Q.sh,.bool Q.gone,.int .i64 Q.why,.bool Q.ac,.bool Q.ai,.bool Q.c,.bool Q.i,Q.hs]:=fun j v hj=>by
  have hx:Q.tl[2 + j]? = some v:=by
    unfold Rv.tl
    rw [Nat.add_comm]
    match j,hj with
    | 0,hj | 1,hj | 2,hj | 3,hj | 4,hj | 5,hj | 6,hj | 7,hj=>exact hj
    | j + 8,hj=>simp at hj
  have:=h.at (2 + j) hx
  rw [show 22 + (2 + j) = 24 + j by omega] at this
  exact this
set_option maxHeartbeats 4000000 in
set_option maxRecDepth 100000 in
theorem rStateT (w:World) (g:Nat) (Q:Rv) (h:RQ w g Q) (H:List UInt8) (hr:RB w Q.hs H) (hH:H.length≤140737488351232) :
    Calls Tryz.prog 31 #[.pointer (some ⟨g,0,none⟩)] w fun e w'=>∃ hv,e = .returned (.agg (Q.st hv))∧OW w.heap.size w' hv H∧Below w.heap.size w w':=by
  have bA:Below w.heap.size w (w.alloc (.cells z8 61)):=(Below.refl _ _).alloc (Nat.le_refl _) _
  have bB:Below w.heap.size w ((w.alloc (.cells z8 61)).alloc (.cells z8 61)):=bA.alloc bA.size _
  have HBB:=Lib.hid bB
  have hrA:(w.alloc (.cells z8 61)).rangeAt g 24 [.bool Q.sh,.bool Q.gone,.int .i64 Q.why,.bool Q.ac,.bool Q.ai,.bool Q.c,.bool Q.i,Q.hs]:=(h.keep (bA.block g h.lt)).rng
  have hT:((w.alloc (.cells z8 61)).alloc (.cells z8 61)).heap[w.heap.size + 1]? = some (.cells z8 61 (0,0)):=by
    have:=heapNew (w.alloc (.cells z8 61)) (.cells z8 61)
    rwa [show (w.alloc (.cells z8 61)).heap.size = w.heap.size + 1 by show (w.heap.push _).size = _; simp] at this
  have hone:(Q.st Q.hs).all (·.oneCell') = true:=by
    obtain ⟨a,c,e,_⟩:=hr
    rw [e]
    simp [Rv.st,Value.oneCell']
  have hinfo:(Tryz.prog.info? 61).map (·.size) = some ([Value.bool Q.sh,.bool Q.gone,.int .i64 Q.why,.bool Q.ac,.bool Q.ai,.bool Q.c,.bool Q.i,Q.hs]:List Value).length:=st_info
  have hgl:=h.lt
  have hsz:((w.alloc (.cells z8 61)).alloc (.cells z8 61)).heap.size = w.heap.size + 2:=by show ((w.heap.push _).push _).size = _; simp
  have hR1:((w.alloc (.cells z8 61)).alloc (.cells z8 61)).heap[w.heap.size]? = some (.cells z8 61 (0,0)):=(((Below.refl (w.heap.size + 1) (w.alloc (.cells z8 61))).alloc (by show w.heap.size + 1≤(w.heap.push _).size; simp) _).block w.heap.size (by omega)).trans (heapNew w _)
  go_enter Tryz.func31,Tryz.ntmps31
  go_upto_region 4 with (first |(refine wpList_load_mid rfl 61 _ rfl g 24 rfl [.bool Q.sh,.bool Q.gone,.int .i64 Q.why,.bool Q.ac,.bool Q.ai,.bool Q.c,.bool Q.i,Q.hs] _ hrA Tryz.underlying61 rfl hinfo ?_) |(refine wpList_store_row rfl 61 _ _ rfl (w.heap.size + 1) (Q.st Q.hs) rfl rfl 61 z8 hT st_info rfl hone ?_))
  obtain ⟨u2,hu2⟩:∃ u,u = ((w.alloc (.cells z8 61)).alloc (.cells z8 61)).setRow (w.heap.size + 1) (Q.st Q.hs):=⟨_,rfl⟩
  have b2:Below w.heap.size w u2:=by rw [hu2]; exact belowSetRow bB (by omega) _
  have hT2:u2.heap[w.heap.size + 1]? = some (.cells (Q.st Q.hs) 61 (0,0)):=by rw [hu2]; exact setRow_heap _ _ _ _ _ _ hT
  have hR2:u2.heap[w.heap.size]? = some (.cells z8 61 (0,0)):=by rw [hu2]; exact (setRow_other _ _ _ _ (by omega)).trans hR1
  have hs2:u2.heap.size = w.heap.size + 2:=by rw [hu2, ← hsz]; exact setRow_size _ _ _
  unfold z8 at hu2
  rw [← hu2]
  clear hu2
  obtain ⟨ha,hc,hhs,_⟩:=id hr
  have c31:=(h.keep (b2.block g h.lt)).at 9 (show Q.tl[9]? = some Q.hs from rfl)
  rw [hhs] at c31
  have HO:Hid (OW u2.heap.size u2 (.slice none 0 0) []∧RB u2 (.slice ha H.length hc) H∧([]:List UInt8).length + H.length≤140737488351232):=⟨World.ownsRow_nil _ _ _ _,hhs ▸ hr.keep b2,by simpa using hH⟩
  have HB2:=Lib.hid b2
  clear h hr bA bB hrA hT hone hinfo hR1 hsz HBB b2
  go_upto_region 6 with (first |(at_builtin; refine append_bytes rfl _ _ rfl rfl HO.out.1 rfl HO.out.2.1 (Nat.le_refl _) HO.out.2.2 ?_; intro v1 w3 o3 b3; simp only [List.nil_append] at o3; obtain ⟨ca,cn,cc,rfl⟩:=o3.form3))
  have hT3:w3.heap[w.heap.size + 1]? = some (.cells (Q.st Q.hs) 61 (0,0)):=(b3.block _ (by omega)).trans hT2
  have hR3:w3.heap[w.heap.size]? = some (.cells z8 61 (0,0)):=(b3.block _ (by omega)).trans hR2
  have c7:w3.cell? ⟨w.heap.size + 1,7,none⟩ = some Q.hs:=by simp [World.cell?,hT3,Rv.st]
  have f7:w3.frozen? ⟨w.heap.size + 1,7,none⟩ = false:=by simp [World.frozen?,hT3]
  have hT4:(w3.setCell ⟨w.heap.size + 1,7,none⟩ (.slice ca cn cc)).heap[w.heap.size + 1]? = some (.cells (Q.st (.slice ca cn cc)) 61 (0,0)):=heap_setCell_same w3 _ 7 _ _ _ hT3
  have hR4:(w3.setCell ⟨w.heap.size + 1,7,none⟩ (.slice ca cn cc)).heap[w.heap.size]? = some (.cells z8 61 (0,0)):=(Fm.setCell_other (by omega)).trans hR3
  have hR5:((w3.setCell ⟨w.heap.size + 1,7,none⟩ (.slice ca cn cc)).setRow w.heap.size (Q.st (.slice ca cn cc))).heap[w.heap.size]? = some (.cells (Q.st (.slice ca cn cc)) 61 (0,0)):=setRow_heap _ _ _ _ _ _ hR4
  have hone':(Q.st (.slice ca cn cc)).all (·.oneCell') = true:=by simp [Rv.st,Value.oneCell']
  have HE:Hid (OW w.heap.size ((w3.setCell ⟨w.heap.size + 1,7,none⟩ (.slice ca cn cc)).setRow w.heap.size (Q.st (.slice ca cn cc))) (.slice ca cn cc) H∧Below w.heap.size w ((w3.setCell ⟨w.heap.size + 1,7,none⟩ (.slice ca cn cc)).setRow w.heap.size (Q.st (.slice ca cn cc)))):=by
    refine ⟨OW.mono (B:=u2.heap.size) (ownsRow_fr (w:=w3) o3 (fun k hk _=>(setRow_other _ _ _ _ (by omega)).trans (Fm.setCell_other (by omega)))) (by omega),?_⟩
    exact belowSetRow ((HB2.out.trans (b3.mono (by omega))).setCell (p:=⟨w.heap.size + 1,7,none⟩) (by show w.heap.size≤w.heap.size + 1; omega) _) (Nat.le_refl _) _
  clear o3 b3 HO HB2 hT2 hR2 hT3 hR3 c31
  go_wp2_with (first |(refine wpList_load_row rfl 61 _ rfl (w.heap.size + 1) rfl 61 (Q.st (.slice ca cn cc)) (0,0) _ hT4 Tryz.underlying61 rfl st_info ?_) |(refine wpList_store_row rfl 61 _ _ rfl w.heap.size (Q.st (.slice ca cn cc)) rfl rfl 61 z8 hR4 st_info rfl hone' ?_))
  (try simp only [Exit.inBlock,Exit.then]); refine bodyPost_ret (results_state rfl _ _ w.heap.size _ rfl hR5 rfl) rfl ?_
  exact ⟨_,rfl,HE.out.1,HE.out.2⟩
theorem numT (w:World) (k:Int):Calls Tryz.prog 117 #[.int .i64 k] w fun e w'=>e = .returned (.bool (numB k))∧w' = w:=by
  by_cases h1:0≤k
  · rw [show numB k = decide (k≤4294967295) by simp [numB,h1]]
    go_enter Tryz.func117,Tryz.ntmps117
    go_wp2
    go_ret
    exact ⟨rfl,rfl⟩
  · rw [show numB k = false by simp [numB,h1]]
    go_enter Tryz.func117,Tryz.ntmps117
    go_wp2
    go_ret
    exact ⟨rfl,rfl⟩
set_option maxHeartbeats 2000000 in
set_option maxRecDepth 100000 in
theorem rforeignT (w:World) (m:Mv) (ok:m.ok):Calls Tryz.prog 110 #[.agg m.cs] w fun e w'=>e = .returned (.bool (fR m))∧Below w.heap.size w w':=by
  have hm:MB (w.alloc (.cells m.cs 40)) w.heap.size m:=heapNew w _
  have HB:Hid (Below w.heap.size w (w.alloc (.cells m.cs 40))):=(Below.refl _ _).alloc (Nat.le_refl _) _
  have hA:=fun u=>asksT u m.k
  have hQ:=fun u=>queryT u m.k
  obtain ⟨ad,nd,cd,hd⟩:=ok.d
  obtain ⟨ah,nh,ch,hh⟩:=ok.h
  have HR:Hid (fR m = (fc1 m (asksB m.k) (queryB m.k) || fc2 m (asksB m.k) || fc3 m (asksB m.k) (queryB m.k) || fc4 m nd || fc5 m (queryB m.k) || fc6 m nh)):=by
    unfold Hid fR; rw [hd,hh]; rfl
  generalize asksB m.k = bA at *
  generalize queryB m.k = bQ at *
  have c0:=hm.c0
  have c1:=hm.c1
  have c2:=hm.c2
  have c3:=hm.c3
  have c37:=hm.c37 ok
  have c38:=hm.c38 ok
  have c4:=hm.c4
  have c39:=hm.c39 ok
  rw [hd] at c4
  rw [hh] at c39
  have hrt:=hm.root
  have hih:(Tryz.prog.info? 25).map (·.size) = some (Lib.byteCells m.r).length:=by rw [bcl_len,ok.r]; exact info_hash
  have hne:∀ u:World,(Op.equalIn 10000 25 (.agg (bc m.r)) (.agg #[Value.int .u8 0,.int .u8 0,.int .u8 0,.int .u8 0,.int .u8 0,.int .u8 0,.int .u8 0,.int .u8 0,.int .u8 0,.int .u8 0,.int .u8 0,.int .u8 0,.int .u8 0,.int .u8 0,.int .u8 0,.int .u8 0,.int .u8 0,.int .u8 0,.int .u8 0,.int .u8 0,.int .u8 0,.int .u8 0,.int .u8 0,.int .u8 0,.int .u8 0,.int .u8 0,.int .u8 0,.int .u8 0,.int .u8 0,.int .u8 0,.int .u8 0,.int .u8 0])).run Tryz.prog u = .ok (decide (m.r = zr 32)) u:=fun u=>equal_hash u 9998 m.r (zr 32) ok.r (zr_len 32)
  change ∀ u:World,(Op.equalIn 10000 25 (.agg (Lib.byteCells m.r).toArray) (.agg #[Value.int .u8 0,.int .u8 0,.int .u8 0,.int .u8 0,.int .u8 0,.int .u8 0,.int .u8 0,.int .u8 0,.int .u8 0,.int .u8 0,.int .u8 0,.int .u8 0,.int .u8 0,.int .u8 0,.int .u8 0,.int .u8 0,.int .u8 0,.int .u8 0,.int .u8 0,.int .u8 0,.int .u8 0,.int .u8 0,.int .u8 0,.int .u8 0,.int .u8 0,.int .u8 0,.int .u8 0,.int .u8 0,.int .u8 0,.int .u8 0,.int .u8 0,.int .u8 0])).run Tryz.prog u = .ok (decide (m.r = zr 32)) u at hne
  clear hm hd hh ok
  generalize m.cs = mcs at *
  go_enter Tryz.func110,Tryz.ntmps110
  go_upto_region 2 with fail
  generalize w.alloc (.cells mcs 40) = w0 at *
  go_cut [3,30] from 4 (fun s3 s wc=>s3 = .int .i64 m.k∧s = .bool (fc1 m bA bQ)∧w0 = wc)
  case first =>
    by_cases q1:m.i = 0
    · go_wp2_with (first |(go_at_call 77; refine (hA _).mono ?_; rintro e w' ⟨rfl,rfl⟩) |(go_at_call 78; refine (hQ _).mono ?_; rintro e w' ⟨rfl,rfl⟩) |(refine wpList_load_mid rfl 25 _ rfl w.heap.size 5 rfl (Lib.byteCells m.r) _ hrt Tryz.underlying25 rfl hih ?_))
      go_meet
      exact ⟨rfl,by first |(simp [fc1]; done) | simp [fc1,q1],rfl⟩
    · by_cases q2:m.k = 4
      · go_wp2_with (first |(go_at_call 77; refine (hA _).mono ?_; rintro e w' ⟨rfl,rfl⟩) |(go_at_call 78; refine (hQ _).mono ?_; rintro e w' ⟨rfl,rfl⟩) |(refine wpList_load_mid rfl 25 _ rfl w.heap.size 5 rfl (Lib.byteCells m.r) _ hrt Tryz.underlying25 rfl hih ?_))
        go_meet
        exact ⟨by rw [q2],by first |(simp [fc1]; done) | simp [fc1,q2],rfl⟩
      · by_cases q3:m.k = 7
        · go_wp2_with (first |(go_at_call 77; refine (hA _).mono ?_; rintro e w' ⟨rfl,rfl⟩) |(go_at_call 78; refine (hQ _).mono ?_; rintro e w' ⟨rfl,rfl⟩) |(refine wpList_load_mid rfl 25 _ rfl w.heap.size 5 rfl (Lib.byteCells m.r) _ hrt Tryz.underlying25 rfl hih ?_))
          go_meet
          exact ⟨by rw [q3],by first |(simp [fc1]; done) | simp [fc1,q3],rfl⟩
        · by_cases q4:m.k = 1000
          · go_wp2_with (first |(go_at_call 77; refine (hA _).mono ?_; rintro e w' ⟨rfl,rfl⟩) |(go_at_call 78; refine (hQ _).mono ?_; rintro e w' ⟨rfl,rfl⟩) |(refine wpList_load_mid rfl 25 _ rfl w.heap.size 5 rfl (Lib.byteCells m.r) _ hrt Tryz.underlying25 rfl hih ?_))
            go_meet
            exact ⟨by rw [q4],by first |(simp [fc1]; done) | simp [fc1,q4],rfl⟩
          · cases bA
            · cases bQ
              · go_wp2_with (first |(go_at_call 77; refine (hA _).mono ?_; rintro e w' ⟨rfl,rfl⟩) |(go_at_call 78; refine (hQ _).mono ?_; rintro e w' ⟨rfl,rfl⟩) |(refine wpList_load_mid rfl 25 _ rfl w.heap.size 5 rfl (Lib.byteCells m.r) _ hrt Tryz.underlying25 rfl hih ?_))
                go_meet
                exact ⟨rfl,by first |(simp [fc1]; done) | simp [fc1,q1,q2,q3,q4],rfl⟩
              · go_wp2_with (first |(go_at_call 77; refine (hA _).mono ?_; rintro e w' ⟨rfl,rfl⟩) |(go_at_call 78; refine (hQ _).mono ?_; rintro e w' ⟨rfl,rfl⟩) |(refine wpList_load_mid rfl 25 _ rfl w.heap.size 5 rfl (Lib.byteCells m.r) _ hrt Tryz.underlying25 rfl hih ?_))
                go_meet
                exact ⟨rfl,by first |(simp [fc1]; done) | simp [fc1],rfl⟩
            · go_wp2_with (first |(go_at_call 77; refine (hA _).mono ?_; rintro e w' ⟨rfl,rfl⟩) |(go_at_call 78; refine (hQ _).mono ?_; rintro e w' ⟨rfl,rfl⟩) |(refine wpList_load_mid rfl 25 _ rfl w.heap.size 5 rfl (Lib.byteCells m.r) _ hrt Tryz.underlying25 rfl hih ?_))
              go_meet
              exact ⟨rfl,by first |(simp [fc1]; done) | simp [fc1],rfl⟩
  case rest =>
  obtain ⟨rfl,rfl,rfl⟩:=hcut
  cases b2:fc1 m bA bQ
  case true =>
    go_wp2
    go_ret
    exact ⟨by rw [HR.out,b2]; simp,HB.out⟩
  case false =>
  have B2:Hid (fc1 m bA bQ = false):=b2
  clear b2
  go_upto_region 4 with fail
  go_cut [3,42] from 4 (fun s3 s wc=>s3 = .int .i64 m.k∧s = .bool (fc2 m bA)∧w0 = wc)
  case first =>
    by_cases q1:m.b = 0
    · go_wp2_with (first |(go_at_call 77; refine (hA _).mono ?_; rintro e w' ⟨rfl,rfl⟩) |(go_at_call 78; refine (hQ _).mono ?_; rintro e w' ⟨rfl,rfl⟩) |(refine wpList_load_mid rfl 25 _ rfl w.heap.size 5 rfl (Lib.byteCells m.r) _ hrt Tryz.underlying25 rfl hih ?_))
      go_meet
      exact ⟨rfl,by first |(simp [fc2]; done) | simp [fc2,q1],rfl⟩
    · by_cases q2:m.k = 7
      · go_wp2_with (first |(go_at_call 77; refine (hA _).mono ?_; rintro e w' ⟨rfl,rfl⟩) |(go_at_call 78; refine (hQ _).mono ?_; rintro e w' ⟨rfl,rfl⟩) |(refine wpList_load_mid rfl 25 _ rfl w.heap.size 5 rfl (Lib.byteCells m.r) _ hrt Tryz.underlying25 rfl hih ?_))
        go_meet
        exact ⟨by rw [q2],by first |(simp [fc2]; done) | simp [fc2,q2],rfl⟩
      · cases bA
        · go_wp2_with (first |(go_at_call 77; refine (hA _).mono ?_; rintro e w' ⟨rfl,rfl⟩) |(go_at_call 78; refine (hQ _).mono ?_; rintro e w' ⟨rfl,rfl⟩) |(refine wpList_load_mid rfl 25 _ rfl w.heap.size 5 rfl (Lib.byteCells m.r) _ hrt Tryz.underlying25 rfl hih ?_))
          go_meet
          exact ⟨rfl,by first |(simp [fc2]; done) | simp [fc2,q1,q2],rfl⟩
        · go_wp2_with (first |(go_at_call 77; refine (hA _).mono ?_; rintro e w' ⟨rfl,rfl⟩) |(go_at_call 78; refine (hQ _).mono ?_; rintro e w' ⟨rfl,rfl⟩) |(refine wpList_load_mid rfl 25 _ rfl w.heap.size 5 rfl (Lib.byteCells m.r) _ hrt Tryz.underlying25 rfl hih ?_))
          go_meet
          exact ⟨rfl,by first |(simp [fc2]; done) | simp [fc2],rfl⟩
  case rest =>
  obtain ⟨rfl,rfl,rfl⟩:=hcut
  cases b4:fc2 m bA
  case true =>
    go_wp2
    go_ret
    exact ⟨by rw [HR.out,b4]; simp,HB.out⟩
  case false =>
  have B4:Hid (fc2 m bA = false):=b4
  clear b4
  go_upto_region 6 with fail
  go_cut [3,55] from 4 (fun s3 s wc=>s3 = .int .i64 m.k∧s = .bool (fc3 m bA bQ)∧w0 = wc)
  case first =>
    by_cases q1:m.l = 0
    · go_wp2_with (first |(go_at_call 77; refine (hA _).mono ?_; rintro e w' ⟨rfl,rfl⟩) |(go_at_call 78; refine (hQ _).mono ?_; rintro e w' ⟨rfl,rfl⟩) |(refine wpList_load_mid rfl 25 _ rfl w.heap.size 5 rfl (Lib.byteCells m.r) _ hrt Tryz.underlying25 rfl hih ?_))
      go_meet
      exact ⟨rfl,by first |(simp [fc3]; done) | simp [fc3,q1],rfl⟩
    · cases bA
      · cases bQ
        · go_wp2_with (first |(go_at_call 77; refine (hA _).mono ?_; rintro e w' ⟨rfl,rfl⟩) |(go_at_call 78; refine (hQ _).mono ?_; rintro e w' ⟨rfl,rfl⟩) |(refine wpList_load_mid rfl 25 _ rfl w.heap.size 5 rfl (Lib.byteCells m.r) _ hrt Tryz.underlying25 rfl hih ?_))
          go_meet
          exact ⟨rfl,by first |(simp [fc3]; done) | simp [fc3,q1],rfl⟩
        · go_wp2_with (first |(go_at_call 77; refine (hA _).mono ?_; rintro e w' ⟨rfl,rfl⟩) |(go_at_call 78; refine (hQ _).mono ?_; rintro e w' ⟨rfl,rfl⟩) |(refine wpList_load_mid rfl 25 _ rfl w.heap.size 5 rfl (Lib.byteCells m.r) _ hrt Tryz.underlying25 rfl hih ?_))
          go_meet
          exact ⟨rfl,by first |(simp [fc3]; done) | simp [fc3],rfl⟩
      · go_wp2_with (first |(go_at_call 77; refine (hA _).mono ?_; rintro e w' ⟨rfl,rfl⟩) |(go_at_call 78; refine (hQ _).mono ?_; rintro e w' ⟨rfl,rfl⟩) |(refine wpList_load_mid rfl 25 _ rfl w.heap.size 5 rfl (Lib.byteCells m.r) _ hrt Tryz.underlying25 rfl hih ?_))
        go_meet
        exact ⟨rfl,by first |(simp [fc3]; done) | simp [fc3],rfl⟩
  case rest =>
  obtain ⟨rfl,rfl,rfl⟩:=hcut
  cases b6:fc3 m bA bQ
  case true =>
    go_wp2
    go_ret
    exact ⟨by rw [HR.out,b6]; simp,HB.out⟩
  case false =>
  have B6:Hid (fc3 m bA bQ = false):=b6
  clear b6
  go_upto_region 8 with fail
  go_cut [3,71] from 4 (fun s3 s wc=>s3 = .int .i64 m.k∧s = .bool (fc4 m nd)∧w0 = wc)
  case first =>
    by_cases q1:nd = 0
    · go_wp2_with (first |(go_at_call 77; refine (hA _).mono ?_; rintro e w' ⟨rfl,rfl⟩) |(go_at_call 78; refine (hQ _).mono ?_; rintro e w' ⟨rfl,rfl⟩) |(refine wpList_load_mid rfl 25 _ rfl w.heap.size 5 rfl (Lib.byteCells m.r) _ hrt Tryz.underlying25 rfl hih ?_))
      go_meet
      exact ⟨rfl,by first |(simp [fc4]; done) | simp [fc4,q1],rfl⟩
    · by_cases q2:m.k = 5
      · go_wp2_with (first |(go_at_call 77; refine (hA _).mono ?_; rintro e w' ⟨rfl,rfl⟩) |(go_at_call 78; refine (hQ _).mono ?_; rintro e w' ⟨rfl,rfl⟩) |(refine wpList_load_mid rfl 25 _ rfl w.heap.size 5 rfl (Lib.byteCells m.r) _ hrt Tryz.underlying25 rfl hih ?_))
        go_meet
        exact ⟨by rw [q2],by first |(simp [fc4]; done) | simp [fc4,q2],rfl⟩
      · by_cases q3:m.k = 7
        · go_wp2_with (first |(go_at_call 77; refine (hA _).mono ?_; rintro e w' ⟨rfl,rfl⟩) |(go_at_call 78; refine (hQ _).mono ?_; rintro e w' ⟨rfl,rfl⟩) |(refine wpList_load_mid rfl 25 _ rfl w.heap.size 5 rfl (Lib.byteCells m.r) _ hrt Tryz.underlying25 rfl hih ?_))
          go_meet
          exact ⟨by rw [q3],by first |(simp [fc4]; done) | simp [fc4,q3],rfl⟩
        · by_cases q4:m.k = 1000
          · go_wp2_with (first |(go_at_call 77; refine (hA _).mono ?_; rintro e w' ⟨rfl,rfl⟩) |(go_at_call 78; refine (hQ _).mono ?_; rintro e w' ⟨rfl,rfl⟩) |(refine wpList_load_mid rfl 25 _ rfl w.heap.size 5 rfl (Lib.byteCells m.r) _ hrt Tryz.underlying25 rfl hih ?_))
            go_meet
            exact ⟨by rw [q4],by first |(simp [fc4]; done) | simp [fc4,q4],rfl⟩
          · go_wp2_with (first |(go_at_call 77; refine (hA _).mono ?_; rintro e w' ⟨rfl,rfl⟩) |(go_at_call 78; refine (hQ _).mono ?_; rintro e w' ⟨rfl,rfl⟩) |(refine wpList_load_mid rfl 25 _ rfl w.heap.size 5 rfl (Lib.byteCells m.r) _ hrt Tryz.underlying25 rfl hih ?_))
            go_meet
            exact ⟨rfl,by first |(simp [fc4]; done) | simp [fc4,Nat.pos_of_ne_zero q1],rfl⟩
  case rest =>
  obtain ⟨rfl,rfl,rfl⟩:=hcut
  cases b8:fc4 m nd
  case true =>
    go_wp2
    go_ret
    exact ⟨by rw [HR.out,b8]; simp,HB.out⟩
  case false =>
  have B8:Hid (fc4 m nd = false):=b8
  clear b8
  go_upto_region 10 with fail
  go_cut [3,90] from 4 (fun s3 s wc=>s3 = .int .i64 m.k∧s = .bool (fc5 m bQ)∧w0 = wc)
  case first =>
    by_cases q1:m.r = zr 32
    · rw [decide_eq_true q1] at hne
      have H1:Hid (m.r = zr 32):=q1
      clear q1
      by_cases q2:m.ba = 0
      · by_cases q3:m.pr = 0
        · go_wp2_with (first |(go_at_call 77; refine (hA _).mono ?_; rintro e w' ⟨rfl,rfl⟩) |(go_at_call 78; refine (hQ _).mono ?_; rintro e w' ⟨rfl,rfl⟩) |(refine wpList_load_mid rfl 25 _ rfl w.heap.size 5 rfl (Lib.byteCells m.r) _ hrt Tryz.underlying25 rfl hih ?_))
          go_meet
          exact ⟨rfl,by first |(simp [fc5]; done) | simp [fc5,H1.out,q2,q3],rfl⟩
        · cases bQ
          · go_wp2_with (first |(go_at_call 77; refine (hA _).mono ?_; rintro e w' ⟨rfl,rfl⟩) |(go_at_call 78; refine (hQ _).mono ?_; rintro e w' ⟨rfl,rfl⟩) |(refine wpList_load_mid rfl 25 _ rfl w.heap.size 5 rfl (Lib.byteCells m.r) _ hrt Tryz.underlying25 rfl hih ?_))
            go_meet
            exact ⟨rfl,by first |(simp [fc5]; done) | simp [fc5,H1.out,q3],rfl⟩
          · go_wp2_with (first |(go_at_call 77; refine (hA _).mono ?_; rintro e w' ⟨rfl,rfl⟩) |(go_at_call 78; refine (hQ _).mono ?_; rintro e w' ⟨rfl,rfl⟩) |(refine wpList_load_mid rfl 25 _ rfl w.heap.size 5 rfl (Lib.byteCells m.r) _ hrt Tryz.underlying25 rfl hih ?_))
            go_meet
            exact ⟨rfl,by first |(simp [fc5]; done) | simp [fc5,H1.out],rfl⟩
      · cases bQ
        · go_wp2_with (first |(go_at_call 77; refine (hA _).mono ?_; rintro e w' ⟨rfl,rfl⟩) |(go_at_call 78; refine (hQ _).mono ?_; rintro e w' ⟨rfl,rfl⟩) |(refine wpList_load_mid rfl 25 _ rfl w.heap.size 5 rfl (Lib.byteCells m.r) _ hrt Tryz.underlying25 rfl hih ?_))
          go_meet
          exact ⟨rfl,by first |(simp [fc5]; done) | simp [fc5,H1.out,q2],rfl⟩
        · go_wp2_with (first |(go_at_call 77; refine (hA _).mono ?_; rintro e w' ⟨rfl,rfl⟩) |(go_at_call 78; refine (hQ _).mono ?_; rintro e w' ⟨rfl,rfl⟩) |(refine wpList_load_mid rfl 25 _ rfl w.heap.size 5 rfl (Lib.byteCells m.r) _ hrt Tryz.underlying25 rfl hih ?_))
          go_meet
          exact ⟨rfl,by first |(simp [fc5]; done) | simp [fc5,H1.out],rfl⟩
    · rw [decide_eq_false q1] at hne
      cases bQ
      · go_wp2_with (first |(go_at_call 77; refine (hA _).mono ?_; rintro e w' ⟨rfl,rfl⟩) |(go_at_call 78; refine (hQ _).mono ?_; rintro e w' ⟨rfl,rfl⟩) |(refine wpList_load_mid rfl 25 _ rfl w.heap.size 5 rfl (Lib.byteCells m.r) _ hrt Tryz.underlying25 rfl hih ?_))
        go_meet
        exact ⟨rfl,by first |(simp [fc5]; done) | simp [fc5,q1],rfl⟩
      · go_wp2_with (first |(go_at_call 77; refine (hA _).mono ?_; rintro e w' ⟨rfl,rfl⟩) |(go_at_call 78; refine (hQ _).mono ?_; rintro e w' ⟨rfl,rfl⟩) |(refine wpList_load_mid rfl 25 _ rfl w.heap.size 5 rfl (Lib.byteCells m.r) _ hrt Tryz.underlying25 rfl hih ?_))
        go_meet
        exact ⟨rfl,by first |(simp [fc5]; done) | simp [fc5,q1],rfl⟩
  case rest =>
  obtain ⟨rfl,rfl,rfl⟩:=hcut
  cases b10:fc5 m bQ
  case true =>
    go_wp2
    go_ret
    exact ⟨by rw [HR.out,b10]; simp,HB.out⟩
  case false =>
  have B10:Hid (fc5 m bQ = false):=b10
  clear b10
  have HF:Hid (fR m = (decide (0 < nh) && m.k != 22)):=by
    unfold Hid; rw [HR.out,B2.out,B4.out,B6.out,B8.out,B10.out]; rfl
  by_cases q1:nh = 0
  · go_wp2
    go_ret
    exact ⟨by rw [HF.out]; simp [q1],HB.out⟩
  · have q1':0 < nh:=Nat.pos_of_ne_zero q1
    go_wp2
    go_ret
    exact ⟨by rw [HF.out]; simp [q1'],HB.out⟩
set_option maxHeartbeats 2000000 in
set_option maxRecDepth 100000 in
theorem rfieldsT (w:World) (m:Mv) (ok:m.ok):Calls Tryz.prog 111 #[.agg m.cs] w fun e w'=>e = .returned (.bool (fdR m))∧Below w.heap.size w w':=by
  have hm:MB (w.alloc (.cells m.cs 40)) w.heap.size m:=heapNew w _
  have HB:Hid (Below w.heap.size w (w.alloc (.cells m.cs 40))):=(Below.refl _ _).alloc (Nat.le_refl _) _
  have hA:=fun u=>asksT u m.k
  have HR:Hid (fdR m = (!fd1 m && !fd2 m (asksB m.k) && fd3 m)):=rfl
  generalize asksB m.k = bA at *
  have c0:=hm.c0
  have c1:=hm.c1
  have c2:=hm.c2
  have c3:=hm.c3
  have c37:=hm.c37 ok
  have c38:=hm.c38 ok
  clear hm ok
  generalize m.cs = mcs at *
  go_enter Tryz.func111,Tryz.ntmps111
  go_upto_region 1 with fail
  generalize w.alloc (.cells mcs 40) = w0 at *
  go_cut [30] from 3 (fun s wc=>s = .bool (fd1 m)∧w0 = wc)
  case first =>
    cases q1:numB m.i
    · go_wp2_with (first |(go_at_call 77; refine (hA _).mono ?_; rintro e w' ⟨rfl,rfl⟩) |(go_at_call 117; refine (numT _ _).mono ?_; rintro e w' ⟨rfl,rfl⟩))
      go_meet
      exact ⟨by simp [fd1,q1],rfl⟩
    · cases q2:numB m.b
      · go_wp2_with (first |(go_at_call 77; refine (hA _).mono ?_; rintro e w' ⟨rfl,rfl⟩) |(go_at_call 117; refine (numT _ _).mono ?_; rintro e w' ⟨rfl,rfl⟩))
        go_meet
        exact ⟨by simp [fd1,q2],rfl⟩
      · cases q3:numB m.l
        · go_wp2_with (first |(go_at_call 77; refine (hA _).mono ?_; rintro e w' ⟨rfl,rfl⟩) |(go_at_call 117; refine (numT _ _).mono ?_; rintro e w' ⟨rfl,rfl⟩))
          go_meet
          exact ⟨by simp [fd1,q3],rfl⟩
        · cases q4:numB m.ba
          · go_wp2_with (first |(go_at_call 77; refine (hA _).mono ?_; rintro e w' ⟨rfl,rfl⟩) |(go_at_call 117; refine (numT _ _).mono ?_; rintro e w' ⟨rfl,rfl⟩))
            go_meet
            exact ⟨by simp [fd1,q4],rfl⟩
          · cases q5:numB m.pr
            · go_wp2_with (first |(go_at_call 77; refine (hA _).mono ?_; rintro e w' ⟨rfl,rfl⟩) |(go_at_call 117; refine (numT _ _).mono ?_; rintro e w' ⟨rfl,rfl⟩))
              go_meet
              exact ⟨by simp [fd1,q5],rfl⟩
            · go_wp2_with (first |(go_at_call 77; refine (hA _).mono ?_; rintro e w' ⟨rfl,rfl⟩) |(go_at_call 117; refine (numT _ _).mono ?_; rintro e w' ⟨rfl,rfl⟩))
              go_meet
              exact ⟨by simp [fd1,q1,q2,q3,q4,q5],rfl⟩
  case rest =>
  obtain ⟨rfl,rfl⟩:=hcut
  cases b1:fd1 m
  case true =>
    go_wp2
    go_ret
    exact ⟨by rw [HR.out,b1]; rfl,HB.out⟩
  case false =>
  have B1:Hid (fd1 m = false):=b1
  clear b1
  go_upto_region 3 with fail
  go_cut [43] from 3 (fun s wc=>s = .bool (fd2 m bA)∧w0 = wc)
  case first =>
    cases bA
    · go_wp2_with (first |(go_at_call 77; refine (hA _).mono ?_; rintro e w' ⟨rfl,rfl⟩) |(go_at_call 117; refine (numT _ _).mono ?_; rintro e w' ⟨rfl,rfl⟩))
      go_meet
      exact ⟨by simp [fd2],rfl⟩
    · by_cases q1:m.l < 1
      · go_wp2_with (first |(go_at_call 77; refine (hA _).mono ?_; rintro e w' ⟨rfl,rfl⟩) |(go_at_call 117; refine (numT _ _).mono ?_; rintro e w' ⟨rfl,rfl⟩))
        go_meet
        exact ⟨by simp [fd2,q1],rfl⟩
      · go_wp2_with (first |(go_at_call 77; refine (hA _).mono ?_; rintro e w' ⟨rfl,rfl⟩) |(go_at_call 117; refine (numT _ _).mono ?_; rintro e w' ⟨rfl,rfl⟩))
        go_meet
        exact ⟨by simp [fd2],rfl⟩
  case rest =>
  obtain ⟨rfl,rfl⟩:=hcut
  cases b2:fd2 m bA
  case true =>
    go_wp2
    go_ret
    exact ⟨by rw [HR.out,b2]; simp,HB.out⟩
  case false =>
  have HF:Hid (fdR m = (m.k != 1000 || (decide (64≤m.i) && decide (m.i≤255)))):=by
    unfold Hid; rw [HR.out,B1.out,b2]; rfl
  clear b2
  by_cases q1:m.k = 1000
  · by_cases q2:64≤m.i
    · go_wp2_with (first |(go_at_call 77; refine (hA _).mono ?_; rintro e w' ⟨rfl,rfl⟩) |(go_at_call 117; refine (numT _ _).mono ?_; rintro e w' ⟨rfl,rfl⟩))
      go_ret
      exact ⟨by rw [HF.out]; simp [q1,q2],HB.out⟩
    · go_wp2_with (first |(go_at_call 77; refine (hA _).mono ?_; rintro e w' ⟨rfl,rfl⟩) |(go_at_call 117; refine (numT _ _).mono ?_; rintro e w' ⟨rfl,rfl⟩))
      go_ret
      exact ⟨by rw [HF.out]; simp [q1]; omega,HB.out⟩
  · go_wp2_with (first |(go_at_call 77; refine (hA _).mono ?_; rintro e w' ⟨rfl,rfl⟩) |(go_at_call 117; refine (numT _ _).mono ?_; rintro e w' ⟨rfl,rfl⟩))
    go_ret
    exact ⟨by rw [HF.out]; simp [q1],HB.out⟩
set_option maxHeartbeats 2000000 in
set_option maxRecDepth 100000 in
theorem rValidT (w:World) (m:Mv) (ok:m.ok):Calls Tryz.prog 89 #[.agg m.cs] w fun e w'=>e = .returned (.int .i64 (refE m))∧Below w.heap.size w w':=by
  have hm:MB (w.alloc (.cells m.cs 40)) w.heap.size m:=heapNew w _
  have hb0:Below w.heap.size w (w.alloc (.cells m.cs 40)):=(Below.refl _ _).alloc (Nat.le_refl _) _
  have hlt0:w.heap.size < (w.alloc (.cells m.cs 40)).heap.size:=by simp
  have HB:Hid (MB (w.alloc (.cells m.cs 40)) w.heap.size m∧m.ok∧Below w.heap.size w (w.alloc (.cells m.cs 40))∧w.heap.size < (w.alloc (.cells m.cs 40)).heap.size):=⟨hm,ok,hb0,hlt0⟩
  obtain ⟨ad,nd,cd,hd⟩:=ok.d
  obtain ⟨ah,nh,ch,hh⟩:=ok.h
  have HR:Hid (refE m = if kE m.k then 110 else if fR m then 113 else if fdR m then (if szb m nd nh then 111 else 0) else 112):=by
    unfold Hid refE; rw [hd,hh]; rfl
  have HD:Hid (m.d = .slice ad nd cd∧m.h = .slice ah nh ch):=⟨hd,hh⟩
  have c0:=hm.c0
  have hmc:=hm.cells
  have him:=info_msg ok
  clear hm hd hh ok hb0 hlt0
  generalize hmcs:m.cs = mcs at *
  have HC:Hid (m.cs = mcs):=hmcs
  clear hmcs
  go_enter Tryz.func89,Tryz.ntmps89
  go_upto_region 1 with fail
  generalize w.alloc (.cells mcs 40) = w0 at *
  go_cut [17] from 4 (fun s wc=>s = .bool (kE m.k)∧w0 = wc)
  case first =>
    by_cases q1:m.k = -1
    · go_wp2
      go_meet
      exact ⟨by simp [kE,q1],rfl⟩
    · by_cases q2:m.k = 1000
      · go_wp2
        go_meet
        exact ⟨by simp [kE,q2],rfl⟩
      · go_wp2_with (first |(go_at_call 73; refine (knownT _ _).mono ?_; rintro e w' ⟨rfl,rfl⟩))
        go_meet
        exact ⟨by first |(simp [kE]; done) | simp [kE,q1,q2],rfl⟩
  case rest =>
  obtain ⟨rfl,rfl⟩:=hcut
  cases b1:kE m.k
  case true =>
    go_wp2
    go_ret
    exact ⟨by rw [HR.out,b1]; rfl,HB.out.2.2.1⟩
  case false =>
  have B1:Hid (kE m.k = false):=b1
  clear b1
  go_wp2_with (first |(refine wpList_load_row rfl 40 _ rfl w.heap.size rfl 40 mcs (0,0) _ hmc Tryz.underlying40 rfl him ?_))
  rw [← HC.out]
  refine (rforeignT w0 m HB.out.2.1).mono ?_
  rintro e w1 ⟨rfl,x1⟩
  have HX:Hid (MB w1 w.heap.size m∧Below w.heap.size w w1∧w.heap.size < w1.heap.size):=⟨HB.out.1.below x1,HB.out.2.2.1.trans (x1.mono (Nat.le_of_lt HB.out.2.2.2)),Nat.lt_of_lt_of_le HB.out.2.2.2 x1.size⟩
  clear x1 hmc c0
  have hmc:=HX.out.1.cells
  cases b2:fR m
  case true =>
    go_wp2
    go_ret
    exact ⟨by rw [HR.out,B1.out,b2]; rfl,HX.out.2.1⟩
  case false =>
  have B2:Hid (fR m = false):=b2
  clear b2
  rw [← HC.out] at him
  go_wp2_with (first |(refine wpList_load_row rfl 40 _ rfl w.heap.size rfl 40 m.cs (0,0) _ hmc Tryz.underlying40 rfl him ?_))
  refine (rfieldsT w1 m HB.out.2.1).mono ?_
  rintro e w2 ⟨rfl,x2⟩
  have HY:Hid (MB w2 w.heap.size m∧Below w.heap.size w w2):=⟨HX.out.1.below x2,HX.out.2.1.trans (x2.mono (Nat.le_of_lt HX.out.2.2))⟩
  clear x2 hmc
  cases b3:fdR m
  case false =>
    go_wp2
    go_ret
    exact ⟨by rw [HR.out,B1.out,B2.out,b3]; rfl,HY.out.2⟩
  case true =>
  have HF:Hid (refE m = if szb m nd nh then 111 else 0):=by unfold Hid; rw [HR.out,B1.out,B2.out,b3]; rfl
  clear b3
  have c0:=HY.out.1.c0
  have c4:=HY.out.1.c4
  have c39:=HY.out.1.c39 HB.out.2.1
  rw [HD.out.1] at c4
  rw [HD.out.2] at c39
  generalize m.cs = mcs2
  by_cases q5:m.k = 5
  · by_cases p:8192 < nd
    · go_wp2
      go_ret
      exact ⟨by rw [HF.out]; simp [szb,q5,p],HY.out.2⟩
    · go_wp2
      go_ret
      exact ⟨by rw [HF.out]; simp [szb,q5,p],HY.out.2⟩
  · by_cases q7:m.k = 7
    · by_cases p:nd < 1
      · go_wp2
        go_ret
        exact ⟨by rw [HF.out]; simp [szb,q7,p],HY.out.2⟩
      · by_cases p2:16384 < nd
        · go_wp2
          go_ret
          exact ⟨by rw [HF.out]; simp [szb,q7,p2],HY.out.2⟩
        · go_wp2
          go_ret
          exact ⟨by rw [HF.out]; simp [szb,q7,p,p2],HY.out.2⟩
    · by_cases q9:m.k = 1000
      · by_cases p:32767 < nd
        · go_wp2
          go_ret
          exact ⟨by rw [HF.out]; simp [szb,q9,p],HY.out.2⟩
        · go_wp2
          go_ret
          exact ⟨by rw [HF.out]; simp [szb,q9,p],HY.out.2⟩
      · by_cases q22:m.k = 22
        · by_cases p:560 < nh
          · go_wp2
            go_ret
            exact ⟨by rw [HF.out]; simp [szb,q22,p],HY.out.2⟩
          · go_wp2
            go_ret
            exact ⟨by rw [HF.out]; simp [szb,q22,p],HY.out.2⟩
        · go_wp2
          go_ret
          exact ⟨by rw [HF.out]; simp [szb,q5,q7,q9,q22],HY.out.2⟩
end Go.Proofs.YtfjjpbebnoghmaaGreatDoor
