import Derived.Test.YtfjjpbebnoghmaaGreatDoorK00
import Derived.Test.YtfjjpbebnoghmaaGreatDoorK01
namespace Go.Proofs.YtfjjpbebnoghmaaGreatDoor
open Go.RowKit
def TBL (w:World) (T:List Value):Prop:=T.length = 60∧(∀ v ∈ T,v.oneCell' = true)∧∀ c,1≤c→c≤11→FLD w c ((T.drop (5 * c)).take 5)
theorem info_table:(Tryz.prog.info? 165).map (·.size) = some 60:=by kernel_rfl
theorem wpList_built {ops:Array Oper} {rest:List Oper} {o:Oper} {a:Act} {w:World} {Q:Exit→Act→World→Prop} (hg:o.guard = none) (t:TypeId) (parts:Array (Nat × Operand)) (ho:o.op = .build t parts) (T:Array Value)
    (hf:Tryz.prog.built t (parts.map fun (i,x)=>(i,a.eval x)).toList = some T)
    (h:wpList Tryz.prog ops Q rest (a.put o.dst (.agg T)) w):wpList Tryz.prog ops Q (o :: rest) a w:=
  wpList_build hg t parts ho (by rw [hf]; rfl) (by rw [hf]; exact h)
def nf60:Array Value:=#[Value.nilFunc,Value.nilFunc,Value.nilFunc,Value.nilFunc,Value.nilFunc,Value.nilFunc,Value.nilFunc,Value.nilFunc,Value.nilFunc,Value.nilFunc,Value.nilFunc,Value.nilFunc,Value.nilFunc,Value.nilFunc,Value.nilFunc,Value.nilFunc,Value.nilFunc,Value.nilFunc,Value.nilFunc,Value.nilFunc,Value.nilFunc,Value.nilFunc,Value.nilFunc,Value.nilFunc,Value.nilFunc,Value.nilFunc,Value.nilFunc,Value.nilFunc,Value.nilFunc,Value.nilFunc,Value.nilFunc,Value.nilFunc,Value.nilFunc,Value.nilFunc,Value.nilFunc,Value.nilFunc,Value.nilFunc,Value.nilFunc,Value.nilFunc,Value.nilFunc,Value.nilFunc,Value.nilFunc,Value.nilFunc,Value.nilFunc,Value.nilFunc,Value.nilFunc,Value.nilFunc,Value.nilFunc,Value.nilFunc,Value.nilFunc,Value.nilFunc,Value.nilFunc,Value.nilFunc,Value.nilFunc,Value.nilFunc,Value.nilFunc,Value.nilFunc,Value.nilFunc,Value.nilFunc,Value.nilFunc]
theorem nf60_eq:#[Value.nilFunc,Value.nilFunc,Value.nilFunc,Value.nilFunc,Value.nilFunc,Value.nilFunc,Value.nilFunc,Value.nilFunc,Value.nilFunc,Value.nilFunc,Value.nilFunc,Value.nilFunc,Value.nilFunc,Value.nilFunc,Value.nilFunc,Value.nilFunc,Value.nilFunc,Value.nilFunc,Value.nilFunc,Value.nilFunc,Value.nilFunc,Value.nilFunc,Value.nilFunc,Value.nilFunc,Value.nilFunc,Value.nilFunc,Value.nilFunc,Value.nilFunc,Value.nilFunc,Value.nilFunc,Value.nilFunc,Value.nilFunc,Value.nilFunc,Value.nilFunc,Value.nilFunc,Value.nilFunc,Value.nilFunc,Value.nilFunc,Value.nilFunc,Value.nilFunc,Value.nilFunc,Value.nilFunc,Value.nilFunc,Value.nilFunc,Value.nilFunc,Value.nilFunc,Value.nilFunc,Value.nilFunc,Value.nilFunc,Value.nilFunc,Value.nilFunc,Value.nilFunc,Value.nilFunc,Value.nilFunc,Value.nilFunc,Value.nilFunc,Value.nilFunc,Value.nilFunc,Value.nilFunc,Value.nilFunc] = nf60:=rfl
theorem results_table {fn:Func} {p:Tmp} (h:fn.results = #[.cell p 165]) (tmps:Array Value) (w:World) (g:Nat) (cs:Array Value)
    (hp:tmps.getD p undef = .pointer (some ⟨g,0,none⟩)) (hg:w.heap[g]? = some (.cells cs 165 (0,0))) (hs:cs.size = 60):(results fn tmps).run Tryz.prog w = .ok (.agg cs) w:=by
  have hp':tmps[p]?.getD undef = .pointer (some ⟨g,0,none⟩):=by simpa using hp
  have hi:(Tryz.prog.info? 165).map (·.size) = some cs.size:=by rw [hs]; exact info_table
  simp [results,h,hp',asAddr,run_loadVar_row w g 165 165 cs (0,0) _ hg Tryz.underlying165 rfl hi]
def tabL (p3 q3 s3 p4 q4 s4 p5 q5 s5 p6 q6 s6 p8 q8 s8 p9 q9 s9:Nat):List Value:=[Value.nilFunc,Value.nilFunc,Value.nilFunc,Value.nilFunc,Value.nilFunc] ++ ([fnv 130,fnv 131,fnv 132,fnv 133,fnv 134]) ++ ([fnv 135,fnv 136,fnv 137,fnv 138,fnv 139]) ++ (numVs p3 q3 s3) ++ (numVs p4 q4 s4) ++ (numVs p5 q5 s5) ++ (numVs p6 q6 s6) ++ ([fnv 147,fnv 148,fnv 149,fnv 133,fnv 150]) ++ (numVs p8 q8 s8) ++ (numVs p9 q9 s9) ++ ([fnv 151,fnv 152,fnv 153,fnv 133,fnv 154]) ++ ([fnv 155,fnv 156,fnv 157,fnv 133,fnv 158])
theorem table_parts (v0 v1 v2 v3 v4 v5 v6 v7 v8 v9 v10 v11:Value):((#[(1,Operand.tmp 1),(2,Operand.tmp 2),(3,Operand.tmp 3),(4,Operand.tmp 4),(5,Operand.tmp 5),(6,Operand.tmp 6),(7,Operand.tmp 7),(8,Operand.tmp 8),(9,Operand.tmp 9),(10,Operand.tmp 10),(11,Operand.tmp 11)]:Array (Nat × Operand)).map fun (i,x)=>(i,Act.eval { tmps:=#[v0,v1,v2,v3,v4,v5,v6,v7,v8,v9,v10,v11,undef],defers:=[] } x)).toList = [(1,v1),(2,v2),(3,v3),(4,v4),(5,v5),(6,v6),(7,v7),(8,v8),(9,v9),(10,v10),(11,v11)]:=by
  simp [Act.eval]
set_option maxRecDepth 100000 in
theorem built_table (p3 q3 s3 p4 q4 s4 p5 q5 s5 p6 q6 s6 p8 q8 s8 p9 q9 s9:Nat):Tryz.prog.built 165 [(1,.agg #[fnv 130,fnv 131,fnv 132,fnv 133,fnv 134]),(2,.agg #[fnv 135,fnv 136,fnv 137,fnv 138,fnv 139]),(3,.agg (numVs p3 q3 s3).toArray),(4,.agg (numVs p4 q4 s4).toArray),(5,.agg (numVs p5 q5 s5).toArray),(6,.agg (numVs p6 q6 s6).toArray),(7,.agg #[fnv 147,fnv 148,fnv 149,fnv 133,fnv 150]),(8,.agg (numVs p8 q8 s8).toArray),(9,.agg (numVs p9 q9 s9).toArray),(10,.agg #[fnv 151,fnv 152,fnv 153,fnv 133,fnv 154]),(11,.agg #[fnv 155,fnv 156,fnv 157,fnv 133,fnv 158])] = some (tabL p3 q3 s3 p4 q4 s4 p5 q5 s5 p6 q6 s6 p8 q8 s8 p9 q9 s9).toArray:=by kernel_rfl
theorem tabL_ok (w:World) (p3 q3 s3 p4 q4 s4 p5 q5 s5 p6 q6 s6 p8 q8 s8 p9 q9 s9:Nat) (h3:NUM w 121 0 4294967295 (numVs p3 q3 s3)) (h4:NUM w 122 0 4294967295 (numVs p4 q4 s4)) (h5:NUM w 123 0 4294967295 (numVs p5 q5 s5)) (h6:NUM w 124 1 16384 (numVs p6 q6 s6)) (h8:NUM w 126 0 4294967295 (numVs p8 q8 s8)) (h9:NUM w 127 0 4294967295 (numVs p9 q9 s9)):TBL w (tabL p3 q3 s3 p4 q4 s4 p5 q5 s5 p6 q6 s6 p8 q8 s8 p9 q9 s9):=by
  refine ⟨rfl,?_,?_⟩
  · intro v hv
    exact List.all_eq_true.1 (rfl:(tabL p3 q3 s3 p4 q4 s4 p5 q5 s5 p6 q6 s6 p8 q8 s8 p9 q9 s9).all (·.oneCell') = true) v hv
  · intro c h1 h2
    have h:c = 1∨c = 2∨c = 3∨c = 4∨c = 5∨c = 6∨c = 7∨c = 8∨c = 9∨c = 10∨c = 11:=by omega
    rcases h with rfl | rfl | rfl | rfl | rfl | rfl | rfl | rfl | rfl | rfl | rfl
    all_goals first | exact rfl | exact h3 | exact h4 | exact h5 | exact h6 | exact h8 | exact h9
set_option maxHeartbeats 1000000 in
set_option maxRecDepth 100000 in
theorem fieldTableT (w:World):Calls Tryz.prog 112 #[] w fun e w'=>∃ T,e = .returned (.agg T.toArray)∧TBL w' T∧Below w.heap.size w w':=by
  have hg0:=heapNew w (.cells nf60 165)
  have b0:Below w.heap.size w (w.alloc (.cells nf60 165)):=(Below.refl _ _).alloc (Nat.le_refl _) _
  have lt0:w.heap.size < (w.alloc (.cells nf60 165)).heap.size:=by simp
  go_enter Tryz.func112,Tryz.ntmps112
  go_wp2_with fail
  rw [nf60_eq]
  generalize w.alloc (.cells nf60 165) = w0 at *
  refine (kindFieldT w0).mono ?_
  rintro e w1 ⟨rfl,c1⟩
  have hg1:=(c1.block _ lt0).trans hg0
  have lt1:w.heap.size < w1.heap.size:=Nat.lt_of_lt_of_le lt0 c1.size
  have b1:=b0.trans (c1.mono (Nat.le_of_lt lt0))
  clear c1 hg0 lt0 b0
  go_wp2_with fail
  refine (otherFieldT w1).mono ?_
  rintro e w2 ⟨rfl,c2⟩
  have hg2:=(c2.block _ lt1).trans hg1
  have lt2:w.heap.size < w2.heap.size:=Nat.lt_of_lt_of_le lt1 c2.size
  have b2:=b1.trans (c2.mono (Nat.le_of_lt lt1))
  clear c2 hg1 lt1 b1
  go_wp2_with fail
  refine (numberFieldT w2 121 0 4294967295).mono ?_
  rintro e w3 ⟨p3,q3,s3,rfl,m3,c3⟩
  have hg3:=(c3.block _ lt2).trans hg2
  have lt3:w.heap.size < w3.heap.size:=Nat.lt_of_lt_of_le lt2 c3.size
  have b3:=b2.trans (c3.mono (Nat.le_of_lt lt2))
  clear c3 hg2 lt2 b2
  go_wp2_with fail
  refine (numberFieldT w3 122 0 4294967295).mono ?_
  rintro e w4 ⟨p4,q4,s4,rfl,m4,c4⟩
  have hg4:=(c4.block _ lt3).trans hg3
  have lt4:w.heap.size < w4.heap.size:=Nat.lt_of_lt_of_le lt3 c4.size
  have b4:=b3.trans (c4.mono (Nat.le_of_lt lt3))
  replace m3:=m3.below c4
  clear c4 hg3 lt3 b3
  go_wp2_with fail
  refine (numberFieldT w4 123 0 4294967295).mono ?_
  rintro e w5 ⟨p5,q5,s5,rfl,m5,c5⟩
  have hg5:=(c5.block _ lt4).trans hg4
  have lt5:w.heap.size < w5.heap.size:=Nat.lt_of_lt_of_le lt4 c5.size
  have b5:=b4.trans (c5.mono (Nat.le_of_lt lt4))
  replace m3:=m3.below c5
  replace m4:=m4.below c5
  clear c5 hg4 lt4 b4
  go_wp2_with fail
  refine (numberFieldT w5 124 1 16384).mono ?_
  rintro e w6 ⟨p6,q6,s6,rfl,m6,c6⟩
  have hg6:=(c6.block _ lt5).trans hg5
  have lt6:w.heap.size < w6.heap.size:=Nat.lt_of_lt_of_le lt5 c6.size
  have b6:=b5.trans (c6.mono (Nat.le_of_lt lt5))
  replace m3:=m3.below c6
  replace m4:=m4.below c6
  replace m5:=m5.below c6
  clear c6 hg5 lt5 b5
  go_wp2_with fail
  refine (rootFieldT w6).mono ?_
  rintro e w7 ⟨rfl,c7⟩
  have hg7:=(c7.block _ lt6).trans hg6
  have lt7:w.heap.size < w7.heap.size:=Nat.lt_of_lt_of_le lt6 c7.size
  have b7:=b6.trans (c7.mono (Nat.le_of_lt lt6))
  replace m3:=m3.below c7
  replace m4:=m4.below c7
  replace m5:=m5.below c7
  replace m6:=m6.below c7
  clear c7 hg6 lt6 b6
  go_wp2_with fail
  refine (numberFieldT w7 126 0 4294967295).mono ?_
  rintro e w8 ⟨p8,q8,s8,rfl,m8,c8⟩
  have hg8:=(c8.block _ lt7).trans hg7
  have lt8:w.heap.size < w8.heap.size:=Nat.lt_of_lt_of_le lt7 c8.size
  have b8:=b7.trans (c8.mono (Nat.le_of_lt lt7))
  replace m3:=m3.below c8
  replace m4:=m4.below c8
  replace m5:=m5.below c8
  replace m6:=m6.below c8
  clear c8 hg7 lt7 b7
  go_wp2_with fail
  refine (numberFieldT w8 127 0 4294967295).mono ?_
  rintro e w9 ⟨p9,q9,s9,rfl,m9,c9⟩
  have hg9:=(c9.block _ lt8).trans hg8
  have lt9:w.heap.size < w9.heap.size:=Nat.lt_of_lt_of_le lt8 c9.size
  have b9:=b8.trans (c9.mono (Nat.le_of_lt lt8))
  replace m3:=m3.below c9
  replace m4:=m4.below c9
  replace m5:=m5.below c9
  replace m6:=m6.below c9
  replace m8:=m8.below c9
  clear c9 hg8 lt8 b8
  go_wp2_with fail
  refine (dataFieldT w9).mono ?_
  rintro e w10 ⟨rfl,c10⟩
  have hg10:=(c10.block _ lt9).trans hg9
  have lt10:w.heap.size < w10.heap.size:=Nat.lt_of_lt_of_le lt9 c10.size
  have b10:=b9.trans (c10.mono (Nat.le_of_lt lt9))
  replace m3:=m3.below c10
  replace m4:=m4.below c10
  replace m5:=m5.below c10
  replace m6:=m6.below c10
  replace m8:=m8.below c10
  replace m9:=m9.below c10
  clear c10 hg9 lt9 b9
  go_wp2_with fail
  refine (hashesFieldT w10).mono ?_
  rintro e w11 ⟨rfl,c11⟩
  have hg11:=(c11.block _ lt10).trans hg10
  have lt11:w.heap.size < w11.heap.size:=Nat.lt_of_lt_of_le lt10 c11.size
  have b11:=b10.trans (c11.mono (Nat.le_of_lt lt10))
  replace m3:=m3.below c11
  replace m4:=m4.below c11
  replace m5:=m5.below c11
  replace m6:=m6.below c11
  replace m8:=m8.below c11
  replace m9:=m9.below c11
  clear c11 hg10 lt10 b10
  have HT:Hid (TBL w11 (tabL p3 q3 s3 p4 q4 s4 p5 q5 s5 p6 q6 s6 p8 q8 s8 p9 q9 s9)):=tabL_ok w11 p3 q3 s3 p4 q4 s4 p5 q5 s5 p6 q6 s6 p8 q8 s8 p9 q9 s9 m3 m4 m5 m6 m8 m9
  have HB:Hid (Below w.heap.size w w11):=b11
  clear m3 m4 m5 m6 m8 m9 b11 lt11
  have hone:(tabL p3 q3 s3 p4 q4 s4 p5 q5 s5 p6 q6 s6 p8 q8 s8 p9 q9 s9).toArray.all (·.oneCell') = true:=all_oneCell_toArray HT.out.2.1
  have hbt:=built_table p3 q3 s3 p4 q4 s4 p5 q5 s5 p6 q6 s6 p8 q8 s8 p9 q9 s9
  have hsz:nf60.size = (tabL p3 q3 s3 p4 q4 s4 p5 q5 s5 p6 q6 s6 p8 q8 s8 p9 q9 s9).toArray.size:=rfl
  have hit:(Tryz.prog.info? 165).map (·.size) = some (tabL p3 q3 s3 p4 q4 s4 p5 q5 s5 p6 q6 s6 p8 q8 s8 p9 q9 s9).toArray.size:=info_table
  have HH:Hid ((tabL p3 q3 s3 p4 q4 s4 p5 q5 s5 p6 q6 s6 p8 q8 s8 p9 q9 s9).toArray.size = 60):=rfl
  rename_i Q' K1 h1 K2 h2
  dsimp only
  refine h2 _ _ ?_
  refine wpList_built rfl 165 _ rfl (tabL p3 q3 s3 p4 q4 s4 p5 q5 s5 p6 q6 s6 p8 q8 s8 p9 q9 s9).toArray ((congrArg (Tryz.prog.built 165) (table_parts _ _ _ _ _ _ _ _ _ _ _ _)).trans hbt) ?_
  refine wpList_store_row rfl 165 _ _ rfl w.heap.size (tabL p3 q3 s3 p4 q4 s4 p5 q5 s5 p6 q6 s6 p8 q8 s8 p9 q9 s9).toArray rfl rfl 165 nf60 hg11 hit hsz hone ?_
  go_wp2
  exact bodyPost_ret (results_table Tryz.results112 _ _ w.heap.size _ rfl (heapSetRow _ _ _ _ _ hg11) HH.out) rfl ⟨_,rfl,⟨HT.out.1,HT.out.2.1,fun c h1 h2=>(HT.out.2.2 c h1 h2).keep (Besides.setRow _ _ _) hg11 (by decide)⟩,belowSetRow HB.out (Nat.le_refl _) _⟩
theorem info_fieldP:(Tryz.prog.info? 152).map (fun i=>(i.zero,i.size,i.bytes)) = some (some (.agg nil5),5,40):=by kernel_rfl
theorem rangeOf {w:World} {g:Nat} {cs:List Value} {t:TypeId} {f:Nat × Nat} (h:w.heap[g]? = some (.cells cs.toArray t f)):w.rangeAt g 0 cs:=by
  intro j v hj
  simp [World.cell?,h,hj]
def OFS (B:Nat) (W w:World) (v:Value) (cs:List Nat):Prop:=
  ∃ xss:List (List Value),w.ownsRow B 152 5 v cs.length xss.flatten∧xss.length = cs.length∧∀ (i c:Nat),cs[i]? = some c→∃ vs,xss[i]? = some vs∧FLD W c vs
theorem OFS.nil (B:Nat) (W w:World):OFS B W w (.slice none 0 0) []:=⟨[],World.ownsRow_nil _ _ _ _,rfl,by simp⟩
theorem OFS.form {B:Nat} {W w:World} {v:Value} {cs:List Nat} (h:OFS B W w v cs):∃ a c,v = .slice a cs.length c:=by
  obtain ⟨xss,h1,_⟩:=h
  rcases h1.2 with ⟨rfl,h0⟩ | ⟨g,cap,cur,rfl,_⟩
  · exact ⟨none,0,by rw [h0]⟩
  · exact ⟨_,_,rfl⟩
theorem OFS.grow {B:Nat} {W w w':World} {v:Value} {cs:List Nat} (h:OFS B W w v cs) (hb:Below w.heap.size w w'):OFS B W w' v cs:=by
  obtain ⟨xss,h1,h2⟩:=h
  refine ⟨xss,⟨h1.1,?_⟩,h2⟩
  rcases h1.2 with h1 | ⟨g,cap,cur,h1,h2,h3,h4⟩
  · exact .inl h1
  · exact .inr ⟨g,cap,cur,h1,h2,(hb.block g (Array.getElem?_eq_some_iff.1 h3).1).trans h3,h4⟩
theorem FLD.five {w:World} {c:Nat} {vs:List Value} (h:FLD w c vs):vs.length = 5:=by
  obtain ⟨_,_,_,_,_,rfl⟩:=h.len
  rfl
theorem append_field {ops:Array Oper} {rest:List Oper} {o:Oper} {a:Act} {Q:Exit→Act→World→Prop} {W w:World} {B:Nat} {sv:Value} {cs:List Nat} (hgd:o.guard = none) (s x:Operand)
    (ho:o.op = .call { callee:=.builtin .append,args:=#[s,x],argTypes:=#[133,133] }) (hs:a.eval s = sv) (hown:OFS B W w sv cs) (b c:Nat) (vs:List Value) (hv:FLD W c vs) (h1:∀ u ∈ vs,u.oneCell' = true) (hx:a.eval x = .slice (some ⟨b,0,none⟩) 1 1)
    (hc:w.rangeAt b 0 vs) (hB:B≤w.heap.size) (hlim:cs.length < 100)
    (h:∀ v' w',OFS B W w' v' (cs ++ [c])→Below B w w'→wpList Tryz.prog ops Q rest (a.put o.dst v') w'):wpList Tryz.prog ops Q (o :: rest) a w:=by
  obtain ⟨i0,hi,hz0,hz1,hz2⟩:=info_parts info_fieldP
  obtain ⟨xss,hown,hlen,hf⟩:=hown
  refine wpList_append_own w hgd s x 133 ho B 152 i0 _ 5 40 Tryz.underlying133 hi hz0 hz1 hz2 rfl (by omega) sv cs.length xss.flatten hs hown ⟨b,0,none⟩ 1 1 vs hx hv.five (fun j u hu=>?_) h1 (by unfold maxLen; omega) (by omega) hB (fun v' w' h1 h2 _=>?_)
  · rw [Addr.add_mid]; exact hc j u hu
  · refine h v' w' ⟨xss ++ [vs],?_,by simp [hlen],fun i c' hi'=>?_⟩ ((Below.refl B w).grown h2 hB (fun k hk=>(World.ownsRow.lt hown k hk).1))
    · simpa using h1
    · by_cases hlt:i < cs.length
      · rw [List.getElem?_append_left hlt] at hi'
        obtain ⟨vs',e1,e2⟩:=hf i c' hi'
        exact ⟨vs',by rw [List.getElem?_append_left (by omega)]; exact e1,e2⟩
      · rw [List.getElem?_append_right (by omega)] at hi'
        have h0:i - cs.length = 0:=by
          have:=(List.getElem?_eq_some_iff.1 hi').1
          simp at this; omega
        rw [h0] at hi'
        simp at hi'
        subst hi'
        exact ⟨vs,by rw [List.getElem?_append_right (by omega),hlen,h0]; rfl,hv⟩
def fcs (fs:List Nat):List Value:=fs.map fun (n:Nat)=>Value.int .i64 (n:Int)
theorem fcs_len (fs:List Nat):(fcs fs).length = fs.length:=by simp [fcs]
def rowL (k le mo st:Int) (fs:List Nat):List Value:=[.int .i64 k,.int .i64 le,.int .i64 mo,.int .i64 st] ++ fcs fs
theorem info_fs:(Tryz.prog.info? 139).map (·.size) = some 7:=by kernel_rfl
theorem info_row:(Tryz.prog.info? 141).map (·.size) = some 11:=by kernel_rfl
theorem rowL_fs {w:World} {g:Nat} {k le mo st:Int} {fs:List Nat} (h:w.heap[g]? = some (.cells (rowL k le mo st fs).toArray 141 (0,0))):w.rangeAt g 4 (fcs fs):=by
  intro j v hj
  have e:(rowL k le mo st fs)[4 + j]? = some v:=by
    unfold rowL
    rw [List.getElem?_append_right (by simp)]
    simpa using hj
  simp [World.cell?,h,e]
theorem takeWhile_stop (fs:List Nat) (k:Nat) (h:∀ c ∈ fs.take k,c≠0) (h0:fs[k]? = some 0∨fs.length = k):fs.takeWhile (· != 0) = fs.take k:=by
  induction fs generalizing k with
  | nil=>simp
  | cons a l ih =>
    cases k with
    | zero =>
      rcases h0 with h0 | h0
      · simp at h0; subst h0; simp
      · simp at h0
    | succ k =>
      have ha:a≠0:=h a (by simp)
      simp only [List.take_succ_cons]
      rw [List.takeWhile_cons_of_pos (by simpa using ha),ih k (fun c hc=>h c (by simp [hc])) (by simpa using h0)]
theorem hs3:(Tryz.prog.info? 3).map (·.size) = some 1:=by kernel_rfl
theorem run_index7 (w:World) (cs:Array Value) (n:Nat) (v:Value) (hn:n < 7) (hx:cs[n]? = some v):(Instr.index 139 (.agg cs) (.int .i64 (n:Int))).run Tryz.prog w = .ok v w:=by
  obtain ⟨i3,hi3,hz⟩:=Option.map_eq_some_iff.1 hs3
  have h7:(0:Int)≤(n:Int)∧(n:Int) < (7:Int):=by omega
  simp [Instr.index,asIntOf,run_underlying Tryz.underlying139,sizeOf,typeInfo,hi3,hz,h7,part,hx,isAgg,run_underlying Tryz.underlying3]
  intro h
  omega
set_option maxHeartbeats 1000000 in
set_option maxRecDepth 100000 in
theorem madeT (w:World) (k le mo st:Int) (fs:List Nat) (hf:fs.length = 7) (hm:∀ c ∈ fs,c≤11) :
    Calls Tryz.prog 96 #[.agg (rowL k le mo st fs).toArray] w fun e w'=>∃ v W,e = .returned v∧OFS W.heap.size W w' v (fs.takeWhile (· != 0))∧Below w.heap.size w W∧Below W.heap.size W w':=by
  have hg0:=heapNew w (.cells (rowL k le mo st fs).toArray 141)
  have b0:Below w.heap.size w (w.alloc (.cells (rowL k le mo st fs).toArray 141)):=(Below.refl _ _).alloc (Nat.le_refl _) _
  have lt0:w.heap.size < (w.alloc (.cells (rowL k le mo st fs).toArray 141)).heap.size:=by simp
  go_enter Tryz.func96,Tryz.ntmps96
  go_wp2_with fail
  generalize w.alloc (.cells (rowL k le mo st fs).toArray 141) = w0 at *
  refine (fieldTableT w0).mono ?_
  rintro e w1 ⟨T,rfl,ht,c1⟩
  have hg1:=(c1.block _ lt0).trans hg0
  have lt1:w.heap.size < w1.heap.size:=Nat.lt_of_lt_of_le lt0 c1.size
  have b1:=b0.trans (c1.mono (Nat.le_of_lt lt0))
  clear hg0 lt0 b0 c1
  have hz81:nf60.size = T.toArray.size:=by show nf60.size = T.length; rw [ht.1]; rfl
  have hit:(Tryz.prog.info? 165).map (·.size) = some T.toArray.size:=by rw [List.size_toArray,ht.1]; exact info_table
  have hone:T.toArray.all (·.oneCell') = true:=all_oneCell_toArray ht.2.1
  have HT:Hid (TBL w1 T):=ht
  have HG:=heapNew w1 (.cells nf60 165)
  have hi7:(Tryz.prog.info? 139).map (·.size) = some (fcs fs).length:=by rw [fcs_len,hf]; exact info_fs
  have hgw:((w1.alloc (.cells nf60 165)).setRow w1.heap.size T.toArray).heap[w.heap.size]? = some (.cells (rowL k le mo st fs).toArray 141 (0,0)):=by
    rw [setRow_other _ _ _ _ (by omega),heapOld _ _ _ lt1]; exact hg1
  have hrg:=rowL_fs hgw
  have HW:Hid (TBL ((w1.alloc (.cells nf60 165)).setRow w1.heap.size T.toArray) T∧((w1.alloc (.cells nf60 165)).setRow w1.heap.size T.toArray).heap[w1.heap.size]? = some (.cells T.toArray 165 (0,0))∧Below w.heap.size w ((w1.alloc (.cells nf60 165)).setRow w1.heap.size T.toArray)):=by
    refine ⟨⟨ht.1,ht.2.1,fun c h1 h2=>?_⟩,heapSetRow _ _ _ _ _ HG,belowSetRow (b1.alloc (Nat.le_of_lt lt1) _) (Nat.le_of_lt lt1) _⟩
    exact ((ht.2.2 c h1 h2).below ((Below.refl _ _).alloc (Nat.le_refl _) _)).keep (Besides.setRow _ _ _) HG (by decide)
  clear ht hg1 lt1 b1 HT hgw
  go_wp2_with (first |(refine wpList_store_row rfl 165 _ _ rfl w1.heap.size T.toArray rfl rfl 165 nf60 HG hit hz81 hone ?_) |(refine wpList_load_mid rfl 139 _ rfl w.heap.size 4 rfl (fcs fs) _ hrg Tryz.underlying139 rfl hi7 ?_))
  rw [nf60_eq]
  generalize (w1.alloc (.cells nf60 165)).setRow w1.heap.size T.toArray = W at *
  clear HG hit hz81 hone hi7 hrg
  generalize w1.heap.size = G at *
  clear w1 w0
  have HF:Hid (fs.length = 7∧∀ c ∈ fs,c≤11):=⟨hf,hm⟩
  clear hf hm
  go_loopw [4,10] (fun v t wr=>∃ (n:Nat) (a:Option Addr) (cp:Nat),n≤7∧t = .int .i64 n∧v = .slice a n cp∧Hid (OFS W.heap.size W wr v (fs.take n))∧Hid (∀ c ∈ fs.take n,c≠0)∧Hid (Below W.heap.size W wr)) (fun _ t _=>7 - (intOf t).toNat)
  case atStart=>exact ⟨0,none,0,by omega,rfl,rfl,OFS.nil _ _ _,by simp [Hid],Below.refl _ _⟩
  case round =>
    obtain ⟨n,a,cp,hn,rfl,rfl,ho,hz,hb⟩:=hrel
    by_cases h7:n < 7
    · have hl:n < fs.length:=by have:=HF.out.1; omega
      have hx:fs[n]? = some fs[n]:=List.getElem?_eq_getElem hl
      have hle:fs[n]≤11:=HF.out.2 _ (List.getElem_mem hl)
      generalize fs[n] = c at hx hle
      have hidx:(fcs fs).toArray[n]? = some (.int .i64 (c:Int)):=by simp [fcs,hx]
      have hix:=fun u=>run_index7 u (fcs fs).toArray n _ h7 hidx
      by_cases hc:c = 0
      · subst hc
        go_wp2
        go_ret
        exact ⟨_,W,rfl,by rw [takeWhile_stop fs n hz.out (.inl hx)]; exact ho.out,HW.out.2.2,hb.out⟩
      · have HL:=HW.out.1.2.2 c (by omega) hle
        have hr:wr.rangeAt G (c * 5) ((T.drop (5 * c)).take 5):=by
          rw [Nat.mul_comm c 5]
          intro j v hj
          have hj5:=(List.getElem?_eq_some_iff.1 hj).1
          rw [HL.five] at hj5
          rw [List.getElem?_take_of_lt hj5,List.getElem?_drop] at hj
          have hgg:=(hb.out.block G (Array.getElem?_eq_some_iff.1 HW.out.2.1).1).trans HW.out.2.1
          simp [World.cell?,hgg,hj]
        have hi5:(Tryz.prog.info? 152).map (·.size) = some ((T.drop (5 * c)).take 5).length:=by rw [HL.five]; exact info_field
        have HO:Hid (FLD W c ((T.drop (5 * c)).take 5)∧∀ u ∈ (T.drop (5 * c)).take 5,u.oneCell' = true):=⟨HL,fun u hu=>HW.out.1.2.1 u (List.mem_of_mem_drop (List.mem_of_mem_take hu))⟩
        clear HL
        generalize (T.drop (5 * c)).take 5 = vs at *
        obtain ⟨v0,v1,v2,v3,v4,rfl⟩:=HO.out.1.len
        have hrn:(wr.alloc (.cells #[v0,v1,v2,v3,v4] 152)).rangeAt wr.heap.size 0 [v0,v1,v2,v3,v4]:=by
          exact rangeOf (cs:=[v0,v1,v2,v3,v4]) (heapNew wr (.cells #[v0,v1,v2,v3,v4] 152))
        have HA:Hid (OFS W.heap.size W (wr.alloc (.cells #[v0,v1,v2,v3,v4] 152)) (.slice a n cp) (fs.take n)∧(fs.take n).length < 100∧W.heap.size≤(wr.alloc (.cells #[v0,v1,v2,v3,v4] 152)).heap.size):=⟨ho.out.grow ((Below.refl _ _).alloc (Nat.le_refl _) _),by rw [List.length_take]; omega,by have:=hb.out.size; simp; omega⟩
        clear ho
        go_wp2_with (first |(refine wpList_load_mid rfl 152 _ rfl G (c * 5) rfl [v0,v1,v2,v3,v4] _ hr Tryz.underlying152 rfl hi5 ?_) |(at_builtin; refine append_field rfl _ _ rfl rfl HA.out.1 wr.heap.size c [v0,v1,v2,v3,v4] HO.out.1 HO.out.2 rfl hrn HA.out.2.2 HA.out.2.1 ?_; intro v' w' ho' hb'))
        obtain ⟨a',cp',rfl⟩:=ho'.form
        have e1:fs.take n ++ [c] = fs.take (n + 1):=by rw [List.take_add_one,hx]; rfl
        have e2:(fs.take n ++ [c]).length = n + 1:=by rw [List.length_append,List.length_take]; simp; omega
        rw [e2] at ho' ⊢
        rw [e1] at ho'
        refine ⟨⟨n + 1,a',cp',by omega,by go_num,rfl,ho',?_,?_⟩,by simp [intOf]; omega⟩
        · intro c' hc'
          rw [← e1] at hc'
          rcases List.mem_append.1 hc' with h | h
          · exact hz.out c' h
          · simp at h; subst h; exact hc
        · exact (hb.out.alloc hb.out.size _).trans hb'
    · obtain rfl:n = 7:=by omega
      go_wp2
      go_ret
      exact ⟨_,W,rfl,by rw [takeWhile_stop fs 7 hz.out (.inr HF.out.1)]; exact ho.out,HW.out.2.2,hb.out⟩
structure Kr where
  k:Int
  le:Int
  mo:Int
  st:Int
  fs:List Nat
deriving DecidableEq
def Kr.ls (r:Kr):List Value:=rowL r.k r.le r.mo r.st r.fs
def rws:List Kr:=[⟨-1,0,0,1, [0,0,0,0,0,0,0]⟩,⟨0,1,1,1, [1,0,0,0,0,0,0]⟩,⟨1,1,1,1, [1,0,0,0,0,0,0]⟩,⟨2,1,1,1, [1,0,0,0,0,0,0]⟩,⟨3,1,1,1, [1,0,0,0,0,0,0]⟩,
  ⟨4,5,5,1, [1,3,0,0,0,0,0]⟩,⟨5,1,8193,1, [1,10,0,0,0,0,0]⟩,⟨6,13,13,1, [1,3,4,6,0,0,0]⟩,⟨7,10,16393,1, [1,3,4,10,0,0,0]⟩,⟨8,13,13,1, [1,3,4,6,0,0,0]⟩,
  ⟨21,49,49,1, [1,7,8,3,5,9,0]⟩,⟨22,49,17969,32, [1,7,8,3,5,9,11]⟩,⟨23,49,49,1, [1,7,8,3,5,9,0]⟩,⟨1000,1,32768,1, [2,10,0,0,0,0,0]⟩]
def kindsL:List Value:=rws.flatMap Kr.ls
def KT (w:World):Prop:=w.rangeAt 0 0 kindsL
theorem KT.below {w w':World} {B:Nat} (h:KT w) (hb:Below B w w') (hB:0 < B):KT w':=fun j v hj=>by
  have:=h j v hj
  exact (hb.cell (p:=⟨0,0 + j,none⟩) hB).trans this
theorem KT.pos {w:World} (h:KT w):0 < w.heap.size:=by
  have:=h 0 (.int .i64 (-1)) rfl
  exact World.block_lt_of_cell? w _ this
theorem info_kinds:(Tryz.prog.info? 164).map (·.size) = some kindsL.length:=by kernel_rfl
theorem rws_row (n:Nat) (r:Kr) (h:rws[n]? = some r):(kindsL.drop (n * 11)).take 11 = r.ls∧n < 14∧r.fs.length = 7∧(∀ c ∈ r.fs,c≤11):=by
  have hn:n < 14:=(List.getElem?_eq_some_iff.1 h).1
  have h14:n = 0∨n = 1∨n = 2∨n = 3∨n = 4∨n = 5∨n = 6∨n = 7∨n = 8∨n = 9∨n = 10∨n = 11∨n = 12∨n = 13:=by omega
  rcases h14 with rfl | rfl | rfl | rfl | rfl | rfl | rfl | rfl | rfl | rfl | rfl | rfl | rfl | rfl
  all_goals (simp [rws] at h; subst h; exact ⟨rfl,by omega,rfl,by decide⟩)
def rowFor (k:Int):Option Kr:=rws.find? (fun r=>r.k == k)
theorem rowFor_at {k:Int} {n:Nat} {r:Kr} (h:rws[n]? = some r) (hk:r.k = k) (hno:∀ j r',j < n→rws[j]? = some r'→r'.k≠k):rowFor k = some r:=by
  unfold rowFor
  have hn:=(List.getElem?_eq_some_iff.1 h)
  rw [List.find?_eq_some_iff_getElem]
  refine ⟨by simp [hk],n,hn.1,hn.2,fun j hj=>?_⟩
  have:=hno j _ hj (List.getElem?_eq_getElem (by have:=hn.1; omega))
  simpa using this
theorem rowFor_none {k:Int} (hno:∀ j r',j < 14→rws[j]? = some r'→r'.k≠k):rowFor k = none:=by
  unfold rowFor
  rw [List.find?_eq_none]
  intro r hr
  obtain ⟨j,hj,e⟩:=List.getElem_of_mem hr
  have:=hno j r hj (by rw [List.getElem?_eq_getElem hj,e])
  simpa using this
def zrow:Kr:=⟨0,0,0,0, [0,0,0,0,0,0,0]⟩
theorem info_rowK (r:Kr) (h:r.fs.length = 7):(Tryz.prog.info? 141).map (·.size) = some r.ls.toArray.size:=by
  have:r.ls.toArray.size = 11:=by simp [Kr.ls,rowL,fcs,h]
  rw [this]; exact info_row
theorem row_one (r:Kr):r.ls.toArray.all (·.oneCell') = true:=by simp [Kr.ls,rowL,fcs,Value.oneCell']
theorem run_index14 (w:World) (n:Nat) (r:Kr) (hr:rws[n]? = some r):(Instr.index 164 (.agg kindsL.toArray) (.int .i64 (n:Int))).run Tryz.prog w = .ok (.agg r.ls.toArray) w:=by
  obtain ⟨e,hn,hf,_⟩:=rws_row n r hr
  obtain ⟨i3,hi3,hz⟩:=Option.map_eq_some_iff.1 info_row
  have h7:(0:Int)≤(n:Int)∧(n:Int) < (14:Int):=by omega
  simp [Instr.index,asIntOf,run_underlying Tryz.underlying164,sizeOf,typeInfo,hi3,hz,h7,part,isAgg,run_underlying Tryz.underlying141]
  rw [if_pos hn,e]
theorem results_row {fn:Func} {p q:Tmp} (h:fn.results = #[.cell p 141,.tmp q]) (tmps:Array Value) (w:World) (g:Nat) (cs:Array Value)
    (hp:tmps.getD p undef = .pointer (some ⟨g,0,none⟩)) (hg:w.heap[g]? = some (.cells cs 141 (0,0))) (hi:(Tryz.prog.info? 141).map (·.size) = some cs.size):(results fn tmps).run Tryz.prog w = .ok (.tuple #[.agg cs,tmps.getD q undef]) w:=by
  have hp':tmps[p]?.getD undef = .pointer (some ⟨g,0,none⟩):=by simpa using hp
  simp [results,h,hp',asAddr,run_loadVar_row w g 141 141 cs (0,0) _ hg Tryz.underlying141 rfl hi]
abbrev z11:Array Value:=#[.int .i64 0,.int .i64 0,.int .i64 0,.int .i64 0,.int .i64 0,.int .i64 0,.int .i64 0,.int .i64 0,.int .i64 0,.int .i64 0,.int .i64 0]
set_option maxHeartbeats 1000000 in
set_option maxRecDepth 100000 in
theorem rowOfT (w:World) (k:Int) (hk:KT w) :
    Calls Tryz.prog 93 #[.int .i64 k] w fun e w'=>e = .returned (.tuple #[.agg ((rowFor k).getD zrow).ls.toArray,.bool (rowFor k).isSome])∧Below w.heap.size w w':=by
  have hg0:=heapNew w (.cells z11 141)
  have b0:Below w.heap.size w (w.alloc (.cells z11 141)):=(Below.refl _ _).alloc (Nat.le_refl _) _
  have hk0:KT (w.alloc (.cells z11 141)):=hk.below b0 hk.pos
  have lt0:w.heap.size < (w.alloc (.cells z11 141)).heap.size:=by simp
  go_enter Tryz.func93,Tryz.ntmps93
  go_wp2_with (first |(refine wpList_load_mid rfl 164 _ rfl 0 0 rfl kindsL _ hk0 Tryz.underlying164 rfl info_kinds ?_))
  generalize w.alloc (.cells z11 141) = w0 at *
  clear hk0
  go_loopw [7] (fun t wr=>∃ n:Nat,n≤14∧t = .int .i64 n∧Hid (∀ j r',j < n→rws[j]? = some r'→r'.k≠k)∧Hid (Below w0.heap.size w0 wr)) (fun t _=>14 - (intOf t).toNat)
  case atStart=>exact ⟨0,by omega,rfl,fun j r' h=>by omega,Below.refl _ _⟩
  case round =>
    obtain ⟨n,hn,rfl,hno,hb⟩:=hrel
    by_cases h14:n < 14
    · obtain ⟨r,hr⟩:∃ r,rws[n]? = some r:=⟨_,List.getElem?_eq_getElem h14⟩
      have hix:=fun u=>run_index14 u n r hr
      obtain ⟨_,_,hf,_⟩:=rws_row n r hr
      have hi:=info_rowK r hf
      have h1:=row_one r
      have hG:=heapNew wr (.cells z11 141)
      have hz:z11.size = r.ls.toArray.size:=by simp [Kr.ls,rowL,fcs,hf]
      have hG2:=heapSetRow _ _ _ r.ls.toArray _ hG
      have hc0:((wr.alloc (.cells z11 141)).setRow wr.heap.size r.ls.toArray).cell? ⟨wr.heap.size,0,none⟩ = some (.int .i64 r.k):=by
        exact rangeOf hG2 0 _ rfl
      have hR:((wr.alloc (.cells z11 141)).setRow wr.heap.size r.ls.toArray).heap[w.heap.size]? = some (.cells z11 141 (0,0)):=by
        have hsz:=hb.out.size
        rw [setRow_other _ _ _ _ (by omega),heapOld _ _ _ (by omega),hb.out.block _ lt0]; exact hg0
      have HB:Hid (Below w.heap.size w ((wr.alloc (.cells z11 141)).setRow wr.heap.size r.ls.toArray)∧Below w0.heap.size w0 ((wr.alloc (.cells z11 141)).setRow wr.heap.size r.ls.toArray)):=by
        have hsz:=hb.out.size
        have b1:=b0.trans (hb.out.mono (Nat.le_of_lt lt0))
        exact ⟨belowSetRow (b1.alloc (by omega) _) (by omega) _,belowSetRow (hb.out.alloc hsz _) hsz _⟩
      by_cases he:r.k = k
      · have hrf:Hid (rowFor k = some r):=rowFor_at hr he hno.out
        go_wp2_with (first |(refine wpList_store_row rfl 141 _ _ rfl wr.heap.size r.ls.toArray rfl rfl 141 z11 hG hi hz h1 ?_) |(refine wpList_load_row rfl 141 _ rfl wr.heap.size rfl 141 r.ls.toArray (0,0) _ hG2 Tryz.underlying141 rfl hi ?_) |(refine wpList_store_row rfl 141 _ _ rfl w.heap.size r.ls.toArray rfl rfl 141 z11 hR hi hz h1 ?_))
        exact bodyPost_ret (results_row Tryz.results93 _ _ w.heap.size _ rfl (heapSetRow _ _ _ _ _ hR) hi) rfl ⟨by rw [hrf.out]; rfl,belowSetRow HB.out.1 (Nat.le_refl _) _⟩
      · go_wp2_with (first |(refine wpList_store_row rfl 141 _ _ rfl wr.heap.size r.ls.toArray rfl rfl 141 z11 hG hi hz h1 ?_))
        refine ⟨⟨n + 1,by omega,by go_num,fun j r' hj hr'=>?_,HB.out.2⟩,by simp [intOf]; omega⟩
        rcases Nat.lt_or_ge j n with h | h
        · exact hno.out j r' h hr'
        · obtain rfl:j = n:=by omega
          rw [hr] at hr'; cases hr'; exact he
    · obtain rfl:n = 14:=by omega
      have hrf:Hid (rowFor k = none):=rowFor_none hno.out
      have hgr:wr.heap[w.heap.size]? = some (.cells z11 141 (0,0)):=(hb.out.block _ lt0).trans hg0
      have hiz:(Tryz.prog.info? 141).map (·.size) = some z11.size:=info_row
      have h1z:z11.all (·.oneCell') = true:=by simp [Value.oneCell']
      have HB:Hid (Below w.heap.size w wr):=b0.trans (hb.out.mono (Nat.le_of_lt lt0))
      go_wp2_with (first |(refine wpList_store_row rfl 141 _ _ rfl w.heap.size z11 rfl rfl 141 z11 hgr hiz rfl h1z ?_))
      exact bodyPost_ret (results_row Tryz.results93 _ _ w.heap.size _ rfl (heapSetRow _ _ _ _ _ hgr) hiz) rfl ⟨by rw [hrf.out]; rfl,belowSetRow HB.out (Nat.le_refl _) _⟩
def Kr.fit (r:Kr) (n:Int):Bool:=decide (r.le≤n) && decide (n≤r.mo) && ((n - r.le) % r.st == 0)
theorem fitsT (w:World) (r:Kr) (n:Int) (hn:0≤n) (hn2:n≤1152921504606846976) (hs:1≤r.st) (hle:0≤r.le) (hle2:r.le≤1000000) :
    Calls Tryz.prog 95 #[.agg r.ls.toArray,.int .i64 n] w fun e w'=>e = .returned (.bool (r.fit n))∧Below w.heap.size w w':=by
  have hg0:=heapNew w (.cells r.ls.toArray 141)
  have c1:(w.alloc (.cells r.ls.toArray 141)).cell? ⟨w.heap.size,1,none⟩ = some (.int .i64 r.le):=rangeOf hg0 1 _ rfl
  have c2:(w.alloc (.cells r.ls.toArray 141)).cell? ⟨w.heap.size,2,none⟩ = some (.int .i64 r.mo):=rangeOf hg0 2 _ rfl
  have c3:(w.alloc (.cells r.ls.toArray 141)).cell? ⟨w.heap.size,3,none⟩ = some (.int .i64 r.st):=rangeOf hg0 3 _ rfl
  have HB:Hid (Below w.heap.size w (w.alloc (.cells r.ls.toArray 141))):=(Below.refl _ _).alloc (Nat.le_refl _) _
  clear hg0
  unfold Kr.fit
  generalize r.le = a at *
  generalize r.mo = b at *
  generalize r.st = s at *
  by_cases h1:a≤n
  · by_cases h2:n≤b
    · rw [decide_eq_true h1,decide_eq_true h2]
      go_enter Tryz.func95,Tryz.ntmps95
      go_wp2
      go_ret
      exact ⟨rfl,HB.out⟩
    · rw [decide_eq_true h1,decide_eq_false h2]
      go_enter Tryz.func95,Tryz.ntmps95
      go_wp2
      go_ret
      exact ⟨rfl,HB.out⟩
  · rw [decide_eq_false h1]
    go_enter Tryz.func95,Tryz.ntmps95
    go_wp2
    go_ret
    exact ⟨rfl,HB.out⟩
def FS (w:World) (v:Value) (cs:List Nat):Prop:=
  ∃ a cap,v = .slice a cs.length cap∧(cs = []∨∃ g cur,a = some ⟨g,0,none⟩∧w.heap[g]? = some (.cells cur 152 (0,0))∧∀ (i c:Nat),cs[i]? = some c→∃ vs,FLD w c vs∧w.rangeAt g (i * 5) vs)
theorem flat5 (xss:List (List Value)) (h:∀ x ∈ xss,x.length = 5) (i:Nat) (vs:List Value) (hi:xss[i]? = some vs) (j:Nat) (hj:j < 5):xss.flatten[i * 5 + j]? = vs[j]?:=by
  induction xss generalizing i with
  | nil=>simp at hi
  | cons x l ih =>
    have hx:x.length = 5:=h x (by simp)
    cases i with
    | zero =>
      simp at hi; subst hi
      rw [List.flatten_cons,Nat.zero_mul,Nat.zero_add,List.getElem?_append_left (by omega)]
    | succ i =>
      rw [List.flatten_cons,List.getElem?_append_right (by omega),hx,show (i + 1) * 5 + j - 5 = i * 5 + j by omega]
      exact ih (fun y hy=>h y (by simp [hy])) i (by simpa using hi)
theorem OFS.fs {B:Nat} {W w:World} {v:Value} {cs:List Nat} (h:OFS B W w v cs) (hb:Below W.heap.size W w):FS w v cs:=by
  obtain ⟨xss,ho,hlen,hf⟩:=h
  have h5:∀ x ∈ xss,x.length = 5:=by
    intro x hx
    obtain ⟨i,hi,e⟩:=List.getElem_of_mem hx
    obtain ⟨vs,e1,e2⟩:=hf i (cs[i]'(by omega)) (List.getElem?_eq_getElem _)
    rw [List.getElem?_eq_getElem hi,e] at e1
    cases e1
    exact e2.five
  have ho':=ho
  rcases ho.2 with ⟨rfl,h0⟩ | ⟨g,cap,cur,rfl,hB,hg,hle,hcap,hsz,hcur⟩
  · exact ⟨none,0,by rw [h0],.inl (List.length_eq_zero_iff.1 h0)⟩
  · refine ⟨_,cap,rfl,.inr ⟨g,cur,rfl,hg,fun i c hc=>?_⟩⟩
    obtain ⟨vs,e1,e2⟩:=hf i c hc
    refine ⟨vs,e2.below hb,fun j v hv=>?_⟩
    have hj:j < 5:=by have:=(List.getElem?_eq_some_iff.1 hv).1; rw [e2.five] at this; exact this
    have hi:i < cs.length:=(List.getElem?_eq_some_iff.1 hc).1
    have:=World.ownsRow.cellAt ho' (i * 5 + j) (by omega)
    rw [this,flat5 xss h5 i vs e1 j hj,hv]
theorem FS.below {w w':World} {v:Value} {cs:List Nat} (h:FS w v cs) (hb:Below w.heap.size w w'):FS w' v cs:=by
  obtain ⟨a,cap,rfl,h⟩:=h
  refine ⟨a,cap,rfl,?_⟩
  rcases h with h | ⟨g,cur,rfl,hg,hf⟩
  · exact .inl h
  · have hlt:=(Array.getElem?_eq_some_iff.1 hg).1
    refine .inr ⟨g,cur,rfl,(hb.block g hlt).trans hg,fun i c hc=>?_⟩
    obtain ⟨vs,h1,h2⟩:=hf i c hc
    exact ⟨vs,h1.below hb,fun j v hv=>(hb.cell (p:=⟨g,i * 5 + j,none⟩) hlt).trans (h2 j v hv)⟩
theorem FS.keep {w w':World} {v:Value} {cs:List Nat} {cb:Nat} {m:Mv} (h:FS w v cs) (hb:Besides cb w w') (hm:MB w cb m):FS w' v cs:=by
  obtain ⟨a,cap,rfl,h⟩:=h
  refine ⟨a,cap,rfl,?_⟩
  rcases h with h | ⟨g,cur,rfl,hg,hf⟩
  · exact .inl h
  · have hlt:=(Array.getElem?_eq_some_iff.1 hg).1
    have hne:g≠cb:=by
      rintro rfl
      unfold MB at hm
      rw [hg] at hm
      simp at hm
    have hk:=hb.block g hlt hne
    refine .inr ⟨g,cur,rfl,hk.trans hg,fun i c hc=>?_⟩
    obtain ⟨vs,h1,h2⟩:=hf i c hc
    exact ⟨vs,h1.keep hb hm (by decide),fun j v hv=>(World.cell?_of_block (w:=w) hk).trans (h2 j v hv)⟩
def blk (c:Nat) (m:Mv):Mv:=
  match c with
  | 2=>{ m with i:=0 }
  | 3=>{ m with i:=0 }
  | 4=>{ m with b:=0 }
  | 5=>{ m with l:=0 }
  | 6=>{ m with l:=0 }
  | 7=>{ m with r:=zr 32 }
  | 8=>{ m with ba:=0 }
  | 9=>{ m with pr:=0 }
  | 10=>{ m with d:=.slice none 0 0 }
  | 11=>{ m with h:=.slice none 0 0 }
  | _=>m
def rng (lo hi x:Int):Bool:=decide (lo≤x∧x≤hi)
def lk (c:Nat) (m:Mv):Bool:=
  match c with
  | 2=>rng 64 255 m.i
  | 3=>rng 0 4294967295 m.i
  | 4=>rng 0 4294967295 m.b
  | 5=>rng 0 4294967295 m.l
  | 6=>rng 1 16384 m.l
  | 8=>rng 0 4294967295 m.ba
  | 9=>rng 0 4294967295 m.pr
  | _=>true
def sln:Value→Nat
  | .slice _ n _=>n
  | _=>0
def sz (c:Nat) (m:Mv):Nat:=
  match c with
  | 1=>1
  | 2=>1
  | 7=>32
  | 10=>sln m.d
  | 11=>32 * sln m.h
  | _=>4
theorem blk_ok {m:Mv} (h:m.ok) (c:Nat):(blk c m).ok:=by
  unfold blk
  split
  all_goals first | exact h | exact ⟨h.r,h.d,h.h⟩ | exact ⟨zr_len 32,h.d,h.h⟩ | exact ⟨h.r,⟨_,_,_,rfl⟩,h.h⟩ | exact ⟨h.r,h.d,⟨_,_,_,rfl⟩⟩
def setL:Nat→List Value→List Value→List Value
  | _, [],l=>l
  | o,v :: r,l=>setL (o + 1) r (l.set o v)
theorem setL_mid:∀ (vs A B C:List Value),B.length = vs.length→setL A.length vs (A ++ (B ++ C)) = A ++ (vs ++ C)
  | [],A,B,C,h=>by
    have:B = []:=List.length_eq_zero_iff.1 h
    subst this; rfl
  | v :: r,A, [],C,h=>by simp at h
  | v :: r,A,b :: B,C,h=>by
    have ih:=setL_mid r (A ++ [v]) B C (by simpa using h)
    simp only [setL]
    rw [List.set_append_right _ _ (Nat.le_refl _),Nat.sub_self]
    simp only [List.length_append,List.length_cons,List.length_nil,List.append_assoc,List.cons_append,List.nil_append] at ih
    simp only [List.cons_append,List.set_cons_zero]
    exact ih
theorem heap_setCells (g:Nat) (t:TypeId):∀ (vs:List Value) (o:Nat) (w:World) (ls:List Value),w.heap[g]? = some (.cells ls.toArray t (0,0))→(w.setCells g o vs).heap[g]? = some (.cells (setL o vs ls).toArray t (0,0))
  | [],_,_,_,h=>h
  | v :: r,o,w,ls,h=>by
    rw [World.setCells]
    refine heap_setCells g t r (o + 1) _ (ls.set o v) ?_
    show (w.heap.modify g _)[g]? = _
    rw [Array.getElem?_modify,if_pos rfl,h]
    simp
theorem besides_setCells (g:Nat):∀ (vs:List Value) (o:Nat) (w:World),Besides g w (w.setCells g o vs)
  | [],_,w=>Besides.refl g w
  | v :: r,o,w=>by
    rw [World.setCells]
    exact (Besides.setCell w g o v).trans (besides_setCells g r (o + 1) _)
theorem MB.setRoot {w:World} {g:Nat} {m:Mv} (h:MB w g m) (ok:m.ok) (r:List UInt8) (hr:r.length = 32):MB (w.setCells g 5 (Lib.byteCells r)) g { m with r:=r }:=by
  have:=heap_setCells g 40 (Lib.byteCells r) 5 w m.ls h
  unfold MB
  rw [this]
  have e:setL 5 (Lib.byteCells r) m.ls = { m with r:=r }.ls:=setL_mid (Lib.byteCells r) [.int .i64 m.k,.int .i64 m.i,.int .i64 m.b,.int .i64 m.l,m.d] (Lib.byteCells m.r) [.int .i64 m.ba,.int .i64 m.pr,m.h] (by rw [bcl_len,bcl_len,ok.r,hr])
  rw [e]; rfl
theorem MB.there {w:World} {g:Nat} {m:Mv} (h:MB w g m) (ok:m.ok) (o n:Nat) (hn:o + n≤40):w.there g o n:=by
  intro j hj
  refine ⟨?_,h.free _⟩
  have hl:o + j < m.ls.length:=by
    have:=ok.size
    unfold Mv.cs at this
    simp at this
    omega
  rw [h.cell (o + j) (List.getElem?_eq_getElem hl)]
  rfl
theorem info_hash:(Tryz.prog.info? 25).map (·.size) = some 32:=by kernel_rfl
def z32:Array Value:=#[Value.int .u8 0,.int .u8 0,.int .u8 0,.int .u8 0,.int .u8 0,.int .u8 0,.int .u8 0,.int .u8 0,.int .u8 0,.int .u8 0,.int .u8 0,.int .u8 0,.int .u8 0,.int .u8 0,.int .u8 0,.int .u8 0,.int .u8 0,.int .u8 0,.int .u8 0,.int .u8 0,.int .u8 0,.int .u8 0,.int .u8 0,.int .u8 0,.int .u8 0,.int .u8 0,.int .u8 0,.int .u8 0,.int .u8 0,.int .u8 0,.int .u8 0,.int .u8 0]
theorem z32_bc:z32 = bc (zr 32):=rfl
theorem r4T (w:World) (g:Nat) (m:Mv) (ok:m.ok) (h:MB w g m):Calls Tryz.prog 150 #[ptr g] w fun e w'=>e = .returned (.tuple #[])∧w' = w.setCells g 5 (Lib.byteCells (zr 32)):=by
  have ht:w.there g 5 z32.size:=h.there ok 5 32 (by omega)
  have hone:z32.all (·.oneCell') = true:=by rw [z32_bc]; exact bc_one _
  have hi:(Tryz.prog.info? 25).map (·.size) = some z32.size:=info_hash
  clear h
  go_enter Tryz.func150,Tryz.ntmps150
  go_wp2_with (refine wpList_store_mid rfl 25 _ _ rfl g 5 z32 rfl rfl ht hi hone ?_)
  go_end0
  exact ⟨rfl,rfl⟩
theorem en85:EN 146:=enters_of Tryz.func146 (by kernel_rfl) rfl
end Go.Proofs.YtfjjpbebnoghmaaGreatDoor
