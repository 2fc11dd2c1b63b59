import Derived.Test.YtdlnnnlmlaploabGreatDoorK07
namespace Go.Proofs.YtdlnnnlmlaploabGreatDoor
open Go.RowKit Go.Deep
def PDx (b:List UInt8) (i:Nat) (p:Int) (lk:ByteArray) (us1:List Value) (o:Nat) (i':Nat) (us':List Value) (er:Int):Prop:=
  ((byt b i = 105 ∨ byt b i = 108 ∨ byt b i = 100)∧er = 22∧i' = i) ∨
  (¬ (byt b i = 105 ∨ byt b i = 108 ∨ byt b i = 100)∧((∃ j,leafO b i = .bad j er∧er ≠ 0∧i' = i + j) ∨
    ∃ t j,leafO b i = .val t j∧((1 ≤ p∧leB t.s lk = true∧er = 25∧i' = i) ∨ (¬ (1 ≤ p∧leB t.s lk = true)∧er = 0∧i' = i + j∧us' = us1.set o (.string t.s)))))
set_option maxRecDepth 10000 in
set_option maxHeartbeats 1000000 in
theorem part43D {B rb:Nat} {w:World} {a:Option Addr} {c:Nat} {b:List UInt8} {i n m:Nat} {ov:Value} {us:List Value} (h:SR B rb w a c b i n ov (m + 1) us) (hm:m ≤ 1048577) {p x:Int} {lk:ByteArray}
    (t0:us[m * 12]? = some (.int .i64 4)) (t10:us[m * 12 + 10]? = some (.string lk)) (t9:us[m * 12 + 9]? = some (.int .i64 p)) (t11:us[m * 12 + 11]? = some (.int .i64 x)) (hp0:0 ≤ p) (hp1:p ≤ 1048577) :
    Calls Tryz.prog 50 #[.pointer (some ⟨rb,0,none⟩)] w fun e w'=>∃ i' us' er,e = .returned (.int .i64 er)∧SR B rb w' a c b i' n ov (m + 1) us'∧Near rb ov w w'∧PDx b i p lk ((us.set (m * 12 + 11) (.int .i64 i)).set (m * 12 + 9) (.int .i64 (p + 1))) (m * 12 + 10) i' us' er:=by
  obtain ⟨c0,c1,c2,c3,f1,f2,f3⟩:=h.cells
  have hov:∃ g oc,ov = .slice (some ⟨g,0,none⟩) (m + 1) oc:=by
    rcases h.own.2 with ⟨_,e⟩ | ⟨g,cap,cur,q1,_⟩
    · omega
    · exact ⟨_,_,q1⟩
  obtain ⟨g,oc,rfl⟩:=hov
  have hgr:g ≠ rb:=fun e=>h.ne (by show some g = some rb; rw [e])
  have hrg:rb ≠ g:=fun e=>hgr e.symm
  obtain ⟨_, -,hcl⟩:=own_form h.own (g:=g) rfl
  have r0:=hcl _ _ t0
  have r9:=hcl _ _ t9
  have r11:=hcl _ _ t11
  have r10:=hcl _ _ t10
  have hfr:∀ o,w.frozen? ⟨g,o,none⟩ = false:=by
    rcases h.own.2 with ⟨e,_⟩ | ⟨g',cap,cur,q1,q2,q3,_⟩
    · cases e
    · injection q1 with e1
      injection e1 with e1
      injection e1 with e1
      subst e1
      exact fun o=>blk.frozen (show blk w g 98 cur from q3) o
  have y9:=hfr (m * 12 + 9)
  have y11:=hfr (m * 12 + 11)
  have y10:=hfr (m * 12 + 10)
  have km2:(m:Int) + 1 - 1 = (m:Int):=by omega
  have km3:(m:Int) < (m:Int) + 1:=by omega
  have km4:(m:Int) ≤ 1048577:=by omega
  have m0i:(0:Int) ≤ (m:Int):=by omega
  have HX:=Lib.hid h
  have HT:Hid (((us.set (m * 12 + 11) (.int .i64 i)).set (m * 12 + 9) (.int .i64 (p + 1)))[m * 12 + 9]? = some (.int .i64 (p + 1))∧((us.set (m * 12 + 11) (.int .i64 i)).set (m * 12 + 9) (.int .i64 (p + 1)))[m * 12 + 10]? = some (.string lk)∧((us.set (m * 12 + 11) (.int .i64 i)).set (m * 12 + 9) (.int .i64 (p + 1)))[m * 12 + 11]? = some (.int .i64 i)):=by
    have hlen:us.length = (m + 1) * 12:=h.own.1
    refine ⟨?_,?_,?_⟩
    · rw [List.getElem?_set_self (by rw [List.length_set]; omega)]
    · rw [List.getElem?_set_ne (by omega),List.getElem?_set_ne (by omega)]; exact t10
    · rw [List.getElem?_set_ne (by omega),List.getElem?_set_self (by omega)]
  clear h hcl hfr t0 t9 t10 t11
  go_enter Tryz.func50,Tryz.ntmps50
  go_wp2_with fail
  go_quiet (fail)
  go_wp2_with fail
  have HW:Hid (SR B rb (((w.drewN nq).setCell ⟨g,m * 12 + 11,none⟩ (.int .i64 i)).setCell ⟨g,m * 12 + 9,none⟩ (.int .i64 (p + 1))) a c b i n (.slice (some ⟨g,0,none⟩) (m + 1) oc) (m + 1) ((us.set (m * 12 + 11) (.int .i64 i)).set (m * 12 + 9) (.int .i64 (p + 1)))∧Near rb (.slice (some ⟨g,0,none⟩) (m + 1) oc) w (((w.drewN nq).setCell ⟨g,m * 12 + 11,none⟩ (.int .i64 i)).setCell ⟨g,m * 12 + 9,none⟩ (.int .i64 (p + 1)))):=by
    have hd:Below w.heap.size w (w.drewN nq):=⟨rfl,rfl,rfl,Nat.le_refl _,fun _ _=>rfl⟩
    have s1:=(HX.out.keep hd).setRow (g:=g) (o:=m * 12 + 11) rfl (by omega) (.int .i64 i)
    have s2:=s1.setRow (g:=g) (o:=m * 12 + 9) rfl (by omega) (.int .i64 (p + 1))
    exact ⟨s2,((Near.of (Besides.of_below hd)).trans (Near.row (g:=g) rfl _)).trans (Near.row (g:=g) rfl _)⟩
  generalize ((w.drewN nq).setCell ⟨g,m * 12 + 11,none⟩ (.int .i64 i)).setCell ⟨g,m * 12 + 9,none⟩ (.int .i64 (p + 1)) = W1 at *
  clear c0 c1 c2 c3 f1 f2 f3 r0 r9 r10 r11 y9 y10 y11
  refine (next41 HW.out.1).mono ?_
  rintro e w2 ⟨rfl,hb2⟩
  have H2:=Lib.hid (And.intro (HW.out.1.keep hb2) (HW.out.2.trans (Near.of (Besides.of_below hb2))))
  clear hb2 HW
  by_cases h105:byt b i = 105
  · rw [h105]
    go_wp2
    go_ret
    exact ⟨i,_,22,rfl,H2.out.1,H2.out.2,.inl ⟨.inl h105,rfl,rfl⟩⟩
  by_cases h108:byt b i = 108
  · rw [h108]
    go_wp2
    go_ret
    exact ⟨i,_,22,rfl,H2.out.1,H2.out.2,.inl ⟨.inr (.inl h108),rfl,rfl⟩⟩
  by_cases h100:byt b i = 100
  · rw [h100]
    go_wp2
    go_ret
    exact ⟨i,_,22,rfl,H2.out.1,H2.out.2,.inl ⟨.inr (.inr h100),rfl,rfl⟩⟩
  have hno:¬ (byt b i = 105 ∨ byt b i = 108 ∨ byt b i = 100):=by rintro (h | h | h) <;> contradiction
  have HN:=Lib.hid hno
  have z105:((byt b i).toNat:Int) ≠ 105:=u8_ne h105
  have z108:((byt b i).toNat:Int) ≠ 108:=u8_ne h108
  have z100:((byt b i).toNat:Int) ≠ 100:=u8_ne h100
  have HL:=Lib.hid (leaf55 H2.out.1 h108 h100)
  clear hno h105 h108 h100
  generalize ((byt b i).toNat:Int) = zz at *
  go_wp2_with fail
  refine HL.out.mono ?_
  rintro e w3 ⟨t,xa,xn,xc,ya,yn,yc,j,er,rfl,hO,hij,hs3,hb3⟩
  have H3:=Lib.hid (And.intro hs3 (H2.out.2.trans (Near.of hb3)))
  have HV:Hid ((er = 0∧leafO b i = .val t j) ∨ (er ≠ 0∧leafO b i = .bad j er)):=hO
  clear hO hs3 hb3 HL H2
  unfold vv
  have HA:Hid (SR B rb (w3.alloc (Obj.cells #[Value.int .i64 t.k,Value.int .i64 t.n,Value.string t.s,Value.slice xa xn xc,Value.slice ya yn yc] 55)) a c b (i + j) n (.slice (some ⟨g,0,none⟩) (m + 1) oc) (m + 1) ((us.set (m * 12 + 11) (.int .i64 i)).set (m * 12 + 9) (.int .i64 (p + 1)))∧Near rb (.slice (some ⟨g,0,none⟩) (m + 1) oc) w (w3.alloc (Obj.cells #[Value.int .i64 t.k,Value.int .i64 t.n,Value.string t.s,Value.slice xa xn xc,Value.slice ya yn yc] 55))∧obj (w3.alloc (Obj.cells #[Value.int .i64 t.k,Value.int .i64 t.n,Value.string t.s,Value.slice xa xn xc,Value.slice ya yn yc] 55)) w3.heap.size (.int .i64 t.k) (.int .i64 t.n) (.string t.s) (.slice xa xn xc) (.slice ya yn yc)):=by
    have hba:Below w3.heap.size w3 (w3.alloc (Obj.cells #[Value.int .i64 t.k,Value.int .i64 t.n,Value.string t.s,Value.slice xa xn xc,Value.slice ya yn yc] 55)):=(Below.refl _ _).alloc (Nat.le_refl _) _
    exact ⟨H3.out.1.keep hba,H3.out.2.trans (Near.of (Besides.of_below hba)),heap_new _ _⟩
  by_cases he:er = 0
  · subst he
    have hv:leafO b i = .val t j:=by
      rcases HV.out with ⟨_,h⟩ | ⟨h,_⟩
      · exact h
      · exact absurd rfl h
    have HVV:=Lib.hid hv
    obtain ⟨_,d1,_,_,e1,_⟩:=HA.out.1.cells
    obtain ⟨_, -,hcl⟩:=own_form HA.out.1.own (g:=g) rfl
    have r9:=hcl _ _ HT.out.1
    have r10:=hcl _ _ HT.out.2.1
    have r11:=hcl _ _ HT.out.2.2
    obtain ⟨o0,o1,o2,o3,o4⟩:=HA.out.2.2.cells
    have hfr:∀ o,(w3.alloc (Obj.cells #[Value.int .i64 t.k,Value.int .i64 t.n,Value.string t.s,Value.slice xa xn xc,Value.slice ya yn yc] 55)).frozen? ⟨g,o,none⟩ = false:=by
      rcases HA.out.1.own.2 with ⟨e,_⟩ | ⟨g',cap,cur,q1,q2,q3,_⟩
      · cases e
      · injection q1 with e1
        injection e1 with e1
        injection e1 with e1
        subst e1
        exact fun o=>blk.frozen (show blk (w3.alloc (Obj.cells #[Value.int .i64 t.k,Value.int .i64 t.n,Value.string t.s,Value.slice xa xn xc,Value.slice ya yn yc] 55)) g 98 cur from q3) o
    have y10:=hfr (m * 12 + 10)
    clear hcl hfr hv HV H3
    by_cases hp:1 ≤ p
    · have hp2:¬ (p + 1 ≤ 1):=by omega
      have hp3:(1:Int) < p + 1:=by omega
      go_wp2
      generalize (w3.alloc (Obj.cells #[Value.int .i64 t.k,Value.int .i64 t.n,Value.string t.s,Value.slice xa xn xc,Value.slice ya yn yc] 55)) = A at *
      go_quiet (fail)
      go_wp2
      · rename_i hcmp
        go_ret
        have hd:Below A.heap.size A (A.drewN nq):=⟨rfl,rfl,rfl,Nat.le_refl _,fun _ _=>rfl⟩
        have sA:=HA.out.1.keep hd
        have nA:=HA.out.2.1.trans (Near.of (Besides.of_below hd))
        have hle:leB t.s lk = true:=by unfold leB; rcases hcmp with h | h <;> simp [h]
        exact ⟨i,_,25,rfl,sA.set (o:=1) (i':=i) (n':=n) (Nat.le_trans (Nat.le_add_right _ _) hij) rfl,nA.trans (Near.of (Besides.refl rb _).set1),.inr ⟨HN.out,.inr ⟨t,j,HVV.out,.inl ⟨hp,hle,rfl,rfl⟩⟩⟩⟩
      · rename_i hcmp
        go_ret
        have hd:Below A.heap.size A (A.drewN nq):=⟨rfl,rfl,rfl,Nat.le_refl _,fun _ _=>rfl⟩
        have sA:=HA.out.1.keep hd
        have nA:=HA.out.2.1.trans (Near.of (Besides.of_below hd))
        have hle:leB t.s lk = false:=by unfold leB; simp [hcmp.1,hcmp.2]
        exact ⟨i + j,_,0,rfl,sA.setRow (g:=g) (o:=m * 12 + 10) rfl (by omega) (.string t.s),nA.trans (Near.row (g:=g) rfl _),.inr ⟨HN.out,.inr ⟨t,j,HVV.out,.inr ⟨(fun h=>by rw [hle] at h; exact absurd h.2 (by decide)),rfl,rfl,rfl⟩⟩⟩⟩
    · obtain rfl:p = 0:=by omega
      go_wp2
      generalize (w3.alloc (Obj.cells #[Value.int .i64 t.k,Value.int .i64 t.n,Value.string t.s,Value.slice xa xn xc,Value.slice ya yn yc] 55)) = A at *
      go_quiet (fail)
      go_wp2
      go_ret
      have hd:Below A.heap.size A (A.drewN nq):=⟨rfl,rfl,rfl,Nat.le_refl _,fun _ _=>rfl⟩
      have sA:=HA.out.1.keep hd
      have nA:=HA.out.2.1.trans (Near.of (Besides.of_below hd))
      exact ⟨i + j,_,0,rfl,sA.setRow (g:=g) (o:=m * 12 + 10) rfl (by omega) (.string t.s),nA.trans (Near.row (g:=g) rfl _),.inr ⟨HN.out,.inr ⟨t,j,HVV.out,.inr ⟨(fun h=>by have:=h.1; omega),rfl,rfl,rfl⟩⟩⟩⟩
  · have he':(er == 0) = false:=beq_eq_false_iff_ne.2 he
    have hbad:leafO b i = .bad j er:=by
      rcases HV.out with ⟨h,_⟩ | ⟨_,h⟩
      · exact absurd h he
      · exact h
    have HBD:=Lib.hid hbad
    clear hbad
    go_wp2
    go_ret
    exact ⟨i + j,_,er,rfl,HA.out.1,HA.out.2.1,.inr ⟨HN.out,.inl ⟨j,HBD.out,he,rfl⟩⟩⟩
set_option maxRecDepth 10000 in
set_option maxHeartbeats 1000000 in
theorem due54z {B rb:Nat} {w:World} {a:Option Addr} {c:Nat} {b:List UInt8} {i n:Nat} {ov:Value} {us:List Value} (h:SR B rb w a c b i n ov 0 us) (hn:n ≤ 1048577) :
    Calls Tryz.prog 64 #[.pointer (some ⟨rb,0,none⟩)] w fun e w'=>e = .returned (.agg (sv9 0 i 0 0 (-1) 0 ByteArray.empty n 0))∧SR B rb w' a c b i (n + 1) ov 0 us∧Besides rb w w':=by
  obtain ⟨c0,c1,c2,c3,f1,f2,f3⟩:=h.cells
  have hov:∃ oa oc,ov = .slice oa 0 oc:=by
    rcases h.own.2 with ⟨rfl,_⟩ | ⟨g,cap,cur,q1,_⟩
    · exact ⟨_,_,rfl⟩
    · exact ⟨_,_,q1⟩
  obtain ⟨oa,oc,rfl⟩:=hov
  have hn1:(n:Int) ≤ 1048577:=by omega
  have n1:=World.new_ne w _ c1
  have hb0:Below w.heap.size w (w.alloc zero9):=(Below.refl _ _).alloc (Nat.le_refl _) _
  have HX:=Lib.hid (And.intro h (And.intro hb0 (h.keep hb0)))
  obtain ⟨d0,d1,d2,d3,e1,e2,e3⟩:=HX.out.2.2.cells
  have k0:blk (w.alloc zero9) w.heap.size 45 #[.int .i64 0,.int .i64 0,.int .i64 0,.int .i64 0,.int .i64 0,.int .i64 0,.string { data:=#[] },.int .i64 0,.int .i64 0]:=heap_new w zero9
  have hb1:Below w.heap.size w ((w.alloc zero9).alloc (Obj.cells #[.int .i64 0,.int .i64 0,.int .i64 0,.int .i64 0,.int .i64 0,.int .i64 0,.string { data:=#[] },.int .i64 n,.int .i64 0] 45)):=hb0.alloc (by simp) _
  have HY:Hid (SR B rb ((w.alloc zero9).alloc (Obj.cells #[.int .i64 0,.int .i64 0,.int .i64 0,.int .i64 0,.int .i64 0,.int .i64 0,.string { data:=#[] },.int .i64 n,.int .i64 0] 45)) a c b i n (.slice oa 0 oc) 0 us∧Below w.heap.size w ((w.alloc zero9).alloc (Obj.cells #[.int .i64 0,.int .i64 0,.int .i64 0,.int .i64 0,.int .i64 0,.int .i64 0,.string { data:=#[] },.int .i64 n,.int .i64 0] 45)) ∧
      blk ((w.alloc zero9).alloc (Obj.cells #[.int .i64 0,.int .i64 0,.int .i64 0,.int .i64 0,.int .i64 0,.int .i64 0,.string { data:=#[] },.int .i64 n,.int .i64 0] 45)) w.heap.size 45 #[.int .i64 0,.int .i64 0,.int .i64 0,.int .i64 0,.int .i64 0,.int .i64 0,.string { data:=#[] },.int .i64 0,.int .i64 0] ∧
      blk ((w.alloc zero9).alloc (Obj.cells #[.int .i64 0,.int .i64 0,.int .i64 0,.int .i64 0,.int .i64 0,.int .i64 0,.string { data:=#[] },.int .i64 n,.int .i64 0] 45)) (w.heap.size + 1) 45 #[.int .i64 0,.int .i64 0,.int .i64 0,.int .i64 0,.int .i64 0,.int .i64 0,.string { data:=#[] },.int .i64 n,.int .i64 0]):=
    ⟨h.keep hb1,hb1,k0.keep (Below.heap_alloc _ _ _ k0.lt),by have h2:=heap_new (w.alloc zero9) (Obj.cells #[.int .i64 0,.int .i64 0,.int .i64 0,.int .i64 0,.int .i64 0,.int .i64 0,.string { data:=#[] },.int .i64 n,.int .i64 0] 45); rw [show (w.alloc zero9).heap.size = w.heap.size + 1 from Array.size_push ..] at h2; exact h2⟩
  obtain ⟨_,g1,g2,g3,u1,u2,u3⟩:=HY.out.1.cells
  clear h hb0 hb1 c0 c1 c2 c3 f1 f2 f3 k0
  go_enter Tryz.func64,Tryz.ntmps64
  go_wp2_with fail
  have HZ:=HY
  generalize ((w.alloc (Obj.cells #[.int .i64 0,.int .i64 0,.int .i64 0,.int .i64 0,.int .i64 0,.int .i64 0,.string { data:=#[] },.int .i64 0,.int .i64 0] 45)).alloc (Obj.cells #[.int .i64 0,.int .i64 0,.int .i64 0,.int .i64 0,.int .i64 0,.int .i64 0,.string { data:=#[] },.int .i64 n,.int .i64 0] 45)) = W0 at *
  generalize hH:w.heap.size = H at *
  have hrH:rb ≠ H:=fun e=>n1 e.symm
  have hrH1:rb ≠ H + 1:=by have:=HX.out.1.bk.lt; omega
  have h1r:H + 1 ≠ rb:=fun e=>hrH1 e.symm
  have HW:Hid (SR B rb (W0.setCell ⟨rb,2,none⟩ (.int .i64 ((n:Int) + 1))) a c b i (n + 1) (.slice oa 0 oc) 0 us∧blk (W0.setCell ⟨rb,2,none⟩ (.int .i64 ((n:Int) + 1))) H 45 #[.int .i64 0,.int .i64 0,.int .i64 0,.int .i64 0,.int .i64 0,.int .i64 0,.string { data:=#[] },.int .i64 0,.int .i64 0]∧blk (W0.setCell ⟨rb,2,none⟩ (.int .i64 ((n:Int) + 1))) (H + 1) 45 #[.int .i64 0,.int .i64 0,.int .i64 0,.int .i64 0,.int .i64 0,.int .i64 0,.string { data:=#[] },.int .i64 n,.int .i64 0]∧Besides rb w (W0.setCell ⟨rb,2,none⟩ (.int .i64 ((n:Int) + 1)))):=by
    obtain ⟨q1,q2,q3,q4⟩:=HY.out
    refine ⟨q1.set q1.le rfl,q3.keep (Below.heap_setCell _ _ _ _ hrH.symm),q4.keep (Below.heap_setCell _ _ _ _ hrH1.symm),(Besides.of_below (by rw [hH]; exact q2)).set1⟩
  generalize (W0.setCell ⟨rb,2,none⟩ (.int .i64 ((n:Int) + 1))) = W at *
  have HH:=Lib.hid hH
  clear HY HZ hH d0 d1 d2 d3 e1 e2 e3 g1 g2 g3 u1 u2 u3
  obtain ⟨_,g1,g2,g3,u1,u2,u3⟩:=HW.out.1.cells
  obtain ⟨b0,b1,b2,b3,b4,b5,b6,b7,b8⟩:=HW.out.2.2.1.cells9
  obtain ⟨x0,x1,x2,x3,x4,x5,x6,x7,x8⟩:=HW.out.2.2.1.frozen9
  go_region_held3 (fun w'=>w'.cell? ⟨rb,1,none⟩ = some (.int .i64 i)∧w'.cell? ⟨rb,3,none⟩ = some (.slice oa 0 oc)) (go_keep) (fail)
  have HV:Hid (SR B rb (((W.setCell ⟨H + 1,1,none⟩ (.int .i64 i)).setCell ⟨H + 1,3,none⟩ (.int .i64 0)).setCell ⟨H + 1,4,none⟩ (.int .i64 (-1))) a c b i (n + 1) (.slice oa 0 oc) 0 us∧blk (((W.setCell ⟨H + 1,1,none⟩ (.int .i64 i)).setCell ⟨H + 1,3,none⟩ (.int .i64 0)).setCell ⟨H + 1,4,none⟩ (.int .i64 (-1))) H 45 #[.int .i64 0,.int .i64 0,.int .i64 0,.int .i64 0,.int .i64 0,.int .i64 0,.string { data:=#[] },.int .i64 0,.int .i64 0]∧blk (((W.setCell ⟨H + 1,1,none⟩ (.int .i64 i)).setCell ⟨H + 1,3,none⟩ (.int .i64 0)).setCell ⟨H + 1,4,none⟩ (.int .i64 (-1))) (H + 1) 45 #[.int .i64 0,.int .i64 i,.int .i64 0,.int .i64 0,.int .i64 (-1),.int .i64 0,.string { data:=#[] },.int .i64 n,.int .i64 0]∧Besides rb w (((W.setCell ⟨H + 1,1,none⟩ (.int .i64 i)).setCell ⟨H + 1,3,none⟩ (.int .i64 0)).setCell ⟨H + 1,4,none⟩ (.int .i64 (-1)))):=by
    obtain ⟨q1,q2,q3,q4⟩:=HW.out
    have hz:w.heap.size ≤ H + 1:=by have:=HH.out; omega
    have hne:H ≠ H + 1:=by omega
    have s1:=HX.out.1.setFar q4 q1 hz 1 (.int .i64 i)
    have m1:=Besides.setOld (o:=1) (u:=.int .i64 i) hz q4
    have s2:=HX.out.1.setFar m1 s1 hz 3 (.int .i64 0)
    have m2:=Besides.setOld (o:=3) (u:=.int .i64 0) hz m1
    have s3:=HX.out.1.setFar m2 s2 hz 4 (.int .i64 (-1))
    have m3:=Besides.setOld (o:=4) (u:=.int .i64 (-1)) hz m2
    exact ⟨s3,((q2.keep (Below.heap_setCell _ _ _ _ hne)).keep (Below.heap_setCell _ _ _ _ hne)).keep (Below.heap_setCell _ _ _ _ hne),((q3.set 1 _).set 3 _).set 4 _,m3⟩
  generalize (((W.setCell ⟨H + 1,1,none⟩ (.int .i64 i)).setCell ⟨H + 1,3,none⟩ (.int .i64 0)).setCell ⟨H + 1,4,none⟩ (.int .i64 (-1))) = V at *
  clear HW b0 b1 b2 b3 b4 b5 b6 b7 b8 x0 x1 x2 x3 x4 x5 x6 x7 x8 g1 g2 g3 u1 u2 u3
  obtain ⟨b0,b1,b2,b3,b4,b5,b6,b7,b8⟩:=HV.out.2.2.1.cells9
  obtain ⟨z0,z1,z2,z3,z4,z5,z6,z7,z8⟩:=HV.out.2.1.cells9
  obtain ⟨x0,x1,x2,x3,x4,x5,x6,x7,x8⟩:=HV.out.2.1.frozen9
  go_wp2
  obtain ⟨y1,y2,y3⟩:=HX.out.1.box9 HV.out.2.2.2 HV.out.1 (Nat.le_of_eq HH.out) HV.out.2.1 (.int .i64 0) (.int .i64 i) (.int .i64 0) (.int .i64 0) (.int .i64 (-1)) (.int .i64 0) (.string { data:=#[] }) (.int .i64 n) (.int .i64 0)
  generalize hX:set9 V H (.int .i64 0) (.int .i64 i) (.int .i64 0) (.int .i64 0) (.int .i64 (-1)) (.int .i64 0) (.string { data:=#[] }) (.int .i64 n) (.int .i64 0) = X at *
  unfold set9 at hX
  rw [hX]
  have y4:blk X.drew H 45 _:=y3.keep rfl
  refine bodyPost_ret (v:=.agg (sv9 0 i 0 0 (-1) 0 ByteArray.empty n 0)) (results_cell47 Tryz.results64 _ _ H _ rfl y4 rfl) rfl ?_
  exact ⟨rfl,y1.keep (below_drew _),y2.drew⟩
end Go.Proofs.YtdlnnnlmlaploabGreatDoor
