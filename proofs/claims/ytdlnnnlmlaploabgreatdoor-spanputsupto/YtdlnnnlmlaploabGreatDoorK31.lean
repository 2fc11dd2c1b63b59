import Derived.Test.YtdlnnnlmlaploabGreatDoorK27
import Derived.Test.YtdlnnnlmlaploabGreatDoorK28
import Derived.Test.YtdlnnnlmlaploabGreatDoorK30
namespace Go.Proofs.YtdlnnnlmlaploabGreatDoor
open Go.RowKit Go.Deep
set_option maxRecDepth 10000 in
set_option maxHeartbeats 2000000 in
theorem with23 {x:T} {p:List (Int × ByteArray)} {t:T} (hl:∀ q p' n s ln l dn ky dv,p = q :: p' → t = .mk 3 n s ln l dn ky dv → WIC 39 x p t) (hd:∀ q p' n s ln l dn ky dv,p = q :: p' → t = .mk 4 n s ln l dn ky dv → WIC 40 x p t):WIC 23 x p t:=by
  intro A x1 y1 x2 y2 w pa pc hA hP hpc hpl hr hsm hrx
  cases t with
  | no=>exact hr.elim
  | mk k n s ln l dn ky dv =>
    obtain ⟨⟨xa1,xn1,xc1,rfl⟩,⟨ya1,yn1,yc1,rfl⟩⟩:=hr.slices
    obtain ⟨⟨xa,xn,xc,rfl⟩,⟨ya,yn,yc,rfl⟩⟩:=hrx.slices
    have HR:=Lib.hid (And.intro hP (And.intro hr (And.intro hrx hsm)))
    have HL:=Lib.hid (And.intro hl hd)
    clear hP hr hrx hsm hl hd
    show Calls Tryz.prog 23 #[.agg #[.int .i64 k,.int .i64 n,.string s,.slice xa1 xn1 xc1,.slice ya1 yn1 yc1],.slice pa p.length pc,.agg #[.int .i64 x.k,.int .i64 x.n,.string x.s,.slice xa xn xc,.slice ya yn yc]] w _
    have s1:(w.alloc (Obj.cells #[.int .i64 k,.int .i64 n,.string s,.slice xa1 xn1 xc1,.slice ya1 yn1 yc1] 55)).heap.size = w.heap.size + 1:=by simp
    have s2:((w.alloc (Obj.cells #[.int .i64 k,.int .i64 n,.string s,.slice xa1 xn1 xc1,.slice ya1 yn1 yc1] 55)).alloc (Obj.cells #[.int .i64 x.k,.int .i64 x.n,.string x.s,.slice xa xn xc,.slice ya yn yc] 55)).heap.size = w.heap.size + 1 + 1:=by simp
    have HB:Hid (Below w.heap.size w (((w.alloc (Obj.cells #[.int .i64 k,.int .i64 n,.string s,.slice xa1 xn1 xc1,.slice ya1 yn1 yc1] 55)).alloc (Obj.cells #[.int .i64 x.k,.int .i64 x.n,.string x.s,.slice xa xn xc,.slice ya yn yc] 55)).alloc (Obj.cells #[.int .i64 0,.int .i64 0,.string { data:=#[] },.slice .none 0 0,.slice .none 0 0] 55))∧obj (((w.alloc (Obj.cells #[.int .i64 k,.int .i64 n,.string s,.slice xa1 xn1 xc1,.slice ya1 yn1 yc1] 55)).alloc (Obj.cells #[.int .i64 x.k,.int .i64 x.n,.string x.s,.slice xa xn xc,.slice ya yn yc] 55)).alloc (Obj.cells #[.int .i64 0,.int .i64 0,.string { data:=#[] },.slice .none 0 0,.slice .none 0 0] 55)) w.heap.size (.int .i64 k) (.int .i64 n) (.string s) (.slice xa1 xn1 xc1) (.slice ya1 yn1 yc1)∧obj (((w.alloc (Obj.cells #[.int .i64 k,.int .i64 n,.string s,.slice xa1 xn1 xc1,.slice ya1 yn1 yc1] 55)).alloc (Obj.cells #[.int .i64 x.k,.int .i64 x.n,.string x.s,.slice xa xn xc,.slice ya yn yc] 55)).alloc (Obj.cells #[.int .i64 0,.int .i64 0,.string { data:=#[] },.slice .none 0 0,.slice .none 0 0] 55)) (w.heap.size + 1) (.int .i64 x.k) (.int .i64 x.n) (.string x.s) (.slice xa xn xc) (.slice ya yn yc)∧obj (((w.alloc (Obj.cells #[.int .i64 k,.int .i64 n,.string s,.slice xa1 xn1 xc1,.slice ya1 yn1 yc1] 55)).alloc (Obj.cells #[.int .i64 x.k,.int .i64 x.n,.string x.s,.slice xa xn xc,.slice ya yn yc] 55)).alloc (Obj.cells #[.int .i64 0,.int .i64 0,.string { data:=#[] },.slice .none 0 0,.slice .none 0 0] 55)) (w.heap.size + 1 + 1) (.int .i64 0) (.int .i64 0) (.string { data:=#[] }) (.slice .none 0 0) (.slice .none 0 0)):=by
      refine ⟨(((Below.refl _ _).alloc (Nat.le_refl _) _).alloc (by simp) _).alloc (by simp; omega) _,?_,?_,?_⟩
      · exact (Below.heap_alloc _ _ _ (by simp; omega)).trans ((Below.heap_alloc _ _ _ (by simp)).trans (heap_new _ _))
      · exact (Below.heap_alloc _ _ _ (by simp)).trans (by have:=heap_new (w.alloc (Obj.cells #[.int .i64 k,.int .i64 n,.string s,.slice xa1 xn1 xc1,.slice ya1 yn1 yc1] 55)) (Obj.cells #[.int .i64 x.k,.int .i64 x.n,.string x.s,.slice xa xn xc,.slice ya yn yc] 55); rw [s1] at this; exact this)
      · have:=heap_new ((w.alloc (Obj.cells #[.int .i64 k,.int .i64 n,.string s,.slice xa1 xn1 xc1,.slice ya1 yn1 yc1] 55)).alloc (Obj.cells #[.int .i64 x.k,.int .i64 x.n,.string x.s,.slice xa xn xc,.slice ya yn yc] 55)) (Obj.cells #[.int .i64 0,.int .i64 0,.string { data:=#[] },.slice .none 0 0,.slice .none 0 0] 55)
        rw [s2] at this
        exact this
    clear s1 s2
    obtain ⟨a0,a1,a2,a3,a4⟩:=HB.out.2.1.cells
    obtain ⟨e0,e1,e2,e3,e4⟩:=HB.out.2.2.1.cells
    obtain ⟨o0,o1,o2,o3,o4⟩:=HB.out.2.2.2.cells
    have p0':=HB.out.2.2.2.frozen 0
    have p1':=HB.out.2.2.2.frozen 1
    have p2':=HB.out.2.2.2.frozen 2
    have p3':=HB.out.2.2.2.frozen 3
    have p4':=HB.out.2.2.2.frozen 4
    by_cases hp:p = []
    · subst hp
      have hX:obj (((w.alloc (Obj.cells #[.int .i64 k,.int .i64 n,.string s,.slice xa1 xn1 xc1,.slice ya1 yn1 yc1] 55)).alloc (Obj.cells #[.int .i64 x.k,.int .i64 x.n,.string x.s,.slice xa xn xc,.slice ya yn yc] 55)).alloc (Obj.cells #[.int .i64 x.k,.int .i64 x.n,.string x.s,.slice xa xn xc,.slice ya yn yc] 55)) (w.heap.size + 1 + 1) (.int .i64 x.k) (.int .i64 x.n) (.string x.s) (.slice xa xn xc) (.slice ya yn yc):=by
        have:=heap_new ((w.alloc (Obj.cells #[.int .i64 k,.int .i64 n,.string s,.slice xa1 xn1 xc1,.slice ya1 yn1 yc1] 55)).alloc (Obj.cells #[.int .i64 x.k,.int .i64 x.n,.string x.s,.slice xa xn xc,.slice ya yn yc] 55)) (Obj.cells #[.int .i64 x.k,.int .i64 x.n,.string x.s,.slice xa xn xc,.slice ya yn yc] 55)
        rw [show ((w.alloc (Obj.cells #[.int .i64 k,.int .i64 n,.string s,.slice xa1 xn1 xc1,.slice ya1 yn1 yc1] 55)).alloc (Obj.cells #[.int .i64 x.k,.int .i64 x.n,.string x.s,.slice xa xn xc,.slice ya yn yc] 55)).heap.size = w.heap.size + 1 + 1 by simp] at this
        exact this
      have bX:Below w.heap.size w (((w.alloc (Obj.cells #[.int .i64 k,.int .i64 n,.string s,.slice xa1 xn1 xc1,.slice ya1 yn1 yc1] 55)).alloc (Obj.cells #[.int .i64 x.k,.int .i64 x.n,.string x.s,.slice xa xn xc,.slice ya yn yc] 55)).alloc (Obj.cells #[.int .i64 x.k,.int .i64 x.n,.string x.s,.slice xa xn xc,.slice ya yn yc] 55)):=(((Below.refl _ _).alloc (Nat.le_refl _) _).alloc (by simp) _).alloc (by simp; omega) _
      have HX:=Lib.hid (And.intro hX bX)
      clear hX bX
      go_enter Tryz.func23,Tryz.ntmps23
      go_wp2
      refine bodyPost_ret (v:=.tuple #[vv x (.slice xa xn xc) (.slice ya yn yc),.int .i64 0]) (results_cell55t Tryz.results23 _ _ (w.heap.size + 1 + 1) _ rfl HX.out.1 rfl) rfl ?_
      exact ⟨_,_,rfl,RV.move (fun _ h _=>.inl h) HX.out.2.size (fun b _ hl=>HX.out.2.block b hl) _ _ _ HR.out.2.2.1,HX.out.2⟩
    obtain ⟨q,p',rfl⟩:=List.exists_cons_of_ne_nil hp
    have hpl1:(((q :: p').length:Int) == 0) = false:=beq_eq_false_iff_ne.2 (by rw [List.length_cons]; omega)
    have hpl2:¬ (q :: p').length = 0:=by rw [List.length_cons]; omega
    by_cases h3:k = 3
    · subst h3
      have HC:=Lib.hid (HL.out.1 q p' n s ln l dn ky dv rfl rfl A _ _ _ _ (((w.alloc (Obj.cells #[.int .i64 3,.int .i64 n,.string s,.slice xa1 xn1 xc1,.slice ya1 yn1 yc1] 55)).alloc (Obj.cells #[.int .i64 x.k,.int .i64 x.n,.string x.s,.slice xa xn xc,.slice ya yn yc] 55)).alloc (Obj.cells #[.int .i64 0,.int .i64 0,.string { data:=#[] },.slice .none 0 0,.slice .none 0 0] 55)) pa pc (Nat.le_trans hA HB.out.1.size) (HR.out.1.keep (fun k hk=>HB.out.1.block k (Nat.lt_of_lt_of_le hk hA))) hpc hpl (RV.move (fun _ h _=>h) HB.out.1.size (fun b _ hl=>HB.out.1.block b hl) _ _ _ HR.out.2.1) HR.out.2.2.2 (RV.move (fun _ h _=>h) HB.out.1.size (fun b _ hl=>HB.out.1.block b hl) _ _ _ HR.out.2.2.1))
      clear HL HR
      generalize hRR:wiT x (q :: p') (.mk 3 n s ln l dn ky dv) = R at *
      clear hRR
      generalize hpn:(q :: p').length = pn at *
      clear hpn
      go_enter Tryz.func23,Tryz.ntmps23
      go_wp2_with fail
      refine HC.out.mono ?_
      rintro e w3 ⟨x3,y3,rfl,hr3,hb3⟩
      obtain ⟨⟨xa3,xn3,xc3,rfl⟩,⟨ya3,yn3,yc3,rfl⟩⟩:=hr3.slices
      have hor:=HB.out.2.2.2.keep (hb3.block _ HB.out.2.2.2.lt)
      have H3:Hid (obj w3 (w.heap.size + 1 + 1) (.int .i64 0) (.int .i64 0) (.string { data:=#[] }) (.slice .none 0 0) (.slice .none 0 0)∧RV (fun b=>b < A ∨ (((w.alloc (Obj.cells #[.int .i64 3,.int .i64 n,.string s,.slice xa1 xn1 xc1,.slice ya1 yn1 yc1] 55)).alloc (Obj.cells #[.int .i64 x.k,.int .i64 x.n,.string x.s,.slice xa xn xc,.slice ya yn yc] 55)).alloc (Obj.cells #[.int .i64 0,.int .i64 0,.string { data:=#[] },.slice .none 0 0,.slice .none 0 0] 55)).heap.size ≤ b) w3 R.1 (.slice xa3 xn3 xc3) (.slice ya3 yn3 yc3)∧Below w.heap.size w w3):=⟨hor,hr3,HB.out.1.trans (hb3.mono HB.out.1.size)⟩
      clear o0 o1 o2 o3 o4 p0' p1' p2' p3' p4' a0 a1 a2 a3 a4 e0 e1 e2 e3 e4 HC hr3 hb3
      obtain ⟨o0,o1,o2,o3,o4⟩:=hor.cells
      have p0':=hor.frozen 0
      have p1':=hor.frozen 1
      have p2':=hor.frozen 2
      have p3':=hor.frozen 3
      have p4':=hor.frozen 4
      clear hor
      unfold vv
      go_wp2
      refine bodyPost_ret (v:=.tuple #[vv R.1 (.slice xa3 xn3 xc3) (.slice ya3 yn3 yc3),.int .i64 R.2]) (results_cell55t Tryz.results23 _ _ (w.heap.size + 1 + 1) _ rfl (((((H3.out.1.set0 _).set1 _).set2 _).set3 _).set4 _) rfl) rfl ?_
      have hE:=besides5 w3 (w.heap.size + 1 + 1) (.int .i64 R.1.k) (.int .i64 R.1.n) (.string R.1.s) (.slice xa3 xn3 xc3) (.slice ya3 yn3 yc3)
      have hsz:(((w.alloc (Obj.cells #[.int .i64 3,.int .i64 n,.string s,.slice xa1 xn1 xc1,.slice ya1 yn1 yc1] 55)).alloc (Obj.cells #[.int .i64 x.k,.int .i64 x.n,.string x.s,.slice xa xn xc,.slice ya yn yc] 55)).alloc (Obj.cells #[.int .i64 0,.int .i64 0,.string { data:=#[] },.slice .none 0 0,.slice .none 0 0] 55)).heap.size = w.heap.size + 3:=by simp
      obtain ⟨_,h2,h0⟩:=H3.out
      refine ⟨_,_,rfl,RV.move (fun b hb _=>?_) hE.size (fun b hb hl=>hE.block b hl ?_) _ _ _ h2,⟨hE.os.trans h0.os,hE.tape.trans h0.tape,hE.output.trans h0.output,Nat.le_trans h0.size hE.size,fun q hq=>(hE.block q (by have:=h0.size; omega) (by omega)).trans (h0.block q hq)⟩⟩
      · rcases hb with h | h
        · exact .inl h
        · exact .inr (by omega)
      · rcases hb with h | h
        · omega
        · omega
    by_cases h4:k = 4
    · subst h4
      have HC:=Lib.hid (HL.out.2 q p' n s ln l dn ky dv rfl rfl A _ _ _ _ (((w.alloc (Obj.cells #[.int .i64 4,.int .i64 n,.string s,.slice xa1 xn1 xc1,.slice ya1 yn1 yc1] 55)).alloc (Obj.cells #[.int .i64 x.k,.int .i64 x.n,.string x.s,.slice xa xn xc,.slice ya yn yc] 55)).alloc (Obj.cells #[.int .i64 0,.int .i64 0,.string { data:=#[] },.slice .none 0 0,.slice .none 0 0] 55)) pa pc (Nat.le_trans hA HB.out.1.size) (HR.out.1.keep (fun k hk=>HB.out.1.block k (Nat.lt_of_lt_of_le hk hA))) hpc hpl (RV.move (fun _ h _=>h) HB.out.1.size (fun b _ hl=>HB.out.1.block b hl) _ _ _ HR.out.2.1) HR.out.2.2.2 (RV.move (fun _ h _=>h) HB.out.1.size (fun b _ hl=>HB.out.1.block b hl) _ _ _ HR.out.2.2.1))
      clear HL HR
      generalize hRR:wiT x (q :: p') (.mk 4 n s ln l dn ky dv) = R at *
      clear hRR
      generalize hpn:(q :: p').length = pn at *
      clear hpn
      go_enter Tryz.func23,Tryz.ntmps23
      go_wp2_with fail
      refine HC.out.mono ?_
      rintro e w3 ⟨x3,y3,rfl,hr3,hb3⟩
      obtain ⟨⟨xa3,xn3,xc3,rfl⟩,⟨ya3,yn3,yc3,rfl⟩⟩:=hr3.slices
      have hor:=HB.out.2.2.2.keep (hb3.block _ HB.out.2.2.2.lt)
      have H3:Hid (obj w3 (w.heap.size + 1 + 1) (.int .i64 0) (.int .i64 0) (.string { data:=#[] }) (.slice .none 0 0) (.slice .none 0 0)∧RV (fun b=>b < A ∨ (((w.alloc (Obj.cells #[.int .i64 4,.int .i64 n,.string s,.slice xa1 xn1 xc1,.slice ya1 yn1 yc1] 55)).alloc (Obj.cells #[.int .i64 x.k,.int .i64 x.n,.string x.s,.slice xa xn xc,.slice ya yn yc] 55)).alloc (Obj.cells #[.int .i64 0,.int .i64 0,.string { data:=#[] },.slice .none 0 0,.slice .none 0 0] 55)).heap.size ≤ b) w3 R.1 (.slice xa3 xn3 xc3) (.slice ya3 yn3 yc3)∧Below w.heap.size w w3):=⟨hor,hr3,HB.out.1.trans (hb3.mono HB.out.1.size)⟩
      clear o0 o1 o2 o3 o4 p0' p1' p2' p3' p4' a0 a1 a2 a3 a4 e0 e1 e2 e3 e4 HC hr3 hb3
      obtain ⟨o0,o1,o2,o3,o4⟩:=hor.cells
      have p0':=hor.frozen 0
      have p1':=hor.frozen 1
      have p2':=hor.frozen 2
      have p3':=hor.frozen 3
      have p4':=hor.frozen 4
      clear hor
      unfold vv
      go_wp2
      refine bodyPost_ret (v:=.tuple #[vv R.1 (.slice xa3 xn3 xc3) (.slice ya3 yn3 yc3),.int .i64 R.2]) (results_cell55t Tryz.results23 _ _ (w.heap.size + 1 + 1) _ rfl (((((H3.out.1.set0 _).set1 _).set2 _).set3 _).set4 _) rfl) rfl ?_
      have hE:=besides5 w3 (w.heap.size + 1 + 1) (.int .i64 R.1.k) (.int .i64 R.1.n) (.string R.1.s) (.slice xa3 xn3 xc3) (.slice ya3 yn3 yc3)
      have hsz:(((w.alloc (Obj.cells #[.int .i64 4,.int .i64 n,.string s,.slice xa1 xn1 xc1,.slice ya1 yn1 yc1] 55)).alloc (Obj.cells #[.int .i64 x.k,.int .i64 x.n,.string x.s,.slice xa xn xc,.slice ya yn yc] 55)).alloc (Obj.cells #[.int .i64 0,.int .i64 0,.string { data:=#[] },.slice .none 0 0,.slice .none 0 0] 55)).heap.size = w.heap.size + 3:=by simp
      obtain ⟨_,h2,h0⟩:=H3.out
      refine ⟨_,_,rfl,RV.move (fun b hb _=>?_) hE.size (fun b hb hl=>hE.block b hl ?_) _ _ _ h2,⟨hE.os.trans h0.os,hE.tape.trans h0.tape,hE.output.trans h0.output,Nat.le_trans h0.size hE.size,fun q hq=>(hE.block q (by have:=h0.size; omega) (by omega)).trans (h0.block q hq)⟩⟩
      · rcases hb with h | h
        · exact .inl h
        · exact .inr (by omega)
      · rcases hb with h | h
        · omega
        · omega
    have h3':(k == 3) = false:=beq_eq_false_iff_ne.2 h3
    have h4':(k == 4) = false:=beq_eq_false_iff_ne.2 h4
    rw [wiT_leaf h3 h4]
    clear HR HL
    generalize hpn:(q :: p').length = pn at *
    clear hpn
    go_enter Tryz.func23,Tryz.ntmps23
    go_wp2
    refine bodyPost_ret (v:=.tuple #[vv t0 (.slice none 0 0) (.slice none 0 0),.int .i64 31]) (results_cell55t Tryz.results23 _ _ (w.heap.size + 1 + 1) _ rfl HB.out.2.2.2 rfl) rfl ?_
    exact ⟨_,_,rfl,rv_t0 _ _,HB.out.1⟩
theorem awi:AWI:=by
  intro x p
  induction p with
  | nil=>exact fun t=>with23 (fun q p' n s ln l dn ky dv h _=>by cases h) (fun q p' n s ln l dn ky dv h _=>by cases h)
  | cons q p ih =>
    intro t
    refine with23 (fun q' p' n s ln l dn ky dv h h2=>?_) (fun q' p' n s ln l dn ky dv h h2=>?_)
    · cases h; subst h2; exact in_list ih
    · cases h; subst h2; exact in_dict ih
end Go.Proofs.YtdlnnnlmlaploabGreatDoor
