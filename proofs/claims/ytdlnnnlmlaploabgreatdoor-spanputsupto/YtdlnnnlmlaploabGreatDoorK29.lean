import Derived.Test.YtdlnnnlmlaploabGreatDoorK27
namespace Go.Proofs.YtdlnnnlmlaploabGreatDoor
open Go.RowKit Go.Deep
def WLv (H:Nat) (w wr:World) (k n:Int) (s:ByteArray) (x1 y1:Value) (x:T) (x2 y2:Value):Prop:=
  Below H w wr∧obj wr H (.int .i64 k) (.int .i64 n) (.string s) x1 y1∧obj wr (H + 1) (.int .i64 x.k) (.int .i64 x.n) (.string x.s) x2 y2∧obj wr (H + 1 + 1) (.int .i64 0) (.int .i64 0) (.string { data:=#[] }) (.slice .none 0 0) (.slice .none 0 0)
theorem WLv.keep {H:Nat} {w wr w':World} {k n:Int} {s:ByteArray} {x1 y1 x2 y2:Value} {x:T} (h:WLv H w wr k n s x1 y1 x x2 y2) (hH:w.heap.size = H) (hb:Below wr.heap.size wr w'):WLv H w w' k n s x1 y1 x x2 y2:=by
  obtain ⟨h1,h2,h3,h4⟩:=h
  exact ⟨h1.trans (hb.mono (hH ▸ h1.size)),h2.keep (hb.block _ h2.lt),h3.keep (hb.block _ h3.lt),h4.keep (hb.block _ h4.lt)⟩
theorem WLv.grow {H:Nat} {w W w5:World} {k n:Int} {s:ByteArray} {x1 y1 x2 y2:Value} {x:T} {row:Option Nat} (h:WLv H w W k n s x1 y1 x x2 y2) (hH:w.heap.size = H) (hg:W.grownBy w5 row) (hr:∀ q,row = some q → H + 3 ≤ q):WLv H w w5 k n s x1 y1 x x2 y2:=by
  obtain ⟨h1,h2,h3,h4⟩:=h
  have bk:∀ q,q < H + 3 → q < W.heap.size → w5.heap[q]? = W.heap[q]?:=fun q hq hl=>hg.block q hl (fun e=>by have:=hr q e.symm; omega)
  refine ⟨h1.grown hg (by have:=h1.size; omega) (fun q hq=>by have:=hr q hq; omega),h2.keep (bk _ (by omega) h2.lt),h3.keep (bk _ (by omega) h3.lt),h4.keep (bk _ (by omega) h4.lt)⟩
abbrev zeroV:Obj:=(Obj.cells #[.int .i64 0,.int .i64 0,.string { data:=#[] },.slice .none 0 0,.slice .none 0 0] 55)
def C5v (w:World) (b:Nat) (t:T) (x y:Value):Prop:=w.cell? ⟨b,0,none⟩ = some (.int .i64 t.k)∧w.cell? ⟨b,1,none⟩ = some (.int .i64 t.n)∧w.cell? ⟨b,2,none⟩ = some (.string t.s)∧w.cell? ⟨b,3,none⟩ = some x∧w.cell? ⟨b,4,none⟩ = some y
theorem wi_pack {x t:T} {p:List (Int × ByteArray)} (ih:WIC 23 x p t) {A yb xb:Nat} {X1 Y1 X2 Y2:Value} {W:World} {sa:Option Addr} {sc:Nat} (Ex:World → Prop) (hEx:∀ w',Below W.heap.size W w' → Ex w') (hA:A ≤ W.heap.size) (hP:PSA A W (.slice sa p.length sc) p) (hpc:p.length ≤ sc) (hpl:p.length ≤ 140737488351232) (hr:RV (fun b=>b < A) W t X1 Y1) (hsm:t.small) (hx:RV (fun b=>b < A) W x X2 Y2) (oy:obj W yb (.int .i64 t.k) (.int .i64 t.n) (.string t.s) X1 Y1) (ox:obj W xb (.int .i64 x.k) (.int .i64 x.n) (.string x.s) X2 Y2) :
    Calls Tryz.prog 23 #[.agg #[.int .i64 t.k,.int .i64 t.n,.string t.s,X1,Y1],.slice sa p.length sc,.agg #[.int .i64 x.k,.int .i64 x.n,.string x.s,X2,Y2]] W fun e w'=>∃ xa2 xn2 xc2 ya2 yn2 yc2,e = .returned (.tuple #[.agg #[.int .i64 (wiT x p t).1.k,.int .i64 (wiT x p t).1.n,.string (wiT x p t).1.s,.slice xa2 xn2 xc2,.slice ya2 yn2 yc2],.int .i64 (wiT x p t).2])∧C5v w' yb t X1 Y1∧C5v w' xb x X2 Y2∧C5v (w'.alloc zeroV) yb t X1 Y1∧C5v (w'.alloc zeroV) xb x X2 Y2∧Ex w'∧Hid (RV (fun b=>b < A ∨ W.heap.size ≤ b) w' (wiT x p t).1 (.slice xa2 xn2 xc2) (.slice ya2 yn2 yc2)∧Below W.heap.size W w'):=by
  refine (ih A X1 Y1 X2 Y2 W sa sc hA hP hpc hpl hr hsm hx).mono ?_
  rintro e w' ⟨x',y',rfl,h1,h2⟩
  obtain ⟨⟨xa2,xn2,xc2,rfl⟩,⟨ya2,yn2,yc2,rfl⟩⟩:=h1.slices
  have oy':=oy.keep (h2.block _ oy.lt)
  have ox':=ox.keep (h2.block _ ox.lt)
  exact ⟨xa2,xn2,xc2,ya2,yn2,yc2,rfl,oy'.cells,ox'.cells,(oy'.keep (Below.heap_alloc _ _ _ oy'.lt)).cells,(ox'.keep (Below.heap_alloc _ _ _ ox'.lt)).cells,hEx w' h2,h1,h2⟩
theorem path_rest {A:Nat} {wr:World} {pg po pc:Nat} {q:Int × ByteArray} {p:List (Int × ByteArray)} (hpg:pg < A) (h:∀ m n k,(q :: p)[m]? = some (n,k) → wr.cell? ⟨pg,po + m * 2,none⟩ = some (.int .i64 n)∧wr.cell? ⟨pg,po + m * 2 + 1,none⟩ = some (.string k)):PSA A wr (.slice (some ⟨pg,po + 2,none⟩) p.length (pc - 1)) p:=by
  refine ⟨_,_,rfl,.inr ⟨pg,po + 2,rfl,hpg,fun m n k hm=>?_⟩⟩
  obtain ⟨z1,z2⟩:=h (m + 1) n k (by simpa using hm)
  have e1:po + (m + 1) * 2 = po + 2 + m * 2:=by omega
  rw [e1] at z1 z2
  exact ⟨z1,z2⟩
theorem wl_end {A H:Nat} {w wr wE:World} {lv:Value} {L:List T} (hAH:A ≤ H) (hS:w.heap.size = H) (hc:Below H w wr) (hV:VRow (H + 3) (Sw A (H + 3) lv) wr lv L) (hE:Besides (H + 1 + 1) wr wE):RL (fun b=>b < A ∨ H ≤ b) wE L.length (fun i=>L.getD i .no) lv∧Below H w wE:=by
  have hlo:∀ q,lv.ownBlock = some q → H + 3 ≤ q:=fun q hq=>by
    obtain ⟨us,h1,_⟩:=hV
    exact (own_lt h1 hq).1
  have hV2:VRow (H + 3) (fun b=>b < A ∨ H + 3 ≤ b) wE lv L:=hV.keep hE.size (fun q hq hl=>hE.block q hl (by have:=hlo q hq; omega)) (fun b hb hl=>⟨by rcases hb with h | h; exact .inl h; exact .inr h.1,hE.block b hl (by rcases hb with h | h <;> omega)⟩)
  exact ⟨hV2.rl (fun b hb=>by rcases hb with h | h; exact .inl h; exact .inr (by omega)) (fun q hq=>.inr (by have:=hlo q hq; omega)),⟨hE.os.trans hc.os,hE.tape.trans hc.tape,hE.output.trans hc.output,Nat.le_trans hc.size hE.size,fun q hq=>(hE.block q (by have:=hc.size; omega) (by omega)).trans (hc.block q (by omega))⟩⟩
set_option maxRecDepth 10000 in
set_option maxHeartbeats 8000000 in
theorem in_list {x:T} {q:Int × ByteArray} {p:List (Int × ByteArray)} {n:Int} {s:ByteArray} {ln:Nat} {l:Nat → T} {dn:Nat} {ky:Nat → ByteArray} {dv:Nat → T} (ih:∀ t,WIC 23 x p t):WIC 39 x (q :: p) (.mk 3 n s ln l dn ky dv):=by
  intro A x1 y1 x2 y2 w pa pc hA hP hpc hpl hr hsm hrx
  obtain ⟨⟨a,ca,rfl,hL⟩,⟨a',ca',rfl,_⟩⟩:=hr
  obtain ⟨⟨xa,xn,xc,rfl⟩,⟨ya,yn,yc,rfl⟩⟩:=hrx.slices
  obtain ⟨pa',pc',eP,hP⟩:=hP
  cases eP
  rcases hP with h | ⟨pg,po,rfl,hpg,hpp⟩
  · cases h
  have p0:w.cell? ⟨pg,po,none⟩ = some (.int .i64 q.1):=by have:=(hpp 0 q.1 q.2 rfl).1; simpa using this
  have hpsz:pg < w.heap.size:=Nat.lt_of_lt_of_le hpg hA
  have hlen:(q :: p).length = p.length + 1:=rfl
  rw [hlen] at hpc hpl ⊢
  rw [wiT_listR]
  have hlnl:=hsm.1
  have hsm3:=hsm.2.2.1
  have HI:Hid ((∀ t,WIC 23 x p t)∧(∀ j,j < ln → (l j).small)∧(∀ m n k,(q :: p)[m]? = some (n,k) → w.cell? ⟨pg,po + m * 2,none⟩ = some (.int .i64 n)∧w.cell? ⟨pg,po + m * 2 + 1,none⟩ = some (.string k)) ∧
      (ln = 0 ∨ ∃ b o,a = some ⟨b,o,none⟩∧b < A∧b < w.heap.size∧∀ i,i < ln → ∃ x' y',RV (fun b=>b < A) w (l i) x' y'∧five w b (o + i * 5) (l i) x' y')∧RV (fun b=>b < A) w x (.slice xa xn xc) (.slice ya yn yc)):=⟨ih,hsm3,hpp,hL,hrx⟩
  clear ih hsm3 hsm hL hpp hlen hrx
  obtain ⟨nm,key⟩:=q
  dsimp only at p0 ⊢
  generalize hpn:p.length + 1 = pn at *
  have HPN:Hid (p.length + 1 = pn):=hpn
  have pn0:(0:Int) < (pn:Int):=by omega
  have pn1:0 < pn:=by omega
  clear hpn
  have HC0:Hid (∀ w',w' = (((w.alloc (Obj.cells #[.int .i64 3,.int .i64 n,.string s,.slice a ln ca,.slice a' dn ca'] 55)).alloc (Obj.cells #[.int .i64 x.k,.int .i64 x.n,.string x.s,.slice xa xn xc,.slice ya yn yc] 55)).alloc (Obj.cells #[.int .i64 0,.int .i64 0,.string { data:=#[] },.slice .none 0 0,.slice .none 0 0] 55)) → WLv w.heap.size w w' 3 n s (.slice a ln ca) (.slice a' dn ca') x (.slice xa xn xc) (.slice ya yn yc)):=by
    rintro w' rfl
    refine ⟨(((Below.refl _ _).alloc (Nat.le_refl _) _).alloc (by simp) _).alloc (by simp; omega) _,?_,?_,?_⟩
    · exact (Below.heap_alloc _ _ _ (by simp; omega)).trans ((Below.heap_alloc _ _ _ (by simp)).trans (heap_new _ _))
    · exact (Below.heap_alloc _ _ _ (by simp)).trans (by have:=heap_new (w.alloc (Obj.cells #[.int .i64 3,.int .i64 n,.string s,.slice a ln ca,.slice a' dn ca'] 55)) (Obj.cells #[.int .i64 x.k,.int .i64 x.n,.string x.s,.slice xa xn xc,.slice ya yn yc] 55); simpa using this)
    · have:=heap_new ((w.alloc (Obj.cells #[.int .i64 3,.int .i64 n,.string s,.slice a ln ca,.slice a' dn ca'] 55)).alloc (Obj.cells #[.int .i64 x.k,.int .i64 x.n,.string x.s,.slice xa xn xc,.slice ya yn yc] 55)) (Obj.cells #[.int .i64 0,.int .i64 0,.string { data:=#[] },.slice .none 0 0,.slice .none 0 0] 55)
      simpa [obj] using this
  have p1:(((w.alloc (Obj.cells #[.int .i64 3,.int .i64 n,.string s,.slice a ln ca,.slice a' dn ca'] 55)).alloc (Obj.cells #[.int .i64 x.k,.int .i64 x.n,.string x.s,.slice xa xn xc,.slice ya yn yc] 55)).alloc (Obj.cells #[.int .i64 0,.int .i64 0,.string { data:=#[] },.slice .none 0 0,.slice .none 0 0] 55)).cell? ⟨pg,po,none⟩ = some (.int .i64 nm):=cell_alloc_old (cell_alloc_old (cell_alloc_old p0))
  show Calls Tryz.prog 39 #[.agg #[.int .i64 3,.int .i64 n,.string s,.slice a ln ca,.slice a' dn ca'],.slice (some ⟨pg,po,none⟩) pn pc,.agg #[.int .i64 x.k,.int .i64 x.n,.string x.s,.slice xa xn xc,.slice ya yn yc]] w _
  by_cases hE:nm < 0 ∨ (ln:Int) < nm ∨ (nm = (ln:Int)∧p.isEmpty = false)
  · rw [if_pos hE]
    have HC:=Lib.hid (HC0.out _ rfl)
    have hcE:nm < 0 ∨ (¬ nm < 0∧(ln:Int) < nm) ∨ (¬ nm < 0∧¬ (ln:Int) < nm∧nm = (ln:Int)∧1 < pn):=by
      rcases hE with h | h | ⟨h,h2⟩
      · exact .inl h
      · exact .inr (.inl ⟨by omega,h⟩)
      · refine .inr (.inr ⟨by omega,by omega,h,?_⟩)
        have:=HPN.out
        cases p with
        | nil=>cases h2
        | cons _ _=>rw [List.length_cons] at this; omega
    clear hE HC0 HI
    rcases hcE with h1 | ⟨h1,h2⟩ | ⟨h1,h2,h3,h4⟩
    · go_enter Tryz.func39,Tryz.ntmps39
      go_wp2
      refine bodyPost_ret (v:=.tuple #[vv t0 (.slice none 0 0) (.slice none 0 0),.int .i64 30]) (results_cell55t Tryz.results39 _ _ (w.heap.size + 1 + 1) _ rfl HC.out.2.2.2 rfl) rfl ?_
      exact ⟨_,_,rfl,rv_t0 _ _,HC.out.1⟩
    · go_enter Tryz.func39,Tryz.ntmps39
      go_wp2
      refine bodyPost_ret (v:=.tuple #[vv t0 (.slice none 0 0) (.slice none 0 0),.int .i64 30]) (results_cell55t Tryz.results39 _ _ (w.heap.size + 1 + 1) _ rfl HC.out.2.2.2 rfl) rfl ?_
      exact ⟨_,_,rfl,rv_t0 _ _,HC.out.1⟩
    · have h5:(1:Int) < (pn:Int):=by omega
      have h6:(nm == (ln:Int)) = true:=by simpa using h3
      go_enter Tryz.func39,Tryz.ntmps39
      go_wp2
      refine bodyPost_ret (v:=.tuple #[vv t0 (.slice none 0 0) (.slice none 0 0),.int .i64 30]) (results_cell55t Tryz.results39 _ _ (w.heap.size + 1 + 1) _ rfl HC.out.2.2.2 rfl) rfl ?_
      exact ⟨_,_,rfl,rv_t0 _ _,HC.out.1⟩
  · rw [if_neg hE]
    have n1:0 ≤ nm:=by omega
    have n2:nm ≤ (ln:Int):=by omega
    have n3:nm = (ln:Int) → pn = 1:=fun e=>by
      have:=HPN.out
      cases p with
      | nil=>exact this.symm
      | cons _ _=>exact absurd (.inr (.inr ⟨e,rfl⟩)) hE
    have HN3:Hid (nm = (ln:Int) → pn = 1):=n3
    clear hE n3
    generalize hRES:wlR x nm ln (lG nm (wiT x p) l ln) = RES
    have HRES:=Lib.hid hRES
    clear hRES
    obtain ⟨i0,hi0,hz0,hz1,hz2⟩:=info_parts info25
    have HPT:Hid (w.cell? ⟨pg,po,none⟩ = some (.int .i64 nm)):=p0
    by_cases hln:nm = (ln:Int)
    · obtain rfl:=HN3.out hln
      go_enter Tryz.func39,Tryz.ntmps39
      go_wp2
      clear p1 p0
      have HC:=Lib.hid (HC0.out _ rfl)
      clear HC0
      generalize (((w.alloc (Obj.cells #[.int .i64 3,.int .i64 n,.string s,.slice a ln ca,.slice a' dn ca'] 55)).alloc (Obj.cells #[.int .i64 x.k,.int .i64 x.n,.string x.s,.slice xa xn xc,.slice ya yn yc] 55)).alloc (Obj.cells #[.int .i64 0,.int .i64 0,.string { data:=#[] },.slice .none 0 0,.slice .none 0 0] 55)) = W0 at *
      generalize hvb:w.heap.size = H at *
      have HS:Hid (w.heap.size = H):=hvb
      clear hvb
      go_loopw [10,11] (fun lv iv wr=>∃ (j:Nat) (L:List T),j ≤ ln∧iv = .int .i64 j∧L.length ≤ j∧Hid (lG nm (wiT x p) l j = .inl L∧WLv H w wr 3 n s (.slice a ln ca) (.slice a' dn ca') x (.slice xa xn xc) (.slice ya yn yc)∧VRow (H + 3) (Sw A (H + 3) lv) wr lv L)) (fun _ iv _=>ln - (intOf iv).toNat)
      case atStart=>exact ⟨0, [],Nat.zero_le _,rfl,Nat.zero_le _,rfl,HC.out,VRow.nil _ _ _⟩
      case round =>
        clear HC
        obtain ⟨j,L,hj,rfl,hLl,hinv⟩:=hrel
        have hc:=hinv.out.2.1
        obtain ⟨_,_,_,c3,_⟩:=hc.2.1.cells
        obtain ⟨us,hown,hel⟩:=hinv.out.2.2
        obtain ⟨la,lc,rfl⟩:=ownForm hown
        by_cases hlt:j < ln
        · have j0:(0:Int) ≤ (j:Int):=by omega
          have j1:(j:Int) < (ln:Int):=by omega
          obtain ⟨_,_,_,hL,_⟩:=HI.out
          rcases hL with h | ⟨b,ob,rfl,hbA,hbl,hL⟩
          · omega
          obtain ⟨x1,y1,hv,g1,g2,g3,g4,g5⟩:=hL j hlt
          have hle:w.heap.size ≤ H:=Nat.le_of_eq HS.out
          replace g1:=Below.cellS hc.1 hle g1
          replace g2:=Below.cellS hc.1 hle g2
          replace g3:=Below.cellS hc.1 hle g3
          replace g4:=Below.cellS hc.1 hle g4
          replace g5:=Below.cellS hc.1 hle g5
          obtain ⟨⟨xa1,xn1,xc1,rfl⟩,⟨ya1,yn1,yc1,rfl⟩⟩:=hv.slices
          have h3H:H + 3 ≤ wr.heap.size:=by have:=hc.2.2.2.lt; omega
          have hv':RV (fun b=>b < A) wr (l j) (.slice xa1 xn1 xc1) (.slice ya1 yn1 yc1):=RV.move (fun _ h _=>h) hc.1.size (fun b hb _=>hc.1.block b (Nat.lt_of_lt_of_le hb hA)) _ _ _ hv
          have HQ:Hid (lG nm (wiT x p) l j = .inl L∧WLv H w wr 3 n s (.slice (some ⟨b,ob,none⟩) ln ca) (.slice a' dn ca') x (.slice xa xn xc) (.slice ya yn yc)∧(∀ k,k < L.length → ∃ x y,RV (Sw A (H + 3) (.slice la L.length lc)) wr (L.getD k .no) x y∧∀ r,r < 5 → us[k * 5 + r]? = (cv (L.getD k .no) x y)[r]?)∧wr.ownsRow (H + 3) 55 5 (.slice la L.length lc) L.length us∧RV (fun b=>b < A) wr (l j) (.slice xa1 xn1 xc1) (.slice ya1 yn1 yc1)):=⟨hinv.out.1,hc,hel,hown,hv'⟩
          clear hc hel hown hv hv' hinv hL hle
          have hji:¬ (j:Int) = nm:=by omega
          have hji':((j:Int) == nm) = false:=beq_eq_false_iff_ne.2 hji
          have bO:Below wr.heap.size wr ((wr.alloc (Obj.cells #[.int .i64 (l j).k,.int .i64 (l j).n,.string (l j).s,.slice xa1 xn1 xc1,.slice ya1 yn1 yc1] 55)).alloc (Obj.cells #[.int .i64 (l j).k,.int .i64 (l j).n,.string (l j).s,.slice xa1 xn1 xc1,.slice ya1 yn1 yc1] 55)):=((Below.refl _ _).alloc (Nat.le_refl _) _).alloc (by simp) _
          have oO:obj ((wr.alloc (Obj.cells #[.int .i64 (l j).k,.int .i64 (l j).n,.string (l j).s,.slice xa1 xn1 xc1,.slice ya1 yn1 yc1] 55)).alloc (Obj.cells #[.int .i64 (l j).k,.int .i64 (l j).n,.string (l j).s,.slice xa1 xn1 xc1,.slice ya1 yn1 yc1] 55)) (wr.heap.size + 1) (.int .i64 (l j).k) (.int .i64 (l j).n) (.string (l j).s) (.slice xa1 xn1 xc1) (.slice ya1 yn1 yc1):=by have:=heap_new (wr.alloc (Obj.cells #[.int .i64 (l j).k,.int .i64 (l j).n,.string (l j).s,.slice xa1 xn1 xc1,.slice ya1 yn1 yc1] 55)) (Obj.cells #[.int .i64 (l j).k,.int .i64 (l j).n,.string (l j).s,.slice xa1 xn1 xc1,.slice ya1 yn1 yc1] 55); simpa [obj] using this
          have HA:Hid (((wr.alloc (Obj.cells #[.int .i64 (l j).k,.int .i64 (l j).n,.string (l j).s,.slice xa1 xn1 xc1,.slice ya1 yn1 yc1] 55)).alloc (Obj.cells #[.int .i64 (l j).k,.int .i64 (l j).n,.string (l j).s,.slice xa1 xn1 xc1,.slice ya1 yn1 yc1] 55)).ownsRow (H + 3) 55 5 (.slice la L.length lc) L.length us∧obj ((wr.alloc (Obj.cells #[.int .i64 (l j).k,.int .i64 (l j).n,.string (l j).s,.slice xa1 xn1 xc1,.slice ya1 yn1 yc1] 55)).alloc (Obj.cells #[.int .i64 (l j).k,.int .i64 (l j).n,.string (l j).s,.slice xa1 xn1 xc1,.slice ya1 yn1 yc1] 55)) (wr.heap.size + 1) (.int .i64 (l j).k) (.int .i64 (l j).n) (.string (l j).s) (.slice xa1 xn1 xc1) (.slice ya1 yn1 yc1)∧Below wr.heap.size wr ((wr.alloc (Obj.cells #[.int .i64 (l j).k,.int .i64 (l j).n,.string (l j).s,.slice xa1 xn1 xc1,.slice ya1 yn1 yc1] 55)).alloc (Obj.cells #[.int .i64 (l j).k,.int .i64 (l j).n,.string (l j).s,.slice xa1 xn1 xc1,.slice ya1 yn1 yc1] 55))):=⟨own_keep HQ.out.2.2.2.1 (fun x _ hx=>bO.block x hx),oO,bO⟩
          clear bO oO
          go_wp2_with (at_builtin; refine append_val rfl _ _ rfl rfl HA.out.1 (wr.heap.size + 1) rfl HA.out.2.1 rfl rfl (by simp; omega) (by omega) ?_)
          intro v' w5 ho5 hg5 ha5
          obtain ⟨a5,c5,rfl⟩:=ownForm ho5
          have HN:Hid (lG nm (wiT x p) l (j + 1) = .inl (L ++ [l j])∧WLv H w w5 3 n s (.slice (some ⟨b,ob,none⟩) ln ca) (.slice a' dn ca') x (.slice xa xn xc) (.slice ya yn yc)∧VRow (H + 3) (Sw A (H + 3) (.slice a5 (L.length + 1) c5)) w5 (.slice a5 (L.length + 1) c5) (L ++ [l j])):=by
            obtain ⟨q1,q2,q3,q4,q5⟩:=HQ.out
            refine ⟨?_,(q2.keep HS.out HA.out.2.2).grow HS.out hg5 (fun q hq=>(own_lt q4 hq).1),vrow_add (by omega) q3 q4.1 HA.out.2.2 (RV.move (fun b hb _=>.inl hb) HA.out.2.2.size (fun b _ hl=>HA.out.2.2.block b hl) _ _ _ q5) (fun q hq=>own_lt q4 hq) hg5 (by simpa using ha5) ho5⟩
            unfold lG
            rw [q1]
            dsimp only
            rw [if_neg hji]
          clear HQ HA ho5 hg5 ha5 c3 g1 g2 g3 g4 g5
          go_wp2
          go_roundw
          case rel=>exact ⟨j + 1,L ++ [l j],by omega,by go_num,by simp; omega,HN⟩
          case measure=>simp [intOf]; omega
        · obtain rfl:j = ln:=by omega
          have h3H:H + 3 ≤ wr.heap.size:=by have:=hc.2.2.2.lt; omega
          have ox:=hc.2.2.1
          obtain ⟨e0,e1,e2,e3,e4⟩:=ox.cells
          have hb1:=hc.1
          have hHw:=HS.out
          have hrx1:RV (fun b=>b < A) wr x (.slice xa xn xc) (.slice ya yn yc):=RV.move (fun _ h _=>h) hb1.size (fun b hb _=>hb1.block b (by omega)) _ _ _ HI.out.2.2.2.2
          have bO:Below wr.heap.size wr (wr.alloc (Obj.cells #[.int .i64 x.k,.int .i64 x.n,.string x.s,.slice xa xn xc,.slice ya yn yc] 55)):=(Below.refl _ _).alloc (Nat.le_refl _) _
          have HQ:Hid (lG nm (wiT x p) l j = .inl L∧WLv H w wr 3 n s (.slice a j ca) (.slice a' dn ca') x (.slice xa xn xc) (.slice ya yn yc)∧(∀ k,k < L.length → ∃ x y,RV (Sw A (H + 3) (.slice la L.length lc)) wr (L.getD k .no) x y∧∀ r,r < 5 → us[k * 5 + r]? = (cv (L.getD k .no) x y)[r]?)∧wr.ownsRow (H + 3) 55 5 (.slice la L.length lc) L.length us):=⟨hinv.out.1,hc,hel,hown⟩
          have HA:Hid ((wr.alloc (Obj.cells #[.int .i64 x.k,.int .i64 x.n,.string x.s,.slice xa xn xc,.slice ya yn yc] 55)).ownsRow (H + 3) 55 5 (.slice la L.length lc) L.length us∧obj (wr.alloc (Obj.cells #[.int .i64 x.k,.int .i64 x.n,.string x.s,.slice xa xn xc,.slice ya yn yc] 55)) wr.heap.size (.int .i64 x.k) (.int .i64 x.n) (.string x.s) (.slice xa xn xc) (.slice ya yn yc)∧Below wr.heap.size wr (wr.alloc (Obj.cells #[.int .i64 x.k,.int .i64 x.n,.string x.s,.slice xa xn xc,.slice ya yn yc] 55))∧RV (fun b=>b < A ∨ (H + 3 ≤ b∧(Value.slice la L.length lc).ownBlock ≠ some b)) (wr.alloc (Obj.cells #[.int .i64 x.k,.int .i64 x.n,.string x.s,.slice xa xn xc,.slice ya yn yc] 55)) x (.slice xa xn xc) (.slice ya yn yc)):=⟨own_keep hown (fun x _ hx=>bO.block x hx),heap_new _ _,bO,RV.move (fun b hb _=>.inl hb) bO.size (fun b _ hl=>bO.block b hl) _ _ _ hrx1⟩
          have hnl:(nm == (j:Int)) = true:=by simpa using hln
          have HLN:=Lib.hid hln
          clear hc hinv hown hel c3 ox hrx1 bO hb1 hln
          go_wp2_with (at_builtin; refine append_val rfl _ _ rfl rfl HA.out.1 wr.heap.size rfl HA.out.2.1 rfl rfl (by simp; omega) (by omega) ?_)
          intro v' w5 ho5 hg5 ha5
          obtain ⟨a5,c5,rfl⟩:=ownForm ho5
          have HN:Hid (WLv H w w5 3 n s (.slice a j ca) (.slice a' dn ca') x (.slice xa xn xc) (.slice ya yn yc)∧VRow (H + 3) (Sw A (H + 3) (.slice a5 (L.length + 1) c5)) w5 (.slice a5 (L.length + 1) c5) (L ++ [x])):=by
            obtain ⟨q1,q2,q3,q4⟩:=HQ.out
            exact ⟨(q2.keep HS.out HA.out.2.2.1).grow HS.out hg5 (fun q hq=>(own_lt q4 hq).1),vrow_add (by omega) q3 q4.1 HA.out.2.2.1 HA.out.2.2.2 (fun q hq=>own_lt q4 hq) hg5 (by simpa using ha5) ho5⟩
          have HG:Hid (lG nm (wiT x p) l j = .inl L):=HQ.out.1
          have hor:=HN.out.1.2.2.2
          have HOR:Hid (obj w5 (H + 1 + 1) (.int .i64 0) (.int .i64 0) (.string { data:=#[] }) (.slice .none 0 0) (.slice .none 0 0)):=hor
          obtain ⟨o0,o1,o2,o3,o4⟩:=hor.cells
          have p0':=hor.frozen 0
          have p1':=hor.frozen 1
          have p2':=hor.frozen 2
          have p3':=hor.frozen 3
          have p4':=hor.frozen 4
          have HVF:Hid (∀ wE,Besides (H + 1 + 1) w5 wE → RL (fun b=>b < A ∨ H ≤ b) wE (L ++ [x]).length (fun i=>(L ++ [x]).getD i .no) (.slice a5 (L.length + 1) c5)∧Below H w wE):=fun wE hE=>by
            have:=wl_end (by omega) HS.out HN.out.1.1 HN.out.2 hE
            exact this
          clear HQ HA HN ho5 hg5 ha5 hor e0 e1 e2 e3 e4
          go_wp2
          refine bodyPost_ret (v:=.tuple #[vv (tList (L ++ [x])) (.slice a5 (L.length + 1) c5) (.slice none 0 0),.int .i64 0]) (results_cell55t Tryz.results39 _ _ (H + 1 + 1) _ rfl (((((HOR.out.set0 _).set1 _).set2 _).set3 _).set4 _) rfl) rfl ?_
          have hre:RES = (tList (L ++ [x]),0):=by
            rw [← HRES.out,HG.out]
            show (tList (if nm = (j:Int) then _ else _),(0:Int)) = _
            rw [if_pos HLN.out]
          rw [hre]
          refine ⟨(.slice a5 (L.length + 1) c5),.slice none 0 0,rfl,?_,?_⟩
          · rw [HS.out]
            exact ⟨(HVF.out _ (besides5 _ _ _ _ _ _ _)).1,⟨none,0,rfl,.inl rfl⟩⟩
          · rw [HS.out]
            exact (HVF.out _ (besides5 _ _ _ _ _ _ _)).2
    · go_enter Tryz.func39,Tryz.ntmps39
      go_wp2
      clear p1 p0
      have HC:=Lib.hid (HC0.out _ rfl)
      clear HC0
      generalize (((w.alloc (Obj.cells #[.int .i64 3,.int .i64 n,.string s,.slice a ln ca,.slice a' dn ca'] 55)).alloc (Obj.cells #[.int .i64 x.k,.int .i64 x.n,.string x.s,.slice xa xn xc,.slice ya yn yc] 55)).alloc (Obj.cells #[.int .i64 0,.int .i64 0,.string { data:=#[] },.slice .none 0 0,.slice .none 0 0] 55)) = W0 at *
      generalize hvb:w.heap.size = H at *
      have HS:Hid (w.heap.size = H):=hvb
      clear hvb
      go_loopw [10,11] (fun lv iv wr=>∃ (j:Nat) (L:List T),j ≤ ln∧iv = .int .i64 j∧L.length ≤ j∧Hid (lG nm (wiT x p) l j = .inl L∧WLv H w wr 3 n s (.slice a ln ca) (.slice a' dn ca') x (.slice xa xn xc) (.slice ya yn yc)∧VRow (H + 3) (Sw A (H + 3) lv) wr lv L)) (fun _ iv _=>ln - (intOf iv).toNat)
      case atStart=>exact ⟨0, [],Nat.zero_le _,rfl,Nat.zero_le _,rfl,HC.out,VRow.nil _ _ _⟩
      case round =>
        clear HC
        obtain ⟨j,L,hj,rfl,hLl,hinv⟩:=hrel
        have hc:=hinv.out.2.1
        obtain ⟨_,_,_,c3,_⟩:=hc.2.1.cells
        obtain ⟨us,hown,hel⟩:=hinv.out.2.2
        obtain ⟨la,lc,rfl⟩:=ownForm hown
        by_cases hlt:j < ln
        · have j0:(0:Int) ≤ (j:Int):=by omega
          have j1:(j:Int) < (ln:Int):=by omega
          obtain ⟨_,_,_,hL,_⟩:=HI.out
          rcases hL with h | ⟨b,ob,rfl,hbA,hbl,hL⟩
          · omega
          obtain ⟨x1,y1,hv,g1,g2,g3,g4,g5⟩:=hL j hlt
          have hle:w.heap.size ≤ H:=Nat.le_of_eq HS.out
          replace g1:=Below.cellS hc.1 hle g1
          replace g2:=Below.cellS hc.1 hle g2
          replace g3:=Below.cellS hc.1 hle g3
          replace g4:=Below.cellS hc.1 hle g4
          replace g5:=Below.cellS hc.1 hle g5
          obtain ⟨⟨xa1,xn1,xc1,rfl⟩,⟨ya1,yn1,yc1,rfl⟩⟩:=hv.slices
          have h3H:H + 3 ≤ wr.heap.size:=by have:=hc.2.2.2.lt; omega
          have hv':RV (fun b=>b < A) wr (l j) (.slice xa1 xn1 xc1) (.slice ya1 yn1 yc1):=RV.move (fun _ h _=>h) hc.1.size (fun b hb _=>hc.1.block b (Nat.lt_of_lt_of_le hb hA)) _ _ _ hv
          have HQ:Hid (lG nm (wiT x p) l j = .inl L∧WLv H w wr 3 n s (.slice (some ⟨b,ob,none⟩) ln ca) (.slice a' dn ca') x (.slice xa xn xc) (.slice ya yn yc)∧(∀ k,k < L.length → ∃ x y,RV (Sw A (H + 3) (.slice la L.length lc)) wr (L.getD k .no) x y∧∀ r,r < 5 → us[k * 5 + r]? = (cv (L.getD k .no) x y)[r]?)∧wr.ownsRow (H + 3) 55 5 (.slice la L.length lc) L.length us∧RV (fun b=>b < A) wr (l j) (.slice xa1 xn1 xc1) (.slice ya1 yn1 yc1)):=⟨hinv.out.1,hc,hel,hown,hv'⟩
          clear hc hel hown hv hv' hinv hL hle
          by_cases hji:(j:Int) = nm
          · have hji':((j:Int) == nm) = true:=by simpa using hji
            have HJI:=Lib.hid hji
            clear hji
            have bW:Below wr.heap.size wr (wr.alloc (Obj.cells #[.int .i64 (l j).k,.int .i64 (l j).n,.string (l j).s,.slice xa1 xn1 xc1,.slice ya1 yn1 yc1] 55)).drew:=((Below.refl _ _).alloc (Nat.le_refl _) _).drew
            have bZ:Below wr.heap.size wr ((wr.alloc (Obj.cells #[.int .i64 (l j).k,.int .i64 (l j).n,.string (l j).s,.slice xa1 xn1 xc1,.slice ya1 yn1 yc1] 55)).alloc zeroV).drew:=(((Below.refl _ _).alloc (Nat.le_refl _) _).alloc (by simp) _).drew
            have hHw:=HS.out
            have hplen:p.length ≤ 140737488351232:=by have:=HPN.out; omega
            have hAr:A ≤ wr.heap.size:=by omega
            have hpr:∀ m n k,((nm,key) :: p)[m]? = some (n,k) → wr.cell? ⟨pg,po + m * 2,none⟩ = some (.int .i64 n)∧wr.cell? ⟨pg,po + m * 2 + 1,none⟩ = some (.string k):=fun m n k hm=>by
              obtain ⟨z1,z2⟩:=HI.out.2.2.1 m n k hm
              have hbk:=HQ.out.2.1.1.block pg (by omega)
              exact ⟨(World.cell?_of_block (w:=w) hbk).trans z1,(World.cell?_of_block (w:=w) hbk).trans z2⟩
            have oyA:obj (wr.alloc (Obj.cells #[.int .i64 (l j).k,.int .i64 (l j).n,.string (l j).s,.slice xa1 xn1 xc1,.slice ya1 yn1 yc1] 55)).drew wr.heap.size (.int .i64 (l j).k) (.int .i64 (l j).n) (.string (l j).s) (.slice xa1 xn1 xc1) (.slice ya1 yn1 yc1):=heap_new _ _
            have oyB:obj ((wr.alloc (Obj.cells #[.int .i64 (l j).k,.int .i64 (l j).n,.string (l j).s,.slice xa1 xn1 xc1,.slice ya1 yn1 yc1] 55)).alloc zeroV).drew wr.heap.size (.int .i64 (l j).k) (.int .i64 (l j).n) (.string (l j).s) (.slice xa1 xn1 xc1) (.slice ya1 yn1 yc1):=(Below.heap_alloc _ _ _ (by simp)).trans (heap_new _ _)
            have ozB:obj ((wr.alloc (Obj.cells #[.int .i64 (l j).k,.int .i64 (l j).n,.string (l j).s,.slice xa1 xn1 xc1,.slice ya1 yn1 yc1] 55)).alloc zeroV).drew (wr.heap.size + 1) (.int .i64 0) (.int .i64 0) (.string { data:=#[] }) (.slice .none 0 0) (.slice .none 0 0):=by have h:=heap_new (wr.alloc (Obj.cells #[.int .i64 (l j).k,.int .i64 (l j).n,.string (l j).s,.slice xa1 xn1 xc1,.slice ya1 yn1 yc1] 55)) zeroV; rw [show (wr.alloc (Obj.cells #[.int .i64 (l j).k,.int .i64 (l j).n,.string (l j).s,.slice xa1 xn1 xc1,.slice ya1 yn1 yc1] 55)).heap.size = wr.heap.size + 1 by simp] at h; exact h
            have ox0:=HQ.out.2.1.2.2.1
            have oxA:=ox0.keep (bW.block _ ox0.lt)
            have oxB:=ox0.keep (bZ.block _ ox0.lt)
            have hrl:=HQ.out.2.2.2.2
            have hrx:=HI.out.2.2.2.2
            have hb1:=HQ.out.2.1.1
            have hrlA:RV (fun b=>b < A) (wr.alloc (Obj.cells #[.int .i64 (l j).k,.int .i64 (l j).n,.string (l j).s,.slice xa1 xn1 xc1,.slice ya1 yn1 yc1] 55)).drew (l j) (.slice xa1 xn1 xc1) (.slice ya1 yn1 yc1):=RV.move (fun _ h _=>h) bW.size (fun b _ hl=>bW.block b hl) _ _ _ hrl
            have hrlB:RV (fun b=>b < A) ((wr.alloc (Obj.cells #[.int .i64 (l j).k,.int .i64 (l j).n,.string (l j).s,.slice xa1 xn1 xc1,.slice ya1 yn1 yc1] 55)).alloc zeroV).drew (l j) (.slice xa1 xn1 xc1) (.slice ya1 yn1 yc1):=RV.move (fun _ h _=>h) bZ.size (fun b _ hl=>bZ.block b hl) _ _ _ hrl
            have hrx1:RV (fun b=>b < A) wr x (.slice xa xn xc) (.slice ya yn yc):=RV.move (fun _ h _=>h) hb1.size (fun b hb _=>hb1.block b (by omega)) _ _ _ hrx
            have hrxA:RV (fun b=>b < A) (wr.alloc (Obj.cells #[.int .i64 (l j).k,.int .i64 (l j).n,.string (l j).s,.slice xa1 xn1 xc1,.slice ya1 yn1 yc1] 55)).drew x (.slice xa xn xc) (.slice ya yn yc):=RV.move (fun _ h _=>h) bW.size (fun b _ hl=>bW.block b hl) _ _ _ hrx1
            have hrxB:RV (fun b=>b < A) ((wr.alloc (Obj.cells #[.int .i64 (l j).k,.int .i64 (l j).n,.string (l j).s,.slice xa1 xn1 xc1,.slice ya1 yn1 yc1] 55)).alloc zeroV).drew x (.slice xa xn xc) (.slice ya yn yc):=RV.move (fun _ h _=>h) bZ.size (fun b _ hl=>bZ.block b hl) _ _ _ hrx1
            have HEX:Hid (∀ w',Below ((wr.alloc (Obj.cells #[.int .i64 (l j).k,.int .i64 (l j).n,.string (l j).s,.slice xa1 xn1 xc1,.slice ya1 yn1 yc1] 55)).alloc zeroV).drew.heap.size ((wr.alloc (Obj.cells #[.int .i64 (l j).k,.int .i64 (l j).n,.string (l j).s,.slice xa1 xn1 xc1,.slice ya1 yn1 yc1] 55)).alloc zeroV).drew w' → ((w'.cell? ⟨wr.heap.size + 1,0,none⟩ = some (.int .i64 0)∧w'.cell? ⟨wr.heap.size + 1,1,none⟩ = some (.int .i64 0)∧w'.cell? ⟨wr.heap.size + 1,2,none⟩ = some (.string { data:=#[] })∧w'.cell? ⟨wr.heap.size + 1,3,none⟩ = some (.slice .none 0 0)∧w'.cell? ⟨wr.heap.size + 1,4,none⟩ = some (.slice .none 0 0))∧w'.frozen? ⟨wr.heap.size + 1,0,none⟩ = false∧w'.frozen? ⟨wr.heap.size + 1,1,none⟩ = false∧w'.frozen? ⟨wr.heap.size + 1,2,none⟩ = false∧w'.frozen? ⟨wr.heap.size + 1,3,none⟩ = false∧w'.frozen? ⟨wr.heap.size + 1,4,none⟩ = false)):=fun w' hw=>by
              have o:=ozB.keep (hw.block _ ozB.lt)
              obtain ⟨a0,a1,a2,a3,a4⟩:=o.cells
              exact ⟨⟨a0,a1,a2,a3,a4⟩,o.frozen 0,o.frozen 1,o.frozen 2,o.frozen 3,o.frozen 4⟩
            have HPA:=Lib.hid (fun sa sc (hP:PSA A wr (.slice sa p.length sc) p) (hc:p.length ≤ sc)=>And.intro
              (wi_pack (HI.out.1 (l j)) (yb:=wr.heap.size) (xb:=H + 1) (W:=(wr.alloc (Obj.cells #[.int .i64 (l j).k,.int .i64 (l j).n,.string (l j).s,.slice xa1 xn1 xc1,.slice ya1 yn1 yc1] 55)).drew) (sa:=sa) (sc:=sc) (fun _=>True) (fun _ _=>trivial) (Nat.le_trans hAr bW.size) (hP.keep (fun k hk=>bW.block k (by omega))) hc hplen hrlA (HI.out.2.1 j hlt) hrxA oyA oxA)
              (wi_pack (HI.out.1 (l j)) (yb:=wr.heap.size) (xb:=H + 1) (W:=((wr.alloc (Obj.cells #[.int .i64 (l j).k,.int .i64 (l j).n,.string (l j).s,.slice xa1 xn1 xc1,.slice ya1 yn1 yc1] 55)).alloc zeroV).drew) (sa:=sa) (sc:=sc) (fun w'=>((w'.cell? ⟨wr.heap.size + 1,0,none⟩ = some (.int .i64 0)∧w'.cell? ⟨wr.heap.size + 1,1,none⟩ = some (.int .i64 0)∧w'.cell? ⟨wr.heap.size + 1,2,none⟩ = some (.string { data:=#[] })∧w'.cell? ⟨wr.heap.size + 1,3,none⟩ = some (.slice .none 0 0)∧w'.cell? ⟨wr.heap.size + 1,4,none⟩ = some (.slice .none 0 0))∧w'.frozen? ⟨wr.heap.size + 1,0,none⟩ = false∧w'.frozen? ⟨wr.heap.size + 1,1,none⟩ = false∧w'.frozen? ⟨wr.heap.size + 1,2,none⟩ = false∧w'.frozen? ⟨wr.heap.size + 1,3,none⟩ = false∧w'.frozen? ⟨wr.heap.size + 1,4,none⟩ = false)) HEX.out (Nat.le_trans hAr bZ.size) (hP.keep (fun k hk=>bZ.block k (by omega))) hc hplen hrlB (HI.out.2.1 j hlt) hrxB oyB oxB))
            obtain ⟨y0,y1,y2,y3,y4⟩:=oyA.cells
            obtain ⟨e0,e1,e2,e3,e4⟩:=oxA.cells
            obtain ⟨y5,y6,y7,y8,y9⟩:=oyB.cells
            obtain ⟨e5,e6,e7,e8,e9⟩:=oxB.cells
            have HOY:=Lib.hid (And.intro oyA (And.intro oyB (And.intro ozB (And.intro bW bZ))))
            clear oyA oyB ozB oxA oxB ox0 hrl hrx hb1 hrlA hrlB hrx1 hrxA hrxB HEX bW bZ
            generalize hR:wiT x p (l j) = R at *
            have HRR:=Lib.hid hR
            clear hR
            by_cases hpc1:pc = 1
            · subst hpc1
              obtain rfl:pn = 1:=by omega
              have hp0:p.length = 0:=by have:=HPN.out; omega
              obtain ⟨HCA',HCB'⟩:=HPA.out (some ⟨pg,po,none⟩) 0 ⟨_,_,rfl,.inl (List.length_eq_zero_iff.1 hp0)⟩ (by omega)
              have HCA:=Lib.hid HCA'
              have HCB:=Lib.hid HCB'
              clear HCA' HCB' HPA hpr
              rw [hp0] at HCA HCB
              go_wp2_with fail
              refine wp_region_held_drew (S:=fun w'=>w'.cell? ⟨wr.heap.size,0,none⟩ = some (.int .i64 (l j).k)∧w'.cell? ⟨wr.heap.size,1,none⟩ = some (.int .i64 (l j).n)∧w'.cell? ⟨wr.heap.size,2,none⟩ = some (.string (l j).s)∧w'.cell? ⟨wr.heap.size,3,none⟩ = some (.slice xa1 xn1 xc1)∧w'.cell? ⟨wr.heap.size,4,none⟩ = some (.slice ya1 yn1 yc1)∧w'.cell? ⟨H + 1,0,none⟩ = some (.int .i64 x.k)∧w'.cell? ⟨H + 1,1,none⟩ = some (.int .i64 x.n)∧w'.cell? ⟨H + 1,2,none⟩ = some (.string x.s)∧w'.cell? ⟨H + 1,3,none⟩ = some (.slice xa xn xc)∧w'.cell? ⟨H + 1,4,none⟩ = some (.slice ya yn yc)) (by kernel_rfl) (⟨y0,y1,y2,y3,y4,e0,e1,e2,e3,e4⟩) (fun hHeld=>?_)
              refine wpAnyH_take (i:=0) (v:=.agg #[.int .i64 (l j).k,.int .i64 (l j).n,.string (l j).s,.slice xa1 xn1 xc1,.slice ya1 yn1 yc1]) rfl (by kernel_rfl) (by kernel_rfl) (by kernel_rfl) (fun _ _ _ h=>h) (Or.inl ⟨by rfl,fun w hw=>by obtain ⟨c0,c1,c2,c3,c4,_⟩:=hw; go_simp⟩) hHeld ?_
              simp only [Act.put,List.getElem_toArray,List.getElem_cons_zero,List.setIfInBounds_toArray,List.set_cons_zero,List.set_cons_succ]
              refine wpAnyH_take (i:=1) (v:=.slice (some ⟨pg,po,none⟩) 1 1) rfl (by kernel_rfl) (by kernel_rfl) (by kernel_rfl) (fun _ _ _ h=>h) (Or.inl ⟨by rfl,fun w hw=>by go_simp⟩) hHeld ?_
              simp only [Act.put,List.getElem_toArray,List.getElem_cons_zero,List.getElem_cons_succ,List.setIfInBounds_toArray,List.set_cons_zero,List.set_cons_succ]
              refine wpAnyH_take (i:=2) (v:=.slice (some ⟨pg,po,none⟩) 0 0) rfl (by kernel_rfl) (by kernel_rfl) (by kernel_rfl) (fun _ _ _ h=>h) (Or.inl ⟨by rfl,fun w hw=>by go_simp⟩) hHeld ?_
              simp only [Act.put,List.getElem_toArray,List.getElem_cons_zero,List.getElem_cons_succ,List.setIfInBounds_toArray,List.set_cons_zero,List.set_cons_succ]
              refine wpAnyH_take (i:=3) (v:=.agg #[.int .i64 x.k,.int .i64 x.n,.string x.s,.slice xa xn xc,.slice ya yn yc]) rfl (by kernel_rfl) (by kernel_rfl) (by kernel_rfl) (fun _ _ _ h=>h) (Or.inl ⟨by rfl,fun w hw=>by obtain ⟨_,_,_,_,_,c0,c1,c2,c3,c4⟩:=hw; go_simp⟩) hHeld ?_
              simp only [Act.put,List.getElem_toArray,List.getElem_cons_zero,List.getElem_cons_succ,List.setIfInBounds_toArray,List.set_cons_zero,List.set_cons_succ]
              refine wpAnyH_ready (rs:=[4,8]) (by kernel_rfl) (by simp) ?_
              refine AllReadyH.cons (o:=_) rfl (fun K hK=>?_) (AllReadyH.cons (o:=_) rfl (fun K hK=>?_) AllReadyH.nil)
              · go_simp
                refine (HCA.out).mono ?_
                rintro e wq ⟨xa2,xn2,xc2,ya2,yn2,yc2,rfl,⟨r0,r1,r2,r3,r4⟩,⟨s0,s1,s2,s3,s4⟩,⟨z0,z1,z2,z3,z4⟩,⟨t0,t1,t2,t3,t4⟩,_,HXA⟩
                refine hK.out _ _ (⟨r0,r1,r2,r3,r4,s0,s1,s2,s3,s4⟩) (fun hHeld=>?_)
                clear hK K
                refine wpAnyH_take (i:=5) (v:=.tuple #[.agg #[.int .i64 R.1.k,.int .i64 R.1.n,.string R.1.s,.slice xa2 xn2 xc2,.slice ya2 yn2 yc2],.int .i64 R.2]) rfl (by kernel_rfl) (by kernel_rfl) (by kernel_rfl) (fun _ _ _ h=>h) (Or.inl ⟨by rfl,fun w hw=>by go_simp⟩) hHeld ?_
                simp only [Act.put,List.getElem_toArray,List.getElem_cons_zero,List.getElem_cons_succ,List.setIfInBounds_toArray,List.set_cons_zero,List.set_cons_succ]
                refine wpAnyH_take (i:=6) (v:=.agg #[.int .i64 R.1.k,.int .i64 R.1.n,.string R.1.s,.slice xa2 xn2 xc2,.slice ya2 yn2 yc2]) rfl (by kernel_rfl) (by kernel_rfl) (by kernel_rfl) (fun _ _ _ h=>h) (Or.inl ⟨by rfl,fun w hw=>by go_simp⟩) hHeld ?_
                simp only [Act.put,List.getElem_toArray,List.getElem_cons_zero,List.getElem_cons_succ,List.setIfInBounds_toArray,List.set_cons_zero,List.set_cons_succ]
                refine wpAnyH_take (i:=7) (v:=.int .i64 R.2) rfl (by kernel_rfl) (by kernel_rfl) (by kernel_rfl) (fun _ _ _ h=>h) (Or.inl ⟨by rfl,fun w hw=>by go_simp⟩) hHeld ?_
                simp only [Act.put,List.getElem_toArray,List.getElem_cons_zero,List.getElem_cons_succ,List.setIfInBounds_toArray,List.set_cons_zero,List.set_cons_succ]
                refine wpAnyH_ready (rs:=[8]) (by kernel_rfl) (by simp) ?_
                refine AllReadyH.cons (o:=_) rfl (fun K hK=>?_) AllReadyH.nil
                go_simp
                refine hK.out _ _ (⟨z0,z1,z2,z3,z4,t0,t1,t2,t3,t4⟩) (fun hHeld=>?_)
                clear hK K
                refine wpAnyH_ready (rs:=[9]) (by kernel_rfl) (by simp) ?_
                refine AllReadyH.cons (o:=_) rfl (fun K hK=>?_) AllReadyH.nil
                go_simp
                refine hK.out _ _ (⟨cell_alloc_old r0,cell_alloc_old r1,cell_alloc_old r2,cell_alloc_old r3,cell_alloc_old r4,cell_alloc_old s0,cell_alloc_old s1,cell_alloc_old s2,cell_alloc_old s3,cell_alloc_old s4⟩) (fun hHeld=>?_)
                clear hK K
                refine wpAnyH_take (i:=10) (v:=.int .i64 R.2) rfl (by kernel_rfl) (by kernel_rfl) (by kernel_rfl) (fun _ _ _ h=>h) (Or.inl ⟨by rfl,fun w hw=>by go_simp⟩) hHeld ?_
                simp only [Act.put,List.getElem_toArray,List.getElem_cons_zero,List.getElem_cons_succ,List.setIfInBounds_toArray,List.set_cons_zero,List.set_cons_succ]
                refine wpAnyH_done (by kernel_rfl) ?_ _
                have HAF:Hid (obj (wq.alloc (Obj.cells #[.int .i64 R.1.k,.int .i64 R.1.n,.string R.1.s,.slice xa2 xn2 xc2,.slice ya2 yn2 yc2] 55)) wq.heap.size (.int .i64 R.1.k) (.int .i64 R.1.n) (.string R.1.s) (.slice xa2 xn2 xc2) (.slice ya2 yn2 yc2)∧obj (wq.alloc (Obj.cells #[.int .i64 R.1.k,.int .i64 R.1.n,.string R.1.s,.slice xa2 xn2 xc2,.slice ya2 yn2 yc2] 55)) wr.heap.size (.int .i64 (l j).k) (.int .i64 (l j).n) (.string (l j).s) (.slice xa1 xn1 xc1) (.slice ya1 yn1 yc1)∧Below wr.heap.size wr (wq.alloc (Obj.cells #[.int .i64 R.1.k,.int .i64 R.1.n,.string R.1.s,.slice xa2 xn2 xc2,.slice ya2 yn2 yc2] 55))∧RV (fun b=>b < A ∨ wr.heap.size < b) (wq.alloc (Obj.cells #[.int .i64 R.1.k,.int .i64 R.1.n,.string R.1.s,.slice xa2 xn2 xc2,.slice ya2 yn2 yc2] 55)) R.1 (.slice xa2 xn2 xc2) (.slice ya2 yn2 yc2)):=by
                  obtain ⟨h1,h2⟩:=HXA.out
                  obtain ⟨u1,_,_,u4,_⟩:=HOY.out
                  have b3:Below wr.heap.size wr (wq.alloc (Obj.cells #[.int .i64 R.1.k,.int .i64 R.1.n,.string R.1.s,.slice xa2 xn2 xc2,.slice ya2 yn2 yc2] 55)):=(u4.trans (h2.mono u4.size)).alloc (Nat.le_trans u4.size h2.size) _
                  have o1:=u1.keep (h2.block _ u1.lt)
                  refine ⟨heap_new _ _,o1.keep (Below.heap_alloc _ _ _ o1.lt),b3,RV.move (fun b hb _=>?_) (by simp) (fun b _ hl=>Below.heap_alloc _ _ _ hl) _ _ _ h1⟩
                  rcases hb with h | h
                  · exact .inl h
                  · exact .inr (by have e:(wr.alloc (Obj.cells #[.int .i64 (l j).k,.int .i64 (l j).n,.string (l j).s,.slice xa1 xn1 xc1,.slice ya1 yn1 yc1] 55)).drew.heap.size = wr.heap.size + 1:=by show (wr.alloc (Obj.cells #[.int .i64 (l j).k,.int .i64 (l j).n,.string (l j).s,.slice xa1 xn1 xc1,.slice ya1 yn1 yc1] 55)).heap.size = _; simp
                                   omega)
                clear HXA HOY HCA HCB hHeld r0 r1 r2 r3 r4 s0 s1 s2 s3 s4 z0 z1 z2 z3 z4 t0 t1 t2 t3 t4 y0 y1 y2 y3 y4 y5 y6 y7 y8 y9 e0 e1 e2 e3 e4 e5 e6 e7 e8 e9
                generalize hzb:wq.heap.size = zb at HAF ⊢
                clear hzb
                generalize (wq.alloc (Obj.cells #[.int .i64 R.1.k,.int .i64 R.1.n,.string R.1.s,.slice xa2 xn2 xc2,.slice ya2 yn2 yc2] 55)) = w3 at HAF ⊢
                obtain ⟨k0,k1,k2,k3,k4⟩:=HAF.out.1.cells
                obtain ⟨m0,m1,m2,m3,m4⟩:=HAF.out.2.1.cells
                have n0:=HAF.out.2.1.frozen 0
                have n1':=HAF.out.2.1.frozen 1
                have n2':=HAF.out.2.1.frozen 2
                have n3:=HAF.out.2.1.frozen 3
                have n4:=HAF.out.2.1.frozen 4
                by_cases hz:R.2 = 0
                · have bY:Below wr.heap.size wr (((((w3.setCell ⟨wr.heap.size,0,none⟩ (.int .i64 R.1.k)).setCell ⟨wr.heap.size,1,none⟩ (.int .i64 R.1.n)).setCell ⟨wr.heap.size,2,none⟩ (.string R.1.s)).setCell ⟨wr.heap.size,3,none⟩ (.slice xa2 xn2 xc2)).setCell ⟨wr.heap.size,4,none⟩ (.slice ya2 yn2 yc2)):=below_set5 HAF.out.2.2.1
                  have bO:Below wr.heap.size wr ((((((w3.setCell ⟨wr.heap.size,0,none⟩ (.int .i64 R.1.k)).setCell ⟨wr.heap.size,1,none⟩ (.int .i64 R.1.n)).setCell ⟨wr.heap.size,2,none⟩ (.string R.1.s)).setCell ⟨wr.heap.size,3,none⟩ (.slice xa2 xn2 xc2)).setCell ⟨wr.heap.size,4,none⟩ (.slice ya2 yn2 yc2)).alloc (Obj.cells #[.int .i64 R.1.k,.int .i64 R.1.n,.string R.1.s,.slice xa2 xn2 xc2,.slice ya2 yn2 yc2] 55)):=bY.alloc bY.size _
                  have hsY:(((((w3.setCell ⟨wr.heap.size,0,none⟩ (.int .i64 R.1.k)).setCell ⟨wr.heap.size,1,none⟩ (.int .i64 R.1.n)).setCell ⟨wr.heap.size,2,none⟩ (.string R.1.s)).setCell ⟨wr.heap.size,3,none⟩ (.slice xa2 xn2 xc2)).setCell ⟨wr.heap.size,4,none⟩ (.slice ya2 yn2 yc2)).heap.size = w3.heap.size:=by simp [World.setCell]
                  have bs5:=besides5 w3 wr.heap.size (.int .i64 R.1.k) (.int .i64 R.1.n) (.string R.1.s) (.slice xa2 xn2 xc2) (.slice ya2 yn2 yc2)
                  have HA:Hid (((((((w3.setCell ⟨wr.heap.size,0,none⟩ (.int .i64 R.1.k)).setCell ⟨wr.heap.size,1,none⟩ (.int .i64 R.1.n)).setCell ⟨wr.heap.size,2,none⟩ (.string R.1.s)).setCell ⟨wr.heap.size,3,none⟩ (.slice xa2 xn2 xc2)).setCell ⟨wr.heap.size,4,none⟩ (.slice ya2 yn2 yc2)).alloc (Obj.cells #[.int .i64 R.1.k,.int .i64 R.1.n,.string R.1.s,.slice xa2 xn2 xc2,.slice ya2 yn2 yc2] 55)).ownsRow (H + 3) 55 5 (.slice la L.length lc) L.length us∧obj ((((((w3.setCell ⟨wr.heap.size,0,none⟩ (.int .i64 R.1.k)).setCell ⟨wr.heap.size,1,none⟩ (.int .i64 R.1.n)).setCell ⟨wr.heap.size,2,none⟩ (.string R.1.s)).setCell ⟨wr.heap.size,3,none⟩ (.slice xa2 xn2 xc2)).setCell ⟨wr.heap.size,4,none⟩ (.slice ya2 yn2 yc2)).alloc (Obj.cells #[.int .i64 R.1.k,.int .i64 R.1.n,.string R.1.s,.slice xa2 xn2 xc2,.slice ya2 yn2 yc2] 55)) w3.heap.size (.int .i64 R.1.k) (.int .i64 R.1.n) (.string R.1.s) (.slice xa2 xn2 xc2) (.slice ya2 yn2 yc2)∧Below wr.heap.size wr ((((((w3.setCell ⟨wr.heap.size,0,none⟩ (.int .i64 R.1.k)).setCell ⟨wr.heap.size,1,none⟩ (.int .i64 R.1.n)).setCell ⟨wr.heap.size,2,none⟩ (.string R.1.s)).setCell ⟨wr.heap.size,3,none⟩ (.slice xa2 xn2 xc2)).setCell ⟨wr.heap.size,4,none⟩ (.slice ya2 yn2 yc2)).alloc (Obj.cells #[.int .i64 R.1.k,.int .i64 R.1.n,.string R.1.s,.slice xa2 xn2 xc2,.slice ya2 yn2 yc2] 55))∧RV (fun b=>b < A ∨ (H + 3 ≤ b∧(Value.slice la L.length lc).ownBlock ≠ some b)) ((((((w3.setCell ⟨wr.heap.size,0,none⟩ (.int .i64 R.1.k)).setCell ⟨wr.heap.size,1,none⟩ (.int .i64 R.1.n)).setCell ⟨wr.heap.size,2,none⟩ (.string R.1.s)).setCell ⟨wr.heap.size,3,none⟩ (.slice xa2 xn2 xc2)).setCell ⟨wr.heap.size,4,none⟩ (.slice ya2 yn2 yc2)).alloc (Obj.cells #[.int .i64 R.1.k,.int .i64 R.1.n,.string R.1.s,.slice xa2 xn2 xc2,.slice ya2 yn2 yc2] 55)) R.1 (.slice xa2 xn2 xc2) (.slice ya2 yn2 yc2)):=by
                    refine ⟨own_keep HQ.out.2.2.2.1 (fun x _ hx=>bO.block x hx),(by have h:=heap_new (((((w3.setCell ⟨wr.heap.size,0,none⟩ (.int .i64 R.1.k)).setCell ⟨wr.heap.size,1,none⟩ (.int .i64 R.1.n)).setCell ⟨wr.heap.size,2,none⟩ (.string R.1.s)).setCell ⟨wr.heap.size,3,none⟩ (.slice xa2 xn2 xc2)).setCell ⟨wr.heap.size,4,none⟩ (.slice ya2 yn2 yc2)) (Obj.cells #[.int .i64 R.1.k,.int .i64 R.1.n,.string R.1.s,.slice xa2 xn2 xc2,.slice ya2 yn2 yc2] 55); rw [hsY] at h; exact h),bO,?_⟩
                    have hr5:RV (fun b=>b < A ∨ wr.heap.size < b) (((((w3.setCell ⟨wr.heap.size,0,none⟩ (.int .i64 R.1.k)).setCell ⟨wr.heap.size,1,none⟩ (.int .i64 R.1.n)).setCell ⟨wr.heap.size,2,none⟩ (.string R.1.s)).setCell ⟨wr.heap.size,3,none⟩ (.slice xa2 xn2 xc2)).setCell ⟨wr.heap.size,4,none⟩ (.slice ya2 yn2 yc2)) R.1 (.slice xa2 xn2 xc2) (.slice ya2 yn2 yc2):=RV.move (fun _ h _=>h) bs5.size (fun b hb hl=>bs5.block b hl (by rcases hb with h | h <;> omega)) _ _ _ HAF.out.2.2.2
                    exact RV.move (fun b hb _=>by
                      rcases hb with h | h
                      · exact .inl h
                      · exact .inr ⟨by omega,fun e=>by have:=(own_lt HQ.out.2.2.2.1 e).2; omega⟩) (by simp) (fun b _ hl=>Below.heap_alloc _ _ _ hl) _ _ _ hr5
                  have hh3:H + 3 ≤ w3.heap.size:=Nat.le_trans h3H HAF.out.2.2.1.size
                  have oY:obj (((((w3.setCell ⟨wr.heap.size,0,none⟩ (.int .i64 R.1.k)).setCell ⟨wr.heap.size,1,none⟩ (.int .i64 R.1.n)).setCell ⟨wr.heap.size,2,none⟩ (.string R.1.s)).setCell ⟨wr.heap.size,3,none⟩ (.slice xa2 xn2 xc2)).setCell ⟨wr.heap.size,4,none⟩ (.slice ya2 yn2 yc2)) wr.heap.size (.int .i64 R.1.k) (.int .i64 R.1.n) (.string R.1.s) (.slice xa2 xn2 xc2) (.slice ya2 yn2 yc2):=((((HAF.out.2.1.set0 _).set1 _).set2 _).set3 _).set4 _
                  obtain ⟨h50,h51,h52,h53,h54⟩:=oY.cells
                  clear oY
                  clear bY bO bs5
                  go_wp2_with (at_builtin; refine append_val rfl _ _ rfl rfl HA.out.1 w3.heap.size rfl HA.out.2.1 rfl rfl (by simp; omega) (by omega) ?_)
                  intro v' w5 ho5 hg5 ha5
                  obtain ⟨a5,c5,rfl⟩:=ownForm ho5
                  have HN:Hid (lG nm (wiT x p) l (j + 1) = .inl (L ++ [R.1])∧WLv H w w5 3 n s (.slice (some ⟨b,ob,none⟩) ln ca) (.slice a' dn ca') x (.slice xa xn xc) (.slice ya yn yc)∧VRow (H + 3) (Sw A (H + 3) (.slice a5 (L.length + 1) c5)) w5 (.slice a5 (L.length + 1) c5) (L ++ [R.1])):=by
                    obtain ⟨q1,q2,q3,q4,q5⟩:=HQ.out
                    refine ⟨?_,(q2.keep HS.out HA.out.2.2.1).grow HS.out hg5 (fun q hq=>(own_lt q4 hq).1),vrow_add (by omega) q3 q4.1 HA.out.2.2.1 HA.out.2.2.2 (fun q hq=>own_lt q4 hq) hg5 (by simpa using ha5) ho5⟩
                    unfold lG
                    rw [q1]
                    dsimp only
                    rw [if_pos HJI.out,HRR.out,if_pos hz]
                  clear HQ HA HAF ho5 hg5 ha5 c3 g1 g2 g3 g4 g5 k0 k1 k2 k3 k4 m0 m1 m2 m3 m4 hsY hh3 h50 h51 h52 h53 h54
                  go_wp2
                  go_roundw
                  case rel=>exact ⟨j + 1,L ++ [R.1],by omega,by go_num,by simp; omega,HN⟩
                  case measure=>simp [intOf]; omega
                · have hz':(R.2 != 0) = true:=by simpa using hz
                  have hor:=((HQ.out.2.1.keep HS.out HAF.out.2.2.1).2.2.2)
                  have HOR:=Lib.hid hor
                  obtain ⟨o0,o1,o2,o3,o4⟩:=hor.cells
                  have p0':=hor.frozen 0
                  have p1':=hor.frozen 1
                  have p2':=hor.frozen 2
                  have p3':=hor.frozen 3
                  have p4':=hor.frozen 4
                  have HBE:Hid (Below H w w3∧lG nm (wiT x p) l ln = .inr R.2):=by
                    obtain ⟨q1,q2,_⟩:=HQ.out
                    refine ⟨(q2.keep HS.out HAF.out.2.2.1).1,?_⟩
                    rw [← HJI.out,lG_out]
                    have e1:(wiT x p (l j)).2 = R.2:=by rw [HRR.out]
                    rw [if_pos ⟨hlt,by rw [e1]; exact hz⟩,e1]
                  clear HQ HAF hor k0 k1 k2 k3 k4 m0 m1 m2 m3 m4 c3 g1 g2 g3 g4 g5
                  go_wp2
                  refine bodyPost_ret (v:=.tuple #[vv t0 (.slice none 0 0) (.slice none 0 0),.int .i64 R.2]) (results_cell55t Tryz.results39 _ _ (H + 1 + 1) _ rfl (((((HOR.out.set0 _).set1 _).set2 _).set3 _).set4 _) rfl) rfl ?_
                  have hre:RES = (t0,R.2):=by rw [← HRES.out,HBE.out.2]; rfl
                  rw [hre]
                  refine ⟨_,_,rfl,rv_t0 _ _,?_⟩
                  have h0:=HBE.out.1
                  have hE:=besides5 w3 (H + 1 + 1) (.int .i64 0) (.int .i64 0) (.string { data:=#[] }) (.slice .none 0 0) (.slice .none 0 0)
                  rw [HS.out]
                  exact ⟨hE.os.trans h0.os,hE.tape.trans h0.tape,hE.output.trans h0.output,Nat.le_trans h0.size hE.size,fun q hq=>(hE.block q (by have:=h0.size; omega) (by omega)).trans (h0.block q (by have:=HS.out; omega))⟩
              · go_simp
                refine hK.out _ _ (⟨y5,y6,y7,y8,y9,e5,e6,e7,e8,e9⟩) (fun hHeld=>?_)
                clear hK K
                refine wpAnyH_ready (rs:=[4]) (by kernel_rfl) (by simp) ?_
                refine AllReadyH.cons (o:=_) rfl (fun K hK=>?_) AllReadyH.nil
                go_simp
                refine (HCB.out).mono ?_
                rintro e wq ⟨xa2,xn2,xc2,ya2,yn2,yc2,rfl,⟨r0,r1,r2,r3,r4⟩,⟨s0,s1,s2,s3,s4⟩,_,_,⟨⟨u0,u1,u2,u3,u4⟩,f0,f1,f2,f3,f4⟩,HXC⟩
                refine hK.out _ _ (⟨r0,r1,r2,r3,r4,s0,s1,s2,s3,s4⟩) (fun hHeld=>?_)
                clear hK K
                refine wpAnyH_take (i:=5) (v:=.tuple #[.agg #[.int .i64 R.1.k,.int .i64 R.1.n,.string R.1.s,.slice xa2 xn2 xc2,.slice ya2 yn2 yc2],.int .i64 R.2]) rfl (by kernel_rfl) (by kernel_rfl) (by kernel_rfl) (fun _ _ _ h=>h) (Or.inl ⟨by rfl,fun w hw=>by go_simp⟩) hHeld ?_
                simp only [Act.put,List.getElem_toArray,List.getElem_cons_zero,List.getElem_cons_succ,List.setIfInBounds_toArray,List.set_cons_zero,List.set_cons_succ]
                refine wpAnyH_take (i:=6) (v:=.agg #[.int .i64 R.1.k,.int .i64 R.1.n,.string R.1.s,.slice xa2 xn2 xc2,.slice ya2 yn2 yc2]) rfl (by kernel_rfl) (by kernel_rfl) (by kernel_rfl) (fun _ _ _ h=>h) (Or.inl ⟨by rfl,fun w hw=>by go_simp⟩) hHeld ?_
                simp only [Act.put,List.getElem_toArray,List.getElem_cons_zero,List.getElem_cons_succ,List.setIfInBounds_toArray,List.set_cons_zero,List.set_cons_succ]
                refine wpAnyH_take (i:=7) (v:=.int .i64 R.2) rfl (by kernel_rfl) (by kernel_rfl) (by kernel_rfl) (fun _ _ _ h=>h) (Or.inl ⟨by rfl,fun w hw=>by go_simp⟩) hHeld ?_
                simp only [Act.put,List.getElem_toArray,List.getElem_cons_zero,List.getElem_cons_succ,List.setIfInBounds_toArray,List.set_cons_zero,List.set_cons_succ]
                have HAF:Hid (obj (((((wq.setCell ⟨wr.heap.size + 1,0,none⟩ (.int .i64 R.1.k)).setCell ⟨wr.heap.size + 1,1,none⟩ (.int .i64 R.1.n)).setCell ⟨wr.heap.size + 1,2,none⟩ (.string R.1.s)).setCell ⟨wr.heap.size + 1,3,none⟩ (.slice xa2 xn2 xc2)).setCell ⟨wr.heap.size + 1,4,none⟩ (.slice ya2 yn2 yc2)) (wr.heap.size + 1) (.int .i64 R.1.k) (.int .i64 R.1.n) (.string R.1.s) (.slice xa2 xn2 xc2) (.slice ya2 yn2 yc2)∧obj (((((wq.setCell ⟨wr.heap.size + 1,0,none⟩ (.int .i64 R.1.k)).setCell ⟨wr.heap.size + 1,1,none⟩ (.int .i64 R.1.n)).setCell ⟨wr.heap.size + 1,2,none⟩ (.string R.1.s)).setCell ⟨wr.heap.size + 1,3,none⟩ (.slice xa2 xn2 xc2)).setCell ⟨wr.heap.size + 1,4,none⟩ (.slice ya2 yn2 yc2)) wr.heap.size (.int .i64 (l j).k) (.int .i64 (l j).n) (.string (l j).s) (.slice xa1 xn1 xc1) (.slice ya1 yn1 yc1)∧Below wr.heap.size wr (((((wq.setCell ⟨wr.heap.size + 1,0,none⟩ (.int .i64 R.1.k)).setCell ⟨wr.heap.size + 1,1,none⟩ (.int .i64 R.1.n)).setCell ⟨wr.heap.size + 1,2,none⟩ (.string R.1.s)).setCell ⟨wr.heap.size + 1,3,none⟩ (.slice xa2 xn2 xc2)).setCell ⟨wr.heap.size + 1,4,none⟩ (.slice ya2 yn2 yc2))∧RV (fun b=>b < A ∨ wr.heap.size < b) (((((wq.setCell ⟨wr.heap.size + 1,0,none⟩ (.int .i64 R.1.k)).setCell ⟨wr.heap.size + 1,1,none⟩ (.int .i64 R.1.n)).setCell ⟨wr.heap.size + 1,2,none⟩ (.string R.1.s)).setCell ⟨wr.heap.size + 1,3,none⟩ (.slice xa2 xn2 xc2)).setCell ⟨wr.heap.size + 1,4,none⟩ (.slice ya2 yn2 yc2)) R.1 (.slice xa2 xn2 xc2) (.slice ya2 yn2 yc2)):=by
                  obtain ⟨h1,h2⟩:=HXC.out
                  obtain ⟨_,u2,u3,_,u5⟩:=HOY.out
                  have o2:=u2.keep (h2.block _ u2.lt)
                  have o3:=u3.keep (h2.block _ u3.lt)
                  have bs5:=besides5 wq (wr.heap.size + 1) (.int .i64 R.1.k) (.int .i64 R.1.n) (.string R.1.s) (.slice xa2 xn2 xc2) (.slice ya2 yn2 yc2)
                  have b3:Below wr.heap.size wr (((((wq.setCell ⟨wr.heap.size + 1,0,none⟩ (.int .i64 R.1.k)).setCell ⟨wr.heap.size + 1,1,none⟩ (.int .i64 R.1.n)).setCell ⟨wr.heap.size + 1,2,none⟩ (.string R.1.s)).setCell ⟨wr.heap.size + 1,3,none⟩ (.slice xa2 xn2 xc2)).setCell ⟨wr.heap.size + 1,4,none⟩ (.slice ya2 yn2 yc2)):=below_set5v (by omega) (u5.trans (h2.mono u5.size))
                  refine ⟨((((o3.set0 _).set1 _).set2 _).set3 _).set4 _,o2.keep (bs5.block _ o2.lt (by omega)),b3,RV.move (fun b hb _=>?_) bs5.size (fun b hb hl=>bs5.block b hl ?_) _ _ _ h1⟩
                  · rcases hb with h | h
                    · exact .inl h
                    · exact .inr (by have e:((wr.alloc (Obj.cells #[.int .i64 (l j).k,.int .i64 (l j).n,.string (l j).s,.slice xa1 xn1 xc1,.slice ya1 yn1 yc1] 55)).alloc zeroV).drew.heap.size = wr.heap.size + 1 + 1:=by show ((wr.alloc (Obj.cells #[.int .i64 (l j).k,.int .i64 (l j).n,.string (l j).s,.slice xa1 xn1 xc1,.slice ya1 yn1 yc1] 55)).alloc zeroV).heap.size = _; simp
                                     omega)
                  · rcases hb with h | h
                    · omega
                    · have e:((wr.alloc (Obj.cells #[.int .i64 (l j).k,.int .i64 (l j).n,.string (l j).s,.slice xa1 xn1 xc1,.slice ya1 yn1 yc1] 55)).alloc zeroV).drew.heap.size = wr.heap.size + 1 + 1:=by show ((wr.alloc (Obj.cells #[.int .i64 (l j).k,.int .i64 (l j).n,.string (l j).s,.slice xa1 xn1 xc1,.slice ya1 yn1 yc1] 55)).alloc zeroV).heap.size = _; simp
                      omega
                have HSS:Hid ((((((wq.setCell ⟨wr.heap.size + 1,0,none⟩ (.int .i64 R.1.k)).setCell ⟨wr.heap.size + 1,1,none⟩ (.int .i64 R.1.n)).setCell ⟨wr.heap.size + 1,2,none⟩ (.string R.1.s)).setCell ⟨wr.heap.size + 1,3,none⟩ (.slice xa2 xn2 xc2)).setCell ⟨wr.heap.size + 1,4,none⟩ (.slice ya2 yn2 yc2)).cell? ⟨wr.heap.size,0,none⟩ = some (.int .i64 (l j).k)∧(((((wq.setCell ⟨wr.heap.size + 1,0,none⟩ (.int .i64 R.1.k)).setCell ⟨wr.heap.size + 1,1,none⟩ (.int .i64 R.1.n)).setCell ⟨wr.heap.size + 1,2,none⟩ (.string R.1.s)).setCell ⟨wr.heap.size + 1,3,none⟩ (.slice xa2 xn2 xc2)).setCell ⟨wr.heap.size + 1,4,none⟩ (.slice ya2 yn2 yc2)).cell? ⟨wr.heap.size,1,none⟩ = some (.int .i64 (l j).n)∧(((((wq.setCell ⟨wr.heap.size + 1,0,none⟩ (.int .i64 R.1.k)).setCell ⟨wr.heap.size + 1,1,none⟩ (.int .i64 R.1.n)).setCell ⟨wr.heap.size + 1,2,none⟩ (.string R.1.s)).setCell ⟨wr.heap.size + 1,3,none⟩ (.slice xa2 xn2 xc2)).setCell ⟨wr.heap.size + 1,4,none⟩ (.slice ya2 yn2 yc2)).cell? ⟨wr.heap.size,2,none⟩ = some (.string (l j).s)∧(((((wq.setCell ⟨wr.heap.size + 1,0,none⟩ (.int .i64 R.1.k)).setCell ⟨wr.heap.size + 1,1,none⟩ (.int .i64 R.1.n)).setCell ⟨wr.heap.size + 1,2,none⟩ (.string R.1.s)).setCell ⟨wr.heap.size + 1,3,none⟩ (.slice xa2 xn2 xc2)).setCell ⟨wr.heap.size + 1,4,none⟩ (.slice ya2 yn2 yc2)).cell? ⟨wr.heap.size,3,none⟩ = some (.slice xa1 xn1 xc1)∧(((((wq.setCell ⟨wr.heap.size + 1,0,none⟩ (.int .i64 R.1.k)).setCell ⟨wr.heap.size + 1,1,none⟩ (.int .i64 R.1.n)).setCell ⟨wr.heap.size + 1,2,none⟩ (.string R.1.s)).setCell ⟨wr.heap.size + 1,3,none⟩ (.slice xa2 xn2 xc2)).setCell ⟨wr.heap.size + 1,4,none⟩ (.slice ya2 yn2 yc2)).cell? ⟨wr.heap.size,4,none⟩ = some (.slice ya1 yn1 yc1)∧(((((wq.setCell ⟨wr.heap.size + 1,0,none⟩ (.int .i64 R.1.k)).setCell ⟨wr.heap.size + 1,1,none⟩ (.int .i64 R.1.n)).setCell ⟨wr.heap.size + 1,2,none⟩ (.string R.1.s)).setCell ⟨wr.heap.size + 1,3,none⟩ (.slice xa2 xn2 xc2)).setCell ⟨wr.heap.size + 1,4,none⟩ (.slice ya2 yn2 yc2)).cell? ⟨H + 1,0,none⟩ = some (.int .i64 x.k)∧(((((wq.setCell ⟨wr.heap.size + 1,0,none⟩ (.int .i64 R.1.k)).setCell ⟨wr.heap.size + 1,1,none⟩ (.int .i64 R.1.n)).setCell ⟨wr.heap.size + 1,2,none⟩ (.string R.1.s)).setCell ⟨wr.heap.size + 1,3,none⟩ (.slice xa2 xn2 xc2)).setCell ⟨wr.heap.size + 1,4,none⟩ (.slice ya2 yn2 yc2)).cell? ⟨H + 1,1,none⟩ = some (.int .i64 x.n)∧(((((wq.setCell ⟨wr.heap.size + 1,0,none⟩ (.int .i64 R.1.k)).setCell ⟨wr.heap.size + 1,1,none⟩ (.int .i64 R.1.n)).setCell ⟨wr.heap.size + 1,2,none⟩ (.string R.1.s)).setCell ⟨wr.heap.size + 1,3,none⟩ (.slice xa2 xn2 xc2)).setCell ⟨wr.heap.size + 1,4,none⟩ (.slice ya2 yn2 yc2)).cell? ⟨H + 1,2,none⟩ = some (.string x.s)∧(((((wq.setCell ⟨wr.heap.size + 1,0,none⟩ (.int .i64 R.1.k)).setCell ⟨wr.heap.size + 1,1,none⟩ (.int .i64 R.1.n)).setCell ⟨wr.heap.size + 1,2,none⟩ (.string R.1.s)).setCell ⟨wr.heap.size + 1,3,none⟩ (.slice xa2 xn2 xc2)).setCell ⟨wr.heap.size + 1,4,none⟩ (.slice ya2 yn2 yc2)).cell? ⟨H + 1,3,none⟩ = some (.slice xa xn xc)∧(((((wq.setCell ⟨wr.heap.size + 1,0,none⟩ (.int .i64 R.1.k)).setCell ⟨wr.heap.size + 1,1,none⟩ (.int .i64 R.1.n)).setCell ⟨wr.heap.size + 1,2,none⟩ (.string R.1.s)).setCell ⟨wr.heap.size + 1,3,none⟩ (.slice xa2 xn2 xc2)).setCell ⟨wr.heap.size + 1,4,none⟩ (.slice ya2 yn2 yc2)).cell? ⟨H + 1,4,none⟩ = some (.slice ya yn yc)):=⟨HAF.out.2.1.cells.1,HAF.out.2.1.cells.2.1,HAF.out.2.1.cells.2.2.1,HAF.out.2.1.cells.2.2.2.1,HAF.out.2.1.cells.2.2.2.2,by
                  have bs5:=besides5 wq (wr.heap.size + 1) (.int .i64 R.1.k) (.int .i64 R.1.n) (.string R.1.s) (.slice xa2 xn2 xc2) (.slice ya2 yn2 yc2)
                  have ox:=HQ.out.2.1.2.2.1
                  have ox3:=ox.keep (HAF.out.2.2.1.block _ ox.lt)
                  exact ox3.cells⟩
                refine wpAnyH_ready (rs:=[9]) (by kernel_rfl) (by simp) ?_
                refine AllReadyH.cons (o:=_) rfl (fun K hK=>?_) AllReadyH.nil
                go_simp
                refine hK.out _ _ HSS.out (fun hHeld=>?_)
                clear hK K
                refine wpAnyH_take (i:=10) (v:=.int .i64 R.2) rfl (by kernel_rfl) (by kernel_rfl) (by kernel_rfl) (fun _ _ _ h=>h) (Or.inl ⟨by rfl,fun w hw=>by go_simp⟩) hHeld ?_
                simp only [Act.put,List.getElem_toArray,List.getElem_cons_zero,List.getElem_cons_succ,List.setIfInBounds_toArray,List.set_cons_zero,List.set_cons_succ]
                refine wpAnyH_done (by kernel_rfl) ?_ _
                clear HXC HOY HCA HCB hHeld HSS r0 r1 r2 r3 r4 s0 s1 s2 s3 s4 y0 y1 y2 y3 y4 y5 y6 y7 y8 y9 e0 e1 e2 e3 e4 e5 e6 e7 e8 e9 u0 u1 u2 u3 u4 f0 f1 f2 f3 f4
                generalize hzb:wr.heap.size + 1 = zb at HAF ⊢
                clear hzb
                generalize (((((wq.setCell ⟨zb,0,none⟩ (.int .i64 R.1.k)).setCell ⟨zb,1,none⟩ (.int .i64 R.1.n)).setCell ⟨zb,2,none⟩ (.string R.1.s)).setCell ⟨zb,3,none⟩ (.slice xa2 xn2 xc2)).setCell ⟨zb,4,none⟩ (.slice ya2 yn2 yc2)) = w3 at HAF ⊢
                obtain ⟨k0,k1,k2,k3,k4⟩:=HAF.out.1.cells
                obtain ⟨m0,m1,m2,m3,m4⟩:=HAF.out.2.1.cells
                have n0:=HAF.out.2.1.frozen 0
                have n1':=HAF.out.2.1.frozen 1
                have n2':=HAF.out.2.1.frozen 2
                have n3:=HAF.out.2.1.frozen 3
                have n4:=HAF.out.2.1.frozen 4
                by_cases hz:R.2 = 0
                · have bY:Below wr.heap.size wr (((((w3.setCell ⟨wr.heap.size,0,none⟩ (.int .i64 R.1.k)).setCell ⟨wr.heap.size,1,none⟩ (.int .i64 R.1.n)).setCell ⟨wr.heap.size,2,none⟩ (.string R.1.s)).setCell ⟨wr.heap.size,3,none⟩ (.slice xa2 xn2 xc2)).setCell ⟨wr.heap.size,4,none⟩ (.slice ya2 yn2 yc2)):=below_set5 HAF.out.2.2.1
                  have bO:Below wr.heap.size wr ((((((w3.setCell ⟨wr.heap.size,0,none⟩ (.int .i64 R.1.k)).setCell ⟨wr.heap.size,1,none⟩ (.int .i64 R.1.n)).setCell ⟨wr.heap.size,2,none⟩ (.string R.1.s)).setCell ⟨wr.heap.size,3,none⟩ (.slice xa2 xn2 xc2)).setCell ⟨wr.heap.size,4,none⟩ (.slice ya2 yn2 yc2)).alloc (Obj.cells #[.int .i64 R.1.k,.int .i64 R.1.n,.string R.1.s,.slice xa2 xn2 xc2,.slice ya2 yn2 yc2] 55)):=bY.alloc bY.size _
                  have hsY:(((((w3.setCell ⟨wr.heap.size,0,none⟩ (.int .i64 R.1.k)).setCell ⟨wr.heap.size,1,none⟩ (.int .i64 R.1.n)).setCell ⟨wr.heap.size,2,none⟩ (.string R.1.s)).setCell ⟨wr.heap.size,3,none⟩ (.slice xa2 xn2 xc2)).setCell ⟨wr.heap.size,4,none⟩ (.slice ya2 yn2 yc2)).heap.size = w3.heap.size:=by simp [World.setCell]
                  have bs5:=besides5 w3 wr.heap.size (.int .i64 R.1.k) (.int .i64 R.1.n) (.string R.1.s) (.slice xa2 xn2 xc2) (.slice ya2 yn2 yc2)
                  have HA:Hid (((((((w3.setCell ⟨wr.heap.size,0,none⟩ (.int .i64 R.1.k)).setCell ⟨wr.heap.size,1,none⟩ (.int .i64 R.1.n)).setCell ⟨wr.heap.size,2,none⟩ (.string R.1.s)).setCell ⟨wr.heap.size,3,none⟩ (.slice xa2 xn2 xc2)).setCell ⟨wr.heap.size,4,none⟩ (.slice ya2 yn2 yc2)).alloc (Obj.cells #[.int .i64 R.1.k,.int .i64 R.1.n,.string R.1.s,.slice xa2 xn2 xc2,.slice ya2 yn2 yc2] 55)).ownsRow (H + 3) 55 5 (.slice la L.length lc) L.length us∧obj ((((((w3.setCell ⟨wr.heap.size,0,none⟩ (.int .i64 R.1.k)).setCell ⟨wr.heap.size,1,none⟩ (.int .i64 R.1.n)).setCell ⟨wr.heap.size,2,none⟩ (.string R.1.s)).setCell ⟨wr.heap.size,3,none⟩ (.slice xa2 xn2 xc2)).setCell ⟨wr.heap.size,4,none⟩ (.slice ya2 yn2 yc2)).alloc (Obj.cells #[.int .i64 R.1.k,.int .i64 R.1.n,.string R.1.s,.slice xa2 xn2 xc2,.slice ya2 yn2 yc2] 55)) w3.heap.size (.int .i64 R.1.k) (.int .i64 R.1.n) (.string R.1.s) (.slice xa2 xn2 xc2) (.slice ya2 yn2 yc2)∧Below wr.heap.size wr ((((((w3.setCell ⟨wr.heap.size,0,none⟩ (.int .i64 R.1.k)).setCell ⟨wr.heap.size,1,none⟩ (.int .i64 R.1.n)).setCell ⟨wr.heap.size,2,none⟩ (.string R.1.s)).setCell ⟨wr.heap.size,3,none⟩ (.slice xa2 xn2 xc2)).setCell ⟨wr.heap.size,4,none⟩ (.slice ya2 yn2 yc2)).alloc (Obj.cells #[.int .i64 R.1.k,.int .i64 R.1.n,.string R.1.s,.slice xa2 xn2 xc2,.slice ya2 yn2 yc2] 55))∧RV (fun b=>b < A ∨ (H + 3 ≤ b∧(Value.slice la L.length lc).ownBlock ≠ some b)) ((((((w3.setCell ⟨wr.heap.size,0,none⟩ (.int .i64 R.1.k)).setCell ⟨wr.heap.size,1,none⟩ (.int .i64 R.1.n)).setCell ⟨wr.heap.size,2,none⟩ (.string R.1.s)).setCell ⟨wr.heap.size,3,none⟩ (.slice xa2 xn2 xc2)).setCell ⟨wr.heap.size,4,none⟩ (.slice ya2 yn2 yc2)).alloc (Obj.cells #[.int .i64 R.1.k,.int .i64 R.1.n,.string R.1.s,.slice xa2 xn2 xc2,.slice ya2 yn2 yc2] 55)) R.1 (.slice xa2 xn2 xc2) (.slice ya2 yn2 yc2)):=by
                    refine ⟨own_keep HQ.out.2.2.2.1 (fun x _ hx=>bO.block x hx),(by have h:=heap_new (((((w3.setCell ⟨wr.heap.size,0,none⟩ (.int .i64 R.1.k)).setCell ⟨wr.heap.size,1,none⟩ (.int .i64 R.1.n)).setCell ⟨wr.heap.size,2,none⟩ (.string R.1.s)).setCell ⟨wr.heap.size,3,none⟩ (.slice xa2 xn2 xc2)).setCell ⟨wr.heap.size,4,none⟩ (.slice ya2 yn2 yc2)) (Obj.cells #[.int .i64 R.1.k,.int .i64 R.1.n,.string R.1.s,.slice xa2 xn2 xc2,.slice ya2 yn2 yc2] 55); rw [hsY] at h; exact h),bO,?_⟩
                    have hr5:RV (fun b=>b < A ∨ wr.heap.size < b) (((((w3.setCell ⟨wr.heap.size,0,none⟩ (.int .i64 R.1.k)).setCell ⟨wr.heap.size,1,none⟩ (.int .i64 R.1.n)).setCell ⟨wr.heap.size,2,none⟩ (.string R.1.s)).setCell ⟨wr.heap.size,3,none⟩ (.slice xa2 xn2 xc2)).setCell ⟨wr.heap.size,4,none⟩ (.slice ya2 yn2 yc2)) R.1 (.slice xa2 xn2 xc2) (.slice ya2 yn2 yc2):=RV.move (fun _ h _=>h) bs5.size (fun b hb hl=>bs5.block b hl (by rcases hb with h | h <;> omega)) _ _ _ HAF.out.2.2.2
                    exact RV.move (fun b hb _=>by
                      rcases hb with h | h
                      · exact .inl h
                      · exact .inr ⟨by omega,fun e=>by have:=(own_lt HQ.out.2.2.2.1 e).2; omega⟩) (by simp) (fun b _ hl=>Below.heap_alloc _ _ _ hl) _ _ _ hr5
                  have hh3:H + 3 ≤ w3.heap.size:=Nat.le_trans h3H HAF.out.2.2.1.size
                  have oY:obj (((((w3.setCell ⟨wr.heap.size,0,none⟩ (.int .i64 R.1.k)).setCell ⟨wr.heap.size,1,none⟩ (.int .i64 R.1.n)).setCell ⟨wr.heap.size,2,none⟩ (.string R.1.s)).setCell ⟨wr.heap.size,3,none⟩ (.slice xa2 xn2 xc2)).setCell ⟨wr.heap.size,4,none⟩ (.slice ya2 yn2 yc2)) wr.heap.size (.int .i64 R.1.k) (.int .i64 R.1.n) (.string R.1.s) (.slice xa2 xn2 xc2) (.slice ya2 yn2 yc2):=((((HAF.out.2.1.set0 _).set1 _).set2 _).set3 _).set4 _
                  obtain ⟨h50,h51,h52,h53,h54⟩:=oY.cells
                  clear oY
                  clear bY bO bs5
                  go_wp2_with (at_builtin; refine append_val rfl _ _ rfl rfl HA.out.1 w3.heap.size rfl HA.out.2.1 rfl rfl (by simp; omega) (by omega) ?_)
                  intro v' w5 ho5 hg5 ha5
                  obtain ⟨a5,c5,rfl⟩:=ownForm ho5
                  have HN:Hid (lG nm (wiT x p) l (j + 1) = .inl (L ++ [R.1])∧WLv H w w5 3 n s (.slice (some ⟨b,ob,none⟩) ln ca) (.slice a' dn ca') x (.slice xa xn xc) (.slice ya yn yc)∧VRow (H + 3) (Sw A (H + 3) (.slice a5 (L.length + 1) c5)) w5 (.slice a5 (L.length + 1) c5) (L ++ [R.1])):=by
                    obtain ⟨q1,q2,q3,q4,q5⟩:=HQ.out
                    refine ⟨?_,(q2.keep HS.out HA.out.2.2.1).grow HS.out hg5 (fun q hq=>(own_lt q4 hq).1),vrow_add (by omega) q3 q4.1 HA.out.2.2.1 HA.out.2.2.2 (fun q hq=>own_lt q4 hq) hg5 (by simpa using ha5) ho5⟩
                    unfold lG
                    rw [q1]
                    dsimp only
                    rw [if_pos HJI.out,HRR.out,if_pos hz]
                  clear HQ HA HAF ho5 hg5 ha5 c3 g1 g2 g3 g4 g5 k0 k1 k2 k3 k4 m0 m1 m2 m3 m4 hsY hh3 h50 h51 h52 h53 h54
                  go_wp2
                  go_roundw
                  case rel=>exact ⟨j + 1,L ++ [R.1],by omega,by go_num,by simp; omega,HN⟩
                  case measure=>simp [intOf]; omega
                · have hz':(R.2 != 0) = true:=by simpa using hz
                  have hor:=((HQ.out.2.1.keep HS.out HAF.out.2.2.1).2.2.2)
                  have HOR:=Lib.hid hor
                  obtain ⟨o0,o1,o2,o3,o4⟩:=hor.cells
                  have p0':=hor.frozen 0
                  have p1':=hor.frozen 1
                  have p2':=hor.frozen 2
                  have p3':=hor.frozen 3
                  have p4':=hor.frozen 4
                  have HBE:Hid (Below H w w3∧lG nm (wiT x p) l ln = .inr R.2):=by
                    obtain ⟨q1,q2,_⟩:=HQ.out
                    refine ⟨(q2.keep HS.out HAF.out.2.2.1).1,?_⟩
                    rw [← HJI.out,lG_out]
                    have e1:(wiT x p (l j)).2 = R.2:=by rw [HRR.out]
                    rw [if_pos ⟨hlt,by rw [e1]; exact hz⟩,e1]
                  clear HQ HAF hor k0 k1 k2 k3 k4 m0 m1 m2 m3 m4 c3 g1 g2 g3 g4 g5
                  go_wp2
                  refine bodyPost_ret (v:=.tuple #[vv t0 (.slice none 0 0) (.slice none 0 0),.int .i64 R.2]) (results_cell55t Tryz.results39 _ _ (H + 1 + 1) _ rfl (((((HOR.out.set0 _).set1 _).set2 _).set3 _).set4 _) rfl) rfl ?_
                  have hre:RES = (t0,R.2):=by rw [← HRES.out,HBE.out.2]; rfl
                  rw [hre]
                  refine ⟨_,_,rfl,rv_t0 _ _,?_⟩
                  have h0:=HBE.out.1
                  have hE:=besides5 w3 (H + 1 + 1) (.int .i64 0) (.int .i64 0) (.string { data:=#[] }) (.slice .none 0 0) (.slice .none 0 0)
                  rw [HS.out]
                  exact ⟨hE.os.trans h0.os,hE.tape.trans h0.tape,hE.output.trans h0.output,Nat.le_trans h0.size hE.size,fun q hq=>(hE.block q (by have:=h0.size; omega) (by omega)).trans (h0.block q (by have:=HS.out; omega))⟩
            · have q3:(pn:Int) ≤ (pc:Int):=by omega
              have q4:¬ pc - 1 = 0:=by omega
              have q5:(1:Int) ≤ (pn:Int):=by omega
              have q6:1 < pc:=by omega
              have hpn1:pn - 1 = p.length:=by have:=HPN.out; omega
              obtain ⟨HCA',HCB'⟩:=HPA.out (some ⟨pg,po + 2,none⟩) (pc - 1) (path_rest hpg hpr) (by have:=HPN.out; omega)
              have HCA:=Lib.hid HCA'
              have HCB:=Lib.hid HCB'
              clear HCA' HCB' HPA hpr
              go_wp2_with fail
              refine wp_region_held_drew (S:=fun w'=>w'.cell? ⟨wr.heap.size,0,none⟩ = some (.int .i64 (l j).k)∧w'.cell? ⟨wr.heap.size,1,none⟩ = some (.int .i64 (l j).n)∧w'.cell? ⟨wr.heap.size,2,none⟩ = some (.string (l j).s)∧w'.cell? ⟨wr.heap.size,3,none⟩ = some (.slice xa1 xn1 xc1)∧w'.cell? ⟨wr.heap.size,4,none⟩ = some (.slice ya1 yn1 yc1)∧w'.cell? ⟨H + 1,0,none⟩ = some (.int .i64 x.k)∧w'.cell? ⟨H + 1,1,none⟩ = some (.int .i64 x.n)∧w'.cell? ⟨H + 1,2,none⟩ = some (.string x.s)∧w'.cell? ⟨H + 1,3,none⟩ = some (.slice xa xn xc)∧w'.cell? ⟨H + 1,4,none⟩ = some (.slice ya yn yc)) (by kernel_rfl) (⟨y0,y1,y2,y3,y4,e0,e1,e2,e3,e4⟩) (fun hHeld=>?_)
              refine wpAnyH_take (i:=0) (v:=.agg #[.int .i64 (l j).k,.int .i64 (l j).n,.string (l j).s,.slice xa1 xn1 xc1,.slice ya1 yn1 yc1]) rfl (by kernel_rfl) (by kernel_rfl) (by kernel_rfl) (fun _ _ _ h=>h) (Or.inl ⟨by rfl,fun w hw=>by obtain ⟨c0,c1,c2,c3,c4,_⟩:=hw; go_simp⟩) hHeld ?_
              simp only [Act.put,List.getElem_toArray,List.getElem_cons_zero,List.setIfInBounds_toArray,List.set_cons_zero,List.set_cons_succ]
              refine wpAnyH_take (i:=1) (v:=.slice (some ⟨pg,po,none⟩) pn pc) rfl (by kernel_rfl) (by kernel_rfl) (by kernel_rfl) (fun _ _ _ h=>h) (Or.inl ⟨by rfl,fun w hw=>by go_simp⟩) hHeld ?_
              simp only [Act.put,List.getElem_toArray,List.getElem_cons_zero,List.getElem_cons_succ,List.setIfInBounds_toArray,List.set_cons_zero,List.set_cons_succ]
              refine wpAnyH_take (i:=2) (v:=.slice (some ⟨pg,po + 2,none⟩) p.length (pc - 1)) rfl (by kernel_rfl) (by kernel_rfl) (by kernel_rfl) (fun _ _ _ h=>h) (Or.inl ⟨by rfl,fun w hw=>by go_simp⟩) hHeld ?_
              simp only [Act.put,List.getElem_toArray,List.getElem_cons_zero,List.getElem_cons_succ,List.setIfInBounds_toArray,List.set_cons_zero,List.set_cons_succ]
              refine wpAnyH_take (i:=3) (v:=.agg #[.int .i64 x.k,.int .i64 x.n,.string x.s,.slice xa xn xc,.slice ya yn yc]) rfl (by kernel_rfl) (by kernel_rfl) (by kernel_rfl) (fun _ _ _ h=>h) (Or.inl ⟨by rfl,fun w hw=>by obtain ⟨_,_,_,_,_,c0,c1,c2,c3,c4⟩:=hw; go_simp⟩) hHeld ?_
              simp only [Act.put,List.getElem_toArray,List.getElem_cons_zero,List.getElem_cons_succ,List.setIfInBounds_toArray,List.set_cons_zero,List.set_cons_succ]
              refine wpAnyH_ready (rs:=[4,8]) (by kernel_rfl) (by simp) ?_
              refine AllReadyH.cons (o:=_) rfl (fun K hK=>?_) (AllReadyH.cons (o:=_) rfl (fun K hK=>?_) AllReadyH.nil)
              · go_simp
                refine (HCA.out).mono ?_
                rintro e wq ⟨xa2,xn2,xc2,ya2,yn2,yc2,rfl,⟨r0,r1,r2,r3,r4⟩,⟨s0,s1,s2,s3,s4⟩,⟨z0,z1,z2,z3,z4⟩,⟨t0,t1,t2,t3,t4⟩,_,HXA⟩
                refine hK.out _ _ (⟨r0,r1,r2,r3,r4,s0,s1,s2,s3,s4⟩) (fun hHeld=>?_)
                clear hK K
                refine wpAnyH_take (i:=5) (v:=.tuple #[.agg #[.int .i64 R.1.k,.int .i64 R.1.n,.string R.1.s,.slice xa2 xn2 xc2,.slice ya2 yn2 yc2],.int .i64 R.2]) rfl (by kernel_rfl) (by kernel_rfl) (by kernel_rfl) (fun _ _ _ h=>h) (Or.inl ⟨by rfl,fun w hw=>by go_simp⟩) hHeld ?_
                simp only [Act.put,List.getElem_toArray,List.getElem_cons_zero,List.getElem_cons_succ,List.setIfInBounds_toArray,List.set_cons_zero,List.set_cons_succ]
                refine wpAnyH_take (i:=6) (v:=.agg #[.int .i64 R.1.k,.int .i64 R.1.n,.string R.1.s,.slice xa2 xn2 xc2,.slice ya2 yn2 yc2]) rfl (by kernel_rfl) (by kernel_rfl) (by kernel_rfl) (fun _ _ _ h=>h) (Or.inl ⟨by rfl,fun w hw=>by go_simp⟩) hHeld ?_
                simp only [Act.put,List.getElem_toArray,List.getElem_cons_zero,List.getElem_cons_succ,List.setIfInBounds_toArray,List.set_cons_zero,List.set_cons_succ]
                refine wpAnyH_take (i:=7) (v:=.int .i64 R.2) rfl (by kernel_rfl) (by kernel_rfl) (by kernel_rfl) (fun _ _ _ h=>h) (Or.inl ⟨by rfl,fun w hw=>by go_simp⟩) hHeld ?_
                simp only [Act.put,List.getElem_toArray,List.getElem_cons_zero,List.getElem_cons_succ,List.setIfInBounds_toArray,List.set_cons_zero,List.set_cons_succ]
                refine wpAnyH_ready (rs:=[8]) (by kernel_rfl) (by simp) ?_
                refine AllReadyH.cons (o:=_) rfl (fun K hK=>?_) AllReadyH.nil
                go_simp
                refine hK.out _ _ (⟨z0,z1,z2,z3,z4,t0,t1,t2,t3,t4⟩) (fun hHeld=>?_)
                clear hK K
                refine wpAnyH_ready (rs:=[9]) (by kernel_rfl) (by simp) ?_
                refine AllReadyH.cons (o:=_) rfl (fun K hK=>?_) AllReadyH.nil
                go_simp
                refine hK.out _ _ (⟨cell_alloc_old r0,cell_alloc_old r1,cell_alloc_old r2,cell_alloc_old r3,cell_alloc_old r4,cell_alloc_old s0,cell_alloc_old s1,cell_alloc_old s2,cell_alloc_old s3,cell_alloc_old s4⟩) (fun hHeld=>?_)
                clear hK K
                refine wpAnyH_take (i:=10) (v:=.int .i64 R.2) rfl (by kernel_rfl) (by kernel_rfl) (by kernel_rfl) (fun _ _ _ h=>h) (Or.inl ⟨by rfl,fun w hw=>by go_simp⟩) hHeld ?_
                simp only [Act.put,List.getElem_toArray,List.getElem_cons_zero,List.getElem_cons_succ,List.setIfInBounds_toArray,List.set_cons_zero,List.set_cons_succ]
                refine wpAnyH_done (by kernel_rfl) ?_ _
                have HAF:Hid (obj (wq.alloc (Obj.cells #[.int .i64 R.1.k,.int .i64 R.1.n,.string R.1.s,.slice xa2 xn2 xc2,.slice ya2 yn2 yc2] 55)) wq.heap.size (.int .i64 R.1.k) (.int .i64 R.1.n) (.string R.1.s) (.slice xa2 xn2 xc2) (.slice ya2 yn2 yc2)∧obj (wq.alloc (Obj.cells #[.int .i64 R.1.k,.int .i64 R.1.n,.string R.1.s,.slice xa2 xn2 xc2,.slice ya2 yn2 yc2] 55)) wr.heap.size (.int .i64 (l j).k) (.int .i64 (l j).n) (.string (l j).s) (.slice xa1 xn1 xc1) (.slice ya1 yn1 yc1)∧Below wr.heap.size wr (wq.alloc (Obj.cells #[.int .i64 R.1.k,.int .i64 R.1.n,.string R.1.s,.slice xa2 xn2 xc2,.slice ya2 yn2 yc2] 55))∧RV (fun b=>b < A ∨ wr.heap.size < b) (wq.alloc (Obj.cells #[.int .i64 R.1.k,.int .i64 R.1.n,.string R.1.s,.slice xa2 xn2 xc2,.slice ya2 yn2 yc2] 55)) R.1 (.slice xa2 xn2 xc2) (.slice ya2 yn2 yc2)):=by
                  obtain ⟨h1,h2⟩:=HXA.out
                  obtain ⟨u1,_,_,u4,_⟩:=HOY.out
                  have b3:Below wr.heap.size wr (wq.alloc (Obj.cells #[.int .i64 R.1.k,.int .i64 R.1.n,.string R.1.s,.slice xa2 xn2 xc2,.slice ya2 yn2 yc2] 55)):=(u4.trans (h2.mono u4.size)).alloc (Nat.le_trans u4.size h2.size) _
                  have o1:=u1.keep (h2.block _ u1.lt)
                  refine ⟨heap_new _ _,o1.keep (Below.heap_alloc _ _ _ o1.lt),b3,RV.move (fun b hb _=>?_) (by simp) (fun b _ hl=>Below.heap_alloc _ _ _ hl) _ _ _ h1⟩
                  rcases hb with h | h
                  · exact .inl h
                  · exact .inr (by have e:(wr.alloc (Obj.cells #[.int .i64 (l j).k,.int .i64 (l j).n,.string (l j).s,.slice xa1 xn1 xc1,.slice ya1 yn1 yc1] 55)).drew.heap.size = wr.heap.size + 1:=by show (wr.alloc (Obj.cells #[.int .i64 (l j).k,.int .i64 (l j).n,.string (l j).s,.slice xa1 xn1 xc1,.slice ya1 yn1 yc1] 55)).heap.size = _; simp
                                   omega)
                clear HXA HOY HCA HCB hHeld r0 r1 r2 r3 r4 s0 s1 s2 s3 s4 z0 z1 z2 z3 z4 t0 t1 t2 t3 t4 y0 y1 y2 y3 y4 y5 y6 y7 y8 y9 e0 e1 e2 e3 e4 e5 e6 e7 e8 e9
                generalize hzb:wq.heap.size = zb at HAF ⊢
                clear hzb
                generalize (wq.alloc (Obj.cells #[.int .i64 R.1.k,.int .i64 R.1.n,.string R.1.s,.slice xa2 xn2 xc2,.slice ya2 yn2 yc2] 55)) = w3 at HAF ⊢
                obtain ⟨k0,k1,k2,k3,k4⟩:=HAF.out.1.cells
                obtain ⟨m0,m1,m2,m3,m4⟩:=HAF.out.2.1.cells
                have n0:=HAF.out.2.1.frozen 0
                have n1':=HAF.out.2.1.frozen 1
                have n2':=HAF.out.2.1.frozen 2
                have n3:=HAF.out.2.1.frozen 3
                have n4:=HAF.out.2.1.frozen 4
                by_cases hz:R.2 = 0
                · have bY:Below wr.heap.size wr (((((w3.setCell ⟨wr.heap.size,0,none⟩ (.int .i64 R.1.k)).setCell ⟨wr.heap.size,1,none⟩ (.int .i64 R.1.n)).setCell ⟨wr.heap.size,2,none⟩ (.string R.1.s)).setCell ⟨wr.heap.size,3,none⟩ (.slice xa2 xn2 xc2)).setCell ⟨wr.heap.size,4,none⟩ (.slice ya2 yn2 yc2)):=below_set5 HAF.out.2.2.1
                  have bO:Below wr.heap.size wr ((((((w3.setCell ⟨wr.heap.size,0,none⟩ (.int .i64 R.1.k)).setCell ⟨wr.heap.size,1,none⟩ (.int .i64 R.1.n)).setCell ⟨wr.heap.size,2,none⟩ (.string R.1.s)).setCell ⟨wr.heap.size,3,none⟩ (.slice xa2 xn2 xc2)).setCell ⟨wr.heap.size,4,none⟩ (.slice ya2 yn2 yc2)).alloc (Obj.cells #[.int .i64 R.1.k,.int .i64 R.1.n,.string R.1.s,.slice xa2 xn2 xc2,.slice ya2 yn2 yc2] 55)):=bY.alloc bY.size _
                  have hsY:(((((w3.setCell ⟨wr.heap.size,0,none⟩ (.int .i64 R.1.k)).setCell ⟨wr.heap.size,1,none⟩ (.int .i64 R.1.n)).setCell ⟨wr.heap.size,2,none⟩ (.string R.1.s)).setCell ⟨wr.heap.size,3,none⟩ (.slice xa2 xn2 xc2)).setCell ⟨wr.heap.size,4,none⟩ (.slice ya2 yn2 yc2)).heap.size = w3.heap.size:=by simp [World.setCell]
                  have bs5:=besides5 w3 wr.heap.size (.int .i64 R.1.k) (.int .i64 R.1.n) (.string R.1.s) (.slice xa2 xn2 xc2) (.slice ya2 yn2 yc2)
                  have HA:Hid (((((((w3.setCell ⟨wr.heap.size,0,none⟩ (.int .i64 R.1.k)).setCell ⟨wr.heap.size,1,none⟩ (.int .i64 R.1.n)).setCell ⟨wr.heap.size,2,none⟩ (.string R.1.s)).setCell ⟨wr.heap.size,3,none⟩ (.slice xa2 xn2 xc2)).setCell ⟨wr.heap.size,4,none⟩ (.slice ya2 yn2 yc2)).alloc (Obj.cells #[.int .i64 R.1.k,.int .i64 R.1.n,.string R.1.s,.slice xa2 xn2 xc2,.slice ya2 yn2 yc2] 55)).ownsRow (H + 3) 55 5 (.slice la L.length lc) L.length us∧obj ((((((w3.setCell ⟨wr.heap.size,0,none⟩ (.int .i64 R.1.k)).setCell ⟨wr.heap.size,1,none⟩ (.int .i64 R.1.n)).setCell ⟨wr.heap.size,2,none⟩ (.string R.1.s)).setCell ⟨wr.heap.size,3,none⟩ (.slice xa2 xn2 xc2)).setCell ⟨wr.heap.size,4,none⟩ (.slice ya2 yn2 yc2)).alloc (Obj.cells #[.int .i64 R.1.k,.int .i64 R.1.n,.string R.1.s,.slice xa2 xn2 xc2,.slice ya2 yn2 yc2] 55)) w3.heap.size (.int .i64 R.1.k) (.int .i64 R.1.n) (.string R.1.s) (.slice xa2 xn2 xc2) (.slice ya2 yn2 yc2)∧Below wr.heap.size wr ((((((w3.setCell ⟨wr.heap.size,0,none⟩ (.int .i64 R.1.k)).setCell ⟨wr.heap.size,1,none⟩ (.int .i64 R.1.n)).setCell ⟨wr.heap.size,2,none⟩ (.string R.1.s)).setCell ⟨wr.heap.size,3,none⟩ (.slice xa2 xn2 xc2)).setCell ⟨wr.heap.size,4,none⟩ (.slice ya2 yn2 yc2)).alloc (Obj.cells #[.int .i64 R.1.k,.int .i64 R.1.n,.string R.1.s,.slice xa2 xn2 xc2,.slice ya2 yn2 yc2] 55))∧RV (fun b=>b < A ∨ (H + 3 ≤ b∧(Value.slice la L.length lc).ownBlock ≠ some b)) ((((((w3.setCell ⟨wr.heap.size,0,none⟩ (.int .i64 R.1.k)).setCell ⟨wr.heap.size,1,none⟩ (.int .i64 R.1.n)).setCell ⟨wr.heap.size,2,none⟩ (.string R.1.s)).setCell ⟨wr.heap.size,3,none⟩ (.slice xa2 xn2 xc2)).setCell ⟨wr.heap.size,4,none⟩ (.slice ya2 yn2 yc2)).alloc (Obj.cells #[.int .i64 R.1.k,.int .i64 R.1.n,.string R.1.s,.slice xa2 xn2 xc2,.slice ya2 yn2 yc2] 55)) R.1 (.slice xa2 xn2 xc2) (.slice ya2 yn2 yc2)):=by
                    refine ⟨own_keep HQ.out.2.2.2.1 (fun x _ hx=>bO.block x hx),(by have h:=heap_new (((((w3.setCell ⟨wr.heap.size,0,none⟩ (.int .i64 R.1.k)).setCell ⟨wr.heap.size,1,none⟩ (.int .i64 R.1.n)).setCell ⟨wr.heap.size,2,none⟩ (.string R.1.s)).setCell ⟨wr.heap.size,3,none⟩ (.slice xa2 xn2 xc2)).setCell ⟨wr.heap.size,4,none⟩ (.slice ya2 yn2 yc2)) (Obj.cells #[.int .i64 R.1.k,.int .i64 R.1.n,.string R.1.s,.slice xa2 xn2 xc2,.slice ya2 yn2 yc2] 55); rw [hsY] at h; exact h),bO,?_⟩
                    have hr5:RV (fun b=>b < A ∨ wr.heap.size < b) (((((w3.setCell ⟨wr.heap.size,0,none⟩ (.int .i64 R.1.k)).setCell ⟨wr.heap.size,1,none⟩ (.int .i64 R.1.n)).setCell ⟨wr.heap.size,2,none⟩ (.string R.1.s)).setCell ⟨wr.heap.size,3,none⟩ (.slice xa2 xn2 xc2)).setCell ⟨wr.heap.size,4,none⟩ (.slice ya2 yn2 yc2)) R.1 (.slice xa2 xn2 xc2) (.slice ya2 yn2 yc2):=RV.move (fun _ h _=>h) bs5.size (fun b hb hl=>bs5.block b hl (by rcases hb with h | h <;> omega)) _ _ _ HAF.out.2.2.2
                    exact RV.move (fun b hb _=>by
                      rcases hb with h | h
                      · exact .inl h
                      · exact .inr ⟨by omega,fun e=>by have:=(own_lt HQ.out.2.2.2.1 e).2; omega⟩) (by simp) (fun b _ hl=>Below.heap_alloc _ _ _ hl) _ _ _ hr5
                  have hh3:H + 3 ≤ w3.heap.size:=Nat.le_trans h3H HAF.out.2.2.1.size
                  have oY:obj (((((w3.setCell ⟨wr.heap.size,0,none⟩ (.int .i64 R.1.k)).setCell ⟨wr.heap.size,1,none⟩ (.int .i64 R.1.n)).setCell ⟨wr.heap.size,2,none⟩ (.string R.1.s)).setCell ⟨wr.heap.size,3,none⟩ (.slice xa2 xn2 xc2)).setCell ⟨wr.heap.size,4,none⟩ (.slice ya2 yn2 yc2)) wr.heap.size (.int .i64 R.1.k) (.int .i64 R.1.n) (.string R.1.s) (.slice xa2 xn2 xc2) (.slice ya2 yn2 yc2):=((((HAF.out.2.1.set0 _).set1 _).set2 _).set3 _).set4 _
                  obtain ⟨h50,h51,h52,h53,h54⟩:=oY.cells
                  clear oY
                  clear bY bO bs5
                  go_wp2_with (at_builtin; refine append_val rfl _ _ rfl rfl HA.out.1 w3.heap.size rfl HA.out.2.1 rfl rfl (by simp; omega) (by omega) ?_)
                  intro v' w5 ho5 hg5 ha5
                  obtain ⟨a5,c5,rfl⟩:=ownForm ho5
                  have HN:Hid (lG nm (wiT x p) l (j + 1) = .inl (L ++ [R.1])∧WLv H w w5 3 n s (.slice (some ⟨b,ob,none⟩) ln ca) (.slice a' dn ca') x (.slice xa xn xc) (.slice ya yn yc)∧VRow (H + 3) (Sw A (H + 3) (.slice a5 (L.length + 1) c5)) w5 (.slice a5 (L.length + 1) c5) (L ++ [R.1])):=by
                    obtain ⟨q1,q2,q3,q4,q5⟩:=HQ.out
                    refine ⟨?_,(q2.keep HS.out HA.out.2.2.1).grow HS.out hg5 (fun q hq=>(own_lt q4 hq).1),vrow_add (by omega) q3 q4.1 HA.out.2.2.1 HA.out.2.2.2 (fun q hq=>own_lt q4 hq) hg5 (by simpa using ha5) ho5⟩
                    unfold lG
                    rw [q1]
                    dsimp only
                    rw [if_pos HJI.out,HRR.out,if_pos hz]
                  clear HQ HA HAF ho5 hg5 ha5 c3 g1 g2 g3 g4 g5 k0 k1 k2 k3 k4 m0 m1 m2 m3 m4 hsY hh3 h50 h51 h52 h53 h54
                  go_wp2
                  go_roundw
                  case rel=>exact ⟨j + 1,L ++ [R.1],by omega,by go_num,by simp; omega,HN⟩
                  case measure=>simp [intOf]; omega
                · have hz':(R.2 != 0) = true:=by simpa using hz
                  have hor:=((HQ.out.2.1.keep HS.out HAF.out.2.2.1).2.2.2)
                  have HOR:=Lib.hid hor
                  obtain ⟨o0,o1,o2,o3,o4⟩:=hor.cells
                  have p0':=hor.frozen 0
                  have p1':=hor.frozen 1
                  have p2':=hor.frozen 2
                  have p3':=hor.frozen 3
                  have p4':=hor.frozen 4
                  have HBE:Hid (Below H w w3∧lG nm (wiT x p) l ln = .inr R.2):=by
                    obtain ⟨q1,q2,_⟩:=HQ.out
                    refine ⟨(q2.keep HS.out HAF.out.2.2.1).1,?_⟩
                    rw [← HJI.out,lG_out]
                    have e1:(wiT x p (l j)).2 = R.2:=by rw [HRR.out]
                    rw [if_pos ⟨hlt,by rw [e1]; exact hz⟩,e1]
                  clear HQ HAF hor k0 k1 k2 k3 k4 m0 m1 m2 m3 m4 c3 g1 g2 g3 g4 g5
                  go_wp2
                  refine bodyPost_ret (v:=.tuple #[vv t0 (.slice none 0 0) (.slice none 0 0),.int .i64 R.2]) (results_cell55t Tryz.results39 _ _ (H + 1 + 1) _ rfl (((((HOR.out.set0 _).set1 _).set2 _).set3 _).set4 _) rfl) rfl ?_
                  have hre:RES = (t0,R.2):=by rw [← HRES.out,HBE.out.2]; rfl
                  rw [hre]
                  refine ⟨_,_,rfl,rv_t0 _ _,?_⟩
                  have h0:=HBE.out.1
                  have hE:=besides5 w3 (H + 1 + 1) (.int .i64 0) (.int .i64 0) (.string { data:=#[] }) (.slice .none 0 0) (.slice .none 0 0)
                  rw [HS.out]
                  exact ⟨hE.os.trans h0.os,hE.tape.trans h0.tape,hE.output.trans h0.output,Nat.le_trans h0.size hE.size,fun q hq=>(hE.block q (by have:=h0.size; omega) (by omega)).trans (h0.block q (by have:=HS.out; omega))⟩
              · go_simp
                refine hK.out _ _ (⟨y5,y6,y7,y8,y9,e5,e6,e7,e8,e9⟩) (fun hHeld=>?_)
                clear hK K
                refine wpAnyH_ready (rs:=[4]) (by kernel_rfl) (by simp) ?_
                refine AllReadyH.cons (o:=_) rfl (fun K hK=>?_) AllReadyH.nil
                go_simp
                refine (HCB.out).mono ?_
                rintro e wq ⟨xa2,xn2,xc2,ya2,yn2,yc2,rfl,⟨r0,r1,r2,r3,r4⟩,⟨s0,s1,s2,s3,s4⟩,_,_,⟨⟨u0,u1,u2,u3,u4⟩,f0,f1,f2,f3,f4⟩,HXC⟩
                refine hK.out _ _ (⟨r0,r1,r2,r3,r4,s0,s1,s2,s3,s4⟩) (fun hHeld=>?_)
                clear hK K
                refine wpAnyH_take (i:=5) (v:=.tuple #[.agg #[.int .i64 R.1.k,.int .i64 R.1.n,.string R.1.s,.slice xa2 xn2 xc2,.slice ya2 yn2 yc2],.int .i64 R.2]) rfl (by kernel_rfl) (by kernel_rfl) (by kernel_rfl) (fun _ _ _ h=>h) (Or.inl ⟨by rfl,fun w hw=>by go_simp⟩) hHeld ?_
                simp only [Act.put,List.getElem_toArray,List.getElem_cons_zero,List.getElem_cons_succ,List.setIfInBounds_toArray,List.set_cons_zero,List.set_cons_succ]
                refine wpAnyH_take (i:=6) (v:=.agg #[.int .i64 R.1.k,.int .i64 R.1.n,.string R.1.s,.slice xa2 xn2 xc2,.slice ya2 yn2 yc2]) rfl (by kernel_rfl) (by kernel_rfl) (by kernel_rfl) (fun _ _ _ h=>h) (Or.inl ⟨by rfl,fun w hw=>by go_simp⟩) hHeld ?_
                simp only [Act.put,List.getElem_toArray,List.getElem_cons_zero,List.getElem_cons_succ,List.setIfInBounds_toArray,List.set_cons_zero,List.set_cons_succ]
                refine wpAnyH_take (i:=7) (v:=.int .i64 R.2) rfl (by kernel_rfl) (by kernel_rfl) (by kernel_rfl) (fun _ _ _ h=>h) (Or.inl ⟨by rfl,fun w hw=>by go_simp⟩) hHeld ?_
                simp only [Act.put,List.getElem_toArray,List.getElem_cons_zero,List.getElem_cons_succ,List.setIfInBounds_toArray,List.set_cons_zero,List.set_cons_succ]
                have HAF:Hid (obj (((((wq.setCell ⟨wr.heap.size + 1,0,none⟩ (.int .i64 R.1.k)).setCell ⟨wr.heap.size + 1,1,none⟩ (.int .i64 R.1.n)).setCell ⟨wr.heap.size + 1,2,none⟩ (.string R.1.s)).setCell ⟨wr.heap.size + 1,3,none⟩ (.slice xa2 xn2 xc2)).setCell ⟨wr.heap.size + 1,4,none⟩ (.slice ya2 yn2 yc2)) (wr.heap.size + 1) (.int .i64 R.1.k) (.int .i64 R.1.n) (.string R.1.s) (.slice xa2 xn2 xc2) (.slice ya2 yn2 yc2)∧obj (((((wq.setCell ⟨wr.heap.size + 1,0,none⟩ (.int .i64 R.1.k)).setCell ⟨wr.heap.size + 1,1,none⟩ (.int .i64 R.1.n)).setCell ⟨wr.heap.size + 1,2,none⟩ (.string R.1.s)).setCell ⟨wr.heap.size + 1,3,none⟩ (.slice xa2 xn2 xc2)).setCell ⟨wr.heap.size + 1,4,none⟩ (.slice ya2 yn2 yc2)) wr.heap.size (.int .i64 (l j).k) (.int .i64 (l j).n) (.string (l j).s) (.slice xa1 xn1 xc1) (.slice ya1 yn1 yc1)∧Below wr.heap.size wr (((((wq.setCell ⟨wr.heap.size + 1,0,none⟩ (.int .i64 R.1.k)).setCell ⟨wr.heap.size + 1,1,none⟩ (.int .i64 R.1.n)).setCell ⟨wr.heap.size + 1,2,none⟩ (.string R.1.s)).setCell ⟨wr.heap.size + 1,3,none⟩ (.slice xa2 xn2 xc2)).setCell ⟨wr.heap.size + 1,4,none⟩ (.slice ya2 yn2 yc2))∧RV (fun b=>b < A ∨ wr.heap.size < b) (((((wq.setCell ⟨wr.heap.size + 1,0,none⟩ (.int .i64 R.1.k)).setCell ⟨wr.heap.size + 1,1,none⟩ (.int .i64 R.1.n)).setCell ⟨wr.heap.size + 1,2,none⟩ (.string R.1.s)).setCell ⟨wr.heap.size + 1,3,none⟩ (.slice xa2 xn2 xc2)).setCell ⟨wr.heap.size + 1,4,none⟩ (.slice ya2 yn2 yc2)) R.1 (.slice xa2 xn2 xc2) (.slice ya2 yn2 yc2)):=by
                  obtain ⟨h1,h2⟩:=HXC.out
                  obtain ⟨_,u2,u3,_,u5⟩:=HOY.out
                  have o2:=u2.keep (h2.block _ u2.lt)
                  have o3:=u3.keep (h2.block _ u3.lt)
                  have bs5:=besides5 wq (wr.heap.size + 1) (.int .i64 R.1.k) (.int .i64 R.1.n) (.string R.1.s) (.slice xa2 xn2 xc2) (.slice ya2 yn2 yc2)
                  have b3:Below wr.heap.size wr (((((wq.setCell ⟨wr.heap.size + 1,0,none⟩ (.int .i64 R.1.k)).setCell ⟨wr.heap.size + 1,1,none⟩ (.int .i64 R.1.n)).setCell ⟨wr.heap.size + 1,2,none⟩ (.string R.1.s)).setCell ⟨wr.heap.size + 1,3,none⟩ (.slice xa2 xn2 xc2)).setCell ⟨wr.heap.size + 1,4,none⟩ (.slice ya2 yn2 yc2)):=below_set5v (by omega) (u5.trans (h2.mono u5.size))
                  refine ⟨((((o3.set0 _).set1 _).set2 _).set3 _).set4 _,o2.keep (bs5.block _ o2.lt (by omega)),b3,RV.move (fun b hb _=>?_) bs5.size (fun b hb hl=>bs5.block b hl ?_) _ _ _ h1⟩
                  · rcases hb with h | h
                    · exact .inl h
                    · exact .inr (by have e:((wr.alloc (Obj.cells #[.int .i64 (l j).k,.int .i64 (l j).n,.string (l j).s,.slice xa1 xn1 xc1,.slice ya1 yn1 yc1] 55)).alloc zeroV).drew.heap.size = wr.heap.size + 1 + 1:=by show ((wr.alloc (Obj.cells #[.int .i64 (l j).k,.int .i64 (l j).n,.string (l j).s,.slice xa1 xn1 xc1,.slice ya1 yn1 yc1] 55)).alloc zeroV).heap.size = _; simp
                                     omega)
                  · rcases hb with h | h
                    · omega
                    · have e:((wr.alloc (Obj.cells #[.int .i64 (l j).k,.int .i64 (l j).n,.string (l j).s,.slice xa1 xn1 xc1,.slice ya1 yn1 yc1] 55)).alloc zeroV).drew.heap.size = wr.heap.size + 1 + 1:=by show ((wr.alloc (Obj.cells #[.int .i64 (l j).k,.int .i64 (l j).n,.string (l j).s,.slice xa1 xn1 xc1,.slice ya1 yn1 yc1] 55)).alloc zeroV).heap.size = _; simp
                      omega
                have HSS:Hid ((((((wq.setCell ⟨wr.heap.size + 1,0,none⟩ (.int .i64 R.1.k)).setCell ⟨wr.heap.size + 1,1,none⟩ (.int .i64 R.1.n)).setCell ⟨wr.heap.size + 1,2,none⟩ (.string R.1.s)).setCell ⟨wr.heap.size + 1,3,none⟩ (.slice xa2 xn2 xc2)).setCell ⟨wr.heap.size + 1,4,none⟩ (.slice ya2 yn2 yc2)).cell? ⟨wr.heap.size,0,none⟩ = some (.int .i64 (l j).k)∧(((((wq.setCell ⟨wr.heap.size + 1,0,none⟩ (.int .i64 R.1.k)).setCell ⟨wr.heap.size + 1,1,none⟩ (.int .i64 R.1.n)).setCell ⟨wr.heap.size + 1,2,none⟩ (.string R.1.s)).setCell ⟨wr.heap.size + 1,3,none⟩ (.slice xa2 xn2 xc2)).setCell ⟨wr.heap.size + 1,4,none⟩ (.slice ya2 yn2 yc2)).cell? ⟨wr.heap.size,1,none⟩ = some (.int .i64 (l j).n)∧(((((wq.setCell ⟨wr.heap.size + 1,0,none⟩ (.int .i64 R.1.k)).setCell ⟨wr.heap.size + 1,1,none⟩ (.int .i64 R.1.n)).setCell ⟨wr.heap.size + 1,2,none⟩ (.string R.1.s)).setCell ⟨wr.heap.size + 1,3,none⟩ (.slice xa2 xn2 xc2)).setCell ⟨wr.heap.size + 1,4,none⟩ (.slice ya2 yn2 yc2)).cell? ⟨wr.heap.size,2,none⟩ = some (.string (l j).s)∧(((((wq.setCell ⟨wr.heap.size + 1,0,none⟩ (.int .i64 R.1.k)).setCell ⟨wr.heap.size + 1,1,none⟩ (.int .i64 R.1.n)).setCell ⟨wr.heap.size + 1,2,none⟩ (.string R.1.s)).setCell ⟨wr.heap.size + 1,3,none⟩ (.slice xa2 xn2 xc2)).setCell ⟨wr.heap.size + 1,4,none⟩ (.slice ya2 yn2 yc2)).cell? ⟨wr.heap.size,3,none⟩ = some (.slice xa1 xn1 xc1)∧(((((wq.setCell ⟨wr.heap.size + 1,0,none⟩ (.int .i64 R.1.k)).setCell ⟨wr.heap.size + 1,1,none⟩ (.int .i64 R.1.n)).setCell ⟨wr.heap.size + 1,2,none⟩ (.string R.1.s)).setCell ⟨wr.heap.size + 1,3,none⟩ (.slice xa2 xn2 xc2)).setCell ⟨wr.heap.size + 1,4,none⟩ (.slice ya2 yn2 yc2)).cell? ⟨wr.heap.size,4,none⟩ = some (.slice ya1 yn1 yc1)∧(((((wq.setCell ⟨wr.heap.size + 1,0,none⟩ (.int .i64 R.1.k)).setCell ⟨wr.heap.size + 1,1,none⟩ (.int .i64 R.1.n)).setCell ⟨wr.heap.size + 1,2,none⟩ (.string R.1.s)).setCell ⟨wr.heap.size + 1,3,none⟩ (.slice xa2 xn2 xc2)).setCell ⟨wr.heap.size + 1,4,none⟩ (.slice ya2 yn2 yc2)).cell? ⟨H + 1,0,none⟩ = some (.int .i64 x.k)∧(((((wq.setCell ⟨wr.heap.size + 1,0,none⟩ (.int .i64 R.1.k)).setCell ⟨wr.heap.size + 1,1,none⟩ (.int .i64 R.1.n)).setCell ⟨wr.heap.size + 1,2,none⟩ (.string R.1.s)).setCell ⟨wr.heap.size + 1,3,none⟩ (.slice xa2 xn2 xc2)).setCell ⟨wr.heap.size + 1,4,none⟩ (.slice ya2 yn2 yc2)).cell? ⟨H + 1,1,none⟩ = some (.int .i64 x.n)∧(((((wq.setCell ⟨wr.heap.size + 1,0,none⟩ (.int .i64 R.1.k)).setCell ⟨wr.heap.size + 1,1,none⟩ (.int .i64 R.1.n)).setCell ⟨wr.heap.size + 1,2,none⟩ (.string R.1.s)).setCell ⟨wr.heap.size + 1,3,none⟩ (.slice xa2 xn2 xc2)).setCell ⟨wr.heap.size + 1,4,none⟩ (.slice ya2 yn2 yc2)).cell? ⟨H + 1,2,none⟩ = some (.string x.s)∧(((((wq.setCell ⟨wr.heap.size + 1,0,none⟩ (.int .i64 R.1.k)).setCell ⟨wr.heap.size + 1,1,none⟩ (.int .i64 R.1.n)).setCell ⟨wr.heap.size + 1,2,none⟩ (.string R.1.s)).setCell ⟨wr.heap.size + 1,3,none⟩ (.slice xa2 xn2 xc2)).setCell ⟨wr.heap.size + 1,4,none⟩ (.slice ya2 yn2 yc2)).cell? ⟨H + 1,3,none⟩ = some (.slice xa xn xc)∧(((((wq.setCell ⟨wr.heap.size + 1,0,none⟩ (.int .i64 R.1.k)).setCell ⟨wr.heap.size + 1,1,none⟩ (.int .i64 R.1.n)).setCell ⟨wr.heap.size + 1,2,none⟩ (.string R.1.s)).setCell ⟨wr.heap.size + 1,3,none⟩ (.slice xa2 xn2 xc2)).setCell ⟨wr.heap.size + 1,4,none⟩ (.slice ya2 yn2 yc2)).cell? ⟨H + 1,4,none⟩ = some (.slice ya yn yc)):=⟨HAF.out.2.1.cells.1,HAF.out.2.1.cells.2.1,HAF.out.2.1.cells.2.2.1,HAF.out.2.1.cells.2.2.2.1,HAF.out.2.1.cells.2.2.2.2,by
                  have bs5:=besides5 wq (wr.heap.size + 1) (.int .i64 R.1.k) (.int .i64 R.1.n) (.string R.1.s) (.slice xa2 xn2 xc2) (.slice ya2 yn2 yc2)
                  have ox:=HQ.out.2.1.2.2.1
                  have ox3:=ox.keep (HAF.out.2.2.1.block _ ox.lt)
                  exact ox3.cells⟩
                refine wpAnyH_ready (rs:=[9]) (by kernel_rfl) (by simp) ?_
                refine AllReadyH.cons (o:=_) rfl (fun K hK=>?_) AllReadyH.nil
                go_simp
                refine hK.out _ _ HSS.out (fun hHeld=>?_)
                clear hK K
                refine wpAnyH_take (i:=10) (v:=.int .i64 R.2) rfl (by kernel_rfl) (by kernel_rfl) (by kernel_rfl) (fun _ _ _ h=>h) (Or.inl ⟨by rfl,fun w hw=>by go_simp⟩) hHeld ?_
                simp only [Act.put,List.getElem_toArray,List.getElem_cons_zero,List.getElem_cons_succ,List.setIfInBounds_toArray,List.set_cons_zero,List.set_cons_succ]
                refine wpAnyH_done (by kernel_rfl) ?_ _
                clear HXC HOY HCA HCB hHeld HSS r0 r1 r2 r3 r4 s0 s1 s2 s3 s4 y0 y1 y2 y3 y4 y5 y6 y7 y8 y9 e0 e1 e2 e3 e4 e5 e6 e7 e8 e9 u0 u1 u2 u3 u4 f0 f1 f2 f3 f4
                generalize hzb:wr.heap.size + 1 = zb at HAF ⊢
                clear hzb
                generalize (((((wq.setCell ⟨zb,0,none⟩ (.int .i64 R.1.k)).setCell ⟨zb,1,none⟩ (.int .i64 R.1.n)).setCell ⟨zb,2,none⟩ (.string R.1.s)).setCell ⟨zb,3,none⟩ (.slice xa2 xn2 xc2)).setCell ⟨zb,4,none⟩ (.slice ya2 yn2 yc2)) = w3 at HAF ⊢
                obtain ⟨k0,k1,k2,k3,k4⟩:=HAF.out.1.cells
                obtain ⟨m0,m1,m2,m3,m4⟩:=HAF.out.2.1.cells
                have n0:=HAF.out.2.1.frozen 0
                have n1':=HAF.out.2.1.frozen 1
                have n2':=HAF.out.2.1.frozen 2
                have n3:=HAF.out.2.1.frozen 3
                have n4:=HAF.out.2.1.frozen 4
                by_cases hz:R.2 = 0
                · have bY:Below wr.heap.size wr (((((w3.setCell ⟨wr.heap.size,0,none⟩ (.int .i64 R.1.k)).setCell ⟨wr.heap.size,1,none⟩ (.int .i64 R.1.n)).setCell ⟨wr.heap.size,2,none⟩ (.string R.1.s)).setCell ⟨wr.heap.size,3,none⟩ (.slice xa2 xn2 xc2)).setCell ⟨wr.heap.size,4,none⟩ (.slice ya2 yn2 yc2)):=below_set5 HAF.out.2.2.1
                  have bO:Below wr.heap.size wr ((((((w3.setCell ⟨wr.heap.size,0,none⟩ (.int .i64 R.1.k)).setCell ⟨wr.heap.size,1,none⟩ (.int .i64 R.1.n)).setCell ⟨wr.heap.size,2,none⟩ (.string R.1.s)).setCell ⟨wr.heap.size,3,none⟩ (.slice xa2 xn2 xc2)).setCell ⟨wr.heap.size,4,none⟩ (.slice ya2 yn2 yc2)).alloc (Obj.cells #[.int .i64 R.1.k,.int .i64 R.1.n,.string R.1.s,.slice xa2 xn2 xc2,.slice ya2 yn2 yc2] 55)):=bY.alloc bY.size _
                  have hsY:(((((w3.setCell ⟨wr.heap.size,0,none⟩ (.int .i64 R.1.k)).setCell ⟨wr.heap.size,1,none⟩ (.int .i64 R.1.n)).setCell ⟨wr.heap.size,2,none⟩ (.string R.1.s)).setCell ⟨wr.heap.size,3,none⟩ (.slice xa2 xn2 xc2)).setCell ⟨wr.heap.size,4,none⟩ (.slice ya2 yn2 yc2)).heap.size = w3.heap.size:=by simp [World.setCell]
                  have bs5:=besides5 w3 wr.heap.size (.int .i64 R.1.k) (.int .i64 R.1.n) (.string R.1.s) (.slice xa2 xn2 xc2) (.slice ya2 yn2 yc2)
                  have HA:Hid (((((((w3.setCell ⟨wr.heap.size,0,none⟩ (.int .i64 R.1.k)).setCell ⟨wr.heap.size,1,none⟩ (.int .i64 R.1.n)).setCell ⟨wr.heap.size,2,none⟩ (.string R.1.s)).setCell ⟨wr.heap.size,3,none⟩ (.slice xa2 xn2 xc2)).setCell ⟨wr.heap.size,4,none⟩ (.slice ya2 yn2 yc2)).alloc (Obj.cells #[.int .i64 R.1.k,.int .i64 R.1.n,.string R.1.s,.slice xa2 xn2 xc2,.slice ya2 yn2 yc2] 55)).ownsRow (H + 3) 55 5 (.slice la L.length lc) L.length us∧obj ((((((w3.setCell ⟨wr.heap.size,0,none⟩ (.int .i64 R.1.k)).setCell ⟨wr.heap.size,1,none⟩ (.int .i64 R.1.n)).setCell ⟨wr.heap.size,2,none⟩ (.string R.1.s)).setCell ⟨wr.heap.size,3,none⟩ (.slice xa2 xn2 xc2)).setCell ⟨wr.heap.size,4,none⟩ (.slice ya2 yn2 yc2)).alloc (Obj.cells #[.int .i64 R.1.k,.int .i64 R.1.n,.string R.1.s,.slice xa2 xn2 xc2,.slice ya2 yn2 yc2] 55)) w3.heap.size (.int .i64 R.1.k) (.int .i64 R.1.n) (.string R.1.s) (.slice xa2 xn2 xc2) (.slice ya2 yn2 yc2)∧Below wr.heap.size wr ((((((w3.setCell ⟨wr.heap.size,0,none⟩ (.int .i64 R.1.k)).setCell ⟨wr.heap.size,1,none⟩ (.int .i64 R.1.n)).setCell ⟨wr.heap.size,2,none⟩ (.string R.1.s)).setCell ⟨wr.heap.size,3,none⟩ (.slice xa2 xn2 xc2)).setCell ⟨wr.heap.size,4,none⟩ (.slice ya2 yn2 yc2)).alloc (Obj.cells #[.int .i64 R.1.k,.int .i64 R.1.n,.string R.1.s,.slice xa2 xn2 xc2,.slice ya2 yn2 yc2] 55))∧RV (fun b=>b < A ∨ (H + 3 ≤ b∧(Value.slice la L.length lc).ownBlock ≠ some b)) ((((((w3.setCell ⟨wr.heap.size,0,none⟩ (.int .i64 R.1.k)).setCell ⟨wr.heap.size,1,none⟩ (.int .i64 R.1.n)).setCell ⟨wr.heap.size,2,none⟩ (.string R.1.s)).setCell ⟨wr.heap.size,3,none⟩ (.slice xa2 xn2 xc2)).setCell ⟨wr.heap.size,4,none⟩ (.slice ya2 yn2 yc2)).alloc (Obj.cells #[.int .i64 R.1.k,.int .i64 R.1.n,.string R.1.s,.slice xa2 xn2 xc2,.slice ya2 yn2 yc2] 55)) R.1 (.slice xa2 xn2 xc2) (.slice ya2 yn2 yc2)):=by
                    refine ⟨own_keep HQ.out.2.2.2.1 (fun x _ hx=>bO.block x hx),(by have h:=heap_new (((((w3.setCell ⟨wr.heap.size,0,none⟩ (.int .i64 R.1.k)).setCell ⟨wr.heap.size,1,none⟩ (.int .i64 R.1.n)).setCell ⟨wr.heap.size,2,none⟩ (.string R.1.s)).setCell ⟨wr.heap.size,3,none⟩ (.slice xa2 xn2 xc2)).setCell ⟨wr.heap.size,4,none⟩ (.slice ya2 yn2 yc2)) (Obj.cells #[.int .i64 R.1.k,.int .i64 R.1.n,.string R.1.s,.slice xa2 xn2 xc2,.slice ya2 yn2 yc2] 55); rw [hsY] at h; exact h),bO,?_⟩
                    have hr5:RV (fun b=>b < A ∨ wr.heap.size < b) (((((w3.setCell ⟨wr.heap.size,0,none⟩ (.int .i64 R.1.k)).setCell ⟨wr.heap.size,1,none⟩ (.int .i64 R.1.n)).setCell ⟨wr.heap.size,2,none⟩ (.string R.1.s)).setCell ⟨wr.heap.size,3,none⟩ (.slice xa2 xn2 xc2)).setCell ⟨wr.heap.size,4,none⟩ (.slice ya2 yn2 yc2)) R.1 (.slice xa2 xn2 xc2) (.slice ya2 yn2 yc2):=RV.move (fun _ h _=>h) bs5.size (fun b hb hl=>bs5.block b hl (by rcases hb with h | h <;> omega)) _ _ _ HAF.out.2.2.2
                    exact RV.move (fun b hb _=>by
                      rcases hb with h | h
                      · exact .inl h
                      · exact .inr ⟨by omega,fun e=>by have:=(own_lt HQ.out.2.2.2.1 e).2; omega⟩) (by simp) (fun b _ hl=>Below.heap_alloc _ _ _ hl) _ _ _ hr5
                  have hh3:H + 3 ≤ w3.heap.size:=Nat.le_trans h3H HAF.out.2.2.1.size
                  have oY:obj (((((w3.setCell ⟨wr.heap.size,0,none⟩ (.int .i64 R.1.k)).setCell ⟨wr.heap.size,1,none⟩ (.int .i64 R.1.n)).setCell ⟨wr.heap.size,2,none⟩ (.string R.1.s)).setCell ⟨wr.heap.size,3,none⟩ (.slice xa2 xn2 xc2)).setCell ⟨wr.heap.size,4,none⟩ (.slice ya2 yn2 yc2)) wr.heap.size (.int .i64 R.1.k) (.int .i64 R.1.n) (.string R.1.s) (.slice xa2 xn2 xc2) (.slice ya2 yn2 yc2):=((((HAF.out.2.1.set0 _).set1 _).set2 _).set3 _).set4 _
                  obtain ⟨h50,h51,h52,h53,h54⟩:=oY.cells
                  clear oY
                  clear bY bO bs5
                  go_wp2_with (at_builtin; refine append_val rfl _ _ rfl rfl HA.out.1 w3.heap.size rfl HA.out.2.1 rfl rfl (by simp; omega) (by omega) ?_)
                  intro v' w5 ho5 hg5 ha5
                  obtain ⟨a5,c5,rfl⟩:=ownForm ho5
                  have HN:Hid (lG nm (wiT x p) l (j + 1) = .inl (L ++ [R.1])∧WLv H w w5 3 n s (.slice (some ⟨b,ob,none⟩) ln ca) (.slice a' dn ca') x (.slice xa xn xc) (.slice ya yn yc)∧VRow (H + 3) (Sw A (H + 3) (.slice a5 (L.length + 1) c5)) w5 (.slice a5 (L.length + 1) c5) (L ++ [R.1])):=by
                    obtain ⟨q1,q2,q3,q4,q5⟩:=HQ.out
                    refine ⟨?_,(q2.keep HS.out HA.out.2.2.1).grow HS.out hg5 (fun q hq=>(own_lt q4 hq).1),vrow_add (by omega) q3 q4.1 HA.out.2.2.1 HA.out.2.2.2 (fun q hq=>own_lt q4 hq) hg5 (by simpa using ha5) ho5⟩
                    unfold lG
                    rw [q1]
                    dsimp only
                    rw [if_pos HJI.out,HRR.out,if_pos hz]
                  clear HQ HA HAF ho5 hg5 ha5 c3 g1 g2 g3 g4 g5 k0 k1 k2 k3 k4 m0 m1 m2 m3 m4 hsY hh3 h50 h51 h52 h53 h54
                  go_wp2
                  go_roundw
                  case rel=>exact ⟨j + 1,L ++ [R.1],by omega,by go_num,by simp; omega,HN⟩
                  case measure=>simp [intOf]; omega
                · have hz':(R.2 != 0) = true:=by simpa using hz
                  have hor:=((HQ.out.2.1.keep HS.out HAF.out.2.2.1).2.2.2)
                  have HOR:=Lib.hid hor
                  obtain ⟨o0,o1,o2,o3,o4⟩:=hor.cells
                  have p0':=hor.frozen 0
                  have p1':=hor.frozen 1
                  have p2':=hor.frozen 2
                  have p3':=hor.frozen 3
                  have p4':=hor.frozen 4
                  have HBE:Hid (Below H w w3∧lG nm (wiT x p) l ln = .inr R.2):=by
                    obtain ⟨q1,q2,_⟩:=HQ.out
                    refine ⟨(q2.keep HS.out HAF.out.2.2.1).1,?_⟩
                    rw [← HJI.out,lG_out]
                    have e1:(wiT x p (l j)).2 = R.2:=by rw [HRR.out]
                    rw [if_pos ⟨hlt,by rw [e1]; exact hz⟩,e1]
                  clear HQ HAF hor k0 k1 k2 k3 k4 m0 m1 m2 m3 m4 c3 g1 g2 g3 g4 g5
                  go_wp2
                  refine bodyPost_ret (v:=.tuple #[vv t0 (.slice none 0 0) (.slice none 0 0),.int .i64 R.2]) (results_cell55t Tryz.results39 _ _ (H + 1 + 1) _ rfl (((((HOR.out.set0 _).set1 _).set2 _).set3 _).set4 _) rfl) rfl ?_
                  have hre:RES = (t0,R.2):=by rw [← HRES.out,HBE.out.2]; rfl
                  rw [hre]
                  refine ⟨_,_,rfl,rv_t0 _ _,?_⟩
                  have h0:=HBE.out.1
                  have hE:=besides5 w3 (H + 1 + 1) (.int .i64 0) (.int .i64 0) (.string { data:=#[] }) (.slice .none 0 0) (.slice .none 0 0)
                  rw [HS.out]
                  exact ⟨hE.os.trans h0.os,hE.tape.trans h0.tape,hE.output.trans h0.output,Nat.le_trans h0.size hE.size,fun q hq=>(hE.block q (by have:=h0.size; omega) (by omega)).trans (h0.block q (by have:=HS.out; omega))⟩
          · have hji':((j:Int) == nm) = false:=beq_eq_false_iff_ne.2 hji
            have bO:Below wr.heap.size wr ((wr.alloc (Obj.cells #[.int .i64 (l j).k,.int .i64 (l j).n,.string (l j).s,.slice xa1 xn1 xc1,.slice ya1 yn1 yc1] 55)).alloc (Obj.cells #[.int .i64 (l j).k,.int .i64 (l j).n,.string (l j).s,.slice xa1 xn1 xc1,.slice ya1 yn1 yc1] 55)):=((Below.refl _ _).alloc (Nat.le_refl _) _).alloc (by simp) _
            have oO:obj ((wr.alloc (Obj.cells #[.int .i64 (l j).k,.int .i64 (l j).n,.string (l j).s,.slice xa1 xn1 xc1,.slice ya1 yn1 yc1] 55)).alloc (Obj.cells #[.int .i64 (l j).k,.int .i64 (l j).n,.string (l j).s,.slice xa1 xn1 xc1,.slice ya1 yn1 yc1] 55)) (wr.heap.size + 1) (.int .i64 (l j).k) (.int .i64 (l j).n) (.string (l j).s) (.slice xa1 xn1 xc1) (.slice ya1 yn1 yc1):=by have:=heap_new (wr.alloc (Obj.cells #[.int .i64 (l j).k,.int .i64 (l j).n,.string (l j).s,.slice xa1 xn1 xc1,.slice ya1 yn1 yc1] 55)) (Obj.cells #[.int .i64 (l j).k,.int .i64 (l j).n,.string (l j).s,.slice xa1 xn1 xc1,.slice ya1 yn1 yc1] 55); simpa [obj] using this
            have HA:Hid (((wr.alloc (Obj.cells #[.int .i64 (l j).k,.int .i64 (l j).n,.string (l j).s,.slice xa1 xn1 xc1,.slice ya1 yn1 yc1] 55)).alloc (Obj.cells #[.int .i64 (l j).k,.int .i64 (l j).n,.string (l j).s,.slice xa1 xn1 xc1,.slice ya1 yn1 yc1] 55)).ownsRow (H + 3) 55 5 (.slice la L.length lc) L.length us∧obj ((wr.alloc (Obj.cells #[.int .i64 (l j).k,.int .i64 (l j).n,.string (l j).s,.slice xa1 xn1 xc1,.slice ya1 yn1 yc1] 55)).alloc (Obj.cells #[.int .i64 (l j).k,.int .i64 (l j).n,.string (l j).s,.slice xa1 xn1 xc1,.slice ya1 yn1 yc1] 55)) (wr.heap.size + 1) (.int .i64 (l j).k) (.int .i64 (l j).n) (.string (l j).s) (.slice xa1 xn1 xc1) (.slice ya1 yn1 yc1)∧Below wr.heap.size wr ((wr.alloc (Obj.cells #[.int .i64 (l j).k,.int .i64 (l j).n,.string (l j).s,.slice xa1 xn1 xc1,.slice ya1 yn1 yc1] 55)).alloc (Obj.cells #[.int .i64 (l j).k,.int .i64 (l j).n,.string (l j).s,.slice xa1 xn1 xc1,.slice ya1 yn1 yc1] 55))):=⟨own_keep HQ.out.2.2.2.1 (fun x _ hx=>bO.block x hx),oO,bO⟩
            clear bO oO
            go_wp2_with (at_builtin; refine append_val rfl _ _ rfl rfl HA.out.1 (wr.heap.size + 1) rfl HA.out.2.1 rfl rfl (by simp; omega) (by omega) ?_)
            intro v' w5 ho5 hg5 ha5
            obtain ⟨a5,c5,rfl⟩:=ownForm ho5
            have HN:Hid (lG nm (wiT x p) l (j + 1) = .inl (L ++ [l j])∧WLv H w w5 3 n s (.slice (some ⟨b,ob,none⟩) ln ca) (.slice a' dn ca') x (.slice xa xn xc) (.slice ya yn yc)∧VRow (H + 3) (Sw A (H + 3) (.slice a5 (L.length + 1) c5)) w5 (.slice a5 (L.length + 1) c5) (L ++ [l j])):=by
              obtain ⟨q1,q2,q3,q4,q5⟩:=HQ.out
              refine ⟨?_,(q2.keep HS.out HA.out.2.2).grow HS.out hg5 (fun q hq=>(own_lt q4 hq).1),vrow_add (by omega) q3 q4.1 HA.out.2.2 (RV.move (fun b hb _=>.inl hb) HA.out.2.2.size (fun b _ hl=>HA.out.2.2.block b hl) _ _ _ q5) (fun q hq=>own_lt q4 hq) hg5 (by simpa using ha5) ho5⟩
              unfold lG
              rw [q1]
              dsimp only
              rw [if_neg hji]
            clear HQ HA ho5 hg5 ha5 c3 g1 g2 g3 g4 g5
            go_wp2
            go_roundw
            case rel=>exact ⟨j + 1,L ++ [l j],by omega,by go_num,by simp; omega,HN⟩
            case measure=>simp [intOf]; omega
        · obtain rfl:j = ln:=by omega
          have HG:Hid (lG nm (wiT x p) l j = .inl L):=hinv.out.1
          have hor:=hc.2.2.2
          have HOR:Hid (obj wr (H + 1 + 1) (.int .i64 0) (.int .i64 0) (.string { data:=#[] }) (.slice .none 0 0) (.slice .none 0 0)):=hor
          obtain ⟨o0,o1,o2,o3,o4⟩:=hor.cells
          have p0':=hor.frozen 0
          have p1':=hor.frozen 1
          have p2':=hor.frozen 2
          have p3':=hor.frozen 3
          have p4':=hor.frozen 4
          have HVF:Hid (∀ wE,Besides (H + 1 + 1) wr wE → RL (fun b=>b < A ∨ H ≤ b) wE L.length (fun i=>L.getD i .no) (.slice la L.length lc)∧Below H w wE):=fun wE hE=>wl_end (by omega) HS.out hc.1 hinv.out.2.2 hE
          have hnl:(nm == (j:Int)) = false:=beq_eq_false_iff_ne.2 hln
          have HLN:=Lib.hid hln
          clear hc hinv hown hel c3 hor
          go_wp2
          refine bodyPost_ret (v:=.tuple #[vv (tList (L)) (.slice la L.length lc) (.slice none 0 0),.int .i64 0]) (results_cell55t Tryz.results39 _ _ (H + 1 + 1) _ rfl (((((HOR.out.set0 _).set1 _).set2 _).set3 _).set4 _) rfl) rfl ?_
          have hre:RES = (tList (L),0):=by
            rw [← HRES.out,HG.out]
            show (tList (if nm = (j:Int) then _ else _),(0:Int)) = _
            rw [if_neg HLN.out]
          rw [hre]
          refine ⟨(.slice la L.length lc),.slice none 0 0,rfl,?_,?_⟩
          · rw [HS.out]
            exact ⟨(HVF.out _ (besides5 _ _ _ _ _ _ _)).1,⟨none,0,rfl,.inl rfl⟩⟩
          · rw [HS.out]
            exact (HVF.out _ (besides5 _ _ _ _ _ _ _)).2
end Go.Proofs.YtdlnnnlmlaploabGreatDoor
