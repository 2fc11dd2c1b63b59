import Derived.Test.YtdlnnnlmlaploabGreatDoorK29
import Derived.Test.YtdlnnnlmlaploabGreatDoorK24
namespace Go.Proofs.YtdlnnnlmlaploabGreatDoor
open Go.RowKit Go.Deep
theorem dG_stop {key:ByteArray} {em:Bool} {f:T → T × Int} {x:T} {ky:Nat → ByteArray} {dv:Nat → T} {e:Int} {j:Nat}:∀ {n:Nat},j ≤ n → dG key em f x ky dv j = .inr e → dG key em f x ky dv n = .inr e
  | 0, hj, h => by obtain rfl : j = 0 := by omega
                   exact h
  | n + 1,hj,h=>by
    by_cases e1:j = n + 1
    · subst e1; exact h
    · have:=dG_stop (n:=n) (by omega) h
      unfold dG
      rw [this]
theorem wi_packE {x t:T} {p:List (Int × ByteArray)} (ih:WIC 23 x p t) {A:Nat} {X1 Y1 X2 Y2:Value} {W:World} {sa:Option Addr} {sc:Nat} (Ex:World → Prop) (hEx:∀ w',Below W.heap.size W w' → Ex w') (hA:A ≤ W.heap.size) (hP:PSA A W (.slice sa p.length sc) p) (hpc:p.length ≤ sc) (hpl:p.length ≤ 140737488351232) (hr:RV (fun b=>b < A) W t X1 Y1) (hsm:t.small) (hx:RV (fun b=>b < A) W x X2 Y2) :
    Calls Tryz.prog 23 #[.agg #[.int .i64 t.k,.int .i64 t.n,.string t.s,X1,Y1],.slice sa p.length sc,.agg #[.int .i64 x.k,.int .i64 x.n,.string x.s,X2,Y2]] W fun e w'=>∃ xa2 xn2 xc2 ya2 yn2 yc2,e = .returned (.tuple #[.agg #[.int .i64 (wiT x p t).1.k,.int .i64 (wiT x p t).1.n,.string (wiT x p t).1.s,.slice xa2 xn2 xc2,.slice ya2 yn2 yc2],.int .i64 (wiT x p t).2])∧Ex w'∧Hid (RV (fun b=>b < A ∨ W.heap.size ≤ b) w' (wiT x p t).1 (.slice xa2 xn2 xc2) (.slice ya2 yn2 yc2)∧Below W.heap.size W w'):=by
  refine (ih A X1 Y1 X2 Y2 W sa sc hA hP hpc hpl hr hsm hx).mono ?_
  rintro e w' ⟨x',y',rfl,h1,h2⟩
  obtain ⟨⟨xa2,xn2,xc2,rfl⟩,⟨ya2,yn2,yc2,rfl⟩⟩:=h1.slices
  exact ⟨xa2,xn2,xc2,ya2,yn2,yc2,rfl,hEx w' h2,h1,h2⟩
theorem wd_end {A H:Nat} {w wr wE:World} {lv:Value} {L:List (ByteArray × T)} (hAH:A ≤ H) (hS:w.heap.size = H) (hc:Below H w wr) (hV:PRow (H + 3) (Sw A (H + 3) lv) wr lv L) (hE:Besides (H + 1 + 1) wr wE):RD (fun b=>b < A ∨ H ≤ b) wE L.length (fun i=>(L.getD i (ByteArray.empty,.no)).1) (fun i=>(L.getD i (ByteArray.empty,.no)).2) lv∧Below H w wE:=by
  have hlo:∀ q,lv.ownBlock = some q → H + 3 ≤ q:=fun q hq=>by
    obtain ⟨us,h1,_⟩:=hV
    exact (own_lt h1 hq).1
  have hV2:PRow (H + 3) (fun b=>b < A ∨ H + 3 ≤ b) wE lv L:=hV.keep hE.size (fun q hq hl=>hE.block q hl (by have:=hlo q hq; omega)) (fun b hb hl=>⟨by rcases hb with h | h; exact .inl h; exact .inr h.1,hE.block b hl (by rcases hb with h | h <;> omega)⟩)
  exact ⟨hV2.rd (fun b hb=>by rcases hb with h | h; exact .inl h; exact .inr (by omega)) (fun q hq=>.inr (by have:=hlo q hq; omega)),⟨hE.os.trans hc.os,hE.tape.trans hc.tape,hE.output.trans hc.output,Nat.le_trans hc.size hE.size,fun q hq=>(hE.block q (by have:=hc.size; omega) (by omega)).trans (hc.block q (by omega))⟩⟩
set_option maxRecDepth 10000 in
set_option maxHeartbeats 8000000 in
theorem in_dict {x:T} {q:Int × ByteArray} {p:List (Int × ByteArray)} {n:Int} {s:ByteArray} {ln:Nat} {l:Nat → T} {dn:Nat} {ky:Nat → ByteArray} {dv:Nat → T} (ih:∀ t,WIC 23 x p t):WIC 40 x (q :: p) (.mk 4 n s ln l dn ky dv):=by
  intro A x1 y1 x2 y2 w pa pc hA hP hpc hpl hr hsm hrx
  obtain ⟨⟨a,ca,rfl,_⟩,⟨a',ca',rfl,hL⟩⟩:=hr
  obtain ⟨⟨xa,xn,xc,rfl⟩,⟨ya,yn,yc,rfl⟩⟩:=hrx.slices
  obtain ⟨pa',pc',eP,hP⟩:=hP
  cases eP
  rcases hP with h | ⟨pg,po,rfl,hpg,hpp⟩
  · cases h
  have p0:w.cell? ⟨pg,po + 1,none⟩ = some (.string q.2):=by have:=(hpp 0 q.1 q.2 rfl).2; simpa using this
  have hpsz:pg < w.heap.size:=Nat.lt_of_lt_of_le hpg hA
  have hlen:(q :: p).length = p.length + 1:=rfl
  rw [hlen] at hpc hpl ⊢
  rw [wiT_dictR]
  have hlnl:=hsm.2.1
  have hsm3:=hsm.2.2.2
  have HI:Hid ((∀ t,WIC 23 x p t)∧(∀ j,j < dn → (dv j).small)∧(∀ m n k,(q :: p)[m]? = some (n,k) → w.cell? ⟨pg,po + m * 2,none⟩ = some (.int .i64 n)∧w.cell? ⟨pg,po + m * 2 + 1,none⟩ = some (.string k)) ∧
      (dn = 0 ∨ ∃ b o,a' = some ⟨b,o,none⟩∧b < A∧b < w.heap.size∧∀ i,i < dn → ∃ x' y',RV (fun b=>b < A) w (dv i) x' y'∧w.cell? ⟨b,o + i * 6,none⟩ = some (.string (ky i))∧five w b (o + i * 6 + 1) (dv i) x' y')∧RV (fun b=>b < A) w x (.slice xa xn xc) (.slice ya yn yc)):=⟨ih,hsm3,hpp,hL,hrx⟩
  clear ih hsm3 hsm hL hpp hlen hrx
  obtain ⟨nm,key⟩:=q
  dsimp only at p0 ⊢
  generalize hpn:p.length + 1 = pn at *
  have HPN:Hid (p.length + 1 = pn):=hpn
  have pn0:(0:Int) < (pn:Int):=by omega
  have pn1:0 < pn:=by omega
  clear hpn
  have HEM:Hid ((pn = 1 → p.isEmpty = true)∧(1 < pn → p.isEmpty = false)):=by
    have:=HPN.out
    cases p with
    | nil=>exact ⟨fun _=>rfl,fun h=>by rw [List.length_nil] at this; omega⟩
    | cons _ _=>exact ⟨fun h=>by rw [List.length_cons] at this; omega,fun _=>rfl⟩
  generalize hRES:wdR x key p.isEmpty (dG key p.isEmpty (wiT x p) x ky dv dn) = RES
  have HRES:=Lib.hid hRES
  clear hRES
  have HC0:Hid (∀ w',w' = (((w.alloc (Obj.cells #[.int .i64 4,.int .i64 n,.string s,.slice a ln ca,.slice a' dn ca'] 55)).alloc (Obj.cells #[.int .i64 x.k,.int .i64 x.n,.string x.s,.slice xa xn xc,.slice ya yn yc] 55)).alloc (Obj.cells #[.int .i64 0,.int .i64 0,.string { data:=#[] },.slice .none 0 0,.slice .none 0 0] 55)) → WLv w.heap.size w w' 4 n s (.slice a ln ca) (.slice a' dn ca') x (.slice xa xn xc) (.slice ya yn yc)):=by
    rintro w' rfl
    refine ⟨(((Below.refl _ _).alloc (Nat.le_refl _) _).alloc (by simp) _).alloc (by simp; omega) _,?_,?_,?_⟩
    · exact (Below.heap_alloc _ _ _ (by simp; omega)).trans ((Below.heap_alloc _ _ _ (by simp)).trans (heap_new _ _))
    · exact (Below.heap_alloc _ _ _ (by simp)).trans (by have:=heap_new (w.alloc (Obj.cells #[.int .i64 4,.int .i64 n,.string s,.slice a ln ca,.slice a' dn ca'] 55)) (Obj.cells #[.int .i64 x.k,.int .i64 x.n,.string x.s,.slice xa xn xc,.slice ya yn yc] 55); simpa using this)
    · have:=heap_new ((w.alloc (Obj.cells #[.int .i64 4,.int .i64 n,.string s,.slice a ln ca,.slice a' dn ca'] 55)).alloc (Obj.cells #[.int .i64 x.k,.int .i64 x.n,.string x.s,.slice xa xn xc,.slice ya yn yc] 55)) (Obj.cells #[.int .i64 0,.int .i64 0,.string { data:=#[] },.slice .none 0 0,.slice .none 0 0] 55)
      simpa [obj] using this
  have p1:(((w.alloc (Obj.cells #[.int .i64 4,.int .i64 n,.string s,.slice a ln ca,.slice a' dn ca'] 55)).alloc (Obj.cells #[.int .i64 x.k,.int .i64 x.n,.string x.s,.slice xa xn xc,.slice ya yn yc] 55)).alloc (Obj.cells #[.int .i64 0,.int .i64 0,.string { data:=#[] },.slice .none 0 0,.slice .none 0 0] 55)).cell? ⟨pg,po + 1,none⟩ = some (.string key):=cell_alloc_old (cell_alloc_old (cell_alloc_old p0))
  show Calls Tryz.prog 40 #[.agg #[.int .i64 4,.int .i64 n,.string s,.slice a ln ca,.slice a' dn ca'],.slice (some ⟨pg,po,none⟩) pn pc,.agg #[.int .i64 x.k,.int .i64 x.n,.string x.s,.slice xa xn xc,.slice ya yn yc]] w _
  go_enter Tryz.func40,Tryz.ntmps40
  go_wp2
  clear p1 p0
  have HC:=Lib.hid (HC0.out _ rfl)
  clear HC0
  generalize (((w.alloc (Obj.cells #[.int .i64 4,.int .i64 n,.string s,.slice a ln ca,.slice a' dn ca'] 55)).alloc (Obj.cells #[.int .i64 x.k,.int .i64 x.n,.string x.s,.slice xa xn xc,.slice ya yn yc] 55)).alloc (Obj.cells #[.int .i64 0,.int .i64 0,.string { data:=#[] },.slice .none 0 0,.slice .none 0 0] 55)) = W0 at *
  generalize hvb:w.heap.size = H at *
  have HS:Hid (w.heap.size = H):=hvb
  clear hvb
  go_loopw [9,10,11] (fun lv dvv iv wr=>∃ (j:Nat) (L:List (ByteArray × T)) (d:Bool),j ≤ dn∧iv = .int .i64 j∧dvv = .bool d∧L.length ≤ 2 * j∧Hid (dG key p.isEmpty (wiT x p) x ky dv j = .inl (L,d)∧WLv H w wr 4 n s (.slice a ln ca) (.slice a' dn ca') x (.slice xa xn xc) (.slice ya yn yc)∧PRow (H + 3) (Sw A (H + 3) lv) wr lv L)) (fun _ _ iv _=>dn - (intOf iv).toNat)
  case atStart=>exact ⟨0, [],false,Nat.zero_le _,rfl,rfl,Nat.zero_le _,rfl,HC.out,PRow.nil _ _ _⟩
  case round =>
    clear HC
    obtain ⟨j,L,d,hj,rfl,rfl,hLl,hinv⟩:=hrel
    have hc:=hinv.out.2.1
    obtain ⟨_,_,_,_,c3⟩:=hc.2.1.cells
    obtain ⟨us,hown,hel⟩:=hinv.out.2.2
    obtain ⟨la,lc,rfl⟩:=ownForm hown
    by_cases hlt:j < dn
    · have j0:(0:Int) ≤ (j:Int):=by omega
      have j1:(j:Int) < (dn:Int):=by omega
      obtain ⟨_,_,_,hL,_⟩:=HI.out
      rcases hL with h | ⟨b,ob,rfl,hbA,hbl,hL⟩
      · omega
      obtain ⟨x1,y1,hv,g0,g1,g2,g3,g4,g5⟩:=hL j hlt
      have hle:w.heap.size ≤ H:=Nat.le_of_eq HS.out
      replace g0:=Below.cellS hc.1 hle g0
      replace g1:=Below.cellS hc.1 hle g1
      replace g2:=Below.cellS hc.1 hle g2
      replace g3:=Below.cellS hc.1 hle g3
      replace g4:=Below.cellS hc.1 hle g4
      replace g5:=Below.cellS hc.1 hle g5
      obtain ⟨⟨xa1,xn1,xc1,rfl⟩,⟨ya1,yn1,yc1,rfl⟩⟩:=hv.slices
      have h3H:H + 3 ≤ wr.heap.size:=by have:=hc.2.2.2.lt; omega
      have hv':RV (fun b=>b < A) wr (dv j) (.slice xa1 xn1 xc1) (.slice ya1 yn1 yc1):=RV.move (fun _ h _=>h) hc.1.size (fun b hb _=>hc.1.block b (Nat.lt_of_lt_of_le hb hA)) _ _ _ hv
      have HQ:Hid (dG key p.isEmpty (wiT x p) x ky dv j = .inl (L,d)∧WLv H w wr 4 n s (.slice a ln ca) (.slice (some ⟨b,ob,none⟩) dn ca') x (.slice xa xn xc) (.slice ya yn yc)∧(∀ k,k < L.length → ∃ x y,RV (Sw A (H + 3) (.slice la L.length lc)) wr (L.getD k (ByteArray.empty,.no)).2 x y∧∀ r,r < 6 → us[k * 6 + r]? = (.string (L.getD k (ByteArray.empty,.no)).1 :: cv (L.getD k (ByteArray.empty,.no)).2 x y)[r]?)∧wr.ownsRow (H + 3) 67 6 (.slice la L.length lc) L.length us∧RV (fun b=>b < A) wr (dv j) (.slice xa1 xn1 xc1) (.slice ya1 yn1 yc1)):=⟨hinv.out.1,hc,hel,hown,hv'⟩
      clear hc hel hown hv hv' hinv hL hle
      have hoP:blk (wr.alloc (Obj.cells #[.string (ky j),.int .i64 (dv j).k,.int .i64 (dv j).n,.string (dv j).s,.slice xa1 xn1 xc1,.slice ya1 yn1 yc1] 67)) wr.heap.size 67 #[.string (ky j),.int .i64 (dv j).k,.int .i64 (dv j).n,.string (dv j).s,.slice xa1 xn1 xc1,.slice ya1 yn1 yc1]:=heap_new _ _
      have i0:(wr.alloc (Obj.cells #[.string (ky j),.int .i64 (dv j).k,.int .i64 (dv j).n,.string (dv j).s,.slice xa1 xn1 xc1,.slice ya1 yn1 yc1] 67)).cell? ⟨wr.heap.size,0,none⟩ = some (.string (ky j)):=hoP.cell 0
      clear hoP
      by_cases hji:ky j = key
      · have HJI:=Lib.hid hji
        have hk2:((ky j).toList == key.toList) = true:=by rw [hji]; simp
        have hk3:Op.bytesLess (ky j).toList key.toList = false:=by rw [hji]; exact less_irrefl _
        clear hji
        have bW:Below wr.heap.size wr (wr.alloc (Obj.cells #[.string (ky j),.int .i64 (dv j).k,.int .i64 (dv j).n,.string (dv j).s,.slice xa1 xn1 xc1,.slice ya1 yn1 yc1] 67)).drew:=((Below.refl _ _).alloc (Nat.le_refl _) _).drew
        have bZ:Below wr.heap.size wr ((wr.alloc (Obj.cells #[.string (ky j),.int .i64 (dv j).k,.int .i64 (dv j).n,.string (dv j).s,.slice xa1 xn1 xc1,.slice ya1 yn1 yc1] 67)).alloc zeroV).drew:=(((Below.refl _ _).alloc (Nat.le_refl _) _).alloc (by simp) _).drew
        have hHw:=HS.out
        have hplen:p.length ≤ 140737488351232:=by have:=HPN.out; omega
        have hAr:A ≤ wr.heap.size:=by omega
        have hpr:∀ m n k,((nm,key) :: p)[m]? = some (n,k) → wr.cell? ⟨pg,po + m * 2,none⟩ = some (.int .i64 n)∧wr.cell? ⟨pg,po + m * 2 + 1,none⟩ = some (.string k):=fun m n k hm=>by
          obtain ⟨z1,z2⟩:=HI.out.2.2.1 m n k hm
          have hbk:=HQ.out.2.1.1.block pg (by omega)
          exact ⟨(World.cell?_of_block (w:=w) hbk).trans z1,(World.cell?_of_block (w:=w) hbk).trans z2⟩
        have oyA:blk (wr.alloc (Obj.cells #[.string (ky j),.int .i64 (dv j).k,.int .i64 (dv j).n,.string (dv j).s,.slice xa1 xn1 xc1,.slice ya1 yn1 yc1] 67)).drew wr.heap.size 67 #[.string (ky j),.int .i64 (dv j).k,.int .i64 (dv j).n,.string (dv j).s,.slice xa1 xn1 xc1,.slice ya1 yn1 yc1]:=heap_new _ _
        have oyB:blk ((wr.alloc (Obj.cells #[.string (ky j),.int .i64 (dv j).k,.int .i64 (dv j).n,.string (dv j).s,.slice xa1 xn1 xc1,.slice ya1 yn1 yc1] 67)).alloc zeroV).drew wr.heap.size 67 #[.string (ky j),.int .i64 (dv j).k,.int .i64 (dv j).n,.string (dv j).s,.slice xa1 xn1 xc1,.slice ya1 yn1 yc1]:=(Below.heap_alloc _ _ _ (by simp)).trans (heap_new _ _)
        have ozB:obj ((wr.alloc (Obj.cells #[.string (ky j),.int .i64 (dv j).k,.int .i64 (dv j).n,.string (dv j).s,.slice xa1 xn1 xc1,.slice ya1 yn1 yc1] 67)).alloc zeroV).drew (wr.heap.size + 1) (.int .i64 0) (.int .i64 0) (.string { data:=#[] }) (.slice .none 0 0) (.slice .none 0 0):=by have h:=heap_new (wr.alloc (Obj.cells #[.string (ky j),.int .i64 (dv j).k,.int .i64 (dv j).n,.string (dv j).s,.slice xa1 xn1 xc1,.slice ya1 yn1 yc1] 67)) zeroV; rw [show (wr.alloc (Obj.cells #[.string (ky j),.int .i64 (dv j).k,.int .i64 (dv j).n,.string (dv j).s,.slice xa1 xn1 xc1,.slice ya1 yn1 yc1] 67)).heap.size = wr.heap.size + 1 by simp] at h; exact h
        have ox0:=HQ.out.2.1.2.2.1
        have oxA:=ox0.keep (bW.block _ ox0.lt)
        have oxB:=ox0.keep (bZ.block _ ox0.lt)
        have hrl:=HQ.out.2.2.2.2
        have hrx:=HI.out.2.2.2.2
        have hb1:=HQ.out.2.1.1
        have hrlA:RV (fun b=>b < A) (wr.alloc (Obj.cells #[.string (ky j),.int .i64 (dv j).k,.int .i64 (dv j).n,.string (dv j).s,.slice xa1 xn1 xc1,.slice ya1 yn1 yc1] 67)).drew (dv j) (.slice xa1 xn1 xc1) (.slice ya1 yn1 yc1):=RV.move (fun _ h _=>h) bW.size (fun b _ hl=>bW.block b hl) _ _ _ hrl
        have hrlB:RV (fun b=>b < A) ((wr.alloc (Obj.cells #[.string (ky j),.int .i64 (dv j).k,.int .i64 (dv j).n,.string (dv j).s,.slice xa1 xn1 xc1,.slice ya1 yn1 yc1] 67)).alloc zeroV).drew (dv j) (.slice xa1 xn1 xc1) (.slice ya1 yn1 yc1):=RV.move (fun _ h _=>h) bZ.size (fun b _ hl=>bZ.block b hl) _ _ _ hrl
        have hrx1:RV (fun b=>b < A) wr x (.slice xa xn xc) (.slice ya yn yc):=RV.move (fun _ h _=>h) hb1.size (fun b hb _=>hb1.block b (by omega)) _ _ _ hrx
        have hrxA:RV (fun b=>b < A) (wr.alloc (Obj.cells #[.string (ky j),.int .i64 (dv j).k,.int .i64 (dv j).n,.string (dv j).s,.slice xa1 xn1 xc1,.slice ya1 yn1 yc1] 67)).drew x (.slice xa xn xc) (.slice ya yn yc):=RV.move (fun _ h _=>h) bW.size (fun b _ hl=>bW.block b hl) _ _ _ hrx1
        have hrxB:RV (fun b=>b < A) ((wr.alloc (Obj.cells #[.string (ky j),.int .i64 (dv j).k,.int .i64 (dv j).n,.string (dv j).s,.slice xa1 xn1 xc1,.slice ya1 yn1 yc1] 67)).alloc zeroV).drew x (.slice xa xn xc) (.slice ya yn yc):=RV.move (fun _ h _=>h) bZ.size (fun b _ hl=>bZ.block b hl) _ _ _ hrx1
        have mk:∀ W',blk W' wr.heap.size 67 #[.string (ky j),.int .i64 (dv j).k,.int .i64 (dv j).n,.string (dv j).s,.slice xa1 xn1 xc1,.slice ya1 yn1 yc1] → obj W' (H + 1) (.int .i64 x.k) (.int .i64 x.n) (.string x.s) (.slice xa xn xc) (.slice ya yn yc) → (W'.cell? ⟨wr.heap.size,1,none⟩ = some (.int .i64 (dv j).k)∧W'.cell? ⟨wr.heap.size,2,none⟩ = some (.int .i64 (dv j).n)∧W'.cell? ⟨wr.heap.size,3,none⟩ = some (.string (dv j).s)∧W'.cell? ⟨wr.heap.size,4,none⟩ = some (.slice xa1 xn1 xc1)∧W'.cell? ⟨wr.heap.size,5,none⟩ = some (.slice ya1 yn1 yc1)∧W'.cell? ⟨H + 1,0,none⟩ = some (.int .i64 x.k)∧W'.cell? ⟨H + 1,1,none⟩ = some (.int .i64 x.n)∧W'.cell? ⟨H + 1,2,none⟩ = some (.string x.s)∧W'.cell? ⟨H + 1,3,none⟩ = some (.slice xa xn xc)∧W'.cell? ⟨H + 1,4,none⟩ = some (.slice ya yn yc)):=fun W' h1 h2=>⟨h1.cell 1,h1.cell 2,h1.cell 3,h1.cell 4,h1.cell 5,h2.cells⟩
        have HSB:Hid (((wr.alloc (Obj.cells #[.string (ky j),.int .i64 (dv j).k,.int .i64 (dv j).n,.string (dv j).s,.slice xa1 xn1 xc1,.slice ya1 yn1 yc1] 67)).alloc zeroV).drew.cell? ⟨wr.heap.size,1,none⟩ = some (.int .i64 (dv j).k)∧((wr.alloc (Obj.cells #[.string (ky j),.int .i64 (dv j).k,.int .i64 (dv j).n,.string (dv j).s,.slice xa1 xn1 xc1,.slice ya1 yn1 yc1] 67)).alloc zeroV).drew.cell? ⟨wr.heap.size,2,none⟩ = some (.int .i64 (dv j).n)∧((wr.alloc (Obj.cells #[.string (ky j),.int .i64 (dv j).k,.int .i64 (dv j).n,.string (dv j).s,.slice xa1 xn1 xc1,.slice ya1 yn1 yc1] 67)).alloc zeroV).drew.cell? ⟨wr.heap.size,3,none⟩ = some (.string (dv j).s)∧((wr.alloc (Obj.cells #[.string (ky j),.int .i64 (dv j).k,.int .i64 (dv j).n,.string (dv j).s,.slice xa1 xn1 xc1,.slice ya1 yn1 yc1] 67)).alloc zeroV).drew.cell? ⟨wr.heap.size,4,none⟩ = some (.slice xa1 xn1 xc1)∧((wr.alloc (Obj.cells #[.string (ky j),.int .i64 (dv j).k,.int .i64 (dv j).n,.string (dv j).s,.slice xa1 xn1 xc1,.slice ya1 yn1 yc1] 67)).alloc zeroV).drew.cell? ⟨wr.heap.size,5,none⟩ = some (.slice ya1 yn1 yc1)∧((wr.alloc (Obj.cells #[.string (ky j),.int .i64 (dv j).k,.int .i64 (dv j).n,.string (dv j).s,.slice xa1 xn1 xc1,.slice ya1 yn1 yc1] 67)).alloc zeroV).drew.cell? ⟨H + 1,0,none⟩ = some (.int .i64 x.k)∧((wr.alloc (Obj.cells #[.string (ky j),.int .i64 (dv j).k,.int .i64 (dv j).n,.string (dv j).s,.slice xa1 xn1 xc1,.slice ya1 yn1 yc1] 67)).alloc zeroV).drew.cell? ⟨H + 1,1,none⟩ = some (.int .i64 x.n)∧((wr.alloc (Obj.cells #[.string (ky j),.int .i64 (dv j).k,.int .i64 (dv j).n,.string (dv j).s,.slice xa1 xn1 xc1,.slice ya1 yn1 yc1] 67)).alloc zeroV).drew.cell? ⟨H + 1,2,none⟩ = some (.string x.s)∧((wr.alloc (Obj.cells #[.string (ky j),.int .i64 (dv j).k,.int .i64 (dv j).n,.string (dv j).s,.slice xa1 xn1 xc1,.slice ya1 yn1 yc1] 67)).alloc zeroV).drew.cell? ⟨H + 1,3,none⟩ = some (.slice xa xn xc)∧((wr.alloc (Obj.cells #[.string (ky j),.int .i64 (dv j).k,.int .i64 (dv j).n,.string (dv j).s,.slice xa1 xn1 xc1,.slice ya1 yn1 yc1] 67)).alloc zeroV).drew.cell? ⟨H + 1,4,none⟩ = some (.slice ya yn yc)):=mk _ oyB oxB
        have HEXA:Hid (∀ w',Below (wr.alloc (Obj.cells #[.string (ky j),.int .i64 (dv j).k,.int .i64 (dv j).n,.string (dv j).s,.slice xa1 xn1 xc1,.slice ya1 yn1 yc1] 67)).drew.heap.size (wr.alloc (Obj.cells #[.string (ky j),.int .i64 (dv j).k,.int .i64 (dv j).n,.string (dv j).s,.slice xa1 xn1 xc1,.slice ya1 yn1 yc1] 67)).drew w' → ((w'.cell? ⟨wr.heap.size,1,none⟩ = some (.int .i64 (dv j).k)∧w'.cell? ⟨wr.heap.size,2,none⟩ = some (.int .i64 (dv j).n)∧w'.cell? ⟨wr.heap.size,3,none⟩ = some (.string (dv j).s)∧w'.cell? ⟨wr.heap.size,4,none⟩ = some (.slice xa1 xn1 xc1)∧w'.cell? ⟨wr.heap.size,5,none⟩ = some (.slice ya1 yn1 yc1)∧w'.cell? ⟨H + 1,0,none⟩ = some (.int .i64 x.k)∧w'.cell? ⟨H + 1,1,none⟩ = some (.int .i64 x.n)∧w'.cell? ⟨H + 1,2,none⟩ = some (.string x.s)∧w'.cell? ⟨H + 1,3,none⟩ = some (.slice xa xn xc)∧w'.cell? ⟨H + 1,4,none⟩ = some (.slice ya yn yc))∧((w'.alloc zeroV).cell? ⟨wr.heap.size,1,none⟩ = some (.int .i64 (dv j).k)∧(w'.alloc zeroV).cell? ⟨wr.heap.size,2,none⟩ = some (.int .i64 (dv j).n)∧(w'.alloc zeroV).cell? ⟨wr.heap.size,3,none⟩ = some (.string (dv j).s)∧(w'.alloc zeroV).cell? ⟨wr.heap.size,4,none⟩ = some (.slice xa1 xn1 xc1)∧(w'.alloc zeroV).cell? ⟨wr.heap.size,5,none⟩ = some (.slice ya1 yn1 yc1)∧(w'.alloc zeroV).cell? ⟨H + 1,0,none⟩ = some (.int .i64 x.k)∧(w'.alloc zeroV).cell? ⟨H + 1,1,none⟩ = some (.int .i64 x.n)∧(w'.alloc zeroV).cell? ⟨H + 1,2,none⟩ = some (.string x.s)∧(w'.alloc zeroV).cell? ⟨H + 1,3,none⟩ = some (.slice xa xn xc)∧(w'.alloc zeroV).cell? ⟨H + 1,4,none⟩ = some (.slice ya yn yc)))):=fun w' hw=>by
          have o1:=oyA.keep (hw.block _ oyA.lt)
          have o2:=oxA.keep (hw.block _ oxA.lt)
          exact ⟨mk _ o1 o2,mk _ (o1.keep (Below.heap_alloc _ _ _ o1.lt)) (o2.keep (Below.heap_alloc _ _ _ o2.lt))⟩
        have HEXB:Hid (∀ w',Below ((wr.alloc (Obj.cells #[.string (ky j),.int .i64 (dv j).k,.int .i64 (dv j).n,.string (dv j).s,.slice xa1 xn1 xc1,.slice ya1 yn1 yc1] 67)).alloc zeroV).drew.heap.size ((wr.alloc (Obj.cells #[.string (ky j),.int .i64 (dv j).k,.int .i64 (dv j).n,.string (dv j).s,.slice xa1 xn1 xc1,.slice ya1 yn1 yc1] 67)).alloc zeroV).drew w' → ((w'.cell? ⟨wr.heap.size,1,none⟩ = some (.int .i64 (dv j).k)∧w'.cell? ⟨wr.heap.size,2,none⟩ = some (.int .i64 (dv j).n)∧w'.cell? ⟨wr.heap.size,3,none⟩ = some (.string (dv j).s)∧w'.cell? ⟨wr.heap.size,4,none⟩ = some (.slice xa1 xn1 xc1)∧w'.cell? ⟨wr.heap.size,5,none⟩ = some (.slice ya1 yn1 yc1)∧w'.cell? ⟨H + 1,0,none⟩ = some (.int .i64 x.k)∧w'.cell? ⟨H + 1,1,none⟩ = some (.int .i64 x.n)∧w'.cell? ⟨H + 1,2,none⟩ = some (.string x.s)∧w'.cell? ⟨H + 1,3,none⟩ = some (.slice xa xn xc)∧w'.cell? ⟨H + 1,4,none⟩ = some (.slice ya yn yc))∧((w'.cell? ⟨wr.heap.size + 1,0,none⟩ = some (.int .i64 0)∧w'.cell? ⟨wr.heap.size + 1,1,none⟩ = some (.int .i64 0)∧w'.cell? ⟨wr.heap.size + 1,2,none⟩ = some (.string { data:=#[] })∧w'.cell? ⟨wr.heap.size + 1,3,none⟩ = some (.slice .none 0 0)∧w'.cell? ⟨wr.heap.size + 1,4,none⟩ = some (.slice .none 0 0))∧w'.frozen? ⟨wr.heap.size + 1,0,none⟩ = false∧w'.frozen? ⟨wr.heap.size + 1,1,none⟩ = false∧w'.frozen? ⟨wr.heap.size + 1,2,none⟩ = false∧w'.frozen? ⟨wr.heap.size + 1,3,none⟩ = false∧w'.frozen? ⟨wr.heap.size + 1,4,none⟩ = false))):=fun w' hw=>by
          have o1:=oyB.keep (hw.block _ oyB.lt)
          have o2:=oxB.keep (hw.block _ oxB.lt)
          have o:=ozB.keep (hw.block _ ozB.lt)
          obtain ⟨a0,a1,a2,a3,a4⟩:=o.cells
          exact ⟨mk _ o1 o2,⟨a0,a1,a2,a3,a4⟩,o.frozen 0,o.frozen 1,o.frozen 2,o.frozen 3,o.frozen 4⟩
        have HPA:=Lib.hid (fun sa sc (hP:PSA A wr (.slice sa p.length sc) p) (hc:p.length ≤ sc)=>And.intro
          (wi_packE (HI.out.1 (dv j)) (W:=(wr.alloc (Obj.cells #[.string (ky j),.int .i64 (dv j).k,.int .i64 (dv j).n,.string (dv j).s,.slice xa1 xn1 xc1,.slice ya1 yn1 yc1] 67)).drew) (sa:=sa) (sc:=sc) (fun w'=>((w'.cell? ⟨wr.heap.size,1,none⟩ = some (.int .i64 (dv j).k)∧w'.cell? ⟨wr.heap.size,2,none⟩ = some (.int .i64 (dv j).n)∧w'.cell? ⟨wr.heap.size,3,none⟩ = some (.string (dv j).s)∧w'.cell? ⟨wr.heap.size,4,none⟩ = some (.slice xa1 xn1 xc1)∧w'.cell? ⟨wr.heap.size,5,none⟩ = some (.slice ya1 yn1 yc1)∧w'.cell? ⟨H + 1,0,none⟩ = some (.int .i64 x.k)∧w'.cell? ⟨H + 1,1,none⟩ = some (.int .i64 x.n)∧w'.cell? ⟨H + 1,2,none⟩ = some (.string x.s)∧w'.cell? ⟨H + 1,3,none⟩ = some (.slice xa xn xc)∧w'.cell? ⟨H + 1,4,none⟩ = some (.slice ya yn yc))∧((w'.alloc zeroV).cell? ⟨wr.heap.size,1,none⟩ = some (.int .i64 (dv j).k)∧(w'.alloc zeroV).cell? ⟨wr.heap.size,2,none⟩ = some (.int .i64 (dv j).n)∧(w'.alloc zeroV).cell? ⟨wr.heap.size,3,none⟩ = some (.string (dv j).s)∧(w'.alloc zeroV).cell? ⟨wr.heap.size,4,none⟩ = some (.slice xa1 xn1 xc1)∧(w'.alloc zeroV).cell? ⟨wr.heap.size,5,none⟩ = some (.slice ya1 yn1 yc1)∧(w'.alloc zeroV).cell? ⟨H + 1,0,none⟩ = some (.int .i64 x.k)∧(w'.alloc zeroV).cell? ⟨H + 1,1,none⟩ = some (.int .i64 x.n)∧(w'.alloc zeroV).cell? ⟨H + 1,2,none⟩ = some (.string x.s)∧(w'.alloc zeroV).cell? ⟨H + 1,3,none⟩ = some (.slice xa xn xc)∧(w'.alloc zeroV).cell? ⟨H + 1,4,none⟩ = some (.slice ya yn yc)))) HEXA.out (Nat.le_trans hAr bW.size) (hP.keep (fun k hk=>bW.block k (by omega))) hc hplen hrlA (HI.out.2.1 j hlt) hrxA)
          (wi_packE (HI.out.1 (dv j)) (W:=((wr.alloc (Obj.cells #[.string (ky j),.int .i64 (dv j).k,.int .i64 (dv j).n,.string (dv j).s,.slice xa1 xn1 xc1,.slice ya1 yn1 yc1] 67)).alloc zeroV).drew) (sa:=sa) (sc:=sc) (fun w'=>((w'.cell? ⟨wr.heap.size,1,none⟩ = some (.int .i64 (dv j).k)∧w'.cell? ⟨wr.heap.size,2,none⟩ = some (.int .i64 (dv j).n)∧w'.cell? ⟨wr.heap.size,3,none⟩ = some (.string (dv j).s)∧w'.cell? ⟨wr.heap.size,4,none⟩ = some (.slice xa1 xn1 xc1)∧w'.cell? ⟨wr.heap.size,5,none⟩ = some (.slice ya1 yn1 yc1)∧w'.cell? ⟨H + 1,0,none⟩ = some (.int .i64 x.k)∧w'.cell? ⟨H + 1,1,none⟩ = some (.int .i64 x.n)∧w'.cell? ⟨H + 1,2,none⟩ = some (.string x.s)∧w'.cell? ⟨H + 1,3,none⟩ = some (.slice xa xn xc)∧w'.cell? ⟨H + 1,4,none⟩ = some (.slice ya yn yc))∧((w'.cell? ⟨wr.heap.size + 1,0,none⟩ = some (.int .i64 0)∧w'.cell? ⟨wr.heap.size + 1,1,none⟩ = some (.int .i64 0)∧w'.cell? ⟨wr.heap.size + 1,2,none⟩ = some (.string { data:=#[] })∧w'.cell? ⟨wr.heap.size + 1,3,none⟩ = some (.slice .none 0 0)∧w'.cell? ⟨wr.heap.size + 1,4,none⟩ = some (.slice .none 0 0))∧w'.frozen? ⟨wr.heap.size + 1,0,none⟩ = false∧w'.frozen? ⟨wr.heap.size + 1,1,none⟩ = false∧w'.frozen? ⟨wr.heap.size + 1,2,none⟩ = false∧w'.frozen? ⟨wr.heap.size + 1,3,none⟩ = false∧w'.frozen? ⟨wr.heap.size + 1,4,none⟩ = false))) HEXB.out (Nat.le_trans hAr bZ.size) (hP.keep (fun k hk=>bZ.block k (by omega))) hc hplen hrlB (HI.out.2.1 j hlt) hrxB))
        obtain ⟨y0,y1,y2,y3,y4,e0,e1,e2,e3,e4⟩:=mk _ oyA oxA
        have y5:(wr.alloc (Obj.cells #[.string (ky j),.int .i64 (dv j).k,.int .i64 (dv j).n,.string (dv j).s,.slice xa1 xn1 xc1,.slice ya1 yn1 yc1] 67)).cell? ⟨wr.heap.size,0,none⟩ = some (.string (ky j)):=oyA.cell 0
        have HOY:=Lib.hid (And.intro oyA (And.intro oyB (And.intro ozB (And.intro bW bZ))))
        clear oyA oyB ozB oxA oxB ox0 hrl hrx hb1 hrlA hrlB hrx1 hrxA hrxB HEXA HEXB bW bZ mk
        generalize hR:wiT x p (dv j) = R at *
        have HRR:=Lib.hid hR
        clear hR
        by_cases hpc1:pc = 1
        · subst hpc1
          obtain rfl:pn = 1:=by omega
          have hp0:p.length = 0:=by have:=HPN.out; omega
          obtain ⟨HCA',HCB'⟩:=HPA.out (some ⟨pg,po,none⟩) 0 ⟨_,_,rfl,.inl (List.length_eq_zero_iff.1 hp0)⟩ (by omega)
          have HCA:=Lib.hid HCA'
          have HCB:=Lib.hid HCB'
          clear HCA' HCB' HPA hpr
          rw [hp0] at HCA HCB
          go_wp2_with fail
          refine wp_region_held_drew (S:=fun w'=>w'.cell? ⟨wr.heap.size,1,none⟩ = some (.int .i64 (dv j).k)∧w'.cell? ⟨wr.heap.size,2,none⟩ = some (.int .i64 (dv j).n)∧w'.cell? ⟨wr.heap.size,3,none⟩ = some (.string (dv j).s)∧w'.cell? ⟨wr.heap.size,4,none⟩ = some (.slice xa1 xn1 xc1)∧w'.cell? ⟨wr.heap.size,5,none⟩ = some (.slice ya1 yn1 yc1)∧w'.cell? ⟨H + 1,0,none⟩ = some (.int .i64 x.k)∧w'.cell? ⟨H + 1,1,none⟩ = some (.int .i64 x.n)∧w'.cell? ⟨H + 1,2,none⟩ = some (.string x.s)∧w'.cell? ⟨H + 1,3,none⟩ = some (.slice xa xn xc)∧w'.cell? ⟨H + 1,4,none⟩ = some (.slice ya yn yc)) (by kernel_rfl) (⟨y0,y1,y2,y3,y4,e0,e1,e2,e3,e4⟩) (fun hHeld=>?_)
          refine wpAnyH_take (i:=0) (v:=.pointer (some ⟨wr.heap.size,1,none⟩)) rfl (by kernel_rfl) (by kernel_rfl) (by kernel_rfl) (fun _ _ _ h=>h) (Or.inl ⟨by rfl,fun w hw=>by go_simp⟩) hHeld ?_
          simp only [Act.put,List.getElem_toArray,List.getElem_cons_zero,List.setIfInBounds_toArray,List.set_cons_zero,List.set_cons_succ]
          refine wpAnyH_take (i:=1) (v:=.agg #[.int .i64 (dv j).k,.int .i64 (dv j).n,.string (dv j).s,.slice xa1 xn1 xc1,.slice ya1 yn1 yc1]) rfl (by kernel_rfl) (by kernel_rfl) (by kernel_rfl) (fun _ _ _ h=>h) (Or.inl ⟨by rfl,fun w hw=>by obtain ⟨c0,c1,c2,c3,c4,_⟩:=hw; go_simp⟩) hHeld ?_
          simp only [Act.put,List.getElem_toArray,List.getElem_cons_zero,List.getElem_cons_succ,List.setIfInBounds_toArray,List.set_cons_zero,List.set_cons_succ]
          refine wpAnyH_take (i:=2) (v:=.slice (some ⟨pg,po,none⟩) 1 1) rfl (by kernel_rfl) (by kernel_rfl) (by kernel_rfl) (fun _ _ _ h=>h) (Or.inl ⟨by rfl,fun w hw=>by go_simp⟩) hHeld ?_
          simp only [Act.put,List.getElem_toArray,List.getElem_cons_zero,List.getElem_cons_succ,List.setIfInBounds_toArray,List.set_cons_zero,List.set_cons_succ]
          refine wpAnyH_take (i:=3) (v:=.slice (some ⟨pg,po,none⟩) 0 0) rfl (by kernel_rfl) (by kernel_rfl) (by kernel_rfl) (fun _ _ _ h=>h) (Or.inl ⟨by rfl,fun w hw=>by go_simp⟩) hHeld ?_
          simp only [Act.put,List.getElem_toArray,List.getElem_cons_zero,List.getElem_cons_succ,List.setIfInBounds_toArray,List.set_cons_zero,List.set_cons_succ]
          refine wpAnyH_take (i:=4) (v:=.agg #[.int .i64 x.k,.int .i64 x.n,.string x.s,.slice xa xn xc,.slice ya yn yc]) rfl (by kernel_rfl) (by kernel_rfl) (by kernel_rfl) (fun _ _ _ h=>h) (Or.inl ⟨by rfl,fun w hw=>by obtain ⟨_,_,_,_,_,c0,c1,c2,c3,c4⟩:=hw; go_simp⟩) hHeld ?_
          simp only [Act.put,List.getElem_toArray,List.getElem_cons_zero,List.getElem_cons_succ,List.setIfInBounds_toArray,List.set_cons_zero,List.set_cons_succ]
          refine wpAnyH_ready (rs:=[5,9]) (by kernel_rfl) (by simp) ?_
          refine AllReadyH.cons (o:=_) rfl (fun K hK=>?_) (AllReadyH.cons (o:=_) rfl (fun K hK=>?_) AllReadyH.nil)
          · go_simp
            refine (HCA.out).mono ?_
            rintro e wq ⟨xa2,xn2,xc2,ya2,yn2,yc2,rfl,HEA,HXA⟩
            refine hK.out _ _ HEA.1 (fun hHeld=>?_)
            clear hK K
            refine wpAnyH_take (i:=6) (v:=.tuple #[.agg #[.int .i64 R.1.k,.int .i64 R.1.n,.string R.1.s,.slice xa2 xn2 xc2,.slice ya2 yn2 yc2],.int .i64 R.2]) rfl (by kernel_rfl) (by kernel_rfl) (by kernel_rfl) (fun _ _ _ h=>h) (Or.inl ⟨by rfl,fun w hw=>by go_simp⟩) hHeld ?_
            simp only [Act.put,List.getElem_toArray,List.getElem_cons_zero,List.getElem_cons_succ,List.setIfInBounds_toArray,List.set_cons_zero,List.set_cons_succ]
            refine wpAnyH_take (i:=7) (v:=.agg #[.int .i64 R.1.k,.int .i64 R.1.n,.string R.1.s,.slice xa2 xn2 xc2,.slice ya2 yn2 yc2]) rfl (by kernel_rfl) (by kernel_rfl) (by kernel_rfl) (fun _ _ _ h=>h) (Or.inl ⟨by rfl,fun w hw=>by go_simp⟩) hHeld ?_
            simp only [Act.put,List.getElem_toArray,List.getElem_cons_zero,List.getElem_cons_succ,List.setIfInBounds_toArray,List.set_cons_zero,List.set_cons_succ]
            refine wpAnyH_take (i:=8) (v:=.int .i64 R.2) rfl (by kernel_rfl) (by kernel_rfl) (by kernel_rfl) (fun _ _ _ h=>h) (Or.inl ⟨by rfl,fun w hw=>by go_simp⟩) hHeld ?_
            simp only [Act.put,List.getElem_toArray,List.getElem_cons_zero,List.getElem_cons_succ,List.setIfInBounds_toArray,List.set_cons_zero,List.set_cons_succ]
            refine wpAnyH_ready (rs:=[9]) (by kernel_rfl) (by simp) ?_
            refine AllReadyH.cons (o:=_) rfl (fun K hK=>?_) AllReadyH.nil
            go_simp
            refine hK.out _ _ HEA.2 (fun hHeld=>?_)
            clear hK K
            refine wpAnyH_ready (rs:=[10]) (by kernel_rfl) (by simp) ?_
            refine AllReadyH.cons (o:=_) rfl (fun K hK=>?_) AllReadyH.nil
            go_simp
            obtain ⟨r0,r1,r2,r3,r4,s0,s1,s2,s3,s4⟩:=HEA.1
            refine hK.out _ _ (⟨cell_alloc_old r0,cell_alloc_old r1,cell_alloc_old r2,cell_alloc_old r3,cell_alloc_old r4,cell_alloc_old s0,cell_alloc_old s1,cell_alloc_old s2,cell_alloc_old s3,cell_alloc_old s4⟩) (fun hHeld=>?_)
            clear hK K
            refine wpAnyH_take (i:=11) (v:=.int .i64 R.2) rfl (by kernel_rfl) (by kernel_rfl) (by kernel_rfl) (fun _ _ _ h=>h) (Or.inl ⟨by rfl,fun w hw=>by go_simp⟩) hHeld ?_
            simp only [Act.put,List.getElem_toArray,List.getElem_cons_zero,List.getElem_cons_succ,List.setIfInBounds_toArray,List.set_cons_zero,List.set_cons_succ]
            refine wpAnyH_done (by kernel_rfl) ?_ _
            have HAF:Hid (obj (wq.alloc (Obj.cells #[.int .i64 R.1.k,.int .i64 R.1.n,.string R.1.s,.slice xa2 xn2 xc2,.slice ya2 yn2 yc2] 55)) wq.heap.size (.int .i64 R.1.k) (.int .i64 R.1.n) (.string R.1.s) (.slice xa2 xn2 xc2) (.slice ya2 yn2 yc2)∧blk (wq.alloc (Obj.cells #[.int .i64 R.1.k,.int .i64 R.1.n,.string R.1.s,.slice xa2 xn2 xc2,.slice ya2 yn2 yc2] 55)) wr.heap.size 67 #[.string (ky j),.int .i64 (dv j).k,.int .i64 (dv j).n,.string (dv j).s,.slice xa1 xn1 xc1,.slice ya1 yn1 yc1]∧Below wr.heap.size wr (wq.alloc (Obj.cells #[.int .i64 R.1.k,.int .i64 R.1.n,.string R.1.s,.slice xa2 xn2 xc2,.slice ya2 yn2 yc2] 55))∧RV (fun b=>b < A ∨ wr.heap.size < b) (wq.alloc (Obj.cells #[.int .i64 R.1.k,.int .i64 R.1.n,.string R.1.s,.slice xa2 xn2 xc2,.slice ya2 yn2 yc2] 55)) R.1 (.slice xa2 xn2 xc2) (.slice ya2 yn2 yc2)):=by
              obtain ⟨h1,h2⟩:=HXA.out
              obtain ⟨u1,_,_,u4,_⟩:=HOY.out
              have b3:Below wr.heap.size wr (wq.alloc (Obj.cells #[.int .i64 R.1.k,.int .i64 R.1.n,.string R.1.s,.slice xa2 xn2 xc2,.slice ya2 yn2 yc2] 55)):=(u4.trans (h2.mono u4.size)).alloc (Nat.le_trans u4.size h2.size) _
              have o1:=u1.keep (h2.block _ u1.lt)
              refine ⟨heap_new _ _,o1.keep (Below.heap_alloc _ _ _ o1.lt),b3,RV.move (fun b hb _=>?_) (by simp) (fun b _ hl=>Below.heap_alloc _ _ _ hl) _ _ _ h1⟩
              rcases hb with h | h
              · exact .inl h
              · exact .inr (by have e : (wr.alloc (Obj.cells #[.string (ky j), .int .i64 (dv j).k, .int .i64 (dv j).n, .string (dv j).s, .slice xa1 xn1 xc1, .slice ya1 yn1 yc1] 67)).drew.heap.size = wr.heap.size + 1 := by show (wr.alloc (Obj.cells #[.string (ky j), .int .i64 (dv j).k, .int .i64 (dv j).n, .string (dv j).s, .slice xa1 xn1 xc1, .slice ya1 yn1 yc1] 67)).heap.size = _; simp
                               omega)
            clear HXA HOY HCA HCB hHeld HEA r0 r1 r2 r3 r4 s0 s1 s2 s3 s4 y0 y1 y2 y3 y4 y5 e0 e1 e2 e3 e4
            generalize hzb:wq.heap.size = zb at HAF ⊢
            clear hzb
            generalize (wq.alloc (Obj.cells #[.int .i64 R.1.k,.int .i64 R.1.n,.string R.1.s,.slice xa2 xn2 xc2,.slice ya2 yn2 yc2] 55)) = w3 at HAF ⊢
            obtain ⟨k0,k1,k2,k3,k4⟩:=HAF.out.1.cells
            have m0:w3.cell? ⟨wr.heap.size,0,none⟩ = some (.string (ky j)):=HAF.out.2.1.cell 0
            have m1:w3.cell? ⟨wr.heap.size,1,none⟩ = some (.int .i64 (dv j).k):=HAF.out.2.1.cell 1
            have m2:w3.cell? ⟨wr.heap.size,2,none⟩ = some (.int .i64 (dv j).n):=HAF.out.2.1.cell 2
            have m3:w3.cell? ⟨wr.heap.size,3,none⟩ = some (.string (dv j).s):=HAF.out.2.1.cell 3
            have m4:w3.cell? ⟨wr.heap.size,4,none⟩ = some (.slice xa1 xn1 xc1):=HAF.out.2.1.cell 4
            have m5:w3.cell? ⟨wr.heap.size,5,none⟩ = some (.slice ya1 yn1 yc1):=HAF.out.2.1.cell 5
            have n1':=HAF.out.2.1.frozen 1
            have n2':=HAF.out.2.1.frozen 2
            have n3:=HAF.out.2.1.frozen 3
            have n4:=HAF.out.2.1.frozen 4
            have n5:=HAF.out.2.1.frozen 5
            by_cases hz:R.2 = 0
            · have bs5:Besides wr.heap.size w3 (((((w3.setCell ⟨wr.heap.size,1,none⟩ (.int .i64 R.1.k)).setCell ⟨wr.heap.size,2,none⟩ (.int .i64 R.1.n)).setCell ⟨wr.heap.size,3,none⟩ (.string R.1.s)).setCell ⟨wr.heap.size,4,none⟩ (.slice xa2 xn2 xc2)).setCell ⟨wr.heap.size,5,none⟩ (.slice ya2 yn2 yc2)):=((((Besides.setCell w3 ⟨wr.heap.size,1,none⟩ _).trans (Besides.setCell _ ⟨wr.heap.size,2,none⟩ _)).trans (Besides.setCell _ ⟨wr.heap.size,3,none⟩ _)).trans (Besides.setCell _ ⟨wr.heap.size,4,none⟩ _)).trans (Besides.setCell _ ⟨wr.heap.size,5,none⟩ _)
              have b30:=HAF.out.2.2.1
              have bY:Below wr.heap.size wr (((((w3.setCell ⟨wr.heap.size,1,none⟩ (.int .i64 R.1.k)).setCell ⟨wr.heap.size,2,none⟩ (.int .i64 R.1.n)).setCell ⟨wr.heap.size,3,none⟩ (.string R.1.s)).setCell ⟨wr.heap.size,4,none⟩ (.slice xa2 xn2 xc2)).setCell ⟨wr.heap.size,5,none⟩ (.slice ya2 yn2 yc2)):=((((b30.setCell (Nat.le_refl _) _).setCell (Nat.le_refl _) _).setCell (Nat.le_refl _) _).setCell (Nat.le_refl _) _).setCell (Nat.le_refl _) _
              have bO:Below wr.heap.size wr ((((((w3.setCell ⟨wr.heap.size,1,none⟩ (.int .i64 R.1.k)).setCell ⟨wr.heap.size,2,none⟩ (.int .i64 R.1.n)).setCell ⟨wr.heap.size,3,none⟩ (.string R.1.s)).setCell ⟨wr.heap.size,4,none⟩ (.slice xa2 xn2 xc2)).setCell ⟨wr.heap.size,5,none⟩ (.slice ya2 yn2 yc2)).alloc (Obj.cells #[.string (ky j),.int .i64 R.1.k,.int .i64 R.1.n,.string R.1.s,.slice xa2 xn2 xc2,.slice ya2 yn2 yc2] 67)):=bY.alloc bY.size _
              have hsY:(((((w3.setCell ⟨wr.heap.size,1,none⟩ (.int .i64 R.1.k)).setCell ⟨wr.heap.size,2,none⟩ (.int .i64 R.1.n)).setCell ⟨wr.heap.size,3,none⟩ (.string R.1.s)).setCell ⟨wr.heap.size,4,none⟩ (.slice xa2 xn2 xc2)).setCell ⟨wr.heap.size,5,none⟩ (.slice ya2 yn2 yc2)).heap.size = w3.heap.size:=by simp [World.setCell]
              have oY:blk (((((w3.setCell ⟨wr.heap.size,1,none⟩ (.int .i64 R.1.k)).setCell ⟨wr.heap.size,2,none⟩ (.int .i64 R.1.n)).setCell ⟨wr.heap.size,3,none⟩ (.string R.1.s)).setCell ⟨wr.heap.size,4,none⟩ (.slice xa2 xn2 xc2)).setCell ⟨wr.heap.size,5,none⟩ (.slice ya2 yn2 yc2)) wr.heap.size 67 #[.string (ky j),.int .i64 R.1.k,.int .i64 R.1.n,.string R.1.s,.slice xa2 xn2 xc2,.slice ya2 yn2 yc2]:=((((HAF.out.2.1.set 1 _).set 2 _).set 3 _).set 4 _).set 5 _
              have HA:Hid (((((((w3.setCell ⟨wr.heap.size,1,none⟩ (.int .i64 R.1.k)).setCell ⟨wr.heap.size,2,none⟩ (.int .i64 R.1.n)).setCell ⟨wr.heap.size,3,none⟩ (.string R.1.s)).setCell ⟨wr.heap.size,4,none⟩ (.slice xa2 xn2 xc2)).setCell ⟨wr.heap.size,5,none⟩ (.slice ya2 yn2 yc2)).alloc (Obj.cells #[.string (ky j),.int .i64 R.1.k,.int .i64 R.1.n,.string R.1.s,.slice xa2 xn2 xc2,.slice ya2 yn2 yc2] 67)).ownsRow (H + 3) 67 6 (.slice la L.length lc) L.length us∧blk ((((((w3.setCell ⟨wr.heap.size,1,none⟩ (.int .i64 R.1.k)).setCell ⟨wr.heap.size,2,none⟩ (.int .i64 R.1.n)).setCell ⟨wr.heap.size,3,none⟩ (.string R.1.s)).setCell ⟨wr.heap.size,4,none⟩ (.slice xa2 xn2 xc2)).setCell ⟨wr.heap.size,5,none⟩ (.slice ya2 yn2 yc2)).alloc (Obj.cells #[.string (ky j),.int .i64 R.1.k,.int .i64 R.1.n,.string R.1.s,.slice xa2 xn2 xc2,.slice ya2 yn2 yc2] 67)) w3.heap.size 67 #[.string (ky j),.int .i64 R.1.k,.int .i64 R.1.n,.string R.1.s,.slice xa2 xn2 xc2,.slice ya2 yn2 yc2]∧Below wr.heap.size wr ((((((w3.setCell ⟨wr.heap.size,1,none⟩ (.int .i64 R.1.k)).setCell ⟨wr.heap.size,2,none⟩ (.int .i64 R.1.n)).setCell ⟨wr.heap.size,3,none⟩ (.string R.1.s)).setCell ⟨wr.heap.size,4,none⟩ (.slice xa2 xn2 xc2)).setCell ⟨wr.heap.size,5,none⟩ (.slice ya2 yn2 yc2)).alloc (Obj.cells #[.string (ky j),.int .i64 R.1.k,.int .i64 R.1.n,.string R.1.s,.slice xa2 xn2 xc2,.slice ya2 yn2 yc2] 67))∧RV (fun b=>b < A ∨ (H + 3 ≤ b∧(Value.slice la L.length lc).ownBlock ≠ some b)) ((((((w3.setCell ⟨wr.heap.size,1,none⟩ (.int .i64 R.1.k)).setCell ⟨wr.heap.size,2,none⟩ (.int .i64 R.1.n)).setCell ⟨wr.heap.size,3,none⟩ (.string R.1.s)).setCell ⟨wr.heap.size,4,none⟩ (.slice xa2 xn2 xc2)).setCell ⟨wr.heap.size,5,none⟩ (.slice ya2 yn2 yc2)).alloc (Obj.cells #[.string (ky j),.int .i64 R.1.k,.int .i64 R.1.n,.string R.1.s,.slice xa2 xn2 xc2,.slice ya2 yn2 yc2] 67)) R.1 (.slice xa2 xn2 xc2) (.slice ya2 yn2 yc2)):=by
                refine ⟨own_keep HQ.out.2.2.2.1 (fun x _ hx=>bO.block x hx),(by have h:=heap_new (((((w3.setCell ⟨wr.heap.size,1,none⟩ (.int .i64 R.1.k)).setCell ⟨wr.heap.size,2,none⟩ (.int .i64 R.1.n)).setCell ⟨wr.heap.size,3,none⟩ (.string R.1.s)).setCell ⟨wr.heap.size,4,none⟩ (.slice xa2 xn2 xc2)).setCell ⟨wr.heap.size,5,none⟩ (.slice ya2 yn2 yc2)) (Obj.cells #[.string (ky j),.int .i64 R.1.k,.int .i64 R.1.n,.string R.1.s,.slice xa2 xn2 xc2,.slice ya2 yn2 yc2] 67); rw [hsY] at h; exact h),bO,?_⟩
                have hr5:RV (fun b=>b < A ∨ wr.heap.size < b) (((((w3.setCell ⟨wr.heap.size,1,none⟩ (.int .i64 R.1.k)).setCell ⟨wr.heap.size,2,none⟩ (.int .i64 R.1.n)).setCell ⟨wr.heap.size,3,none⟩ (.string R.1.s)).setCell ⟨wr.heap.size,4,none⟩ (.slice xa2 xn2 xc2)).setCell ⟨wr.heap.size,5,none⟩ (.slice ya2 yn2 yc2)) R.1 (.slice xa2 xn2 xc2) (.slice ya2 yn2 yc2):=RV.move (fun _ h _=>h) bs5.size (fun b hb hl=>bs5.block b hl (by rcases hb with h | h <;> omega)) _ _ _ HAF.out.2.2.2
                exact RV.move (fun b hb _=>by
                  rcases hb with h | h
                  · exact .inl h
                  · exact .inr ⟨by omega,fun e=>by have:=(own_lt HQ.out.2.2.2.1 e).2; omega⟩) (by simp) (fun b _ hl=>Below.heap_alloc _ _ _ hl) _ _ _ hr5
              have hh3:H + 3 ≤ w3.heap.size:=Nat.le_trans h3H HAF.out.2.2.1.size
              have h50:(((((w3.setCell ⟨wr.heap.size,1,none⟩ (.int .i64 R.1.k)).setCell ⟨wr.heap.size,2,none⟩ (.int .i64 R.1.n)).setCell ⟨wr.heap.size,3,none⟩ (.string R.1.s)).setCell ⟨wr.heap.size,4,none⟩ (.slice xa2 xn2 xc2)).setCell ⟨wr.heap.size,5,none⟩ (.slice ya2 yn2 yc2)).cell? ⟨wr.heap.size,0,none⟩ = some (.string (ky j)):=oY.cell 0
              have h51:(((((w3.setCell ⟨wr.heap.size,1,none⟩ (.int .i64 R.1.k)).setCell ⟨wr.heap.size,2,none⟩ (.int .i64 R.1.n)).setCell ⟨wr.heap.size,3,none⟩ (.string R.1.s)).setCell ⟨wr.heap.size,4,none⟩ (.slice xa2 xn2 xc2)).setCell ⟨wr.heap.size,5,none⟩ (.slice ya2 yn2 yc2)).cell? ⟨wr.heap.size,1,none⟩ = some (.int .i64 R.1.k):=oY.cell 1
              have h52:(((((w3.setCell ⟨wr.heap.size,1,none⟩ (.int .i64 R.1.k)).setCell ⟨wr.heap.size,2,none⟩ (.int .i64 R.1.n)).setCell ⟨wr.heap.size,3,none⟩ (.string R.1.s)).setCell ⟨wr.heap.size,4,none⟩ (.slice xa2 xn2 xc2)).setCell ⟨wr.heap.size,5,none⟩ (.slice ya2 yn2 yc2)).cell? ⟨wr.heap.size,2,none⟩ = some (.int .i64 R.1.n):=oY.cell 2
              have h53:(((((w3.setCell ⟨wr.heap.size,1,none⟩ (.int .i64 R.1.k)).setCell ⟨wr.heap.size,2,none⟩ (.int .i64 R.1.n)).setCell ⟨wr.heap.size,3,none⟩ (.string R.1.s)).setCell ⟨wr.heap.size,4,none⟩ (.slice xa2 xn2 xc2)).setCell ⟨wr.heap.size,5,none⟩ (.slice ya2 yn2 yc2)).cell? ⟨wr.heap.size,3,none⟩ = some (.string R.1.s):=oY.cell 3
              have h54:(((((w3.setCell ⟨wr.heap.size,1,none⟩ (.int .i64 R.1.k)).setCell ⟨wr.heap.size,2,none⟩ (.int .i64 R.1.n)).setCell ⟨wr.heap.size,3,none⟩ (.string R.1.s)).setCell ⟨wr.heap.size,4,none⟩ (.slice xa2 xn2 xc2)).setCell ⟨wr.heap.size,5,none⟩ (.slice ya2 yn2 yc2)).cell? ⟨wr.heap.size,4,none⟩ = some (.slice xa2 xn2 xc2):=oY.cell 4
              have h55:(((((w3.setCell ⟨wr.heap.size,1,none⟩ (.int .i64 R.1.k)).setCell ⟨wr.heap.size,2,none⟩ (.int .i64 R.1.n)).setCell ⟨wr.heap.size,3,none⟩ (.string R.1.s)).setCell ⟨wr.heap.size,4,none⟩ (.slice xa2 xn2 xc2)).setCell ⟨wr.heap.size,5,none⟩ (.slice ya2 yn2 yc2)).cell? ⟨wr.heap.size,5,none⟩ = some (.slice ya2 yn2 yc2):=oY.cell 5
              clear bY bO bs5 oY b30
              go_wp2_with (at_builtin; refine append_pair rfl _ _ rfl rfl HA.out.1 w3.heap.size rfl HA.out.2.1 rfl rfl (by simp; omega) (by omega) ?_)
              intro v' w5 ho5 hg5 ha5
              obtain ⟨a5,c5,rfl⟩:=ownForm ho5
              have HN:Hid (dG key p.isEmpty (wiT x p) x ky dv (j + 1) = .inl (L ++ [(ky j,R.1)],true)∧WLv H w w5 4 n s (.slice a ln ca) (.slice (some ⟨b,ob,none⟩) dn ca') x (.slice xa xn xc) (.slice ya yn yc)∧PRow (H + 3) (Sw A (H + 3) (.slice a5 (L.length + 1) c5)) w5 (.slice a5 (L.length + 1) c5) (L ++ [(ky j,R.1)])):=by
                obtain ⟨q1,q2,q3,q4,q5⟩:=HQ.out
                refine ⟨?_,(q2.keep HS.out HA.out.2.2.1).grow HS.out hg5 (fun q hq=>(own_lt q4 hq).1),prow_add (by omega) q3 q4.1 HA.out.2.2.1 HA.out.2.2.2 (fun q hq=>own_lt q4 hq) hg5 (by simpa using ha5) ho5⟩
                unfold dG
                rw [q1]
                dsimp only
                rw [if_pos HJI.out,HRR.out,if_pos hz]
              clear HQ HA HAF ho5 hg5 ha5 c3 g0 g1 g2 g3 g4 g5 k0 k1 k2 k3 k4 m0 m1 m2 m3 m4 m5 hsY hh3 h50 h51 h52 h53 h54 h55
              go_wp2
              go_roundw
              case rel=>exact ⟨j + 1,L ++ [(ky j,R.1)],true,by omega,by go_num,rfl,by simp; omega,HN⟩
              case measure=>simp [intOf]; omega
            · have hz':(R.2 != 0) = true:=by simpa using hz
              have hor:=((HQ.out.2.1.keep HS.out HAF.out.2.2.1).2.2.2)
              have HOR:=Lib.hid hor
              obtain ⟨o0,o1,o2,o3,o4⟩:=hor.cells
              have p0':=hor.frozen 0
              have p1':=hor.frozen 1
              have p2':=hor.frozen 2
              have p3':=hor.frozen 3
              have p4':=hor.frozen 4
              have HBE:Hid (Below H w w3∧dG key p.isEmpty (wiT x p) x ky dv dn = .inr R.2):=by
                obtain ⟨q1,q2,_⟩:=HQ.out
                refine ⟨(q2.keep HS.out HAF.out.2.2.1).1,dG_stop (j:=j + 1) (by omega) ?_⟩
                unfold dG
                rw [q1]
                dsimp only
                rw [if_pos HJI.out,HRR.out,if_neg hz]
              clear HQ HAF hor k0 k1 k2 k3 k4 m0 m1 m2 m3 m4 m5 c3 g0 g1 g2 g3 g4 g5
              go_wp2
              refine bodyPost_ret (v:=.tuple #[vv t0 (.slice none 0 0) (.slice none 0 0),.int .i64 R.2]) (results_cell55t Tryz.results40 _ _ (H + 1 + 1) _ rfl (((((HOR.out.set0 _).set1 _).set2 _).set3 _).set4 _) rfl) rfl ?_
              have hre:RES = (t0,R.2):=by rw [← HRES.out,HBE.out.2]; rfl
              rw [hre]
              refine ⟨_,_,rfl,rv_t0 _ _,?_⟩
              have h0:=HBE.out.1
              have hE:=besides5 w3 (H + 1 + 1) (.int .i64 0) (.int .i64 0) (.string { data:=#[] }) (.slice .none 0 0) (.slice .none 0 0)
              rw [HS.out]
              exact ⟨hE.os.trans h0.os,hE.tape.trans h0.tape,hE.output.trans h0.output,Nat.le_trans h0.size hE.size,fun q hq=>(hE.block q (by have:=h0.size; have:=HS.out; omega) (by omega)).trans (h0.block q (by have:=HS.out; omega))⟩
          · go_simp
            refine hK.out _ _ HSB.out (fun hHeld=>?_)
            clear hK K
            refine wpAnyH_ready (rs:=[5]) (by kernel_rfl) (by simp) ?_
            refine AllReadyH.cons (o:=_) rfl (fun K hK=>?_) AllReadyH.nil
            go_simp
            refine (HCB.out).mono ?_
            rintro e wq ⟨xa2,xn2,xc2,ya2,yn2,yc2,rfl,⟨HEB,⟨u0,u1,u2,u3,u4⟩,f0,f1,f2,f3,f4⟩,HXC⟩
            refine hK.out _ _ HEB (fun hHeld=>?_)
            clear hK K
            refine wpAnyH_take (i:=6) (v:=.tuple #[.agg #[.int .i64 R.1.k,.int .i64 R.1.n,.string R.1.s,.slice xa2 xn2 xc2,.slice ya2 yn2 yc2],.int .i64 R.2]) rfl (by kernel_rfl) (by kernel_rfl) (by kernel_rfl) (fun _ _ _ h=>h) (Or.inl ⟨by rfl,fun w hw=>by go_simp⟩) hHeld ?_
            simp only [Act.put,List.getElem_toArray,List.getElem_cons_zero,List.getElem_cons_succ,List.setIfInBounds_toArray,List.set_cons_zero,List.set_cons_succ]
            refine wpAnyH_take (i:=7) (v:=.agg #[.int .i64 R.1.k,.int .i64 R.1.n,.string R.1.s,.slice xa2 xn2 xc2,.slice ya2 yn2 yc2]) rfl (by kernel_rfl) (by kernel_rfl) (by kernel_rfl) (fun _ _ _ h=>h) (Or.inl ⟨by rfl,fun w hw=>by go_simp⟩) hHeld ?_
            simp only [Act.put,List.getElem_toArray,List.getElem_cons_zero,List.getElem_cons_succ,List.setIfInBounds_toArray,List.set_cons_zero,List.set_cons_succ]
            refine wpAnyH_take (i:=8) (v:=.int .i64 R.2) rfl (by kernel_rfl) (by kernel_rfl) (by kernel_rfl) (fun _ _ _ h=>h) (Or.inl ⟨by rfl,fun w hw=>by go_simp⟩) hHeld ?_
            simp only [Act.put,List.getElem_toArray,List.getElem_cons_zero,List.getElem_cons_succ,List.setIfInBounds_toArray,List.set_cons_zero,List.set_cons_succ]
            have HAF:Hid (obj (((((wq.setCell ⟨wr.heap.size + 1,0,none⟩ (.int .i64 R.1.k)).setCell ⟨wr.heap.size + 1,1,none⟩ (.int .i64 R.1.n)).setCell ⟨wr.heap.size + 1,2,none⟩ (.string R.1.s)).setCell ⟨wr.heap.size + 1,3,none⟩ (.slice xa2 xn2 xc2)).setCell ⟨wr.heap.size + 1,4,none⟩ (.slice ya2 yn2 yc2)) (wr.heap.size + 1) (.int .i64 R.1.k) (.int .i64 R.1.n) (.string R.1.s) (.slice xa2 xn2 xc2) (.slice ya2 yn2 yc2)∧blk (((((wq.setCell ⟨wr.heap.size + 1,0,none⟩ (.int .i64 R.1.k)).setCell ⟨wr.heap.size + 1,1,none⟩ (.int .i64 R.1.n)).setCell ⟨wr.heap.size + 1,2,none⟩ (.string R.1.s)).setCell ⟨wr.heap.size + 1,3,none⟩ (.slice xa2 xn2 xc2)).setCell ⟨wr.heap.size + 1,4,none⟩ (.slice ya2 yn2 yc2)) wr.heap.size 67 #[.string (ky j),.int .i64 (dv j).k,.int .i64 (dv j).n,.string (dv j).s,.slice xa1 xn1 xc1,.slice ya1 yn1 yc1]∧Below wr.heap.size wr (((((wq.setCell ⟨wr.heap.size + 1,0,none⟩ (.int .i64 R.1.k)).setCell ⟨wr.heap.size + 1,1,none⟩ (.int .i64 R.1.n)).setCell ⟨wr.heap.size + 1,2,none⟩ (.string R.1.s)).setCell ⟨wr.heap.size + 1,3,none⟩ (.slice xa2 xn2 xc2)).setCell ⟨wr.heap.size + 1,4,none⟩ (.slice ya2 yn2 yc2))∧RV (fun b=>b < A ∨ wr.heap.size < b) (((((wq.setCell ⟨wr.heap.size + 1,0,none⟩ (.int .i64 R.1.k)).setCell ⟨wr.heap.size + 1,1,none⟩ (.int .i64 R.1.n)).setCell ⟨wr.heap.size + 1,2,none⟩ (.string R.1.s)).setCell ⟨wr.heap.size + 1,3,none⟩ (.slice xa2 xn2 xc2)).setCell ⟨wr.heap.size + 1,4,none⟩ (.slice ya2 yn2 yc2)) R.1 (.slice xa2 xn2 xc2) (.slice ya2 yn2 yc2)):=by
              obtain ⟨h1,h2⟩:=HXC.out
              obtain ⟨_,u2,u3,_,u5⟩:=HOY.out
              have o2:=u2.keep (h2.block _ u2.lt)
              have o3:=u3.keep (h2.block _ u3.lt)
              have bs5:=besides5 wq (wr.heap.size + 1) (.int .i64 R.1.k) (.int .i64 R.1.n) (.string R.1.s) (.slice xa2 xn2 xc2) (.slice ya2 yn2 yc2)
              have b3:Below wr.heap.size wr (((((wq.setCell ⟨wr.heap.size + 1,0,none⟩ (.int .i64 R.1.k)).setCell ⟨wr.heap.size + 1,1,none⟩ (.int .i64 R.1.n)).setCell ⟨wr.heap.size + 1,2,none⟩ (.string R.1.s)).setCell ⟨wr.heap.size + 1,3,none⟩ (.slice xa2 xn2 xc2)).setCell ⟨wr.heap.size + 1,4,none⟩ (.slice ya2 yn2 yc2)):=below_set5v (by omega) (u5.trans (h2.mono u5.size))
              refine ⟨((((o3.set0 _).set1 _).set2 _).set3 _).set4 _,o2.keep (bs5.block _ o2.lt (by omega)),b3,RV.move (fun b hb _=>?_) bs5.size (fun b hb hl=>bs5.block b hl ?_) _ _ _ h1⟩
              · rcases hb with h | h
                · exact .inl h
                · exact .inr (by have e : ((wr.alloc (Obj.cells #[.string (ky j), .int .i64 (dv j).k, .int .i64 (dv j).n, .string (dv j).s, .slice xa1 xn1 xc1, .slice ya1 yn1 yc1] 67)).alloc zeroV).drew.heap.size = wr.heap.size + 1 + 1 := by show ((wr.alloc (Obj.cells #[.string (ky j), .int .i64 (dv j).k, .int .i64 (dv j).n, .string (dv j).s, .slice xa1 xn1 xc1, .slice ya1 yn1 yc1] 67)).alloc zeroV).heap.size = _; simp
                                 omega)
              · rcases hb with h | h
                · omega
                · have e:((wr.alloc (Obj.cells #[.string (ky j),.int .i64 (dv j).k,.int .i64 (dv j).n,.string (dv j).s,.slice xa1 xn1 xc1,.slice ya1 yn1 yc1] 67)).alloc zeroV).drew.heap.size = wr.heap.size + 1 + 1:=by show ((wr.alloc (Obj.cells #[.string (ky j),.int .i64 (dv j).k,.int .i64 (dv j).n,.string (dv j).s,.slice xa1 xn1 xc1,.slice ya1 yn1 yc1] 67)).alloc zeroV).heap.size = _; simp
                  omega
            have HSS:Hid ((((((wq.setCell ⟨wr.heap.size + 1,0,none⟩ (.int .i64 R.1.k)).setCell ⟨wr.heap.size + 1,1,none⟩ (.int .i64 R.1.n)).setCell ⟨wr.heap.size + 1,2,none⟩ (.string R.1.s)).setCell ⟨wr.heap.size + 1,3,none⟩ (.slice xa2 xn2 xc2)).setCell ⟨wr.heap.size + 1,4,none⟩ (.slice ya2 yn2 yc2)).cell? ⟨wr.heap.size,1,none⟩ = some (.int .i64 (dv j).k)∧(((((wq.setCell ⟨wr.heap.size + 1,0,none⟩ (.int .i64 R.1.k)).setCell ⟨wr.heap.size + 1,1,none⟩ (.int .i64 R.1.n)).setCell ⟨wr.heap.size + 1,2,none⟩ (.string R.1.s)).setCell ⟨wr.heap.size + 1,3,none⟩ (.slice xa2 xn2 xc2)).setCell ⟨wr.heap.size + 1,4,none⟩ (.slice ya2 yn2 yc2)).cell? ⟨wr.heap.size,2,none⟩ = some (.int .i64 (dv j).n)∧(((((wq.setCell ⟨wr.heap.size + 1,0,none⟩ (.int .i64 R.1.k)).setCell ⟨wr.heap.size + 1,1,none⟩ (.int .i64 R.1.n)).setCell ⟨wr.heap.size + 1,2,none⟩ (.string R.1.s)).setCell ⟨wr.heap.size + 1,3,none⟩ (.slice xa2 xn2 xc2)).setCell ⟨wr.heap.size + 1,4,none⟩ (.slice ya2 yn2 yc2)).cell? ⟨wr.heap.size,3,none⟩ = some (.string (dv j).s)∧(((((wq.setCell ⟨wr.heap.size + 1,0,none⟩ (.int .i64 R.1.k)).setCell ⟨wr.heap.size + 1,1,none⟩ (.int .i64 R.1.n)).setCell ⟨wr.heap.size + 1,2,none⟩ (.string R.1.s)).setCell ⟨wr.heap.size + 1,3,none⟩ (.slice xa2 xn2 xc2)).setCell ⟨wr.heap.size + 1,4,none⟩ (.slice ya2 yn2 yc2)).cell? ⟨wr.heap.size,4,none⟩ = some (.slice xa1 xn1 xc1)∧(((((wq.setCell ⟨wr.heap.size + 1,0,none⟩ (.int .i64 R.1.k)).setCell ⟨wr.heap.size + 1,1,none⟩ (.int .i64 R.1.n)).setCell ⟨wr.heap.size + 1,2,none⟩ (.string R.1.s)).setCell ⟨wr.heap.size + 1,3,none⟩ (.slice xa2 xn2 xc2)).setCell ⟨wr.heap.size + 1,4,none⟩ (.slice ya2 yn2 yc2)).cell? ⟨wr.heap.size,5,none⟩ = some (.slice ya1 yn1 yc1)∧(((((wq.setCell ⟨wr.heap.size + 1,0,none⟩ (.int .i64 R.1.k)).setCell ⟨wr.heap.size + 1,1,none⟩ (.int .i64 R.1.n)).setCell ⟨wr.heap.size + 1,2,none⟩ (.string R.1.s)).setCell ⟨wr.heap.size + 1,3,none⟩ (.slice xa2 xn2 xc2)).setCell ⟨wr.heap.size + 1,4,none⟩ (.slice ya2 yn2 yc2)).cell? ⟨H + 1,0,none⟩ = some (.int .i64 x.k)∧(((((wq.setCell ⟨wr.heap.size + 1,0,none⟩ (.int .i64 R.1.k)).setCell ⟨wr.heap.size + 1,1,none⟩ (.int .i64 R.1.n)).setCell ⟨wr.heap.size + 1,2,none⟩ (.string R.1.s)).setCell ⟨wr.heap.size + 1,3,none⟩ (.slice xa2 xn2 xc2)).setCell ⟨wr.heap.size + 1,4,none⟩ (.slice ya2 yn2 yc2)).cell? ⟨H + 1,1,none⟩ = some (.int .i64 x.n)∧(((((wq.setCell ⟨wr.heap.size + 1,0,none⟩ (.int .i64 R.1.k)).setCell ⟨wr.heap.size + 1,1,none⟩ (.int .i64 R.1.n)).setCell ⟨wr.heap.size + 1,2,none⟩ (.string R.1.s)).setCell ⟨wr.heap.size + 1,3,none⟩ (.slice xa2 xn2 xc2)).setCell ⟨wr.heap.size + 1,4,none⟩ (.slice ya2 yn2 yc2)).cell? ⟨H + 1,2,none⟩ = some (.string x.s)∧(((((wq.setCell ⟨wr.heap.size + 1,0,none⟩ (.int .i64 R.1.k)).setCell ⟨wr.heap.size + 1,1,none⟩ (.int .i64 R.1.n)).setCell ⟨wr.heap.size + 1,2,none⟩ (.string R.1.s)).setCell ⟨wr.heap.size + 1,3,none⟩ (.slice xa2 xn2 xc2)).setCell ⟨wr.heap.size + 1,4,none⟩ (.slice ya2 yn2 yc2)).cell? ⟨H + 1,3,none⟩ = some (.slice xa xn xc)∧(((((wq.setCell ⟨wr.heap.size + 1,0,none⟩ (.int .i64 R.1.k)).setCell ⟨wr.heap.size + 1,1,none⟩ (.int .i64 R.1.n)).setCell ⟨wr.heap.size + 1,2,none⟩ (.string R.1.s)).setCell ⟨wr.heap.size + 1,3,none⟩ (.slice xa2 xn2 xc2)).setCell ⟨wr.heap.size + 1,4,none⟩ (.slice ya2 yn2 yc2)).cell? ⟨H + 1,4,none⟩ = some (.slice ya yn yc)):=⟨HAF.out.2.1.cell 1,HAF.out.2.1.cell 2,HAF.out.2.1.cell 3,HAF.out.2.1.cell 4,HAF.out.2.1.cell 5,by
              have ox:=HQ.out.2.1.2.2.1
              have ox3:=ox.keep (HAF.out.2.2.1.block _ ox.lt)
              exact ox3.cells⟩
            refine wpAnyH_ready (rs:=[10]) (by kernel_rfl) (by simp) ?_
            refine AllReadyH.cons (o:=_) rfl (fun K hK=>?_) AllReadyH.nil
            go_simp
            refine hK.out _ _ HSS.out (fun hHeld=>?_)
            clear hK K
            refine wpAnyH_take (i:=11) (v:=.int .i64 R.2) rfl (by kernel_rfl) (by kernel_rfl) (by kernel_rfl) (fun _ _ _ h=>h) (Or.inl ⟨by rfl,fun w hw=>by go_simp⟩) hHeld ?_
            simp only [Act.put,List.getElem_toArray,List.getElem_cons_zero,List.getElem_cons_succ,List.setIfInBounds_toArray,List.set_cons_zero,List.set_cons_succ]
            refine wpAnyH_done (by kernel_rfl) ?_ _
            clear HXC HOY HCA HCB hHeld HSS HEB HSB y0 y1 y2 y3 y4 y5 e0 e1 e2 e3 e4 u0 u1 u2 u3 u4 f0 f1 f2 f3 f4
            generalize hzb:wr.heap.size + 1 = zb at HAF ⊢
            clear hzb
            generalize (((((wq.setCell ⟨zb,0,none⟩ (.int .i64 R.1.k)).setCell ⟨zb,1,none⟩ (.int .i64 R.1.n)).setCell ⟨zb,2,none⟩ (.string R.1.s)).setCell ⟨zb,3,none⟩ (.slice xa2 xn2 xc2)).setCell ⟨zb,4,none⟩ (.slice ya2 yn2 yc2)) = w3 at HAF ⊢
            obtain ⟨k0,k1,k2,k3,k4⟩:=HAF.out.1.cells
            have m0:w3.cell? ⟨wr.heap.size,0,none⟩ = some (.string (ky j)):=HAF.out.2.1.cell 0
            have m1:w3.cell? ⟨wr.heap.size,1,none⟩ = some (.int .i64 (dv j).k):=HAF.out.2.1.cell 1
            have m2:w3.cell? ⟨wr.heap.size,2,none⟩ = some (.int .i64 (dv j).n):=HAF.out.2.1.cell 2
            have m3:w3.cell? ⟨wr.heap.size,3,none⟩ = some (.string (dv j).s):=HAF.out.2.1.cell 3
            have m4:w3.cell? ⟨wr.heap.size,4,none⟩ = some (.slice xa1 xn1 xc1):=HAF.out.2.1.cell 4
            have m5:w3.cell? ⟨wr.heap.size,5,none⟩ = some (.slice ya1 yn1 yc1):=HAF.out.2.1.cell 5
            have n1':=HAF.out.2.1.frozen 1
            have n2':=HAF.out.2.1.frozen 2
            have n3:=HAF.out.2.1.frozen 3
            have n4:=HAF.out.2.1.frozen 4
            have n5:=HAF.out.2.1.frozen 5
            by_cases hz:R.2 = 0
            · have bs5:Besides wr.heap.size w3 (((((w3.setCell ⟨wr.heap.size,1,none⟩ (.int .i64 R.1.k)).setCell ⟨wr.heap.size,2,none⟩ (.int .i64 R.1.n)).setCell ⟨wr.heap.size,3,none⟩ (.string R.1.s)).setCell ⟨wr.heap.size,4,none⟩ (.slice xa2 xn2 xc2)).setCell ⟨wr.heap.size,5,none⟩ (.slice ya2 yn2 yc2)):=((((Besides.setCell w3 ⟨wr.heap.size,1,none⟩ _).trans (Besides.setCell _ ⟨wr.heap.size,2,none⟩ _)).trans (Besides.setCell _ ⟨wr.heap.size,3,none⟩ _)).trans (Besides.setCell _ ⟨wr.heap.size,4,none⟩ _)).trans (Besides.setCell _ ⟨wr.heap.size,5,none⟩ _)
              have b30:=HAF.out.2.2.1
              have bY:Below wr.heap.size wr (((((w3.setCell ⟨wr.heap.size,1,none⟩ (.int .i64 R.1.k)).setCell ⟨wr.heap.size,2,none⟩ (.int .i64 R.1.n)).setCell ⟨wr.heap.size,3,none⟩ (.string R.1.s)).setCell ⟨wr.heap.size,4,none⟩ (.slice xa2 xn2 xc2)).setCell ⟨wr.heap.size,5,none⟩ (.slice ya2 yn2 yc2)):=((((b30.setCell (Nat.le_refl _) _).setCell (Nat.le_refl _) _).setCell (Nat.le_refl _) _).setCell (Nat.le_refl _) _).setCell (Nat.le_refl _) _
              have bO:Below wr.heap.size wr ((((((w3.setCell ⟨wr.heap.size,1,none⟩ (.int .i64 R.1.k)).setCell ⟨wr.heap.size,2,none⟩ (.int .i64 R.1.n)).setCell ⟨wr.heap.size,3,none⟩ (.string R.1.s)).setCell ⟨wr.heap.size,4,none⟩ (.slice xa2 xn2 xc2)).setCell ⟨wr.heap.size,5,none⟩ (.slice ya2 yn2 yc2)).alloc (Obj.cells #[.string (ky j),.int .i64 R.1.k,.int .i64 R.1.n,.string R.1.s,.slice xa2 xn2 xc2,.slice ya2 yn2 yc2] 67)):=bY.alloc bY.size _
              have hsY:(((((w3.setCell ⟨wr.heap.size,1,none⟩ (.int .i64 R.1.k)).setCell ⟨wr.heap.size,2,none⟩ (.int .i64 R.1.n)).setCell ⟨wr.heap.size,3,none⟩ (.string R.1.s)).setCell ⟨wr.heap.size,4,none⟩ (.slice xa2 xn2 xc2)).setCell ⟨wr.heap.size,5,none⟩ (.slice ya2 yn2 yc2)).heap.size = w3.heap.size:=by simp [World.setCell]
              have oY:blk (((((w3.setCell ⟨wr.heap.size,1,none⟩ (.int .i64 R.1.k)).setCell ⟨wr.heap.size,2,none⟩ (.int .i64 R.1.n)).setCell ⟨wr.heap.size,3,none⟩ (.string R.1.s)).setCell ⟨wr.heap.size,4,none⟩ (.slice xa2 xn2 xc2)).setCell ⟨wr.heap.size,5,none⟩ (.slice ya2 yn2 yc2)) wr.heap.size 67 #[.string (ky j),.int .i64 R.1.k,.int .i64 R.1.n,.string R.1.s,.slice xa2 xn2 xc2,.slice ya2 yn2 yc2]:=((((HAF.out.2.1.set 1 _).set 2 _).set 3 _).set 4 _).set 5 _
              have HA:Hid (((((((w3.setCell ⟨wr.heap.size,1,none⟩ (.int .i64 R.1.k)).setCell ⟨wr.heap.size,2,none⟩ (.int .i64 R.1.n)).setCell ⟨wr.heap.size,3,none⟩ (.string R.1.s)).setCell ⟨wr.heap.size,4,none⟩ (.slice xa2 xn2 xc2)).setCell ⟨wr.heap.size,5,none⟩ (.slice ya2 yn2 yc2)).alloc (Obj.cells #[.string (ky j),.int .i64 R.1.k,.int .i64 R.1.n,.string R.1.s,.slice xa2 xn2 xc2,.slice ya2 yn2 yc2] 67)).ownsRow (H + 3) 67 6 (.slice la L.length lc) L.length us∧blk ((((((w3.setCell ⟨wr.heap.size,1,none⟩ (.int .i64 R.1.k)).setCell ⟨wr.heap.size,2,none⟩ (.int .i64 R.1.n)).setCell ⟨wr.heap.size,3,none⟩ (.string R.1.s)).setCell ⟨wr.heap.size,4,none⟩ (.slice xa2 xn2 xc2)).setCell ⟨wr.heap.size,5,none⟩ (.slice ya2 yn2 yc2)).alloc (Obj.cells #[.string (ky j),.int .i64 R.1.k,.int .i64 R.1.n,.string R.1.s,.slice xa2 xn2 xc2,.slice ya2 yn2 yc2] 67)) w3.heap.size 67 #[.string (ky j),.int .i64 R.1.k,.int .i64 R.1.n,.string R.1.s,.slice xa2 xn2 xc2,.slice ya2 yn2 yc2]∧Below wr.heap.size wr ((((((w3.setCell ⟨wr.heap.size,1,none⟩ (.int .i64 R.1.k)).setCell ⟨wr.heap.size,2,none⟩ (.int .i64 R.1.n)).setCell ⟨wr.heap.size,3,none⟩ (.string R.1.s)).setCell ⟨wr.heap.size,4,none⟩ (.slice xa2 xn2 xc2)).setCell ⟨wr.heap.size,5,none⟩ (.slice ya2 yn2 yc2)).alloc (Obj.cells #[.string (ky j),.int .i64 R.1.k,.int .i64 R.1.n,.string R.1.s,.slice xa2 xn2 xc2,.slice ya2 yn2 yc2] 67))∧RV (fun b=>b < A ∨ (H + 3 ≤ b∧(Value.slice la L.length lc).ownBlock ≠ some b)) ((((((w3.setCell ⟨wr.heap.size,1,none⟩ (.int .i64 R.1.k)).setCell ⟨wr.heap.size,2,none⟩ (.int .i64 R.1.n)).setCell ⟨wr.heap.size,3,none⟩ (.string R.1.s)).setCell ⟨wr.heap.size,4,none⟩ (.slice xa2 xn2 xc2)).setCell ⟨wr.heap.size,5,none⟩ (.slice ya2 yn2 yc2)).alloc (Obj.cells #[.string (ky j),.int .i64 R.1.k,.int .i64 R.1.n,.string R.1.s,.slice xa2 xn2 xc2,.slice ya2 yn2 yc2] 67)) R.1 (.slice xa2 xn2 xc2) (.slice ya2 yn2 yc2)):=by
                refine ⟨own_keep HQ.out.2.2.2.1 (fun x _ hx=>bO.block x hx),(by have h:=heap_new (((((w3.setCell ⟨wr.heap.size,1,none⟩ (.int .i64 R.1.k)).setCell ⟨wr.heap.size,2,none⟩ (.int .i64 R.1.n)).setCell ⟨wr.heap.size,3,none⟩ (.string R.1.s)).setCell ⟨wr.heap.size,4,none⟩ (.slice xa2 xn2 xc2)).setCell ⟨wr.heap.size,5,none⟩ (.slice ya2 yn2 yc2)) (Obj.cells #[.string (ky j),.int .i64 R.1.k,.int .i64 R.1.n,.string R.1.s,.slice xa2 xn2 xc2,.slice ya2 yn2 yc2] 67); rw [hsY] at h; exact h),bO,?_⟩
                have hr5:RV (fun b=>b < A ∨ wr.heap.size < b) (((((w3.setCell ⟨wr.heap.size,1,none⟩ (.int .i64 R.1.k)).setCell ⟨wr.heap.size,2,none⟩ (.int .i64 R.1.n)).setCell ⟨wr.heap.size,3,none⟩ (.string R.1.s)).setCell ⟨wr.heap.size,4,none⟩ (.slice xa2 xn2 xc2)).setCell ⟨wr.heap.size,5,none⟩ (.slice ya2 yn2 yc2)) R.1 (.slice xa2 xn2 xc2) (.slice ya2 yn2 yc2):=RV.move (fun _ h _=>h) bs5.size (fun b hb hl=>bs5.block b hl (by rcases hb with h | h <;> omega)) _ _ _ HAF.out.2.2.2
                exact RV.move (fun b hb _=>by
                  rcases hb with h | h
                  · exact .inl h
                  · exact .inr ⟨by omega,fun e=>by have:=(own_lt HQ.out.2.2.2.1 e).2; omega⟩) (by simp) (fun b _ hl=>Below.heap_alloc _ _ _ hl) _ _ _ hr5
              have hh3:H + 3 ≤ w3.heap.size:=Nat.le_trans h3H HAF.out.2.2.1.size
              have h50:(((((w3.setCell ⟨wr.heap.size,1,none⟩ (.int .i64 R.1.k)).setCell ⟨wr.heap.size,2,none⟩ (.int .i64 R.1.n)).setCell ⟨wr.heap.size,3,none⟩ (.string R.1.s)).setCell ⟨wr.heap.size,4,none⟩ (.slice xa2 xn2 xc2)).setCell ⟨wr.heap.size,5,none⟩ (.slice ya2 yn2 yc2)).cell? ⟨wr.heap.size,0,none⟩ = some (.string (ky j)):=oY.cell 0
              have h51:(((((w3.setCell ⟨wr.heap.size,1,none⟩ (.int .i64 R.1.k)).setCell ⟨wr.heap.size,2,none⟩ (.int .i64 R.1.n)).setCell ⟨wr.heap.size,3,none⟩ (.string R.1.s)).setCell ⟨wr.heap.size,4,none⟩ (.slice xa2 xn2 xc2)).setCell ⟨wr.heap.size,5,none⟩ (.slice ya2 yn2 yc2)).cell? ⟨wr.heap.size,1,none⟩ = some (.int .i64 R.1.k):=oY.cell 1
              have h52:(((((w3.setCell ⟨wr.heap.size,1,none⟩ (.int .i64 R.1.k)).setCell ⟨wr.heap.size,2,none⟩ (.int .i64 R.1.n)).setCell ⟨wr.heap.size,3,none⟩ (.string R.1.s)).setCell ⟨wr.heap.size,4,none⟩ (.slice xa2 xn2 xc2)).setCell ⟨wr.heap.size,5,none⟩ (.slice ya2 yn2 yc2)).cell? ⟨wr.heap.size,2,none⟩ = some (.int .i64 R.1.n):=oY.cell 2
              have h53:(((((w3.setCell ⟨wr.heap.size,1,none⟩ (.int .i64 R.1.k)).setCell ⟨wr.heap.size,2,none⟩ (.int .i64 R.1.n)).setCell ⟨wr.heap.size,3,none⟩ (.string R.1.s)).setCell ⟨wr.heap.size,4,none⟩ (.slice xa2 xn2 xc2)).setCell ⟨wr.heap.size,5,none⟩ (.slice ya2 yn2 yc2)).cell? ⟨wr.heap.size,3,none⟩ = some (.string R.1.s):=oY.cell 3
              have h54:(((((w3.setCell ⟨wr.heap.size,1,none⟩ (.int .i64 R.1.k)).setCell ⟨wr.heap.size,2,none⟩ (.int .i64 R.1.n)).setCell ⟨wr.heap.size,3,none⟩ (.string R.1.s)).setCell ⟨wr.heap.size,4,none⟩ (.slice xa2 xn2 xc2)).setCell ⟨wr.heap.size,5,none⟩ (.slice ya2 yn2 yc2)).cell? ⟨wr.heap.size,4,none⟩ = some (.slice xa2 xn2 xc2):=oY.cell 4
              have h55:(((((w3.setCell ⟨wr.heap.size,1,none⟩ (.int .i64 R.1.k)).setCell ⟨wr.heap.size,2,none⟩ (.int .i64 R.1.n)).setCell ⟨wr.heap.size,3,none⟩ (.string R.1.s)).setCell ⟨wr.heap.size,4,none⟩ (.slice xa2 xn2 xc2)).setCell ⟨wr.heap.size,5,none⟩ (.slice ya2 yn2 yc2)).cell? ⟨wr.heap.size,5,none⟩ = some (.slice ya2 yn2 yc2):=oY.cell 5
              clear bY bO bs5 oY b30
              go_wp2_with (at_builtin; refine append_pair rfl _ _ rfl rfl HA.out.1 w3.heap.size rfl HA.out.2.1 rfl rfl (by simp; omega) (by omega) ?_)
              intro v' w5 ho5 hg5 ha5
              obtain ⟨a5,c5,rfl⟩:=ownForm ho5
              have HN:Hid (dG key p.isEmpty (wiT x p) x ky dv (j + 1) = .inl (L ++ [(ky j,R.1)],true)∧WLv H w w5 4 n s (.slice a ln ca) (.slice (some ⟨b,ob,none⟩) dn ca') x (.slice xa xn xc) (.slice ya yn yc)∧PRow (H + 3) (Sw A (H + 3) (.slice a5 (L.length + 1) c5)) w5 (.slice a5 (L.length + 1) c5) (L ++ [(ky j,R.1)])):=by
                obtain ⟨q1,q2,q3,q4,q5⟩:=HQ.out
                refine ⟨?_,(q2.keep HS.out HA.out.2.2.1).grow HS.out hg5 (fun q hq=>(own_lt q4 hq).1),prow_add (by omega) q3 q4.1 HA.out.2.2.1 HA.out.2.2.2 (fun q hq=>own_lt q4 hq) hg5 (by simpa using ha5) ho5⟩
                unfold dG
                rw [q1]
                dsimp only
                rw [if_pos HJI.out,HRR.out,if_pos hz]
              clear HQ HA HAF ho5 hg5 ha5 c3 g0 g1 g2 g3 g4 g5 k0 k1 k2 k3 k4 m0 m1 m2 m3 m4 m5 hsY hh3 h50 h51 h52 h53 h54 h55
              go_wp2
              go_roundw
              case rel=>exact ⟨j + 1,L ++ [(ky j,R.1)],true,by omega,by go_num,rfl,by simp; omega,HN⟩
              case measure=>simp [intOf]; omega
            · have hz':(R.2 != 0) = true:=by simpa using hz
              have hor:=((HQ.out.2.1.keep HS.out HAF.out.2.2.1).2.2.2)
              have HOR:=Lib.hid hor
              obtain ⟨o0,o1,o2,o3,o4⟩:=hor.cells
              have p0':=hor.frozen 0
              have p1':=hor.frozen 1
              have p2':=hor.frozen 2
              have p3':=hor.frozen 3
              have p4':=hor.frozen 4
              have HBE:Hid (Below H w w3∧dG key p.isEmpty (wiT x p) x ky dv dn = .inr R.2):=by
                obtain ⟨q1,q2,_⟩:=HQ.out
                refine ⟨(q2.keep HS.out HAF.out.2.2.1).1,dG_stop (j:=j + 1) (by omega) ?_⟩
                unfold dG
                rw [q1]
                dsimp only
                rw [if_pos HJI.out,HRR.out,if_neg hz]
              clear HQ HAF hor k0 k1 k2 k3 k4 m0 m1 m2 m3 m4 m5 c3 g0 g1 g2 g3 g4 g5
              go_wp2
              refine bodyPost_ret (v:=.tuple #[vv t0 (.slice none 0 0) (.slice none 0 0),.int .i64 R.2]) (results_cell55t Tryz.results40 _ _ (H + 1 + 1) _ rfl (((((HOR.out.set0 _).set1 _).set2 _).set3 _).set4 _) rfl) rfl ?_
              have hre:RES = (t0,R.2):=by rw [← HRES.out,HBE.out.2]; rfl
              rw [hre]
              refine ⟨_,_,rfl,rv_t0 _ _,?_⟩
              have h0:=HBE.out.1
              have hE:=besides5 w3 (H + 1 + 1) (.int .i64 0) (.int .i64 0) (.string { data:=#[] }) (.slice .none 0 0) (.slice .none 0 0)
              rw [HS.out]
              exact ⟨hE.os.trans h0.os,hE.tape.trans h0.tape,hE.output.trans h0.output,Nat.le_trans h0.size hE.size,fun q hq=>(hE.block q (by have:=h0.size; have:=HS.out; omega) (by omega)).trans (h0.block q (by have:=HS.out; omega))⟩
        · have q3:(pn:Int) ≤ (pc:Int):=by omega
          have q4:¬ pc - 1 = 0:=by omega
          have q5:(1:Int) ≤ (pn:Int):=by omega
          have q6:1 < pc:=by omega
          have hpn1:pn - 1 = p.length:=by have:=HPN.out; omega
          obtain ⟨HCA',HCB'⟩:=HPA.out (some ⟨pg,po + 2,none⟩) (pc - 1) (path_rest hpg hpr) (by have:=HPN.out; omega)
          have HCA:=Lib.hid HCA'
          have HCB:=Lib.hid HCB'
          clear HCA' HCB' HPA hpr
          go_wp2_with fail
          refine wp_region_held_drew (S:=fun w'=>w'.cell? ⟨wr.heap.size,1,none⟩ = some (.int .i64 (dv j).k)∧w'.cell? ⟨wr.heap.size,2,none⟩ = some (.int .i64 (dv j).n)∧w'.cell? ⟨wr.heap.size,3,none⟩ = some (.string (dv j).s)∧w'.cell? ⟨wr.heap.size,4,none⟩ = some (.slice xa1 xn1 xc1)∧w'.cell? ⟨wr.heap.size,5,none⟩ = some (.slice ya1 yn1 yc1)∧w'.cell? ⟨H + 1,0,none⟩ = some (.int .i64 x.k)∧w'.cell? ⟨H + 1,1,none⟩ = some (.int .i64 x.n)∧w'.cell? ⟨H + 1,2,none⟩ = some (.string x.s)∧w'.cell? ⟨H + 1,3,none⟩ = some (.slice xa xn xc)∧w'.cell? ⟨H + 1,4,none⟩ = some (.slice ya yn yc)) (by kernel_rfl) (⟨y0,y1,y2,y3,y4,e0,e1,e2,e3,e4⟩) (fun hHeld=>?_)
          refine wpAnyH_take (i:=0) (v:=.pointer (some ⟨wr.heap.size,1,none⟩)) rfl (by kernel_rfl) (by kernel_rfl) (by kernel_rfl) (fun _ _ _ h=>h) (Or.inl ⟨by rfl,fun w hw=>by go_simp⟩) hHeld ?_
          simp only [Act.put,List.getElem_toArray,List.getElem_cons_zero,List.setIfInBounds_toArray,List.set_cons_zero,List.set_cons_succ]
          refine wpAnyH_take (i:=1) (v:=.agg #[.int .i64 (dv j).k,.int .i64 (dv j).n,.string (dv j).s,.slice xa1 xn1 xc1,.slice ya1 yn1 yc1]) rfl (by kernel_rfl) (by kernel_rfl) (by kernel_rfl) (fun _ _ _ h=>h) (Or.inl ⟨by rfl,fun w hw=>by obtain ⟨c0,c1,c2,c3,c4,_⟩:=hw; go_simp⟩) hHeld ?_
          simp only [Act.put,List.getElem_toArray,List.getElem_cons_zero,List.getElem_cons_succ,List.setIfInBounds_toArray,List.set_cons_zero,List.set_cons_succ]
          refine wpAnyH_take (i:=2) (v:=.slice (some ⟨pg,po,none⟩) pn pc) rfl (by kernel_rfl) (by kernel_rfl) (by kernel_rfl) (fun _ _ _ h=>h) (Or.inl ⟨by rfl,fun w hw=>by go_simp⟩) hHeld ?_
          simp only [Act.put,List.getElem_toArray,List.getElem_cons_zero,List.getElem_cons_succ,List.setIfInBounds_toArray,List.set_cons_zero,List.set_cons_succ]
          refine wpAnyH_take (i:=3) (v:=.slice (some ⟨pg,po + 2,none⟩) p.length (pc - 1)) rfl (by kernel_rfl) (by kernel_rfl) (by kernel_rfl) (fun _ _ _ h=>h) (Or.inl ⟨by rfl,fun w hw=>by go_simp⟩) hHeld ?_
          simp only [Act.put,List.getElem_toArray,List.getElem_cons_zero,List.getElem_cons_succ,List.setIfInBounds_toArray,List.set_cons_zero,List.set_cons_succ]
          refine wpAnyH_take (i:=4) (v:=.agg #[.int .i64 x.k,.int .i64 x.n,.string x.s,.slice xa xn xc,.slice ya yn yc]) rfl (by kernel_rfl) (by kernel_rfl) (by kernel_rfl) (fun _ _ _ h=>h) (Or.inl ⟨by rfl,fun w hw=>by obtain ⟨_,_,_,_,_,c0,c1,c2,c3,c4⟩:=hw; go_simp⟩) hHeld ?_
          simp only [Act.put,List.getElem_toArray,List.getElem_cons_zero,List.getElem_cons_succ,List.setIfInBounds_toArray,List.set_cons_zero,List.set_cons_succ]
          refine wpAnyH_ready (rs:=[5,9]) (by kernel_rfl) (by simp) ?_
          refine AllReadyH.cons (o:=_) rfl (fun K hK=>?_) (AllReadyH.cons (o:=_) rfl (fun K hK=>?_) AllReadyH.nil)
          · go_simp
            refine (HCA.out).mono ?_
            rintro e wq ⟨xa2,xn2,xc2,ya2,yn2,yc2,rfl,HEA,HXA⟩
            refine hK.out _ _ HEA.1 (fun hHeld=>?_)
            clear hK K
            refine wpAnyH_take (i:=6) (v:=.tuple #[.agg #[.int .i64 R.1.k,.int .i64 R.1.n,.string R.1.s,.slice xa2 xn2 xc2,.slice ya2 yn2 yc2],.int .i64 R.2]) rfl (by kernel_rfl) (by kernel_rfl) (by kernel_rfl) (fun _ _ _ h=>h) (Or.inl ⟨by rfl,fun w hw=>by go_simp⟩) hHeld ?_
            simp only [Act.put,List.getElem_toArray,List.getElem_cons_zero,List.getElem_cons_succ,List.setIfInBounds_toArray,List.set_cons_zero,List.set_cons_succ]
            refine wpAnyH_take (i:=7) (v:=.agg #[.int .i64 R.1.k,.int .i64 R.1.n,.string R.1.s,.slice xa2 xn2 xc2,.slice ya2 yn2 yc2]) rfl (by kernel_rfl) (by kernel_rfl) (by kernel_rfl) (fun _ _ _ h=>h) (Or.inl ⟨by rfl,fun w hw=>by go_simp⟩) hHeld ?_
            simp only [Act.put,List.getElem_toArray,List.getElem_cons_zero,List.getElem_cons_succ,List.setIfInBounds_toArray,List.set_cons_zero,List.set_cons_succ]
            refine wpAnyH_take (i:=8) (v:=.int .i64 R.2) rfl (by kernel_rfl) (by kernel_rfl) (by kernel_rfl) (fun _ _ _ h=>h) (Or.inl ⟨by rfl,fun w hw=>by go_simp⟩) hHeld ?_
            simp only [Act.put,List.getElem_toArray,List.getElem_cons_zero,List.getElem_cons_succ,List.setIfInBounds_toArray,List.set_cons_zero,List.set_cons_succ]
            refine wpAnyH_ready (rs:=[9]) (by kernel_rfl) (by simp) ?_
            refine AllReadyH.cons (o:=_) rfl (fun K hK=>?_) AllReadyH.nil
            go_simp
            refine hK.out _ _ HEA.2 (fun hHeld=>?_)
            clear hK K
            refine wpAnyH_ready (rs:=[10]) (by kernel_rfl) (by simp) ?_
            refine AllReadyH.cons (o:=_) rfl (fun K hK=>?_) AllReadyH.nil
            go_simp
            obtain ⟨r0,r1,r2,r3,r4,s0,s1,s2,s3,s4⟩:=HEA.1
            refine hK.out _ _ (⟨cell_alloc_old r0,cell_alloc_old r1,cell_alloc_old r2,cell_alloc_old r3,cell_alloc_old r4,cell_alloc_old s0,cell_alloc_old s1,cell_alloc_old s2,cell_alloc_old s3,cell_alloc_old s4⟩) (fun hHeld=>?_)
            clear hK K
            refine wpAnyH_take (i:=11) (v:=.int .i64 R.2) rfl (by kernel_rfl) (by kernel_rfl) (by kernel_rfl) (fun _ _ _ h=>h) (Or.inl ⟨by rfl,fun w hw=>by go_simp⟩) hHeld ?_
            simp only [Act.put,List.getElem_toArray,List.getElem_cons_zero,List.getElem_cons_succ,List.setIfInBounds_toArray,List.set_cons_zero,List.set_cons_succ]
            refine wpAnyH_done (by kernel_rfl) ?_ _
            have HAF:Hid (obj (wq.alloc (Obj.cells #[.int .i64 R.1.k,.int .i64 R.1.n,.string R.1.s,.slice xa2 xn2 xc2,.slice ya2 yn2 yc2] 55)) wq.heap.size (.int .i64 R.1.k) (.int .i64 R.1.n) (.string R.1.s) (.slice xa2 xn2 xc2) (.slice ya2 yn2 yc2)∧blk (wq.alloc (Obj.cells #[.int .i64 R.1.k,.int .i64 R.1.n,.string R.1.s,.slice xa2 xn2 xc2,.slice ya2 yn2 yc2] 55)) wr.heap.size 67 #[.string (ky j),.int .i64 (dv j).k,.int .i64 (dv j).n,.string (dv j).s,.slice xa1 xn1 xc1,.slice ya1 yn1 yc1]∧Below wr.heap.size wr (wq.alloc (Obj.cells #[.int .i64 R.1.k,.int .i64 R.1.n,.string R.1.s,.slice xa2 xn2 xc2,.slice ya2 yn2 yc2] 55))∧RV (fun b=>b < A ∨ wr.heap.size < b) (wq.alloc (Obj.cells #[.int .i64 R.1.k,.int .i64 R.1.n,.string R.1.s,.slice xa2 xn2 xc2,.slice ya2 yn2 yc2] 55)) R.1 (.slice xa2 xn2 xc2) (.slice ya2 yn2 yc2)):=by
              obtain ⟨h1,h2⟩:=HXA.out
              obtain ⟨u1,_,_,u4,_⟩:=HOY.out
              have b3:Below wr.heap.size wr (wq.alloc (Obj.cells #[.int .i64 R.1.k,.int .i64 R.1.n,.string R.1.s,.slice xa2 xn2 xc2,.slice ya2 yn2 yc2] 55)):=(u4.trans (h2.mono u4.size)).alloc (Nat.le_trans u4.size h2.size) _
              have o1:=u1.keep (h2.block _ u1.lt)
              refine ⟨heap_new _ _,o1.keep (Below.heap_alloc _ _ _ o1.lt),b3,RV.move (fun b hb _=>?_) (by simp) (fun b _ hl=>Below.heap_alloc _ _ _ hl) _ _ _ h1⟩
              rcases hb with h | h
              · exact .inl h
              · exact .inr (by have e : (wr.alloc (Obj.cells #[.string (ky j), .int .i64 (dv j).k, .int .i64 (dv j).n, .string (dv j).s, .slice xa1 xn1 xc1, .slice ya1 yn1 yc1] 67)).drew.heap.size = wr.heap.size + 1 := by show (wr.alloc (Obj.cells #[.string (ky j), .int .i64 (dv j).k, .int .i64 (dv j).n, .string (dv j).s, .slice xa1 xn1 xc1, .slice ya1 yn1 yc1] 67)).heap.size = _; simp
                               omega)
            clear HXA HOY HCA HCB hHeld HEA r0 r1 r2 r3 r4 s0 s1 s2 s3 s4 y0 y1 y2 y3 y4 y5 e0 e1 e2 e3 e4
            generalize hzb:wq.heap.size = zb at HAF ⊢
            clear hzb
            generalize (wq.alloc (Obj.cells #[.int .i64 R.1.k,.int .i64 R.1.n,.string R.1.s,.slice xa2 xn2 xc2,.slice ya2 yn2 yc2] 55)) = w3 at HAF ⊢
            obtain ⟨k0,k1,k2,k3,k4⟩:=HAF.out.1.cells
            have m0:w3.cell? ⟨wr.heap.size,0,none⟩ = some (.string (ky j)):=HAF.out.2.1.cell 0
            have m1:w3.cell? ⟨wr.heap.size,1,none⟩ = some (.int .i64 (dv j).k):=HAF.out.2.1.cell 1
            have m2:w3.cell? ⟨wr.heap.size,2,none⟩ = some (.int .i64 (dv j).n):=HAF.out.2.1.cell 2
            have m3:w3.cell? ⟨wr.heap.size,3,none⟩ = some (.string (dv j).s):=HAF.out.2.1.cell 3
            have m4:w3.cell? ⟨wr.heap.size,4,none⟩ = some (.slice xa1 xn1 xc1):=HAF.out.2.1.cell 4
            have m5:w3.cell? ⟨wr.heap.size,5,none⟩ = some (.slice ya1 yn1 yc1):=HAF.out.2.1.cell 5
            have n1':=HAF.out.2.1.frozen 1
            have n2':=HAF.out.2.1.frozen 2
            have n3:=HAF.out.2.1.frozen 3
            have n4:=HAF.out.2.1.frozen 4
            have n5:=HAF.out.2.1.frozen 5
            by_cases hz:R.2 = 0
            · have bs5:Besides wr.heap.size w3 (((((w3.setCell ⟨wr.heap.size,1,none⟩ (.int .i64 R.1.k)).setCell ⟨wr.heap.size,2,none⟩ (.int .i64 R.1.n)).setCell ⟨wr.heap.size,3,none⟩ (.string R.1.s)).setCell ⟨wr.heap.size,4,none⟩ (.slice xa2 xn2 xc2)).setCell ⟨wr.heap.size,5,none⟩ (.slice ya2 yn2 yc2)):=((((Besides.setCell w3 ⟨wr.heap.size,1,none⟩ _).trans (Besides.setCell _ ⟨wr.heap.size,2,none⟩ _)).trans (Besides.setCell _ ⟨wr.heap.size,3,none⟩ _)).trans (Besides.setCell _ ⟨wr.heap.size,4,none⟩ _)).trans (Besides.setCell _ ⟨wr.heap.size,5,none⟩ _)
              have b30:=HAF.out.2.2.1
              have bY:Below wr.heap.size wr (((((w3.setCell ⟨wr.heap.size,1,none⟩ (.int .i64 R.1.k)).setCell ⟨wr.heap.size,2,none⟩ (.int .i64 R.1.n)).setCell ⟨wr.heap.size,3,none⟩ (.string R.1.s)).setCell ⟨wr.heap.size,4,none⟩ (.slice xa2 xn2 xc2)).setCell ⟨wr.heap.size,5,none⟩ (.slice ya2 yn2 yc2)):=((((b30.setCell (Nat.le_refl _) _).setCell (Nat.le_refl _) _).setCell (Nat.le_refl _) _).setCell (Nat.le_refl _) _).setCell (Nat.le_refl _) _
              have bO:Below wr.heap.size wr ((((((w3.setCell ⟨wr.heap.size,1,none⟩ (.int .i64 R.1.k)).setCell ⟨wr.heap.size,2,none⟩ (.int .i64 R.1.n)).setCell ⟨wr.heap.size,3,none⟩ (.string R.1.s)).setCell ⟨wr.heap.size,4,none⟩ (.slice xa2 xn2 xc2)).setCell ⟨wr.heap.size,5,none⟩ (.slice ya2 yn2 yc2)).alloc (Obj.cells #[.string (ky j),.int .i64 R.1.k,.int .i64 R.1.n,.string R.1.s,.slice xa2 xn2 xc2,.slice ya2 yn2 yc2] 67)):=bY.alloc bY.size _
              have hsY:(((((w3.setCell ⟨wr.heap.size,1,none⟩ (.int .i64 R.1.k)).setCell ⟨wr.heap.size,2,none⟩ (.int .i64 R.1.n)).setCell ⟨wr.heap.size,3,none⟩ (.string R.1.s)).setCell ⟨wr.heap.size,4,none⟩ (.slice xa2 xn2 xc2)).setCell ⟨wr.heap.size,5,none⟩ (.slice ya2 yn2 yc2)).heap.size = w3.heap.size:=by simp [World.setCell]
              have oY:blk (((((w3.setCell ⟨wr.heap.size,1,none⟩ (.int .i64 R.1.k)).setCell ⟨wr.heap.size,2,none⟩ (.int .i64 R.1.n)).setCell ⟨wr.heap.size,3,none⟩ (.string R.1.s)).setCell ⟨wr.heap.size,4,none⟩ (.slice xa2 xn2 xc2)).setCell ⟨wr.heap.size,5,none⟩ (.slice ya2 yn2 yc2)) wr.heap.size 67 #[.string (ky j),.int .i64 R.1.k,.int .i64 R.1.n,.string R.1.s,.slice xa2 xn2 xc2,.slice ya2 yn2 yc2]:=((((HAF.out.2.1.set 1 _).set 2 _).set 3 _).set 4 _).set 5 _
              have HA:Hid (((((((w3.setCell ⟨wr.heap.size,1,none⟩ (.int .i64 R.1.k)).setCell ⟨wr.heap.size,2,none⟩ (.int .i64 R.1.n)).setCell ⟨wr.heap.size,3,none⟩ (.string R.1.s)).setCell ⟨wr.heap.size,4,none⟩ (.slice xa2 xn2 xc2)).setCell ⟨wr.heap.size,5,none⟩ (.slice ya2 yn2 yc2)).alloc (Obj.cells #[.string (ky j),.int .i64 R.1.k,.int .i64 R.1.n,.string R.1.s,.slice xa2 xn2 xc2,.slice ya2 yn2 yc2] 67)).ownsRow (H + 3) 67 6 (.slice la L.length lc) L.length us∧blk ((((((w3.setCell ⟨wr.heap.size,1,none⟩ (.int .i64 R.1.k)).setCell ⟨wr.heap.size,2,none⟩ (.int .i64 R.1.n)).setCell ⟨wr.heap.size,3,none⟩ (.string R.1.s)).setCell ⟨wr.heap.size,4,none⟩ (.slice xa2 xn2 xc2)).setCell ⟨wr.heap.size,5,none⟩ (.slice ya2 yn2 yc2)).alloc (Obj.cells #[.string (ky j),.int .i64 R.1.k,.int .i64 R.1.n,.string R.1.s,.slice xa2 xn2 xc2,.slice ya2 yn2 yc2] 67)) w3.heap.size 67 #[.string (ky j),.int .i64 R.1.k,.int .i64 R.1.n,.string R.1.s,.slice xa2 xn2 xc2,.slice ya2 yn2 yc2]∧Below wr.heap.size wr ((((((w3.setCell ⟨wr.heap.size,1,none⟩ (.int .i64 R.1.k)).setCell ⟨wr.heap.size,2,none⟩ (.int .i64 R.1.n)).setCell ⟨wr.heap.size,3,none⟩ (.string R.1.s)).setCell ⟨wr.heap.size,4,none⟩ (.slice xa2 xn2 xc2)).setCell ⟨wr.heap.size,5,none⟩ (.slice ya2 yn2 yc2)).alloc (Obj.cells #[.string (ky j),.int .i64 R.1.k,.int .i64 R.1.n,.string R.1.s,.slice xa2 xn2 xc2,.slice ya2 yn2 yc2] 67))∧RV (fun b=>b < A ∨ (H + 3 ≤ b∧(Value.slice la L.length lc).ownBlock ≠ some b)) ((((((w3.setCell ⟨wr.heap.size,1,none⟩ (.int .i64 R.1.k)).setCell ⟨wr.heap.size,2,none⟩ (.int .i64 R.1.n)).setCell ⟨wr.heap.size,3,none⟩ (.string R.1.s)).setCell ⟨wr.heap.size,4,none⟩ (.slice xa2 xn2 xc2)).setCell ⟨wr.heap.size,5,none⟩ (.slice ya2 yn2 yc2)).alloc (Obj.cells #[.string (ky j),.int .i64 R.1.k,.int .i64 R.1.n,.string R.1.s,.slice xa2 xn2 xc2,.slice ya2 yn2 yc2] 67)) R.1 (.slice xa2 xn2 xc2) (.slice ya2 yn2 yc2)):=by
                refine ⟨own_keep HQ.out.2.2.2.1 (fun x _ hx=>bO.block x hx),(by have h:=heap_new (((((w3.setCell ⟨wr.heap.size,1,none⟩ (.int .i64 R.1.k)).setCell ⟨wr.heap.size,2,none⟩ (.int .i64 R.1.n)).setCell ⟨wr.heap.size,3,none⟩ (.string R.1.s)).setCell ⟨wr.heap.size,4,none⟩ (.slice xa2 xn2 xc2)).setCell ⟨wr.heap.size,5,none⟩ (.slice ya2 yn2 yc2)) (Obj.cells #[.string (ky j),.int .i64 R.1.k,.int .i64 R.1.n,.string R.1.s,.slice xa2 xn2 xc2,.slice ya2 yn2 yc2] 67); rw [hsY] at h; exact h),bO,?_⟩
                have hr5:RV (fun b=>b < A ∨ wr.heap.size < b) (((((w3.setCell ⟨wr.heap.size,1,none⟩ (.int .i64 R.1.k)).setCell ⟨wr.heap.size,2,none⟩ (.int .i64 R.1.n)).setCell ⟨wr.heap.size,3,none⟩ (.string R.1.s)).setCell ⟨wr.heap.size,4,none⟩ (.slice xa2 xn2 xc2)).setCell ⟨wr.heap.size,5,none⟩ (.slice ya2 yn2 yc2)) R.1 (.slice xa2 xn2 xc2) (.slice ya2 yn2 yc2):=RV.move (fun _ h _=>h) bs5.size (fun b hb hl=>bs5.block b hl (by rcases hb with h | h <;> omega)) _ _ _ HAF.out.2.2.2
                exact RV.move (fun b hb _=>by
                  rcases hb with h | h
                  · exact .inl h
                  · exact .inr ⟨by omega,fun e=>by have:=(own_lt HQ.out.2.2.2.1 e).2; omega⟩) (by simp) (fun b _ hl=>Below.heap_alloc _ _ _ hl) _ _ _ hr5
              have hh3:H + 3 ≤ w3.heap.size:=Nat.le_trans h3H HAF.out.2.2.1.size
              have h50:(((((w3.setCell ⟨wr.heap.size,1,none⟩ (.int .i64 R.1.k)).setCell ⟨wr.heap.size,2,none⟩ (.int .i64 R.1.n)).setCell ⟨wr.heap.size,3,none⟩ (.string R.1.s)).setCell ⟨wr.heap.size,4,none⟩ (.slice xa2 xn2 xc2)).setCell ⟨wr.heap.size,5,none⟩ (.slice ya2 yn2 yc2)).cell? ⟨wr.heap.size,0,none⟩ = some (.string (ky j)):=oY.cell 0
              have h51:(((((w3.setCell ⟨wr.heap.size,1,none⟩ (.int .i64 R.1.k)).setCell ⟨wr.heap.size,2,none⟩ (.int .i64 R.1.n)).setCell ⟨wr.heap.size,3,none⟩ (.string R.1.s)).setCell ⟨wr.heap.size,4,none⟩ (.slice xa2 xn2 xc2)).setCell ⟨wr.heap.size,5,none⟩ (.slice ya2 yn2 yc2)).cell? ⟨wr.heap.size,1,none⟩ = some (.int .i64 R.1.k):=oY.cell 1
              have h52:(((((w3.setCell ⟨wr.heap.size,1,none⟩ (.int .i64 R.1.k)).setCell ⟨wr.heap.size,2,none⟩ (.int .i64 R.1.n)).setCell ⟨wr.heap.size,3,none⟩ (.string R.1.s)).setCell ⟨wr.heap.size,4,none⟩ (.slice xa2 xn2 xc2)).setCell ⟨wr.heap.size,5,none⟩ (.slice ya2 yn2 yc2)).cell? ⟨wr.heap.size,2,none⟩ = some (.int .i64 R.1.n):=oY.cell 2
              have h53:(((((w3.setCell ⟨wr.heap.size,1,none⟩ (.int .i64 R.1.k)).setCell ⟨wr.heap.size,2,none⟩ (.int .i64 R.1.n)).setCell ⟨wr.heap.size,3,none⟩ (.string R.1.s)).setCell ⟨wr.heap.size,4,none⟩ (.slice xa2 xn2 xc2)).setCell ⟨wr.heap.size,5,none⟩ (.slice ya2 yn2 yc2)).cell? ⟨wr.heap.size,3,none⟩ = some (.string R.1.s):=oY.cell 3
              have h54:(((((w3.setCell ⟨wr.heap.size,1,none⟩ (.int .i64 R.1.k)).setCell ⟨wr.heap.size,2,none⟩ (.int .i64 R.1.n)).setCell ⟨wr.heap.size,3,none⟩ (.string R.1.s)).setCell ⟨wr.heap.size,4,none⟩ (.slice xa2 xn2 xc2)).setCell ⟨wr.heap.size,5,none⟩ (.slice ya2 yn2 yc2)).cell? ⟨wr.heap.size,4,none⟩ = some (.slice xa2 xn2 xc2):=oY.cell 4
              have h55:(((((w3.setCell ⟨wr.heap.size,1,none⟩ (.int .i64 R.1.k)).setCell ⟨wr.heap.size,2,none⟩ (.int .i64 R.1.n)).setCell ⟨wr.heap.size,3,none⟩ (.string R.1.s)).setCell ⟨wr.heap.size,4,none⟩ (.slice xa2 xn2 xc2)).setCell ⟨wr.heap.size,5,none⟩ (.slice ya2 yn2 yc2)).cell? ⟨wr.heap.size,5,none⟩ = some (.slice ya2 yn2 yc2):=oY.cell 5
              clear bY bO bs5 oY b30
              go_wp2_with (at_builtin; refine append_pair rfl _ _ rfl rfl HA.out.1 w3.heap.size rfl HA.out.2.1 rfl rfl (by simp; omega) (by omega) ?_)
              intro v' w5 ho5 hg5 ha5
              obtain ⟨a5,c5,rfl⟩:=ownForm ho5
              have HN:Hid (dG key p.isEmpty (wiT x p) x ky dv (j + 1) = .inl (L ++ [(ky j,R.1)],true)∧WLv H w w5 4 n s (.slice a ln ca) (.slice (some ⟨b,ob,none⟩) dn ca') x (.slice xa xn xc) (.slice ya yn yc)∧PRow (H + 3) (Sw A (H + 3) (.slice a5 (L.length + 1) c5)) w5 (.slice a5 (L.length + 1) c5) (L ++ [(ky j,R.1)])):=by
                obtain ⟨q1,q2,q3,q4,q5⟩:=HQ.out
                refine ⟨?_,(q2.keep HS.out HA.out.2.2.1).grow HS.out hg5 (fun q hq=>(own_lt q4 hq).1),prow_add (by omega) q3 q4.1 HA.out.2.2.1 HA.out.2.2.2 (fun q hq=>own_lt q4 hq) hg5 (by simpa using ha5) ho5⟩
                unfold dG
                rw [q1]
                dsimp only
                rw [if_pos HJI.out,HRR.out,if_pos hz]
              clear HQ HA HAF ho5 hg5 ha5 c3 g0 g1 g2 g3 g4 g5 k0 k1 k2 k3 k4 m0 m1 m2 m3 m4 m5 hsY hh3 h50 h51 h52 h53 h54 h55
              go_wp2
              go_roundw
              case rel=>exact ⟨j + 1,L ++ [(ky j,R.1)],true,by omega,by go_num,rfl,by simp; omega,HN⟩
              case measure=>simp [intOf]; omega
            · have hz':(R.2 != 0) = true:=by simpa using hz
              have hor:=((HQ.out.2.1.keep HS.out HAF.out.2.2.1).2.2.2)
              have HOR:=Lib.hid hor
              obtain ⟨o0,o1,o2,o3,o4⟩:=hor.cells
              have p0':=hor.frozen 0
              have p1':=hor.frozen 1
              have p2':=hor.frozen 2
              have p3':=hor.frozen 3
              have p4':=hor.frozen 4
              have HBE:Hid (Below H w w3∧dG key p.isEmpty (wiT x p) x ky dv dn = .inr R.2):=by
                obtain ⟨q1,q2,_⟩:=HQ.out
                refine ⟨(q2.keep HS.out HAF.out.2.2.1).1,dG_stop (j:=j + 1) (by omega) ?_⟩
                unfold dG
                rw [q1]
                dsimp only
                rw [if_pos HJI.out,HRR.out,if_neg hz]
              clear HQ HAF hor k0 k1 k2 k3 k4 m0 m1 m2 m3 m4 m5 c3 g0 g1 g2 g3 g4 g5
              go_wp2
              refine bodyPost_ret (v:=.tuple #[vv t0 (.slice none 0 0) (.slice none 0 0),.int .i64 R.2]) (results_cell55t Tryz.results40 _ _ (H + 1 + 1) _ rfl (((((HOR.out.set0 _).set1 _).set2 _).set3 _).set4 _) rfl) rfl ?_
              have hre:RES = (t0,R.2):=by rw [← HRES.out,HBE.out.2]; rfl
              rw [hre]
              refine ⟨_,_,rfl,rv_t0 _ _,?_⟩
              have h0:=HBE.out.1
              have hE:=besides5 w3 (H + 1 + 1) (.int .i64 0) (.int .i64 0) (.string { data:=#[] }) (.slice .none 0 0) (.slice .none 0 0)
              rw [HS.out]
              exact ⟨hE.os.trans h0.os,hE.tape.trans h0.tape,hE.output.trans h0.output,Nat.le_trans h0.size hE.size,fun q hq=>(hE.block q (by have:=h0.size; have:=HS.out; omega) (by omega)).trans (h0.block q (by have:=HS.out; omega))⟩
          · go_simp
            refine hK.out _ _ HSB.out (fun hHeld=>?_)
            clear hK K
            refine wpAnyH_ready (rs:=[5]) (by kernel_rfl) (by simp) ?_
            refine AllReadyH.cons (o:=_) rfl (fun K hK=>?_) AllReadyH.nil
            go_simp
            refine (HCB.out).mono ?_
            rintro e wq ⟨xa2,xn2,xc2,ya2,yn2,yc2,rfl,⟨HEB,⟨u0,u1,u2,u3,u4⟩,f0,f1,f2,f3,f4⟩,HXC⟩
            refine hK.out _ _ HEB (fun hHeld=>?_)
            clear hK K
            refine wpAnyH_take (i:=6) (v:=.tuple #[.agg #[.int .i64 R.1.k,.int .i64 R.1.n,.string R.1.s,.slice xa2 xn2 xc2,.slice ya2 yn2 yc2],.int .i64 R.2]) rfl (by kernel_rfl) (by kernel_rfl) (by kernel_rfl) (fun _ _ _ h=>h) (Or.inl ⟨by rfl,fun w hw=>by go_simp⟩) hHeld ?_
            simp only [Act.put,List.getElem_toArray,List.getElem_cons_zero,List.getElem_cons_succ,List.setIfInBounds_toArray,List.set_cons_zero,List.set_cons_succ]
            refine wpAnyH_take (i:=7) (v:=.agg #[.int .i64 R.1.k,.int .i64 R.1.n,.string R.1.s,.slice xa2 xn2 xc2,.slice ya2 yn2 yc2]) rfl (by kernel_rfl) (by kernel_rfl) (by kernel_rfl) (fun _ _ _ h=>h) (Or.inl ⟨by rfl,fun w hw=>by go_simp⟩) hHeld ?_
            simp only [Act.put,List.getElem_toArray,List.getElem_cons_zero,List.getElem_cons_succ,List.setIfInBounds_toArray,List.set_cons_zero,List.set_cons_succ]
            refine wpAnyH_take (i:=8) (v:=.int .i64 R.2) rfl (by kernel_rfl) (by kernel_rfl) (by kernel_rfl) (fun _ _ _ h=>h) (Or.inl ⟨by rfl,fun w hw=>by go_simp⟩) hHeld ?_
            simp only [Act.put,List.getElem_toArray,List.getElem_cons_zero,List.getElem_cons_succ,List.setIfInBounds_toArray,List.set_cons_zero,List.set_cons_succ]
            have HAF:Hid (obj (((((wq.setCell ⟨wr.heap.size + 1,0,none⟩ (.int .i64 R.1.k)).setCell ⟨wr.heap.size + 1,1,none⟩ (.int .i64 R.1.n)).setCell ⟨wr.heap.size + 1,2,none⟩ (.string R.1.s)).setCell ⟨wr.heap.size + 1,3,none⟩ (.slice xa2 xn2 xc2)).setCell ⟨wr.heap.size + 1,4,none⟩ (.slice ya2 yn2 yc2)) (wr.heap.size + 1) (.int .i64 R.1.k) (.int .i64 R.1.n) (.string R.1.s) (.slice xa2 xn2 xc2) (.slice ya2 yn2 yc2)∧blk (((((wq.setCell ⟨wr.heap.size + 1,0,none⟩ (.int .i64 R.1.k)).setCell ⟨wr.heap.size + 1,1,none⟩ (.int .i64 R.1.n)).setCell ⟨wr.heap.size + 1,2,none⟩ (.string R.1.s)).setCell ⟨wr.heap.size + 1,3,none⟩ (.slice xa2 xn2 xc2)).setCell ⟨wr.heap.size + 1,4,none⟩ (.slice ya2 yn2 yc2)) wr.heap.size 67 #[.string (ky j),.int .i64 (dv j).k,.int .i64 (dv j).n,.string (dv j).s,.slice xa1 xn1 xc1,.slice ya1 yn1 yc1]∧Below wr.heap.size wr (((((wq.setCell ⟨wr.heap.size + 1,0,none⟩ (.int .i64 R.1.k)).setCell ⟨wr.heap.size + 1,1,none⟩ (.int .i64 R.1.n)).setCell ⟨wr.heap.size + 1,2,none⟩ (.string R.1.s)).setCell ⟨wr.heap.size + 1,3,none⟩ (.slice xa2 xn2 xc2)).setCell ⟨wr.heap.size + 1,4,none⟩ (.slice ya2 yn2 yc2))∧RV (fun b=>b < A ∨ wr.heap.size < b) (((((wq.setCell ⟨wr.heap.size + 1,0,none⟩ (.int .i64 R.1.k)).setCell ⟨wr.heap.size + 1,1,none⟩ (.int .i64 R.1.n)).setCell ⟨wr.heap.size + 1,2,none⟩ (.string R.1.s)).setCell ⟨wr.heap.size + 1,3,none⟩ (.slice xa2 xn2 xc2)).setCell ⟨wr.heap.size + 1,4,none⟩ (.slice ya2 yn2 yc2)) R.1 (.slice xa2 xn2 xc2) (.slice ya2 yn2 yc2)):=by
              obtain ⟨h1,h2⟩:=HXC.out
              obtain ⟨_,u2,u3,_,u5⟩:=HOY.out
              have o2:=u2.keep (h2.block _ u2.lt)
              have o3:=u3.keep (h2.block _ u3.lt)
              have bs5:=besides5 wq (wr.heap.size + 1) (.int .i64 R.1.k) (.int .i64 R.1.n) (.string R.1.s) (.slice xa2 xn2 xc2) (.slice ya2 yn2 yc2)
              have b3:Below wr.heap.size wr (((((wq.setCell ⟨wr.heap.size + 1,0,none⟩ (.int .i64 R.1.k)).setCell ⟨wr.heap.size + 1,1,none⟩ (.int .i64 R.1.n)).setCell ⟨wr.heap.size + 1,2,none⟩ (.string R.1.s)).setCell ⟨wr.heap.size + 1,3,none⟩ (.slice xa2 xn2 xc2)).setCell ⟨wr.heap.size + 1,4,none⟩ (.slice ya2 yn2 yc2)):=below_set5v (by omega) (u5.trans (h2.mono u5.size))
              refine ⟨((((o3.set0 _).set1 _).set2 _).set3 _).set4 _,o2.keep (bs5.block _ o2.lt (by omega)),b3,RV.move (fun b hb _=>?_) bs5.size (fun b hb hl=>bs5.block b hl ?_) _ _ _ h1⟩
              · rcases hb with h | h
                · exact .inl h
                · exact .inr (by have e : ((wr.alloc (Obj.cells #[.string (ky j), .int .i64 (dv j).k, .int .i64 (dv j).n, .string (dv j).s, .slice xa1 xn1 xc1, .slice ya1 yn1 yc1] 67)).alloc zeroV).drew.heap.size = wr.heap.size + 1 + 1 := by show ((wr.alloc (Obj.cells #[.string (ky j), .int .i64 (dv j).k, .int .i64 (dv j).n, .string (dv j).s, .slice xa1 xn1 xc1, .slice ya1 yn1 yc1] 67)).alloc zeroV).heap.size = _; simp
                                 omega)
              · rcases hb with h | h
                · omega
                · have e:((wr.alloc (Obj.cells #[.string (ky j),.int .i64 (dv j).k,.int .i64 (dv j).n,.string (dv j).s,.slice xa1 xn1 xc1,.slice ya1 yn1 yc1] 67)).alloc zeroV).drew.heap.size = wr.heap.size + 1 + 1:=by show ((wr.alloc (Obj.cells #[.string (ky j),.int .i64 (dv j).k,.int .i64 (dv j).n,.string (dv j).s,.slice xa1 xn1 xc1,.slice ya1 yn1 yc1] 67)).alloc zeroV).heap.size = _; simp
                  omega
            have HSS:Hid ((((((wq.setCell ⟨wr.heap.size + 1,0,none⟩ (.int .i64 R.1.k)).setCell ⟨wr.heap.size + 1,1,none⟩ (.int .i64 R.1.n)).setCell ⟨wr.heap.size + 1,2,none⟩ (.string R.1.s)).setCell ⟨wr.heap.size + 1,3,none⟩ (.slice xa2 xn2 xc2)).setCell ⟨wr.heap.size + 1,4,none⟩ (.slice ya2 yn2 yc2)).cell? ⟨wr.heap.size,1,none⟩ = some (.int .i64 (dv j).k)∧(((((wq.setCell ⟨wr.heap.size + 1,0,none⟩ (.int .i64 R.1.k)).setCell ⟨wr.heap.size + 1,1,none⟩ (.int .i64 R.1.n)).setCell ⟨wr.heap.size + 1,2,none⟩ (.string R.1.s)).setCell ⟨wr.heap.size + 1,3,none⟩ (.slice xa2 xn2 xc2)).setCell ⟨wr.heap.size + 1,4,none⟩ (.slice ya2 yn2 yc2)).cell? ⟨wr.heap.size,2,none⟩ = some (.int .i64 (dv j).n)∧(((((wq.setCell ⟨wr.heap.size + 1,0,none⟩ (.int .i64 R.1.k)).setCell ⟨wr.heap.size + 1,1,none⟩ (.int .i64 R.1.n)).setCell ⟨wr.heap.size + 1,2,none⟩ (.string R.1.s)).setCell ⟨wr.heap.size + 1,3,none⟩ (.slice xa2 xn2 xc2)).setCell ⟨wr.heap.size + 1,4,none⟩ (.slice ya2 yn2 yc2)).cell? ⟨wr.heap.size,3,none⟩ = some (.string (dv j).s)∧(((((wq.setCell ⟨wr.heap.size + 1,0,none⟩ (.int .i64 R.1.k)).setCell ⟨wr.heap.size + 1,1,none⟩ (.int .i64 R.1.n)).setCell ⟨wr.heap.size + 1,2,none⟩ (.string R.1.s)).setCell ⟨wr.heap.size + 1,3,none⟩ (.slice xa2 xn2 xc2)).setCell ⟨wr.heap.size + 1,4,none⟩ (.slice ya2 yn2 yc2)).cell? ⟨wr.heap.size,4,none⟩ = some (.slice xa1 xn1 xc1)∧(((((wq.setCell ⟨wr.heap.size + 1,0,none⟩ (.int .i64 R.1.k)).setCell ⟨wr.heap.size + 1,1,none⟩ (.int .i64 R.1.n)).setCell ⟨wr.heap.size + 1,2,none⟩ (.string R.1.s)).setCell ⟨wr.heap.size + 1,3,none⟩ (.slice xa2 xn2 xc2)).setCell ⟨wr.heap.size + 1,4,none⟩ (.slice ya2 yn2 yc2)).cell? ⟨wr.heap.size,5,none⟩ = some (.slice ya1 yn1 yc1)∧(((((wq.setCell ⟨wr.heap.size + 1,0,none⟩ (.int .i64 R.1.k)).setCell ⟨wr.heap.size + 1,1,none⟩ (.int .i64 R.1.n)).setCell ⟨wr.heap.size + 1,2,none⟩ (.string R.1.s)).setCell ⟨wr.heap.size + 1,3,none⟩ (.slice xa2 xn2 xc2)).setCell ⟨wr.heap.size + 1,4,none⟩ (.slice ya2 yn2 yc2)).cell? ⟨H + 1,0,none⟩ = some (.int .i64 x.k)∧(((((wq.setCell ⟨wr.heap.size + 1,0,none⟩ (.int .i64 R.1.k)).setCell ⟨wr.heap.size + 1,1,none⟩ (.int .i64 R.1.n)).setCell ⟨wr.heap.size + 1,2,none⟩ (.string R.1.s)).setCell ⟨wr.heap.size + 1,3,none⟩ (.slice xa2 xn2 xc2)).setCell ⟨wr.heap.size + 1,4,none⟩ (.slice ya2 yn2 yc2)).cell? ⟨H + 1,1,none⟩ = some (.int .i64 x.n)∧(((((wq.setCell ⟨wr.heap.size + 1,0,none⟩ (.int .i64 R.1.k)).setCell ⟨wr.heap.size + 1,1,none⟩ (.int .i64 R.1.n)).setCell ⟨wr.heap.size + 1,2,none⟩ (.string R.1.s)).setCell ⟨wr.heap.size + 1,3,none⟩ (.slice xa2 xn2 xc2)).setCell ⟨wr.heap.size + 1,4,none⟩ (.slice ya2 yn2 yc2)).cell? ⟨H + 1,2,none⟩ = some (.string x.s)∧(((((wq.setCell ⟨wr.heap.size + 1,0,none⟩ (.int .i64 R.1.k)).setCell ⟨wr.heap.size + 1,1,none⟩ (.int .i64 R.1.n)).setCell ⟨wr.heap.size + 1,2,none⟩ (.string R.1.s)).setCell ⟨wr.heap.size + 1,3,none⟩ (.slice xa2 xn2 xc2)).setCell ⟨wr.heap.size + 1,4,none⟩ (.slice ya2 yn2 yc2)).cell? ⟨H + 1,3,none⟩ = some (.slice xa xn xc)∧(((((wq.setCell ⟨wr.heap.size + 1,0,none⟩ (.int .i64 R.1.k)).setCell ⟨wr.heap.size + 1,1,none⟩ (.int .i64 R.1.n)).setCell ⟨wr.heap.size + 1,2,none⟩ (.string R.1.s)).setCell ⟨wr.heap.size + 1,3,none⟩ (.slice xa2 xn2 xc2)).setCell ⟨wr.heap.size + 1,4,none⟩ (.slice ya2 yn2 yc2)).cell? ⟨H + 1,4,none⟩ = some (.slice ya yn yc)):=⟨HAF.out.2.1.cell 1,HAF.out.2.1.cell 2,HAF.out.2.1.cell 3,HAF.out.2.1.cell 4,HAF.out.2.1.cell 5,by
              have ox:=HQ.out.2.1.2.2.1
              have ox3:=ox.keep (HAF.out.2.2.1.block _ ox.lt)
              exact ox3.cells⟩
            refine wpAnyH_ready (rs:=[10]) (by kernel_rfl) (by simp) ?_
            refine AllReadyH.cons (o:=_) rfl (fun K hK=>?_) AllReadyH.nil
            go_simp
            refine hK.out _ _ HSS.out (fun hHeld=>?_)
            clear hK K
            refine wpAnyH_take (i:=11) (v:=.int .i64 R.2) rfl (by kernel_rfl) (by kernel_rfl) (by kernel_rfl) (fun _ _ _ h=>h) (Or.inl ⟨by rfl,fun w hw=>by go_simp⟩) hHeld ?_
            simp only [Act.put,List.getElem_toArray,List.getElem_cons_zero,List.getElem_cons_succ,List.setIfInBounds_toArray,List.set_cons_zero,List.set_cons_succ]
            refine wpAnyH_done (by kernel_rfl) ?_ _
            clear HXC HOY HCA HCB hHeld HSS HEB HSB y0 y1 y2 y3 y4 y5 e0 e1 e2 e3 e4 u0 u1 u2 u3 u4 f0 f1 f2 f3 f4
            generalize hzb:wr.heap.size + 1 = zb at HAF ⊢
            clear hzb
            generalize (((((wq.setCell ⟨zb,0,none⟩ (.int .i64 R.1.k)).setCell ⟨zb,1,none⟩ (.int .i64 R.1.n)).setCell ⟨zb,2,none⟩ (.string R.1.s)).setCell ⟨zb,3,none⟩ (.slice xa2 xn2 xc2)).setCell ⟨zb,4,none⟩ (.slice ya2 yn2 yc2)) = w3 at HAF ⊢
            obtain ⟨k0,k1,k2,k3,k4⟩:=HAF.out.1.cells
            have m0:w3.cell? ⟨wr.heap.size,0,none⟩ = some (.string (ky j)):=HAF.out.2.1.cell 0
            have m1:w3.cell? ⟨wr.heap.size,1,none⟩ = some (.int .i64 (dv j).k):=HAF.out.2.1.cell 1
            have m2:w3.cell? ⟨wr.heap.size,2,none⟩ = some (.int .i64 (dv j).n):=HAF.out.2.1.cell 2
            have m3:w3.cell? ⟨wr.heap.size,3,none⟩ = some (.string (dv j).s):=HAF.out.2.1.cell 3
            have m4:w3.cell? ⟨wr.heap.size,4,none⟩ = some (.slice xa1 xn1 xc1):=HAF.out.2.1.cell 4
            have m5:w3.cell? ⟨wr.heap.size,5,none⟩ = some (.slice ya1 yn1 yc1):=HAF.out.2.1.cell 5
            have n1':=HAF.out.2.1.frozen 1
            have n2':=HAF.out.2.1.frozen 2
            have n3:=HAF.out.2.1.frozen 3
            have n4:=HAF.out.2.1.frozen 4
            have n5:=HAF.out.2.1.frozen 5
            by_cases hz:R.2 = 0
            · have bs5:Besides wr.heap.size w3 (((((w3.setCell ⟨wr.heap.size,1,none⟩ (.int .i64 R.1.k)).setCell ⟨wr.heap.size,2,none⟩ (.int .i64 R.1.n)).setCell ⟨wr.heap.size,3,none⟩ (.string R.1.s)).setCell ⟨wr.heap.size,4,none⟩ (.slice xa2 xn2 xc2)).setCell ⟨wr.heap.size,5,none⟩ (.slice ya2 yn2 yc2)):=((((Besides.setCell w3 ⟨wr.heap.size,1,none⟩ _).trans (Besides.setCell _ ⟨wr.heap.size,2,none⟩ _)).trans (Besides.setCell _ ⟨wr.heap.size,3,none⟩ _)).trans (Besides.setCell _ ⟨wr.heap.size,4,none⟩ _)).trans (Besides.setCell _ ⟨wr.heap.size,5,none⟩ _)
              have b30:=HAF.out.2.2.1
              have bY:Below wr.heap.size wr (((((w3.setCell ⟨wr.heap.size,1,none⟩ (.int .i64 R.1.k)).setCell ⟨wr.heap.size,2,none⟩ (.int .i64 R.1.n)).setCell ⟨wr.heap.size,3,none⟩ (.string R.1.s)).setCell ⟨wr.heap.size,4,none⟩ (.slice xa2 xn2 xc2)).setCell ⟨wr.heap.size,5,none⟩ (.slice ya2 yn2 yc2)):=((((b30.setCell (Nat.le_refl _) _).setCell (Nat.le_refl _) _).setCell (Nat.le_refl _) _).setCell (Nat.le_refl _) _).setCell (Nat.le_refl _) _
              have bO:Below wr.heap.size wr ((((((w3.setCell ⟨wr.heap.size,1,none⟩ (.int .i64 R.1.k)).setCell ⟨wr.heap.size,2,none⟩ (.int .i64 R.1.n)).setCell ⟨wr.heap.size,3,none⟩ (.string R.1.s)).setCell ⟨wr.heap.size,4,none⟩ (.slice xa2 xn2 xc2)).setCell ⟨wr.heap.size,5,none⟩ (.slice ya2 yn2 yc2)).alloc (Obj.cells #[.string (ky j),.int .i64 R.1.k,.int .i64 R.1.n,.string R.1.s,.slice xa2 xn2 xc2,.slice ya2 yn2 yc2] 67)):=bY.alloc bY.size _
              have hsY:(((((w3.setCell ⟨wr.heap.size,1,none⟩ (.int .i64 R.1.k)).setCell ⟨wr.heap.size,2,none⟩ (.int .i64 R.1.n)).setCell ⟨wr.heap.size,3,none⟩ (.string R.1.s)).setCell ⟨wr.heap.size,4,none⟩ (.slice xa2 xn2 xc2)).setCell ⟨wr.heap.size,5,none⟩ (.slice ya2 yn2 yc2)).heap.size = w3.heap.size:=by simp [World.setCell]
              have oY:blk (((((w3.setCell ⟨wr.heap.size,1,none⟩ (.int .i64 R.1.k)).setCell ⟨wr.heap.size,2,none⟩ (.int .i64 R.1.n)).setCell ⟨wr.heap.size,3,none⟩ (.string R.1.s)).setCell ⟨wr.heap.size,4,none⟩ (.slice xa2 xn2 xc2)).setCell ⟨wr.heap.size,5,none⟩ (.slice ya2 yn2 yc2)) wr.heap.size 67 #[.string (ky j),.int .i64 R.1.k,.int .i64 R.1.n,.string R.1.s,.slice xa2 xn2 xc2,.slice ya2 yn2 yc2]:=((((HAF.out.2.1.set 1 _).set 2 _).set 3 _).set 4 _).set 5 _
              have HA:Hid (((((((w3.setCell ⟨wr.heap.size,1,none⟩ (.int .i64 R.1.k)).setCell ⟨wr.heap.size,2,none⟩ (.int .i64 R.1.n)).setCell ⟨wr.heap.size,3,none⟩ (.string R.1.s)).setCell ⟨wr.heap.size,4,none⟩ (.slice xa2 xn2 xc2)).setCell ⟨wr.heap.size,5,none⟩ (.slice ya2 yn2 yc2)).alloc (Obj.cells #[.string (ky j),.int .i64 R.1.k,.int .i64 R.1.n,.string R.1.s,.slice xa2 xn2 xc2,.slice ya2 yn2 yc2] 67)).ownsRow (H + 3) 67 6 (.slice la L.length lc) L.length us∧blk ((((((w3.setCell ⟨wr.heap.size,1,none⟩ (.int .i64 R.1.k)).setCell ⟨wr.heap.size,2,none⟩ (.int .i64 R.1.n)).setCell ⟨wr.heap.size,3,none⟩ (.string R.1.s)).setCell ⟨wr.heap.size,4,none⟩ (.slice xa2 xn2 xc2)).setCell ⟨wr.heap.size,5,none⟩ (.slice ya2 yn2 yc2)).alloc (Obj.cells #[.string (ky j),.int .i64 R.1.k,.int .i64 R.1.n,.string R.1.s,.slice xa2 xn2 xc2,.slice ya2 yn2 yc2] 67)) w3.heap.size 67 #[.string (ky j),.int .i64 R.1.k,.int .i64 R.1.n,.string R.1.s,.slice xa2 xn2 xc2,.slice ya2 yn2 yc2]∧Below wr.heap.size wr ((((((w3.setCell ⟨wr.heap.size,1,none⟩ (.int .i64 R.1.k)).setCell ⟨wr.heap.size,2,none⟩ (.int .i64 R.1.n)).setCell ⟨wr.heap.size,3,none⟩ (.string R.1.s)).setCell ⟨wr.heap.size,4,none⟩ (.slice xa2 xn2 xc2)).setCell ⟨wr.heap.size,5,none⟩ (.slice ya2 yn2 yc2)).alloc (Obj.cells #[.string (ky j),.int .i64 R.1.k,.int .i64 R.1.n,.string R.1.s,.slice xa2 xn2 xc2,.slice ya2 yn2 yc2] 67))∧RV (fun b=>b < A ∨ (H + 3 ≤ b∧(Value.slice la L.length lc).ownBlock ≠ some b)) ((((((w3.setCell ⟨wr.heap.size,1,none⟩ (.int .i64 R.1.k)).setCell ⟨wr.heap.size,2,none⟩ (.int .i64 R.1.n)).setCell ⟨wr.heap.size,3,none⟩ (.string R.1.s)).setCell ⟨wr.heap.size,4,none⟩ (.slice xa2 xn2 xc2)).setCell ⟨wr.heap.size,5,none⟩ (.slice ya2 yn2 yc2)).alloc (Obj.cells #[.string (ky j),.int .i64 R.1.k,.int .i64 R.1.n,.string R.1.s,.slice xa2 xn2 xc2,.slice ya2 yn2 yc2] 67)) R.1 (.slice xa2 xn2 xc2) (.slice ya2 yn2 yc2)):=by
                refine ⟨own_keep HQ.out.2.2.2.1 (fun x _ hx=>bO.block x hx),(by have h:=heap_new (((((w3.setCell ⟨wr.heap.size,1,none⟩ (.int .i64 R.1.k)).setCell ⟨wr.heap.size,2,none⟩ (.int .i64 R.1.n)).setCell ⟨wr.heap.size,3,none⟩ (.string R.1.s)).setCell ⟨wr.heap.size,4,none⟩ (.slice xa2 xn2 xc2)).setCell ⟨wr.heap.size,5,none⟩ (.slice ya2 yn2 yc2)) (Obj.cells #[.string (ky j),.int .i64 R.1.k,.int .i64 R.1.n,.string R.1.s,.slice xa2 xn2 xc2,.slice ya2 yn2 yc2] 67); rw [hsY] at h; exact h),bO,?_⟩
                have hr5:RV (fun b=>b < A ∨ wr.heap.size < b) (((((w3.setCell ⟨wr.heap.size,1,none⟩ (.int .i64 R.1.k)).setCell ⟨wr.heap.size,2,none⟩ (.int .i64 R.1.n)).setCell ⟨wr.heap.size,3,none⟩ (.string R.1.s)).setCell ⟨wr.heap.size,4,none⟩ (.slice xa2 xn2 xc2)).setCell ⟨wr.heap.size,5,none⟩ (.slice ya2 yn2 yc2)) R.1 (.slice xa2 xn2 xc2) (.slice ya2 yn2 yc2):=RV.move (fun _ h _=>h) bs5.size (fun b hb hl=>bs5.block b hl (by rcases hb with h | h <;> omega)) _ _ _ HAF.out.2.2.2
                exact RV.move (fun b hb _=>by
                  rcases hb with h | h
                  · exact .inl h
                  · exact .inr ⟨by omega,fun e=>by have:=(own_lt HQ.out.2.2.2.1 e).2; omega⟩) (by simp) (fun b _ hl=>Below.heap_alloc _ _ _ hl) _ _ _ hr5
              have hh3:H + 3 ≤ w3.heap.size:=Nat.le_trans h3H HAF.out.2.2.1.size
              have h50:(((((w3.setCell ⟨wr.heap.size,1,none⟩ (.int .i64 R.1.k)).setCell ⟨wr.heap.size,2,none⟩ (.int .i64 R.1.n)).setCell ⟨wr.heap.size,3,none⟩ (.string R.1.s)).setCell ⟨wr.heap.size,4,none⟩ (.slice xa2 xn2 xc2)).setCell ⟨wr.heap.size,5,none⟩ (.slice ya2 yn2 yc2)).cell? ⟨wr.heap.size,0,none⟩ = some (.string (ky j)):=oY.cell 0
              have h51:(((((w3.setCell ⟨wr.heap.size,1,none⟩ (.int .i64 R.1.k)).setCell ⟨wr.heap.size,2,none⟩ (.int .i64 R.1.n)).setCell ⟨wr.heap.size,3,none⟩ (.string R.1.s)).setCell ⟨wr.heap.size,4,none⟩ (.slice xa2 xn2 xc2)).setCell ⟨wr.heap.size,5,none⟩ (.slice ya2 yn2 yc2)).cell? ⟨wr.heap.size,1,none⟩ = some (.int .i64 R.1.k):=oY.cell 1
              have h52:(((((w3.setCell ⟨wr.heap.size,1,none⟩ (.int .i64 R.1.k)).setCell ⟨wr.heap.size,2,none⟩ (.int .i64 R.1.n)).setCell ⟨wr.heap.size,3,none⟩ (.string R.1.s)).setCell ⟨wr.heap.size,4,none⟩ (.slice xa2 xn2 xc2)).setCell ⟨wr.heap.size,5,none⟩ (.slice ya2 yn2 yc2)).cell? ⟨wr.heap.size,2,none⟩ = some (.int .i64 R.1.n):=oY.cell 2
              have h53:(((((w3.setCell ⟨wr.heap.size,1,none⟩ (.int .i64 R.1.k)).setCell ⟨wr.heap.size,2,none⟩ (.int .i64 R.1.n)).setCell ⟨wr.heap.size,3,none⟩ (.string R.1.s)).setCell ⟨wr.heap.size,4,none⟩ (.slice xa2 xn2 xc2)).setCell ⟨wr.heap.size,5,none⟩ (.slice ya2 yn2 yc2)).cell? ⟨wr.heap.size,3,none⟩ = some (.string R.1.s):=oY.cell 3
              have h54:(((((w3.setCell ⟨wr.heap.size,1,none⟩ (.int .i64 R.1.k)).setCell ⟨wr.heap.size,2,none⟩ (.int .i64 R.1.n)).setCell ⟨wr.heap.size,3,none⟩ (.string R.1.s)).setCell ⟨wr.heap.size,4,none⟩ (.slice xa2 xn2 xc2)).setCell ⟨wr.heap.size,5,none⟩ (.slice ya2 yn2 yc2)).cell? ⟨wr.heap.size,4,none⟩ = some (.slice xa2 xn2 xc2):=oY.cell 4
              have h55:(((((w3.setCell ⟨wr.heap.size,1,none⟩ (.int .i64 R.1.k)).setCell ⟨wr.heap.size,2,none⟩ (.int .i64 R.1.n)).setCell ⟨wr.heap.size,3,none⟩ (.string R.1.s)).setCell ⟨wr.heap.size,4,none⟩ (.slice xa2 xn2 xc2)).setCell ⟨wr.heap.size,5,none⟩ (.slice ya2 yn2 yc2)).cell? ⟨wr.heap.size,5,none⟩ = some (.slice ya2 yn2 yc2):=oY.cell 5
              clear bY bO bs5 oY b30
              go_wp2_with (at_builtin; refine append_pair rfl _ _ rfl rfl HA.out.1 w3.heap.size rfl HA.out.2.1 rfl rfl (by simp; omega) (by omega) ?_)
              intro v' w5 ho5 hg5 ha5
              obtain ⟨a5,c5,rfl⟩:=ownForm ho5
              have HN:Hid (dG key p.isEmpty (wiT x p) x ky dv (j + 1) = .inl (L ++ [(ky j,R.1)],true)∧WLv H w w5 4 n s (.slice a ln ca) (.slice (some ⟨b,ob,none⟩) dn ca') x (.slice xa xn xc) (.slice ya yn yc)∧PRow (H + 3) (Sw A (H + 3) (.slice a5 (L.length + 1) c5)) w5 (.slice a5 (L.length + 1) c5) (L ++ [(ky j,R.1)])):=by
                obtain ⟨q1,q2,q3,q4,q5⟩:=HQ.out
                refine ⟨?_,(q2.keep HS.out HA.out.2.2.1).grow HS.out hg5 (fun q hq=>(own_lt q4 hq).1),prow_add (by omega) q3 q4.1 HA.out.2.2.1 HA.out.2.2.2 (fun q hq=>own_lt q4 hq) hg5 (by simpa using ha5) ho5⟩
                unfold dG
                rw [q1]
                dsimp only
                rw [if_pos HJI.out,HRR.out,if_pos hz]
              clear HQ HA HAF ho5 hg5 ha5 c3 g0 g1 g2 g3 g4 g5 k0 k1 k2 k3 k4 m0 m1 m2 m3 m4 m5 hsY hh3 h50 h51 h52 h53 h54 h55
              go_wp2
              go_roundw
              case rel=>exact ⟨j + 1,L ++ [(ky j,R.1)],true,by omega,by go_num,rfl,by simp; omega,HN⟩
              case measure=>simp [intOf]; omega
            · have hz':(R.2 != 0) = true:=by simpa using hz
              have hor:=((HQ.out.2.1.keep HS.out HAF.out.2.2.1).2.2.2)
              have HOR:=Lib.hid hor
              obtain ⟨o0,o1,o2,o3,o4⟩:=hor.cells
              have p0':=hor.frozen 0
              have p1':=hor.frozen 1
              have p2':=hor.frozen 2
              have p3':=hor.frozen 3
              have p4':=hor.frozen 4
              have HBE:Hid (Below H w w3∧dG key p.isEmpty (wiT x p) x ky dv dn = .inr R.2):=by
                obtain ⟨q1,q2,_⟩:=HQ.out
                refine ⟨(q2.keep HS.out HAF.out.2.2.1).1,dG_stop (j:=j + 1) (by omega) ?_⟩
                unfold dG
                rw [q1]
                dsimp only
                rw [if_pos HJI.out,HRR.out,if_neg hz]
              clear HQ HAF hor k0 k1 k2 k3 k4 m0 m1 m2 m3 m4 m5 c3 g0 g1 g2 g3 g4 g5
              go_wp2
              refine bodyPost_ret (v:=.tuple #[vv t0 (.slice none 0 0) (.slice none 0 0),.int .i64 R.2]) (results_cell55t Tryz.results40 _ _ (H + 1 + 1) _ rfl (((((HOR.out.set0 _).set1 _).set2 _).set3 _).set4 _) rfl) rfl ?_
              have hre:RES = (t0,R.2):=by rw [← HRES.out,HBE.out.2]; rfl
              rw [hre]
              refine ⟨_,_,rfl,rv_t0 _ _,?_⟩
              have h0:=HBE.out.1
              have hE:=besides5 w3 (H + 1 + 1) (.int .i64 0) (.int .i64 0) (.string { data:=#[] }) (.slice .none 0 0) (.slice .none 0 0)
              rw [HS.out]
              exact ⟨hE.os.trans h0.os,hE.tape.trans h0.tape,hE.output.trans h0.output,Nat.le_trans h0.size hE.size,fun q hq=>(hE.block q (by have:=h0.size; have:=HS.out; omega) (by omega)).trans (h0.block q (by have:=HS.out; omega))⟩
      · have HJI:=Lib.hid hji
        have hk2:((ky j).toList == key.toList) = false:=beq_eq_false_iff_ne.2 fun e=>hji (ba_list e)
        have hji2:=hji
        clear hji
        have ox0:=HQ.out.2.1.2.2.1
        have bP:Below wr.heap.size wr (wr.alloc (Obj.cells #[.string (ky j),.int .i64 (dv j).k,.int .i64 (dv j).n,.string (dv j).s,.slice xa1 xn1 xc1,.slice ya1 yn1 yc1] 67)):=(Below.refl _ _).alloc (Nat.le_refl _) _
        obtain ⟨e0,e1,e2,e3,e4⟩:=(ox0.keep (bP.block _ ox0.lt)).cells
        clear ox0 bP
        by_cases hgt:Op.bytesLess key.toList (ky j).toList = true
        · have hk3:Op.bytesLess (ky j).toList key.toList = false:=(gr_of hgt).1
          cases d with
          | true =>
            have HNI:Hid (¬ (Op.bytesLess key.toList (ky j).toList = true∧true = false)):=fun h=>by cases h.2
            clear hgt hji2
            have bO:Below wr.heap.size wr ((wr.alloc (Obj.cells #[.string (ky j),.int .i64 (dv j).k,.int .i64 (dv j).n,.string (dv j).s,.slice xa1 xn1 xc1,.slice ya1 yn1 yc1] 67)).alloc (Obj.cells #[.string (ky j),.int .i64 (dv j).k,.int .i64 (dv j).n,.string (dv j).s,.slice xa1 xn1 xc1,.slice ya1 yn1 yc1] 67)):=((Below.refl _ _).alloc (Nat.le_refl _) _).alloc (by simp) _
            have oO:blk ((wr.alloc (Obj.cells #[.string (ky j),.int .i64 (dv j).k,.int .i64 (dv j).n,.string (dv j).s,.slice xa1 xn1 xc1,.slice ya1 yn1 yc1] 67)).alloc (Obj.cells #[.string (ky j),.int .i64 (dv j).k,.int .i64 (dv j).n,.string (dv j).s,.slice xa1 xn1 xc1,.slice ya1 yn1 yc1] 67)) (wr.heap.size + 1) 67 #[.string (ky j),.int .i64 (dv j).k,.int .i64 (dv j).n,.string (dv j).s,.slice xa1 xn1 xc1,.slice ya1 yn1 yc1]:=by have h:=heap_new (wr.alloc (Obj.cells #[.string (ky j),.int .i64 (dv j).k,.int .i64 (dv j).n,.string (dv j).s,.slice xa1 xn1 xc1,.slice ya1 yn1 yc1] 67)) (Obj.cells #[.string (ky j),.int .i64 (dv j).k,.int .i64 (dv j).n,.string (dv j).s,.slice xa1 xn1 xc1,.slice ya1 yn1 yc1] 67); rw [show (wr.alloc (Obj.cells #[.string (ky j),.int .i64 (dv j).k,.int .i64 (dv j).n,.string (dv j).s,.slice xa1 xn1 xc1,.slice ya1 yn1 yc1] 67)).heap.size = wr.heap.size + 1 by simp] at h; exact h
            have HA:Hid (((wr.alloc (Obj.cells #[.string (ky j),.int .i64 (dv j).k,.int .i64 (dv j).n,.string (dv j).s,.slice xa1 xn1 xc1,.slice ya1 yn1 yc1] 67)).alloc (Obj.cells #[.string (ky j),.int .i64 (dv j).k,.int .i64 (dv j).n,.string (dv j).s,.slice xa1 xn1 xc1,.slice ya1 yn1 yc1] 67)).ownsRow (H + 3) 67 6 (.slice la L.length lc) L.length us∧blk ((wr.alloc (Obj.cells #[.string (ky j),.int .i64 (dv j).k,.int .i64 (dv j).n,.string (dv j).s,.slice xa1 xn1 xc1,.slice ya1 yn1 yc1] 67)).alloc (Obj.cells #[.string (ky j),.int .i64 (dv j).k,.int .i64 (dv j).n,.string (dv j).s,.slice xa1 xn1 xc1,.slice ya1 yn1 yc1] 67)) (wr.heap.size + 1) 67 #[.string (ky j),.int .i64 (dv j).k,.int .i64 (dv j).n,.string (dv j).s,.slice xa1 xn1 xc1,.slice ya1 yn1 yc1]∧Below wr.heap.size wr ((wr.alloc (Obj.cells #[.string (ky j),.int .i64 (dv j).k,.int .i64 (dv j).n,.string (dv j).s,.slice xa1 xn1 xc1,.slice ya1 yn1 yc1] 67)).alloc (Obj.cells #[.string (ky j),.int .i64 (dv j).k,.int .i64 (dv j).n,.string (dv j).s,.slice xa1 xn1 xc1,.slice ya1 yn1 yc1] 67))):=⟨own_keep HQ.out.2.2.2.1 (fun x _ hx=>bO.block x hx),oO,bO⟩
            clear bO oO
            go_wp2_with (at_builtin; refine append_pair (t:=dv j) rfl _ _ rfl rfl HA.out.1 (wr.heap.size + 1) rfl HA.out.2.1 rfl rfl (by simp; omega) (by omega) ?_)
            intro v' w5 ho5 hg5 ha5
            obtain ⟨a5,c5,rfl⟩:=ownForm ho5
            have HN:Hid (dG key p.isEmpty (wiT x p) x ky dv (j + 1) = .inl (L ++ [(ky j,dv j)],true)∧WLv H w w5 4 n s (.slice a ln ca) (.slice (some ⟨b,ob,none⟩) dn ca') x (.slice xa xn xc) (.slice ya yn yc)∧PRow (H + 3) (Sw A (H + 3) (.slice a5 (L.length + 1) c5)) w5 (.slice a5 (L.length + 1) c5) (L ++ [(ky j,dv j)])):=by
              obtain ⟨q1,q2,q3,q4,q5⟩:=HQ.out
              refine ⟨?_,(q2.keep HS.out HA.out.2.2).grow HS.out hg5 (fun q hq=>(own_lt q4 hq).1),prow_add (by omega) q3 q4.1 HA.out.2.2 (RV.move (fun b hb _=>.inl hb) HA.out.2.2.size (fun b _ hl=>HA.out.2.2.block b hl) _ _ _ q5) (fun q hq=>own_lt q4 hq) hg5 (by simpa using ha5) ho5⟩
              unfold dG
              rw [q1]
              dsimp only
              rw [if_neg HJI.out,if_neg HNI.out]
            clear HQ HA ho5 hg5 ha5 c3 g0 g1 g2 g3 g4 g5 i0 e0 e1 e2 e3 e4
            go_wp2
            go_roundw
            case rel=>exact ⟨j + 1,L ++ [(ky j,dv j)],true,by omega,by go_num,rfl,by simp; omega,HN⟩
            case measure=>simp [intOf]; omega
          | false =>
            clear hji2
            have bO:Below wr.heap.size wr ((wr.alloc (Obj.cells #[.string (ky j),.int .i64 (dv j).k,.int .i64 (dv j).n,.string (dv j).s,.slice xa1 xn1 xc1,.slice ya1 yn1 yc1] 67)).alloc (Obj.cells #[.string key,.int .i64 x.k,.int .i64 x.n,.string x.s,.slice xa xn xc,.slice ya yn yc] 67)):=((Below.refl _ _).alloc (Nat.le_refl _) _).alloc (by simp) _
            have oO:blk ((wr.alloc (Obj.cells #[.string (ky j),.int .i64 (dv j).k,.int .i64 (dv j).n,.string (dv j).s,.slice xa1 xn1 xc1,.slice ya1 yn1 yc1] 67)).alloc (Obj.cells #[.string key,.int .i64 x.k,.int .i64 x.n,.string x.s,.slice xa xn xc,.slice ya yn yc] 67)) (wr.heap.size + 1) 67 #[.string key,.int .i64 x.k,.int .i64 x.n,.string x.s,.slice xa xn xc,.slice ya yn yc]:=by have h:=heap_new (wr.alloc (Obj.cells #[.string (ky j),.int .i64 (dv j).k,.int .i64 (dv j).n,.string (dv j).s,.slice xa1 xn1 xc1,.slice ya1 yn1 yc1] 67)) (Obj.cells #[.string key,.int .i64 x.k,.int .i64 x.n,.string x.s,.slice xa xn xc,.slice ya yn yc] 67); rw [show (wr.alloc (Obj.cells #[.string (ky j),.int .i64 (dv j).k,.int .i64 (dv j).n,.string (dv j).s,.slice xa1 xn1 xc1,.slice ya1 yn1 yc1] 67)).heap.size = wr.heap.size + 1 by simp] at h; exact h
            have oP:blk ((wr.alloc (Obj.cells #[.string (ky j),.int .i64 (dv j).k,.int .i64 (dv j).n,.string (dv j).s,.slice xa1 xn1 xc1,.slice ya1 yn1 yc1] 67)).alloc (Obj.cells #[.string key,.int .i64 x.k,.int .i64 x.n,.string x.s,.slice xa xn xc,.slice ya yn yc] 67)) wr.heap.size 67 #[.string (ky j),.int .i64 (dv j).k,.int .i64 (dv j).n,.string (dv j).s,.slice xa1 xn1 xc1,.slice ya1 yn1 yc1]:=(Below.heap_alloc _ _ _ (by simp)).trans (heap_new _ _)
            have hHw:=HS.out
            have hb1:=HQ.out.2.1.1
            have hrx1:RV (fun b=>b < A) wr x (.slice xa xn xc) (.slice ya yn yc):=RV.move (fun _ h _=>h) hb1.size (fun b hb _=>hb1.block b (by omega)) _ _ _ HI.out.2.2.2.2
            have HA:Hid (((wr.alloc (Obj.cells #[.string (ky j),.int .i64 (dv j).k,.int .i64 (dv j).n,.string (dv j).s,.slice xa1 xn1 xc1,.slice ya1 yn1 yc1] 67)).alloc (Obj.cells #[.string key,.int .i64 x.k,.int .i64 x.n,.string x.s,.slice xa xn xc,.slice ya yn yc] 67)).ownsRow (H + 3) 67 6 (.slice la L.length lc) L.length us∧blk ((wr.alloc (Obj.cells #[.string (ky j),.int .i64 (dv j).k,.int .i64 (dv j).n,.string (dv j).s,.slice xa1 xn1 xc1,.slice ya1 yn1 yc1] 67)).alloc (Obj.cells #[.string key,.int .i64 x.k,.int .i64 x.n,.string x.s,.slice xa xn xc,.slice ya yn yc] 67)) (wr.heap.size + 1) 67 #[.string key,.int .i64 x.k,.int .i64 x.n,.string x.s,.slice xa xn xc,.slice ya yn yc]∧Below wr.heap.size wr ((wr.alloc (Obj.cells #[.string (ky j),.int .i64 (dv j).k,.int .i64 (dv j).n,.string (dv j).s,.slice xa1 xn1 xc1,.slice ya1 yn1 yc1] 67)).alloc (Obj.cells #[.string key,.int .i64 x.k,.int .i64 x.n,.string x.s,.slice xa xn xc,.slice ya yn yc] 67))∧RV (fun b=>b < A ∨ (H + 3 ≤ b∧(Value.slice la L.length lc).ownBlock ≠ some b)) ((wr.alloc (Obj.cells #[.string (ky j),.int .i64 (dv j).k,.int .i64 (dv j).n,.string (dv j).s,.slice xa1 xn1 xc1,.slice ya1 yn1 yc1] 67)).alloc (Obj.cells #[.string key,.int .i64 x.k,.int .i64 x.n,.string x.s,.slice xa xn xc,.slice ya yn yc] 67)) x (.slice xa xn xc) (.slice ya yn yc)∧blk ((wr.alloc (Obj.cells #[.string (ky j),.int .i64 (dv j).k,.int .i64 (dv j).n,.string (dv j).s,.slice xa1 xn1 xc1,.slice ya1 yn1 yc1] 67)).alloc (Obj.cells #[.string key,.int .i64 x.k,.int .i64 x.n,.string x.s,.slice xa xn xc,.slice ya yn yc] 67)) wr.heap.size 67 #[.string (ky j),.int .i64 (dv j).k,.int .i64 (dv j).n,.string (dv j).s,.slice xa1 xn1 xc1,.slice ya1 yn1 yc1]):=⟨own_keep HQ.out.2.2.2.1 (fun x _ hx=>bO.block x hx),oO,bO,RV.move (fun b hb _=>.inl hb) bO.size (fun b _ hl=>bO.block b hl) _ _ _ hrx1,oP⟩
            clear bO oO oP hrx1 hb1 hHw
            go_wp2_with (at_builtin; refine append_pair (t:=x) rfl _ _ rfl rfl HA.out.1 (wr.heap.size + 1) rfl HA.out.2.1 rfl rfl (by simp; omega) (by omega) ?_)
            intro v' w5 ho5 hg5 ha5
            obtain ⟨a5,c5,rfl⟩:=ownForm ho5
            have HM:Hid (WLv H w w5 4 n s (.slice a ln ca) (.slice (some ⟨b,ob,none⟩) dn ca') x (.slice xa xn xc) (.slice ya yn yc)∧PRow (H + 3) (Sw A (H + 3) (.slice a5 (L.length + 1) c5)) w5 (.slice a5 (L.length + 1) c5) (L ++ [(key,x)])∧blk w5 wr.heap.size 67 #[.string (ky j),.int .i64 (dv j).k,.int .i64 (dv j).n,.string (dv j).s,.slice xa1 xn1 xc1,.slice ya1 yn1 yc1]∧RV (fun b=>b < A) w5 (dv j) (.slice xa1 xn1 xc1) (.slice ya1 yn1 yc1)∧H + 3 ≤ w5.heap.size∧wr.heap.size < w5.heap.size):=by
              obtain ⟨q1,q2,q3,q4,q5⟩:=HQ.out
              have hW:=(q2.keep HS.out HA.out.2.2.1).grow HS.out hg5 (fun q hq=>(own_lt q4 hq).1)
              have hb5:∀ k,k < wr.heap.size + 1 → some k ≠ (Value.slice la L.length lc).ownBlock → w5.heap[k]? = ((wr.alloc (Obj.cells #[.string (ky j),.int .i64 (dv j).k,.int .i64 (dv j).n,.string (dv j).s,.slice xa1 xn1 xc1,.slice ya1 yn1 yc1] 67)).alloc (Obj.cells #[.string key,.int .i64 x.k,.int .i64 x.n,.string x.s,.slice xa xn xc,.slice ya yn yc] 67)).heap[k]?:=fun k hk hn=>hg5.block k (by simp; omega) hn
              have hne:some wr.heap.size ≠ (Value.slice la L.length lc).ownBlock:=fun e=>by have:=(own_lt q4 e.symm).2; omega
              have hsz:wr.heap.size + 2 ≤ w5.heap.size:=Nat.le_trans (by simp) hg5.size
              refine ⟨hW,prow_add (by omega) q3 q4.1 HA.out.2.2.1 HA.out.2.2.2.1 (fun q hq=>own_lt q4 hq) hg5 (by simpa using ha5) ho5,HA.out.2.2.2.2.keep (hb5 _ (by omega) hne),RV.move (fun _ h _=>h) (by omega) (fun b hb hl=>?_) _ _ _ q5,by omega,by omega⟩
              exact (hb5 b (by omega) (fun e=>by have:=(own_lt q4 e.symm).1; omega)).trans (HA.out.2.2.1.block b hl)
            have HQ1:=Lib.hid HQ.out.1
            clear HQ HA ho5 hg5 ha5 c3 g0 g1 g2 g3 g4 g5 i0 e0 e1 e2 e3 e4
            by_cases hpn2:1 < pn
            · have hpn3:(1:Int) < (pn:Int):=by omega
              have hor:=HM.out.1.2.2.2
              have HOR:=Lib.hid hor
              obtain ⟨o0,o1,o2,o3,o4⟩:=hor.cells
              have p0':=hor.frozen 0
              have p1':=hor.frozen 1
              have p2':=hor.frozen 2
              have p3':=hor.frozen 3
              have p4':=hor.frozen 4
              have HBE:Hid (Below H w w5∧dG key p.isEmpty (wiT x p) x ky dv dn = .inr 30):=by
                refine ⟨HM.out.1.1,dG_stop (j:=j + 1) (by omega) ?_⟩
                unfold dG
                rw [HQ1.out]
                dsimp only
                rw [if_neg HJI.out,if_pos ⟨hgt,rfl⟩,if_neg (by rw [HEM.out.2 hpn2]; decide)]
              clear hor HM HQ1
              go_wp2
              refine bodyPost_ret (v:=.tuple #[vv t0 (.slice none 0 0) (.slice none 0 0),.int .i64 30]) (results_cell55t Tryz.results40 _ _ (H + 1 + 1) _ rfl (((((HOR.out.set0 _).set1 _).set2 _).set3 _).set4 _) rfl) rfl ?_
              have hre:RES = (t0,30):=by rw [← HRES.out,HBE.out.2]; rfl
              rw [hre]
              refine ⟨_,_,rfl,rv_t0 _ _,?_⟩
              have h0:=HBE.out.1
              have hE:=besides5 w5 (H + 1 + 1) (.int .i64 0) (.int .i64 0) (.string { data:=#[] }) (.slice .none 0 0) (.slice .none 0 0)
              rw [HS.out]
              exact ⟨hE.os.trans h0.os,hE.tape.trans h0.tape,hE.output.trans h0.output,Nat.le_trans h0.size hE.size,fun q hq=>(hE.block q (by have:=h0.size; have:=HS.out; omega) (by omega)).trans (h0.block q (by have:=HS.out; omega))⟩
            · have hpn3:¬ ((1:Int) < (pn:Int)):=by omega
              obtain ⟨us5,how5,hel5⟩:=HM.out.2.1
              have i0:w5.cell? ⟨wr.heap.size,0,none⟩ = some (.string (ky j)):=HM.out.2.2.1.cell 0
              have i1:w5.cell? ⟨wr.heap.size,1,none⟩ = some (.int .i64 (dv j).k):=HM.out.2.2.1.cell 1
              have i2:w5.cell? ⟨wr.heap.size,2,none⟩ = some (.int .i64 (dv j).n):=HM.out.2.2.1.cell 2
              have i3:w5.cell? ⟨wr.heap.size,3,none⟩ = some (.string (dv j).s):=HM.out.2.2.1.cell 3
              have i4:w5.cell? ⟨wr.heap.size,4,none⟩ = some (.slice xa1 xn1 xc1):=HM.out.2.2.1.cell 4
              have i5:w5.cell? ⟨wr.heap.size,5,none⟩ = some (.slice ya1 yn1 yc1):=HM.out.2.2.1.cell 5
              have hl5:(L ++ [(key,x)]).length = L.length + 1:=by simp
              rw [hl5] at how5
              have bO:Below w5.heap.size w5 (w5.alloc (Obj.cells #[.string (ky j),.int .i64 (dv j).k,.int .i64 (dv j).n,.string (dv j).s,.slice xa1 xn1 xc1,.slice ya1 yn1 yc1] 67)):=(Below.refl _ _).alloc (Nat.le_refl _) _
              have HA:Hid ((w5.alloc (Obj.cells #[.string (ky j),.int .i64 (dv j).k,.int .i64 (dv j).n,.string (dv j).s,.slice xa1 xn1 xc1,.slice ya1 yn1 yc1] 67)).ownsRow (H + 3) 67 6 (.slice a5 (L.length + 1) c5) (L.length + 1) us5∧blk (w5.alloc (Obj.cells #[.string (ky j),.int .i64 (dv j).k,.int .i64 (dv j).n,.string (dv j).s,.slice xa1 xn1 xc1,.slice ya1 yn1 yc1] 67)) w5.heap.size 67 #[.string (ky j),.int .i64 (dv j).k,.int .i64 (dv j).n,.string (dv j).s,.slice xa1 xn1 xc1,.slice ya1 yn1 yc1]∧Below w5.heap.size w5 (w5.alloc (Obj.cells #[.string (ky j),.int .i64 (dv j).k,.int .i64 (dv j).n,.string (dv j).s,.slice xa1 xn1 xc1,.slice ya1 yn1 yc1] 67))∧w5.ownsRow (H + 3) 67 6 (.slice a5 (L.length + 1) c5) (L.length + 1) us5∧(∀ k,k < (L ++ [(key,x)]).length → ∃ x_1 y,RV (Sw A (H + 3) (.slice a5 (L.length + 1) c5)) w5 ((L ++ [(key,x)]).getD k (ByteArray.empty,.no)).2 x_1 y∧∀ r,r < 6 → us5[k * 6 + r]? = (.string ((L ++ [(key,x)]).getD k (ByteArray.empty,.no)).1 :: cv ((L ++ [(key,x)]).getD k (ByteArray.empty,.no)).2 x_1 y)[r]?)):=⟨own_keep how5 (fun x _ hx=>bO.block x hx),heap_new _ _,bO,how5,hel5⟩
              have h3w:=HM.out.2.2.2.2.1
              clear bO how5 hel5
              go_wp2_with (at_builtin; refine append_pair (t:=dv j) rfl _ _ rfl rfl HA.out.1 w5.heap.size rfl HA.out.2.1 rfl rfl (by simp; omega) (by omega) ?_)
              intro v' w7 ho7 hg7 ha7
              obtain ⟨a7,c7,rfl⟩:=ownForm ho7
              have HN:Hid (dG key p.isEmpty (wiT x p) x ky dv (j + 1) = .inl (L ++ [(key,x)] ++ [(ky j,dv j)],true)∧WLv H w w7 4 n s (.slice a ln ca) (.slice (some ⟨b,ob,none⟩) dn ca') x (.slice xa xn xc) (.slice ya yn yc)∧PRow (H + 3) (Sw A (H + 3) (.slice a7 (L.length + 1 + 1) c7)) w7 (.slice a7 (L.length + 1 + 1) c7) (L ++ [(key,x)] ++ [(ky j,dv j)])):=by
                obtain ⟨m1,_,_,m4,_⟩:=HM.out
                obtain ⟨z1,z2,z3,z4,z5⟩:=HA.out
                refine ⟨?_,(m1.keep HS.out z3).grow HS.out hg7 (fun q hq=>(own_lt z4 hq).1),?_⟩
                · unfold dG
                  rw [HQ1.out]
                  dsimp only
                  rw [if_neg HJI.out,if_pos ⟨hgt,rfl⟩,if_pos (HEM.out.1 (by omega))]
                · have hz4:us5.length = (L ++ [(key,x)]).length * 6:=by rw [hl5]; exact z4.1
                  have:=prow_add (L:=L ++ [(key,x)]) (lv:=.slice a5 (L.length + 1) c5) (lv':=.slice a7 (L.length + 1 + 1) c7) (by omega) z5 hz4 z3 (RV.move (fun b hb _=>.inl hb) z3.size (fun b _ hl=>z3.block b hl) _ _ _ m4) (fun q hq=>own_lt z4 hq) hg7 (by simpa using ha7) (by rw [hl5]; exact ho7)
                  exact this
              clear HM HA ho7 hg7 ha7 HQ1 i0 i1 i2 i3 i4 i5 h3w
              go_wp2
              go_roundw
              case rel=>exact ⟨j + 1,L ++ [(key,x)] ++ [(ky j,dv j)],true,by omega,by go_num,rfl,by simp; omega,HN⟩
              case measure=>simp [intOf]; omega
        · have hk3:Op.bytesLess (ky j).toList key.toList = true:=less_of_not (by simpa using hgt) hji2
          have HNI:Hid (¬ (Op.bytesLess key.toList (ky j).toList = true∧d = false)):=fun h=>hgt h.1
          clear hgt hji2
          have bO:Below wr.heap.size wr ((wr.alloc (Obj.cells #[.string (ky j),.int .i64 (dv j).k,.int .i64 (dv j).n,.string (dv j).s,.slice xa1 xn1 xc1,.slice ya1 yn1 yc1] 67)).alloc (Obj.cells #[.string (ky j),.int .i64 (dv j).k,.int .i64 (dv j).n,.string (dv j).s,.slice xa1 xn1 xc1,.slice ya1 yn1 yc1] 67)):=((Below.refl _ _).alloc (Nat.le_refl _) _).alloc (by simp) _
          have oO:blk ((wr.alloc (Obj.cells #[.string (ky j),.int .i64 (dv j).k,.int .i64 (dv j).n,.string (dv j).s,.slice xa1 xn1 xc1,.slice ya1 yn1 yc1] 67)).alloc (Obj.cells #[.string (ky j),.int .i64 (dv j).k,.int .i64 (dv j).n,.string (dv j).s,.slice xa1 xn1 xc1,.slice ya1 yn1 yc1] 67)) (wr.heap.size + 1) 67 #[.string (ky j),.int .i64 (dv j).k,.int .i64 (dv j).n,.string (dv j).s,.slice xa1 xn1 xc1,.slice ya1 yn1 yc1]:=by have h:=heap_new (wr.alloc (Obj.cells #[.string (ky j),.int .i64 (dv j).k,.int .i64 (dv j).n,.string (dv j).s,.slice xa1 xn1 xc1,.slice ya1 yn1 yc1] 67)) (Obj.cells #[.string (ky j),.int .i64 (dv j).k,.int .i64 (dv j).n,.string (dv j).s,.slice xa1 xn1 xc1,.slice ya1 yn1 yc1] 67); rw [show (wr.alloc (Obj.cells #[.string (ky j),.int .i64 (dv j).k,.int .i64 (dv j).n,.string (dv j).s,.slice xa1 xn1 xc1,.slice ya1 yn1 yc1] 67)).heap.size = wr.heap.size + 1 by simp] at h; exact h
          have HA:Hid (((wr.alloc (Obj.cells #[.string (ky j),.int .i64 (dv j).k,.int .i64 (dv j).n,.string (dv j).s,.slice xa1 xn1 xc1,.slice ya1 yn1 yc1] 67)).alloc (Obj.cells #[.string (ky j),.int .i64 (dv j).k,.int .i64 (dv j).n,.string (dv j).s,.slice xa1 xn1 xc1,.slice ya1 yn1 yc1] 67)).ownsRow (H + 3) 67 6 (.slice la L.length lc) L.length us∧blk ((wr.alloc (Obj.cells #[.string (ky j),.int .i64 (dv j).k,.int .i64 (dv j).n,.string (dv j).s,.slice xa1 xn1 xc1,.slice ya1 yn1 yc1] 67)).alloc (Obj.cells #[.string (ky j),.int .i64 (dv j).k,.int .i64 (dv j).n,.string (dv j).s,.slice xa1 xn1 xc1,.slice ya1 yn1 yc1] 67)) (wr.heap.size + 1) 67 #[.string (ky j),.int .i64 (dv j).k,.int .i64 (dv j).n,.string (dv j).s,.slice xa1 xn1 xc1,.slice ya1 yn1 yc1]∧Below wr.heap.size wr ((wr.alloc (Obj.cells #[.string (ky j),.int .i64 (dv j).k,.int .i64 (dv j).n,.string (dv j).s,.slice xa1 xn1 xc1,.slice ya1 yn1 yc1] 67)).alloc (Obj.cells #[.string (ky j),.int .i64 (dv j).k,.int .i64 (dv j).n,.string (dv j).s,.slice xa1 xn1 xc1,.slice ya1 yn1 yc1] 67))):=⟨own_keep HQ.out.2.2.2.1 (fun x _ hx=>bO.block x hx),oO,bO⟩
          clear bO oO
          go_wp2_with (at_builtin; refine append_pair (t:=dv j) rfl _ _ rfl rfl HA.out.1 (wr.heap.size + 1) rfl HA.out.2.1 rfl rfl (by simp; omega) (by omega) ?_)
          intro v' w5 ho5 hg5 ha5
          obtain ⟨a5,c5,rfl⟩:=ownForm ho5
          have HN:Hid (dG key p.isEmpty (wiT x p) x ky dv (j + 1) = .inl (L ++ [(ky j,dv j)],d)∧WLv H w w5 4 n s (.slice a ln ca) (.slice (some ⟨b,ob,none⟩) dn ca') x (.slice xa xn xc) (.slice ya yn yc)∧PRow (H + 3) (Sw A (H + 3) (.slice a5 (L.length + 1) c5)) w5 (.slice a5 (L.length + 1) c5) (L ++ [(ky j,dv j)])):=by
            obtain ⟨q1,q2,q3,q4,q5⟩:=HQ.out
            refine ⟨?_,(q2.keep HS.out HA.out.2.2).grow HS.out hg5 (fun q hq=>(own_lt q4 hq).1),prow_add (by omega) q3 q4.1 HA.out.2.2 (RV.move (fun b hb _=>.inl hb) HA.out.2.2.size (fun b _ hl=>HA.out.2.2.block b hl) _ _ _ q5) (fun q hq=>own_lt q4 hq) hg5 (by simpa using ha5) ho5⟩
            unfold dG
            rw [q1]
            dsimp only
            rw [if_neg HJI.out,if_neg HNI.out]
          clear HQ HA ho5 hg5 ha5 c3 g0 g1 g2 g3 g4 g5 i0 e0 e1 e2 e3 e4
          go_wp2
          go_roundw
          case rel=>exact ⟨j + 1,L ++ [(ky j,dv j)],d,by omega,by go_num,rfl,by simp; omega,HN⟩
          case measure=>simp [intOf]; omega
    · obtain rfl:j = dn:=by omega
      have h3H:H + 3 ≤ wr.heap.size:=by have:=hc.2.2.2.lt; omega
      have HG:Hid (dG key p.isEmpty (wiT x p) x ky dv j = .inl (L,d)):=hinv.out.1
      cases d with
      | true =>
        have hor:=hc.2.2.2
        have HOR:=Lib.hid hor
        obtain ⟨o0,o1,o2,o3,o4⟩:=hor.cells
        have p0':=hor.frozen 0
        have p1':=hor.frozen 1
        have p2':=hor.frozen 2
        have p3':=hor.frozen 3
        have p4':=hor.frozen 4
        have HVF:Hid (∀ wE,Besides (H + 1 + 1) wr wE → RD (fun b=>b < A ∨ H ≤ b) wE L.length (fun i=>(L.getD i (ByteArray.empty,.no)).1) (fun i=>(L.getD i (ByteArray.empty,.no)).2) (.slice la L.length lc)∧Below H w wE):=fun wE hE=>wd_end (by omega) HS.out hc.1 hinv.out.2.2 hE
        clear hc hinv hown hel hor
        go_wp2
        refine bodyPost_ret (v:=.tuple #[vv (tDict (L)) (.slice none 0 0) (.slice la L.length lc),.int .i64 0]) (results_cell55t Tryz.results40 _ _ (H + 1 + 1) _ rfl (((((HOR.out.set0 _).set1 _).set2 _).set3 _).set4 _) rfl) rfl ?_
        have hre:RES = (tDict (L),0):=by
          rw [← HRES.out,HG.out]
          rfl
        rw [hre]
        refine ⟨.slice none 0 0,(.slice la L.length lc),rfl,?_,?_⟩
        · rw [HS.out]
          exact ⟨⟨none,0,rfl,.inl rfl⟩,(HVF.out _ (besides5 _ _ _ _ _ _ _)).1⟩
        · rw [HS.out]
          exact (HVF.out _ (besides5 _ _ _ _ _ _ _)).2
      | false =>
        by_cases hpn2:1 < pn
        · have hpn3:(1:Int) < (pn:Int):=by omega
          have hor:=hc.2.2.2
          have HOR:=Lib.hid hor
          obtain ⟨o0,o1,o2,o3,o4⟩:=hor.cells
          have p0':=hor.frozen 0
          have p1':=hor.frozen 1
          have p2':=hor.frozen 2
          have p3':=hor.frozen 3
          have p4':=hor.frozen 4
          have HBE:Hid (Below H w wr):=hc.1
          clear hc hinv hown hel hor
          go_wp2
          refine bodyPost_ret (v:=.tuple #[vv t0 (.slice none 0 0) (.slice none 0 0),.int .i64 30]) (results_cell55t Tryz.results40 _ _ (H + 1 + 1) _ rfl (((((HOR.out.set0 _).set1 _).set2 _).set3 _).set4 _) rfl) rfl ?_
          have hre:RES = (t0,30):=by
            rw [← HRES.out,HG.out,HEM.out.2 hpn2]; rfl
          rw [hre]
          refine ⟨_,_,rfl,rv_t0 _ _,?_⟩
          have h0:=HBE.out
          have hE:=besides5 wr (H + 1 + 1) (.int .i64 0) (.int .i64 0) (.string { data:=#[] }) (.slice .none 0 0) (.slice .none 0 0)
          rw [HS.out]
          exact ⟨hE.os.trans h0.os,hE.tape.trans h0.tape,hE.output.trans h0.output,Nat.le_trans h0.size hE.size,fun q hq=>(hE.block q (by have:=h0.size; omega) (by omega)).trans (h0.block q (by have:=HS.out; omega))⟩
        · have hpn3:¬ ((1:Int) < (pn:Int)):=by omega
          have ox:=hc.2.2.1
          obtain ⟨e0,e1,e2,e3,e4⟩:=ox.cells
          have hb1:=hc.1
          have hHw:=HS.out
          have hrx1:RV (fun b=>b < A) wr x (.slice xa xn xc) (.slice ya yn yc):=RV.move (fun _ h _=>h) hb1.size (fun b hb _=>hb1.block b (by omega)) _ _ _ HI.out.2.2.2.2
          have bO:Below wr.heap.size wr (wr.alloc (Obj.cells #[.string key,.int .i64 x.k,.int .i64 x.n,.string x.s,.slice xa xn xc,.slice ya yn yc] 67)):=(Below.refl _ _).alloc (Nat.le_refl _) _
          have HQ:Hid (WLv H w wr 4 n s (.slice a ln ca) (.slice a' j ca') x (.slice xa xn xc) (.slice ya yn yc)∧(∀ k,k < L.length → ∃ x y,RV (Sw A (H + 3) (.slice la L.length lc)) wr (L.getD k (ByteArray.empty,.no)).2 x y∧∀ r,r < 6 → us[k * 6 + r]? = (.string (L.getD k (ByteArray.empty,.no)).1 :: cv (L.getD k (ByteArray.empty,.no)).2 x y)[r]?)∧wr.ownsRow (H + 3) 67 6 (.slice la L.length lc) L.length us):=⟨hc,hel,hown⟩
          have HA:Hid ((wr.alloc (Obj.cells #[.string key,.int .i64 x.k,.int .i64 x.n,.string x.s,.slice xa xn xc,.slice ya yn yc] 67)).ownsRow (H + 3) 67 6 (.slice la L.length lc) L.length us∧blk (wr.alloc (Obj.cells #[.string key,.int .i64 x.k,.int .i64 x.n,.string x.s,.slice xa xn xc,.slice ya yn yc] 67)) wr.heap.size 67 #[.string key,.int .i64 x.k,.int .i64 x.n,.string x.s,.slice xa xn xc,.slice ya yn yc]∧Below wr.heap.size wr (wr.alloc (Obj.cells #[.string key,.int .i64 x.k,.int .i64 x.n,.string x.s,.slice xa xn xc,.slice ya yn yc] 67))∧RV (fun b=>b < A ∨ (H + 3 ≤ b∧(Value.slice la L.length lc).ownBlock ≠ some b)) (wr.alloc (Obj.cells #[.string key,.int .i64 x.k,.int .i64 x.n,.string x.s,.slice xa xn xc,.slice ya yn yc] 67)) x (.slice xa xn xc) (.slice ya yn yc)):=⟨own_keep hown (fun x _ hx=>bO.block x hx),heap_new _ _,bO,RV.move (fun b hb _=>.inl hb) bO.size (fun b _ hl=>bO.block b hl) _ _ _ hrx1⟩
          clear hc hinv hown hel ox hrx1 bO hb1
          go_wp2_with (at_builtin; refine append_pair (t:=x) rfl _ _ rfl rfl HA.out.1 wr.heap.size rfl HA.out.2.1 rfl rfl (by simp; omega) (by omega) ?_)
          intro v' w5 ho5 hg5 ha5
          obtain ⟨a5,c5,rfl⟩:=ownForm ho5
          have HN:Hid (WLv H w w5 4 n s (.slice a ln ca) (.slice a' j ca') x (.slice xa xn xc) (.slice ya yn yc)∧PRow (H + 3) (Sw A (H + 3) (.slice a5 (L.length + 1) c5)) w5 (.slice a5 (L.length + 1) c5) (L ++ [(key,x)])):=by
            obtain ⟨q2,q3,q4⟩:=HQ.out
            exact ⟨(q2.keep HS.out HA.out.2.2.1).grow HS.out hg5 (fun q hq=>(own_lt q4 hq).1),prow_add (by omega) q3 q4.1 HA.out.2.2.1 HA.out.2.2.2 (fun q hq=>own_lt q4 hq) hg5 (by simpa using ha5) ho5⟩
          have hor:=HN.out.1.2.2.2
          have HOR:=Lib.hid hor
          obtain ⟨o0,o1,o2,o3,o4⟩:=hor.cells
          have p0':=hor.frozen 0
          have p1':=hor.frozen 1
          have p2':=hor.frozen 2
          have p3':=hor.frozen 3
          have p4':=hor.frozen 4
          have HVF:Hid (∀ wE,Besides (H + 1 + 1) w5 wE → RD (fun b=>b < A ∨ H ≤ b) wE (L ++ [(key,x)]).length (fun i=>((L ++ [(key,x)]).getD i (ByteArray.empty,.no)).1) (fun i=>((L ++ [(key,x)]).getD i (ByteArray.empty,.no)).2) (.slice a5 (L.length + 1) c5)∧Below H w wE):=fun wE hE=>wd_end (by omega) HS.out HN.out.1.1 HN.out.2 hE
          clear HQ HA HN ho5 hg5 ha5 hor e0 e1 e2 e3 e4
          go_wp2
          refine bodyPost_ret (v:=.tuple #[vv (tDict (L ++ [(key,x)])) (.slice none 0 0) (.slice a5 (L.length + 1) c5),.int .i64 0]) (results_cell55t Tryz.results40 _ _ (H + 1 + 1) _ rfl (((((HOR.out.set0 _).set1 _).set2 _).set3 _).set4 _) rfl) rfl ?_
          have hre:RES = (tDict (L ++ [(key,x)]),0):=by
            rw [← HRES.out,HG.out]
            show (if (false:Bool) = true then (tDict L,(0:Int)) else if p.isEmpty = true then (tDict (L ++ [(key,x)]),0) else (t0,30)) = _
            rw [if_neg (by decide),if_pos (HEM.out.1 (by omega))]
          rw [hre]
          refine ⟨.slice none 0 0,(.slice a5 (L.length + 1) c5),rfl,?_,?_⟩
          · rw [HS.out]
            exact ⟨⟨none,0,rfl,.inl rfl⟩,(HVF.out _ (besides5 _ _ _ _ _ _ _)).1⟩
          · rw [HS.out]
            exact (HVF.out _ (besides5 _ _ _ _ _ _ _)).2
end Go.Proofs.YtdlnnnlmlaploabGreatDoor
