import Derived.Test.YtfjjpbebnoghmaaGreatDoorK00
import Derived.Test.YtfjjpbebnoghmaaGreatDoorK31
import Derived.Test.YtfjjpbebnoghmaaGreatDoorK24
import Derived.Test.YtfjjpbebnoghmaaGreatDoorK32
import Derived.Deep.RegionLaw
import Derived.Test.YtfjjpbebnoghmaaGreatDoorK29
import Derived.Test.YtfjjpbebnoghmaaGreatDoorK30
namespace Go.Proofs.YtfjjpbebnoghmaaGreatDoor
open Go.RowKit
def Q0 (b v:Int) (x:Value) (inf:List UInt8):Rv:=⟨b,v,inf,x,.pointer none,false,false,0,false,false,false,false,.slice none 0 0,false,false⟩
theorem t63_built (b v:Int):Tryz.prog.built 63 [(0,.agg #[.int .i64 b,.int .i64 v])] = some (([Value.int .i64 b,.int .i64 v] ++ List.replicate 20 (Value.int .u8 0) ++ ([.slice none 0 0,.pointer none,.bool false,.bool false,.int .i64 0,.bool false,.bool false,.bool false,.bool false,.slice none 0 0,.bool false,.bool false]:List Value)).toArray):=by kernel_rfl
theorem oz_at {B:Nat} {w w':World} {v:Value} {zs:List Int} (h:Bs.OZ B w v zs) (hk:∀ k,v.ownBlock = some k→w'.heap[k]? = w.heap[k]?):Bs.OZ B w' v zs:=own_at h (fun k hv _=>hk k hv)
structure LP (w:World) (b v:Int) (hs:Array Value) (g:Nat) (L:List Int) (k:Nat) (va:Option Addr) (vc:Nat) (u:World):Prop where
  sb:SB w b hs u
  hg:w.heap.size + 2≤g
  rq:RQ u g (Q0 b v (.slice va k vc) (zr 20))
  own:Bs.OZ (g + 1) u (.slice va k vc) (L.take k)
  no:∀ a,a < k→Bs.bad b (Bs.iz L a) = false
structure QB (w:World) (b v:Int) (hs:Array Value) (g:Nat) (L:List Int) (hb0:List UInt8) (x:Value) (j:Nat) (u:World):Prop where
  sb:SB w b hs u
  hg:w.heap.size + 2≤g
  rq:RQ u g (Q0 b v x (hb0.take j ++ zr (20 - j)))
  own:Bs.OZ (g + 1) u x L
theorem RQ.setInfo {w:World} {g:Nat} {Q:Rv} (h:RQ w g Q) (j:Nat) (hj:j < 20) (y:UInt8):RQ (w.setCell ⟨g,2 + j,none⟩ (.int .u8 (y.toNat:Int))) g { Q with info:=Q.info.set j y }:=by
  refine ⟨by simpa using h.1,?_⟩
  rw [setCell_eq_setRow w g (2 + j) _ _ _ _ h.2,setRow_heap w g _ _ _ _ h.2]
  congr 2
  apply Array.ext'
  rw [Array.toList_setIfInBounds]
  show (([Value.int .i64 Q.b,.int .i64 Q.v] ++ Lib.byteCells Q.info) ++ Q.tl).set (2 + j) _ = ([Value.int .i64 Q.b,.int .i64 Q.v] ++ Lib.byteCells (Q.info.set j y)) ++ Q.tl
  rw [List.set_append_left _ _ (by rw [List.length_append,bcl_len,h.1]; show 2 + j < 2 + 20; omega),List.set_append_right _ _ (by show 2≤2 + j; omega)]
  have e:2 + j - ([Value.int .i64 Q.b,.int .i64 Q.v]:List Value).length = j:=by show 2 + j - 2 = j; omega
  rw [e]
  congr 2
  unfold Lib.byteCells
  rw [List.map_set]
theorem take_step {hb0:List UInt8} (h32:hb0.length = 32) (j:Nat) (hj:j < 20):(hb0.take j ++ zr (20 - j)).set j (byt hb0 j) = hb0.take (j + 1) ++ zr (20 - (j + 1)):=by
  have hl:(hb0.take j).length = j:=by rw [List.length_take]; omega
  rw [List.set_append_right _ _ (by omega),hl,Nat.sub_self]
  have e:zr (20 - j) = 0 :: zr (20 - (j + 1)):=by
    rw [show 20 - j = 20 - (j + 1) + 1 by omega]
    rfl
  have eb:byt hb0 j = hb0[j]'(by omega):=by simp [byt,List.getD,List.getElem?_eq_getElem (show j < hb0.length by omega)]
  rw [e,List.set_cons_zero,List.take_succ_eq_append_getElem (by omega),List.append_assoc,eb]
  rfl
theorem RQ.size {w:World} {g:Nat} {Q:Rv} (h:RQ w g Q):Q.ls.toArray.size = 34:=by
  show Q.ls.length = 34
  unfold Rv.ls
  rw [List.length_append,h.h22]
  rfl
theorem bc_at (l:List UInt8) (i:Nat) (hi:i < l.length):(bc l)[i]? = some (.int .u8 ((byt l i).toNat:Int)):=by
  simp [bc,Lib.byteCells,byt,List.getElem?_eq_getElem hi]
theorem QB.step {w:World} {b v:Int} {hs:Array Value} {g:Nat} {L:List Int} {hb0:List UInt8} {x:Value} {j:Nat} {u:World} (h:QB w b v hs g L hb0 x j u) (h320:hb0.length = 32) (n:Nat) (hj:j < 20) :
    QB w b v hs g L hb0 x (j + 1) ((u.drewN n).setCell ⟨g,2 + j,none⟩ (.int .u8 ((byt hb0 j).toNat:Int))):=by
  have bS:Below g (u.drewN n) ((u.drewN n).setCell ⟨g,2 + j,none⟩ (.int .u8 ((byt hb0 j).toNat:Int))):=(Below.refl g _).setCell (p:=⟨g,2 + j,none⟩) (Nat.le_refl _) _
  have r:=RQ.setInfo (w:=u.drewN n) (h.rq.keep rfl) j hj (byt hb0 j)
  refine ⟨(h.sb.next (belowDrew u n)).next2 (bS.mono h.hg),h.hg,?_,oz_at (h.own.grow (belowDrew u n)) (fun q hq=>Fm.setCell_other (by have:=(own_ge h.own hq).1; omega))⟩
  have e:({ Q0 b v x (hb0.take j ++ zr (20 - j)) with info:=(Q0 b v x (hb0.take j ++ zr (20 - j))).info.set j (byt hb0 j) }:Rv) = Q0 b v x (hb0.take (j + 1) ++ zr (20 - (j + 1))):=by
    rw [← take_step h320 j hj]
    rfl
  rw [← e]
  exact r
def RNew (w w':World) (b v:Int) (hb0:List UInt8) (L:List Int) (p:Value):Prop:=∃ (g S:Nat) (lv hv:Value),p = .pointer (some ⟨g,0,none⟩)∧w.heap.size≤g∧g < S ∧
  RQ w' g ⟨b,v,hb0.take 20,lv,.pointer (some ⟨S,0,none⟩),false,false,0,true,false,true,false,hv,false,false⟩∧Bs.OZ (g + 1) w' lv L∧(∀ q,lv.ownBlock = some q→g < q∧q < S) ∧
  Fm.RF w' S true (.slice none 0 0) 0∧OW (S + 1) w' hv (List.replicate ((L.length + 7) / 8) 0)
theorem step_append_int {ops:Array Oper} {o:Oper} {a:Act} {Q:Exit→Act→World→Prop} {K:Act→World→Prop} {E:Prop} {w:World} {B:Nat} {sv:Value} {l:List Int} (hgd:o.guard = none) (s x:Operand)
    (ho:o.op = .call { callee:=.builtin .append,args:=#[s,x],argTypes:=#[26,26] }) (hs:a.eval s = sv) (hown:Bs.OZ B w sv l) (b:Nat) (c:Int) (hx:a.eval x = .slice (some ⟨b,0,none⟩) 1 1)
    (hc:w.cell? ⟨b,0,none⟩ = some (.int .i64 c)) (hB:B≤w.heap.size) (hlim:(l.length + 1) * 8≤140737488351232)
    (h:∀ v' w',Bs.OZ B w' v' (l ++ [c])→Below B w w'→K (a.put o.dst v') w'):if Region.wanted o (yielded ops a.tmps) = true then Oper.wp Tryz.prog o a w K Q else E:=by
  have hw:Region.wanted o (yielded ops a.tmps) = true:=by simp [Region.wanted,hgd]
  rw [if_pos hw]
  obtain ⟨i0,hi,hz0,hz1,hz2⟩:=info_parts Bs.info3
  refine wp_append_own w s x 26 ho B 3 i0 _ 1 8 Tryz.underlying26 hi hz0 hz1 hz2 rfl (by omega) sv l.length (l.map (Value.int .i64)) hs hown ⟨b,0,none⟩ 1 1 [.int .i64 c] hx rfl (fun j u hu=>?_) (fun u hu=>?_) (by unfold maxLen; omega) (by omega) hB (fun v' w' h1 h2 _=>?_)
  · match j,hu with
    | 0,hu=>simp at hu; subst hu; simpa [Addr.add] using hc
  · simp at hu; subst hu; rfl
  · refine h v' w' ?_ ((Below.refl B w).grown h2 hB (fun k hk=>(World.ownsRow.lt hown k hk).1))
    have e:l.map (Value.int .i64) ++ [Value.int .i64 c] = (l ++ [c]).map (Value.int .i64):=by simp
    rw [e] at h1
    simpa [Bs.OZ] using h1
theorem take_iz {L:List Int} {k:Nat} (hk:k < L.length):L.take (k + 1) = L.take k ++ [Bs.iz L k]:=by
  rw [List.take_succ_eq_append_getElem hk]
  simp [Bs.iz,List.getD,List.getElem?_eq_getElem hk]
theorem cellNew (w:World) (x:Value) (t:TypeId):(w.alloc (.cells #[x] t)).cell? ⟨w.heap.size,0,none⟩ = some x:=by
  have h:=heapNew w (.cells #[x] t)
  simp only [World.cell?,h]
  rfl
theorem LP.start {w:World} {b v:Int} {hs:Array Value} {L:List Int} {u:World} (h:SB w b hs u):LP w b v hs u.heap.size L 0 none 0 (u.alloc (.cells (([Value.int .i64 b,.int .i64 v] ++ List.replicate 20 (Value.int .u8 0) ++ ([.slice none 0 0,.pointer none,.bool false,.bool false,.int .i64 0,.bool false,.bool false,.bool false,.bool false,.slice none 0 0,.bool false,.bool false]:List Value)).toArray) 63)):=
  ⟨h.next ((Below.refl _ _).alloc (Nat.le_refl _) _),h.sz,⟨rfl,heapNew _ _⟩,World.ownsRow_nil _ _ _ _,fun a ha=>by omega⟩
theorem LP.drew {w:World} {b v:Int} {hs:Array Value} {g:Nat} {L:List Int} {k:Nat} {va:Option Addr} {vc:Nat} {u:World} (h:LP w b v hs g L k va vc u) (n:Nat):LP w b v hs g L k va vc (u.drewN n):=
  ⟨h.sb.next (belowDrew u n),h.hg,h.rq.keep rfl,h.own.grow (belowDrew u n),h.no⟩
theorem LP.step {w:World} {b v:Int} {hs:Array Value} {g:Nat} {L:List Int} {k:Nat} {va:Option Addr} {vc:Nat} {u w3:World} {x:Int} {a':Option Addr} {c':Nat} (h:LP w b v hs g L k va vc u)
    (hno:∀ a,a < k + 1→Bs.bad b (Bs.iz L a) = false)
    (o3:Bs.OZ (g + 1) w3 (.slice a' (k + 1) c') (L.take (k + 1))) (b3:Below (g + 1) (u.drew.alloc (Obj.cells #[.int .i64 x] 3)) w3) :
    w3.cell? ⟨g,22,none⟩ = some (.slice va k vc)∧w3.frozen? ⟨g,22,none⟩ = false∧LP w b v hs g L (k + 1) a' c' (w3.setCell ⟨g,22,none⟩ (.slice a' (k + 1) c')):=by
  have hgu:=h.rq.lt
  have r3:RQ w3 g (Q0 b v (.slice va k vc) (zr 20)):=h.rq.keep (by rw [b3.block g (by omega),heapOld _ _ _ (by show g < u.heap.size; exact hgu)]; rfl)
  have bA:Below u.heap.size u (u.drew.alloc (Obj.cells #[.int .i64 x] 3)):=(belowDrew u 1).alloc (Nat.le_refl _) _
  have s3:SB w b hs w3:=(h.sb.next bA).next2 (b3.mono (by have:=h.hg; omega))
  have bS:Below g w3 (w3.setCell ⟨g,22,none⟩ (.slice a' (k + 1) c')):=(Below.refl g w3).setCell (p:=⟨g,22,none⟩) (Nat.le_refl _) _
  exact ⟨r3.at 0 rfl,r3.fr 22,s3.next2 (bS.mono h.hg),h.hg,r3.set 0 _ _ rfl rfl rfl rfl,oz_at o3 (fun q hq=>Fm.setCell_other (by have:=(own_ge o3 hq).1; omega)),hno⟩
set_option maxHeartbeats 4000000 in
set_option maxRecDepth 100000 in
theorem rNewT (b v:Int) (hb0:List UInt8) (h320:hb0.length = 32) (lv:Value) (L:List Int) (w:World) (hl:L.length * 8≤140737488351232) (hr:Bs.RZ w lv L) :
    Calls Tryz.prog 9 #[Bs.sc b v,.agg (bc hb0),lv] w fun e w'=>∃ p,e = .returned (.tuple #[p,.int .i64 (nwE b v L)])∧PP p (nwE b v L)∧Below w.heap.size w w'∧(nwE b v L = 0→RNew w w' b v hb0 L p):=by
  obtain ⟨hs,hhs⟩:∃ hs,hs = bc hb0:=⟨_,rfl⟩
  rw [← hhs]
  have h32:hs.size = 32:=by rw [hhs,bc_size,h320]
  have h1c:∀ i,i < 32→hs[i]? = some (.int .u8 ((byt hb0 i).toNat:Int)):=fun i hi=>by rw [hhs]; exact bc_at hb0 i (by omega)
  clear hhs
  have HG:Hid (∀ u,Calls Tryz.prog 17 #[Bs.sc b v] u fun e w'=>e = .returned (.int .i64 (Bs.gd b v))∧Below u.heap.size u w'):=fun u=>Bs.good12 b v u
  have HR:Hid (Bs.RZ w lv L∧hs.size = 32∧∀ i,i < 32→hs[i]? = some (.int .u8 ((byt hb0 i).toNat:Int))):=⟨hr,h32,h1c⟩
  obtain ⟨a1,c1,rfl,_,_⟩:=hr
  clear h32 h1c
  by_cases hg:Bs.gd b v = 0
  · obtain ⟨b0,b1⟩:=gd_zero hg
    have HGz:Hid (Bs.gd b v = 0):=hg
    rw [hg] at HG
    clear hg
    by_cases hlen:65536 < L.length
    · have hE:nwE b v L = 2:=by unfold nwE; rw [HGz.out,if_pos rfl,if_pos (.inl hlen)]
      rw [hE]
      clear hE
      go_enter Tryz.func9,Tryz.ntmps9
      go_wp2_with fail
      refine (HG.out _).mono ?_
      rintro e w1 ⟨rfl,hb1⟩
      have HB:=Lib.hid ((SB.start b v hs w).next hb1)
      clear hb1
      go_wp2
      go_ret2
      exact ⟨_,rfl,⟨fun h=>by omega,fun _=>rfl⟩,HB.out.bel,fun h=>absurd h (by decide)⟩
    · have HE2:Hid (L.any (Bs.bad b) = true→nwE b v L = 2):=fun h=>by unfold nwE; rw [HGz.out,if_pos rfl,if_pos (.inr h)]
      have HE0:Hid (L.any (Bs.bad b) = false→nwE b v L = 0):=fun h=>by unfold nwE; rw [HGz.out,if_pos rfl,if_neg (by rw [h]; simp; omega)]
      generalize nwE b v L = E at *
      go_enter Tryz.func9,Tryz.ntmps9
      go_wp2_with fail
      refine (HG.out _).mono ?_
      rintro e w1 ⟨rfl,hb1⟩
      have HB:=Lib.hid ((SB.start b v hs w).next hb1)
      have h1:w1.heap[w.heap.size]? = some (.cells #[.int .i64 b,.int .i64 v] 23 (0,0)):=by
        rw [hb1.block w.heap.size (by rw [allocSize,allocSize]; omega),heapOld _ _ _ (by rw [allocSize]; omega),heapNew]
      have q0:w1.cell? ⟨w.heap.size,0,none⟩ = some (.int .i64 b):=by simp [World.cell?,h1]
      have q1:w1.cell? ⟨w.heap.size,1,none⟩ = some (.int .i64 v):=by simp [World.cell?,h1]
      have hbt:=t63_built b v
      clear hb1 h1 HGz
      go_wp2_with fail
      have HL0:=Lib.hid (LP.start (v:=v) (L:=L) HB.out)
      have hgs:=HB.out.sz
      clear HB hbt q0 q1
      generalize w1.heap.size = g at *
      go_loopw [10] (fun t wr=>∃ (k:Nat) (va:Option Addr) (vc:Nat),k≤L.length∧t = .int .i64 k∧Hid (LP w b v hs g L k va vc wr)) (fun t _=>L.length - (intOf t).toNat)
      case atStart=>exact ⟨0,none,0,Nat.zero_le _,rfl,HL0⟩
      case round =>
        obtain ⟨k,va,vc,hk,rfl,H⟩:=hrel
        clear HL0
        by_cases hlt:k < L.length
        · obtain ⟨_,_,hv0,_,hr0⟩:=HR.out.1
          simp only [Value.slice.injEq] at hv0
          obtain ⟨rfl,_,rfl⟩:=hv0
          rcases hr0 with hnil | ⟨gl,ol,rfl,hgl,hcl⟩
          · rw [hnil] at hlt; simp at hlt
          have k1:wr.cell? ⟨gl,ol + k,none⟩ = some (.int .i64 (Bs.iz L k)):=(H.out.sb.bel.cell (p:=⟨gl,ol + k,none⟩) hgl).trans (hcl k hlt)
          have k2:=H.out.sb.blk
          have HX:Hid (∀ hb:Bs.bad b (Bs.iz L k) = true,E = 2):=fun hb=>HE2.out (Bs.any_yes hlt hb)
          have HN:Hid (Bs.bad b (Bs.iz L k) = false→∀ a,a < k + 1→Bs.bad b (Bs.iz L a) = false):=fun hz=>Bs.any_step H.out.no hz
          have HT:Hid (L.take (k + 1) = L.take k ++ [Bs.iz L k]∧(L.take k).length = k):=⟨take_iz hlt,by rw [List.length_take]; omega⟩
          clear hcl
          generalize Bs.iz L k = x at *
          have hwr:IntKind.i64.wrap (1024 * b) = 1024 * b:=IntWalk.i64_in _ (by omega)
          by_cases x1:x < 1
          · have hE:=HX.out (by unfold Bs.bad; simp [x1])
            subst hE
            have HBel:=Lib.hid H.out.sb.bel
            clear HN HX HT H HE2 HE0
            go_wp2_with fail
            go_quiet (fail)
            go_wp2
            go_ret2
            exact ⟨_,rfl,⟨fun h=>by omega,fun _=>rfl⟩,belowN HBel.out _,fun h=>absurd h (by decide)⟩
          · by_cases x2:1024 * b < x
            · have hE:=HX.out (by unfold Bs.bad; simp [x2])
              subst hE
              have HBel:=Lib.hid H.out.sb.bel
              clear HN HX HT H HE2 HE0
              go_wp2_with fail
              go_quiet (fail)
              go_wp2
              go_ret2
              exact ⟨_,rfl,⟨fun h=>by omega,fun _=>rfl⟩,belowN HBel.out _,fun h=>absurd h (by decide)⟩
            · have hbf:Bs.bad b x = false:=by unfold Bs.bad; simp [x1,x2]
              have HN':=Lib.hid (HN.out hbf)
              clear HN HX hbf
              go_wp2_with fail
              go_quiet (fail)
              go_wp2_with fail
              have HLn:=Lib.hid (H.out.drew nq)
              have hn1:(wr.drewN nq).cell? ⟨gl,ol + k,none⟩ = some (.int .i64 x):=k1
              obtain ⟨w2,hw2⟩:∃ u,u = wr.drewN nq:=⟨_,rfl⟩
              rw [← hw2] at HLn hn1 ⊢
              have c22:w2.cell? ⟨g,22,none⟩ = some (.slice va k vc):=HLn.out.rq.at 0 rfl
              have h13:Bs.OZ (g + 1) (w2.drew.alloc (Obj.cells #[.int .i64 x] 3)) (.slice va k vc) (L.take k):=HLn.out.own.grow ((belowDrew w2 1).alloc (Nat.le_refl _) _)
              have h14:(w2.drew.alloc (Obj.cells #[.int .i64 x] 3)).cell? ⟨w2.heap.size,0,none⟩ = some (.int .i64 x):=cellNew w2.drew _ 3
              have hgw:=HLn.out.rq.lt
              have H15:Hid (g + 1≤(w2.drew.alloc (Obj.cells #[.int .i64 x] 3)).heap.size):=by show _≤_; rw [allocSize]; show g + 1≤w2.heap.size + 1; omega
              have HST:Hid (∀ w3 a' c',Bs.OZ (g + 1) w3 (.slice a' (k + 1) c') (L.take k ++ [x])→Below (g + 1) (w2.drew.alloc (Obj.cells #[.int .i64 x] 3)) w3→w3.cell? ⟨g,22,none⟩ = some (.slice va k vc)∧w3.frozen? ⟨g,22,none⟩ = false∧LP w b v hs g L (k + 1) a' c' (w3.setCell ⟨g,22,none⟩ (.slice a' (k + 1) c'))):=fun w3 a' c' o3 b3=>by
                rw [← HT.out.1] at o3
                exact LP.step HLn.out HN'.out o3 b3
              clear hw2 k1 k2 H HLn
              go_region_law (first
                | (refine step_append_int (w:=w2.drew.alloc (Obj.cells #[.int .i64 x] 3)) (sv:=.slice va k vc) (l:=L.take k) (B:=g + 1) rfl (.tmp 49) (.tmp 54) rfl rfl h13 w2.heap.size x rfl h14 H15.out (by rw [HT.out.2]; omega) ?_; intro v' w3 ho' hb3; obtain ⟨a',c',rfl⟩:=ho'.form; rw [List.length_append,HT.out.2] at ho' ⊢; obtain ⟨y1,y2,y3⟩:=HST.out w3 a' c' ho' hb3; clear ho' hb3; have HY:=Lib.hid y3; clear y3))
              all_goals go_wp2
              all_goals exact ⟨⟨k + 1,a',c',by omega,by go_num,HY⟩,by simp [intOf]; omega⟩
        · have hno:L.any (Bs.bad b) = false:=Bs.any_no (fun a ha=>H.out.no a (by omega))
          have hE:=HE0.out hno
          subst hE
          have HQ:Hid (QB w b v hs g L hb0 (.slice va k vc) 0 wr):=⟨H.out.sb,H.out.hg,H.out.rq,by have h:=H.out.own; rwa [List.take_of_length_le (by omega)] at h⟩
          clear H HE2 HE0 hno
          obtain ⟨w2,hw2⟩:∃ x,x = wr:=⟨_,rfl⟩
          subst hw2
          go_wp2_with fail
          go_loopw [11] (fun t wr=>∃ j:Nat,j≤20∧t = .int .i64 j∧Hid (QB w b v hs g L hb0 (.slice va k vc) j wr)) (fun t _=>20 - (intOf t).toNat)
          case atStart=>exact ⟨0,Nat.zero_le _,rfl,HQ⟩
          case round =>
            obtain ⟨j,hj,rfl,H2⟩:=hrel
            clear HQ
            by_cases hlj:j < 20
            · have hxj:=HR.out.2.2 j (by omega)
              have k1:wr.cell? ⟨w.heap.size + 1,j,none⟩ = some (.int .u8 ((byt hb0 j).toNat:Int)):=by simp only [World.cell?,H2.out.sb.inf]; exact hxj
              obtain ⟨yj,k2,k3⟩:=cell_of H2.out.rq.2 (k:=2 + j) (by rw [show (Q0 b v (.slice va k vc) (hb0.take j ++ zr (20 - j))).ls.toArray.size = 34 from H2.out.rq.size]; omega)
              have hq1:w.heap.size + 1≠g:=by have:=H2.out.hg; omega
              have HS2:Hid (∀ n,QB w b v hs g L hb0 (.slice va k vc) (j + 1) ((wr.drewN n).setCell ⟨g,2 + j,none⟩ (.int .u8 ((byt hb0 j).toNat:Int)))):=fun n=>H2.out.step h320 n hlj
              clear H2 hxj
              generalize (byt hb0 j).toNat = xj at *
              go_wp2_with fail
              go_region
              go_wp2
              exact ⟨⟨j + 1,by omega,by go_num,HS2.out 1⟩,by simp [intOf]; omega⟩
            · have h20:(j:Int) = 20:=by omega
              rw [h20]
              have hj20:j = 20:=by omega
              have H2:Hid (QB w b v hs g L hb0 (.slice va k vc) 20 wr):=by rw [← hj20]; exact H2
              clear h20 hlj hj20
              obtain ⟨w4,hw4⟩:∃ x,x = wr:=⟨_,rfl⟩
              subst hw4
              go_wp2_with fail
              refine (Fm.refNew w4 true).mono ?_
              rintro e w5 ⟨rfl,rf5,b5⟩
              have HI:Hid (RQ w5 g (Q0 b v (.slice va k vc) (hb0.take 20))):=by
                have h:=H2.out.rq.keep (b5.block g H2.out.rq.lt)
                exact Lib.hid (by simpa [zr] using h)
              have HS5:=Lib.hid (H2.out.sb.next b5)
              have HO5:Hid (Bs.OZ (g + 1) w5 (.slice va k vc) L∧∀ q,(Value.slice va k vc).ownBlock = some q→g < q∧q < w4.heap.size):=⟨H2.out.own.grow b5,fun q hq=>by have:=own_ge H2.out.own hq; omega⟩
              have hgS:g < w4.heap.size:=H2.out.rq.lt
              have hgg:=H2.out.hg
              have HF5:Hid (Fm.RF w5 w4.heap.size true (.slice none 0 0) 0):=rf5
              have c23:=HI.out.at 1 rfl
              have f23:=HI.out.fr 23
              have c27:=HI.out.at 5 rfl
              have f27:=HI.out.fr 27
              have c29:=HI.out.at 7 rfl
              have f29:=HI.out.fr 29
              have bG:Below g w5 (((w5.setCell ⟨g,23,none⟩ (.pointer (some ⟨w4.heap.size,0,none⟩))).setCell ⟨g,27,none⟩ (.bool true)).setCell ⟨g,29,none⟩ (.bool true)):=(((Below.refl g w5).setCell (p:=⟨g,23,none⟩) (Nat.le_refl _) _).setCell (p:=⟨g,27,none⟩) (Nat.le_refl _) _).setCell (p:=⟨g,29,none⟩) (Nat.le_refl _) _
              have fG:Fm.Fr (fun k=>k≠g) w5 (((w5.setCell ⟨g,23,none⟩ (.pointer (some ⟨w4.heap.size,0,none⟩))).setCell ⟨g,27,none⟩ (.bool true)).setCell ⟨g,29,none⟩ (.bool true)):=(((Fm.Fr.refl (fun k=>k≠g) w5).setCell g 23 _ (fun h=>h rfl)).setCell g 27 _ (fun h=>h rfl)).setCell g 29 _ (fun h=>h rfl)
              have HR6:Hid (RQ (((w5.setCell ⟨g,23,none⟩ (.pointer (some ⟨w4.heap.size,0,none⟩))).setCell ⟨g,27,none⟩ (.bool true)).setCell ⟨g,29,none⟩ (.bool true)) g ⟨b,v,hb0.take 20,.slice va k vc,.pointer (some ⟨w4.heap.size,0,none⟩),false,false,0,true,false,true,false,.slice none 0 0,false,false⟩):=((HI.out.set 1 _ ⟨b,v,hb0.take 20,.slice va k vc,.pointer (some ⟨w4.heap.size,0,none⟩),false,false,0,false,false,false,false,.slice none 0 0,false,false⟩ rfl rfl rfl rfl).set 5 _ ⟨b,v,hb0.take 20,.slice va k vc,.pointer (some ⟨w4.heap.size,0,none⟩),false,false,0,true,false,false,false,.slice none 0 0,false,false⟩ rfl rfl rfl rfl).set 7 _ _ rfl rfl rfl rfl
              have HX6:=Lib.hid (And.intro (HS5.out.next2 (bG.mono hgg)) fG)
              obtain ⟨w6,hw6⟩:∃ x,x = ((w5.setCell ⟨g,23,none⟩ (.pointer (some ⟨w4.heap.size,0,none⟩))).setCell ⟨g,27,none⟩ (.bool true)).setCell ⟨g,29,none⟩ (.bool true):=⟨_,rfl⟩
              clear b5 H2 HS5 rf5 bG fG HI
              go_wp2_with fail
              rw [← hw6] at HR6 HX6 ⊢
              have HM:Hid (Calls Tryz.prog 19 #[.int .i64 (L.length:Int)] w6 fun e w'=>∃ v l,e = .returned (.tuple #[v,.int .i64 0])∧Bs.OW w6.heap.size w' v l∧Bs.BF L.length (fun _=>false) l∧Below w6.heap.size w6 w'):=Bs.make14 L.length (by omega) w6
              clear hw6 c23 f23 c27 f27 c29 f29
              refine HM.out.mono ?_
              rintro e w7 ⟨v7,l7,rfl,o7,bf7,b7⟩
              obtain ⟨a7,n7,c7,rfl⟩:=(bsOW o7).form3
              have hl7:l7 = List.replicate ((L.length + 7) / 8) 0:=Bs.BF.unique bf7 (Bs.BF.zeros _) (fun _ _=>rfl)
              subst hl7
              have R7:=HR6.out.keep (b7.block g HR6.out.lt)
              have c31:=R7.at 9 rfl
              have f31:=R7.fr 31
              have fr7:Fm.Fr (fun k=>k≠g) w5 (w7.setCell ⟨g,31,none⟩ (.slice a7 n7 c7)):=(HX6.out.2.trans (Fm.Fr.of_below b7) (fun _ _ h=>h)).setCell g 31 _ (fun h=>h rfl)
              have hs6:w4.heap.size + 1≤w6.heap.size:=Nat.le_trans (HF5.out.lt) HX6.out.2.size
              have HEnd:Hid (Below w.heap.size w (w7.setCell ⟨g,31,none⟩ (.slice a7 n7 c7))∧RNew w (w7.setCell ⟨g,31,none⟩ (.slice a7 n7 c7)) b v hb0 L (.pointer (some ⟨g,0,none⟩))):=by
                refine ⟨(HX6.out.1.bel.trans (b7.mono HX6.out.1.bel.size)).setCell (p:=⟨g,31,none⟩) (by show w.heap.size≤g; omega) _,g,w4.heap.size,.slice va k vc,.slice a7 n7 c7,rfl,by omega,hgS,R7.set 9 _ _ rfl rfl rfl rfl,?_,HO5.out.2,?_,?_⟩
                · exact oz_at HO5.out.1 (fun q hq=>fr7.block q (own_ge HO5.out.1 hq).2 (by have:=(HO5.out.2 q hq).1; omega))
                · exact (fr7.block _ HF5.out.lt (by omega)).trans HF5.out
                · exact OW.setOther ((bsOW o7).mono hs6) (by omega) _ _
              clear b7 o7 bf7 HR6 HX6 HM R7 fr7
              go_wp2
              go_ret2
              exact ⟨_,rfl,⟨fun _=>⟨_,rfl⟩,fun h=>absurd rfl h⟩,HEnd.out.1,HEnd.out.2⟩
  · have ht:=gd_ten hg
    have hE:nwE b v L = 10:=by unfold nwE; rw [if_neg hg]
    rw [ht] at HG
    rw [hE]
    clear hg ht hE
    go_enter Tryz.func9,Tryz.ntmps9
    go_wp2_with fail
    refine (HG.out _).mono ?_
    rintro e w1 ⟨rfl,hb1⟩
    have HB:=Lib.hid ((SB.start b v hs w).next hb1)
    clear hb1
    go_wp2
    go_ret2
    exact ⟨_,rfl,⟨fun h=>by omega,fun _=>rfl⟩,HB.out.bel,fun h=>absurd h (by decide)⟩
end Go.Proofs.YtfjjpbebnoghmaaGreatDoor
namespace Go.Proofs.YtfjjpbebnoghmaaGreatDoor.Fm
open Go.RowKit Go.Proofs.YtfjjpbebnoghmaaGreatDoor
end Go.Proofs.YtfjjpbebnoghmaaGreatDoor.Fm
namespace Go.Proofs.YtfjjpbebnoghmaaGreatDoor
open Go.RowKit
theorem Hstep.det {n:Nat} {q q1 q2:Qs} {m:Mv} {D:List UInt8} (h1:Hstep n q m D q1) (h2:Hstep n q m D q2):q2 = q1:=by
  obtain ⟨a1,a2,a3,a4⟩:=h1
  obtain ⟨b1,b2,b3,b4⟩:=h2
  have hH:q2.H = q1.H:=by
    rcases a4 with ⟨k4,x⟩ | ⟨k5,x⟩ | ⟨n4,n5,x⟩ <;> rcases b4 with ⟨k4',y⟩ | ⟨k5',y⟩ | ⟨n4',n5',y⟩
    · rcases x with ⟨g1,e1⟩ | ⟨g1,e1⟩ <;> rcases y with ⟨g2,e2⟩ | ⟨g2,e2⟩
      · rw [e1,e2]
      · rw [g1] at g2; cases g2
      · rw [g1] at g2; cases g2
      · exact Bs.PU.unique e2 e1
    · omega
    · omega
    · omega
    · rw [x,y]
    · omega
    · omega
    · omega
    · rw [x,y]
  cases q1
  cases q2
  simp only at *
  subst a1 a2 a3 b1 b2 b3 hH
  rfl
theorem Hr.det {L:List Int} {pb:Int} {q q1:Qs} {bs:List (List UInt8)} {xs:List Mg} {e:Int} (x:Hr L pb q bs xs q1 e):∀ {xs2:List Mg} {q2:Qs} {e2:Int},Hr L pb q bs xs2 q2 e2→xs2 = xs∧q2 = q1∧e2 = e:=by
  induction x with
  | nil q=>intro xs2 q2 e2 y; cases y; exact ⟨rfl,rfl,rfl⟩
  | dec q y bs h =>
    intro xs2 q2 e2 z
    cases z with
    | dec=>exact ⟨rfl,rfl,rfl⟩
    | ill _ _ _ h1=>exact absurd h1 h
    | ok _ _ _ _ _ _ _ h1=>exact absurd h1 h
  | ill q y bs h h' =>
    intro xs2 q2 e2 z
    cases z with
    | dec _ _ _ h1=>exact absurd h h1
    | ill=>exact ⟨rfl,rfl,rfl⟩
    | ok _ _ _ _ _ _ _ _ h1=>exact absurd h1 h'
  | ok q qa q' y bs xs e h h' hs _ ih =>
    intro xs2 q2 e2 z
    cases z with
    | dec _ _ _ h1=>exact absurd h h1
    | ill _ _ _ _ h1=>exact absurd h' h1
    | ok _ qb _ _ _ _ _ _ _ hs2 z2 =>
      rw [hs.det hs2] at z2
      obtain ⟨rfl,rfl,rfl⟩:=ih z2
      exact ⟨rfl,rfl,rfl⟩
def EvH (es:List Ev) (met:List (List UInt8)) (xs:List Mg):Prop:=∃ es',es = met.map hev ++ es'∧EvM es' xs
theorem EVS.mono {B B':Nat} {w:World} {v:Value} {es:List Ev} (h:EVS B w v es) (hB:B'≤B):EVS B' w v es:=by
  have key:∀ {e n size:Nat} {v:Value} {us:List Value},w.ownsRow B e size v n us→w.ownsRow B' e size v n us:=fun h =>
    ⟨h.1,h.2.imp id (fun ⟨g,cap,cur,h1,h2,h3⟩=>⟨g,cap,cur,h1,Nat.le_trans hB h2,h3⟩)⟩
  refine ⟨key h.1,fun e he=>⟨(h.2 e he).pr,?_⟩⟩
  have hm:=(h.2 e he).mg
  obtain ⟨n,en,hh⟩:=hm.h
  exact ⟨hm.ok,key hm.d,⟨n,en,key hh⟩,hm.dl,hm.hl⟩
theorem upd_kk (c:Nat) (m:Mv) (l:List UInt8):(upd c m l).k = m.k:=by unfold upd; split <;> rfl
theorem tks_kk (cs:List Nat) (s:Ds):(Ds.tks cs s).m.k = s.m.k:=by
  induction cs generalizing s with
  | nil=>rfl
  | cons c cs ih=>exact (ih (Ds.tk c s)).trans (upd_kk c s.m s.l)
theorem row7:∀ r ∈ rws,r.k = 7→r = ⟨7,10,16393,1, [1,3,4,10,0,0,0]⟩:=by decide
theorem dec_piece {y:List UInt8} (h0:decE y = 0) (h7:(decS y).m.k = 7):1≤(decS y).D.length:=by
  have hS:decS y = (match rowFor (kindB y) with | some r=>decR r y | none=>⟨zm, [], [], []⟩):=by
    unfold decS
    exact if_pos h0
  unfold decE at h0
  split at h0
  · cases h0
  · cases hr:rowFor (kindB y) with
    | none=>rw [hr] at h0; cases h0
    | some r =>
      rw [hr] at h0 hS
      simp only at h0 hS
      rw [hS] at h7 ⊢
      have hk:r.k = 7:=(tks_kk r.cs ⟨zmk r.k, [], [],y⟩).symm.trans h7
      have hm:=rowFor_mem hr
      have e:=row7 r hm.1 hk
      subst e
      by_cases hf:Kr.fit ⟨7,10,16393,1, [1,3,4,10,0,0,0]⟩ (y.length:Int) = true
      · unfold Kr.fit at hf
        simp only [Bool.and_eq_true,decide_eq_true_eq] at hf
        have h10:10≤y.length:=by omega
        show 1≤(((y.drop 1).drop 4).drop 4).length
        rw [List.length_drop,List.length_drop,List.length_drop]
        omega
      · rw [if_neg hf] at h0
        cases h0
theorem pu_set {n:Int} {H r:List UInt8} {i:Int} (hg:Bs.gB n H i = true) (h:Bs.PU n H i true r):r = H:=by
  have hE:Bs.gE n H i = 0:=by
    by_cases h0:Bs.gE n H i = 0
    · exact h0
    · unfold Bs.gB at hg
      rw [if_neg h0] at hg
      cases hg
  have hb:Bs.bit H i.toNat = true:=by
    unfold Bs.gB at hg
    rw [if_pos hE] at hg
    exact hg
  have hc:Bs.ck n H = 0:=by
    by_cases h0:Bs.ck n H = 0
    · exact h0
    · exact absurd ((Bs.gE_ck h0).1.symm.trans hE) h0
  obtain ⟨_,_,c3,c4⟩:=Bs.ck_ok hc
  rcases h with ⟨h1,_⟩ | ⟨_,h2⟩
  · exact absurd hE h1
  · refine Bs.bits_ext (h2.1.trans c3.symm) (fun j=>?_)
    rw [h2.2]
    by_cases hj:j < n.toNat
    · rw [decide_eq_true hj,Bool.true_and]
      show (if j = i.toNat then true else Bs.bit H j) = Bs.bit H j
      by_cases e:j = i.toNat
      · rw [if_pos e,e,hb]
      · rw [if_neg e]
    · rw [decide_eq_false hj,Bool.false_and,c4 j (by omega)]
structure HQ (w:World) (g:Nat) (Q:Rv) (L:List Int) (H:List UInt8):Prop where
  rq:RQ w g Q
  b0:64≤Q.b
  b1:Q.b≤16384
  lz:Se g w (fun u=>Bs.RZ u Q.ln L)
  lok:LOk L
  hz:Se g w (fun u=>RB u Q.hs H)
  hl:H.length≤140737488351232
theorem HQ.pq {w:World} {g:Nat} {Q:Rv} {L:List Int} {H:List UInt8} (h:HQ w g Q L H):PQ w g Q L:=⟨h.rq,h.b0,h.b1,h.lz.now,h.lok⟩
theorem HQ.fr {w w':World} {g:Nat} {Q:Rv} {L:List Int} {H:List UInt8} (h:HQ w g Q L H) (hf:Fe g w w') (hk:RQ w' g Q):HQ w' g Q L H:=⟨hk,h.b0,h.b1,h.lz.fr hf,h.lok,h.hz.fr hf,h.hl⟩
theorem HQ.below {w w':World} {g:Nat} {Q:Rv} {L:List Int} {H:List UInt8} (h:HQ w g Q L H) (hb:Below w.heap.size w w'):HQ w' g Q L H:=h.fr (Fe.of_below hb) (h.rq.keep (hb.block g h.rq.lt))
def HNq (w w':World) (n:Nat) (Q:Rv) (H:List UInt8) (m:Mv) (D:List UInt8) (hv:Value) (H':List UInt8):Prop:=
  (m.k = 4∧Bs.PU (n:Int) H m.i true H'∧OW w.heap.size w' hv H')∨(m.k = 5∧H' = D∧OW w.heap.size w' hv H')∨(m.k≠4∧m.k≠5∧hv = Q.hs∧H' = H)
theorem effT (w:World) (g:Nat) (Q:Rv) (L:List Int) (H:List UInt8) (h:HQ w g Q L H) (m:Mv) (ok:m.ok) (D:List UInt8) (hd:RB w m.d D) (hD:D.length≤32768) (i0:0≤m.i) (i1:m.i≤4294967295) :
    Calls Tryz.prog 47 #[.pointer (some ⟨g,0,none⟩),.agg m.cs] w fun e w'=>e = .returned (.tuple #[])∧∃ hv H',RQ w' g (Q.eff m.k hv)∧HNq w w' L.length Q H m D hv H'∧Fm.Fr (fun k=>k≠g) w w':=by
  by_cases k4:m.k = 4
  · refine (effB w g Q L h.pq m ok k4 H h.hz.now h.hl (by omega) (by omega)).mono ?_
    rintro e w' ⟨rfl,hv,h1,⟨r,h2,h3⟩,h4⟩
    exact ⟨rfl,hv,r,h1,.inl ⟨k4,h2,h3⟩,h4⟩
  by_cases k5:m.k = 5
  · refine (effC w g Q h.rq m ok k5 D hd (by omega)).mono ?_
    rintro e w' ⟨rfl,hv,h1,h2,h3⟩
    exact ⟨rfl,hv,D,h1,.inr (.inl ⟨k5,rfl,h2⟩),h3⟩
  · refine (effA w g Q h.rq m ok k4 k5).mono ?_
    rintro e w' ⟨rfl,h1,h2⟩
    exact ⟨rfl,Q.hs,H,h1,.inr (.inr ⟨k4,k5,rfl,rfl⟩),h2⟩
theorem HQ.took {w w':World} {g:Nat} {Q:Rv} {L:List Int} {q:Qs} {m:Mv} {D:List UInt8} {hv:Value} {H':List UInt8} (hc:HQ w g Q L q.H) (hk:RQ w' g (Q.eff m.k hv)) (hn:HNq w w' L.length Q q.H m D hv H') (hf:Fm.Fr (fun k=>k≠g) w w') (hD:D.length≤32768) :
    HQ w' g (Q.eff m.k hv) L H'∧Hstep L.length q m D ⟨(sy m.k q.c q.i q.b).1,(sy m.k q.c q.i q.b).2.1,(sy m.k q.c q.i q.b).2.2,H'⟩:=by
  have hgl:=hc.rq.lt
  have key:Se g w' (fun u=>RB u hv H')∧H'.length≤140737488351232:=by
    rcases hn with ⟨_,hpu,ho⟩ | ⟨_,rfl,ho⟩ | ⟨_,_,rfl,rfl⟩
    · refine ⟨OW.sg ho hgl,?_⟩
      rcases hpu with ⟨_,rfl⟩ | ⟨_,hbf⟩
      · exact Nat.zero_le _
      · have h1:=hbf.1
        have h2:=hc.lok.1
        omega
    · exact ⟨OW.sg ho hgl,by omega⟩
    · exact ⟨hc.hz.fr (Fe.of_fr hf),hc.hl⟩
  refine ⟨⟨hk,hc.b0,hc.b1,hc.lz.fr (Fe.of_fr hf),hc.lok,key.1,key.2⟩,rfl,rfl,rfl,?_⟩
  rcases hn with ⟨h4,hpu,_⟩ | ⟨h5,h1,_⟩ | ⟨h4,h5,_,h1⟩
  · refine .inl ⟨h4,?_⟩
    cases hg:Bs.gB (L.length:Int) q.H m.i with
    | true=>exact .inl ⟨rfl,pu_set hg hpu⟩
    | false=>exact .inr ⟨rfl,hpu⟩
  · exact .inr (.inl ⟨h5,h1⟩)
  · exact .inr (.inr ⟨h4,h5,h1⟩)
theorem HNq.ho {w3 w4 wr w:World} {g n:Nat} {Q':Rv} {H H0:List UInt8} {Ph:Value} {m:Mv} {D:List UInt8} {hv:Value} {H':List UInt8} (hn:HNq w3 w4 n Q' H m D hv H') (ho:(Q'.hs = Ph∧H = H0)∨OW w.heap.size wr Q'.hs H) (hg:g < w.heap.size) (hs:w.heap.size≤w3.heap.size) (hf:Fe g wr w4):(hv = Ph∧H' = H0)∨OW w.heap.size w4 hv H':=by
  rcases hn with ⟨_,_,h3⟩ | ⟨_,_,h3⟩ | ⟨_,_,h1,h2⟩
  · exact .inr (h3.mono hs)
  · exact .inr (h3.mono hs)
  · rw [h1,h2]
    exact ho.imp id (fun o=>o.fe hg hf)
structure LQ (w:World) (g:Nat) (Q:Rv) (L:List Int) (q0:Qs) (bs:List (List UInt8)) (pre:List Ev) (n:Nat) (Q':Rv) (q:Qs) (es:List Ev) (xs:List Mg) (ev:Value) (wr:World):Prop where
  fr:Fm.Fr (fun k=>k≠g) w wr
  hc:HQ wr g Q' L q.H
  sh:Q' = { Q with hs:=Q'.hs,c:=q.c,i:=q.i,hd:=q.b }
  ev:EVS w.heap.size wr ev (pre ++ es)
  em:EvM es xs
  rd:∀ xs' q' e,Hr L Q.b q (bs.drop n) xs' q' e→Hr L Q.b q0 bs (xs ++ xs') q' e
  ln:(pre ++ es).length≤n + 1
  ho:(Q'.hs = Q.hs∧q.H = q0.H)∨OW w.heap.size wr Q'.hs q.H
def QE (w:World) (g:Nat) (Q:Rv) (L:List Int) (q0:Qs) (bs:List (List UInt8)) (pre:List Ev) (ev:Value) (er:Int) (w':World) (Q':Rv):Prop:=
  Fm.Fr (fun k=>k≠g) w w'∧∃ es xs q',EVS w.heap.size w' ev (pre ++ es)∧EvM es xs∧Hr L Q.b q0 bs xs q' er∧HQ w' g Q' L q'.H∧Q' = { Q with hs:=Q'.hs,c:=q'.c,i:=q'.i,hd:=q'.b }∧((Q'.hs = Q.hs∧q'.H = q0.H)∨OW w.heap.size w' Q'.hs q'.H)
theorem LQ.done {w:World} {g:Nat} {Q:Rv} {L:List Int} {q0:Qs} {bs:List (List UInt8)} {pre:List Ev} {n:Nat} {Q':Rv} {q:Qs} {es:List Ev} {xs:List Mg} {ev:Value} {wr w':World} (h:LQ w g Q L q0 bs pre n Q' q es xs ev wr) (hb:Below wr.heap.size wr w') (er:Int) (hr:Hr L Q.b q (bs.drop n) [] q er):QE w g Q L q0 bs pre ev er w' Q'∧RQ w' g Q':=by
  have hc:=h.hc.below hb
  refine ⟨⟨frT h.fr (Fm.Fr.of_below hb),es,xs,q,h.ev.fr (fun k _ hk=>hb.block k hk),h.em,?_,hc,h.sh,h.ho.imp id (fun o=>o.grow hb)⟩,hc.rq⟩
  have:=h.rd [] q er hr
  rwa [List.append_nil] at this
def RFe (w:World) (g:Nat) (Q:Rv) (L:List Int) (q0:Qs) (bs:List (List UInt8)) (pre:List Ev) (er:Int) (ev:Value) (fin:Int) (w':World):Prop:=
  ∃ er1 w2 Q',QE w g Q L q0 bs pre ev er1 w2 Q'∧fin = (if er1 = 0 then er else er1)∧((fin = 0∧w' = w2)∨(fin≠0∧RQ w' g { Q' with gone:=true,why:=fin }∧Fm.Fr (fun k=>k≠g) w2 w'))
theorem RFe.fail {w:World} {g:Nat} {Q:Rv} {L:List Int} {q0:Qs} {bs:List (List UInt8)} {pre:List Ev} {er:Int} {ev:Value} {w' w2:World} {er1:Int} {Q':Rv} (h:QE w g Q L q0 bs pre ev er1 w2 Q') (h0:er1≠0) (hq:RQ w' g { Q' with gone:=true,why:=er1 }) (hf:Fm.Fr (fun k=>k≠g) w2 w'):RFe w g Q L q0 bs pre er ev er1 w':=⟨er1,w2,Q',h,by rw [if_neg h0],.inr ⟨h0,hq,hf⟩⟩
theorem RFe.last {w:World} {g:Nat} {Q:Rv} {L:List Int} {q0:Qs} {bs:List (List UInt8)} {pre:List Ev} {er:Int} {ev:Value} {w' w2:World} {Q':Rv} (h:QE w g Q L q0 bs pre ev 0 w2 Q') (h0:er≠0) (hq:RQ w' g { Q' with gone:=true,why:=er }) (hf:Fm.Fr (fun k=>k≠g) w2 w'):RFe w g Q L q0 bs pre er ev er w':=⟨0,w2,Q',h,rfl,.inr ⟨h0,hq,hf⟩⟩
theorem RFe.ok {w:World} {g:Nat} {Q:Rv} {L:List Int} {q0:Qs} {bs:List (List UInt8)} {pre:List Ev} {ev:Value} {w2:World} {Q':Rv} (h:QE w g Q L q0 bs pre ev 0 w2 Q'):RFe w g Q L q0 bs pre 0 ev 0 w2:=⟨0,w2,Q',h,rfl,.inl ⟨rfl,rfl⟩⟩
structure QP (w:World) (g S:Nat) (Q:Rv) (L:List Int) (H A:List UInt8) (av:Value):Prop where
  rq:RQ w g Q
  go:Q.gone = false
  rp:Q.r = .pointer (some ⟨S,0,none⟩)
  gS:g < S
  b0:64≤Q.b
  b1:Q.b≤16384
  lok:LOk L
  lo:Bs.OZ 0 w Q.ln L
  lj:∀ k,Q.ln.ownBlock = some k→k≠g∧k≠S∧av.ownBlock≠some k
  ho:OW 0 w Q.hs H
  hj:∀ k,Q.hs.ownBlock = some k→k≠g∧k≠S∧av.ownBlock≠some k
  hl:H.length≤140737488351232
  rf:Fm.RF w S true av 0
  ow:OW (S + 1) w av A
  nil:A = []→av = .slice none 0 0
theorem QP.hq {w w1:World} {g S:Nat} {Q:Rv} {L:List Int} {H A:List UInt8} {av:Value} (h:QP w g S Q L H A av) (fr:Fm.Fr (fun k=>k≠S∧av.ownBlock≠some k) w w1):HQ w1 g Q L H:=by
  have hgS:=h.gS
  have hlow:av.ownBlock≠some g:=fun e=>by
    have:=(own_ge h.ow e).1
    omega
  have hlo:Bs.OZ 0 w1 Q.ln L:=own_at h.lo (fun k hk hx=>fr.block k (own_ge h.lo hk).2 ⟨(h.lj k hk).2.1,(h.lj k hk).2.2⟩)
  have hho:OW 0 w1 Q.hs H:=own_at h.ho (fun k hk hx=>fr.block k (own_ge h.ho hk).2 ⟨(h.hj k hk).2.1,(h.hj k hk).2.2⟩)
  refine ⟨h.rq.keep (fr.block g h.rq.lt ⟨by omega,hlow⟩),h.b0,h.b1,fun w' hf=>?_,h.lok,fun w' hf=>?_,h.hl⟩
  · refine Bs.OZ.rz (B:=0) (own_at hlo (fun k hk hx=>?_))
    obtain ⟨cs,hx⟩:=hx
    refine hf.block k (own_ge hlo hk).2 (h.lj k hk).1 (fun cs' f e=>?_)
    rw [hx] at e
    simp at e
  · refine OW.rb (B:=0) (own_at hho (fun k hk hx=>?_))
    obtain ⟨cs,hx⟩:=hx
    refine hf.block k (own_ge hho hk).2 (h.hj k hk).1 (fun cs' f e=>?_)
    rw [hx] at e
    simp at e
theorem leg_of {y:List UInt8} (h0:decE y = 0) (L:List Int) (b:Int) (hd:Bool) (d h:Value):rlE L b hd (mgOf y d h).m (decS y).D = legE L b hd (decS y).m (decS y).D:=leg_same (m:=(mgOf y d h).m) (decS_bd y).i0 (fun h7=>dec_piece h0 h7)
theorem LQ.next {w:World} {g:Nat} {Q:Rv} {L:List Int} {q0:Qs} {bs:List (List UInt8)} {pre:List Ev} {n:Nat} {Q':Rv} {q:Qs} {es:List Ev} {xs:List Mg} {ev:Value} {wr:World} (h:LQ w g Q L q0 bs pre n Q' q es xs ev wr)
    {y:List UInt8} (hy:bs[n]? = some y) (hE:decE y = 0) (hL:legE L Q.b q.b (decS y).m (decS y).D = 0) {w4:World} {hv:Value} {H':List UInt8} (hf:Fm.Fr (fun k=>k≠g) w w4)
    (hc:HQ w4 g (Q'.eff (decS y).m.k hv) L H') (hs:Hstep L.length q (decS y).m (decS y).D ⟨(sy (decS y).m.k q.c q.i q.b).1,(sy (decS y).m.k q.c q.i q.b).2.1,(sy (decS y).m.k q.c q.i q.b).2.2,H'⟩)
    {es':List Ev} {ev':Value} (he:EVS w.heap.size w4 ev' (pre ++ es')) (hem:EvM es' (xs ++ (if (decS y).m.k = 1000 then [] else [⟨(decS y).m,(decS y).D,(decS y).hb⟩]))) (hl:(pre ++ es').length≤n + 2) (ho:(hv = Q.hs∧H' = q0.H)∨OW w.heap.size w4 hv H') :
    LQ w g Q L q0 bs pre (n + 1) (Q'.eff (decS y).m.k hv) ⟨(sy (decS y).m.k q.c q.i q.b).1,(sy (decS y).m.k q.c q.i q.b).2.1,(sy (decS y).m.k q.c q.i q.b).2.2,H'⟩ es' (xs ++ (if (decS y).m.k = 1000 then [] else [⟨(decS y).m,(decS y).D,(decS y).hb⟩])) ev' w4:=by
  refine ⟨hf,hc,?_,he,hem,fun xs' q' e hr=>?_,hl,ho⟩
  · have h1:=h.sh
    have e1:Q'.c = q.c:=by rw [h1]
    have e2:Q'.i = q.i:=by rw [h1]
    have e3:Q'.hd = q.b:=by rw [h1]
    obtain ⟨a1,a2,a3⟩:=eff_same Q' (decS y).m.k hv
    rw [e1,e2,e3] at a1 a2 a3
    have e:Q'.eff (decS y).m.k hv = { Q' with c:=(sy (decS y).m.k q.c q.i q.b).1,i:=(sy (decS y).m.k q.c q.i q.b).2.1,hs:=hv,hd:=(sy (decS y).m.k q.c q.i q.b).2.2 }:=by
      have h9:Q'.eff (decS y).m.k hv = { Q' with c:=(Q'.eff (decS y).m.k hv).c,i:=(Q'.eff (decS y).m.k hv).i,hs:=hv,hd:=(Q'.eff (decS y).m.k hv).hd }:=rfl
      rw [a1,a2,a3] at h9
      exact h9
    rw [e]
    conv=>lhs; rw [h1]
  · have:=h.rd _ q' e (by rw [drop_at hy]; exact Hr.ok q _ q' y _ xs' e hE hL hs hr)
    rwa [← List.append_assoc] at this
end Go.Proofs.YtfjjpbebnoghmaaGreatDoor
