import Derived.Test.YtfjjpbebnoghmaaGreatDoorK00
import Derived.Test.YtfjjpbebnoghmaaGreatDoorK02
import Derived.Laws.StructEq
import Derived.Deep.RegionHeld3
import Derived.Deep.Cut
import Derived.Deep.CutRange
namespace Go.Proofs.YtfjjpbebnoghmaaGreatDoor
open Go.RowKit
theorem of1C:OFC 121 1:=of1T
theorem of2C:OFC 122 2:=of2T
theorem of3C:OFC 123 3:=of3T
theorem of4C:OFC 124 3:=of4T
theorem of5C:OFC 126 37:=of5T
theorem of6C:OFC 127 38:=of6T
theorem NUM.cells {w:World} {f:Nat} {lo hi:Int} {vs:List Value} (h:NUM w f lo hi vs):∃ p q s,vs = numVs p q s∧w.cell? ⟨p,0,none⟩ = some (fnv f)∧w.cell? ⟨q,0,none⟩ = some (.int .i64 lo)∧w.cell? ⟨s,0,none⟩ = some (.int .i64 hi):=by
  obtain ⟨p,q,s,rfl,hp,hq,hs⟩:=h
  exact ⟨p,q,s,rfl,rangeOf (cs:=[fnv f]) hp 0 _ rfl,rangeOf (cs:=[.int .i64 lo]) hq 0 _ rfl,rangeOf (cs:=[.int .i64 hi]) hs 0 _ rfl⟩
theorem en_of1:EN 121:=enters_of Tryz.func121 (by kernel_rfl) rfl
theorem en_of2:EN 122:=enters_of Tryz.func122 (by kernel_rfl) rfl
theorem en_of3:EN 123:=enters_of Tryz.func123 (by kernel_rfl) rfl
theorem en_of4:EN 124:=enters_of Tryz.func124 (by kernel_rfl) rfl
theorem en_of5:EN 126:=enters_of Tryz.func126 (by kernel_rfl) rfl
theorem en_of6:EN 127:=enters_of Tryz.func127 (by kernel_rfl) rfl
theorem en_k1:EN 130:=enters_of Tryz.func130 (by kernel_rfl) rfl
theorem en_k2:EN 131:=enters_of Tryz.func131 (by kernel_rfl) rfl
theorem en_k3:EN 132:=enters_of Tryz.func132 (by kernel_rfl) rfl
theorem en_k4:EN 134:=enters_of Tryz.func134 (by kernel_rfl) rfl
theorem en_always:EN 133:=enters_of Tryz.func133 (by kernel_rfl) rfl
theorem en_o1:EN 135:=enters_of Tryz.func135 (by kernel_rfl) rfl
theorem en_o2:EN 136:=enters_of Tryz.func136 (by kernel_rfl) rfl
theorem en_o3:EN 137:=enters_of Tryz.func137 (by kernel_rfl) rfl
theorem en_o4:EN 138:=enters_of Tryz.func138 (by kernel_rfl) rfl
theorem en_o5:EN 139:=enters_of Tryz.func139 (by kernel_rfl) rfl
theorem en_n1:EN 140:=enters_of Tryz.func140 (by kernel_rfl) rfl
theorem en_n2:EN 141:=enters_of Tryz.func141 (by kernel_rfl) rfl
theorem en_n3:EN 143:=enters_of Tryz.func143 (by kernel_rfl) rfl
theorem en_n4:EN 145:=enters_of Tryz.func145 (by kernel_rfl) rfl
theorem en_r1:EN 147:=enters_of Tryz.func147 (by kernel_rfl) rfl
theorem en_r2:EN 148:=enters_of Tryz.func148 (by kernel_rfl) rfl
theorem en_r3:EN 149:=enters_of Tryz.func149 (by kernel_rfl) rfl
theorem en_r4:EN 150:=enters_of Tryz.func150 (by kernel_rfl) rfl
theorem en_d1:EN 151:=enters_of Tryz.func151 (by kernel_rfl) rfl
theorem en_d2:EN 152:=enters_of Tryz.func152 (by kernel_rfl) rfl
theorem en_d3:EN 153:=enters_of Tryz.func153 (by kernel_rfl) rfl
theorem en_d4:EN 154:=enters_of Tryz.func154 (by kernel_rfl) rfl
theorem en_h1:EN 155:=enters_of Tryz.func155 (by kernel_rfl) rfl
theorem en_layHashes:EN 156:=enters_of Tryz.func156 (by kernel_rfl) rfl
theorem en_takeHashes:EN 157:=enters_of Tryz.func157 (by kernel_rfl) rfl
theorem en_h2:EN 158:=enters_of Tryz.func158 (by kernel_rfl) rfl
theorem en_n5:EN 146:=en85
def BLC (w:World) (c f:Nat) (caps:Array Value):Prop:=∀ (g:Nat) (m:Mv),MB w g m→m.ok→Calls Tryz.prog f (#[ptr g] ++ caps) w fun e w'=>e = .returned (.tuple #[])∧MB w' g (blk c m)∧Besides g w w'
theorem FLD.blank {w:World} {c:Nat} {v0 v1 v2 v3 v4:Value} (h:FLD w c [v0,v1,v2,v3,v4]):∃ f caps,v4 = clo f caps∧EN f∧BLC w c f caps:=by
  unfold FLD at h
  split at h
  · cases h
    refine ⟨_,_,rfl,en_k4,fun g m hm ok=>?_⟩
    exact (k4T w g).mono fun e w' ⟨h1,h2⟩=>⟨h1,by subst h2; exact hm,by subst h2; exact Besides.refl _ _⟩
  · cases h
    refine ⟨_,_,rfl,en_o5,fun g m hm ok=>?_⟩
    exact (o5T w g m hm).mono fun e w' ⟨h1,h2⟩=>⟨h1,by subst h2; exact hm.set 1 _ rfl,by subst h2; exact Besides.setCell _ _ _ _⟩
  · obtain ⟨p,q,s,e,hp,hq,hs⟩:=h.cells
    cases e
    refine ⟨_,_,rfl,en_n5,fun g m hm ok=>?_⟩
    exact (n5T w g p 121 1 m.i hp en_of1 of1C (hm.c1) (hm.free 1)).mono fun e w' ⟨h1,h2⟩=>⟨h1,by subst h2; exact hm.set 1 _ (rfl),by subst h2; exact Besides.setCell _ _ _ _⟩
  · obtain ⟨p,q,s,e,hp,hq,hs⟩:=h.cells
    cases e
    refine ⟨_,_,rfl,en_n5,fun g m hm ok=>?_⟩
    exact (n5T w g p 122 2 m.b hp en_of2 of2C (hm.c2) (hm.free 2)).mono fun e w' ⟨h1,h2⟩=>⟨h1,by subst h2; exact hm.set 2 _ (rfl),by subst h2; exact Besides.setCell _ _ _ _⟩
  · obtain ⟨p,q,s,e,hp,hq,hs⟩:=h.cells
    cases e
    refine ⟨_,_,rfl,en_n5,fun g m hm ok=>?_⟩
    exact (n5T w g p 123 3 m.l hp en_of3 of3C (hm.c3) (hm.free 3)).mono fun e w' ⟨h1,h2⟩=>⟨h1,by subst h2; exact hm.set 3 _ (rfl),by subst h2; exact Besides.setCell _ _ _ _⟩
  · obtain ⟨p,q,s,e,hp,hq,hs⟩:=h.cells
    cases e
    refine ⟨_,_,rfl,en_n5,fun g m hm ok=>?_⟩
    exact (n5T w g p 124 3 m.l hp en_of4 of4C (hm.c3) (hm.free 3)).mono fun e w' ⟨h1,h2⟩=>⟨h1,by subst h2; exact hm.set 3 _ (rfl),by subst h2; exact Besides.setCell _ _ _ _⟩
  · cases h
    refine ⟨_,_,rfl,en_r4,fun g m hm ok=>?_⟩
    exact (r4T w g m ok hm).mono fun e w' ⟨h1,h2⟩=>⟨h1,by subst h2; exact hm.setRoot ok _ (zr_len 32),by subst h2; exact besides_setCells _ _ _ _⟩
  · obtain ⟨p,q,s,e,hp,hq,hs⟩:=h.cells
    cases e
    refine ⟨_,_,rfl,en_n5,fun g m hm ok=>?_⟩
    exact (n5T w g p 126 37 m.ba hp en_of5 of5C (hm.c37 ok) (hm.free 37)).mono fun e w' ⟨h1,h2⟩=>⟨h1,by subst h2; exact hm.set 37 _ (Mv.set37 ok _),by subst h2; exact Besides.setCell _ _ _ _⟩
  · obtain ⟨p,q,s,e,hp,hq,hs⟩:=h.cells
    cases e
    refine ⟨_,_,rfl,en_n5,fun g m hm ok=>?_⟩
    exact (n5T w g p 127 38 m.pr hp en_of6 of6C (hm.c38 ok) (hm.free 38)).mono fun e w' ⟨h1,h2⟩=>⟨h1,by subst h2; exact hm.set 38 _ (Mv.set38 ok _),by subst h2; exact Besides.setCell _ _ _ _⟩
  · cases h
    refine ⟨_,_,rfl,en_d4,fun g m hm ok=>?_⟩
    exact (d4T w g m hm).mono fun e w' ⟨h1,h2⟩=>⟨h1,by subst h2; exact hm.set 4 _ rfl,by subst h2; exact Besides.setCell _ _ _ _⟩
  · cases h
    refine ⟨_,_,rfl,en_h2,fun g m hm ok=>?_⟩
    exact (h2T w g m ok hm).mono fun e w' ⟨h1,h2⟩=>⟨h1,by subst h2; exact hm.set 39 _ (Mv.set39 ok _),by subst h2; exact Besides.setCell _ _ _ _⟩
  · exact absurd h id
def LKC (w:World) (c f:Nat) (caps:Array Value):Prop:=∀ (g:Nat) (m:Mv),MB w g m→m.ok→Calls Tryz.prog f (#[ptr g] ++ caps) w fun e w'=>e = .returned (.bool (lk c m))∧w' = w
theorem FLD.look {w:World} {c:Nat} {v0 v1 v2 v3 v4:Value} (h:FLD w c [v0,v1,v2,v3,v4]):∃ f caps,v3 = clo f caps∧EN f∧LKC w c f caps:=by
  unfold FLD at h
  split at h
  · cases h
    refine ⟨_,_,rfl,en_always,fun g m hm ok=>?_⟩
    exact alwaysT w g
  · cases h
    refine ⟨_,_,rfl,en_o4,fun g m hm ok=>?_⟩
    exact o4T w g m hm
  · obtain ⟨p,q,s,e,hp,hq,hs⟩:=h.cells
    cases e
    refine ⟨_,_,rfl,en_n4,fun g m hm ok=>?_⟩
    exact n4T w g p q s 121 1 m.i _ _ hp hq hs en_of1 of1C (hm.c1)
  · obtain ⟨p,q,s,e,hp,hq,hs⟩:=h.cells
    cases e
    refine ⟨_,_,rfl,en_n4,fun g m hm ok=>?_⟩
    exact n4T w g p q s 122 2 m.b _ _ hp hq hs en_of2 of2C (hm.c2)
  · obtain ⟨p,q,s,e,hp,hq,hs⟩:=h.cells
    cases e
    refine ⟨_,_,rfl,en_n4,fun g m hm ok=>?_⟩
    exact n4T w g p q s 123 3 m.l _ _ hp hq hs en_of3 of3C (hm.c3)
  · obtain ⟨p,q,s,e,hp,hq,hs⟩:=h.cells
    cases e
    refine ⟨_,_,rfl,en_n4,fun g m hm ok=>?_⟩
    exact n4T w g p q s 124 3 m.l _ _ hp hq hs en_of4 of4C (hm.c3)
  · cases h
    refine ⟨_,_,rfl,en_always,fun g m hm ok=>?_⟩
    exact alwaysT w g
  · obtain ⟨p,q,s,e,hp,hq,hs⟩:=h.cells
    cases e
    refine ⟨_,_,rfl,en_n4,fun g m hm ok=>?_⟩
    exact n4T w g p q s 126 37 m.ba _ _ hp hq hs en_of5 of5C (hm.c37 ok)
  · obtain ⟨p,q,s,e,hp,hq,hs⟩:=h.cells
    cases e
    refine ⟨_,_,rfl,en_n4,fun g m hm ok=>?_⟩
    exact n4T w g p q s 127 38 m.pr _ _ hp hq hs en_of6 of6C (hm.c38 ok)
  · cases h
    refine ⟨_,_,rfl,en_always,fun g m hm ok=>?_⟩
    exact alwaysT w g
  · cases h
    refine ⟨_,_,rfl,en_always,fun g m hm ok=>?_⟩
    exact alwaysT w g
  · exact absurd h id
def SZC (w:World) (c f:Nat) (caps:Array Value):Prop:=∀ (g:Nat) (m:Mv),MB w g m→m.ok→sln m.h≤140737488351232→Calls Tryz.prog f (#[ptr g] ++ caps) w fun e w'=>e = .returned (.int .i64 (sz c m:Nat))∧w' = w
theorem FLD.siz {w:World} {c:Nat} {v0 v1 v2 v3 v4:Value} (h:FLD w c [v0,v1,v2,v3,v4]):∃ f caps,v0 = clo f caps∧EN f∧SZC w c f caps:=by
  unfold FLD at h
  split at h
  · cases h
    refine ⟨_,_,rfl,en_k1,fun g m hm ok hh=>?_⟩
    exact k1T w g
  · cases h
    refine ⟨_,_,rfl,en_o1,fun g m hm ok hh=>?_⟩
    exact o1T w g
  · obtain ⟨p,q,s,e,hp,hq,hs⟩:=h.cells
    cases e
    refine ⟨_,_,rfl,en_n1,fun g m hm ok hh=>?_⟩
    exact n1T w g
  · obtain ⟨p,q,s,e,hp,hq,hs⟩:=h.cells
    cases e
    refine ⟨_,_,rfl,en_n1,fun g m hm ok hh=>?_⟩
    exact n1T w g
  · obtain ⟨p,q,s,e,hp,hq,hs⟩:=h.cells
    cases e
    refine ⟨_,_,rfl,en_n1,fun g m hm ok hh=>?_⟩
    exact n1T w g
  · obtain ⟨p,q,s,e,hp,hq,hs⟩:=h.cells
    cases e
    refine ⟨_,_,rfl,en_n1,fun g m hm ok hh=>?_⟩
    exact n1T w g
  · cases h
    refine ⟨_,_,rfl,en_r1,fun g m hm ok hh=>?_⟩
    exact r1T w g
  · obtain ⟨p,q,s,e,hp,hq,hs⟩:=h.cells
    cases e
    refine ⟨_,_,rfl,en_n1,fun g m hm ok hh=>?_⟩
    exact n1T w g
  · obtain ⟨p,q,s,e,hp,hq,hs⟩:=h.cells
    cases e
    refine ⟨_,_,rfl,en_n1,fun g m hm ok hh=>?_⟩
    exact n1T w g
  · cases h
    refine ⟨_,_,rfl,en_d1,fun g m hm ok hh=>?_⟩
    obtain ⟨a,n,cc,hd⟩:=ok.d
    have e:sz 10 m = n:=by simp [sz,sln,hd]
    rw [e]
    exact d1T w g a n cc (by rw [← hd]; exact hm.c4)
  · cases h
    refine ⟨_,_,rfl,en_h1,fun g m hm ok hh=>?_⟩
    obtain ⟨a,n,cc,hd⟩:=ok.h
    have e:sz 11 m = 32 * n:=by simp [sz,sln,hd]
    have hn:n≤140737488351232:=by rw [hd] at hh; exact hh
    rw [e]
    have:=h1T w g a n cc hn (by rw [← hd]; exact hm.c39 ok)
    simpa using this
  · exact absurd h id
abbrev bxw (w:World) (vs:List Value):World:=(w.alloc (.cells nil5 152)).setRow w.heap.size vs.toArray
theorem FLD.one {w:World} {c:Nat} {vs:List Value} (h:FLD w c vs):vs.toArray.all (·.oneCell') = true:=by
  unfold FLD at h
  split at h
  all_goals first |(subst h; simp [Value.oneCell']) |(obtain ⟨p,q,s,rfl,_⟩:=h; simp [numVs,Value.oneCell']) | exact absurd h id
theorem bxw_below (w:World) (vs:List Value):Below w.heap.size w (bxw w vs):=belowSetRow ((Below.refl _ _).alloc (Nat.le_refl _) _) (Nat.le_refl _) _
theorem bxw_heap (w:World) (vs:List Value):(bxw w vs).heap[w.heap.size]? = some (.cells vs.toArray 152 (0,0)):=heapSetRow _ _ _ _ _ (heapNew _ _)
def lks (cs:List Nat) (m:Mv):Bool:=cs.all fun c=>lk c m
set_option maxHeartbeats 1000000 in
set_option maxRecDepth 100000 in
theorem allowedT (w:World) (v:Value) (cs:List Nat) (g:Nat) (m:Mv) (hm:MB w g m) (ok:m.ok) (hf:FS w v cs) (hl:cs.length < 100) :
    Calls Tryz.prog 97 #[v,ptr g] w fun e w'=>e = .returned (.bool (lks cs m))∧Below w.heap.size w w':=by
  have HF:Hid (FS w v cs∧MB w g m∧m.ok):=⟨hf,hm,ok⟩
  obtain ⟨a,cap,rfl,hfa⟩:=hf
  clear hm ok
  go_enter Tryz.func97,Tryz.ntmps97
  go_wp2
  generalize hn:cs.length = len at *
  have HN:Hid (cs.length = len):=hn
  clear hn
  go_loopw [9] (fun t wr=>∃ n:Nat,n≤len∧t = .int .i64 n∧Hid (lks (cs.take n) m = true)∧Hid (Below w.heap.size w wr)) (fun t _=>len - (intOf t).toNat)
  case atStart=>exact ⟨0,by omega,rfl,by simp [lks,Hid],Below.refl _ _⟩
  case round =>
    obtain ⟨n,hn,rfl,hall,hb⟩:=hrel
    by_cases hlt:n < len
    · have hl2:n < cs.length:=by rw [HN.out]; exact hlt
      have hx:cs[n]? = some cs[n]:=List.getElem?_eq_getElem hl2
      generalize cs[n] = c at hx
      rcases hfa with h | ⟨G,cur,rfl,hG,hfa⟩
      · rw [h] at hl2; simp at hl2
      obtain ⟨vs,hv,hr⟩:=hfa n c hx
      obtain ⟨v0,v1,v2,v3,v4,rfl⟩:=hv.len
      have hGlt:=(Array.getElem?_eq_some_iff.1 hG).1
      have hr':wr.rangeAt G (n * 5) [v0,v1,v2,v3,v4]:=fun j y hj=>(hb.out.cell (p:=⟨G,n * 5 + j,none⟩) hGlt).trans (hr j y hj)
      have hi5:(Tryz.prog.info? 152).map (·.size) = some [v0,v1,v2,v3,v4].length:=info_field
      have hi5':(Tryz.prog.info? 152).map (·.size) = some ([v0,v1,v2,v3,v4]:List Value).toArray.size:=info_field
      have hone:([v0,v1,v2,v3,v4]:List Value).toArray.all (·.oneCell') = true:=hv.one
      have hb2:Below w.heap.size w (bxw wr [v0,v1,v2,v3,v4]):=hb.out.trans ((bxw_below _ _).mono hb.out.size)
      have hv2:FLD (bxw wr [v0,v1,v2,v3,v4]) c [v0,v1,v2,v3,v4]:=hv.below hb2
      obtain ⟨f,caps,rfl,he,hc⟩:=hv2.look
      have HC:Hid (LKC (bxw wr [v0,v1,v2,clo f caps,v4]) c f caps∧Below w.heap.size w (bxw wr [v0,v1,v2,clo f caps,v4])):=⟨hc,hb2⟩
      have h3:(bxw wr [v0,v1,v2,clo f caps,v4]).cell? ⟨wr.heap.size,3,none⟩ = some (clo f caps):=rangeOf (bxw_heap _ _) 3 _ rfl
      have hg0:=heapNew wr (.cells nil5 152)
      clear hc hb2 hv2 hv hr hfa
      go_wp2_with (first |(refine wpList_load_mid rfl 152 _ rfl G (n * 5) rfl _ _ hr' Tryz.underlying152 rfl hi5 ?_) |(refine wpList_store_row rfl 152 _ _ rfl wr.heap.size _ rfl rfl 152 nil5 hg0 hi5' rfl hone ?_))
      refine (HC.out.1 g m (HF.out.2.1.below HC.out.2) HF.out.2.2).mono ?_
      rintro e w2 ⟨rfl,rfl⟩
      have HB:Hid (Below w.heap.size w (bxw wr [v0,v1,v2,clo f caps,v4])):=HC.out.2
      clear HC h3 hg0
      by_cases hk:lk c m = true
      · have ht:cs.take (n + 1) = cs.take n ++ [c]:=by rw [List.take_add_one,hx]; rfl
        rw [hk]
        go_wp2
        refine ⟨⟨n + 1,by omega,by go_num,?_,HB.out⟩,by simp [intOf]; omega⟩
        have h0:=hall.out
        unfold lks at h0 ⊢
        unfold Hid
        rw [ht,List.all_append,h0]
        simp [hk]
      · have hk':lk c m = false:=by simpa using hk
        have HE:Hid (lks cs m = false):=by
          unfold lks Hid
          rw [List.all_eq_false]
          exact ⟨c,List.mem_of_getElem? hx,by simp [hk']⟩
        rw [hk']
        clear hk hk'
        go_wp2
        go_ret
        exact ⟨by rw [HE.out]; rfl,HB.out⟩
    · go_wp2
      go_ret
      refine ⟨?_,hb.out⟩
      have h0:=hall.out
      rw [List.take_of_length_le (by have:=HN.out; omega)] at h0
      rw [h0]; rfl
theorem eqItems_bytes (w:World) (d:Nat) (l m:List UInt8) (hlm:l.length = m.length):∀ js:List Nat,(∀ j ∈ js,j < l.length)→(Op.eqItems (d + 1) 5 1 (bc l) (bc m) js).run Tryz.prog w = .ok (js.all fun j=>byt l j == byt m j) w
  | [],_=>by simp [Op.eqItems]
  | j :: js,h=>by
    have hj:j < l.length:=h j (by simp)
    have hv:(bc l)[j]? = some (.int .u8 ((byt l j).toNat:Int)):=by simp [bc,Lib.byteCells,hj,getD_byt l j hj]
    have hv2:(bc m)[j]? = some (.int .u8 ((byt m j).toNat:Int)):=by simp [bc,Lib.byteCells,hlm ▸ hj,getD_byt m j (hlm ▸ hj)]
    have ih:=eqItems_bytes w d l m hlm js (fun i hi=>h i (by simp [hi]))
    by_cases he:byt l j = byt m j
    · simp [Op.eqItems,part,isAgg,run_underlying Tryz.underlying5,hv,hv2,Op.equalIn,ih,he]
    · have he2:¬ ((byt l j).toNat:Int) = ((byt m j).toNat:Int):=fun h=>he (by
        have:(byt l j).toNat = (byt m j).toNat:=by omega
        exact UInt8.toNat_inj.1 this)
      simp [Op.eqItems,part,isAgg,run_underlying Tryz.underlying5,hv,hv2,Op.equalIn]
      rw [if_neg he2,show (byt l j == byt m j) = false from beq_eq_false_iff_ne.2 he]
      rfl
theorem info5':∃ i,Tryz.prog.info? 5 = some i∧Tryz.prog.cellsOf 5 = 1:=by
  have h:(Tryz.prog.info? 5).isSome = true:=by kernel_rfl
  obtain ⟨i,hi⟩:=Option.isSome_iff_exists.1 h
  exact ⟨i,hi,by kernel_rfl⟩
theorem all_byt (l m:List UInt8) (n:Nat) (hl:l.length = n) (hm:m.length = n):((List.range n).all fun j=>byt l j == byt m j) = decide (l = m):=by
  by_cases h:l = m
  · subst h; simp
  · rw [decide_eq_false h,List.all_eq_false]
    refine Classical.byContradiction fun hno=>h ?_
    apply List.ext_getElem?
    intro i
    by_cases hi:i < n
    · have:byt l i = byt m i:=Classical.byContradiction fun hne=>hno ⟨i,List.mem_range.2 hi,by simpa using hne⟩
      rw [getD_byt l i (by omega),getD_byt m i (by omega)] at this
      rw [List.getElem?_eq_getElem (by omega),List.getElem?_eq_getElem (by omega),this]
    · rw [List.getElem?_eq_none (by omega),List.getElem?_eq_none (by omega)]
theorem equal_hash (w:World) (d:Nat) (l m:List UInt8) (hl:l.length = 32) (hm:m.length = 32):(Op.equalIn (d + 2) 25 (.agg (bc l)) (.agg (bc m))).run Tryz.prog w = .ok (decide (l = m)) w:=by
  obtain ⟨i,hi,hc⟩:=info5'
  rw [run_equalIn_array w (d + 1) _ _ Tryz.underlying25 hi,hc,eqItems_bytes w d l m (by omega) _ (fun j hj=>by rw [hl]; exact List.mem_range.1 hj),all_byt l m 32 hl hm]
theorem wpList_load_root {ops:Array Oper} {rest:List Oper} {o:Oper} {a:Act} {w:World} {Q:Exit→Act→World→Prop} (hw:Region.wanted o (yielded ops a.tmps) = true) (x:Operand) (ho:o.op = .load 25 x)
    (g:Nat) (hx:a.eval x = .pointer (some ⟨g,5,none⟩)) (r:List UInt8) (hg:w.rangeAt g 5 (Lib.byteCells r)) (hl:r.length = 32)
    (h:wpList Tryz.prog ops Q rest (a.put o.dst (.agg (bc r))) w):wpList Tryz.prog ops Q (o :: rest) a w:=
  wpList_step fun K hK=>by
    rw [if_pos hw]
    exact wp_load_mid 25 x ho g 5 hx (Lib.byteCells r) _ hg Tryz.underlying25 rfl (by rw [bcl_len,hl]; exact info_hash) (hK _ _ h)
def blks (cs:List Nat) (m:Mv):Mv:=cs.foldl (fun m c=>blk c m) m
theorem blks_ok (cs:List Nat) (m:Mv) (h:m.ok):(blks cs m).ok:=by
  induction cs generalizing m with
  | nil=>exact h
  | cons c l ih=>exact ih (blk c m) (blk_ok h c)
def frn (m:Mv):Bool:=m.i != 0 || m.b != 0 || m.l != 0 || m.ba != 0 || m.pr != 0 || m.r != zr 32 || decide (0 < sln m.d) || decide (0 < sln m.h)
set_option maxHeartbeats 1000000 in
set_option maxRecDepth 100000 in
theorem foreignT (w:World) (v:Value) (cs:List Nat) (m:Mv) (ok:m.ok) (hf:FS w v cs) (hl:cs.length < 100) :
    Calls Tryz.prog 104 #[v,.agg m.cs] w fun e w'=>e = .returned (.bool (frn (blks cs m)))∧Below w.heap.size w w':=by
  have hm:MB (w.alloc (.cells m.cs 40)) w.heap.size m:=heapNew w _
  have b0:Below w.heap.size w (w.alloc (.cells m.cs 40)):=(Below.refl _ _).alloc (Nat.le_refl _) _
  have hsz0:w.heap.size < (w.alloc (.cells m.cs 40)).heap.size:=by simp
  have HF:Hid (FS (w.alloc (.cells m.cs 40)) v cs∧MB (w.alloc (.cells m.cs 40)) w.heap.size m∧m.ok∧Below w.heap.size w (w.alloc (.cells m.cs 40))):=⟨hf.below b0,hm,ok,b0⟩
  obtain ⟨a,cap,rfl,hfa⟩:=hf.below b0
  clear hf b0 hm ok
  go_enter Tryz.func104,Tryz.ntmps104
  go_wp2
  generalize w.alloc (.cells m.cs 40) = w0 at *
  generalize hg:w.heap.size = g at *
  generalize m.cs = mcs
  generalize hn:cs.length = len at *
  have HN:Hid (cs.length = len∧w.heap.size = g):=⟨hn,hg⟩
  clear hn hg hfa
  go_loopw [10] (fun t wr=>∃ n:Nat,n≤len∧t = .int .i64 n∧Hid (MB wr g (blks (cs.take n) m)∧FS wr (.slice a len cap) cs∧Besides g w0 wr)) (fun t _=>len - (intOf t).toNat)
  case atStart=>exact ⟨0,by omega,rfl,HF.out.2.1,HF.out.1,Besides.refl _ _⟩
  case round =>
    obtain ⟨n,hn,rfl,hI⟩:=hrel
    by_cases hlt:n < len
    · have hl2:n < cs.length:=by rw [HN.out.1]; exact hlt
      have hx:cs[n]? = some cs[n]:=List.getElem?_eq_getElem hl2
      generalize cs[n] = c at hx
      obtain ⟨a',cap',e,hfa⟩:=hI.out.2.1
      simp only [Value.slice.injEq] at e
      obtain ⟨rfl, -,rfl⟩:=e
      rcases hfa with h | ⟨G,cur,rfl,hG,hfa⟩
      · rw [h] at hl2; simp at hl2
      obtain ⟨vs,hv,hr'⟩:=hfa n c hx
      obtain ⟨v0,v1,v2,v3,v4,rfl⟩:=hv.len
      have hi5:(Tryz.prog.info? 152).map (·.size) = some [v0,v1,v2,v3,v4].length:=info_field
      have hi5':(Tryz.prog.info? 152).map (·.size) = some ([v0,v1,v2,v3,v4]:List Value).toArray.size:=info_field
      have hone:([v0,v1,v2,v3,v4]:List Value).toArray.all (·.oneCell') = true:=hv.one
      have hb2:=bxw_below wr [v0,v1,v2,v3,v4]
      have hv2:FLD (bxw wr [v0,v1,v2,v3,v4]) c [v0,v1,v2,v3,v4]:=hv.below hb2
      have hm2:MB (bxw wr [v0,v1,v2,v3,v4]) g (blks (cs.take n) m):=hI.out.1.below hb2
      have hf2:=hI.out.2.1.below hb2
      have hs2:=hI.out.2.2.trans (Besides.of_below (cb:=g) hb2)
      obtain ⟨f,caps,rfl,he,hc⟩:=hv2.blank
      have HC:Hid (BLC (bxw wr [v0,v1,v2,v3,clo f caps]) c f caps∧MB (bxw wr [v0,v1,v2,v3,clo f caps]) g (blks (cs.take n) m)∧FS (bxw wr [v0,v1,v2,v3,clo f caps]) (.slice (some ⟨G,0,none⟩) len cap) cs∧Besides g w0 (bxw wr [v0,v1,v2,v3,clo f caps])):=⟨hc,hm2,hf2,hs2⟩
      have h3:(bxw wr [v0,v1,v2,v3,clo f caps]).cell? ⟨wr.heap.size,4,none⟩ = some (clo f caps):=rangeOf (bxw_heap _ _) 4 _ rfl
      have hg0:=heapNew wr (.cells nil5 152)
      clear hc hb2 hv2 hv hfa hm2 hf2 hs2 hI
      go_wp2_with (first |(refine wpList_load_mid rfl 152 _ rfl G (n * 5) rfl _ _ hr' Tryz.underlying152 rfl hi5 ?_) |(refine wpList_store_row rfl 152 _ _ rfl wr.heap.size _ rfl rfl 152 nil5 hg0 hi5' rfl hone ?_))
      refine (HC.out.1 g _ HC.out.2.1 (blks_ok _ _ HF.out.2.2.1)).mono ?_
      rintro e w2 ⟨rfl,h1,h2⟩
      have ht:cs.take (n + 1) = cs.take n ++ [c]:=by rw [List.take_add_one,hx]; rfl
      have HE:Hid (MB w2 g (blks (cs.take (n + 1)) m)∧FS w2 (.slice (some ⟨G,0,none⟩) len cap) cs∧Besides g w0 w2):=by
        refine ⟨?_,?_,HC.out.2.2.2.trans h2⟩
        · rw [ht]
          have:blks (cs.take n ++ [c]) m = blk c (blks (cs.take n) m):=by simp [blks]
          rw [this]; exact h1
        · exact HC.out.2.2.1.keep h2 HC.out.2.1
      clear h1 h2 HC h3 hg0 hr' hG
      go_wp2
      exact ⟨⟨n + 1,by omega,by go_num,HE.out⟩,by simp [intOf]; omega⟩
    · have HE:Hid (MB wr g (blks cs m)∧(blks cs m).ok∧Below g w wr):=by
        have:=hI.out.1
        rw [List.take_of_length_le (by have:=HN.out.1; omega)] at this
        exact ⟨this,blks_ok _ _ HF.out.2.2.1,hI.out.2.2.below HF.out.2.2.2 (Nat.le_refl _) (by omega)⟩
      clear hI
      obtain ⟨M,hM⟩:∃ M,blks cs m = M:=⟨_,rfl⟩
      rw [hM] at HE
      have HM:Hid (blks cs m = M):=hM
      clear hM
      have c1:=HE.out.1.c1
      have c2:=HE.out.1.c2
      have c3:=HE.out.1.c3
      have c37:=HE.out.1.c37 HE.out.2.1
      have c38:=HE.out.1.c38 HE.out.2.1
      have c4:=HE.out.1.c4
      have c39:=HE.out.1.c39 HE.out.2.1
      have hrt:=HE.out.1.root
      have hne:∀ u:World,(Op.equalIn 10000 25 (.agg (bc M.r)) (.agg #[Value.int .u8 0,.int .u8 0,.int .u8 0,.int .u8 0,.int .u8 0,.int .u8 0,.int .u8 0,.int .u8 0,.int .u8 0,.int .u8 0,.int .u8 0,.int .u8 0,.int .u8 0,.int .u8 0,.int .u8 0,.int .u8 0,.int .u8 0,.int .u8 0,.int .u8 0,.int .u8 0,.int .u8 0,.int .u8 0,.int .u8 0,.int .u8 0,.int .u8 0,.int .u8 0,.int .u8 0,.int .u8 0,.int .u8 0,.int .u8 0,.int .u8 0,.int .u8 0])).run Tryz.prog u = .ok (decide (M.r = zr 32)) u:=fun u=>equal_hash u 9998 M.r (zr 32) HE.out.2.1.r (zr_len 32)
      obtain ⟨ad,nd,cd,hd⟩:=HE.out.2.1.d
      obtain ⟨ah,nh,ch,hh⟩:=HE.out.2.1.h
      rw [hd] at c4
      rw [hh] at c39
      have HQ:Hid (frn M = (M.i != 0 || M.b != 0 || M.l != 0 || M.ba != 0 || M.pr != 0 || M.r != zr 32 || decide (0 < nd) || decide (0 < nh))∧True∧M.r.length = 32):=by
        refine ⟨?_,trivial,HE.out.2.1.r⟩
        unfold frn; rw [hd,hh]; rfl
      clear hd hh
      by_cases q1:M.i = 0
      · by_cases q2:M.b = 0
        · by_cases q3:M.l = 0
          · by_cases q4:M.ba = 0
            · by_cases q5:M.pr = 0
              · by_cases q6:M.r = zr 32
                · rw [decide_eq_true q6] at hne
                  have H6:Hid (M.r = zr 32):=q6
                  clear q6
                  by_cases q7:nd = 0
                  · by_cases q8:nh = 0
                    · go_wp2_with (first |(refine wpList_load_root rfl _ rfl g rfl M.r hrt HQ.out.2.2 ?_))
                      go_ret
                      exact ⟨by rw [HM.out,HQ.out.1]; simp [q1,q2,q3,q4,q5,H6.out,q7,q8],HN.out.2 ▸ HE.out.2.2⟩
                    · go_wp2_with (first |(refine wpList_load_root rfl _ rfl g rfl M.r hrt HQ.out.2.2 ?_))
                      go_ret
                      exact ⟨by rw [HM.out,HQ.out.1]; simp [q1,q2,q3,q4,q5,H6.out,q7],HN.out.2 ▸ HE.out.2.2⟩
                  · go_wp2_with (first |(refine wpList_load_root rfl _ rfl g rfl M.r hrt HQ.out.2.2 ?_))
                    go_ret
                    exact ⟨by rw [HM.out,HQ.out.1]; simp [q1,q2,q3,q4,q5,H6.out]; omega,HN.out.2 ▸ HE.out.2.2⟩
                · rw [decide_eq_false q6] at hne
                  go_wp2_with (first |(refine wpList_load_root rfl _ rfl g rfl M.r hrt HQ.out.2.2 ?_))
                  go_ret
                  exact ⟨by rw [HM.out,HQ.out.1]; simp [q1,q2,q3,q4,q5,q6],HN.out.2 ▸ HE.out.2.2⟩
              · go_wp2_with (first |(refine wpList_load_root rfl _ rfl g rfl M.r hrt HQ.out.2.2 ?_))
                go_ret
                exact ⟨by rw [HM.out,HQ.out.1]; simp [q1,q2,q3,q4,q5],HN.out.2 ▸ HE.out.2.2⟩
            · go_wp2_with (first |(refine wpList_load_root rfl _ rfl g rfl M.r hrt HQ.out.2.2 ?_))
              go_ret
              exact ⟨by rw [HM.out,HQ.out.1]; simp [q1,q2,q3,q4],HN.out.2 ▸ HE.out.2.2⟩
          · go_wp2_with (first |(refine wpList_load_root rfl _ rfl g rfl M.r hrt HQ.out.2.2 ?_))
            go_ret
            exact ⟨by rw [HM.out,HQ.out.1]; simp [q1,q2,q3],HN.out.2 ▸ HE.out.2.2⟩
        · go_wp2_with (first |(refine wpList_load_root rfl _ rfl g rfl M.r hrt HQ.out.2.2 ?_))
          go_ret
          exact ⟨by rw [HM.out,HQ.out.1]; simp [q1,q2],HN.out.2 ▸ HE.out.2.2⟩
      · go_wp2_with (first |(refine wpList_load_root rfl _ rfl g rfl M.r hrt HQ.out.2.2 ?_))
        go_ret
        exact ⟨by rw [HM.out,HQ.out.1]; simp [q1],HN.out.2 ▸ HE.out.2.2⟩
def szs (cs:List Nat) (m:Mv):Nat:=(cs.map fun c=>sz c m).sum
theorem sz_le (c:Nat) (m:Mv) (hh:sln m.h≤140737488351232) (hd:sln m.d≤140737488351232):sz c m≤4503599627239424:=by
  unfold sz
  split <;> omega
theorem szs_le (cs:List Nat) (m:Mv) (hh:sln m.h≤140737488351232) (hd:sln m.d≤140737488351232):szs cs m≤cs.length * 4503599627239424:=by
  induction cs with
  | nil=>simp [szs]
  | cons c l ih =>
    have:=sz_le c m hh hd
    have e:szs (c :: l) m = sz c m + szs l m:=rfl
    rw [e,List.length_cons,Nat.succ_mul]
    omega
set_option maxHeartbeats 1000000 in
set_option maxRecDepth 100000 in
theorem sizeT (w:World) (v:Value) (cs:List Nat) (g:Nat) (m:Mv) (hm:MB w g m) (ok:m.ok) (hf:FS w v cs) (hl:cs.length < 100) (hh:sln m.h≤140737488351232) (hd:sln m.d≤140737488351232) :
    Calls Tryz.prog 105 #[v,ptr g] w fun e w'=>e = .returned (.int .i64 (szs cs m:Nat))∧Below w.heap.size w w':=by
  have HF:Hid (FS w v cs∧MB w g m∧m.ok∧sln m.h≤140737488351232∧sln m.d≤140737488351232):=⟨hf,hm,ok,hh,hd⟩
  obtain ⟨a,cap,rfl,hfa⟩:=hf
  clear hm ok hh hd
  go_enter Tryz.func105,Tryz.ntmps105
  go_wp2
  generalize hn:cs.length = len at *
  have HN:Hid (cs.length = len):=hn
  clear hn
  go_loopw [5,10] (fun u t wr=>∃ n:Nat,n≤len∧t = .int .i64 n∧u = .int .i64 (szs (cs.take n) m:Nat)∧Hid (Below w.heap.size w wr)) (fun _ t _=>len - (intOf t).toNat)
  case atStart=>exact ⟨0,by omega,rfl,rfl,Below.refl _ _⟩
  case round =>
    obtain ⟨n,hn,rfl,rfl,hb⟩:=hrel
    by_cases hlt:n < len
    · have hl2:n < cs.length:=by rw [HN.out]; exact hlt
      have hx:cs[n]? = some cs[n]:=List.getElem?_eq_getElem hl2
      generalize cs[n] = c at hx
      rcases hfa with h | ⟨G,cur,rfl,hG,hfa⟩
      · rw [h] at hl2; simp at hl2
      obtain ⟨vs,hv,hr⟩:=hfa n c hx
      obtain ⟨v0,v1,v2,v3,v4,rfl⟩:=hv.len
      have hGlt:=(Array.getElem?_eq_some_iff.1 hG).1
      have hr':wr.rangeAt G (n * 5) [v0,v1,v2,v3,v4]:=fun j y hj=>(hb.out.cell (p:=⟨G,n * 5 + j,none⟩) hGlt).trans (hr j y hj)
      have hi5:(Tryz.prog.info? 152).map (·.size) = some [v0,v1,v2,v3,v4].length:=info_field
      have hi5':(Tryz.prog.info? 152).map (·.size) = some ([v0,v1,v2,v3,v4]:List Value).toArray.size:=info_field
      have hone:([v0,v1,v2,v3,v4]:List Value).toArray.all (·.oneCell') = true:=hv.one
      have hb2:Below w.heap.size w (bxw wr [v0,v1,v2,v3,v4]):=hb.out.trans ((bxw_below _ _).mono hb.out.size)
      have hv2:FLD (bxw wr [v0,v1,v2,v3,v4]) c [v0,v1,v2,v3,v4]:=hv.below hb2
      obtain ⟨f,caps,rfl,he,hc⟩:=hv2.siz
      have HC:Hid (SZC (bxw wr [clo f caps,v1,v2,v3,v4]) c f caps∧Below w.heap.size w (bxw wr [clo f caps,v1,v2,v3,v4])):=⟨hc,hb2⟩
      have h3:(bxw wr [clo f caps,v1,v2,v3,v4]).cell? ⟨wr.heap.size,0,none⟩ = some (clo f caps):=rangeOf (bxw_heap _ _) 0 _ rfl
      have hg0:=heapNew wr (.cells nil5 152)
      clear hc hb2 hv2 hv hr hfa
      go_wp2_with (first |(refine wpList_load_mid rfl 152 _ rfl G (n * 5) rfl _ _ hr' Tryz.underlying152 rfl hi5 ?_) |(refine wpList_store_row rfl 152 _ _ rfl wr.heap.size _ rfl rfl 152 nil5 hg0 hi5' rfl hone ?_))
      refine (HC.out.1 g m (HF.out.2.1.below HC.out.2) HF.out.2.2.1 HF.out.2.2.2.1).mono ?_
      rintro e w2 ⟨rfl,rfl⟩
      have HB:Hid (Below w.heap.size w (bxw wr [clo f caps,v1,v2,v3,v4])):=HC.out.2
      clear HC h3 hg0
      have ht:cs.take (n + 1) = cs.take n ++ [c]:=by rw [List.take_add_one,hx]; rfl
      have hs:=sz_le c m HF.out.2.2.2.1 HF.out.2.2.2.2
      have hs2:=szs_le (cs.take n) m HF.out.2.2.2.1 HF.out.2.2.2.2
      have hs3:(cs.take n).length≤100:=by rw [List.length_take]; omega
      have HS:Hid (szs (cs.take (n + 1)) m = szs (cs.take n) m + sz c m):=by unfold szs Hid; rw [ht]; simp
      have hs4:szs (cs.take n) m≤450359962723942400:=Nat.le_trans hs2 (Nat.mul_le_mul_right _ hs3)
      clear hs2 hs3 ht
      generalize szs (cs.take n) m = S at *
      generalize sz c m = s1 at *
      go_wp2
      refine ⟨⟨n + 1,by omega,by go_num,?_,HB.out⟩,by simp [intOf]; omega⟩
      rw [HS.out]; go_num
    · have HE:Hid (szs (cs.take n) m = szs cs m):=by
        unfold Hid
        rw [List.take_of_length_le (by have:=HN.out; omega)]
      go_wp2
      go_ret
      exact ⟨by rw [← HE.out]; rfl,hb.out⟩
def Kr.cs (r:Kr):List Nat:=r.fs.takeWhile (· != 0)
def valE (m:Mv):Int:=
  match rowFor m.k with
  | none=>110
  | some r=>if frn (blks r.cs m) then 113 else if lks r.cs m then (if r.fit (szs r.cs m:Nat) then 0 else 111) else 112
theorem rowFor_mem {k:Int} {r:Kr} (h:rowFor k = some r):r ∈ rws∧r.k = k:=by
  unfold rowFor at h
  have h1:=List.mem_of_find?_eq_some h
  have h2:=List.find?_some h
  exact ⟨h1,by simpa using h2⟩
theorem rws_all:∀ r ∈ rws,r.fs.length = 7∧(∀ c ∈ r.fs,c≤11)∧1≤r.st∧0≤r.le∧r.le≤1000000∧r.cs.length≤7:=by decide
theorem MB.cells {w:World} {g:Nat} {m:Mv} (h:MB w g m):w.heap[g]? = some (.cells m.cs 40 (0,0)):=h
def CKR (w w':World) (m:Mv) (e:Ending):Prop:=
  ∃ v,e = .returned (.tuple #[v,.int .i64 (valE m)])∧(valE m = 0→∃ r,rowFor m.k = some r∧FS w' v r.cs∧lks r.cs m = true∧r.fit (szs r.cs m:Nat) = true∧frn (blks r.cs m) = false)∧Below w.heap.size w w'
set_option maxHeartbeats 1000000 in
set_option maxRecDepth 100000 in
theorem checkedT (w:World) (m:Mv) (ok:m.ok) (hk:KT w) (hh:sln m.h≤140737488351232) (hd:sln m.d≤140737488351232) :
    Calls Tryz.prog 84 #[.agg m.cs] w fun e w'=>CKR w w' m e:=by
  have hm:MB (w.alloc (.cells m.cs 40)) w.heap.size m:=heapNew w _
  have b0:Below w.heap.size w (w.alloc (.cells m.cs 40)):=(Below.refl _ _).alloc (Nat.le_refl _) _
  have lt0:w.heap.size < (w.alloc (.cells m.cs 40)).heap.size:=by simp
  have c0:=hm.c0
  have HA:Hid (KT (w.alloc (.cells m.cs 40))∧MB (w.alloc (.cells m.cs 40)) w.heap.size m∧Below w.heap.size w (w.alloc (.cells m.cs 40))∧w.heap.size < (w.alloc (.cells m.cs 40)).heap.size):=⟨hk.below b0 hk.pos,hm,b0,lt0⟩
  have HO:Hid (m.ok∧sln m.h≤140737488351232∧sln m.d≤140737488351232):=⟨ok,hh,hd⟩
  clear hm b0 lt0 ok hk hh hd
  go_enter Tryz.func84,Tryz.ntmps84
  go_wp2_with fail
  generalize w.alloc (.cells m.cs 40) = w0 at *
  refine (rowOfT w0 m.k HA.out.1).mono ?_
  rintro e w1 ⟨rfl,b1⟩
  have HB:Hid (MB w1 w.heap.size m∧Below w.heap.size w w1∧w.heap.size < w1.heap.size):=⟨HA.out.2.1.below b1,HA.out.2.2.1.trans (b1.mono (Nat.le_of_lt HA.out.2.2.2)),Nat.lt_of_lt_of_le HA.out.2.2.2 b1.size⟩
  clear HA b1 c0
  have HG:=heapNew w1 (.cells z11 141)
  cases hrf:rowFor m.k with
  | none =>
    have HE:Hid (valE m = 110):=by unfold Hid valE; rw [hrf]
    have hiz:(Tryz.prog.info? 141).map (·.size) = some zrow.ls.toArray.size:=info_row
    have h1z:zrow.ls.toArray.all (·.oneCell') = true:=row_one _
    clear hrf
    simp only [Option.getD_none,Option.isSome_none]
    go_wp2_with (first |(refine wpList_store_row rfl 141 _ _ rfl w1.heap.size zrow.ls.toArray rfl rfl 141 z11 HG hiz rfl h1z ?_))
    go_ret2
    exact ⟨_,by rw [HE.out]; rfl,fun h=>by rw [HE.out] at h; simp at h,belowSetRow (HB.out.2.1.alloc (Nat.le_of_lt HB.out.2.2) _) (Nat.le_of_lt HB.out.2.2) _⟩
  | some r =>
    obtain ⟨hmem,hrk⟩:=rowFor_mem hrf
    obtain ⟨hf7,hf11,hst,hle,hle2,hcs⟩:=rws_all r hmem
    have hi:=info_rowK r hf7
    have h1:=row_one r
    have hz:z11.size = r.ls.toArray.size:=by simp [Kr.ls,rowL,fcs,hf7]
    have hG2:=heapSetRow _ _ _ r.ls.toArray _ HG
    simp only [Option.getD_some,Option.isSome_some]
    have HR:Hid (rowFor m.k = some r∧r.fs.length = 7∧(∀ c ∈ r.fs,c≤11)∧1≤r.st∧0≤r.le∧r.le≤1000000∧r.cs.length≤7):=⟨hrf,hf7,hf11,hst,hle,hle2,hcs⟩
    clear hrf hmem hrk hf7 hf11 hst hle hle2 hcs
    go_wp2_with (first |(refine wpList_store_row rfl 141 _ _ rfl w1.heap.size r.ls.toArray rfl rfl 141 z11 HG hi hz h1 ?_) |(refine wpList_load_row rfl 141 _ rfl w1.heap.size rfl 141 r.ls.toArray (0,0) _ hG2 Tryz.underlying141 rfl hi ?_))
    have HX:Hid (MB ((w1.alloc (.cells z11 141)).setRow w1.heap.size r.ls.toArray) w.heap.size m∧Below w.heap.size w ((w1.alloc (.cells z11 141)).setRow w1.heap.size r.ls.toArray)∧w1.heap.size < ((w1.alloc (.cells z11 141)).setRow w1.heap.size r.ls.toArray).heap.size):=by
      refine ⟨?_,belowSetRow (HB.out.2.1.alloc (Nat.le_of_lt HB.out.2.2) _) (Nat.le_of_lt HB.out.2.2) _,(Array.getElem?_eq_some_iff.1 hG2).1⟩
      exact (HB.out.1.below ((Below.refl _ _).alloc (Nat.le_refl _) _)).besides (Besides.setRow _ _ _) (Nat.ne_of_lt HB.out.2.2)
    have HL:Hid (w.heap.size < w1.heap.size):=HB.out.2.2
    clear HG hz HB
    generalize (w1.alloc (.cells z11 141)).setRow w1.heap.size r.ls.toArray = X at *
    generalize hG:w1.heap.size = G at *
    clear hG w1 w0
    refine (madeT X r.k r.le r.mo r.st r.fs HR.out.2.1 HR.out.2.2.1).mono ?_
    rintro e w2 ⟨v,W,rfl,ho,bw,b2⟩
    replace ho:OFS W.heap.size W w2 v r.cs:=ho
    have bX:Below X.heap.size X w2:=bw.trans (b2.mono bw.size)
    have HY:Hid (FS w2 v r.cs∧MB w2 w.heap.size m∧Below w.heap.size w w2∧w.heap.size < w2.heap.size∧G < w2.heap.size):=by
      have hlt:w.heap.size < X.heap.size:=Nat.lt_trans HL.out HX.out.2.2
      exact ⟨ho.fs b2,HX.out.1.below bX,HX.out.2.1.trans (bX.mono (Nat.le_of_lt hlt)),Nat.lt_of_lt_of_le hlt bX.size,Nat.lt_of_lt_of_le HX.out.2.2 bX.size⟩
    have hG3:=(bX.block G HX.out.2.2).trans hG2
    obtain ⟨va,vc,rfl⟩:=ho.form
    clear ho bw b2 bX hG2 HX HL
    have hmc:=HY.out.2.1.cells
    have him:=info_msg HO.out.1
    go_wp2_with (first |(refine wpList_load_row rfl 40 _ rfl w.heap.size rfl 40 m.cs (0,0) _ hmc Tryz.underlying40 rfl him ?_))
    clear hmc him
    refine (foreignT w2 _ r.cs m HO.out.1 HY.out.1 (by have:=HR.out.2.2.2.2.2.2; omega)).mono ?_
    rintro e w3 ⟨rfl,b3⟩
    have hG4:=(b3.block G HY.out.2.2.2.2).trans hG3
    have HZ:Hid (FS w3 (.slice va r.cs.length vc) r.cs∧MB w3 w.heap.size m∧Below w.heap.size w w3∧w.heap.size < w3.heap.size∧G < w3.heap.size):=⟨HY.out.1.below b3,HY.out.2.1.below b3,HY.out.2.2.1.trans (b3.mono (Nat.le_of_lt HY.out.2.2.2.1)),Nat.lt_of_lt_of_le HY.out.2.2.2.1 b3.size,Nat.lt_of_lt_of_le HY.out.2.2.2.2 b3.size⟩
    clear HY b3 hG3
    by_cases q1:frn (blks r.cs m) = true
    · have HE:Hid (valE m = 113):=by unfold Hid valE; rw [HR.out.1]; simp [q1]
      rw [q1]
      go_wp2
      go_ret2
      exact ⟨_,by rw [HE.out]; rfl,fun h=>by rw [HE.out] at h; simp at h,HZ.out.2.2.1⟩
    · have q1':frn (blks r.cs m) = false:=by simpa using q1
      rw [q1']
      clear q1
      have HQ:Hid (frn (blks r.cs m) = false):=q1'
      clear q1'
      go_wp2_with fail
      refine (allowedT w3 _ r.cs w.heap.size m HZ.out.2.1 HO.out.1 HZ.out.1 (by have:=HR.out.2.2.2.2.2.2; omega)).mono ?_
      rintro e w4 ⟨rfl,b4⟩
      have hG5:=(b4.block G HZ.out.2.2.2.2).trans hG4
      have HV:Hid (FS w4 (.slice va r.cs.length vc) r.cs∧MB w4 w.heap.size m∧Below w.heap.size w w4∧w.heap.size < w4.heap.size∧G < w4.heap.size):=⟨HZ.out.1.below b4,HZ.out.2.1.below b4,HZ.out.2.2.1.trans (b4.mono (Nat.le_of_lt HZ.out.2.2.2.1)),Nat.lt_of_lt_of_le HZ.out.2.2.2.1 b4.size,Nat.lt_of_lt_of_le HZ.out.2.2.2.2 b4.size⟩
      clear HZ b4 hG4
      by_cases q2:lks r.cs m = true
      · rw [q2]
        have HQ2:Hid (lks r.cs m = true):=q2
        clear q2
        have hiL:(Tryz.prog.info? 141).map (·.size) = some r.ls.length:=hi
        have hsz9:((szs r.cs m:Nat):Int)≤1152921504606846976:=by
          have h1:=szs_le r.cs m HO.out.2.1 HO.out.2.2
          have h2:=HR.out.2.2.2.2.2.2
          have h3:=Nat.mul_le_mul_right 4503599627239424 h2
          omega
        go_wp2
        refine wp_region_held_drew (S:=fun u=>u.rangeAt G 0 r.ls) (by kernel_rfl) (rangeOf hG5) (fun hHeld=>?_)
        refine tkA (i:=0) (v:=_) rfl (yieldsIf_load_mid (by rfl) _ _ rfl _ _ rfl _ _ (fun _ h=>h) Tryz.underlying141 rfl hiL) hHeld ?_
        simp only [Act.put,zq1,zq2,zq4,zq5,zq6]
        refine tkB (i:=1) (v:=.slice va r.cs.length vc) rfl hHeld ?_
        simp only [Act.put,zq1,zq2,zq3,zq4,zq5,zq6]
        refine wpAnyH_ready (rs:=[2]) (by kernel_rfl) (by simp) ?_
        refine AllReadyH.cons (o:=_) rfl (fun K hK=>?_) AllReadyH.nil
        go_simp
        refine (sizeT w4.drew _ r.cs w.heap.size m HV.out.2.1 HO.out.1 HV.out.1 (by have:=HR.out.2.2.2.2.2.2; omega) HO.out.2.1 HO.out.2.2).mono ?_
        rintro e w' ⟨rfl,b5⟩
        have b5':Below w4.heap.size w4 w':=⟨b5.os,b5.tape,b5.output,b5.size,b5.block⟩
        have HU:Hid (FS w' (.slice va r.cs.length vc) r.cs∧MB w' w.heap.size m∧Below w.heap.size w w'∧w.heap.size < w'.heap.size∧w'.heap[G]? = some (.cells r.ls.toArray 141 (0,0))∧G < w'.heap.size):=⟨HV.out.1.below b5',HV.out.2.1.below b5',HV.out.2.2.1.trans (b5'.mono (Nat.le_of_lt HV.out.2.2.2.1)),Nat.lt_of_lt_of_le HV.out.2.2.2.1 b5'.size,(b5'.block G HV.out.2.2.2.2).trans hG5,Nat.lt_of_lt_of_le HV.out.2.2.2.2 b5.size⟩
        clear b5 b5'
        go_wp2_with fail
        refine hK.out _ _ (rangeOf HU.out.2.2.2.2.1) (fun hHeld=>?_)
        clear hK K
        refine wpAnyH_ready (rs:=[3]) (by kernel_rfl) (by simp) ?_
        refine AllReadyH.cons (o:=_) rfl (fun K hK=>?_) AllReadyH.nil
        go_simp
        refine (fitsT w' r (szs r.cs m:Nat) (by omega) hsz9 HR.out.2.2.2.1 HR.out.2.2.2.2.1 HR.out.2.2.2.2.2.1).mono ?_
        rintro e w6 ⟨rfl,b6⟩
        have HT:Hid (FS w6 (.slice va r.cs.length vc) r.cs∧Below w.heap.size w w6∧True∧w6.heap[G]? = some (.cells r.ls.toArray 141 (0,0))):=⟨HU.out.1.below b6,HU.out.2.2.1.trans (b6.mono (Nat.le_of_lt HU.out.2.2.2.1)),trivial,(b6.block G HU.out.2.2.2.2.2).trans HU.out.2.2.2.2.1⟩
        clear b6 HU
        go_wp2_with fail
        refine hK.out _ _ (rangeOf HT.out.2.2.2) (fun hHeld=>?_)
        clear hK K
        refine wpAnyH_ready (rs:=[4]) (by kernel_rfl) (by simp) ?_
        refine AllReadyH.cons (o:=_) rfl (fun K hK=>?_) AllReadyH.nil
        go_simp
        refine hK.out _ _ hHeld (fun hHeld=>?_)
        clear hK K
        refine wpAnyH_ready (rs:=[5]) (by kernel_rfl) (by simp) ?_
        refine AllReadyH.cons (o:=_) rfl (fun K hK=>?_) AllReadyH.nil
        go_simp
        refine hK.out _ _ hHeld (fun hHeld=>?_)
        clear hK K
        refine wpAnyH_done (by kernel_rfl) ?_ _
        by_cases q3:r.fit (szs r.cs m:Nat) = true
        · have HE:Hid (valE m = 0):=by unfold Hid valE; rw [HR.out.1]; simp [HQ.out,HQ2.out,q3]
          have HQ3:Hid (r.fit (szs r.cs m:Nat) = true):=q3
          rw [q3]
          clear q3
          go_wp2
          go_ret2
          exact ⟨_,by rw [HE.out]; rfl,fun _=>⟨r,HR.out.1,HT.out.1,HQ2.out,HQ3.out,HQ.out⟩,HT.out.2.1⟩
        · have q3':r.fit (szs r.cs m:Nat) = false:=by simpa using q3
          have HE:Hid (valE m = 111):=by unfold Hid valE; rw [HR.out.1]; simp [HQ.out,HQ2.out,q3']
          rw [q3']
          clear q3 q3'
          go_wp2
          go_ret2
          exact ⟨_,by rw [HE.out]; rfl,fun h=>by rw [HE.out] at h; simp at h,HT.out.2.1⟩
      · have q2':lks r.cs m = false:=by simpa using q2
        have HE:Hid (valE m = 112):=by unfold Hid valE; rw [HR.out.1]; simp [HQ.out,q2']
        rw [q2']
        go_wp2
        go_ret2
        exact ⟨_,by rw [HE.out]; rfl,fun h=>by rw [HE.out] at h; simp at h,HV.out.2.2.1⟩
def asksB (k:Int):Bool:=k == 6 || k == 8
def queryB (k:Int):Bool:=decide (21≤k) && decide (k≤23)
def numB (n:Int):Bool:=decide (0≤n) && decide (n≤4294967295)
def knownB (k:Int):Bool:=(decide (0≤k) && decide (k≤8)) || (decide (21≤k) && decide (k≤23))
theorem asksT (w:World) (k:Int):Calls Tryz.prog 77 #[.int .i64 k] w fun e w'=>e = .returned (.bool (asksB k))∧w' = w:=by
  by_cases h1:k = 6
  · subst h1
    go_enter Tryz.func77,Tryz.ntmps77
    go_wp2
    go_ret
    exact ⟨rfl,rfl⟩
  · go_enter Tryz.func77,Tryz.ntmps77
    go_wp2
    go_ret
    exact ⟨rfl,rfl⟩
theorem queryT (w:World) (k:Int):Calls Tryz.prog 78 #[.int .i64 k] w fun e w'=>e = .returned (.bool (queryB k))∧w' = w:=by
  by_cases h1:21≤k
  · rw [show queryB k = decide (k≤23) by simp [queryB,h1]]
    go_enter Tryz.func78,Tryz.ntmps78
    go_wp2
    go_ret
    exact ⟨rfl,rfl⟩
  · rw [show queryB k = false by simp [queryB,h1]]
    go_enter Tryz.func78,Tryz.ntmps78
    go_wp2
    go_ret
    exact ⟨rfl,rfl⟩
theorem knownT (w:World) (k:Int):Calls Tryz.prog 73 #[.int .i64 k] w fun e w'=>e = .returned (.bool (knownB k))∧w' = w:=by
  by_cases h1:0≤k
  · by_cases h2:k≤8
    · rw [show knownB k = true by simp [knownB,h1,h2]]
      go_enter Tryz.func73,Tryz.ntmps73
      go_wp2
      go_ret
      exact ⟨rfl,rfl⟩
    · by_cases h3:21≤k
      · rw [show knownB k = decide (k≤23) by simp [knownB,h2,h3]]
        go_enter Tryz.func73,Tryz.ntmps73
        go_wp2
        go_ret
        exact ⟨rfl,rfl⟩
      · rw [show knownB k = false by simp [knownB,h2,h3]]
        go_enter Tryz.func73,Tryz.ntmps73
        go_wp2
        go_ret
        exact ⟨rfl,rfl⟩
  · have h3:¬ 21≤k:=by omega
    rw [show knownB k = false by simp [knownB,h1,h3]]
    go_enter Tryz.func73,Tryz.ntmps73
    go_wp2
    go_ret
    exact ⟨rfl,rfl⟩
def fc1 (m:Mv) (A Q:Bool):Bool:=m.i != 0 && m.k != 4 && m.k != 7 && m.k != 1000 && !A && !Q
def fc2 (m:Mv) (A:Bool):Bool:=m.b != 0 && m.k != 7 && !A
def fc3 (m:Mv) (A Q:Bool):Bool:=m.l != 0 && !A && !Q
def fc4 (m:Mv) (nd:Nat):Bool:=decide (0 < nd) && m.k != 5 && m.k != 7 && m.k != 1000
def fc5 (m:Mv) (Q:Bool):Bool:=(m.r != zr 32 || m.ba != 0 || m.pr != 0) && !Q
def fc6 (m:Mv) (nh:Nat):Bool:=decide (0 < nh) && m.k != 22
def fR (m:Mv):Bool:=fc1 m (asksB m.k) (queryB m.k) || fc2 m (asksB m.k) || fc3 m (asksB m.k) (queryB m.k) || fc4 m (sln m.d) || fc5 m (queryB m.k) || fc6 m (sln m.h)
def fd1 (m:Mv):Bool:=!(numB m.i && numB m.b && numB m.l && numB m.ba && numB m.pr)
def fd2 (m:Mv) (A:Bool):Bool:=A && (decide (m.l < 1) || decide (16384 < m.l))
def fd3 (m:Mv):Bool:=m.k != 1000 || (decide (64≤m.i) && decide (m.i≤255))
def fdR (m:Mv):Bool:=!fd1 m && !fd2 m (asksB m.k) && fd3 m
def kE (k:Int):Bool:=k != -1 && k != 1000 && !knownB k
def szb (m:Mv) (nd nh:Nat):Bool:=(m.k == 5 && decide (8192 < nd)) || (m.k == 7 && (decide (nd < 1) || decide (16384 < nd))) || (m.k == 1000 && decide (32767 < nd)) || (m.k == 22 && decide (560 < nh))
def refE (m:Mv):Int:=if kE m.k then 110 else if fR m then 113 else if fdR m then (if szb m (sln m.d) (sln m.h) then 111 else 0) else 112
end Go.Proofs.YtfjjpbebnoghmaaGreatDoor
