import Derived.Test.YtfjjpbebnoghmaaGreatDoorK00
import Derived.Test.YtfjjpbebnoghmaaGreatDoorK07
namespace Go.Proofs.YtfjjpbebnoghmaaGreatDoor
open Go.RowKit
structure RS (w X:World) (M:Nat) (m:Mv) (D hb:List UInt8):Prop where
  ok:m.ok
  mb:MB X M m
  z:X.heap[w.heap.size]? = some (.cells z40 40 (0,0))
  b:Below w.heap.size w X
  lt:w.heap.size < M
  d:OW w.heap.size X m.d D
  h:OH w.heap.size X m.h hb
theorem RS.move {w X X':World} {M:Nat} {m m':Mv} {D hb:List UInt8} (h:RS w X M m D hb) (hb':Besides M X X') (hm:MB X' M m') (ok:m'.ok) (hd:m'.d = m.d) (hh:m'.h = m.h):RS w X' M m' D hb:=
  ⟨ok,hm,(hb'.block _ (Array.getElem?_eq_some_iff.1 h.z).1 (Nat.ne_of_lt h.lt)).trans h.z,hb'.below h.b (Nat.le_of_lt h.lt) h.b.size,h.lt,by rw [hd]; exact h.d.besides h.mb hb',by rw [hh]; exact h.h.besides h.mb hb'⟩
theorem RS.below {w X X':World} {M:Nat} {m:Mv} {D hb:List UInt8} (h:RS w X M m D hb) (hb':Below X.heap.size X X'):RS w X' M m D hb:=
  h.move (Besides.of_below hb') (h.mb.below hb') h.ok rfl rfl
theorem RS.num {w X:World} {M:Nat} {m m':Mv} {D hb:List UInt8} (h:RS w X M m D hb) (n j:Nat) (x:Int) (hm:m.ls.set j (.int .i64 x) = m'.ls) (ok:m'.ok) (hd:m'.d = m.d) (hh:m'.h = m.h):RS w ((X.drewN n).setCell ⟨M,j,none⟩ (.int .i64 x)) M m' D hb:=by
  have h1:=h.below (belowDrew X n)
  exact h1.move (Besides.setCell _ _ _ _) (h1.mb.set j _ hm) ok hd hh
theorem RS.data {w X X':World} {M:Nat} {m:Mv} {D D' hb:List UInt8} {v:Value} (h:RS w X M m D hb) (hb':Below X.heap.size X X') (ho:OW X.heap.size X' v D'):RS w (X'.setCell ⟨M,4,none⟩ v) M { m with d:=v } D' hb:=by
  have h1:=h.below hb'
  have bb:=Besides.setCell X' M 4 v
  have hv:=ho.form3
  refine ⟨⟨h.ok.r,hv,h.ok.h⟩,h1.mb.set 4 _ rfl,(bb.block _ (Array.getElem?_eq_some_iff.1 h1.z).1 (Nat.ne_of_lt h.lt)).trans h1.z,bb.below h1.b (Nat.le_of_lt h.lt) h1.b.size,h.lt,?_,h1.h.besides h1.mb bb⟩
  exact (ho.mono h.b.size).besides h1.mb bb
theorem RS.root {w X X':World} {M:Nat} {m:Mv} {D hb r:List UInt8} (h:RS w X M m D hb) (hb':Below X.heap.size X X') (hr:r.length = 32):RS w (X'.setCells M 5 (Lib.byteCells r)) M { m with r:=r } D hb:=by
  have h1:=h.below hb'
  exact h1.move (besides_setCells M _ 5 X') (h1.mb.setRoot h1.ok r hr) ⟨hr,h.ok.d,h.ok.h⟩ rfl rfl
theorem RS.done {w X:World} {M:Nat} {m:Mv} {D hb l:List UInt8} (h:RS w X M m D hb) (hE:decE l = 0) (hD:(decS l).D = D) (hH:(decS l).hb = hb) (hm:{ (decS l).m with d:=m.d,h:=m.h } = m):DCR w (X.setRow w.heap.size m.cs) (.returned (.tuple #[.agg m.cs,.int .i64 0])) l:=by
  unfold DCR
  rw [hE,hD,hH]
  exact ⟨m.d,m.h,by rw [hm],h.d.besides (m:=zm) h.z (Besides.setRow _ _ _),h.h.besides (m:=zm) h.z (Besides.setRow _ _ _),belowSetRow h.b (Nat.le_refl _) _⟩
theorem RS.start {w:World} (k:Int) (X:World) (hX:Below w.heap.size w X) (hz:X.heap[w.heap.size]? = some (.cells z40 40 (0,0))):RS w ((X.alloc (.cells z40 40)).setRow X.heap.size (zk40 k)) X.heap.size (zmk k) [] []:=by
  have hlt:=(Array.getElem?_eq_some_iff.1 hz).1
  have hs:=heapSetRow _ _ _ (zk40 k) _ (heapNew X (.cells z40 40))
  exact ⟨zmk_ok k,hs,(setRow_other _ _ _ _ (Nat.ne_of_lt hlt)).trans ((heapOld _ _ _ hlt).trans hz),belowSetRow (hX.alloc (Nat.le_of_lt hlt) _) (Nat.le_of_lt hlt) _,hlt,World.ownsRow_nil _ _ _ _,OH.nil _ _⟩
theorem decS_of {l:List UInt8} {r:Kr} (h1:¬ 32768 < l.length) (hr:rowFor (kindB l) = some r) (hf:r.fit (l.length:Int) = true) (hl:lks r.cs (decR r l).m = true):decE l = 0∧decS l = decR r l:=by
  have hE:decE l = 0:=by unfold decE; rw [if_neg h1,hr]; simp [hf,hl]
  refine ⟨hE,?_⟩
  unfold decS
  rw [if_pos hE,hr]
theorem asksT2 (w:World) (k:Int):Calls Tryz.prog 77 #[.int .i64 k] w fun e w'=>e = .returned (.bool (asksB k))∧w = w':=(asksT w k).mono fun _ _ h=>⟨h.1,h.2.symm⟩
theorem queryT2 (w:World) (k:Int):Calls Tryz.prog 78 #[.int .i64 k] w fun e w'=>e = .returned (.bool (queryB k))∧w = w':=(queryT w k).mono fun _ _ h=>⟨h.1,h.2.symm⟩
def RNC (v:Value) (l:List UInt8) (i n:Nat):Prop:=∀ X,RB X v l→Calls Tryz.prog 76 #[v,.int .i64 (i:Int)] X fun e w'=>e = .returned (.int .i64 (n:Int))∧∃ q,w' = X.drewN q
theorem RNC.of {v:Value} {l:List UInt8} {i n:Nat} (h:i + 4≤l.length) (hl:l.length≤32768) (hn:nm4 (l.drop i) = n):RNC v l i n:=by
  intro X hX
  have:=rnumT X v l i h (by omega) hX
  rw [hn] at this
  exact this
set_option maxHeartbeats 2000000 in
set_option maxRecDepth 100000 in
theorem rDec_1 (w:World) (v:Value) (l:List UInt8) (hr:RB w v l) (hl1:0 < l.length) (hl2:l.length≤32768) (k:Nat) (hk:(byt l 0).toNat = k) (hsh:k≤3) (hsz:szdB (k:Int) (l.length:Int) = true) (hE:decE l = 0) (hD:(decS l).D = []) (hH:(decS l).hb = []) (hM:∀ d h,({ (decS l).m with d:=d,h:=h }:Mv) = { (zmk k:Mv) with d:=d,h:=h }) :
    Calls Tryz.prog 45 #[v] w fun e w'=>DCR w w' e l:=by
  obtain ⟨b,off,c,rfl,_,hc⟩:=hr.cells hl1
  have c0:w.cell? ⟨b,off,none⟩ = some (.int .u8 (k:Int)):=by rw [← hk]; exact hc 0 hl1
  have hb:b < w.heap.size:=World.block_lt_of_cell? w _ c0
  have hk256:k < 256:=by have:=UInt8.toNat_lt (byt l 0); omega
  have b0:Below w.heap.size w (w.alloc (.cells z40 40)):=(Below.refl _ _).alloc (Nat.le_refl _) _
  have c1:(w.alloc (.cells z40 40)).cell? ⟨b,off,none⟩ = some (.int .u8 (k:Int)):=(b0.cell (p:=⟨b,off,none⟩) hb).trans c0
  have hz:=heapNew w (.cells z40 40)
  clear hc hk
  have HRB:Hid (RB w (.slice (some ⟨b,off,none⟩) l.length c) l):=hr
  have HA:Hid (Below w.heap.size w (w.alloc (.cells z40 40))):=b0
  have HS:Hid (decE l = 0∧(decS l).D = []∧(decS l).hb = []∧∀ d h,({ (decS l).m with d:=d,h:=h }:Mv) = { (zmk k:Mv) with d:=d,h:=h }):=⟨hE,hD,hH,hM⟩
  clear hE hD hH hM
  clear b0 c0 hr
  generalize hlen:l.length = n at *
  have HLEN:Hid (l.length = n):=hlen
  clear hlen
  go_enter Tryz.func45,Tryz.ntmps45
  go_wp2_with fail
  refine (knownT _ _).mono ?_
  rintro e w0 ⟨rfl,rfl⟩
  rw [show knownB (k:Int) = true by unfold knownB; simp; omega]
  go_wp2_with fail
  refine (rsizedT _ _ _ (by omega) (by omega)).mono ?_
  rintro e w0 ⟨rfl,rfl⟩
  rw [hsz]
  have HR:=RS.start (k:Int) _ HA.out hz
  have hzn:=heapNew (w.alloc (.cells z40 40)) (.cells z40 40)
  have hki:=zk40_info (k:Int)
  have hko:=zk40_one (k:Int)
  have hkb:=zk40_built (k:Int)
  generalize w.alloc (.cells z40 40) = w0 at *
  clear c1
  go_wp2_with (first |(refine wpList_built rfl 40 _ rfl (zk40 (k:Int)) hkb ?_) |(refine wpList_store_row rfl 40 _ _ rfl w0.heap.size (zk40 (k:Int)) rfl rfl 40 z40 hzn hki rfl hko ?_))
  have HR0:Hid (RS w ((w0.alloc (.cells z40 40)).setRow w0.heap.size (zk40 (k:Int))) w0.heap.size (zmk (k:Int)) [] []):=HR
  clear HR hzn hki hko hkb hz
  generalize (w0.alloc (.cells z40 40)).setRow w0.heap.size (zk40 (k:Int)) = Y0 at *
  generalize w0.heap.size = M at *
  generalize (#[Value.int .i64 (k:Int),.int .i64 0,.int .i64 0,.int .i64 0,Value.slice none 0 0,.int .u8 0,.int .u8 0,.int .u8 0,.int .u8 0,.int .u8 0,.int .u8 0,.int .u8 0,.int .u8 0,.int .u8 0,.int .u8 0,.int .u8 0,.int .u8 0,.int .u8 0,.int .u8 0,.int .u8 0,.int .u8 0,.int .u8 0,.int .u8 0,.int .u8 0,.int .u8 0,.int .u8 0,.int .u8 0,.int .u8 0,.int .u8 0,.int .u8 0,.int .u8 0,.int .u8 0,.int .u8 0,.int .u8 0,.int .u8 0,.int .u8 0,.int .u8 0,.int .i64 0,.int .i64 0,Value.slice none 0 0]:Array Value) = zk at *
  refine (asksT2 _ _).mono ?_
  rintro e w9 ⟨rfl,rfl⟩
  rw [show asksB (k:Int) = false by unfold asksB; simp; omega]
  go_wp2_with fail
  refine (queryT2 _ _).mono ?_
  rintro e w9 ⟨rfl,rfl⟩
  rw [show queryB (k:Int) = false by unfold queryB; simp; omega]
  have hm:=HR0.out.mb.cells
  have him:=info_msg HR0.out.ok
  have hone:=HR0.out.ok.one
  have hz:=HR0.out.z
  have hsz2:z40.size = (Mv.cs (zmk k)).size:=HR0.out.ok.size.symm
  go_wp2_with (first |(refine wpList_load_row rfl 40 _ rfl M rfl 40 (Mv.cs (zmk k)) (0,0) _ hm Tryz.underlying40 rfl him ?_) |(refine wpList_store_row rfl 40 _ _ rfl w.heap.size (Mv.cs (zmk k)) rfl rfl 40 z40 hz him hsz2 hone ?_))
  exact bodyPost_ret (results_msg2 Tryz.results45 _ _ w.heap.size (zmk k) rfl (MB.setRow (m:=zm) hz) HR0.out.ok) rfl (HR0.out.done HS.out.1 HS.out.2.1 HS.out.2.2.1 (HS.out.2.2.2 _ _))
set_option maxHeartbeats 2000000 in
set_option maxRecDepth 100000 in
theorem rDec_4 (w:World) (v:Value) (l:List UInt8) (hr:RB w v l) (hl1:0 < l.length) (hl2:l.length≤32768) (hk:((byt l 0).toNat:Int) = 4) (hsz:szdB 4 (l.length:Int) = true) (n1:Nat) (hn1:nm4 (l.drop 1) = n1) (h5:5≤l.length) (hE:decE l = 0) (hD:(decS l).D = []) (hH:(decS l).hb = []) (hM:∀ d h,({ (decS l).m with d:=d,h:=h }:Mv) = { ({ zmk 4 with i:=(n1:Int) }:Mv) with d:=d,h:=h }) :
    Calls Tryz.prog 45 #[v] w fun e w'=>DCR w w' e l:=by
  obtain ⟨b,off,c,rfl,_,hc⟩:=hr.cells hl1
  have c0:w.cell? ⟨b,off,none⟩ = some (.int .u8 4):=by rw [← hk]; exact hc 0 hl1
  have hb:b < w.heap.size:=World.block_lt_of_cell? w _ c0
  have b0:Below w.heap.size w (w.alloc (.cells z40 40)):=(Below.refl _ _).alloc (Nat.le_refl _) _
  have c1:(w.alloc (.cells z40 40)).cell? ⟨b,off,none⟩ = some (.int .u8 4):=(b0.cell (p:=⟨b,off,none⟩) hb).trans c0
  have hz:=heapNew w (.cells z40 40)
  clear hc hk
  have HRB:Hid (RB w (.slice (some ⟨b,off,none⟩) l.length c) l):=hr
  have HA:Hid (Below w.heap.size w (w.alloc (.cells z40 40))):=b0
  have HS:Hid (decE l = 0∧(decS l).D = []∧(decS l).hb = []∧∀ d h,({ (decS l).m with d:=d,h:=h }:Mv) = { ({ zmk 4 with i:=(n1:Int) }:Mv) with d:=d,h:=h }):=⟨hE,hD,hH,hM⟩
  clear hE hD hH hM
  have HN1:Hid (RNC (.slice (some ⟨b,off,none⟩) l.length c) l 1 n1):=RNC.of (by omega) hl2 hn1
  clear hn1
  clear b0 c0 hr
  generalize hlen:l.length = n at *
  have HLEN:Hid (l.length = n):=hlen
  clear hlen
  go_enter Tryz.func45,Tryz.ntmps45
  go_wp2_with fail
  refine (knownT _ _).mono ?_
  rintro e w0 ⟨rfl,rfl⟩
  rw [show knownB 4 = true from rfl]
  go_wp2_with fail
  refine (rsizedT _ _ _ (by omega) (by omega)).mono ?_
  rintro e w0 ⟨rfl,rfl⟩
  rw [hsz]
  have HR:=RS.start 4 _ HA.out hz
  have hzn:=heapNew (w.alloc (.cells z40 40)) (.cells z40 40)
  have hki:=zk40_info 4
  have hko:=zk40_one 4
  have hkb:=zk40_built 4
  generalize w.alloc (.cells z40 40) = w0 at *
  clear c1
  go_wp2_with (first |(refine wpList_built rfl 40 _ rfl (zk40 (4:Int)) hkb ?_) |(refine wpList_store_row rfl 40 _ _ rfl w0.heap.size (zk40 (4:Int)) rfl rfl 40 z40 hzn hki rfl hko ?_))
  have HR0:Hid (RS w ((w0.alloc (.cells z40 40)).setRow w0.heap.size (zk40 (4:Int))) w0.heap.size (zmk (4:Int)) [] []):=HR
  clear HR hzn hki hko hkb hz
  generalize (w0.alloc (.cells z40 40)).setRow w0.heap.size (zk40 (4:Int)) = Y0 at *
  generalize w0.heap.size = M at *
  generalize (#[Value.int .i64 (4:Int),.int .i64 0,.int .i64 0,.int .i64 0,Value.slice none 0 0,.int .u8 0,.int .u8 0,.int .u8 0,.int .u8 0,.int .u8 0,.int .u8 0,.int .u8 0,.int .u8 0,.int .u8 0,.int .u8 0,.int .u8 0,.int .u8 0,.int .u8 0,.int .u8 0,.int .u8 0,.int .u8 0,.int .u8 0,.int .u8 0,.int .u8 0,.int .u8 0,.int .u8 0,.int .u8 0,.int .u8 0,.int .u8 0,.int .u8 0,.int .u8 0,.int .u8 0,.int .u8 0,.int .u8 0,.int .u8 0,.int .u8 0,.int .u8 0,.int .i64 0,.int .i64 0,Value.slice none 0 0]:Array Value) = zk at *
  have cj:=HR0.out.mb.c1
  have fj:=HR0.out.mb.free 1
  refine (HN1.out Y0 (HRB.out.keep HR0.out.b)).mono ?_
  rintro e w2 ⟨rfl,q,rfl⟩
  have HR1:Hid (RS w ((Y0.drewN q).setCell ⟨M,1,none⟩ (.int .i64 (n1:Int))) M { zmk 4 with i:=(n1:Int) } [] []):=HR0.out.num q 1 _ rfl ⟨HR0.out.ok.r,HR0.out.ok.d,HR0.out.ok.h⟩ rfl rfl
  have hm:=HR1.out.mb.cells
  have him:=info_msg HR1.out.ok
  have hone:=HR1.out.ok.one
  have hz:=HR1.out.z
  have hsz2:z40.size = (Mv.cs { zmk 4 with i:=(n1:Int) }).size:=HR1.out.ok.size.symm
  go_wp2_with (first |(refine wpList_load_row rfl 40 _ rfl M rfl 40 (Mv.cs { zmk 4 with i:=(n1:Int) }) (0,0) _ hm Tryz.underlying40 rfl him ?_) |(refine wpList_store_row rfl 40 _ _ rfl w.heap.size (Mv.cs { zmk 4 with i:=(n1:Int) }) rfl rfl 40 z40 hz him hsz2 hone ?_))
  exact bodyPost_ret (results_msg2 Tryz.results45 _ _ w.heap.size { zmk 4 with i:=(n1:Int) } rfl (MB.setRow (m:=zm) hz) HR1.out.ok) rfl (HR1.out.done HS.out.1 HS.out.2.1 HS.out.2.2.1 (HS.out.2.2.2 _ _))
set_option maxHeartbeats 2000000 in
set_option maxRecDepth 100000 in
theorem rDec_5 (w:World) (v:Value) (l:List UInt8) (hr:RB w v l) (hl1:0 < l.length) (hl2:l.length≤32768) (hk:((byt l 0).toNat:Int) = 5) (hsz:szdB 5 (l.length:Int) = true) (hE:decE l = 0) (hD:(decS l).D = l.drop 1) (hH:(decS l).hb = []) (hM:∀ d h,({ (decS l).m with d:=d,h:=h }:Mv) = { (zmk 5:Mv) with d:=d,h:=h }) :
    Calls Tryz.prog 45 #[v] w fun e w'=>DCR w w' e l:=by
  obtain ⟨b,off,c,rfl,_,hc⟩:=hr.cells hl1
  have c0:w.cell? ⟨b,off,none⟩ = some (.int .u8 5):=by rw [← hk]; exact hc 0 hl1
  have hb:b < w.heap.size:=World.block_lt_of_cell? w _ c0
  have b0:Below w.heap.size w (w.alloc (.cells z40 40)):=(Below.refl _ _).alloc (Nat.le_refl _) _
  have c1:(w.alloc (.cells z40 40)).cell? ⟨b,off,none⟩ = some (.int .u8 5):=(b0.cell (p:=⟨b,off,none⟩) hb).trans c0
  have hz:=heapNew w (.cells z40 40)
  clear hc hk
  have HRB:Hid (RB w (.slice (some ⟨b,off,none⟩) l.length c) l):=hr
  have HA:Hid (Below w.heap.size w (w.alloc (.cells z40 40))):=b0
  have HS:Hid (decE l = 0∧(decS l).D = l.drop 1∧(decS l).hb = []∧∀ d h,({ (decS l).m with d:=d,h:=h }:Mv) = { (zmk 5:Mv) with d:=d,h:=h }):=⟨hE,hD,hH,hM⟩
  clear hE hD hH hM
  clear b0 c0 hr
  generalize hlen:l.length = n at *
  have HLEN:Hid (l.length = n):=hlen
  clear hlen
  go_enter Tryz.func45,Tryz.ntmps45
  go_wp2_with fail
  refine (knownT _ _).mono ?_
  rintro e w0 ⟨rfl,rfl⟩
  rw [show knownB 5 = true from rfl]
  go_wp2_with fail
  refine (rsizedT _ _ _ (by omega) (by omega)).mono ?_
  rintro e w0 ⟨rfl,rfl⟩
  rw [hsz]
  have HR:=RS.start 5 _ HA.out hz
  have hzn:=heapNew (w.alloc (.cells z40 40)) (.cells z40 40)
  have hki:=zk40_info 5
  have hko:=zk40_one 5
  have hkb:=zk40_built 5
  generalize w.alloc (.cells z40 40) = w0 at *
  clear c1
  go_wp2_with (first |(refine wpList_built rfl 40 _ rfl (zk40 (5:Int)) hkb ?_) |(refine wpList_store_row rfl 40 _ _ rfl w0.heap.size (zk40 (5:Int)) rfl rfl 40 z40 hzn hki rfl hko ?_))
  have HR0:Hid (RS w ((w0.alloc (.cells z40 40)).setRow w0.heap.size (zk40 (5:Int))) w0.heap.size (zmk (5:Int)) [] []):=HR
  clear HR hzn hki hko hkb hz
  generalize (w0.alloc (.cells z40 40)).setRow w0.heap.size (zk40 (5:Int)) = Y0 at *
  generalize w0.heap.size = M at *
  generalize (#[Value.int .i64 (5:Int),.int .i64 0,.int .i64 0,.int .i64 0,Value.slice none 0 0,.int .u8 0,.int .u8 0,.int .u8 0,.int .u8 0,.int .u8 0,.int .u8 0,.int .u8 0,.int .u8 0,.int .u8 0,.int .u8 0,.int .u8 0,.int .u8 0,.int .u8 0,.int .u8 0,.int .u8 0,.int .u8 0,.int .u8 0,.int .u8 0,.int .u8 0,.int .u8 0,.int .u8 0,.int .u8 0,.int .u8 0,.int .u8 0,.int .u8 0,.int .u8 0,.int .u8 0,.int .u8 0,.int .u8 0,.int .u8 0,.int .u8 0,.int .u8 0,.int .i64 0,.int .i64 0,Value.slice none 0 0]:Array Value) = zk at *
  refine (rrestT Y0 _ l 1 (by have:=HLEN.out; omega) (by have:=HLEN.out; omega) (HRB.out.keep HR0.out.b)).mono ?_
  rintro e w2 ⟨v2,rfl,ho,bw⟩
  obtain ⟨va,vn,vc,rfl⟩:=ho.form3
  have HR1:Hid (RS w (w2.setCell ⟨M,4,none⟩ (.slice va vn vc)) M { zmk 5 with d:=.slice va vn vc } (l.drop 1) []):=HR0.out.data bw ho
  have cj:=(HR0.out.mb.below bw).c4
  have fj:=(HR0.out.mb.below bw).free 4
  clear ho bw
  have hm:=HR1.out.mb.cells
  have him:=info_msg HR1.out.ok
  have hone:=HR1.out.ok.one
  have hz:=HR1.out.z
  have hsz2:z40.size = (Mv.cs { zmk 5 with d:=.slice va vn vc }).size:=HR1.out.ok.size.symm
  go_wp2_with (first |(refine wpList_load_row rfl 40 _ rfl M rfl 40 (Mv.cs { zmk 5 with d:=.slice va vn vc }) (0,0) _ hm Tryz.underlying40 rfl him ?_) |(refine wpList_store_row rfl 40 _ _ rfl w.heap.size (Mv.cs { zmk 5 with d:=.slice va vn vc }) rfl rfl 40 z40 hz him hsz2 hone ?_))
  exact bodyPost_ret (results_msg2 Tryz.results45 _ _ w.heap.size { zmk 5 with d:=.slice va vn vc } rfl (MB.setRow (m:=zm) hz) HR1.out.ok) rfl (HR1.out.done HS.out.1 HS.out.2.1 HS.out.2.2.1 (HS.out.2.2.2 _ _))
set_option maxHeartbeats 2000000 in
set_option maxRecDepth 100000 in
theorem rDec_7 (w:World) (v:Value) (l:List UInt8) (hr:RB w v l) (hl1:0 < l.length) (hl2:l.length≤32768) (hk:((byt l 0).toNat:Int) = 7) (hsz:szdB 7 (l.length:Int) = true) (n1:Nat) (hn1:nm4 (l.drop 1) = n1) (n2:Nat) (hn2:nm4 (l.drop 5) = n2) (h9:9≤l.length) (hE:decE l = 0) (hD:(decS l).D = l.drop 9) (hH:(decS l).hb = []) (hM:∀ d h,({ (decS l).m with d:=d,h:=h }:Mv) = { ({ zmk 7 with i:=(n1:Int),b:=(n2:Int) }:Mv) with d:=d,h:=h }) :
    Calls Tryz.prog 45 #[v] w fun e w'=>DCR w w' e l:=by
  obtain ⟨b,off,c,rfl,_,hc⟩:=hr.cells hl1
  have c0:w.cell? ⟨b,off,none⟩ = some (.int .u8 7):=by rw [← hk]; exact hc 0 hl1
  have hb:b < w.heap.size:=World.block_lt_of_cell? w _ c0
  have b0:Below w.heap.size w (w.alloc (.cells z40 40)):=(Below.refl _ _).alloc (Nat.le_refl _) _
  have c1:(w.alloc (.cells z40 40)).cell? ⟨b,off,none⟩ = some (.int .u8 7):=(b0.cell (p:=⟨b,off,none⟩) hb).trans c0
  have hz:=heapNew w (.cells z40 40)
  clear hc hk
  have HRB:Hid (RB w (.slice (some ⟨b,off,none⟩) l.length c) l):=hr
  have HA:Hid (Below w.heap.size w (w.alloc (.cells z40 40))):=b0
  have HS:Hid (decE l = 0∧(decS l).D = l.drop 9∧(decS l).hb = []∧∀ d h,({ (decS l).m with d:=d,h:=h }:Mv) = { ({ zmk 7 with i:=(n1:Int),b:=(n2:Int) }:Mv) with d:=d,h:=h }):=⟨hE,hD,hH,hM⟩
  clear hE hD hH hM
  have HN1:Hid (RNC (.slice (some ⟨b,off,none⟩) l.length c) l 1 n1):=RNC.of (by omega) hl2 hn1
  clear hn1
  have HN2:Hid (RNC (.slice (some ⟨b,off,none⟩) l.length c) l 5 n2):=RNC.of (by omega) hl2 hn2
  clear hn2
  clear b0 c0 hr
  generalize hlen:l.length = n at *
  have HLEN:Hid (l.length = n):=hlen
  clear hlen
  go_enter Tryz.func45,Tryz.ntmps45
  go_wp2_with fail
  refine (knownT _ _).mono ?_
  rintro e w0 ⟨rfl,rfl⟩
  rw [show knownB 7 = true from rfl]
  go_wp2_with fail
  refine (rsizedT _ _ _ (by omega) (by omega)).mono ?_
  rintro e w0 ⟨rfl,rfl⟩
  rw [hsz]
  have HR:=RS.start 7 _ HA.out hz
  have hzn:=heapNew (w.alloc (.cells z40 40)) (.cells z40 40)
  have hki:=zk40_info 7
  have hko:=zk40_one 7
  have hkb:=zk40_built 7
  generalize w.alloc (.cells z40 40) = w0 at *
  clear c1
  go_wp2_with (first |(refine wpList_built rfl 40 _ rfl (zk40 (7:Int)) hkb ?_) |(refine wpList_store_row rfl 40 _ _ rfl w0.heap.size (zk40 (7:Int)) rfl rfl 40 z40 hzn hki rfl hko ?_))
  have HR0:Hid (RS w ((w0.alloc (.cells z40 40)).setRow w0.heap.size (zk40 (7:Int))) w0.heap.size (zmk (7:Int)) [] []):=HR
  clear HR hzn hki hko hkb hz
  generalize (w0.alloc (.cells z40 40)).setRow w0.heap.size (zk40 (7:Int)) = Y0 at *
  generalize w0.heap.size = M at *
  generalize (#[Value.int .i64 (7:Int),.int .i64 0,.int .i64 0,.int .i64 0,Value.slice none 0 0,.int .u8 0,.int .u8 0,.int .u8 0,.int .u8 0,.int .u8 0,.int .u8 0,.int .u8 0,.int .u8 0,.int .u8 0,.int .u8 0,.int .u8 0,.int .u8 0,.int .u8 0,.int .u8 0,.int .u8 0,.int .u8 0,.int .u8 0,.int .u8 0,.int .u8 0,.int .u8 0,.int .u8 0,.int .u8 0,.int .u8 0,.int .u8 0,.int .u8 0,.int .u8 0,.int .u8 0,.int .u8 0,.int .u8 0,.int .u8 0,.int .u8 0,.int .u8 0,.int .i64 0,.int .i64 0,Value.slice none 0 0]:Array Value) = zk at *
  have cj:=HR0.out.mb.c1
  have fj:=HR0.out.mb.free 1
  refine (HN1.out Y0 (HRB.out.keep HR0.out.b)).mono ?_
  rintro e w2 ⟨rfl,q,rfl⟩
  have HR1:Hid (RS w ((Y0.drewN q).setCell ⟨M,1,none⟩ (.int .i64 (n1:Int))) M { zmk 7 with i:=(n1:Int) } [] []):=HR0.out.num q 1 _ rfl ⟨HR0.out.ok.r,HR0.out.ok.d,HR0.out.ok.h⟩ rfl rfl
  go_wp2_with fail
  clear cj fj HR0
  generalize (Y0.drewN q).setCell ⟨M,1,none⟩ (.int .i64 (n1:Int)) = Y1 at *
  clear Y0 q
  have cj:=HR1.out.mb.c2
  have fj:=HR1.out.mb.free 2
  refine (HN2.out Y1 (HRB.out.keep HR1.out.b)).mono ?_
  rintro e w2 ⟨rfl,q,rfl⟩
  have HR2:Hid (RS w ((Y1.drewN q).setCell ⟨M,2,none⟩ (.int .i64 (n2:Int))) M { zmk 7 with i:=(n1:Int),b:=(n2:Int) } [] []):=HR1.out.num q 2 _ rfl ⟨HR1.out.ok.r,HR1.out.ok.d,HR1.out.ok.h⟩ rfl rfl
  go_wp2_with fail
  clear cj fj HR1
  generalize (Y1.drewN q).setCell ⟨M,2,none⟩ (.int .i64 (n2:Int)) = Y2 at *
  clear Y1 q
  refine (rrestT Y2 _ l 9 (by have:=HLEN.out; omega) (by have:=HLEN.out; omega) (HRB.out.keep HR2.out.b)).mono ?_
  rintro e w2 ⟨v2,rfl,ho,bw⟩
  obtain ⟨va,vn,vc,rfl⟩:=ho.form3
  have HR3:Hid (RS w (w2.setCell ⟨M,4,none⟩ (.slice va vn vc)) M { { zmk 7 with i:=(n1:Int),b:=(n2:Int) } with d:=.slice va vn vc } (l.drop 9) []):=HR2.out.data bw ho
  have cj:=(HR2.out.mb.below bw).c4
  have fj:=(HR2.out.mb.below bw).free 4
  clear ho bw
  have hm:=HR3.out.mb.cells
  have him:=info_msg HR3.out.ok
  have hone:=HR3.out.ok.one
  have hz:=HR3.out.z
  have hsz2:z40.size = (Mv.cs { zmk 7 with i:=(n1:Int),b:=(n2:Int),d:=.slice va vn vc }).size:=HR3.out.ok.size.symm
  go_wp2_with (first |(refine wpList_load_row rfl 40 _ rfl M rfl 40 (Mv.cs { zmk 7 with i:=(n1:Int),b:=(n2:Int),d:=.slice va vn vc }) (0,0) _ hm Tryz.underlying40 rfl him ?_) |(refine wpList_store_row rfl 40 _ _ rfl w.heap.size (Mv.cs { zmk 7 with i:=(n1:Int),b:=(n2:Int),d:=.slice va vn vc }) rfl rfl 40 z40 hz him hsz2 hone ?_))
  exact bodyPost_ret (results_msg2 Tryz.results45 _ _ w.heap.size { zmk 7 with i:=(n1:Int),b:=(n2:Int),d:=.slice va vn vc } rfl (MB.setRow (m:=zm) hz) HR3.out.ok) rfl (HR3.out.done HS.out.1 HS.out.2.1 HS.out.2.2.1 (HS.out.2.2.2 _ _))
set_option maxHeartbeats 2000000 in
set_option maxRecDepth 100000 in
theorem rDec_6 (w:World) (v:Value) (l:List UInt8) (hr:RB w v l) (hl1:0 < l.length) (hl2:l.length≤32768) (hk:((byt l 0).toNat:Int) = 6) (hsz:szdB 6 (l.length:Int) = true) (n1:Nat) (hn1:nm4 (l.drop 1) = n1) (n2:Nat) (hn2:nm4 (l.drop 5) = n2) (n3:Nat) (hn3:nm4 (l.drop 9) = n3) (h13:13≤l.length) (hE:decE l = 0) (hD:(decS l).D = []) (hH:(decS l).hb = []) (hM:∀ d h,({ (decS l).m with d:=d,h:=h }:Mv) = { ({ zmk 6 with i:=(n1:Int),b:=(n2:Int),l:=(n3:Int) }:Mv) with d:=d,h:=h }) (hg:1≤(n3:Int)∧(n3:Int)≤16384) :
    Calls Tryz.prog 45 #[v] w fun e w'=>DCR w w' e l:=by
  obtain ⟨b,off,c,rfl,_,hc⟩:=hr.cells hl1
  have c0:w.cell? ⟨b,off,none⟩ = some (.int .u8 6):=by rw [← hk]; exact hc 0 hl1
  have hb:b < w.heap.size:=World.block_lt_of_cell? w _ c0
  have b0:Below w.heap.size w (w.alloc (.cells z40 40)):=(Below.refl _ _).alloc (Nat.le_refl _) _
  have c1:(w.alloc (.cells z40 40)).cell? ⟨b,off,none⟩ = some (.int .u8 6):=(b0.cell (p:=⟨b,off,none⟩) hb).trans c0
  have hz:=heapNew w (.cells z40 40)
  clear hc hk
  have HRB:Hid (RB w (.slice (some ⟨b,off,none⟩) l.length c) l):=hr
  have HA:Hid (Below w.heap.size w (w.alloc (.cells z40 40))):=b0
  have HS:Hid (decE l = 0∧(decS l).D = []∧(decS l).hb = []∧∀ d h,({ (decS l).m with d:=d,h:=h }:Mv) = { ({ zmk 6 with i:=(n1:Int),b:=(n2:Int),l:=(n3:Int) }:Mv) with d:=d,h:=h }):=⟨hE,hD,hH,hM⟩
  clear hE hD hH hM
  have HN1:Hid (RNC (.slice (some ⟨b,off,none⟩) l.length c) l 1 n1):=RNC.of (by omega) hl2 hn1
  clear hn1
  have HN2:Hid (RNC (.slice (some ⟨b,off,none⟩) l.length c) l 5 n2):=RNC.of (by omega) hl2 hn2
  clear hn2
  have HN3:Hid (RNC (.slice (some ⟨b,off,none⟩) l.length c) l 9 n3):=RNC.of (by omega) hl2 hn3
  clear hn3
  clear b0 c0 hr
  generalize hlen:l.length = n at *
  have HLEN:Hid (l.length = n):=hlen
  clear hlen
  go_enter Tryz.func45,Tryz.ntmps45
  go_wp2_with fail
  refine (knownT _ _).mono ?_
  rintro e w0 ⟨rfl,rfl⟩
  rw [show knownB 6 = true from rfl]
  go_wp2_with fail
  refine (rsizedT _ _ _ (by omega) (by omega)).mono ?_
  rintro e w0 ⟨rfl,rfl⟩
  rw [hsz]
  have HR:=RS.start 6 _ HA.out hz
  have hzn:=heapNew (w.alloc (.cells z40 40)) (.cells z40 40)
  have hki:=zk40_info 6
  have hko:=zk40_one 6
  have hkb:=zk40_built 6
  generalize w.alloc (.cells z40 40) = w0 at *
  clear c1
  go_wp2_with (first |(refine wpList_built rfl 40 _ rfl (zk40 (6:Int)) hkb ?_) |(refine wpList_store_row rfl 40 _ _ rfl w0.heap.size (zk40 (6:Int)) rfl rfl 40 z40 hzn hki rfl hko ?_))
  have HR0:Hid (RS w ((w0.alloc (.cells z40 40)).setRow w0.heap.size (zk40 (6:Int))) w0.heap.size (zmk (6:Int)) [] []):=HR
  clear HR hzn hki hko hkb hz
  generalize (w0.alloc (.cells z40 40)).setRow w0.heap.size (zk40 (6:Int)) = Y0 at *
  generalize w0.heap.size = M at *
  generalize (#[Value.int .i64 (6:Int),.int .i64 0,.int .i64 0,.int .i64 0,Value.slice none 0 0,.int .u8 0,.int .u8 0,.int .u8 0,.int .u8 0,.int .u8 0,.int .u8 0,.int .u8 0,.int .u8 0,.int .u8 0,.int .u8 0,.int .u8 0,.int .u8 0,.int .u8 0,.int .u8 0,.int .u8 0,.int .u8 0,.int .u8 0,.int .u8 0,.int .u8 0,.int .u8 0,.int .u8 0,.int .u8 0,.int .u8 0,.int .u8 0,.int .u8 0,.int .u8 0,.int .u8 0,.int .u8 0,.int .u8 0,.int .u8 0,.int .u8 0,.int .u8 0,.int .i64 0,.int .i64 0,Value.slice none 0 0]:Array Value) = zk at *
  refine (asksT2 _ _).mono ?_
  rintro e w9 ⟨rfl,rfl⟩
  rw [show asksB 6 = true from rfl]
  go_wp2_with fail
  have cj:=HR0.out.mb.c1
  have fj:=HR0.out.mb.free 1
  refine (HN1.out Y0 (HRB.out.keep HR0.out.b)).mono ?_
  rintro e w2 ⟨rfl,q,rfl⟩
  have HR1:Hid (RS w ((Y0.drewN q).setCell ⟨M,1,none⟩ (.int .i64 (n1:Int))) M { zmk 6 with i:=(n1:Int) } [] []):=HR0.out.num q 1 _ rfl ⟨HR0.out.ok.r,HR0.out.ok.d,HR0.out.ok.h⟩ rfl rfl
  go_wp2_with fail
  clear cj fj HR0
  generalize (Y0.drewN q).setCell ⟨M,1,none⟩ (.int .i64 (n1:Int)) = Y1 at *
  clear Y0 q
  have cj:=HR1.out.mb.c2
  have fj:=HR1.out.mb.free 2
  refine (HN2.out Y1 (HRB.out.keep HR1.out.b)).mono ?_
  rintro e w2 ⟨rfl,q,rfl⟩
  have HR2:Hid (RS w ((Y1.drewN q).setCell ⟨M,2,none⟩ (.int .i64 (n2:Int))) M { zmk 6 with i:=(n1:Int),b:=(n2:Int) } [] []):=HR1.out.num q 2 _ rfl ⟨HR1.out.ok.r,HR1.out.ok.d,HR1.out.ok.h⟩ rfl rfl
  go_wp2_with fail
  clear cj fj HR1
  generalize (Y1.drewN q).setCell ⟨M,2,none⟩ (.int .i64 (n2:Int)) = Y2 at *
  clear Y1 q
  have cj:=HR2.out.mb.c3
  have fj:=HR2.out.mb.free 3
  refine (HN3.out Y2 (HRB.out.keep HR2.out.b)).mono ?_
  rintro e w2 ⟨rfl,q,rfl⟩
  have HR3:Hid (RS w ((Y2.drewN q).setCell ⟨M,3,none⟩ (.int .i64 (n3:Int))) M { zmk 6 with i:=(n1:Int),b:=(n2:Int),l:=(n3:Int) } [] []):=HR2.out.num q 3 _ rfl ⟨HR2.out.ok.r,HR2.out.ok.d,HR2.out.ok.h⟩ rfl rfl
  obtain ⟨hg1,hg2⟩:=hg
  have hm:=HR3.out.mb.cells
  have him:=info_msg HR3.out.ok
  have hone:=HR3.out.ok.one
  have hz:=HR3.out.z
  have hsz2:z40.size = (Mv.cs { zmk 6 with i:=(n1:Int),b:=(n2:Int),l:=(n3:Int) }).size:=HR3.out.ok.size.symm
  go_wp2_with (first |(refine wpList_load_row rfl 40 _ rfl M rfl 40 (Mv.cs { zmk 6 with i:=(n1:Int),b:=(n2:Int),l:=(n3:Int) }) (0,0) _ hm Tryz.underlying40 rfl him ?_) |(refine wpList_store_row rfl 40 _ _ rfl w.heap.size (Mv.cs { zmk 6 with i:=(n1:Int),b:=(n2:Int),l:=(n3:Int) }) rfl rfl 40 z40 hz him hsz2 hone ?_))
  exact bodyPost_ret (results_msg2 Tryz.results45 _ _ w.heap.size { zmk 6 with i:=(n1:Int),b:=(n2:Int),l:=(n3:Int) } rfl (MB.setRow (m:=zm) hz) HR3.out.ok) rfl (HR3.out.done HS.out.1 HS.out.2.1 HS.out.2.2.1 (HS.out.2.2.2 _ _))
set_option maxHeartbeats 2000000 in
set_option maxRecDepth 100000 in
theorem rDec_6b (w:World) (v:Value) (l:List UInt8) (hr:RB w v l) (hl1:0 < l.length) (hl2:l.length≤32768) (hk:((byt l 0).toNat:Int) = 6) (hsz:szdB 6 (l.length:Int) = true) (n1:Nat) (hn1:nm4 (l.drop 1) = n1) (n2:Nat) (hn2:nm4 (l.drop 5) = n2) (n3:Nat) (hn3:nm4 (l.drop 9) = n3) (h13:13≤l.length) (hE:decE l = 112) (hg:¬ (1≤(n3:Int)∧(n3:Int)≤16384)) :
    Calls Tryz.prog 45 #[v] w fun e w'=>DCR w w' e l:=by
  obtain ⟨b,off,c,rfl,_,hc⟩:=hr.cells hl1
  have c0:w.cell? ⟨b,off,none⟩ = some (.int .u8 6):=by rw [← hk]; exact hc 0 hl1
  have hb:b < w.heap.size:=World.block_lt_of_cell? w _ c0
  have b0:Below w.heap.size w (w.alloc (.cells z40 40)):=(Below.refl _ _).alloc (Nat.le_refl _) _
  have c1:(w.alloc (.cells z40 40)).cell? ⟨b,off,none⟩ = some (.int .u8 6):=(b0.cell (p:=⟨b,off,none⟩) hb).trans c0
  have hz:=heapNew w (.cells z40 40)
  clear hc hk
  have HRB:Hid (RB w (.slice (some ⟨b,off,none⟩) l.length c) l):=hr
  have HA:Hid (Below w.heap.size w (w.alloc (.cells z40 40))):=b0
  have HS:Hid (decE l = 112):=hE
  clear hE
  have HN1:Hid (RNC (.slice (some ⟨b,off,none⟩) l.length c) l 1 n1):=RNC.of (by omega) hl2 hn1
  clear hn1
  have HN2:Hid (RNC (.slice (some ⟨b,off,none⟩) l.length c) l 5 n2):=RNC.of (by omega) hl2 hn2
  clear hn2
  have HN3:Hid (RNC (.slice (some ⟨b,off,none⟩) l.length c) l 9 n3):=RNC.of (by omega) hl2 hn3
  clear hn3
  clear b0 c0 hr
  generalize hlen:l.length = n at *
  have HLEN:Hid (l.length = n):=hlen
  clear hlen
  go_enter Tryz.func45,Tryz.ntmps45
  go_wp2_with fail
  refine (knownT _ _).mono ?_
  rintro e w0 ⟨rfl,rfl⟩
  rw [show knownB 6 = true from rfl]
  go_wp2_with fail
  refine (rsizedT _ _ _ (by omega) (by omega)).mono ?_
  rintro e w0 ⟨rfl,rfl⟩
  rw [hsz]
  have HR:=RS.start 6 _ HA.out hz
  have hzn:=heapNew (w.alloc (.cells z40 40)) (.cells z40 40)
  have hki:=zk40_info 6
  have hko:=zk40_one 6
  have hkb:=zk40_built 6
  generalize w.alloc (.cells z40 40) = w0 at *
  clear c1
  go_wp2_with (first |(refine wpList_built rfl 40 _ rfl (zk40 (6:Int)) hkb ?_) |(refine wpList_store_row rfl 40 _ _ rfl w0.heap.size (zk40 (6:Int)) rfl rfl 40 z40 hzn hki rfl hko ?_))
  have HR0:Hid (RS w ((w0.alloc (.cells z40 40)).setRow w0.heap.size (zk40 (6:Int))) w0.heap.size (zmk (6:Int)) [] []):=HR
  clear HR hzn hki hko hkb hz
  generalize (w0.alloc (.cells z40 40)).setRow w0.heap.size (zk40 (6:Int)) = Y0 at *
  generalize w0.heap.size = M at *
  generalize (#[Value.int .i64 (6:Int),.int .i64 0,.int .i64 0,.int .i64 0,Value.slice none 0 0,.int .u8 0,.int .u8 0,.int .u8 0,.int .u8 0,.int .u8 0,.int .u8 0,.int .u8 0,.int .u8 0,.int .u8 0,.int .u8 0,.int .u8 0,.int .u8 0,.int .u8 0,.int .u8 0,.int .u8 0,.int .u8 0,.int .u8 0,.int .u8 0,.int .u8 0,.int .u8 0,.int .u8 0,.int .u8 0,.int .u8 0,.int .u8 0,.int .u8 0,.int .u8 0,.int .u8 0,.int .u8 0,.int .u8 0,.int .u8 0,.int .u8 0,.int .u8 0,.int .i64 0,.int .i64 0,Value.slice none 0 0]:Array Value) = zk at *
  refine (asksT2 _ _).mono ?_
  rintro e w9 ⟨rfl,rfl⟩
  rw [show asksB 6 = true from rfl]
  go_wp2_with fail
  have cj:=HR0.out.mb.c1
  have fj:=HR0.out.mb.free 1
  refine (HN1.out Y0 (HRB.out.keep HR0.out.b)).mono ?_
  rintro e w2 ⟨rfl,q,rfl⟩
  have HR1:Hid (RS w ((Y0.drewN q).setCell ⟨M,1,none⟩ (.int .i64 (n1:Int))) M { zmk 6 with i:=(n1:Int) } [] []):=HR0.out.num q 1 _ rfl ⟨HR0.out.ok.r,HR0.out.ok.d,HR0.out.ok.h⟩ rfl rfl
  go_wp2_with fail
  clear cj fj HR0
  generalize (Y0.drewN q).setCell ⟨M,1,none⟩ (.int .i64 (n1:Int)) = Y1 at *
  clear Y0 q
  have cj:=HR1.out.mb.c2
  have fj:=HR1.out.mb.free 2
  refine (HN2.out Y1 (HRB.out.keep HR1.out.b)).mono ?_
  rintro e w2 ⟨rfl,q,rfl⟩
  have HR2:Hid (RS w ((Y1.drewN q).setCell ⟨M,2,none⟩ (.int .i64 (n2:Int))) M { zmk 6 with i:=(n1:Int),b:=(n2:Int) } [] []):=HR1.out.num q 2 _ rfl ⟨HR1.out.ok.r,HR1.out.ok.d,HR1.out.ok.h⟩ rfl rfl
  go_wp2_with fail
  clear cj fj HR1
  generalize (Y1.drewN q).setCell ⟨M,2,none⟩ (.int .i64 (n2:Int)) = Y2 at *
  clear Y1 q
  have cj:=HR2.out.mb.c3
  have fj:=HR2.out.mb.free 3
  refine (HN3.out Y2 (HRB.out.keep HR2.out.b)).mono ?_
  rintro e w2 ⟨rfl,q,rfl⟩
  have HR3:Hid (RS w ((Y2.drewN q).setCell ⟨M,3,none⟩ (.int .i64 (n3:Int))) M { zmk 6 with i:=(n1:Int),b:=(n2:Int),l:=(n3:Int) } [] []):=HR2.out.num q 3 _ rfl ⟨HR2.out.ok.r,HR2.out.ok.d,HR2.out.ok.h⟩ rfl rfl
  have hz:=HR3.out.z
  by_cases hg1:1≤(n3:Int)
  · have hg2:16384 < (n3:Int):=by omega
    clear hg
    go_wp2_with (first |(refine wpList_store_row rfl 40 _ _ rfl w.heap.size z40 rfl rfl 40 z40 hz z40_info rfl z40_one ?_))
    exact bodyPost_ret (results_msg2 Tryz.results45 _ _ w.heap.size zm rfl (heapSetRow _ _ _ _ _ hz) zm_ok) rfl (DCR.err (by rw [HS.out]; decide) (by rw [HS.out]; rfl) (belowSetRow HR3.out.b (Nat.le_refl _) _))
  · have hg2:(n3:Int) < 1:=by omega
    clear hg
    go_wp2_with (first |(refine wpList_store_row rfl 40 _ _ rfl w.heap.size z40 rfl rfl 40 z40 hz z40_info rfl z40_one ?_))
    exact bodyPost_ret (results_msg2 Tryz.results45 _ _ w.heap.size zm rfl (heapSetRow _ _ _ _ _ hz) zm_ok) rfl (DCR.err (by rw [HS.out]; decide) (by rw [HS.out]; rfl) (belowSetRow HR3.out.b (Nat.le_refl _) _))
set_option maxHeartbeats 2000000 in
set_option maxRecDepth 100000 in
theorem rDec_8 (w:World) (v:Value) (l:List UInt8) (hr:RB w v l) (hl1:0 < l.length) (hl2:l.length≤32768) (hk:((byt l 0).toNat:Int) = 8) (hsz:szdB 8 (l.length:Int) = true) (n1:Nat) (hn1:nm4 (l.drop 1) = n1) (n2:Nat) (hn2:nm4 (l.drop 5) = n2) (n3:Nat) (hn3:nm4 (l.drop 9) = n3) (h13:13≤l.length) (hE:decE l = 0) (hD:(decS l).D = []) (hH:(decS l).hb = []) (hM:∀ d h,({ (decS l).m with d:=d,h:=h }:Mv) = { ({ zmk 8 with i:=(n1:Int),b:=(n2:Int),l:=(n3:Int) }:Mv) with d:=d,h:=h }) (hg:1≤(n3:Int)∧(n3:Int)≤16384) :
    Calls Tryz.prog 45 #[v] w fun e w'=>DCR w w' e l:=by
  obtain ⟨b,off,c,rfl,_,hc⟩:=hr.cells hl1
  have c0:w.cell? ⟨b,off,none⟩ = some (.int .u8 8):=by rw [← hk]; exact hc 0 hl1
  have hb:b < w.heap.size:=World.block_lt_of_cell? w _ c0
  have b0:Below w.heap.size w (w.alloc (.cells z40 40)):=(Below.refl _ _).alloc (Nat.le_refl _) _
  have c1:(w.alloc (.cells z40 40)).cell? ⟨b,off,none⟩ = some (.int .u8 8):=(b0.cell (p:=⟨b,off,none⟩) hb).trans c0
  have hz:=heapNew w (.cells z40 40)
  clear hc hk
  have HRB:Hid (RB w (.slice (some ⟨b,off,none⟩) l.length c) l):=hr
  have HA:Hid (Below w.heap.size w (w.alloc (.cells z40 40))):=b0
  have HS:Hid (decE l = 0∧(decS l).D = []∧(decS l).hb = []∧∀ d h,({ (decS l).m with d:=d,h:=h }:Mv) = { ({ zmk 8 with i:=(n1:Int),b:=(n2:Int),l:=(n3:Int) }:Mv) with d:=d,h:=h }):=⟨hE,hD,hH,hM⟩
  clear hE hD hH hM
  have HN1:Hid (RNC (.slice (some ⟨b,off,none⟩) l.length c) l 1 n1):=RNC.of (by omega) hl2 hn1
  clear hn1
  have HN2:Hid (RNC (.slice (some ⟨b,off,none⟩) l.length c) l 5 n2):=RNC.of (by omega) hl2 hn2
  clear hn2
  have HN3:Hid (RNC (.slice (some ⟨b,off,none⟩) l.length c) l 9 n3):=RNC.of (by omega) hl2 hn3
  clear hn3
  clear b0 c0 hr
  generalize hlen:l.length = n at *
  have HLEN:Hid (l.length = n):=hlen
  clear hlen
  go_enter Tryz.func45,Tryz.ntmps45
  go_wp2_with fail
  refine (knownT _ _).mono ?_
  rintro e w0 ⟨rfl,rfl⟩
  rw [show knownB 8 = true from rfl]
  go_wp2_with fail
  refine (rsizedT _ _ _ (by omega) (by omega)).mono ?_
  rintro e w0 ⟨rfl,rfl⟩
  rw [hsz]
  have HR:=RS.start 8 _ HA.out hz
  have hzn:=heapNew (w.alloc (.cells z40 40)) (.cells z40 40)
  have hki:=zk40_info 8
  have hko:=zk40_one 8
  have hkb:=zk40_built 8
  generalize w.alloc (.cells z40 40) = w0 at *
  clear c1
  go_wp2_with (first |(refine wpList_built rfl 40 _ rfl (zk40 (8:Int)) hkb ?_) |(refine wpList_store_row rfl 40 _ _ rfl w0.heap.size (zk40 (8:Int)) rfl rfl 40 z40 hzn hki rfl hko ?_))
  have HR0:Hid (RS w ((w0.alloc (.cells z40 40)).setRow w0.heap.size (zk40 (8:Int))) w0.heap.size (zmk (8:Int)) [] []):=HR
  clear HR hzn hki hko hkb hz
  generalize (w0.alloc (.cells z40 40)).setRow w0.heap.size (zk40 (8:Int)) = Y0 at *
  generalize w0.heap.size = M at *
  generalize (#[Value.int .i64 (8:Int),.int .i64 0,.int .i64 0,.int .i64 0,Value.slice none 0 0,.int .u8 0,.int .u8 0,.int .u8 0,.int .u8 0,.int .u8 0,.int .u8 0,.int .u8 0,.int .u8 0,.int .u8 0,.int .u8 0,.int .u8 0,.int .u8 0,.int .u8 0,.int .u8 0,.int .u8 0,.int .u8 0,.int .u8 0,.int .u8 0,.int .u8 0,.int .u8 0,.int .u8 0,.int .u8 0,.int .u8 0,.int .u8 0,.int .u8 0,.int .u8 0,.int .u8 0,.int .u8 0,.int .u8 0,.int .u8 0,.int .u8 0,.int .u8 0,.int .i64 0,.int .i64 0,Value.slice none 0 0]:Array Value) = zk at *
  refine (asksT2 _ _).mono ?_
  rintro e w9 ⟨rfl,rfl⟩
  rw [show asksB 8 = true from rfl]
  go_wp2_with fail
  have cj:=HR0.out.mb.c1
  have fj:=HR0.out.mb.free 1
  refine (HN1.out Y0 (HRB.out.keep HR0.out.b)).mono ?_
  rintro e w2 ⟨rfl,q,rfl⟩
  have HR1:Hid (RS w ((Y0.drewN q).setCell ⟨M,1,none⟩ (.int .i64 (n1:Int))) M { zmk 8 with i:=(n1:Int) } [] []):=HR0.out.num q 1 _ rfl ⟨HR0.out.ok.r,HR0.out.ok.d,HR0.out.ok.h⟩ rfl rfl
  go_wp2_with fail
  clear cj fj HR0
  generalize (Y0.drewN q).setCell ⟨M,1,none⟩ (.int .i64 (n1:Int)) = Y1 at *
  clear Y0 q
  have cj:=HR1.out.mb.c2
  have fj:=HR1.out.mb.free 2
  refine (HN2.out Y1 (HRB.out.keep HR1.out.b)).mono ?_
  rintro e w2 ⟨rfl,q,rfl⟩
  have HR2:Hid (RS w ((Y1.drewN q).setCell ⟨M,2,none⟩ (.int .i64 (n2:Int))) M { zmk 8 with i:=(n1:Int),b:=(n2:Int) } [] []):=HR1.out.num q 2 _ rfl ⟨HR1.out.ok.r,HR1.out.ok.d,HR1.out.ok.h⟩ rfl rfl
  go_wp2_with fail
  clear cj fj HR1
  generalize (Y1.drewN q).setCell ⟨M,2,none⟩ (.int .i64 (n2:Int)) = Y2 at *
  clear Y1 q
  have cj:=HR2.out.mb.c3
  have fj:=HR2.out.mb.free 3
  refine (HN3.out Y2 (HRB.out.keep HR2.out.b)).mono ?_
  rintro e w2 ⟨rfl,q,rfl⟩
  have HR3:Hid (RS w ((Y2.drewN q).setCell ⟨M,3,none⟩ (.int .i64 (n3:Int))) M { zmk 8 with i:=(n1:Int),b:=(n2:Int),l:=(n3:Int) } [] []):=HR2.out.num q 3 _ rfl ⟨HR2.out.ok.r,HR2.out.ok.d,HR2.out.ok.h⟩ rfl rfl
  obtain ⟨hg1,hg2⟩:=hg
  have hm:=HR3.out.mb.cells
  have him:=info_msg HR3.out.ok
  have hone:=HR3.out.ok.one
  have hz:=HR3.out.z
  have hsz2:z40.size = (Mv.cs { zmk 8 with i:=(n1:Int),b:=(n2:Int),l:=(n3:Int) }).size:=HR3.out.ok.size.symm
  go_wp2_with (first |(refine wpList_load_row rfl 40 _ rfl M rfl 40 (Mv.cs { zmk 8 with i:=(n1:Int),b:=(n2:Int),l:=(n3:Int) }) (0,0) _ hm Tryz.underlying40 rfl him ?_) |(refine wpList_store_row rfl 40 _ _ rfl w.heap.size (Mv.cs { zmk 8 with i:=(n1:Int),b:=(n2:Int),l:=(n3:Int) }) rfl rfl 40 z40 hz him hsz2 hone ?_))
  exact bodyPost_ret (results_msg2 Tryz.results45 _ _ w.heap.size { zmk 8 with i:=(n1:Int),b:=(n2:Int),l:=(n3:Int) } rfl (MB.setRow (m:=zm) hz) HR3.out.ok) rfl (HR3.out.done HS.out.1 HS.out.2.1 HS.out.2.2.1 (HS.out.2.2.2 _ _))
set_option maxHeartbeats 2000000 in
set_option maxRecDepth 100000 in
theorem rDec_8b (w:World) (v:Value) (l:List UInt8) (hr:RB w v l) (hl1:0 < l.length) (hl2:l.length≤32768) (hk:((byt l 0).toNat:Int) = 8) (hsz:szdB 8 (l.length:Int) = true) (n1:Nat) (hn1:nm4 (l.drop 1) = n1) (n2:Nat) (hn2:nm4 (l.drop 5) = n2) (n3:Nat) (hn3:nm4 (l.drop 9) = n3) (h13:13≤l.length) (hE:decE l = 112) (hg:¬ (1≤(n3:Int)∧(n3:Int)≤16384)) :
    Calls Tryz.prog 45 #[v] w fun e w'=>DCR w w' e l:=by
  obtain ⟨b,off,c,rfl,_,hc⟩:=hr.cells hl1
  have c0:w.cell? ⟨b,off,none⟩ = some (.int .u8 8):=by rw [← hk]; exact hc 0 hl1
  have hb:b < w.heap.size:=World.block_lt_of_cell? w _ c0
  have b0:Below w.heap.size w (w.alloc (.cells z40 40)):=(Below.refl _ _).alloc (Nat.le_refl _) _
  have c1:(w.alloc (.cells z40 40)).cell? ⟨b,off,none⟩ = some (.int .u8 8):=(b0.cell (p:=⟨b,off,none⟩) hb).trans c0
  have hz:=heapNew w (.cells z40 40)
  clear hc hk
  have HRB:Hid (RB w (.slice (some ⟨b,off,none⟩) l.length c) l):=hr
  have HA:Hid (Below w.heap.size w (w.alloc (.cells z40 40))):=b0
  have HS:Hid (decE l = 112):=hE
  clear hE
  have HN1:Hid (RNC (.slice (some ⟨b,off,none⟩) l.length c) l 1 n1):=RNC.of (by omega) hl2 hn1
  clear hn1
  have HN2:Hid (RNC (.slice (some ⟨b,off,none⟩) l.length c) l 5 n2):=RNC.of (by omega) hl2 hn2
  clear hn2
  have HN3:Hid (RNC (.slice (some ⟨b,off,none⟩) l.length c) l 9 n3):=RNC.of (by omega) hl2 hn3
  clear hn3
  clear b0 c0 hr
  generalize hlen:l.length = n at *
  have HLEN:Hid (l.length = n):=hlen
  clear hlen
  go_enter Tryz.func45,Tryz.ntmps45
  go_wp2_with fail
  refine (knownT _ _).mono ?_
  rintro e w0 ⟨rfl,rfl⟩
  rw [show knownB 8 = true from rfl]
  go_wp2_with fail
  refine (rsizedT _ _ _ (by omega) (by omega)).mono ?_
  rintro e w0 ⟨rfl,rfl⟩
  rw [hsz]
  have HR:=RS.start 8 _ HA.out hz
  have hzn:=heapNew (w.alloc (.cells z40 40)) (.cells z40 40)
  have hki:=zk40_info 8
  have hko:=zk40_one 8
  have hkb:=zk40_built 8
  generalize w.alloc (.cells z40 40) = w0 at *
  clear c1
  go_wp2_with (first |(refine wpList_built rfl 40 _ rfl (zk40 (8:Int)) hkb ?_) |(refine wpList_store_row rfl 40 _ _ rfl w0.heap.size (zk40 (8:Int)) rfl rfl 40 z40 hzn hki rfl hko ?_))
  have HR0:Hid (RS w ((w0.alloc (.cells z40 40)).setRow w0.heap.size (zk40 (8:Int))) w0.heap.size (zmk (8:Int)) [] []):=HR
  clear HR hzn hki hko hkb hz
  generalize (w0.alloc (.cells z40 40)).setRow w0.heap.size (zk40 (8:Int)) = Y0 at *
  generalize w0.heap.size = M at *
  generalize (#[Value.int .i64 (8:Int),.int .i64 0,.int .i64 0,.int .i64 0,Value.slice none 0 0,.int .u8 0,.int .u8 0,.int .u8 0,.int .u8 0,.int .u8 0,.int .u8 0,.int .u8 0,.int .u8 0,.int .u8 0,.int .u8 0,.int .u8 0,.int .u8 0,.int .u8 0,.int .u8 0,.int .u8 0,.int .u8 0,.int .u8 0,.int .u8 0,.int .u8 0,.int .u8 0,.int .u8 0,.int .u8 0,.int .u8 0,.int .u8 0,.int .u8 0,.int .u8 0,.int .u8 0,.int .u8 0,.int .u8 0,.int .u8 0,.int .u8 0,.int .u8 0,.int .i64 0,.int .i64 0,Value.slice none 0 0]:Array Value) = zk at *
  refine (asksT2 _ _).mono ?_
  rintro e w9 ⟨rfl,rfl⟩
  rw [show asksB 8 = true from rfl]
  go_wp2_with fail
  have cj:=HR0.out.mb.c1
  have fj:=HR0.out.mb.free 1
  refine (HN1.out Y0 (HRB.out.keep HR0.out.b)).mono ?_
  rintro e w2 ⟨rfl,q,rfl⟩
  have HR1:Hid (RS w ((Y0.drewN q).setCell ⟨M,1,none⟩ (.int .i64 (n1:Int))) M { zmk 8 with i:=(n1:Int) } [] []):=HR0.out.num q 1 _ rfl ⟨HR0.out.ok.r,HR0.out.ok.d,HR0.out.ok.h⟩ rfl rfl
  go_wp2_with fail
  clear cj fj HR0
  generalize (Y0.drewN q).setCell ⟨M,1,none⟩ (.int .i64 (n1:Int)) = Y1 at *
  clear Y0 q
  have cj:=HR1.out.mb.c2
  have fj:=HR1.out.mb.free 2
  refine (HN2.out Y1 (HRB.out.keep HR1.out.b)).mono ?_
  rintro e w2 ⟨rfl,q,rfl⟩
  have HR2:Hid (RS w ((Y1.drewN q).setCell ⟨M,2,none⟩ (.int .i64 (n2:Int))) M { zmk 8 with i:=(n1:Int),b:=(n2:Int) } [] []):=HR1.out.num q 2 _ rfl ⟨HR1.out.ok.r,HR1.out.ok.d,HR1.out.ok.h⟩ rfl rfl
  go_wp2_with fail
  clear cj fj HR1
  generalize (Y1.drewN q).setCell ⟨M,2,none⟩ (.int .i64 (n2:Int)) = Y2 at *
  clear Y1 q
  have cj:=HR2.out.mb.c3
  have fj:=HR2.out.mb.free 3
  refine (HN3.out Y2 (HRB.out.keep HR2.out.b)).mono ?_
  rintro e w2 ⟨rfl,q,rfl⟩
  have HR3:Hid (RS w ((Y2.drewN q).setCell ⟨M,3,none⟩ (.int .i64 (n3:Int))) M { zmk 8 with i:=(n1:Int),b:=(n2:Int),l:=(n3:Int) } [] []):=HR2.out.num q 3 _ rfl ⟨HR2.out.ok.r,HR2.out.ok.d,HR2.out.ok.h⟩ rfl rfl
  have hz:=HR3.out.z
  by_cases hg1:1≤(n3:Int)
  · have hg2:16384 < (n3:Int):=by omega
    clear hg
    go_wp2_with (first |(refine wpList_store_row rfl 40 _ _ rfl w.heap.size z40 rfl rfl 40 z40 hz z40_info rfl z40_one ?_))
    exact bodyPost_ret (results_msg2 Tryz.results45 _ _ w.heap.size zm rfl (heapSetRow _ _ _ _ _ hz) zm_ok) rfl (DCR.err (by rw [HS.out]; decide) (by rw [HS.out]; rfl) (belowSetRow HR3.out.b (Nat.le_refl _) _))
  · have hg2:(n3:Int) < 1:=by omega
    clear hg
    go_wp2_with (first |(refine wpList_store_row rfl 40 _ _ rfl w.heap.size z40 rfl rfl 40 z40 hz z40_info rfl z40_one ?_))
    exact bodyPost_ret (results_msg2 Tryz.results45 _ _ w.heap.size zm rfl (heapSetRow _ _ _ _ _ hz) zm_ok) rfl (DCR.err (by rw [HS.out]; decide) (by rw [HS.out]; rfl) (belowSetRow HR3.out.b (Nat.le_refl _) _))
end Go.Proofs.YtfjjpbebnoghmaaGreatDoor
