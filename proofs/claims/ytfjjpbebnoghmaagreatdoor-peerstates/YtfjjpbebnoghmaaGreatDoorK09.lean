import Derived.Test.YtfjjpbebnoghmaaGreatDoorK00
import Derived.Test.YtfjjpbebnoghmaaGreatDoorK08
import Derived.Great.BuildSlice
import Derived.Test.YtfjjpbebnoghmaaGreatDoorK06
namespace Go.Proofs.YtfjjpbebnoghmaaGreatDoor
open Go.RowKit
theorem foldl_setN (N:Nat):∀ (xs:List Value) (k:Nat) (cs:Array Value),k + xs.length = cs.size→((xs.zipIdx k).foldl (fun cs (p:Value × Nat)=>cs.setIfInBounds (0 * N + p.2) p.1) cs).toList = cs.toList.take k ++ xs
  | [],k,cs,h=>by simp at h ⊢; rw [h, ← Array.length_toList,List.take_length]
  | x :: xs,k,cs,h=>by
    simp only [List.zipIdx_cons,List.foldl_cons]
    rw [foldl_setN N xs (k + 1) _ (by simp at h ⊢; omega)]
    have hk:k < cs.toList.length:=by simp at h ⊢; omega
    rw [Array.toList_setIfInBounds,Nat.zero_mul,Nat.zero_add,List.take_succ_eq_append_getElem (by simpa using hk),List.take_set_of_le (Nat.le_refl _)]
    simp
theorem fillN (N:Nat) (cs:Array Value) (hs:cs.size = N) (Z:Array Value) (hZ:Z.size = N):Instr.fill (fun i=>some (i * N,N)) Z [(0,.agg cs)] = some cs:=by
  have hc:(Value.agg cs).cells = cs:=rfl
  unfold Instr.fill
  simp only [hc,hs,hZ]
  rw [if_neg (by simp)]
  unfold Instr.fill
  congr 1
  apply Array.ext'
  rw [← Array.foldl_toList,Array.toList_zipIdx]
  have:=foldl_setN N cs.toList 0 Z (by rw [Array.length_toList,hs,hZ]; omega)
  rw [List.take_zero,List.nil_append] at this
  exact this
theorem build_hash {ops:Array Oper} {rest:List Oper} {o:Oper} {a:Act} {w:World} {Q:Exit→Act→World→Prop} (hg:o.guard = none) (x:Operand) (ho:o.op = .buildSlice 38 1 #[(0,x)]) (cs:Array Value) (hv:a.eval x = .agg cs) (hl:cs.size = 32)
    (h:wpList Tryz.prog ops Q rest (a.put o.dst (.slice (some ⟨w.heap.size,0,none⟩) 1 1)) (w.alloc (.cells cs 25))):wpList Tryz.prog ops Q (o :: rest) a w:=by
  obtain ⟨i0,hi,hz0,hz1,hz2⟩:=info_parts info_hashP
  refine wpList_buildSlice hg 38 25 1 _ ho cs i0 _ Tryz.underlying38 hi hz0 (by rw [hz1]; decide) (by rw [hz1]; decide) ?_ h
  rw [hz1]
  have e:(#[(0,x)].map fun (i,y)=>(i,a.eval y)).toList = [(0,.agg cs)]:=by simp [hv]
  rw [e]
  exact fillN 32 cs hl _ (by rw [Array.size_map,Array.size_range])
theorem append_hash {ops:Array Oper} {rest:List Oper} {o:Oper} {a:Act} {Q:Exit→Act→World→Prop} {w:World} {B:Nat} {sv:Value} {l r:List UInt8} (hgd:o.guard = none) (s x:Operand)
    (ho:o.op = .call { callee:=.builtin .append,args:=#[s,x],argTypes:=#[38,38] }) (hs:a.eval s = sv) (hown:OH B w sv l) (b:Nat) (hx:a.eval x = .slice (some ⟨b,0,none⟩) 1 1)
    (hc:w.heap[b]? = some (.cells (bc r) 25 (0,0))) (hr:r.length = 32) (hB:B≤w.heap.size) (hlim:l.length < 1000000)
    (h:∀ v' w',OH B w' v' (l ++ r)→Below B w w'→(∀ (k:Nat) (cs:Array Value) (t:TypeId),w.heap[k]? = some (.cells cs t (0,0))→t≠25→w'.heap[k]? = some (.cells cs t (0,0)))→wpList Tryz.prog ops Q rest (a.put o.dst v') w'):wpList Tryz.prog ops Q (o :: rest) a w:=by
  obtain ⟨i0,hi,hz0,hz1,hz2⟩:=info_parts info_hashP
  obtain ⟨n,hn,hown⟩:=hown
  refine wpList_append_own w hgd s x 38 ho B 25 i0 _ 32 32 Tryz.underlying38 hi hz0 hz1 hz2 rfl (by omega) sv n (Lib.byteCells l) hs hown ⟨b,0,none⟩ 1 1 (Lib.byteCells r) hx (by rw [bcl_len,hr]) (fun j u hu=>?_) (Lib.byteCells_one _) (by unfold maxLen; omega) (by omega) hB (fun v' w' h1 h2 _=>?_)
  · have hj':j < r.length:=by
      have:=(List.getElem?_eq_some_iff.1 hu).1
      rwa [bcl_len] at this
    rw [Addr.add_mid,Nat.zero_add,cell_bc hc j hj', ← hu,bcl_get r j hj']
  · refine h v' w' ⟨n + 1,by rw [List.length_append,hn,hr]; omega,?_⟩ ((Below.refl B w).grown h2 hB (fun k hk=>(World.ownsRow.lt hown k hk).1)) (fun k cs t hk ht=>?_)
    · rw [bcl_append]; exact h1
    · refine (h2.block k (Array.getElem?_eq_some_iff.1 hk).1 fun e'=>?_).trans hk
      rcases hown.2 with ⟨rfl,_⟩ | ⟨g,cap,cur,rfl,_,hg,_⟩
      · simp [Value.ownBlock] at e'
      · simp [Value.ownBlock] at e'
        subst e'
        rw [hk] at hg
        simp at hg
        exact ht hg.2
theorem RS.hash {w X X':World} {M:Nat} {m:Mv} {hb hb2:List UInt8} {v:Value} (h:RS w X M m [] hb) (hd:m.d = .slice none 0 0) (ho:OH w.heap.size X' v hb2) (hb':Below w.heap.size X X')
    (hrow:∀ (k:Nat) (cs:Array Value) (t:TypeId),X.heap[k]? = some (.cells cs t (0,0))→t≠25→X'.heap[k]? = some (.cells cs t (0,0))):RS w (X'.setCell ⟨M,39,none⟩ v) M { m with h:=v } [] hb2:=by
  have hm:MB X' M m:=hrow _ _ _ h.mb (by decide)
  have hz:=hrow _ _ _ h.z (by decide)
  have bb:=Besides.setCell X' M 39 v
  have b1:Below w.heap.size w X':=h.b.trans hb'
  exact ⟨⟨h.ok.r,h.ok.d,ho.form⟩,hm.set 39 _ (Mv.set39 h.ok _),(bb.block _ (Array.getElem?_eq_some_iff.1 hz).1 (Nat.ne_of_lt h.lt)).trans hz,bb.below b1 (Nat.le_of_lt h.lt) b1.size,h.lt,by show OW _ _ m.d []; rw [hd]; exact World.ownsRow_nil _ _ _ _,ho.besides hm bb⟩
set_option maxHeartbeats 2000000 in
set_option maxRecDepth 100000 in
theorem rDec_O (w:World) (v:Value) (l:List UInt8) (hr:RB w v l) (hl1:0 < l.length) (hl2:l.length≤32768) (k:Nat) (hk:(byt l 0).toNat = k) (hsh:64≤k) (hsz:szdB (k:Int) (l.length:Int) = true) (hE:decE l = 0) (hD:(decS l).D = l.drop 1) (hH:(decS l).hb = []) (hM:∀ d h,({ (decS l).m with d:=d,h:=h }:Mv) = { ({ zmk k with k:=1000,i:=(k:Int) }:Mv) with d:=d,h:=h }) :
    Calls Tryz.prog 45 #[v] w fun e w'=>DCR w w' e l:=by
  obtain ⟨b,off,c,rfl,_,hc⟩:=hr.cells hl1
  have c0:w.cell? ⟨b,off,none⟩ = some (.int .u8 (k:Int)):=by rw [← hk]; exact hc 0 hl1
  have hb:b < w.heap.size:=World.block_lt_of_cell? w _ c0
  have hk256:k < 256:=by have:=UInt8.toNat_lt (byt l 0); omega
  have b0:Below w.heap.size w (w.alloc (.cells z40 40)):=(Below.refl _ _).alloc (Nat.le_refl _) _
  have c1:(w.alloc (.cells z40 40)).cell? ⟨b,off,none⟩ = some (.int .u8 (k:Int)):=(b0.cell (p:=⟨b,off,none⟩) hb).trans c0
  have hz:=heapNew w (.cells z40 40)
  clear hc hk
  have HRB:Hid (RB w (.slice (some ⟨b,off,none⟩) l.length c) l):=hr
  have HA:Hid (Below w.heap.size w (w.alloc (.cells z40 40))):=b0
  have HS:Hid (decE l = 0∧(decS l).D = l.drop 1∧(decS l).hb = []∧∀ d h,({ (decS l).m with d:=d,h:=h }:Mv) = { ({ zmk k with k:=1000,i:=(k:Int) }:Mv) with d:=d,h:=h }):=⟨hE,hD,hH,hM⟩
  clear hE hD hH hM
  clear b0 c0 hr
  generalize hlen:l.length = n at *
  have HLEN:Hid (l.length = n):=hlen
  clear hlen
  go_enter Tryz.func45,Tryz.ntmps45
  go_wp2_with fail
  refine (rsizedT _ _ _ (by omega) (by omega)).mono ?_
  rintro e w0 ⟨rfl,rfl⟩
  rw [hsz]
  have HR:=RS.start (k:Int) _ HA.out hz
  have hzn:=heapNew (w.alloc (.cells z40 40)) (.cells z40 40)
  have hki:=zk40_info (k:Int)
  have hko:=zk40_one (k:Int)
  have hkb:=zk40_built (k:Int)
  generalize w.alloc (.cells z40 40) = w0 at *
  clear c1
  have d0:=HR.mb.c0
  have g0:=HR.mb.free 0
  have d1:=HR.mb.c1
  have g1:=HR.mb.free 1
  have HR0:Hid (RS w ((((w0.alloc (.cells z40 40)).setRow w0.heap.size (zk40 (k:Int))).setCell ⟨w0.heap.size,0,none⟩ (.int .i64 1000)).setCell ⟨w0.heap.size,1,none⟩ (.int .i64 (k:Int))) w0.heap.size { zmk k with k:=1000,i:=(k:Int) } [] []):=by
    have h1:RS w (((w0.alloc (.cells z40 40)).setRow w0.heap.size (zk40 (k:Int))).setCell ⟨w0.heap.size,0,none⟩ (.int .i64 1000)) w0.heap.size { zmk k with k:=1000 } [] []:=HR.move (Besides.setCell _ _ _ _) (HR.mb.set 0 _ rfl) ⟨HR.ok.r,HR.ok.d,HR.ok.h⟩ rfl rfl
    exact h1.move (Besides.setCell _ _ _ _) (h1.mb.set 1 _ rfl) ⟨HR.ok.r,HR.ok.d,HR.ok.h⟩ rfl rfl
  clear HR
  go_wp2_with (first |(refine wpList_built rfl 40 _ rfl (zk40 (k:Int)) hkb ?_) |(refine wpList_store_row rfl 40 _ _ rfl w0.heap.size (zk40 (k:Int)) rfl rfl 40 z40 hzn hki rfl hko ?_))
  clear hzn hki hko hkb hz d0 g0 d1 g1
  generalize (((w0.alloc (.cells z40 40)).setRow w0.heap.size (zk40 (k:Int))).setCell ⟨w0.heap.size,0,none⟩ (.int .i64 1000)).setCell ⟨w0.heap.size,1,none⟩ (.int .i64 (k:Int)) = Y0 at *
  generalize w0.heap.size = M at *
  generalize (#[Value.int .i64 (k:Int),.int .i64 0,.int .i64 0,.int .i64 0,Value.slice none 0 0,.int .u8 0,.int .u8 0,.int .u8 0,.int .u8 0,.int .u8 0,.int .u8 0,.int .u8 0,.int .u8 0,.int .u8 0,.int .u8 0,.int .u8 0,.int .u8 0,.int .u8 0,.int .u8 0,.int .u8 0,.int .u8 0,.int .u8 0,.int .u8 0,.int .u8 0,.int .u8 0,.int .u8 0,.int .u8 0,.int .u8 0,.int .u8 0,.int .u8 0,.int .u8 0,.int .u8 0,.int .u8 0,.int .u8 0,.int .u8 0,.int .u8 0,.int .u8 0,.int .i64 0,.int .i64 0,Value.slice none 0 0]:Array Value) = zk at *
  refine (rrestT Y0 _ l 1 (by have:=HLEN.out; omega) (by have:=HLEN.out; omega) (HRB.out.keep HR0.out.b)).mono ?_
  rintro e w2 ⟨v2,rfl,ho,bw⟩
  obtain ⟨va,vn,vc,rfl⟩:=ho.form3
  have HR1:Hid (RS w (w2.setCell ⟨M,4,none⟩ (.slice va vn vc)) M { { zmk k with k:=1000,i:=(k:Int) } with d:=.slice va vn vc } (l.drop 1) []):=HR0.out.data bw ho
  have cj:=(HR0.out.mb.below bw).c4
  have fj:=(HR0.out.mb.below bw).free 4
  clear ho bw
  have hm:=HR1.out.mb.cells
  have him:=info_msg HR1.out.ok
  have hone:=HR1.out.ok.one
  have hz:=HR1.out.z
  have hsz2:z40.size = (Mv.cs { zmk k with k:=1000,i:=(k:Int),d:=.slice va vn vc }).size:=HR1.out.ok.size.symm
  go_wp2_with (first |(refine wpList_load_row rfl 40 _ rfl M rfl 40 (Mv.cs { zmk k with k:=1000,i:=(k:Int),d:=.slice va vn vc }) (0,0) _ hm Tryz.underlying40 rfl him ?_) |(refine wpList_store_row rfl 40 _ _ rfl w.heap.size (Mv.cs { zmk k with k:=1000,i:=(k:Int),d:=.slice va vn vc }) rfl rfl 40 z40 hz him hsz2 hone ?_))
  exact bodyPost_ret (results_msg2 Tryz.results45 _ _ w.heap.size { zmk k with k:=1000,i:=(k:Int),d:=.slice va vn vc } rfl (MB.setRow (m:=zm) hz) HR1.out.ok) rfl (HR1.out.done HS.out.1 HS.out.2.1 HS.out.2.2.1 (HS.out.2.2.2 _ _))
set_option maxHeartbeats 2000000 in
set_option maxRecDepth 100000 in
theorem rDec_Q (w:World) (v:Value) (l:List UInt8) (hr:RB w v l) (hl1:0 < l.length) (hl2:l.length≤32768) (k:Nat) (hk:(byt l 0).toNat = k) (hsh:21≤k∧k≤23) (hsz:szdB (k:Int) (l.length:Int) = true) (n1:Nat) (hn1:nm4 (l.drop 33) = n1) (n2:Nat) (hn2:nm4 (l.drop 37) = n2) (n3:Nat) (hn3:nm4 (l.drop 41) = n3) (n4:Nat) (hn4:nm4 (l.drop 45) = n4) (R:List UInt8) (hR:(l.drop 1).take 32 = R) (N:Nat) (hN:l.length = 49 + 32 * N) (hE:decE l = 0) (hD:(decS l).D = []) (hH:(decS l).hb = l.drop 49) (hM:∀ d h,({ (decS l).m with d:=d,h:=h }:Mv) = { ({ zmk k with r:=R,ba:=(n1:Int),i:=(n2:Int),l:=(n3:Int),pr:=(n4:Int) }:Mv) with d:=d,h:=h }) :
    Calls Tryz.prog 45 #[v] w fun e w'=>DCR w w' e l:=by
  obtain ⟨b,off,c,rfl,_,hc⟩:=hr.cells hl1
  have c0:w.cell? ⟨b,off,none⟩ = some (.int .u8 (k:Int)):=by rw [← hk]; exact hc 0 hl1
  have hb:b < w.heap.size:=World.block_lt_of_cell? w _ c0
  have hk256:k < 256:=by have:=UInt8.toNat_lt (byt l 0); omega
  have b0:Below w.heap.size w (w.alloc (.cells z40 40)):=(Below.refl _ _).alloc (Nat.le_refl _) _
  have c1:(w.alloc (.cells z40 40)).cell? ⟨b,off,none⟩ = some (.int .u8 (k:Int)):=(b0.cell (p:=⟨b,off,none⟩) hb).trans c0
  have hz:=heapNew w (.cells z40 40)
  clear hc hk
  have HRB:Hid (RB w (.slice (some ⟨b,off,none⟩) l.length c) l):=hr
  have HA:Hid (Below w.heap.size w (w.alloc (.cells z40 40))):=b0
  have HS:Hid (decE l = 0∧(decS l).D = []∧(decS l).hb = l.drop 49∧∀ d h,({ (decS l).m with d:=d,h:=h }:Mv) = { ({ zmk k with r:=R,ba:=(n1:Int),i:=(n2:Int),l:=(n3:Int),pr:=(n4:Int) }:Mv) with d:=d,h:=h }):=⟨hE,hD,hH,hM⟩
  clear hE hD hH hM
  have HN1:Hid (RNC (.slice (some ⟨b,off,none⟩) l.length c) l 33 n1):=RNC.of (by omega) hl2 hn1
  clear hn1
  have HN2:Hid (RNC (.slice (some ⟨b,off,none⟩) l.length c) l 37 n2):=RNC.of (by omega) hl2 hn2
  clear hn2
  have HN3:Hid (RNC (.slice (some ⟨b,off,none⟩) l.length c) l 41 n3):=RNC.of (by omega) hl2 hn3
  clear hn3
  have HN4:Hid (RNC (.slice (some ⟨b,off,none⟩) l.length c) l 45 n4):=RNC.of (by omega) hl2 hn4
  clear hn4
  have HRT:Hid (∀ X,RB X (.slice (some ⟨b,off,none⟩) l.length c) l→Calls Tryz.prog 79 #[.slice (some ⟨b,off,none⟩) l.length c,.int .i64 1] X fun e w'=>e = .returned (.agg (bc R))∧Below X.heap.size X w'):=by
    intro X hX
    have h9:=rrootT X _ l 1 (by omega) (by omega) hX
    rw [hR] at h9
    exact h9
  have hRl:R.length = 32:=by rw [← hR,List.length_take,List.length_drop]; omega
  have HNN:Hid (l.length = 49 + 32 * N):=hN
  clear hR hN
  clear b0 c0 hr
  generalize hlen:l.length = n at *
  have HLEN:Hid (l.length = n):=hlen
  clear hlen
  go_enter Tryz.func45,Tryz.ntmps45
  go_wp2_with fail
  refine (knownT _ _).mono ?_
  rintro e w0 ⟨rfl,rfl⟩
  rw [show knownB (k:Int) = true by unfold knownB; simp; omega]
  go_wp2_with fail
  refine (rsizedT _ _ _ (by omega) (by omega)).mono ?_
  rintro e w0 ⟨rfl,rfl⟩
  rw [hsz]
  have HR:=RS.start (k:Int) _ HA.out hz
  have hzn:=heapNew (w.alloc (.cells z40 40)) (.cells z40 40)
  have hki:=zk40_info (k:Int)
  have hko:=zk40_one (k:Int)
  have hkb:=zk40_built (k:Int)
  generalize w.alloc (.cells z40 40) = w0 at *
  clear c1
  go_wp2_with (first |(refine wpList_built rfl 40 _ rfl (zk40 (k:Int)) hkb ?_) |(refine wpList_store_row rfl 40 _ _ rfl w0.heap.size (zk40 (k:Int)) rfl rfl 40 z40 hzn hki rfl hko ?_))
  have HR0:Hid (RS w ((w0.alloc (.cells z40 40)).setRow w0.heap.size (zk40 (k:Int))) w0.heap.size (zmk (k:Int)) [] []):=HR
  clear HR hzn hki hko hkb hz
  generalize (w0.alloc (.cells z40 40)).setRow w0.heap.size (zk40 (k:Int)) = Y0 at *
  generalize w0.heap.size = M at *
  generalize (#[Value.int .i64 (k:Int),.int .i64 0,.int .i64 0,.int .i64 0,Value.slice none 0 0,.int .u8 0,.int .u8 0,.int .u8 0,.int .u8 0,.int .u8 0,.int .u8 0,.int .u8 0,.int .u8 0,.int .u8 0,.int .u8 0,.int .u8 0,.int .u8 0,.int .u8 0,.int .u8 0,.int .u8 0,.int .u8 0,.int .u8 0,.int .u8 0,.int .u8 0,.int .u8 0,.int .u8 0,.int .u8 0,.int .u8 0,.int .u8 0,.int .u8 0,.int .u8 0,.int .u8 0,.int .u8 0,.int .u8 0,.int .u8 0,.int .u8 0,.int .u8 0,.int .i64 0,.int .i64 0,Value.slice none 0 0]:Array Value) = zk at *
  refine (asksT2 _ _).mono ?_
  rintro e w9 ⟨rfl,rfl⟩
  rw [show asksB (k:Int) = false by unfold asksB; simp; omega]
  go_wp2_with fail
  refine (queryT2 _ _).mono ?_
  rintro e w9 ⟨rfl,rfl⟩
  rw [show queryB (k:Int) = true by unfold queryB; simp; omega]
  go_wp2_with fail
  refine (HRT.out Y0 (HRB.out.keep HR0.out.b)).mono ?_
  rintro e w2 ⟨rfl,bw⟩
  have HR1:Hid (RS w (w2.setCells M 5 (bc R).toList) M { zmk k with r:=R } [] []):=HR0.out.root bw hRl
  have ht:w2.there M 5 (bc R).size:=by rw [bc_size,hRl]; exact (HR0.out.mb.below bw).there HR0.out.ok 5 32 (by omega)
  have hiR:(Tryz.prog.info? 25).map (·.size) = some (bc R).size:=by rw [bc_size,hRl]; exact info_hash
  have hoR:=bc_one R
  clear bw HR0
  go_wp2_with (first |(refine wpList_store_mid rfl 25 _ _ rfl M 5 (bc R) rfl rfl ht hiR hoR ?_))
  generalize w2.setCells M 5 (bc R).toList = Y1 at *
  clear ht hiR hoR
  have cj:=HR1.out.mb.c37 HR1.out.ok
  have fj:=HR1.out.mb.free 37
  refine (HN1.out Y1 (HRB.out.keep HR1.out.b)).mono ?_
  rintro e w2 ⟨rfl,q,rfl⟩
  have HR2:Hid (RS w ((Y1.drewN q).setCell ⟨M,37,none⟩ (.int .i64 (n1:Int))) M { zmk k with r:=R,ba:=(n1:Int) } [] []):=HR1.out.num q 37 _ (Mv.set37 HR1.out.ok _) ⟨HR1.out.ok.r,HR1.out.ok.d,HR1.out.ok.h⟩ rfl rfl
  go_wp2_with fail
  clear cj fj HR1
  generalize (Y1.drewN q).setCell ⟨M,37,none⟩ (.int .i64 (n1:Int)) = Y2 at *
  clear Y1 q
  have cj:=HR2.out.mb.c1
  have fj:=HR2.out.mb.free 1
  refine (HN2.out Y2 (HRB.out.keep HR2.out.b)).mono ?_
  rintro e w2 ⟨rfl,q,rfl⟩
  have HR3:Hid (RS w ((Y2.drewN q).setCell ⟨M,1,none⟩ (.int .i64 (n2:Int))) M { zmk k with r:=R,ba:=(n1:Int),i:=(n2:Int) } [] []):=HR2.out.num q 1 _ rfl ⟨HR2.out.ok.r,HR2.out.ok.d,HR2.out.ok.h⟩ rfl rfl
  go_wp2_with fail
  clear cj fj HR2
  generalize (Y2.drewN q).setCell ⟨M,1,none⟩ (.int .i64 (n2:Int)) = Y3 at *
  clear Y2 q
  have cj:=HR3.out.mb.c3
  have fj:=HR3.out.mb.free 3
  refine (HN3.out Y3 (HRB.out.keep HR3.out.b)).mono ?_
  rintro e w2 ⟨rfl,q,rfl⟩
  have HR4:Hid (RS w ((Y3.drewN q).setCell ⟨M,3,none⟩ (.int .i64 (n3:Int))) M { zmk k with r:=R,ba:=(n1:Int),i:=(n2:Int),l:=(n3:Int) } [] []):=HR3.out.num q 3 _ rfl ⟨HR3.out.ok.r,HR3.out.ok.d,HR3.out.ok.h⟩ rfl rfl
  go_wp2_with fail
  clear cj fj HR3
  generalize (Y3.drewN q).setCell ⟨M,3,none⟩ (.int .i64 (n3:Int)) = Y4 at *
  clear Y3 q
  have cj:=HR4.out.mb.c38 HR4.out.ok
  have fj:=HR4.out.mb.free 38
  refine (HN4.out Y4 (HRB.out.keep HR4.out.b)).mono ?_
  rintro e w2 ⟨rfl,q,rfl⟩
  have HR5:Hid (RS w ((Y4.drewN q).setCell ⟨M,38,none⟩ (.int .i64 (n4:Int))) M { zmk k with r:=R,ba:=(n1:Int),i:=(n2:Int),l:=(n3:Int),pr:=(n4:Int) } [] []):=HR4.out.num q 38 _ (Mv.set38 HR4.out.ok _) ⟨HR4.out.ok.r,HR4.out.ok.d,HR4.out.ok.h⟩ rfl rfl
  go_wp2_with fail
  clear cj fj HR4
  generalize (Y4.drewN q).setCell ⟨M,38,none⟩ (.int .i64 (n4:Int)) = Y5 at *
  clear Y4 q
  have hnN:n = 49 + 32 * N:=HNN.out
  have HST:Hid (∃ hv,RS w Y5 M { zmk k with r:=R,ba:=(n1:Int),i:=(n2:Int),l:=(n3:Int),pr:=(n4:Int),h:=hv } [] ((l.drop 49).take (32 * 0))):=⟨_,HR5.out⟩
  clear HN1 HN2 HN3 HN4 HRT HR5
  have HI3:Hid (n = 49 + 32 * N):=hnN
  clear hnN
  go_loopw [6] (fun t wr=>∃ j:Nat,j≤N∧t = .int .i64 ((49 + 32 * j:Nat):Int)∧Hid (∃ hv,RS w wr M { zmk k with r:=R,ba:=(n1:Int),i:=(n2:Int),l:=(n3:Int),pr:=(n4:Int),h:=hv } [] ((l.drop 49).take (32 * j)))) (fun t _=>n - (intOf t).toNat)
  case atStart=>exact ⟨0,by omega,rfl,HST⟩
  case round =>
    obtain ⟨j,hj,rfl,hI⟩:=hrel
    by_cases hlt:j < N
    · obtain ⟨hv,HV0⟩:=hI.out
      have HV:Hid (RS w wr M { zmk k with r:=R,ba:=(n1:Int),i:=(n2:Int),l:=(n3:Int),pr:=(n4:Int),h:=hv } [] ((l.drop 49).take (32 * j))):=HV0
      obtain ⟨ha,hn,hc,rfl⟩:=HV0.h.form
      have hin:49 + 32 * j < n:=by have:=HI3.out; omega
      have HRT2:Hid (Calls Tryz.prog 79 #[.slice (some ⟨b,off,none⟩) n c,.int .i64 ((49 + 32 * j:Nat):Int)] wr fun e w'=>e = .returned (.agg (bc ((l.drop (49 + 32 * j)).take 32)))∧Below wr.heap.size wr w'):=by
        have h9:=rrootT wr _ l (49 + 32 * j) (by have:=HLEN.out; have:=HI3.out; omega) (by have:=HLEN.out; omega) (HRB.out.keep HV0.b)
        exact h9
      have HR2:Hid (((l.drop (49 + 32 * j)).take 32).length = 32∧(l.drop 49).take (32 * (j + 1)) = (l.drop 49).take (32 * j) ++ (l.drop (49 + 32 * j)).take 32):=by
        refine ⟨by rw [List.length_take,List.length_drop]; have:=HLEN.out; have:=HI3.out; omega,?_⟩
        rw [show 32 * (j + 1) = 32 * j + 32 by omega,List.take_add,List.drop_drop]
      clear HV0 hI
      generalize (l.drop (49 + 32 * j)).take 32 = R2 at *
      generalize hi:49 + 32 * j = i at *
      go_wp2_with fail
      refine HRT2.out.mono ?_
      rintro e w3 ⟨rfl,b3⟩
      have hR2:=HR2.out.1
      have hiR:(Tryz.prog.info? 25).map (·.size) = some (bc R2).size:=by rw [bc_size,hR2]; exact info_hash
      have hoR:=bc_one R2
      have hsR:z32a.size = (bc R2).size:=by rw [bc_size,hR2]; rfl
      have hg3:=heapNew w3 (.cells z32a 25)
      have hg4:=heapSetRow _ _ _ (bc R2) _ hg3
      have bX:Below w3.heap.size w3 ((w3.alloc (.cells z32a 25)).setRow w3.heap.size (bc R2)):=belowSetRow ((Below.refl _ _).alloc (Nat.le_refl _) _) (Nat.le_refl _) _
      have HV3:Hid (RS w ((w3.alloc (.cells z32a 25)).setRow w3.heap.size (bc R2)) M { zmk k with r:=R,ba:=(n1:Int),i:=(n2:Int),l:=(n3:Int),pr:=(n4:Int),h:=.slice ha hn hc } [] ((l.drop 49).take (32 * j))):=(HV.out.below b3).below bX
      have c39:=HV3.out.mb.c39 HV3.out.ok
      have f39:=HV3.out.mb.free 39
      have hsz32:(bc R2).size = 32:=by rw [bc_size,hR2]
      have HV4:Hid (RS w (((w3.alloc (.cells z32a 25)).setRow w3.heap.size (bc R2)).alloc (.cells (bc R2) 25)) M { zmk k with r:=R,ba:=(n1:Int),i:=(n2:Int),l:=(n3:Int),pr:=(n4:Int),h:=.slice ha hn hc } [] ((l.drop 49).take (32 * j))∧(((w3.alloc (.cells z32a 25)).setRow w3.heap.size (bc R2)).alloc (.cells (bc R2) 25)).heap[((w3.alloc (.cells z32a 25)).setRow w3.heap.size (bc R2)).heap.size]? = some (.cells (bc R2) 25 (0,0))∧R2.length = 32∧((l.drop 49).take (32 * j)).length < 1000000):=⟨HV3.out.below ((Below.refl _ _).alloc (Nat.le_refl _) _),heapNew _ _,hR2,by rw [List.length_take,List.length_drop]; have:=HLEN.out; omega⟩
      clear b3 bX HRT2
      go_wp2_with (first |(refine wpList_store_row rfl 25 _ _ rfl w3.heap.size (bc R2) rfl rfl 25 z32a hg3 hiR hsR hoR ?_) |(refine wpList_load_row rfl 25 _ rfl w3.heap.size rfl 25 (bc R2) (0,0) _ hg4 Tryz.underlying25 rfl hiR ?_) |(refine build_hash rfl _ rfl (bc R2) rfl hsz32 ?_) |(at_builtin; refine append_hash rfl _ _ rfl rfl HV4.out.1.h ((w3.alloc (.cells z32a 25)).setRow w3.heap.size (bc R2)).heap.size rfl HV4.out.2.1 HV4.out.2.2.1 HV4.out.1.b.size HV4.out.2.2.2 ?_; intro v5 w5 o5 b5 r5; obtain ⟨va,vn,vc,rfl⟩:=o5.form; have m5:MB w5 M _:=r5 _ _ _ HV4.out.1.mb (by decide); have t39:=m5.c39 HV4.out.1.ok; have g39:=m5.free 39; have HV5:Hid (RS w (w5.setCell ⟨M,39,none⟩ (.slice va vn vc)) M { zmk k with r:=R,ba:=(n1:Int),i:=(n2:Int),l:=(n3:Int),pr:=(n4:Int),h:=.slice va vn vc } [] ((l.drop 49).take (32 * j) ++ R2)):=HV4.out.1.hash rfl o5 b5 r5; clear m5 o5 b5 r5))
      refine ⟨⟨j + 1,by omega,by rw [show 49 + 32 * (j + 1) = i + 32 by omega]; go_num,⟨_,by rw [HR2.out.2]; exact HV5.out⟩⟩,by simp [intOf]; omega⟩
    · obtain rfl:j = N:=by omega
      obtain ⟨hv,HV0⟩:=hI.out
      have HV:Hid (RS w wr M { zmk k with r:=R,ba:=(n1:Int),i:=(n2:Int),l:=(n3:Int),pr:=(n4:Int),h:=hv } [] (l.drop 49)):=by
        rw [List.take_of_length_le (by rw [List.length_drop]; have:=HLEN.out; have:=HI3.out; omega)] at HV0
        exact HV0
      clear HV0 hI
      have hin:¬ 49 + 32 * j < n:=by have:=HI3.out; omega
      generalize hi:49 + 32 * j = i at *
      have hm:=HV.out.mb.cells
      have him:=info_msg HV.out.ok
      have hone:=HV.out.ok.one
      have hz:=HV.out.z
      have hsz2:z40.size = (Mv.cs { zmk k with r:=R,ba:=(n1:Int),i:=(n2:Int),l:=(n3:Int),pr:=(n4:Int),h:=hv }).size:=HV.out.ok.size.symm
      go_wp2_with (first |(refine wpList_load_row rfl 40 _ rfl M rfl 40 (Mv.cs { zmk k with r:=R,ba:=(n1:Int),i:=(n2:Int),l:=(n3:Int),pr:=(n4:Int),h:=hv }) (0,0) _ hm Tryz.underlying40 rfl him ?_) |(refine wpList_store_row rfl 40 _ _ rfl w.heap.size (Mv.cs { zmk k with r:=R,ba:=(n1:Int),i:=(n2:Int),l:=(n3:Int),pr:=(n4:Int),h:=hv }) rfl rfl 40 z40 hz him hsz2 hone ?_))
      exact bodyPost_ret (results_msg2 Tryz.results45 _ _ w.heap.size { zmk k with r:=R,ba:=(n1:Int),i:=(n2:Int),l:=(n3:Int),pr:=(n4:Int),h:=hv } rfl (MB.setRow (m:=zm) hz) HV.out.ok) rfl (HV.out.done HS.out.1 HS.out.2.1 HS.out.2.2.1 (HS.out.2.2.2 _ _))
theorem fit_of {r:Kr} {n:Nat} (h:r.fit (n:Int) = true):r.le≤(n:Int)∧(n:Int)≤r.mo∧((n:Int) - r.le) % r.st = 0:=by
  unfold Kr.fit at h
  simpa [and_assoc] using h
end Go.Proofs.YtfjjpbebnoghmaaGreatDoor
