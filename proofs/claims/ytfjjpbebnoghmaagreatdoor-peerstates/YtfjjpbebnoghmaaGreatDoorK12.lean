import Derived.Test.YtfjjpbebnoghmaaGreatDoorK00
import Derived.Test.YtfjjpbebnoghmaaGreatDoorK11
import Derived.Laws.BytesString
import Derived.Laws.BitsAllLaws
import Derived.Laws.IdiomCopy
namespace Go.Proofs.YtfjjpbebnoghmaaGreatDoor.Fm
open Go.RowKit Go.Proofs.YtfjjpbebnoghmaaGreatDoor
def sgn:List UInt8:=[19,66,105,116,84,111,114,114,101,110,116,32,112,114,111,116,111,99,111,108]
theorem byt_left (a b:List UInt8) (k:Nat) (h:k < a.length):byt (a ++ b) k = byt a k:=by simp [byt,List.getD,List.getElem?_append_left h]
theorem byt_right (a b:List UInt8) (k:Nat) (h:a.length≤k):byt (a ++ b) k = byt b (k - a.length):=by simp [byt,List.getD,List.getElem?_append_right h]
def sok (l:List UInt8) (p:Nat):Bool:=l.take (20 - p) == (sgn.drop p).take l.length
theorem _root_.Go.Proofs.YtfjjpbebnoghmaaGreatDoor.RB.take {w:World} {a:Option Addr} {c:Nat} {l:List UInt8} (h:RB w (.slice a l.length c) l) (n:Nat) (hn:n≤l.length):RB w (.slice a n c) (l.take n):=by
  obtain ⟨a',c',e,hle,h⟩:=h
  have hl:(l.take n).length = n:=by rw [List.length_take]; omega
  simp only [Value.slice.injEq] at e
  obtain ⟨rfl,_,rfl⟩:=e
  refine ⟨a,c,by rw [hl],by rw [hl]; omega,?_⟩
  rcases h with rfl | ⟨g,o,rfl,h2,h3⟩
  · exact .inl (by simp)
  · refine .inr ⟨g,o,rfl,h2,fun i hi=>?_⟩
    rw [hl] at hi
    rw [byt_take _ _ _ hi]
    exact h3 i (by omega)
theorem foldl_push (ns:List UInt8) (s:ByteArray):(ns.map fun x=>(x.toNat:Int)).foldl (fun r n=>r.push (UInt8.ofNat n.toNat)) s = ⟨s.data ++ ns.toArray⟩:=by
  induction ns generalizing s with
  | nil=>simp
  | cons x ns ih =>
    rw [List.map_cons,List.foldl_cons,ih]
    simp [ByteArray.push]
theorem conv_rb {w:World} {v:Value} {l:List UInt8} (h:RB w v l):(convert 37 9 v).run Tryz.prog w = .ok (.string ⟨l.toArray⟩) w:=by
  obtain ⟨a,cap,rfl,_,h⟩:=h
  rw [run_convert_bytes_string w 37 9 5 a _ cap Tryz.underlying37 Tryz.underlying5 Tryz.underlying9]
  cases a with
  | none =>
    rcases h with rfl | ⟨b,o,h,_⟩
    · rfl
    · cases h
  | some a =>
    have hl:=run_loadCells_list (P:=Tryz.prog) w a (Lib.byteCells l) (fun j v hj=>by
      have hj':j < l.length:=by
        have:=(List.getElem?_eq_some_iff.1 hj).1
        rwa [bcl_len] at this
      rcases h with rfl | ⟨b,o,h,_,hc⟩
      · simp at hj'
      · simp only [Option.some.injEq] at h
        subst h
        have hadd:(⟨b,o,none⟩:Addr).add j = ⟨b,o + j,none⟩:=by unfold Addr.add; split <;> simp_all
        rw [hadd,hc j hj',getD_byt l j hj']
        simpa [Lib.byteCells,List.getElem?_eq_getElem hj'] using hj)
    have e:Lib.byteCells l = (l.map fun x=>(x.toNat:Int)).map (Value.int .u8):=by simp [Lib.byteCells]
    rw [bcl_len,e] at hl
    rw [run_bytesToString w a l.length cap _ hl,foldl_push]
    simp
theorem ext_fin:∀ (p m:Fin 21),((({ data:=#[19,66,105,116,84,111,114,114,101,110,116,32,112,114,111,116,111,99,111,108] }:ByteArray).extract p.val 20).extract 0 m.val).data.toList = (sgn.drop p.val).take m.val:=by decide +kernel
theorem ext_list (p m:Nat) (hp:p≤20) (hm:m≤20):((({ data:=#[19,66,105,116,84,111,114,114,101,110,116,32,112,114,111,116,111,99,111,108] }:ByteArray).extract p 20).extract 0 m).toList = (sgn.drop p).take m:=by
  rw [ByteArray.toList_eq]
  exact ext_fin ⟨p,by omega⟩ ⟨m,by omega⟩
theorem sok_all (l:List UInt8) (p:Nat) (h:20 - p≤l.length):sok l p = (l.take (20 - p) == (sgn.drop p).take (20 - p)):=by
  have e:(sgn.drop p).length = 20 - p:=by simp [sgn]
  unfold sok
  rw [List.take_of_length_le (i:=l.length) (by omega),List.take_of_length_le (i:=20 - p) (l:=sgn.drop p) (by omega)]
theorem sok_few (l:List UInt8) (p:Nat) (h:l.length≤20 - p):sok l p = (l == (sgn.drop p).take l.length):=by
  unfold sok
  rw [List.take_of_length_le h]
theorem sok_none (l:List UInt8) (p:Nat) (h:20≤p):sok l p = true:=by
  unfold sok
  rw [show 20 - p = 0 by omega,List.drop_eq_nil_of_le (by simp [sgn]; omega)]
  simp
theorem _root_.Go.Proofs.YtfjjpbebnoghmaaGreatDoor.RB.le {w:World} {a:Option Addr} {c n:Nat} {l:List UInt8} (h:RB w (.slice a n c) l):n≤c:=by
  obtain ⟨_,_,e,h,_⟩:=h
  cases e; exact h
theorem ret_bool {a b:Bool} (h:a = b):Ending.returned (.bool a) = .returned (.bool b):=by rw [h]
set_option maxHeartbeats 1000000 in
theorem signed_a (a:Option Addr) (c:Nat) (l:List UInt8) (p:Nat) (hp:p≤20) (hn:20 - p < l.length) (_hl:l.length≤140737488351232) (w:World) (hr:RB w (.slice a l.length c) l) :
    Calls Tryz.prog 63 #[.slice a l.length c,.int .i64 p] w fun e w'=>e = .returned (.bool (sok l p))∧∃ n,w' = w.drewN n:=by
  have hcv:=conv_rb ((hr.take (20 - p) (by omega)).keep (Below.refl w.heap.size w).drew)
  have hle:=hr.le
  have h20:20≤c + p:=by omega
  clear hr
  go_enter Tryz.func63,Tryz.ntmps63
  go_wp2
  go_region
  go_wp2
  go_ret
  exact ⟨ret_bool (by rw [ext_list _ _ hp (by omega),sok_all _ _ (by omega)]),1,rfl⟩
set_option maxHeartbeats 1000000 in
theorem signed_b (a:Option Addr) (c:Nat) (l:List UInt8) (p:Nat) (hp:p≤20) (hn:¬ 20 - p < l.length) (w:World) (hr:RB w (.slice a l.length c) l) :
    Calls Tryz.prog 63 #[.slice a l.length c,.int .i64 p] w fun e w'=>e = .returned (.bool (sok l p))∧∃ n,w' = w.drewN n:=by
  have hcv:=conv_rb (hr.keep (Below.refl w.heap.size w).drew)
  have hle:=hr.le
  have hl:l.length≤20:=by omega
  clear hr
  go_enter Tryz.func63,Tryz.ntmps63
  go_wp2
  go_region
  go_wp2
  go_ret
  exact ⟨ret_bool (by rw [ext_list _ _ hp hl,sok_few _ _ (by omega)]),1,rfl⟩
set_option maxHeartbeats 1000000 in
theorem signed_c (a:Option Addr) (c:Nat) (l:List UInt8) (p:Nat) (hp:20 < p) (hp2:p≤140737488351232) (w:World) (hr:RB w (.slice a l.length c) l) :
    Calls Tryz.prog 63 #[.slice a l.length c,.int .i64 p] w fun e w'=>e = .returned (.bool (sok l p))∧∃ n,w' = w.drewN n:=by
  have hcv:=conv_rb ((hr.take 0 (by omega)).keep (Below.refl w.heap.size w).drew)
  simp only [List.take_zero] at hcv
  have hle:=hr.le
  rw [sok_none l p (by omega)]
  clear hr
  by_cases h0:0 < l.length
  · go_enter Tryz.func63,Tryz.ntmps63
    go_wp2
    go_region
    go_wp2
    go_ret
    exact ⟨rfl,1,rfl⟩
  · have h00:l.length = 0:=by omega
    rw [h00] at *
    go_enter Tryz.func63,Tryz.ntmps63
    go_wp2
    go_region
    go_wp2
    go_ret
    exact ⟨rfl,1,rfl⟩
theorem signed (v:Value) (l:List UInt8) (p:Nat) (hp:p≤140737488351232) (hl:l.length≤140737488351232) (w:World) (hr:RB w v l) :
    Calls Tryz.prog 63 #[v,.int .i64 p] w fun e w'=>e = .returned (.bool (sok l p))∧∃ n,w' = w.drewN n:=by
  have hr':=hr
  obtain ⟨a,c,rfl,_,_⟩:=hr
  by_cases h:p≤20
  · by_cases h2:20 - p < l.length
    · exact signed_a a c l p h h2 hl w hr'
    · exact signed_b a c l p h h2 w hr'
  · exact signed_c a c l p (by omega) hp w hr'
end Go.Proofs.YtfjjpbebnoghmaaGreatDoor.Fm
namespace Go.Proofs.YtfjjpbebnoghmaaGreatDoor.Fm
open Go.RowKit Go.Proofs.YtfjjpbebnoghmaaGreatDoor
def hel (l:List UInt8):List UInt8:=(l.drop 20).take 48
theorem hel_len (l:List UInt8) (h:68≤l.length):(hel l).length = 48:=by unfold hel; rw [List.length_take,List.length_drop]; omega
theorem info_hello {hb:List UInt8} (hl:hb.length = 48):(Tryz.prog.info? 97).map (·.size) = some (bc hb).size:=by rw [bc_size,hl]; kernel_rfl
set_option maxRecDepth 100000 in
theorem results_hello {fn:Func} {p:Tmp} (h:fn.results = #[.cell p 97]) (tmps:Array Value) (w:World) (g:Nat) (hb:List UInt8)
    (hp:tmps.getD p undef = .pointer (some ⟨g,0,none⟩)) (hg:w.heap[g]? = some (.cells (bc hb) 97 (0,0))) (hs:hb.length = 48):(results fn tmps).run Tryz.prog w = .ok (.agg (bc hb)) w:=by
  have hp':tmps[p]?.getD undef = .pointer (some ⟨g,0,none⟩):=by simpa using hp
  simp [results,h,hp',asAddr,run_loadVar_row w g 97 97 (bc hb) (0,0) _ hg Tryz.underlying97 rfl (info_hello hs)]
set_option maxRecDepth 100000 in
theorem results_hello2 {fn:Func} {p q:Tmp} (h:fn.results = #[.cell p 97,.tmp q]) (tmps:Array Value) (w:World) (g:Nat) (hb:List UInt8)
    (hp:tmps.getD p undef = .pointer (some ⟨g,0,none⟩)) (hg:w.heap[g]? = some (.cells (bc hb) 97 (0,0))) (hs:hb.length = 48):(results fn tmps).run Tryz.prog w = .ok (.tuple #[.agg (bc hb),tmps.getD q undef]) w:=by
  have hp':tmps[p]?.getD undef = .pointer (some ⟨g,0,none⟩):=by simpa using hp
  simp [results,h,hp',asAddr,run_loadVar_row w g 97 97 (bc hb) (0,0) _ hg Tryz.underlying97 rfl (info_hello hs)]
theorem z48:(#[.int .u8 0,.int .u8 0,.int .u8 0,.int .u8 0,.int .u8 0,.int .u8 0,.int .u8 0,.int .u8 0,.int .u8 0,.int .u8 0,.int .u8 0,.int .u8 0,.int .u8 0,.int .u8 0,.int .u8 0,.int .u8 0,.int .u8 0,.int .u8 0,.int .u8 0,.int .u8 0,.int .u8 0,.int .u8 0,.int .u8 0,.int .u8 0,.int .u8 0,.int .u8 0,.int .u8 0,.int .u8 0,.int .u8 0,.int .u8 0,.int .u8 0,.int .u8 0,.int .u8 0,.int .u8 0,.int .u8 0,.int .u8 0,.int .u8 0,.int .u8 0,.int .u8 0,.int .u8 0,.int .u8 0,.int .u8 0,.int .u8 0,.int .u8 0,.int .u8 0,.int .u8 0,.int .u8 0,.int .u8 0]:Array Value) = bc (zr 48):=rfl
set_option maxHeartbeats 1000000 in
set_option maxRecDepth 100000 in
theorem hello (v:Value) (l:List UInt8) (hl:68≤l.length) (hl2:l.length≤140737488351232) (w:World) (hr:RB w v l) :
    Calls Tryz.prog 67 #[v] w fun e w'=>e = .returned (.agg (bc (hel l)))∧Below w.heap.size w w':=by
  obtain ⟨a,c,rfl,hlc,hr⟩:=hr
  rcases hr with rfl | ⟨b,o,rfl,hb,hc⟩
  · simp at hl
  have hg:((w.alloc (.cells (bc (zr 48)) 97)).alloc (.cells (bc (zr 48)) 97)).heap[w.heap.size + 1]? = some (.cells (bc (zr 48)) 97 (0,0)):=by
    have:=heapNew (w.alloc (.cells (bc (zr 48)) 97)) (.cells (bc (zr 48)) 97)
    simpa using this
  have hh:((w.alloc (.cells (bc (zr 48)) 97)).alloc (.cells (bc (zr 48)) 97)).heap[w.heap.size]? = some (.cells (bc (zr 48)) 97 (0,0)):=by
    rw [heapOld _ _ _ (by simp),heapNew]
  have B0:Below w.heap.size w ((w.alloc (.cells (bc (zr 48)) 97)).alloc (.cells (bc (zr 48)) 97)):=((Below.refl _ _).alloc (Nat.le_refl _) _).alloc (by simp) _
  have src:∀ (W:World) (q n:Nat),Below w.heap.size w W→q + n≤l.length→∀ i,i < ((l.drop q).take n).length→W.cell? ⟨b,o + q + i,none⟩ = some (.int .u8 ((byt ((l.drop q).take n) i).toNat:Int)):=by
    intro W q n hW hq i hi
    rw [cut_len l q n hq] at hi
    rw [byt_take _ _ _ hi,byt_drop,Nat.add_assoc]
    exact (hW.cell (p:=⟨b,o + (q + i),none⟩) hb).trans (hc (q + i) (by omega))
  obtain ⟨W1,c1,hb1,hk1,B1⟩:=copy_out w (World.drew ((w.alloc (.cells (bc (zr 48)) 97)).alloc (.cells (bc (zr 48)) 97))) (w.heap.size + 1) 0 8 b (o + 20) (zr 48) ((l.drop 20).take 8) 97 hg (by omega) (cut_len l 20 8 (by omega)) (src _ 20 8 B0.drew (by omega)) (by simp [zr_len]) B0.drew
  rw [List.take_zero,List.nil_append,Nat.zero_add] at hb1
  obtain ⟨W2,c2,hb2,hk2,B2⟩:=copy_out w W1.drew (w.heap.size + 1) 8 20 b (o + 28) _ ((l.drop 28).take 20) 97 hb1 (by omega) (cut_len l 28 20 (by omega)) (src _ 28 20 B1.drew (by omega)) (by rw [List.length_append,cut_len l 20 8 (by omega),List.length_drop,zr_len]; omega) B1.drew
  rw [splice_at (o:=8) (cut_len l 20 8 (by omega)) (cut_len l 28 20 (by omega)),cut_join l 20 8 20] at hb2
  obtain ⟨W3,c3,hb3,hk3,B3⟩:=copy_out w W2.drew (w.heap.size + 1) 28 20 b (o + 48) _ ((l.drop 48).take 20) 97 hb2 (by omega) (cut_len l 48 20 (by omega)) (src _ 48 20 B2.drew (by omega)) (by rw [List.length_append,cut_len l 20 28 (by omega),List.length_drop,List.length_drop,zr_len]; omega) B2.drew
  rw [splice_at (o:=28) (cut_len l 20 28 (by omega)) (cut_len l 48 20 (by omega)),cut_join l 20 28 20] at hb3
  have hz:List.drop 20 (List.drop 20 (List.drop 8 (zr 48))) = []:=List.drop_eq_nil_of_le (by simp [zr_len])
  rw [hz,List.append_nil] at hb3
  have hG:W3.heap[w.heap.size + 1]? = some (.cells (bc (hel l)) 97 (0,0)):=hb3
  have hR:W3.heap[w.heap.size]? = some (.cells (bc (zr 48)) 97 (0,0)):=by
    rw [hk3 _ (by omega)]
    show W2.heap[_]? = _
    rw [hk2 _ (by omega)]
    show W1.heap[_]? = _
    rw [hk1 _ (by omega)]
    exact hh
  have hlen:=hel_len l hl
  have HE:Hid ((hel l).length = 48∧Below w.heap.size w (W3.setRow w.heap.size (bc (hel l)))∧(W3.setRow w.heap.size (bc (hel l))).heap[w.heap.size]? = some (.cells (bc (hel l)) 97 (0,0))):=⟨hlen,belowSetRow B3 (Nat.le_refl _) _,heapSetRow _ _ _ _ _ hR⟩
  have d1:=c1 3 8 (l.length - 20) (c - 20) (by omega)
  have d2:=c2 3 20 (l.length - 28) (c - 28) (by omega)
  have d3:=c3 3 20 (l.length - 48) (c - 48) (by omega)
  have a1:(20:Int)≤l.length:=by omega
  have a2:(28:Int)≤l.length:=by omega
  have a3:(48:Int)≤l.length:=by omega
  have hs48:(bc (zr 48)).size = (bc (hel l)).size:=by rw [bc_size,bc_size,hlen,zr_len]
  have hi:=info_hello hlen
  have h1:=bc_one (hel l)
  clear hb1 hk1 B1 hb2 hk2 B2 hb3 hk3 B3 hz hh hg B0 src hc hb c1 c2 c3 hlen
  generalize hHL:bc (hel l) = HL at *
  have HHL:Hid (bc (hel l) = HL):=hHL
  clear hHL
  generalize l.length = n at *
  go_enter Tryz.func67,Tryz.ntmps67
  go_wp2
  rw [z48]
  generalize bc (zr 48) = Z at *
  go_region
  go_wp2
  go_region
  go_wp2
  go_region
  go_wp2_with (first |(refine wpList_load_row rfl 97 _ rfl (w.heap.size + 1) rfl 97 HL (0,0) _ hG Tryz.underlying97 rfl hi ?_) |(refine wpList_store_row rfl 97 _ _ rfl w.heap.size HL rfl rfl 97 Z hR hi hs48 h1 ?_))
  obtain rfl:=HHL.out
  exact bodyPost_ret (results_hello Tryz.results67 _ _ w.heap.size (hel l) rfl HE.out.2.2 HE.out.1) rfl ⟨rfl,HE.out.2.1⟩
end Go.Proofs.YtfjjpbebnoghmaaGreatDoor.Fm
namespace Go.Proofs.YtfjjpbebnoghmaaGreatDoor.Fm
open Go.RowKit Go.Proofs.YtfjjpbebnoghmaaGreatDoor
def nm (l:List UInt8):Nat:=(((byt l 0).toNat * 256 + (byt l 1).toNat) * 256 + (byt l 2).toNat) * 256 + (byt l 3).toNat
theorem nm_app (l b:List UInt8) (h:4≤l.length):nm (l ++ b) = nm l:=by
  have e:∀ i,i < 4→byt (l ++ b) i = byt l i:=fun i hi=>byt_left l b i (by omega)
  unfold nm
  rw [e 0 (by omega),e 1 (by omega),e 2 (by omega),e 3 (by omega)]
theorem nm_lt (l:List UInt8):nm l < 4294967296:=by
  have h0:=UInt8.toNat_lt (byt l 0)
  have h1:=UInt8.toNat_lt (byt l 1)
  have h2:=UInt8.toNat_lt (byt l 2)
  have h3:=UInt8.toNat_lt (byt l 3)
  unfold nm; omega
theorem u8_of {n:Nat} {x:UInt8} (h:n % 256 = x.toNat):UInt8.ofNat n = x:=by
  apply UInt8.toNat_inj.1
  rw [UInt8.toNat_ofNat']; exact h
theorem be4_nm (l:List UInt8) (h:4≤l.length):be4 (nm l) = l.take 4:=by
  have h0:=UInt8.toNat_lt (byt l 0)
  have h1:=UInt8.toNat_lt (byt l 1)
  have h2:=UInt8.toNat_lt (byt l 2)
  have h3:=UInt8.toNat_lt (byt l 3)
  have e0:UInt8.ofNat (nm l / 16777216) = byt l 0:=u8_of (by unfold nm; omega)
  have e1:UInt8.ofNat (nm l / 65536) = byt l 1:=u8_of (by unfold nm; omega)
  have e2:UInt8.ofNat (nm l / 256) = byt l 2:=u8_of (by unfold nm; omega)
  have e3:UInt8.ofNat (nm l) = byt l 3:=u8_of (by unfold nm; omega)
  have t1:=take_snoc l 0 (by omega)
  have t2:=take_snoc l 1 (by omega)
  have t3:=take_snoc l 2 (by omega)
  have t4:=take_snoc l 3 (by omega)
  rw [t4,t3,t2,t1]
  simp [be4,e0,e1,e2,e3]
theorem nm_be4 (s:Nat) (x:List UInt8) (h:s < 4294967296):nm (be4 s ++ x) = s:=by
  unfold nm
  rw [byt_left _ _ 0 (by simp [be4]),byt_left _ _ 1 (by simp [be4]),byt_left _ _ 2 (by simp [be4]),byt_left _ _ 3 (by simp [be4])]
  simp only [byt,be4,List.getD_cons_zero,List.getD_cons_succ,UInt8.toNat_ofNat']
  omega
inductive Rd:Bool→List UInt8→List (List UInt8)→List (List UInt8)→Bool→List UInt8→Int→Prop
  | bad (l:List UInt8):sok l 0 = false→Rd true l [] [] true l 100
  | few (l:List UInt8):sok l 0 = true→l.length < 68→Rd true l [] [] true l 0
  | hello (l:List UInt8) (met bs:List (List UInt8)) (h:Bool) (r:List UInt8) (e:Int):sok l 0 = true→68≤l.length→Rd false (l.drop 68) met bs h r e→Rd true l (hel l :: met) bs h r e
  | num (l:List UInt8):l.length < 4→Rd false l [] [] false l 0
  | big (l:List UInt8):4≤l.length→32768 < nm l→Rd false l [] [] false l 102
  | part (l:List UInt8):4≤l.length→nm l≤32768→l.length < 4 + nm l→Rd false l [] [] false l 0
  | body (l:List UInt8) (met bs:List (List UInt8)) (h:Bool) (r:List UInt8) (e:Int):4≤l.length→nm l≤32768→4 + nm l≤l.length→Rd false (l.drop (4 + nm l)) met bs h r e→Rd false l met ((l.drop 4).take (nm l) :: bs) h r e
theorem Rd.det {h:Bool} {l:List UInt8} {met bs:List (List UInt8)} {h':Bool} {r:List UInt8} {e:Int} (x:Rd h l met bs h' r e):∀ {met2 bs2:List (List UInt8)} {h2:Bool} {r2:List UInt8} {e2:Int},Rd h l met2 bs2 h2 r2 e2→met2 = met∧bs2 = bs∧h2 = h'∧r2 = r∧e2 = e:=by
  induction x with
  | bad l hs =>
    intro met2 bs2 h2 r2 e2 y
    cases y with
    | bad=>exact ⟨rfl,rfl,rfl,rfl,rfl⟩
    | few _ h1 _=>rw [hs] at h1; cases h1
    | hello _ _ _ _ _ _ h1 _ _=>rw [hs] at h1; cases h1
  | few l hs hl =>
    intro met2 bs2 h2 r2 e2 y
    cases y with
    | bad _ h1=>rw [hs] at h1; cases h1
    | few=>exact ⟨rfl,rfl,rfl,rfl,rfl⟩
    | hello _ _ _ _ _ _ _ h1 _=>omega
  | hello l met bs h r e hs hl _ ih =>
    intro met2 bs2 h2 r2 e2 y
    cases y with
    | bad _ h1=>rw [hs] at h1; cases h1
    | few _ _ h1=>omega
    | hello _ _ _ _ _ _ _ _ y =>
      obtain ⟨rfl,rfl,rfl,rfl,rfl⟩:=ih y
      exact ⟨rfl,rfl,rfl,rfl,rfl⟩
  | num l hl =>
    intro met2 bs2 h2 r2 e2 y
    cases y with
    | num=>exact ⟨rfl,rfl,rfl,rfl,rfl⟩
    | big _ h1 _=>omega
    | part _ h1 _ _=>omega
    | body _ _ _ _ _ _ h1 _ _ _=>omega
  | big l hl hn =>
    intro met2 bs2 h2 r2 e2 y
    cases y with
    | num _ h1=>omega
    | big=>exact ⟨rfl,rfl,rfl,rfl,rfl⟩
    | part _ _ h1 _=>omega
    | body _ _ _ _ _ _ _ h1 _ _=>omega
  | part l hl hn hp =>
    intro met2 bs2 h2 r2 e2 y
    cases y with
    | num _ h1=>omega
    | big _ _ h1=>omega
    | part=>exact ⟨rfl,rfl,rfl,rfl,rfl⟩
    | body _ _ _ _ _ _ _ _ h1 _=>omega
  | body l met bs h r e hl hn hp _ ih =>
    intro met2 bs2 h2 r2 e2 y
    cases y with
    | num _ h1=>omega
    | big _ _ h1=>omega
    | part _ _ _ h1=>omega
    | body _ _ _ _ _ _ _ _ _ y =>
      obtain ⟨rfl,rfl,rfl,rfl,rfl⟩:=ih y
      exact ⟨rfl,rfl,rfl,rfl,rfl⟩
theorem sok_app (l b:List UInt8) (h:20≤l.length):sok (l ++ b) 0 = sok l 0:=by
  rw [sok_all _ _ (by simp; omega),sok_all _ _ (by omega),Nat.sub_zero,List.take_append_of_le_length h]
theorem Rd.app {h:Bool} {l:List UInt8} {met bs:List (List UInt8)} {h':Bool} {r:List UInt8} {e:Int} (x:Rd h l met bs h' r e):e = 0→∀ {b:List UInt8} {met2 bs2:List (List UInt8)} {h2:Bool} {r2:List UInt8} {e2:Int},Rd h' (r ++ b) met2 bs2 h2 r2 e2→Rd h (l ++ b) (met ++ met2) (bs ++ bs2) h2 r2 e2:=by
  induction x with
  | bad l hs=>intro he; cases he
  | few l hs hl=>intro _ b met2 bs2 h2 r2 e2 y; exact y
  | hello l met bs h r e hs hl _ ih =>
    intro he b met2 bs2 h2 r2 e2 y
    have z:=ih he y
    rw [← List.drop_append_of_le_length hl] at z
    have e1:hel (l ++ b) = hel l:=by
      unfold hel
      rw [List.drop_append_of_le_length (by omega),List.take_append_of_le_length (by simp; omega)]
    have:=Rd.hello (l ++ b) _ _ _ _ _ (by rw [sok_app l b (by omega)]; exact hs) (by simp; omega) z
    rw [e1] at this
    exact this
  | num l hl=>intro _ b met2 bs2 h2 r2 e2 y; exact y
  | big l hl hn=>intro he; cases he
  | part l hl hn hp=>intro _ b met2 bs2 h2 r2 e2 y; exact y
  | body l met bs h r e hl hn hp _ ih =>
    intro he b met2 bs2 h2 r2 e2 y
    have z:=ih he y
    rw [← List.drop_append_of_le_length hp] at z
    have e1:=nm_app l b hl
    have e2:((l ++ b).drop 4).take (nm l) = (l.drop 4).take (nm l):=by
      rw [List.drop_append_of_le_length hl,List.take_append_of_le_length (by simp; omega)]
    have:=Rd.body (l ++ b) _ _ _ _ _ (by simp; omega) (by rw [e1]; exact hn) (by rw [e1]; simp; omega) (by rw [e1]; exact z)
    rw [e1,e2] at this
    exact this
end Go.Proofs.YtfjjpbebnoghmaaGreatDoor.Fm
namespace Go.Proofs.YtfjjpbebnoghmaaGreatDoor.Fm
open Go.RowKit Go.Proofs.YtfjjpbebnoghmaaGreatDoor
def RK (w:World) (R:Nat) (p s:Nat) (hv:Value) (f:Int):Prop:=w.heap[R]? = some (.cells #[.int .i64 p,.int .i64 s,hv,.int .i64 f] 83 (0,0))
theorem RK.lt {w:World} {R p s:Nat} {hv:Value} {f:Int} (h:RK w R p s hv f):R < w.heap.size:=(Array.getElem?_eq_some_iff.1 h).1
theorem RK.c0 {w:World} {R p s:Nat} {hv:Value} {f:Int} (h:RK w R p s hv f):w.cell? ⟨R,0,none⟩ = some (.int .i64 p):=by simp [World.cell?,(show w.heap[R]? = _ from h)]
theorem RK.c1 {w:World} {R p s:Nat} {hv:Value} {f:Int} (h:RK w R p s hv f):w.cell? ⟨R,1,none⟩ = some (.int .i64 s):=by simp [World.cell?,(show w.heap[R]? = _ from h)]
theorem RK.c2 {w:World} {R p s:Nat} {hv:Value} {f:Int} (h:RK w R p s hv f):w.cell? ⟨R,2,none⟩ = some hv:=by simp [World.cell?,(show w.heap[R]? = _ from h)]
theorem RK.c3 {w:World} {R p s:Nat} {hv:Value} {f:Int} (h:RK w R p s hv f):w.cell? ⟨R,3,none⟩ = some (.int .i64 f):=by simp [World.cell?,(show w.heap[R]? = _ from h)]
theorem RK.fr {w:World} {R p s:Nat} {hv:Value} {f:Int} (h:RK w R p s hv f) (i:Nat):w.frozen? ⟨R,i,none⟩ = false:=by simp [World.frozen?,(show w.heap[R]? = _ from h)]
theorem RK.set {w:World} {R p s:Nat} {hv:Value} {f:Int} (h:RK w R p s hv f):(∀ p':Nat,RK (w.setCell ⟨R,0,none⟩ (.int .i64 p')) R p' s hv f)∧(∀ s':Nat,RK (w.setCell ⟨R,1,none⟩ (.int .i64 s')) R p s' hv f)∧(∀ hv',RK (w.setCell ⟨R,2,none⟩ hv') R p s hv' f):=by
  refine ⟨fun p'=>?_,fun s'=>?_,fun hv'=>?_⟩ <;> (rw [setCell_eq_setRow w R _ _ _ _ _ h]; exact heapSetRow _ _ _ _ _ h)
theorem setCell_other {w:World} {R i k:Nat} {v:Value} (h:k≠R):(w.setCell ⟨R,i,none⟩ v).heap[k]? = w.heap[k]?:=Below.heap_setCell _ _ _ _ (fun e=>h e)
structure Fr (S:Nat→Prop) (w w':World):Prop where
  os:w'.os = w.os
  tape:w'.tape = w.tape
  output:w'.output = w.output
  size:w.heap.size≤w'.heap.size
  block:∀ k,k < w.heap.size→S k→w'.heap[k]? = w.heap[k]?
theorem Fr.refl (S:Nat→Prop) (w:World):Fr S w w:=⟨rfl,rfl,rfl,Nat.le_refl _,fun _ _ _=>rfl⟩
theorem Fr.of_below {S:Nat→Prop} {w w':World} (h:Below w.heap.size w w'):Fr S w w':=⟨h.os,h.tape,h.output,h.size,fun k hk _=>h.block k hk⟩
theorem Fr.trans {S T:Nat→Prop} {w w' w'':World} (a:Fr S w w') (b:Fr T w' w'') (h:∀ k,k < w.heap.size→S k→T k):Fr S w w'':=
  ⟨b.os.trans a.os,b.tape.trans a.tape,b.output.trans a.output,Nat.le_trans a.size b.size,fun k hk hs=>(b.block k (Nat.lt_of_lt_of_le hk a.size) (h k hk hs)).trans (a.block k hk hs)⟩
theorem Fr.mono {S T:Nat→Prop} {w w':World} (a:Fr S w w') (h:∀ k,k < w.heap.size→T k→S k):Fr T w w':=⟨a.os,a.tape,a.output,a.size,fun k hk ht=>a.block k hk (h k hk ht)⟩
theorem Fr.setCell {S:Nat→Prop} {w w':World} (a:Fr S w w') (R i:Nat) (v:Value) (h:¬ S R):Fr S w (w'.setCell ⟨R,i,none⟩ v):=
  ⟨a.os,a.tape,a.output,by simpa using a.size,fun k hk hs=>(setCell_other (fun e=>by subst e; exact h hs)).trans (a.block k hk hs)⟩
theorem Fr.setRow {S:Nat→Prop} {w w':World} (a:Fr S w w') (R:Nat) (cs:Array Value) (h:R < w.heap.size→¬ S R):Fr S w (w'.setRow R cs):=
  ⟨a.os,a.tape,a.output,by simpa using a.size,fun k hk hs=>(setRow_other _ _ _ _ (fun e=>by subst e; exact h hk hs)).trans (a.block k hk hs)⟩
def RN (S:Nat→Prop) (w:World) (v:Value) (l:List UInt8):Prop:=
  ∃ a c,v = .slice a l.length c∧l.length≤c∧(l = []∨∃ g o,a = some ⟨g,o,none⟩∧S g∧g < w.heap.size∧∀ i,i < l.length→w.cell? ⟨g,o + i,none⟩ = some (.int .u8 ((byt l i).toNat:Int)))
theorem RN.rb {S:Nat→Prop} {w:World} {v:Value} {l:List UInt8} (h:RN S w v l):RB w v l:=by
  obtain ⟨a,c,rfl,hle,h⟩:=h
  refine ⟨a,c,rfl,hle,?_⟩
  rcases h with h | ⟨g,o,h1,_,h2⟩
  · exact .inl h
  · exact .inr ⟨g,o,h1,h2⟩
theorem RN.of_rb {w:World} {v:Value} {l:List UInt8} (h:RB w v l):RN (fun g=>g < w.heap.size) w v l:=by
  obtain ⟨a,c,rfl,hle,h⟩:=h
  refine ⟨a,c,rfl,hle,?_⟩
  rcases h with h | ⟨g,o,h1,h2,h3⟩
  · exact .inl h
  · exact .inr ⟨g,o,h1,h2,h2,h3⟩
theorem RN.move {S T:Nat→Prop} {w w':World} {v:Value} {l:List UInt8} (h:RN S w v l) (hs:∀ g,S g→T g) (hb:∀ g,S g→g < w.heap.size→(∃ o x,w.cell? ⟨g,o,none⟩ = some (.int .u8 x))→w'.heap[g]? = w.heap[g]?):RN T w' v l:=by
  obtain ⟨a,c,rfl,hle,h⟩:=h
  refine ⟨a,c,rfl,hle,?_⟩
  rcases h with h | ⟨g,o,h1,h2,h3,h4⟩
  · exact .inl h
  · by_cases h0:l = []
    · exact .inl h0
    have hpos:0 < l.length:=Nat.pos_of_ne_zero fun e=>h0 (List.length_eq_zero_iff.1 e)
    have hg:=hb g h2 h3 ⟨_,_,h4 0 hpos⟩
    refine .inr ⟨g,o,h1,hs g h2,?_,fun i hi=>(World.cell?_of_block (w:=w) hg).trans (h4 i hi)⟩
    rcases Nat.lt_or_ge g w'.heap.size with h | h
    · exact h
    · rw [Array.getElem?_eq_none h] at hg
      rw [Array.getElem?_eq_getElem h3] at hg
      cases hg
theorem RK.not_bytes {w:World} {R p s g:Nat} {f:Int} {a:Option Addr} {n c:Nat} (h:RK w R p s (.slice a n c) f) (hg:∃ o x,w.cell? ⟨g,o,none⟩ = some (.int .u8 x)):g≠R:=by
  rintro rfl
  obtain ⟨o,x,hc⟩:=hg
  simp only [World.cell?,(show w.heap[g]? = _ from h)] at hc
  match o,hc with
  | 0,hc | 1,hc | 2,hc | 3,hc=>simp at hc
  | o + 4,hc=>simp at hc
theorem RN.drop {S:Nat→Prop} {w:World} {a:Option Addr} {c m:Nat} {l:List UInt8} (h:RN S w (.slice a l.length c) l) (hm:m≤l.length) :
    RN S w (.slice (if c = m then a else a.map (·.add m)) (l.length - m) (c - m)) (l.drop m):=by
  obtain ⟨a',c',e,hle,h⟩:=h
  simp only [Value.slice.injEq] at e
  obtain ⟨rfl,_,rfl⟩:=e
  refine ⟨_,_,by rw [List.length_drop],by rw [List.length_drop]; omega,?_⟩
  rcases h with rfl | ⟨g,o,rfl,h1,h2,h3⟩
  · exact .inl (by simp)
  · by_cases hcm:c = m
    · exact .inl (List.drop_eq_nil_of_le (by omega))
    · refine .inr ⟨g,o + m,?_,h1,h2,fun i hi=>?_⟩
      · rw [if_neg hcm]
        simp [Addr.add]
      · rw [List.length_drop] at hi
        rw [byt_drop,Nat.add_assoc]
        exact h3 (m + i) (by omega)
set_option maxHeartbeats 1000000 in
theorem fills (w:World) (R p s:Nat) (f:Int) (ha:Option Addr) (hn hc ln bc':Nat) (b:Option Addr) (hk:RK w R p s (.slice ha hn hc) f) (hp:p≤2) (hs:p = 1→s≤32768) (hhn:hn≤65536) (_hln:ln≤140737488351232) :
    Calls Tryz.prog 65 #[.pointer (some ⟨R,0,none⟩),.slice b ln bc'] w fun e w'=>e = .returned (.bool (decide ((if p = 2 then 68 else if p = 1 then s else 4)≤hn + ln)))∧w = w':=by
  have c0:=hk.c0
  have c1:=hk.c1
  have c2:=hk.c2
  clear hk
  have hp3:p = 0∨p = 1∨p = 2:=by omega
  rcases hp3 with rfl | rfl | rfl
  · clear hs
    go_enter Tryz.func65,Tryz.ntmps65
    go_wp2
    go_ret
    exact ⟨ret_bool (decide_eq_decide.2 (by first | omega |(simp; omega))),rfl⟩
  · have hs:=hs rfl
    go_enter Tryz.func65,Tryz.ntmps65
    go_wp2
    go_ret
    exact ⟨ret_bool (decide_eq_decide.2 (by first | omega |(simp; omega))),rfl⟩
  · clear hs
    go_enter Tryz.func65,Tryz.ntmps65
    go_wp2
    go_ret
    exact ⟨ret_bool (decide_eq_decide.2 (by first | omega |(simp; omega))),rfl⟩
theorem fills_no (w:World) (R p s:Nat) (f:Int) (ha:Option Addr) (hn hc ln bc':Nat) (b:Option Addr) (hk:RK w R p s (.slice ha hn hc) f) (hp:p≤2) (hs:p = 1→s≤32768) (hhn:hn≤65536) (hln:ln≤140737488351232) (h:¬ (if p = 2 then 68 else if p = 1 then s else 4)≤hn + ln) :
    Calls Tryz.prog 65 #[.pointer (some ⟨R,0,none⟩),.slice b ln bc'] w fun e w'=>e = .returned (.bool false)∧w = w':=by
  have:=fills w R p s f ha hn hc ln bc' b hk hp hs hhn hln
  rwa [decide_eq_false h] at this
theorem fills_yes (w:World) (R p s:Nat) (f:Int) (ha:Option Addr) (hn hc ln bc':Nat) (b:Option Addr) (hk:RK w R p s (.slice ha hn hc) f) (hp:p≤2) (hs:p = 1→s≤32768) (hhn:hn≤65536) (hln:ln≤140737488351232) (h:(if p = 2 then 68 else if p = 1 then s else 4)≤hn + ln) :
    Calls Tryz.prog 65 #[.pointer (some ⟨R,0,none⟩),.slice b ln bc'] w fun e w'=>e = .returned (.bool true)∧w = w':=by
  have:=fills w R p s f ha hn hc ln bc' b hk hp hs hhn hln
  rwa [decide_eq_true h] at this
theorem info_reader:(Tryz.prog.info? 83).map (·.size) = some 4:=by kernel_rfl
set_option maxHeartbeats 1000000 in
theorem breakOff (w:World) (R p s:Nat) (hv:Value) (f why:Int) (hk:RK w R p s hv f) :
    Calls Tryz.prog 64 #[.pointer (some ⟨R,0,none⟩),.int .i64 why] w fun e w'=>e = .returned (.tuple #[])∧RK w' R 0 0 (.slice none 0 0) why∧Fr (fun k=>k≠R) w w':=by
  have HK:Hid (RK w R p s hv f):=hk
  have hi:(Tryz.prog.info? 83).map (·.size) = some (#[Value.int .i64 0,.int .i64 0,.slice none 0 0,.int .i64 why]).size:=info_reader
  have hone:(#[Value.int .i64 0,.int .i64 0,.slice none 0 0,.int .i64 why]).all (·.oneCell') = true:=by simp [Value.oneCell']
  have hg:w.heap[R]? = some (.cells #[.int .i64 p,.int .i64 s,hv,.int .i64 f] 83 (0,0)):=hk
  have HG:Hid _:=hg
  clear hk hg
  go_enter Tryz.func64,Tryz.ntmps64
  go_wp2_with (first |(refine wpList_store_row rfl 83 _ _ rfl R #[.int .i64 0,.int .i64 0,.slice none 0 0,.int .i64 why] rfl rfl 83 _ HG.out hi rfl hone ?_))
  go_end0
  exact ⟨rfl,heapSetRow _ _ _ _ _ HG.out,(Fr.refl _ w).setRow R _ (fun _ h=>h rfl)⟩
set_option maxHeartbeats 1000000 in
theorem new (w:World) (h:Bool) :
    Calls Tryz.prog 16 #[.bool h] w fun e w'=>e = .returned (.pointer (some ⟨w.heap.size,0,none⟩))∧RK w' w.heap.size (if h then 2 else 0) 0 (.slice none 0 0) 0∧Below w.heap.size w w':=by
  cases h
  · go_enter Tryz.func16,Tryz.ntmps16
    go_wp2
    go_ret
    exact ⟨rfl,heapNew _ _,(Below.refl _ _).alloc (Nat.le_refl _) _⟩
  · go_enter Tryz.func16,Tryz.ntmps16
    go_wp2
    go_ret
    exact ⟨rfl,heapNew _ _,(Below.refl _ _).alloc (Nat.le_refl _) _⟩
theorem or4 (x0 x1 x2 x3:Nat) (h0:x0 < 256) (h1:x1 < 256) (h2:x2 < 256) (h3:x3 < 256) :
    bits .or .u32 (bits .or .u32 (bits .or .u32 ((x0:Int) * 16777216) ((x1:Int) * 65536)) ((x2:Int) * 256)) (x3:Int) = (((((x0 * 256 + x1) * 256 + x2) * 256 + x3:Nat)):Int):=by
  have a1:=u32_or_nat (x0 * 16777216) (x1 * 65536) (by omega) (by omega)
  rw [nat_join 24 _ _ (by omega) (by omega)] at a1
  have a2:=u32_or_nat (x0 * 16777216 + x1 * 65536) (x2 * 256) (by omega) (by omega)
  rw [nat_join 16 _ _ (by omega) (by omega)] at a2
  have a3:=u32_or_nat (x0 * 16777216 + x1 * 65536 + x2 * 256) x3 (by omega) (by omega)
  rw [nat_join 8 _ _ (by omega) (by omega)] at a3
  simp only [Int.natCast_mul,Int.natCast_add,Int.cast_ofNat_Int] at a1 a2 a3 ⊢
  rw [a1,a2,a3]
  omega
theorem ret_int {k:IntKind} {a b:Int} (h:a = b):Ending.returned (.int k a) = .returned (.int k b):=by rw [h]
set_option maxHeartbeats 1000000 in
theorem number (l:List UInt8) (hl:l.length = 4) (w:World) :
    Calls Tryz.prog 68 #[.agg (bc l)] w fun e w'=>e = .returned (.int .u32 (nm l:Int))∧Below w.heap.size w w':=by
  have h0:=UInt8.toNat_lt (byt l 0)
  have h1:=UInt8.toNat_lt (byt l 1)
  have h2:=UInt8.toNat_lt (byt l 2)
  have h3:=UInt8.toNat_lt (byt l 3)
  have c0:=cell_bc (heapNew w (.cells (bc l) 122)) 0 (by omega)
  have c1:=cell_bc (heapNew w (.cells (bc l) 122)) 1 (by omega)
  have c2:=cell_bc (heapNew w (.cells (bc l) 122)) 2 (by omega)
  have c3:=cell_bc (heapNew w (.cells (bc l) 122)) 3 (by omega)
  have HB:Hid (Below w.heap.size w (w.alloc (.cells (bc l) 122))):=(Below.refl _ _).alloc (Nat.le_refl _) _
  unfold nm
  generalize (byt l 0).toNat = x0 at *
  generalize (byt l 1).toNat = x1 at *
  generalize (byt l 2).toNat = x2 at *
  generalize (byt l 3).toNat = x3 at *
  generalize bc l = L at *
  go_enter Tryz.func68,Tryz.ntmps68
  go_wp2
  go_ret
  exact ⟨ret_int (or4 x0 x1 x2 x3 h0 h1 h2 h3),HB.out⟩
theorem take_two (d held l:List UInt8) (h1:held.length≤d.length):(held ++ d.drop held.length).take held.length ++ l.take (d.length - held.length) ++ (held ++ d.drop held.length).drop (held.length + (d.length - held.length)) = (held ++ l).take d.length:=by
  rw [List.take_left,List.drop_eq_nil_of_le (by rw [List.length_append,List.length_drop]; omega),List.append_nil,List.take_append,List.take_of_length_le h1]
set_option maxHeartbeats 2000000 in
theorem move (w:World) (S:Nat→Prop) (R p s G:Nat) (f:Int) (hv bv:Value) (held l d:List UInt8) (t:TypeId) (hk:RK w R p s hv f) (hg:w.heap[G]? = some (.cells (bc d) t (0,0))) (hG:¬ S G) (hR:G≠R)
    (hh:RB w hv held) (hb:RN S w bv l) (h1:held.length≤d.length) (h2:d.length≤held.length + l.length) (_h3:d.length≤65536) (_h4:l.length≤140737488351232) :
    Calls Tryz.prog 66 #[.pointer (some ⟨R,0,none⟩),.slice (some ⟨G,0,none⟩) d.length d.length,bv] w fun e w'=>∃ bv',e = .returned bv'∧RN S w' bv' (l.drop (d.length - held.length))∧w'.heap[G]? = some (.cells (bc ((held ++ l).take d.length)) t (0,0))∧RK w' R p s (.slice none 0 0) f∧Fr (fun k=>k≠R∧k≠G) w w'∧w'.heap.size = w.heap.size:=by
  have hf1:∃ a n c,hv = .slice a n c:=by obtain ⟨a,c,e,_⟩:=hh; exact ⟨a,_,c,e⟩
  have C1:∃ W1,(∀ ty,(Builtin.copy_ #[37,37] ty #[.slice (some ⟨G,0,none⟩) d.length d.length,hv]).run Tryz.prog w = .ok (goInt held.length) W1)∧W1.heap[G]? = some (.cells (bc (held ++ d.drop held.length)) t (0,0))∧(∀ k,k≠G→W1.heap[k]? = w.heap[k]?)∧Fr (fun k=>k≠R∧k≠G) w W1∧W1.heap.size = w.heap.size:=by
    obtain ⟨ha,hc,rfl,hle,hh'⟩:=hh
    by_cases h0:held = []
    · subst h0
      refine ⟨w,fun ty=>run_copy_none w 37 37 ty 5 _ _ _ _ _ _ Tryz.underlying37 hs5 (Nat.zero_min _),by simpa using hg,fun _ _=>rfl,Fr.refl _ _,rfl⟩
    · rcases hh' with h | ⟨g,o,rfl,hlt,hcell⟩
      · exact absurd h h0
      refine ⟨_,fun ty=>copy_row w ty G 0 d.length d.length g o held.length hc d held t hg (Nat.min_eq_left h1).symm hcell (by omega),?_,fun k hk=>setRow_other _ _ _ _ hk,(Fr.refl _ w).setRow G _ (fun _ h=>h.2 rfl),by simp⟩
      rw [heapSetRow _ _ _ _ _ hg]
      simp
  obtain ⟨W1,c1,g1,k1,f1,z1⟩:=C1
  have kR1:RK W1 R p s hv f:=(k1 R hR.symm).trans hk
  have kR2:=kR1.set.2.2 (.slice none 0 0)
  have g2:(W1.setCell ⟨R,2,none⟩ (.slice none 0 0)).heap[G]? = some (.cells (bc (held ++ d.drop held.length)) t (0,0)):=by rw [setCell_other hR]; exact g1
  have f2:Fr (fun k=>k≠R∧k≠G) w (W1.setCell ⟨R,2,none⟩ (.slice none 0 0)):=f1.setCell R 2 _ (fun h=>h.1 rfl)
  have z2:(W1.setCell ⟨R,2,none⟩ (.slice none 0 0)).heap.size = w.heap.size:=by simpa using z1
  have b2:RN S (W1.setCell ⟨R,2,none⟩ (.slice none 0 0)) bv l:=hb.move (fun _ h=>h) (fun g hS hlt hex=>by
    obtain ⟨a,n,c,rfl⟩:=hf1
    rw [setCell_other (hk.not_bytes hex),k1 g (fun e=>hG (e ▸ hS))])
  have s1c:=kR1.c2
  have s1f:=kR1.fr 2
  have c0:=hk.c2
  generalize hW2:W1.setCell ⟨R,2,none⟩ (.slice none 0 0) = W2 at *
  obtain ⟨m,hm⟩:∃ m,d.length - held.length = m:=⟨_,rfl⟩
  have hml:m≤l.length:=by omega
  have C2:∃ W3,(∀ ty x,(m≠0→x = some ⟨G,held.length,none⟩)→(Builtin.copy_ #[37,37] ty #[.slice x m m,bv]).run Tryz.prog W2 = .ok (goInt m) W3)∧W3.heap[G]? = some (.cells (bc ((held ++ l).take d.length)) t (0,0))∧(∀ k,k≠G→W3.heap[k]? = W2.heap[k]?)∧Fr (fun k=>k≠R∧k≠G) w W3∧W3.heap.size = w.heap.size:=by
    obtain ⟨ba,bcap,rfl,hle,hb'⟩:=b2
    have tt:=take_two d held l h1
    rw [hm] at tt
    by_cases h0:m = 0
    · subst h0
      refine ⟨W2,fun ty x _=>run_copy_none W2 37 37 ty 5 _ _ _ _ _ _ Tryz.underlying37 hs5 (Nat.min_zero _),?_,fun _ _=>rfl,f2,z2⟩
      rw [g2]
      have e1:d.drop held.length = []:=List.drop_eq_nil_of_le (by omega)
      have e2:(held ++ l).take d.length = held:=by rw [show d.length = held.length by omega,List.take_left]
      rw [e1,e2,List.append_nil]
    · rcases hb' with h | ⟨g,o,rfl,hS,hlt,hcell⟩
      · rw [h] at hml; simp at hml; omega
      have hlen:(l.take m).length = m:=by rw [List.length_take]; omega
      refine ⟨_,fun ty x hx=>?_,heapSetRow _ _ _ (bc ((held ++ l).take d.length)) _ g2,fun k hk=>setRow_other _ _ _ _ hk,f2.setRow G _ (fun _ h=>h.2 rfl),by simpa using z2⟩
      rw [hx h0]
      have:=copy_row W2 ty G held.length m m g o l.length bcap (held ++ d.drop held.length) (l.take m) t g2 (by rw [hlen]; exact (Nat.min_eq_right hml).symm) (fun i hi=>by
        rw [hlen] at hi
        rw [byt_take _ _ _ hi]
        exact hcell i (by omega)) (by rw [hlen]; simp; omega)
      rw [hlen,tt] at this
      exact this
  obtain ⟨W3,c2,g3,k3,f3,z3⟩:=C2
  have kR3:RK W3 R p s (.slice none 0 0) f:=(k3 R hR.symm).trans kR2
  have b3:RN S W3 bv l:=b2.move (fun _ h=>h) (fun g hS hlt _=>k3 g (fun e=>hG (e ▸ hS)))
  obtain ⟨ba,bcap,rfl,hle,_⟩:=hb
  have HEb:Hid (RN S W3 (.slice ba l.length bcap) l):=b3
  have HE:Hid (RN S W3 (.slice (if bcap = m then ba else ba.map (·.add m)) (l.length - m) (bcap - m)) (l.drop m)∧W3.heap[G]? = some (.cells (bc ((held ++ l).take d.length)) t (0,0))∧RK W3 R p s (.slice none 0 0) f∧Fr (fun k=>k≠R∧k≠G) w W3∧W3.heap.size = w.heap.size):=⟨b3.drop hml,g3,kR3,f3,z3⟩
  rw [hm]
  have d1:=c1 3
  have HW2:Hid (W1.setCell ⟨R,2,none⟩ (.slice none 0 0) = W2):=hW2
  obtain ⟨ha,hn,hc,rfl⟩:=hf1
  have hnl:hn = held.length:=by obtain ⟨_,_,e,_⟩:=hh; simp only [Value.slice.injEq] at e; exact e.2.1
  subst hnl
  rw [← hW2] at c2
  clear hk hg hG hR hh hW2 f1 f2 f3 g1 g2 g3 k1 k3 kR1 kR2 kR3 b2 b3 z1 z2 z3 c1
  generalize d.length = n at *
  generalize held.length = hl at *
  generalize hll:l.length = ll at *
  clear hll
  have e0:(hl:Int)≤(n:Int):=by omega
  by_cases hm0:n = hl
  · have hm00:m = 0:=by omega
    subst hm00 hm0
    have d2:=fun x=>c2 3 x (fun h=>absurd rfl h)
    go_enter Tryz.func66,Tryz.ntmps66
    go_wp2
    go_ret
    exact ⟨_,rfl,by rw [List.drop_zero]; exact HEb.out,HE.out.2⟩
  · have d2:=c2 3 (some ⟨G,hl,none⟩) (fun _=>rfl)
    have hmn:n - hl = m:=hm
    have HE1:=HE.out.1
    by_cases hcm:bcap = m
    · rw [if_pos hcm,show ll - m = 0 by omega,show bcap - m = 0 by omega] at HE1
      have HE1':Hid _:=HE1
      clear HE1
      subst hcm
      go_enter Tryz.func66,Tryz.ntmps66
      go_wp2
      go_ret
      exact ⟨_,rfl,HE1'.out,HE.out.2⟩
    · rw [if_neg hcm] at HE1
      have HE1':Hid _:=HE1
      clear HE1
      go_enter Tryz.func66,Tryz.ntmps66
      go_wp2
      go_ret
      exact ⟨_,rfl,HE1'.out,HE.out.2⟩
end Go.Proofs.YtfjjpbebnoghmaaGreatDoor.Fm
