import Derived.Test.YtfjjpbebnoghmaaGreatDoorK00
import Derived.Test.YtfjjpbebnoghmaaGreatDoorK31
import Derived.Test.YtfjjpbebnoghmaaGreatDoorK15
namespace Go.Proofs.YtfjjpbebnoghmaaGreatDoor.Fm
open Go.RowKit Go.Proofs.YtfjjpbebnoghmaaGreatDoor
theorem _root_.Go.Proofs.YtfjjpbebnoghmaaGreatDoor.OW.form4 {B:Nat} {w:World} {v:Value} {l:List UInt8} (h:OW B w v l):∃ a n c,n = l.length∧v = .slice a n c:=by
  obtain ⟨a,c,e⟩:=h.form
  exact ⟨a,_,c,rfl,e⟩
theorem OM.keepB {B:Nat} {w w':World} {v:Value} {met:List (List UInt8)} (h:OM B w v met) (hb:Below w.heap.size w w'):OM B w' v met:=h.keep (fun k _ h2=>hb.block k h2)
theorem results_tmp4 {fn:Func} {t u v x:Tmp} (h:fn.results = #[.tmp t,.tmp u,.tmp v,.tmp x]) (tmps:Array Value) (P:Program) (w:World) :
    (results fn tmps).run P w = .ok (.tuple #[tmps.getD t undef,tmps.getD u undef,tmps.getD v undef,tmps.getD x undef]) w:=by
  simp [results,h]
def RF (w:World) (S:Nat) (h:Bool) (av:Value) (f:Int):Prop:=w.heap[S]? = some (.cells #[.bool h,av,.int .i64 f] 85 (0,0))
theorem RF.lt {w:World} {S:Nat} {h:Bool} {av:Value} {f:Int} (k:RF w S h av f):S < w.heap.size:=(Array.getElem?_eq_some_iff.1 k).1
theorem RF.c0 {w:World} {S:Nat} {h:Bool} {av:Value} {f:Int} (k:RF w S h av f):w.cell? ⟨S,0,none⟩ = some (.bool h):=by simp [World.cell?,(show w.heap[S]? = _ from k)]
theorem RF.c1 {w:World} {S:Nat} {h:Bool} {av:Value} {f:Int} (k:RF w S h av f):w.cell? ⟨S,1,none⟩ = some av:=by simp [World.cell?,(show w.heap[S]? = _ from k)]
theorem RF.c2 {w:World} {S:Nat} {h:Bool} {av:Value} {f:Int} (k:RF w S h av f):w.cell? ⟨S,2,none⟩ = some (.int .i64 f):=by simp [World.cell?,(show w.heap[S]? = _ from k)]
set_option maxHeartbeats 1000000 in
theorem read_frames (w:World) (S:Nat) (av:Value) (f:Int) (k:RF w S false av f) (v:Value) (l:List UInt8) (hl:l.length≤33554432) (hr:RB w v l) :
    Calls Tryz.prog 72 #[.pointer (some ⟨S,0,none⟩),v] w fun e w'=>∃ bv bs kk er,e = .returned (.tuple #[.slice none 0 0,bv,.int .i64 (kk:Nat),.int .i64 er])∧Rd false l [] bs false (l.drop kk) er∧kk = sz bs∧OR w.heap.size w' bv bs∧Below w.heap.size w w':=by
  have c0:=k.c0
  have SP:=split v l 0 (Nat.zero_le _) hl w hr
  obtain ⟨a,c,rfl,_,_⟩:=hr
  clear k
  go_enter Tryz.func72,Tryz.ntmps72
  go_wp2_with fail
  refine SP.mono ?_
  rintro e w1 ⟨bv,bs,kk,er,rfl,h1,h2,h3,h4,h5⟩
  rw [List.drop_zero] at h1
  have HE:Hid (Rd false l [] bs false (l.drop kk) er∧kk = sz bs∧OR w.heap.size w1 bv bs∧Below w.heap.size w w1):=⟨h1,by omega,h4,h5⟩
  clear h1 h2 h3 h4 h5 SP
  go_wp2
  (try simp only [Exit.inBlock,Exit.then])
  refine bodyPost_ret (results_tmp4 rfl _ _ _) rfl ?_
  exact ⟨_,bs,kk,er,rfl,HE.out⟩
set_option maxHeartbeats 1000000 in
theorem read_hello_no (w:World) (S:Nat) (av:Value) (f:Int) (k:RF w S true av f) (v:Value) (l:List UInt8) (hl:l.length≤33554432) (hr:RB w v l) (hno:sok l 0 = false∨l.length < 68) :
    Calls Tryz.prog 72 #[.pointer (some ⟨S,0,none⟩),v] w fun e w'=>∃ er,e = .returned (.tuple #[.slice none 0 0,.slice none 0 0,.int .i64 0,.int .i64 er])∧Rd true l [] [] true l er∧Below w.heap.size w w':=by
  have c0:=k.c0
  have MM:=meetR v l (by omega) w hr
  obtain ⟨a,c,rfl,_,_⟩:=hr
  have HML:Hid ((mtH l).length = 48):=mt_len l
  by_cases hs:sok l 0 = true
  · have h68:l.length < 68:=by rcases hno with h | h; rw [hs] at h; cases h; exact h
    rw [(mt_few hs h68).1] at MM
    have HRD:Hid (Rd true l [] [] true l 0):=Rd.few l hs h68
    clear k hno hs h68
    generalize mtH l = mH at *
    have hi:=info_hello HML.out
    have hone:=bc_one mH
    go_enter Tryz.func72,Tryz.ntmps72
    go_wp2_with fail
    refine MM.mono ?_
    rintro e w1 ⟨rfl,b1⟩
    have HE:Hid (Below w.heap.size w ((w1.alloc (.cells #[Value.int .u8 0,.int .u8 0,.int .u8 0,.int .u8 0,.int .u8 0,.int .u8 0,.int .u8 0,.int .u8 0,.int .u8 0,.int .u8 0,.int .u8 0,.int .u8 0,.int .u8 0,.int .u8 0,.int .u8 0,.int .u8 0,.int .u8 0,.int .u8 0,.int .u8 0,.int .u8 0,.int .u8 0,.int .u8 0,.int .u8 0,.int .u8 0,.int .u8 0,.int .u8 0,.int .u8 0,.int .u8 0,.int .u8 0,.int .u8 0,.int .u8 0,.int .u8 0,.int .u8 0,.int .u8 0,.int .u8 0,.int .u8 0,.int .u8 0,.int .u8 0,.int .u8 0,.int .u8 0,.int .u8 0,.int .u8 0,.int .u8 0,.int .u8 0,.int .u8 0,.int .u8 0,.int .u8 0,.int .u8 0] 97)).setRow w1.heap.size (bc mH))):=b1.trans ((belowSetRow ((Below.refl _ _).alloc (Nat.le_refl _) _) (Nat.le_refl _) _).mono b1.size)
    have hszH:(bc (zr 48)).size = (bc mH).size:=by rw [bc_size,bc_size,zr_len]; exact HML.out.symm
    clear b1 MM
    go_wp2_with (first |(refine wpList_store_row rfl 97 _ _ rfl w1.heap.size (bc mH) rfl rfl 97 (bc (zr 48)) (heapNew w1 _) hi hszH hone ?_))
    (try simp only [Exit.inBlock,Exit.then])
    refine bodyPost_ret (results_tmp4 rfl _ _ _) rfl ?_
    exact ⟨0,rfl,HRD.out,HE.out⟩
  · have hs':sok l 0 = false:=by simpa using hs
    rw [(mt_no hs').1] at MM
    have HRD:Hid (Rd true l [] [] true l 100):=Rd.bad l hs'
    clear k hno hs hs'
    generalize mtH l = mH at *
    have hi:=info_hello HML.out
    have hone:=bc_one mH
    go_enter Tryz.func72,Tryz.ntmps72
    go_wp2_with fail
    refine MM.mono ?_
    rintro e w1 ⟨rfl,b1⟩
    have HE:Hid (Below w.heap.size w ((w1.alloc (.cells #[Value.int .u8 0,.int .u8 0,.int .u8 0,.int .u8 0,.int .u8 0,.int .u8 0,.int .u8 0,.int .u8 0,.int .u8 0,.int .u8 0,.int .u8 0,.int .u8 0,.int .u8 0,.int .u8 0,.int .u8 0,.int .u8 0,.int .u8 0,.int .u8 0,.int .u8 0,.int .u8 0,.int .u8 0,.int .u8 0,.int .u8 0,.int .u8 0,.int .u8 0,.int .u8 0,.int .u8 0,.int .u8 0,.int .u8 0,.int .u8 0,.int .u8 0,.int .u8 0,.int .u8 0,.int .u8 0,.int .u8 0,.int .u8 0,.int .u8 0,.int .u8 0,.int .u8 0,.int .u8 0,.int .u8 0,.int .u8 0,.int .u8 0,.int .u8 0,.int .u8 0,.int .u8 0,.int .u8 0,.int .u8 0] 97)).setRow w1.heap.size (bc mH))):=b1.trans ((belowSetRow ((Below.refl _ _).alloc (Nat.le_refl _) _) (Nat.le_refl _) _).mono b1.size)
    have hszH:(bc (zr 48)).size = (bc mH).size:=by rw [bc_size,bc_size,zr_len]; exact HML.out.symm
    clear b1 MM
    go_wp2_with (first |(refine wpList_store_row rfl 97 _ _ rfl w1.heap.size (bc mH) rfl rfl 97 (bc (zr 48)) (heapNew w1 _) hi hszH hone ?_))
    (try simp only [Exit.inBlock,Exit.then])
    refine bodyPost_ret (results_tmp4 rfl _ _ _) rfl ?_
    exact ⟨100,rfl,HRD.out,HE.out⟩
theorem OR.weak {B B':Nat} {w:World} {v:Value} {bs:List (List UInt8)} (h:OR B w v bs) (hb:B'≤B):OR B' w v bs:=by
  obtain ⟨us,h1,h2,h3⟩:=h
  exact ⟨us,h1,ownsRow_mono h2 hb,fun i hi=>ownsRow_mono (h3 i hi) hb⟩
theorem OM.of_block {B:Nat} {w:World} {g:Nat} {h:List UInt8} (hB:B≤g) (hg:w.heap[g]? = some (.cells (bc h) 97 (0,0))) (hl:h.length = 48):OM B w (.slice (some ⟨g,0,none⟩) 1 1) [h]:=by
  refine ⟨⟨by simp [bcl_len,hl],.inr ⟨g,1,_,rfl,hB,hg,by simp,by unfold maxLen; omega,by rw [bc_size,hl],?_⟩⟩,by simpa using hl⟩
  rw [bc_list,bcl_take]
  simp
  rw [List.take_of_length_le (by omega)]
set_option maxHeartbeats 2000000 in
set_option maxRecDepth 100000 in
theorem read_hello_yes (w:World) (S:Nat) (av:Value) (f:Int) (k:RF w S true av f) (v:Value) (l:List UInt8) (hl:l.length≤33554432) (hr:RB w v l) (hs:sok l 0 = true) (h68:68≤l.length) :
    Calls Tryz.prog 72 #[.pointer (some ⟨S,0,none⟩),v] w fun e w'=>∃ mv bv bs kk er,e = .returned (.tuple #[mv,bv,.int .i64 (kk:Nat),.int .i64 er])∧Rd true l [hel l] bs false (l.drop kk) er∧kk = 68 + sz bs∧OM w.heap.size w' mv [hel l]∧OR w.heap.size w' bv bs∧Below w.heap.size w w':=by
  have c0:=k.c0
  have MM:=meetR v l (by omega) w hr
  have HR:Hid (RB w v l):=hr
  obtain ⟨a,c,rfl,_,_⟩:=hr
  rw [(mt_yes hs h68).1,(mt_yes hs h68).2] at MM
  have HML:Hid ((hel l).length = 48):=hel_len l h68
  have HS:Hid (sok l 0 = true∧68≤l.length):=⟨hs,h68⟩
  clear k hs h68
  have hi:=info_hello HML.out
  have hone:=bc_one (hel l)
  go_enter Tryz.func72,Tryz.ntmps72
  go_wp2_with fail
  refine MM.mono ?_
  rintro e w1 ⟨rfl,b1⟩
  have HE:Hid (Below w.heap.size w ((w1.alloc (.cells #[Value.int .u8 0,.int .u8 0,.int .u8 0,.int .u8 0,.int .u8 0,.int .u8 0,.int .u8 0,.int .u8 0,.int .u8 0,.int .u8 0,.int .u8 0,.int .u8 0,.int .u8 0,.int .u8 0,.int .u8 0,.int .u8 0,.int .u8 0,.int .u8 0,.int .u8 0,.int .u8 0,.int .u8 0,.int .u8 0,.int .u8 0,.int .u8 0,.int .u8 0,.int .u8 0,.int .u8 0,.int .u8 0,.int .u8 0,.int .u8 0,.int .u8 0,.int .u8 0,.int .u8 0,.int .u8 0,.int .u8 0,.int .u8 0,.int .u8 0,.int .u8 0,.int .u8 0,.int .u8 0,.int .u8 0,.int .u8 0,.int .u8 0,.int .u8 0,.int .u8 0,.int .u8 0,.int .u8 0,.int .u8 0] 97)).setRow w1.heap.size (bc (hel l)))):=b1.trans ((belowSetRow ((Below.refl _ _).alloc (Nat.le_refl _) _) (Nat.le_refl _) _).mono b1.size)
  have HG:((w1.alloc (.cells #[Value.int .u8 0,.int .u8 0,.int .u8 0,.int .u8 0,.int .u8 0,.int .u8 0,.int .u8 0,.int .u8 0,.int .u8 0,.int .u8 0,.int .u8 0,.int .u8 0,.int .u8 0,.int .u8 0,.int .u8 0,.int .u8 0,.int .u8 0,.int .u8 0,.int .u8 0,.int .u8 0,.int .u8 0,.int .u8 0,.int .u8 0,.int .u8 0,.int .u8 0,.int .u8 0,.int .u8 0,.int .u8 0,.int .u8 0,.int .u8 0,.int .u8 0,.int .u8 0,.int .u8 0,.int .u8 0,.int .u8 0,.int .u8 0,.int .u8 0,.int .u8 0,.int .u8 0,.int .u8 0,.int .u8 0,.int .u8 0,.int .u8 0,.int .u8 0,.int .u8 0,.int .u8 0,.int .u8 0,.int .u8 0] 97)).setRow w1.heap.size (bc (hel l))).heap[w1.heap.size]? = some (.cells (bc (hel l)) 97 (0,0)):=heapSetRow _ _ _ _ _ (heapNew w1 _)
  have hszH:(bc (zr 48)).size = (bc (hel l)).size:=by rw [bc_size,bc_size,zr_len]; exact HML.out.symm
  have HSP:Hid (Calls Tryz.prog 100 #[.slice a l.length c,.int .i64 68] (((w1.alloc (.cells #[Value.int .u8 0,.int .u8 0,.int .u8 0,.int .u8 0,.int .u8 0,.int .u8 0,.int .u8 0,.int .u8 0,.int .u8 0,.int .u8 0,.int .u8 0,.int .u8 0,.int .u8 0,.int .u8 0,.int .u8 0,.int .u8 0,.int .u8 0,.int .u8 0,.int .u8 0,.int .u8 0,.int .u8 0,.int .u8 0,.int .u8 0,.int .u8 0,.int .u8 0,.int .u8 0,.int .u8 0,.int .u8 0,.int .u8 0,.int .u8 0,.int .u8 0,.int .u8 0,.int .u8 0,.int .u8 0,.int .u8 0,.int .u8 0,.int .u8 0,.int .u8 0,.int .u8 0,.int .u8 0,.int .u8 0,.int .u8 0,.int .u8 0,.int .u8 0,.int .u8 0,.int .u8 0,.int .u8 0,.int .u8 0] 97)).setRow w1.heap.size (bc (hel l))).alloc (.cells (bc (hel l)) 97)) fun e w'=>∃ bv bs k er,e = .returned (.tuple #[bv,.int .i64 (k:Nat),.int .i64 er])∧Rd false (l.drop 68) [] bs false (l.drop k) er∧k = 68 + sz bs∧k≤l.length∧OR (((w1.alloc (.cells #[Value.int .u8 0,.int .u8 0,.int .u8 0,.int .u8 0,.int .u8 0,.int .u8 0,.int .u8 0,.int .u8 0,.int .u8 0,.int .u8 0,.int .u8 0,.int .u8 0,.int .u8 0,.int .u8 0,.int .u8 0,.int .u8 0,.int .u8 0,.int .u8 0,.int .u8 0,.int .u8 0,.int .u8 0,.int .u8 0,.int .u8 0,.int .u8 0,.int .u8 0,.int .u8 0,.int .u8 0,.int .u8 0,.int .u8 0,.int .u8 0,.int .u8 0,.int .u8 0,.int .u8 0,.int .u8 0,.int .u8 0,.int .u8 0,.int .u8 0,.int .u8 0,.int .u8 0,.int .u8 0,.int .u8 0,.int .u8 0,.int .u8 0,.int .u8 0,.int .u8 0,.int .u8 0,.int .u8 0,.int .u8 0] 97)).setRow w1.heap.size (bc (hel l))).alloc (.cells (bc (hel l)) 97)).heap.size w' bv bs∧Below (((w1.alloc (.cells #[Value.int .u8 0,.int .u8 0,.int .u8 0,.int .u8 0,.int .u8 0,.int .u8 0,.int .u8 0,.int .u8 0,.int .u8 0,.int .u8 0,.int .u8 0,.int .u8 0,.int .u8 0,.int .u8 0,.int .u8 0,.int .u8 0,.int .u8 0,.int .u8 0,.int .u8 0,.int .u8 0,.int .u8 0,.int .u8 0,.int .u8 0,.int .u8 0,.int .u8 0,.int .u8 0,.int .u8 0,.int .u8 0,.int .u8 0,.int .u8 0,.int .u8 0,.int .u8 0,.int .u8 0,.int .u8 0,.int .u8 0,.int .u8 0,.int .u8 0,.int .u8 0,.int .u8 0,.int .u8 0,.int .u8 0,.int .u8 0,.int .u8 0,.int .u8 0,.int .u8 0,.int .u8 0,.int .u8 0,.int .u8 0] 97)).setRow w1.heap.size (bc (hel l))).alloc (.cells (bc (hel l)) 97)).heap.size (((w1.alloc (.cells #[Value.int .u8 0,.int .u8 0,.int .u8 0,.int .u8 0,.int .u8 0,.int .u8 0,.int .u8 0,.int .u8 0,.int .u8 0,.int .u8 0,.int .u8 0,.int .u8 0,.int .u8 0,.int .u8 0,.int .u8 0,.int .u8 0,.int .u8 0,.int .u8 0,.int .u8 0,.int .u8 0,.int .u8 0,.int .u8 0,.int .u8 0,.int .u8 0,.int .u8 0,.int .u8 0,.int .u8 0,.int .u8 0,.int .u8 0,.int .u8 0,.int .u8 0,.int .u8 0,.int .u8 0,.int .u8 0,.int .u8 0,.int .u8 0,.int .u8 0,.int .u8 0,.int .u8 0,.int .u8 0,.int .u8 0,.int .u8 0,.int .u8 0,.int .u8 0,.int .u8 0,.int .u8 0,.int .u8 0,.int .u8 0] 97)).setRow w1.heap.size (bc (hel l))).alloc (.cells (bc (hel l)) 97)) w'):=split _ l 68 HS.out.2 hl _ ((HR.out.keep HE.out).keep ((Below.refl _ _).alloc (Nat.le_refl _) _))
  have HM2:Hid (OM w.heap.size (((w1.alloc (.cells #[Value.int .u8 0,.int .u8 0,.int .u8 0,.int .u8 0,.int .u8 0,.int .u8 0,.int .u8 0,.int .u8 0,.int .u8 0,.int .u8 0,.int .u8 0,.int .u8 0,.int .u8 0,.int .u8 0,.int .u8 0,.int .u8 0,.int .u8 0,.int .u8 0,.int .u8 0,.int .u8 0,.int .u8 0,.int .u8 0,.int .u8 0,.int .u8 0,.int .u8 0,.int .u8 0,.int .u8 0,.int .u8 0,.int .u8 0,.int .u8 0,.int .u8 0,.int .u8 0,.int .u8 0,.int .u8 0,.int .u8 0,.int .u8 0,.int .u8 0,.int .u8 0,.int .u8 0,.int .u8 0,.int .u8 0,.int .u8 0,.int .u8 0,.int .u8 0,.int .u8 0,.int .u8 0,.int .u8 0,.int .u8 0] 97)).setRow w1.heap.size (bc (hel l))).alloc (.cells (bc (hel l)) 97)) (.slice (some ⟨w1.heap.size + 1,0,none⟩) 1 1) [hel l]∧Below w.heap.size w (((w1.alloc (.cells #[Value.int .u8 0,.int .u8 0,.int .u8 0,.int .u8 0,.int .u8 0,.int .u8 0,.int .u8 0,.int .u8 0,.int .u8 0,.int .u8 0,.int .u8 0,.int .u8 0,.int .u8 0,.int .u8 0,.int .u8 0,.int .u8 0,.int .u8 0,.int .u8 0,.int .u8 0,.int .u8 0,.int .u8 0,.int .u8 0,.int .u8 0,.int .u8 0,.int .u8 0,.int .u8 0,.int .u8 0,.int .u8 0,.int .u8 0,.int .u8 0,.int .u8 0,.int .u8 0,.int .u8 0,.int .u8 0,.int .u8 0,.int .u8 0,.int .u8 0,.int .u8 0,.int .u8 0,.int .u8 0,.int .u8 0,.int .u8 0,.int .u8 0,.int .u8 0,.int .u8 0,.int .u8 0,.int .u8 0,.int .u8 0] 97)).setRow w1.heap.size (bc (hel l))).alloc (.cells (bc (hel l)) 97))):=by
    have e:((w1.alloc (.cells #[Value.int .u8 0,.int .u8 0,.int .u8 0,.int .u8 0,.int .u8 0,.int .u8 0,.int .u8 0,.int .u8 0,.int .u8 0,.int .u8 0,.int .u8 0,.int .u8 0,.int .u8 0,.int .u8 0,.int .u8 0,.int .u8 0,.int .u8 0,.int .u8 0,.int .u8 0,.int .u8 0,.int .u8 0,.int .u8 0,.int .u8 0,.int .u8 0,.int .u8 0,.int .u8 0,.int .u8 0,.int .u8 0,.int .u8 0,.int .u8 0,.int .u8 0,.int .u8 0,.int .u8 0,.int .u8 0,.int .u8 0,.int .u8 0,.int .u8 0,.int .u8 0,.int .u8 0,.int .u8 0,.int .u8 0,.int .u8 0,.int .u8 0,.int .u8 0,.int .u8 0,.int .u8 0,.int .u8 0,.int .u8 0] 97)).setRow w1.heap.size (bc (hel l))).heap.size = w1.heap.size + 1:=by rw [setRow_size]; simp
    exact ⟨OM.of_block (by rw [← e]; exact HE.out.size) (by rw [← e]; exact heapNew _ _) HML.out,HE.out.alloc HE.out.size _⟩
  clear b1 MM
  go_wp2_with (first |(refine wpList_store_row rfl 97 _ _ rfl w1.heap.size (bc (hel l)) rfl rfl 97 (bc (zr 48)) (heapNew w1 _) hi hszH hone ?_) |(refine wpList_load_row rfl 97 _ rfl w1.heap.size rfl 97 (bc (hel l)) (0,0) _ HG Tryz.underlying97 rfl hi ?_) |(refine build_hello rfl _ rfl (hel l) rfl HML.out ?_))
  refine HSP.out.mono ?_
  rintro e w2 ⟨bv,bs,kk,er,rfl,h1,h2,h3,h4,h5⟩
  have HF:Hid (Rd true l [hel l] bs false (l.drop kk) er∧kk = 68 + sz bs∧OM w.heap.size w2 (.slice (some ⟨w1.heap.size + 1,0,none⟩) 1 1) [hel l]∧OR w.heap.size w2 bv bs∧Below w.heap.size w w2):=⟨Rd.hello l [] bs false _ er HS.out.1 HS.out.2 h1,h2,HM2.out.1.keepB h5,h4.weak HM2.out.2.size,HM2.out.2.trans (h5.mono HM2.out.2.size)⟩
  clear h1 h2 h3 h4 h5
  go_wp2
  (try simp only [Exit.inBlock,Exit.then])
  refine bodyPost_ret (results_tmp4 rfl _ _ _) rfl ?_
  exact ⟨_,_,bs,kk,er,rfl,HF.out⟩
theorem readT (w:World) (S:Nat) (h:Bool) (av:Value) (f:Int) (k:RF w S h av f) (v:Value) (l:List UInt8) (hl:l.length≤33554432) (hr:RB w v l) :
    Calls Tryz.prog 72 #[.pointer (some ⟨S,0,none⟩),v] w fun e w'=>∃ mv bv met bs kk h' er,e = .returned (.tuple #[mv,bv,.int .i64 (kk:Nat),.int .i64 er])∧Rd h l met bs h' (l.drop kk) er∧kk≤l.length∧OM w.heap.size w' mv met∧OR w.heap.size w' bv bs∧Below w.heap.size w w':=by
  cases h with
  | false =>
    refine (read_frames w S av f k v l hl hr).mono ?_
    rintro e w' ⟨bv,bs,kk,er,he,h1,h2,h3,h4⟩
    exact ⟨_,bv, [],bs,kk,false,er,he,h1,by have:=(h1.frames rfl).2.2.1; omega,OM.nil _ _,h3,h4⟩
  | true =>
    by_cases hno:sok l 0 = false∨l.length < 68
    · refine (read_hello_no w S av f k v l hl hr hno).mono ?_
      rintro e w' ⟨er,he,h1,h2⟩
      exact ⟨_,_, [], [],0,true,er,he,by rw [List.drop_zero]; exact h1,Nat.zero_le _,OM.nil _ _,OR.nil _ _,h2⟩
    · have hs:sok l 0 = true:=by simp at hno; exact hno.1
      have h68:68≤l.length:=by simp at hno; exact hno.2
      refine (read_hello_yes w S av f k v l hl hr hs h68).mono ?_
      rintro e w' ⟨mv,bv,bs,kk,er,he,h1,h2,h3,h4,h5⟩
      refine ⟨mv,bv,_,bs,kk,false,er,he,h1,?_,h3,h4,h5⟩
      cases h1 with
      | hello _ _ _ _ _ _ _ _ y =>
        have:=(y.frames rfl).2.2.1
        rw [List.length_drop] at this
        omega
theorem RBS.drop {w:World} {a:Option Addr} {n c m:Nat} {bs:List (List UInt8)} (h:RBS w (.slice a n c) bs) (hm:m≤bs.length):RBS w (.slice (if c = m then a else a.map (·.add m)) (n - m) (c - m)) (bs.drop m):=by
  obtain ⟨a',c',e,hle,h⟩:=h
  simp only [Value.slice.injEq] at e
  obtain ⟨rfl,rfl,rfl⟩:=e
  refine ⟨_,_,by rw [List.length_drop],by rw [List.length_drop]; omega,?_⟩
  by_cases h0:bs.length = m
  · left; rw [← h0,List.drop_length]
  right
  rcases h with rfl | ⟨g,o,rfl,hg,h⟩
  · simp at hm h0; omega
  rw [if_neg (by omega)]
  refine ⟨g,o + m,by simp [Addr.add_mid],hg,fun i hi=>?_⟩
  rw [List.length_drop] at hi
  obtain ⟨u,h1,h2⟩:=h (m + i) (by omega)
  refine ⟨u,by rw [Nat.add_assoc]; exact h1,?_⟩
  have e:(bs.drop m).getD i [] = bs.getD (m + i) []:=by simp [List.getD]
  rw [e]; exact h2
def SMet (w:World) (v:Value) (met:List (List UInt8)):Prop:=(met = []∧∃ a c,v = .slice a 0 c)∨∃ B,OM B w v met
def Sf (B:Nat) (w:World) (φ:World→Prop):Prop:=∀ u:World,w.heap.size≤u.heap.size→(∀ k,B≤k→k < w.heap.size→u.heap[k]? = w.heap[k]?)→φ u
structure RPO (w:World) (S:Nat) (h:Bool) (T:List UInt8) (av:Value) (mv bv:Value) (er:Int) (met bs:List (List UInt8)) (w':World):Prop where
  rf:∃ av',RF w' S h av' er∧OW (S + 1) w' av' T∧(T = []→av' = .slice none 0 0)∧(av'.ownBlock = av.ownBlock∨∀ g,av'.ownBlock = some g→w.heap.size≤g)
  sm:SMet w' mv met
  rb:Sf w.heap.size w' (fun u=>RBS u bv bs)
  fr:Fr (fun k=>k≠S∧av.ownBlock≠some k) w w'
set_option maxHeartbeats 1000000 in
theorem refNew (w:World) (h:Bool) :
    Calls Tryz.prog 18 #[.bool h] w fun e w'=>e = .returned (.pointer (some ⟨w.heap.size,0,none⟩))∧RF w' w.heap.size h (.slice none 0 0) 0∧Below w.heap.size w w':=by
  go_enter Tryz.func18,Tryz.ntmps18
  go_wp2
  go_ret
  exact ⟨rfl,heapNew _ _,(Below.refl _ _).alloc (Nat.le_refl _) _⟩
theorem RF.set1 {w:World} {S:Nat} {h:Bool} {av v:Value} {f:Int} (k:RF w S h av f):RF (w.setCell ⟨S,1,none⟩ v) S h v f:=by
  rw [setCell_eq_setRow w S _ _ _ _ _ k]
  exact heapSetRow _ _ _ _ _ k
theorem RF.set2 {w:World} {S:Nat} {h:Bool} {av:Value} {f g:Int} (k:RF w S h av f):RF (w.setCell ⟨S,2,none⟩ (.int .i64 g)) S h av g:=by
  rw [setCell_eq_setRow w S _ _ _ _ _ k]
  exact heapSetRow _ _ _ _ _ k
theorem RF.fr {w:World} {S:Nat} {h:Bool} {av:Value} {f:Int} (k:RF w S h av f) (i:Nat):w.frozen? ⟨S,i,none⟩ = false:=by simp [World.frozen?,(show w.heap[S]? = _ from k)]
theorem _root_.Go.Proofs.YtfjjpbebnoghmaaGreatDoor.OW.set {w:World} {B S i:Nat} {v u:Value} {l:List UInt8} (h:OW B w v l) (hS:S < B):OW B (w.setCell ⟨S,i,none⟩ u) v l:=ownsRow_keep h (fun k hk _=>setCell_other (by omega))
theorem _root_.Go.Proofs.YtfjjpbebnoghmaaGreatDoor.OW.blk {w:World} {B:Nat} {v:Value} {l:List UInt8} (h:OW B w v l):∀ g,v.ownBlock = some g→B≤g∧g < w.heap.size:=fun g hg=>World.ownsRow.lt h g hg
theorem Rd.one {h:Bool} {l:List UInt8} {met bs:List (List UInt8)} {h':Bool} {r:List UInt8} {e:Int} (x:Rd h l met bs h' r e):met.length≤1:=by
  cases h with
  | false=>rw [(x.frames rfl).1]; simp
  | true =>
    cases x with
    | hello _ _ _ _ _ _ _ _ y=>rw [(y.frames rfl).1]; simp
    | _=>simp
theorem smet_drop {B:Nat} {w:World} {a:Option Addr} {n c m:Nat} {met met1:List (List UInt8)} (om:OM B w (.slice a n c) (met ++ met1)) (hm:met.length = m) (hl:(met ++ met1).length≤1) (hn:n = m + met1.length) :
    SMet w (.slice (if c = m then a else a.map (·.add (m * 48))) (n - m) (c - m)) met1:=by
  rw [List.length_append] at hl
  cases met1 with
  | nil=>left; simp at hn; subst hn; exact ⟨rfl,_,_,by rw [Nat.sub_self]⟩
  | cons x xs =>
    right
    simp only [List.length_cons] at hl hn
    obtain rfl:met = []:=List.length_eq_zero_iff.1 (by omega)
    simp at hm
    subst hm
    refine ⟨B,?_⟩
    have e:(if c = 0 then a else a.map (·.add (0 * 48))) = a:=by
      split
      · rfl
      · cases a with
        | none=>rfl
        | some x=>simp [Addr.add]
    rw [e,Nat.sub_zero,Nat.sub_zero]
    exact om
theorem RF.grown {w w':World} {S:Nat} {h:Bool} {av v:Value} {f:Int} {l:List UInt8} (k:RF w S h av f) (ho:OW (S + 1) w v l) (g:w.grownBy w' v.ownBlock):RF w' S h av f:=by
  refine (g.block S k.lt ?_).trans k
  intro e
  have:=(ho.blk S (by first | exact e | exact e.symm)).1
  omega
set_option maxHeartbeats 2000000 in
theorem refPush (w:World) (S:Nat) (h:Bool) (av bv:Value) (A b:List UInt8) (k:RF w S h av 0) (ho:OW (S + 1) w av A) (hnil:A = []→av = .slice none 0 0) (hr:RB w bv b) (hl:A.length + b.length≤16777216)
    {met0 bs0 met1 bs1:List (List UInt8)} {h' h2:Bool} {r r2:List UInt8} {er:Int} (rd0:Rd h A met0 bs0 h' r 0) (rd1:Rd h' (r ++ b) met1 bs1 h2 r2 er) :
    Calls Tryz.prog 43 #[.pointer (some ⟨S,0,none⟩),bv] w fun e w'=>∃ mv bsv,e = .returned (.tuple #[mv,bsv,.int .i64 er])∧RPO w S h (A ++ b) av mv bsv er met1 bs1 w':=by
  have HR:Hid (RB w bv b∧OW (S + 1) w av A∧RF w S h av 0∧Rd h A met0 bs0 h' r 0∧Rd h' (r ++ b) met1 bs1 h2 r2 er∧(A = []→av = .slice none 0 0)):=⟨hr,ho,k,rd0,rd1,hnil⟩
  have c1:=k.c1
  have c2:=k.c2
  obtain ⟨ba,bn,bc',rfl⟩:∃ a n c,bv = .slice a n c:=by obtain ⟨a,c,e,_⟩:=hr; exact ⟨a,_,c,e⟩
  obtain ⟨aa,an,ac,rfl⟩:∃ a n c,av = .slice a n c:=by obtain ⟨a,c,e⟩:=ho.form; exact ⟨a,_,c,e⟩
  clear hr ho k rd0 rd1 hnil
  go_enter Tryz.func43,Tryz.ntmps43
  go_wp2_with fail
  refine (readT w S h _ 0 HR.out.2.2.1 _ A (by omega) HR.out.2.1.rb).mono ?_
  rintro e w1 ⟨mv1,bv1,met,bs,kk,h'',er1,rfl,rd,kle,om,or1,b1⟩
  obtain ⟨rfl,rfl, -, -, -⟩:=HR.out.2.2.2.1.det rd
  obtain ⟨ma1,mc1,rfl⟩:=om.form
  obtain ⟨ba1,bc1,rfl⟩:=or1.form
  have k1:RF w1 S h (.slice aa an ac) 0:=(b1.block S HR.out.2.2.1.lt).trans HR.out.2.2.1
  have c1':=k1.c1
  have H1:Hid (RF w1 S h (.slice aa an ac) 0∧OW (S + 1) w1 (.slice aa an ac) A∧RB w1 (.slice ba bn bc') b∧Below w.heap.size w w1):=⟨k1,HR.out.2.1.grow b1,HR.out.1.keep b1,b1⟩
  have hS1:S + 1≤w1.heap.size:=k1.lt
  have hfr1:=k1.fr 1
  clear rd kle om or1 b1 k1 c1 c2
  generalize hnm:met.length = nm at *
  generalize hnb:bs.length = nb at *
  have HNM:Hid (met.length = nm∧bs.length = nb):=⟨hnm,hnb⟩
  clear hnm hnb
  go_wp2_with (first |(at_builtin; refine append_held rfl _ _ rfl rfl H1.out.2.1 HR.out.2.2.2.2.2 rfl H1.out.2.2.1 hS1 (by omega) ?_; intro v2 w2 o2 n2 g2 at2; obtain ⟨va2,vn2,vc2, -,rfl⟩:=o2.form4; have k2:=H1.out.1.grown H1.out.2.1 g2; have hfr2:=k2.fr 1; have hc2:=k2.c1))
  have H2:Hid (RF (w2.setCell ⟨S,1,none⟩ (.slice va2 vn2 vc2)) S h (.slice va2 vn2 vc2) 0∧OW (S + 1) (w2.setCell ⟨S,1,none⟩ (.slice va2 vn2 vc2)) (.slice va2 vn2 vc2) (A ++ b)∧Fr (fun k=>k≠S∧(Value.slice aa an ac).ownBlock≠some k) w (w2.setCell ⟨S,1,none⟩ (.slice va2 vn2 vc2))∧((Value.slice va2 vn2 vc2).ownBlock = (Value.slice aa an ac).ownBlock∨∀ g,(Value.slice va2 vn2 vc2).ownBlock = some g→w.heap.size≤g)∧(A ++ b = []→Value.slice va2 vn2 vc2 = .slice none 0 0)):=by
    refine ⟨k2.set1,o2.set (Nat.lt_succ_self _),?_,?_,n2⟩
    · refine Fr.setCell ⟨g2.os.trans H1.out.2.2.2.os,g2.tape.trans H1.out.2.2.2.tape,g2.output.trans H1.out.2.2.2.output,Nat.le_trans H1.out.2.2.2.size g2.size,fun k hk hs=>?_⟩ S 1 _ (fun x=>x.1 rfl)
      exact (g2.block k (Nat.lt_of_lt_of_le hk H1.out.2.2.2.size) (fun e=>hs.2 e.symm)).trans (H1.out.2.2.2.block k hk)
    · rcases at2 with e | e
      · exact .inl e
      · right
        intro g hg
        rw [e] at hg
        cases hg
        exact H1.out.2.2.2.size
  clear k2 hfr2 hc2 g2 n2 at2 o2 c1' hfr1 hS1
  generalize w2.setCell ⟨S,1,none⟩ (.slice va2 vn2 vc2) = w3 at *
  have hT:(A ++ b).length≤33554432:=by rw [List.length_append]; omega
  have c1:=H2.out.1.c1
  go_wp2_with fail
  refine (readT w3 S h _ 0 H2.out.1 _ (A ++ b) hT H2.out.2.1.rb).mono ?_
  rintro e w4 ⟨mv4,bv4,met4,bs4,kk4,h4,er4,rfl,rd4,kle4,om4,or4,b4⟩
  obtain ⟨rfl,rfl, -, -,rfl⟩:=(HR.out.2.2.2.1.app rfl HR.out.2.2.2.2.1).det rd4
  obtain ⟨ma4,mc4,rfl⟩:=om4.form
  obtain ⟨ba4,bc4,rfl⟩:=or4.form
  have k4:RF w4 S h (.slice va2 vn2 vc2) 0:=(b4.block S H2.out.1.lt).trans H2.out.1
  have hlt3:=H2.out.1.lt
  have hfr4:=k4.fr 2
  have hc4:=k4.c2
  have hfm:=om4.1.2
  have H4:Hid (RF (w4.setCell ⟨S,2,none⟩ (.int .i64 er4)) S h (.slice va2 vn2 vc2) er4∧OW (S + 1) (w4.setCell ⟨S,2,none⟩ (.int .i64 er4)) (.slice va2 vn2 vc2) (A ++ b)∧Fr (fun k=>k≠S∧(Value.slice aa an ac).ownBlock≠some k) w (w4.setCell ⟨S,2,none⟩ (.int .i64 er4))∧OM w3.heap.size (w4.setCell ⟨S,2,none⟩ (.int .i64 er4)) (.slice ma4 (met ++ met1).length mc4) (met ++ met1)∧OR w3.heap.size (w4.setCell ⟨S,2,none⟩ (.int .i64 er4)) (.slice ba4 (bs ++ bs1).length bc4) (bs ++ bs1)):=by
    refine ⟨k4.set2,(H2.out.2.1.grow b4).set (Nat.lt_succ_self _),?_,om4.keep (fun k hk _=>setCell_other (by omega)),or4.keep (fun k hk _=>setCell_other (by omega))⟩
    refine Fr.setCell (H2.out.2.2.1.trans (Fr.of_below b4) (fun _ _ x=>x)) S 2 _ (fun x=>x.1 rfl)
  have hlen1:(met ++ met1).length = nm + met1.length:=by rw [List.length_append,HNM.out.1]
  have hlen2:(bs ++ bs1).length = nb + bs1.length:=by rw [List.length_append,HNM.out.2]
  have hle1:(met ++ met1).length≤mc4:=by
    have:=H4.out.2.2.2.1.1.2
    rcases this with ⟨e,_⟩ | ⟨g,cap,cur,e,_,_,h5,_⟩
    · simp only [Value.slice.injEq] at e; omega
    · simp only [Value.slice.injEq] at e; omega
  have hle2:(bs ++ bs1).length≤bc4:=by obtain ⟨_,_,e,h5,_⟩:=H4.out.2.2.2.2.rbs; simp only [Value.slice.injEq] at e; omega
  generalize (met ++ met1).length = n4 at *
  generalize (bs ++ bs1).length = n5 at *
  have hn4:nm≤n4:=by omega
  have hn5:nb≤n5:=by omega
  have HLL:Hid (n4 = nm + met1.length∧n5 = nb + bs1.length):=⟨hlen1,hlen2⟩
  clear rd4 kle4 om4 or4 b4 k4 hfm hlt3 hlen1 hlen2 c1 hT
  have H5:Hid (SMet (w4.setCell ⟨S,2,none⟩ (.int .i64 er4)) (.slice (if mc4 = nm then ma4 else ma4.map (·.add (nm * 48))) (n4 - nm) (mc4 - nm)) met1∧Sf w.heap.size (w4.setCell ⟨S,2,none⟩ (.int .i64 er4)) (fun u=>RBS u (.slice (if bc4 = nb then ba4 else ba4.map (·.add nb)) (n5 - nb) (bc4 - nb)) bs1)):=by
    refine ⟨smet_drop H4.out.2.2.2.1 HNM.out.1 (HR.out.2.2.2.1.app rfl HR.out.2.2.2.2.1).one HLL.out.1,fun u _ hu=>?_⟩
    have:=RBS.drop (m:=nb) (H4.out.2.2.2.2.keep (fun k hk h2=>hu k (Nat.le_trans H2.out.2.2.1.size hk) h2)).rbs (by rw [List.length_append,HNM.out.2]; omega)
    rw [← HNM.out.2,List.drop_left,HNM.out.2] at this
    exact this
  generalize hmm:(if mc4 = nm then ma4 else ma4.map (·.add (nm * 48))) = ma5 at *
  generalize hbb:(if bc4 = nb then ba4 else ba4.map (·.add nb)) = ba5 at *
  go_wp2
  go_quiet (fail)
  clear hmm hbb
  have H6:Hid (RPO w S h (A ++ b) (.slice aa an ac) (.slice ma5 (n4 - nm) (mc4 - nm)) (.slice ba5 (n5 - nb) (bc4 - nb)) er4 met1 bs1 ((w4.setCell ⟨S,2,none⟩ (.int .i64 er4)).drewN nq)):=by
    refine ⟨⟨_,H4.out.1,H4.out.2.1.grow (belowDrew _ _),H2.out.2.2.2.2,H2.out.2.2.2.1⟩,?_,(fun u h1 h2=>H5.out.2 u h1 h2),?_⟩
    · rcases H5.out.1 with h1 | ⟨B,h1⟩
      · exact .inl h1
      · exact .inr ⟨B,h1.keep (fun _ _ _=>rfl)⟩
    · exact H4.out.2.2.1.trans (Fr.of_below (belowDrew _ _)) (fun _ _ x=>x)
  clear H4 H5 H2 H1 HLL HNM
  go_wp2
  go_ret3
  exact ⟨_,_,rfl,H6.out⟩
end Go.Proofs.YtfjjpbebnoghmaaGreatDoor.Fm
namespace Go.Proofs.YtfjjpbebnoghmaaGreatDoor.Bs
open Go.RowKit
def at9 (b t:Int):Prop:=pw t = true∧∀ s:Int,pw s = true→s < t→b≠s
theorem pw_mk {t:Int} (h:t = 64∨t = 128∨t = 256∨t = 512∨t = 1024∨t = 2048∨t = 4096∨t = 8192∨t = 16384):pw t = true:=by
  unfold pw; simp only [Bool.or_eq_true,beq_iff_eq]; omega
theorem at9_step {b t:Int} (h:at9 b t) (hne:b≠t) (hlt:t < 16384):at9 b (2 * t):=by
  obtain ⟨h1,h2⟩:=h
  have c:=pw_cases h1
  refine ⟨pw_mk (by omega),fun s hs hlt2=>?_⟩
  have d:=pw_cases hs
  by_cases e:s < t
  · exact h2 s hs e
  · have:s = t:=by omega
    rw [this]; exact hne
theorem at9_no {b:Int} (h:at9 b 16384) (hne:b≠16384):pw b = false:=by
  cases hb:pw b with
  | false=>rfl
  | true =>
    have c:=pw_bd hb
    exact absurd rfl (h.2 b hb (by omega))
set_option maxHeartbeats 400000 in
theorem good12 (b v:Int) (w:World) :
    Calls Tryz.prog 17 #[sc b v] w fun e w'=>e = .returned (.int .i64 (gd b v))∧Below w.heap.size w w':=by
  go_enter Tryz.func17,Tryz.ntmps17
  go_wp2
  go_loop [3] (fun t=>∃ k:Int,64≤k∧k≤16384∧t = .int .i64 k∧Hid (at9 b k)) (fun t=>(16384 - intOf t).toNat)
  case atStart=>exact ⟨64,by omega,by omega,rfl,(⟨by decide,fun s hs h=>absurd (pw_bd hs).1 (by omega)⟩:at9 b 64)⟩
  case round =>
    obtain ⟨k,hk1,hk2,rfl,hk⟩:=hrel
    by_cases hlt:k < 16384
    · by_cases hb:k = b
      · have hbb:(k != b) = false:=by simp [hb]
        have hbb2:pw b = true:=hb ▸ hk.out.1
        have H:Hid (pw b = true):=hbb2
        clear hbb2 hb
        by_cases c3:v < 1
        · go_wp2
          go_ret
          exact ⟨ret_i (gd_no (.inr (.inl c3))),(Below.refl _ _).alloc (Nat.le_refl _) _⟩
        · by_cases c4:32 < v
          · go_wp2
            go_ret
            exact ⟨ret_i (gd_no (.inr (.inr c4))),(Below.refl _ _).alloc (Nat.le_refl _) _⟩
          · go_wp2
            go_ret
            exact ⟨ret_i (gd_yes H.out (by omega) (by omega)),(Below.refl _ _).alloc (Nat.le_refl _) _⟩
      · have hbb:(k != b) = true:=by simp [hb]
        have hs:=at9_step hk.out (Ne.symm hb) hlt
        have hbd:=pw_bd hs.1
        have H:Hid (at9 b (2 * k)):=hs
        clear hs hb hk
        go_wp2
        go_round
        case rel=>exact ⟨2 * k,by omega,by omega,rfl,H⟩
        case measure=>simp [intOf]; omega
    · have hk3:k = 16384:=by omega
      subst hk3
      by_cases hb:(16384:Int) = b
      · have hbb:((16384:Int) != b) = false:=by simp [hb]
        have hbb2:pw b = true:=hb ▸ hk.out.1
        have H:Hid (pw b = true):=hbb2
        clear hbb2 hb
        by_cases c3:v < 1
        · go_wp2
          go_ret
          exact ⟨ret_i (gd_no (.inr (.inl c3))),(Below.refl _ _).alloc (Nat.le_refl _) _⟩
        · by_cases c4:32 < v
          · go_wp2
            go_ret
            exact ⟨ret_i (gd_no (.inr (.inr c4))),(Below.refl _ _).alloc (Nat.le_refl _) _⟩
          · go_wp2
            go_ret
            exact ⟨ret_i (gd_yes H.out (by omega) (by omega)),(Below.refl _ _).alloc (Nat.le_refl _) _⟩
      · have hbb:((16384:Int) != b) = true:=by simp [hb]
        have hno:=at9_no hk.out (Ne.symm hb)
        have H:Hid (pw b = false):=hno
        clear hno hb hk
        go_wp2
        go_ret
        exact ⟨ret_i (gd_no (.inl H.out)),(Below.refl _ _).alloc (Nat.le_refl _) _⟩
end Go.Proofs.YtfjjpbebnoghmaaGreatDoor.Bs
