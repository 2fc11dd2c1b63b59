import Derived.Test.YtfjjpbebnoghmaaGreatDoorK00
import Derived.Test.YtfjjpbebnoghmaaGreatDoorK04
import Derived.Deep.RegionHeld3
namespace Go.Proofs.YtfjjpbebnoghmaaGreatDoor
open Go.RowKit
theorem cut_root (m:Mv) (ok:m.ok) (L:List Value):(m.cs.toList.take 5 ++ L ++ m.cs.toList.drop (5 + 32)).toArray = ([.int .i64 m.k,.int .i64 m.i,.int .i64 m.b,.int .i64 m.l,m.d] ++ (L ++ [.int .i64 m.ba,.int .i64 m.pr,m.h])).toArray:=by
  have h1:m.cs.toList.take 5 = [.int .i64 m.k,.int .i64 m.i,.int .i64 m.b,.int .i64 m.l,m.d]:=rfl
  have h2:m.cs.toList.drop (5 + 32) = [.int .i64 m.ba,.int .i64 m.pr,m.h]:=by
    show m.ls.drop (5 + 32) = _
    unfold Mv.ls
    rw [← List.append_assoc]
    exact List.drop_left' (by simp [bcl_len,ok.r])
  rw [h1,h2,List.append_assoc]
set_option maxHeartbeats 1000000 in
theorem r3T (W w:World) (g:Nat) (m:Mv) (ok:m.ok) (hm:MB w g m) (v:Value) (l:List UInt8) (hl:32≤l.length) (hl2:l.length≤140737488351232) (hr:RB W v l) (hW:Below W.heap.size W w) :
    Calls Tryz.prog 149 #[ptr g,v] w fun e w'=>∃ v',e = .returned v'∧RB W v' (l.drop 32)∧w' = w.setRow g { m with r:=l.take 32 }.cs:=by
  obtain ⟨b,o,c,rfl,hc,h⟩:=hr.from 32 hl (by omega)
  obtain ⟨b',o',c',e,_,hcell⟩:=(hr.keep hW).cells (by omega)
  simp only [Value.slice.injEq,Option.some.injEq,Addr.mk.injEq,true_and,and_true] at e
  obtain ⟨⟨rfl,rfl⟩,rfl⟩:=e
  have l32:(l.take 32).length = 32:=by rw [List.length_take]; omega
  have hcp:(Builtin.copy_ #[37,37] 3 #[.slice (some ⟨g,5,none⟩) 32 32,.slice (some ⟨b,o,none⟩) l.length c]).run Tryz.prog w = .ok (goInt 32) (w.setRow g { m with r:=l.take 32 }.cs):=by
    have h1:=run_copy_row (P:=Tryz.prog) w 37 37 3 5 g 5 32 32 ⟨b,o,none⟩ l.length c m.cs 40 (Lib.byteCells (l.take 32)) Tryz.underlying37 hs5 hm (by rw [bcl_len,l32]; exact (Nat.min_eq_right hl).symm)
      (fun j y hj=>by
        have hj':j < 32:=by
          have:=(List.getElem?_eq_some_iff.1 hj).1
          rwa [bcl_len,l32] at this
        rw [Addr.add_mid,hcell j (by omega), ← hj,bcl_get _ j (by omega),byt_take _ _ _ hj'])
      (by rw [bcl_len,l32,ok.size]; omega) (Lib.byteCells_one _)
    rw [h1,bcl_len,l32,cut_root m ok]
    rfl
  have HR:Hid (RB W (.slice (some ⟨b,o + 32,none⟩) (l.length - 32) (c - 32)) (l.drop 32)):=h
  clear h hr hcell hm l32 hW
  generalize Mv.cs _ = M2 at *
  generalize hln:l.length = n at *
  have HLE:Hid (l.length = n):=hln
  clear hln
  by_cases hck:c = 32
  · subst hck
    have HZ:Hid (l.drop 32 = []):=List.drop_eq_nil_of_le (by have:=HLE.out; omega)
    generalize hdr:l.drop 32 = LD at *
    go_enter Tryz.func149,Tryz.ntmps149
    go_wp2
    go_ret
    exact ⟨_,rfl,RB.empty HZ.out (by first | rfl | omega),rfl⟩
  · generalize hdr:l.drop 32 = LD at *
    go_enter Tryz.func149,Tryz.ntmps149
    go_wp2
    go_ret
    exact ⟨_,rfl,HR.out,rfl⟩
def kindB (l:List UInt8):Int:=if l = [] then -1 else if 64≤(byt l 0).toNat then 1000 else ((byt l 0).toNat:Int)
set_option maxHeartbeats 1000000 in
theorem kindOfT (w:World) (v:Value) (l:List UInt8) (hl2:l.length≤140737488351232) (hr:RB w v l) :
    Calls Tryz.prog 94 #[v] w fun e w'=>e = .returned (.int .i64 (kindB l))∧w' = w:=by
  by_cases h0:l = []
  · subst h0
    obtain ⟨a,c,rfl,_⟩:=hr
    go_enter Tryz.func94,Tryz.ntmps94
    go_wp2
    go_ret
    exact ⟨rfl,rfl⟩
  · have hpos:0 < l.length:=List.length_pos_iff.2 h0
    obtain ⟨b,o,c,rfl,_,hc⟩:=hr.cells hpos
    have c0:w.cell? ⟨b,o,none⟩ = some (.int .u8 ((byt l 0).toNat:Int)):=hc 0 hpos
    have hb:=UInt8.toNat_lt (byt l 0)
    by_cases h64:64≤(byt l 0).toNat
    · have HK:Hid (kindB l = 1000):=by unfold Hid kindB; rw [if_neg h0,if_pos h64]
      clear hc hr h0
      generalize (byt l 0).toNat = y at *
      generalize hln:l.length = n at *
      clear hln
      go_enter Tryz.func94,Tryz.ntmps94
      go_wp2
      go_ret
      exact ⟨by rw [HK.out]; rfl,rfl⟩
    · have HK:Hid (kindB l = ((byt l 0).toNat:Int)):=by unfold Hid kindB; rw [if_neg h0,if_neg h64]
      clear hc hr h0
      generalize (byt l 0).toNat = y at *
      generalize hln:l.length = n at *
      clear hln
      go_enter Tryz.func94,Tryz.ntmps94
      go_wp2
      go_ret
      exact ⟨by rw [HK.out]; rfl,rfl⟩
theorem take_hash (hb:List UInt8) (k:Nat):hb.take ((k + 1) * 32) = hb.take (k * 32) ++ (hb.drop (k * 32)).take 32:=by
  rw [show (k + 1) * 32 = k * 32 + 32 by omega,List.take_add]
theorem zeros_hash (n:Nat):madeCells (Value.agg (bc (zr 32))).cells (n * 32) = bc (zr (n * 32)):=by
  apply Array.ext'
  apply List.ext_getElem?
  intro i
  have h32:(Value.agg (bc (zr 32))).cells = bc (zr 32):=rfl
  rw [h32]
  by_cases h:i < n * 32
  · rw [bc_list,bcl_get _ i (by rw [zr_len]; exact h)]
    have e1:byt (zr (n * 32)) i = 0:=by unfold byt zr; simp [List.getD,h]
    have e2:(bc (zr 32))[i % 32]? = some (.int .u8 0):=zr_get 32 (i % 32) (by omega)
    have hs:(bc (zr 32)).size = 32:=rfl
    rw [e1]
    generalize bc (zr 32) = Z at *
    simp [madeCells,h,hs]
    rw [Array.getElem!_eq_getD,Array.getD_eq_getD_getElem?,e2]
    rfl
  · rw [List.getElem?_eq_none (by simp [size_madeCells]; omega),List.getElem?_eq_none (by rw [bc_list,bcl_len,zr_len]; omega)]
theorem make_hashes (n:Nat) (hn:n * 32≤140737488351232) (u:World):(Instr.makeSlice 38 (.int .i64 (n:Int)) (.int .i64 (n:Int))).run Tryz.prog u = .ok (.slice (some ⟨u.heap.size,0,none⟩) n n) (u.alloc (.cells (bc (zr (n * 32))) 25)):=by
  obtain ⟨i0,hi,hz0,hz1,hz2⟩:=info_parts info_hashP
  have h:=run_make (P:=Tryz.prog) u 38 25 i0 (.agg (bc (zr 32))) Tryz.underlying38 hi hz0 .i64 .i64 (n:Int) (n:Int) (by omega) (by omega) (by rw [hz2]; omega) (by omega)
  rw [← zeros_hash]
  simpa [hz1] using h
def THR (w w':World) (e:Ending) (g n:Nat) (m:Mv) (l:List UInt8):Prop:=e = .returned (.slice none 0 0)∧MB w' g { m with h:=.slice (some ⟨w.heap.size,0,none⟩) n n }∧w'.heap[w.heap.size]? = some (.cells (bc l) 25 (0,0))∧Besides g w w'
set_option maxHeartbeats 2000000 in
set_option maxRecDepth 100000 in
theorem takeHashesT (w:World) (g n:Nat) (m:Mv) (ok:m.ok) (hm:MB w g m) (v:Value) (l:List UInt8) (hl:l.length = n * 32) (hl2:l.length≤1000000) (hr:RB w v l) (hbg:0 < n→∀ b o c,v = .slice (some ⟨b,o,none⟩) (n * 32) c→b≠g) :
    Calls Tryz.prog 157 #[ptr g,v] w fun e w'=>THR w w' e g n m l:=by
  have hmk:=make_hashes n (by omega)
  have hglt:=hm.lt
  have a39:=(heapOld w (.cells (bc (zr (n * 32))) 25) g hglt)
  have b0:Below w.heap.size w (w.alloc (.cells (bc (zr (n * 32))) 25)):=(Below.refl _ _).alloc (Nat.le_refl _) _
  have m1:MB (w.alloc (.cells (bc (zr (n * 32))) 25)) g m:=hm.below b0
  have c39:=m1.c39 ok
  have f39:=m1.free 39
  have HX:Hid (MB ((w.setCell ⟨g,39,none⟩ (.slice (some ⟨w.heap.size,0,none⟩) n n)).alloc (.cells (bc (zr (n * 32))) 25)) g { m with h:=.slice (some ⟨w.heap.size,0,none⟩) n n }∧((w.setCell ⟨g,39,none⟩ (.slice (some ⟨w.heap.size,0,none⟩) n n)).alloc (.cells (bc (zr (n * 32))) 25)).heap[w.heap.size]? = some (.cells (bc (zr (n * 32))) 25 (0,0))∧Besides g w ((w.setCell ⟨g,39,none⟩ (.slice (some ⟨w.heap.size,0,none⟩) n n)).alloc (.cells (bc (zr (n * 32))) 25))):=by
    have bb:Below (w.setCell ⟨g,39,none⟩ (.slice (some ⟨w.heap.size,0,none⟩) n n)).heap.size (w.setCell ⟨g,39,none⟩ (.slice (some ⟨w.heap.size,0,none⟩) n n)) ((w.setCell ⟨g,39,none⟩ (.slice (some ⟨w.heap.size,0,none⟩) n n)).alloc (.cells (bc (zr (n * 32))) 25)):=(Below.refl _ _).alloc (Nat.le_refl _) _
    exact ⟨(hm.set 39 _ (Mv.set39 ok _)).below bb,heapLast _ _ (by simp),(Besides.setCell _ _ _ _).trans (Besides.of_below bb)⟩
  have HR:Hid (RB w v l∧l.length = n * 32):=⟨hr,hl⟩
  obtain ⟨a,c,rfl,hc⟩:∃ a c,v = .slice a l.length c∧l.length≤c:=by
    obtain ⟨a,c,e,h,_⟩:=id hr
    exact ⟨a,c,e,h⟩
  have hq:((n:Int) * 32) / 32 = (n:Int):=by omega
  rw [hl] at hc hl2 hbg ⊢
  have HG:Hid (0 < n→∀ b o c',Value.slice a (n * 32) c = .slice (some ⟨b,o,none⟩) (n * 32) c'→b≠g):=hbg
  clear hbg
  clear hm m1 b0 a39 hr
  go_enter Tryz.func157,Tryz.ntmps157
  go_upto_region 2 with fail
  generalize ((w.setCell ⟨g,39,none⟩ (.slice (some ⟨w.heap.size,0,none⟩) n n)).alloc (.cells (bc (zr (n * 32))) 25)) = X at *
  clear hmk c39 f39
  have ok2:Mv.ok { m with h:=.slice (some ⟨w.heap.size,0,none⟩) n n }:=⟨ok.r,ok.d,⟨_,_,_,rfl⟩⟩
  have c39:X.cell? ⟨g,39,none⟩ = some (.slice (some ⟨w.heap.size,0,none⟩) n n):=HX.out.1.c39 ok2
  go_wp2
  go_loopw [18] (fun t wr=>∃ k:Nat,k≤n∧t = .int .i64 k∧Hid (MB wr g { m with h:=.slice (some ⟨w.heap.size,0,none⟩) n n }∧wr.heap[w.heap.size]? = some (.cells (bc (l.take (k * 32) ++ zr ((n - k) * 32))) 25 (0,0))∧Besides g w wr)) (fun t _=>n - (intOf t).toNat)
  case atStart=>exact ⟨0,by omega,rfl,HX.out.1,by simpa using HX.out.2.1,HX.out.2.2⟩
  case round =>
    obtain ⟨k,hk,rfl,hI⟩:=hrel
    by_cases hlt:k < n
    · have hpos:0 < l.length:=by have:=HR.out.2; omega
      obtain ⟨b,o,c',e,_,hcell⟩:=HR.out.1.cells hpos
      simp only [HR.out.2,Value.slice.injEq,true_and] at e
      obtain ⟨rfl,rfl⟩:=e
      have hblt:b < w.heap.size:=World.block_lt_of_cell? w _ (hcell 0 hpos)
      have hI39:wr.drew.cell? ⟨g,39,none⟩ = some (.slice (some ⟨w.heap.size,0,none⟩) n n):=hI.out.1.c39 ok2
      have l32:((l.drop (k * 32)).take 32).length = 32:=by rw [List.length_take,List.length_drop]; omega
      have hlk:(l.take (k * 32)).length = k * 32:=by rw [List.length_take]; omega
      have hcp:(Builtin.copy_ #[37,37] 3 #[.slice (some ⟨w.heap.size,k * 32,none⟩) 32 32,.slice (some ⟨b,o + k * 32,none⟩) (n * 32 - k * 32) (c - k * 32)]).run Tryz.prog wr.drew = .ok (goInt 32) (wr.drew.setRow w.heap.size (bc (l.take ((k + 1) * 32) ++ zr ((n - (k + 1)) * 32)))):=by
        have h1:=copy_row wr.drew 3 w.heap.size (k * 32) 32 32 b (o + k * 32) (n * 32 - k * 32) (c - k * 32) (l.take (k * 32) ++ zr ((n - k) * 32)) ((l.drop (k * 32)).take 32) 25 hI.out.2.1 (by rw [l32]; exact (Nat.min_eq_right (by omega)).symm)
          (fun i hi=>by
            rw [l32] at hi
            rw [byt_take _ _ _ hi,byt_drop,Nat.add_assoc]
            exact (World.cell?_of_block (w:=w) (hI.out.2.2.block b hblt (HG.out (by omega) _ _ _ rfl))).trans (hcell (k * 32 + i) (by omega)))
          (by rw [l32,List.length_append,hlk,zr_len]; omega)
        rw [h1,l32]
        have e:(l.take (k * 32) ++ zr ((n - k) * 32)).take (k * 32) ++ (l.drop (k * 32)).take 32 ++ (l.take (k * 32) ++ zr ((n - k) * 32)).drop (k * 32 + 32) = l.take ((k + 1) * 32) ++ zr ((n - (k + 1)) * 32):=by
          rw [splice_at hlk l32,take_hash]
          congr 1
          unfold zr
          rw [List.drop_replicate]
          congr 1
          omega
        rw [e]
        rfl
      have hS2:(wr.drew.setRow w.heap.size (bc (l.take ((k + 1) * 32) ++ zr ((n - (k + 1)) * 32)))).cell? ⟨g,39,none⟩ = some (.slice (some ⟨w.heap.size,0,none⟩) n n):=(World.cell?_of_block (w:=wr.drew) (by show (World.setRow _ _ _).heap[g]? = _; exact setRow_other _ _ _ _ (Nat.ne_of_lt hglt))).trans hI39
      have HE:Hid (MB (wr.drew.setRow w.heap.size (bc (l.take ((k + 1) * 32) ++ zr ((n - (k + 1)) * 32)))) g { m with h:=.slice (some ⟨w.heap.size,0,none⟩) n n }∧(wr.drew.setRow w.heap.size (bc (l.take ((k + 1) * 32) ++ zr ((n - (k + 1)) * 32)))).heap[w.heap.size]? = some (.cells (bc (l.take ((k + 1) * 32) ++ zr ((n - (k + 1)) * 32))) 25 (0,0))∧Besides g w (wr.drew.setRow w.heap.size (bc (l.take ((k + 1) * 32) ++ zr ((n - (k + 1)) * 32))))):=by
        have bb:Besides w.heap.size wr.drew (wr.drew.setRow w.heap.size (bc (l.take ((k + 1) * 32) ++ zr ((n - (k + 1)) * 32)))):=Besides.setRow _ _ _
        have m2:MB wr.drew g { m with h:=.slice (some ⟨w.heap.size,0,none⟩) n n }:=hI.out.1
        refine ⟨m2.besides bb (by omega),heapSetRow _ _ _ _ _ hI.out.2.1,⟨hI.out.2.2.os,hI.out.2.2.tape,hI.out.2.2.output,Nat.le_trans hI.out.2.2.size bb.size,fun j hj hne=>?_⟩⟩
        exact (setRow_other _ _ _ _ (by omega)).trans (hI.out.2.2.block j hj hne)
      go_wp2
      refine wp_region_held_drew (S:=fun u=>u.cell? ⟨g,39,none⟩ = some (.slice (some ⟨w.heap.size,0,none⟩) n n)) (by kernel_rfl) (hI39) (fun hHeld=>?_)
      refine tkB (i:=0) (v:=ptr g) rfl hHeld ?_
      simp only [Act.put,zq1,zq2,zq4,zq5,zq6]
      refine tkB (i:=1) (v:=ptr g) rfl hHeld ?_
      simp only [Act.put,zq1,zq2,zq3,zq4,zq5,zq6]
      refine tkB (i:=2) (v:=.pointer (some ⟨g,39,none⟩)) rfl hHeld ?_
      simp only [Act.put,zq1,zq2,zq3,zq4,zq5,zq6]
      refine tkA (i:=3) (v:=.slice (some ⟨w.heap.size,0,none⟩) n n) rfl (Or.inl ⟨by rfl,fun w hw=>by have hw2:w.cell? ⟨g,39,none⟩ = _:=hw; go_simp⟩) hHeld ?_
      simp only [Act.put,zq1,zq2,zq3,zq4,zq5,zq6]
      refine tkB (i:=4) (v:=.int .i64 k) rfl hHeld ?_
      simp only [Act.put,zq1,zq2,zq3,zq4,zq5,zq6]
      refine tkB (i:=5) (v:=.pointer (some ⟨w.heap.size,k * 32,none⟩)) rfl hHeld ?_
      simp only [Act.put,zq1,zq2,zq3,zq4,zq5,zq6]
      refine tkB (i:=6) (v:=.slice (some ⟨w.heap.size,k * 32,none⟩) 32 32) rfl hHeld ?_
      simp only [Act.put,zq1,zq2,zq3,zq4,zq5,zq6]
      refine tkB (i:=7) (v:=.slice (some ⟨b,o,none⟩) (n * 32) c) rfl hHeld ?_
      simp only [Act.put,zq1,zq2,zq3,zq4,zq5,zq6]
      refine tkB (i:=8) (v:=.int .i64 k) rfl hHeld ?_
      simp only [Act.put,zq1,zq2,zq3,zq4,zq5,zq6]
      refine tkA (i:=9) (v:=.int .i64 (k * 32)) rfl (Or.inl ⟨by rfl,fun w hw=>by go_simp; rw [IntKind.wrap_i64]; omega⟩) hHeld ?_
      simp only [Act.put,zq1,zq2,zq3,zq4,zq5,zq6]
      refine tkA (i:=10) (v:=.slice (some ⟨b,o + k * 32,none⟩) (n * 32 - k * 32) (c - k * 32)) rfl (Or.inl ⟨by rfl,fun w hw=>by go_simp; rw [show ((k:Int) * 32).toNat = k * 32 by omega,if_pos (by omega),if_neg (by omega)]⟩) hHeld ?_
      simp only [Act.put,zq1,zq2,zq3,zq4,zq5,zq6]
      refine wpAnyH_ready (rs:=[11]) (by kernel_rfl) (by simp) ?_
      refine AllReadyH.cons (o:=_) rfl (fun K hK=>?_) AllReadyH.nil
      go_simp
      refine hK.out _ _ hS2 (fun hHeld=>?_)
      clear hK K
      refine wpAnyH_done (by kernel_rfl) ?_ _
      go_wp2
      exact ⟨⟨k + 1,by omega,by go_num,HE.out⟩,by simp [intOf]; omega⟩
    · obtain rfl:k = n:=by omega
      have HE:Hid (THR w wr (.returned (.slice none 0 0)) g k m l):=by
        refine ⟨rfl,hI.out.1,?_,hI.out.2.2⟩
        have h1:=hI.out.2.1
        rw [Nat.sub_self,Nat.zero_mul,List.take_of_length_le (by have:=HR.out.2; omega)] at h1
        simpa [zr] using h1
      go_wp2
      go_ret
      exact HE.out
def rst (c:Nat) (l:List UInt8):List UInt8:=
  match c with
  | 1=>l.drop 1
  | 2=>l.drop 1
  | 7=>l.drop 32
  | 10=>[]
  | 11=>[]
  | _=>l.drop 4
def upd (c:Nat) (m:Mv) (l:List UInt8):Mv:=
  match c with
  | 2=>{ m with i:=((byt l 0).toNat:Int) }
  | 3=>{ m with i:=(nm4 l:Int) }
  | 4=>{ m with b:=(nm4 l:Int) }
  | 5=>{ m with l:=(nm4 l:Int) }
  | 6=>{ m with l:=(nm4 l:Int) }
  | 7=>{ m with r:=l.take 32 }
  | 8=>{ m with ba:=(nm4 l:Int) }
  | 9=>{ m with pr:=(nm4 l:Int) }
  | _=>m
def dD (c:Nat) (l D:List UInt8):List UInt8:=if c = 10 then l else D
def dH (c:Nat) (l hb:List UInt8):List UInt8:=if c = 11 then l else hb
def nds (c:Nat) (l:List UInt8):Prop:=
  match c with
  | 1=>1≤l.length
  | 2=>1≤l.length
  | 7=>32≤l.length
  | 10=>True
  | 11=>∃ n,l.length = n * 32
  | _=>4≤l.length
theorem OW.besides {B:Nat} {w w':World} {v:Value} {l:List UInt8} {g:Nat} {m:Mv} (h:OW B w v l) (hm:MB w g m) (hb:Besides g w w'):OW B w' v l:=by
  refine ⟨h.1,?_⟩
  rcases h.2 with h1 | ⟨k,cap,cur,h1,h2,h3,h4⟩
  · exact .inl h1
  · refine .inr ⟨k,cap,cur,h1,h2,(hb.block k (Array.getElem?_eq_some_iff.1 h3).1 ?_).trans h3,h4⟩
    rintro rfl
    unfold MB at hm
    rw [h3] at hm
    simp at hm
theorem OH.besides {B:Nat} {w w':World} {v:Value} {l:List UInt8} {g:Nat} {m:Mv} (h:OH B w v l) (hm:MB w g m) (hb:Besides g w w'):OH B w' v l:=by
  obtain ⟨n,e,h⟩:=h
  refine ⟨n,e,h.1,?_⟩
  rcases h.2 with h1 | ⟨k,cap,cur,h1,h2,h3,h4⟩
  · exact .inl h1
  · refine .inr ⟨k,cap,cur,h1,h2,(hb.block k (Array.getElem?_eq_some_iff.1 h3).1 ?_).trans h3,h4⟩
    rintro rfl
    unfold MB at hm
    rw [h3] at hm
    simp at hm
theorem OH.of_block {B g n:Nat} {w:World} {l:List UInt8} (hB:B≤g) (hg:w.heap[g]? = some (.cells (bc l) 25 (0,0))) (hl:l.length = n * 32) (hn:n≤1000000):OH B w (.slice (some ⟨g,0,none⟩) n n) l:=by
  refine ⟨n,hl,by rw [bcl_len]; exact hl,.inr ⟨g,n,bc l,rfl,hB,hg,Nat.le_refl _,by unfold maxLen; omega,by rw [bc_size,hl],?_⟩⟩
  rw [bc_list, ← hl, ← bcl_len,List.take_length]
def TKR (W w w':World) (e:Ending) (c g:Nat) (m:Mv) (D hb l:List UInt8):Prop:=
  ∃ v' d' h',e = .returned v'∧RB W v' (rst c l)∧MB w' g { upd c m l with d:=d',h:=h' }∧OW W.heap.size w' d' (dD c l D)∧OH W.heap.size w' h' (dH c l hb)∧Besides g w w'
def TKC (w:World) (c f:Nat) (caps:Array Value):Prop:=∀ (W:World) (g:Nat) (m:Mv) (D hb:List UInt8) (v:Value) (l:List UInt8),MB w g m→m.ok→RB W v l→Below W.heap.size W w→W.heap.size≤g→l.length≤1000000→nds c l→OW W.heap.size w m.d D→OH W.heap.size w m.h hb→Calls Tryz.prog f (#[ptr g,v] ++ caps) w fun e w'=>TKR W w w' e c g m D hb l
theorem TKR.one {W w w':World} {e:Ending} {c g:Nat} {m m':Mv} {D hb l:List UInt8} {v':Value} (he:e = .returned v') (hr:RB W v' (rst c l)) (hm:MB w g m) (h1:MB w' g m') (h2:m' = { upd c m l with d:=m.d,h:=m.h }) (hd:OW W.heap.size w m.d D) (hh:OH W.heap.size w m.h hb) (hb':Besides g w w') (c10:c≠10) (c11:c≠11):TKR W w w' e c g m D hb l:=by
  subst h2
  exact ⟨v',m.d,m.h,he,hr,h1,by unfold dD; rw [if_neg c10]; exact hd.besides hm hb',by unfold dH; rw [if_neg c11]; exact hh.besides hm hb',hb'⟩
theorem besidesN (g:Nat) (w:World) (n:Nat):Besides g w (w.drewN n):=Besides.of_below (belowDrew w n)
theorem FLD.take {w:World} {c:Nat} {v0 v1 v2 v3 v4:Value} (h:FLD w c [v0,v1,v2,v3,v4]):∃ f caps,v2 = clo f caps∧EN f∧TKC w c f caps:=by
  unfold FLD at h
  split at h
  · cases h
    refine ⟨_,_,rfl,en_k3,fun W g m D hb v l hm ok hr hW hg hl hn hd hh=>?_⟩
    refine (k3T W w g v l hn (by omega) hr).mono ?_
    rintro e w' ⟨v',he,h1,rfl⟩
    exact TKR.one he h1 hm hm rfl hd hh (Besides.refl _ _) (by decide) (by decide)
  · cases h
    refine ⟨_,_,rfl,en_o3,fun W g m D hb v l hm ok hr hW hg hl hn hd hh=>?_⟩
    refine (o3T W w g m hm v l hn (by omega) hr hW).mono ?_
    rintro e w' ⟨v',he,h1,rfl⟩
    exact TKR.one he h1 hm (hm.set 1 _ rfl) rfl hd hh (Besides.setCell _ _ _ _) (by decide) (by decide)
  · obtain ⟨p,q,s,e,hp,hq,hs⟩:=h.cells
    cases e
    refine ⟨_,_,rfl,en_n3,fun W g m D hb v l hm ok hr hW hg hl hn hd hh=>?_⟩
    refine (n3T W w g p 121 1 m.i hp en_of1 of1C (hm.c1) (hm.free 1) v l hn (by omega) hr hW).mono ?_
    rintro e w' ⟨v',n,he,h1,rfl⟩
    have hm2:MB (w.drewN n) g m:=hm.below (belowDrew w n)
    exact TKR.one he h1 hm (hm2.set 1 _ (rfl)) rfl hd hh ((besidesN g w n).trans (Besides.setCell _ _ _ _)) (by decide) (by decide)
  · obtain ⟨p,q,s,e,hp,hq,hs⟩:=h.cells
    cases e
    refine ⟨_,_,rfl,en_n3,fun W g m D hb v l hm ok hr hW hg hl hn hd hh=>?_⟩
    refine (n3T W w g p 122 2 m.b hp en_of2 of2C (hm.c2) (hm.free 2) v l hn (by omega) hr hW).mono ?_
    rintro e w' ⟨v',n,he,h1,rfl⟩
    have hm2:MB (w.drewN n) g m:=hm.below (belowDrew w n)
    exact TKR.one he h1 hm (hm2.set 2 _ (rfl)) rfl hd hh ((besidesN g w n).trans (Besides.setCell _ _ _ _)) (by decide) (by decide)
  · obtain ⟨p,q,s,e,hp,hq,hs⟩:=h.cells
    cases e
    refine ⟨_,_,rfl,en_n3,fun W g m D hb v l hm ok hr hW hg hl hn hd hh=>?_⟩
    refine (n3T W w g p 123 3 m.l hp en_of3 of3C (hm.c3) (hm.free 3) v l hn (by omega) hr hW).mono ?_
    rintro e w' ⟨v',n,he,h1,rfl⟩
    have hm2:MB (w.drewN n) g m:=hm.below (belowDrew w n)
    exact TKR.one he h1 hm (hm2.set 3 _ (rfl)) rfl hd hh ((besidesN g w n).trans (Besides.setCell _ _ _ _)) (by decide) (by decide)
  · obtain ⟨p,q,s,e,hp,hq,hs⟩:=h.cells
    cases e
    refine ⟨_,_,rfl,en_n3,fun W g m D hb v l hm ok hr hW hg hl hn hd hh=>?_⟩
    refine (n3T W w g p 124 3 m.l hp en_of4 of4C (hm.c3) (hm.free 3) v l hn (by omega) hr hW).mono ?_
    rintro e w' ⟨v',n,he,h1,rfl⟩
    have hm2:MB (w.drewN n) g m:=hm.below (belowDrew w n)
    exact TKR.one he h1 hm (hm2.set 3 _ (rfl)) rfl hd hh ((besidesN g w n).trans (Besides.setCell _ _ _ _)) (by decide) (by decide)
  · cases h
    refine ⟨_,_,rfl,en_r3,fun W g m D hb v l hm ok hr hW hg hl hn hd hh=>?_⟩
    refine (r3T W w g m ok hm v l hn (by omega) hr hW).mono ?_
    rintro e w' ⟨v',he,h1,rfl⟩
    exact TKR.one he h1 hm (MB.setRow hm) rfl hd hh (Besides.setRow _ _ _) (by decide) (by decide)
  · obtain ⟨p,q,s,e,hp,hq,hs⟩:=h.cells
    cases e
    refine ⟨_,_,rfl,en_n3,fun W g m D hb v l hm ok hr hW hg hl hn hd hh=>?_⟩
    refine (n3T W w g p 126 37 m.ba hp en_of5 of5C (hm.c37 ok) (hm.free 37) v l hn (by omega) hr hW).mono ?_
    rintro e w' ⟨v',n,he,h1,rfl⟩
    have hm2:MB (w.drewN n) g m:=hm.below (belowDrew w n)
    exact TKR.one he h1 hm (hm2.set 37 _ (Mv.set37 ok _)) rfl hd hh ((besidesN g w n).trans (Besides.setCell _ _ _ _)) (by decide) (by decide)
  · obtain ⟨p,q,s,e,hp,hq,hs⟩:=h.cells
    cases e
    refine ⟨_,_,rfl,en_n3,fun W g m D hb v l hm ok hr hW hg hl hn hd hh=>?_⟩
    refine (n3T W w g p 127 38 m.pr hp en_of6 of6C (hm.c38 ok) (hm.free 38) v l hn (by omega) hr hW).mono ?_
    rintro e w' ⟨v',n,he,h1,rfl⟩
    have hm2:MB (w.drewN n) g m:=hm.below (belowDrew w n)
    exact TKR.one he h1 hm (hm2.set 38 _ (Mv.set38 ok _)) rfl hd hh ((besidesN g w n).trans (Besides.setCell _ _ _ _)) (by decide) (by decide)
  · cases h
    refine ⟨_,_,rfl,en_d3,fun W g m D hb v l hm ok hr hW hg hl hn hd hh=>?_⟩
    refine (d3T w g m hm v l (by omega) (hr.keep hW)).mono ?_
    rintro e w' ⟨d',he,h1,h2,h3⟩
    exact ⟨_,d',m.h,he,⟨none,0,rfl,Nat.le_refl _,.inl rfl⟩,h2,h1.mono hW.size,hh.besides hm h3,h3⟩
  · cases h
    refine ⟨_,_,rfl,en_takeHashes,fun W g m D hb v l hm ok hr hW hg hl hn hd hh=>?_⟩
    obtain ⟨n,hn⟩:=hn
    refine (takeHashesT w g n m ok hm v l hn hl (hr.keep hW) ?_).mono ?_
    · intro hpos b o c e
      obtain ⟨a,c',e2,_,h2⟩:=hr
      rcases h2 with h2 | ⟨g',o',h2,h3,_⟩
      · rw [h2] at hn; simp at hn; omega
      · rw [e2,h2] at e
        simp only [Value.slice.injEq,Option.some.injEq,Addr.mk.injEq] at e
        have:=e.1.1
        omega
    · rintro e w' ⟨he,h1,h2,h3⟩
      exact ⟨_,m.d,_,he,⟨none,0,rfl,Nat.le_refl _,.inl rfl⟩,h1,hd.besides hm h3,OH.of_block hW.size h2 hn (by omega),h3⟩
  · exact absurd h id
structure Ds where
  m:Mv
  D:List UInt8
  hb:List UInt8
  l:List UInt8
def Ds.tk (c:Nat) (s:Ds):Ds:=⟨upd c s.m s.l,dD c s.l s.D,dH c s.l s.hb,rst c s.l⟩
def Ds.tks (cs:List Nat) (s:Ds):Ds:=cs.foldl (fun s c=>Ds.tk c s) s
def NDS:List Nat→List UInt8→Prop
  | [],_=>True
  | c :: cs,l=>nds c l∧NDS cs (rst c l)
theorem tks_l (cs:List Nat) (s:Ds):(Ds.tks cs s).l = cs.foldl (fun l c=>rst c l) s.l:=by
  induction cs generalizing s with
  | nil=>rfl
  | cons c cs ih=>exact ih (Ds.tk c s)
theorem NDS.at {cs:List Nat} {l:List UInt8} (h:NDS cs l) (n c:Nat) (hc:cs[n]? = some c):nds c ((cs.take n).foldl (fun l c=>rst c l) l):=by
  induction cs generalizing l n with
  | nil=>simp at hc
  | cons a cs ih =>
    cases n with
    | zero=>simp at hc; subst hc; exact h.1
    | succ n=>exact ih h.2 n (by simpa using hc)
theorem rst_le (c:Nat) (l:List UInt8):(rst c l).length≤l.length:=by
  unfold rst
  split <;> simp
theorem rsts_le (cs:List Nat) (l:List UInt8):(cs.foldl (fun l c=>rst c l) l).length≤l.length:=by
  induction cs generalizing l with
  | nil=>exact Nat.le_refl _
  | cons c cs ih=>exact Nat.le_trans (ih (rst c l)) (rst_le c l)
theorem fit_NDS (r:Kr) (hr:r ∈ rws) (l:List UInt8) (h:r.fit (l.length:Int) = true):NDS r.cs l:=by
  unfold Kr.fit at h
  simp only [Bool.and_eq_true,decide_eq_true_eq,beq_iff_eq] at h
  obtain ⟨⟨h1,h2⟩,h3⟩:=h
  simp only [rws,List.mem_cons,List.not_mem_nil,or_false] at hr
  rcases hr with rfl | rfl | rfl | rfl | rfl | rfl | rfl | rfl | rfl | rfl | rfl | rfl | rfl | rfl
  all_goals simp only [Kr.cs] at *
  all_goals simp [NDS,nds,rst,List.takeWhile] at *
  all_goals first | omega | skip
  all_goals (refine ⟨by omega,by omega,by omega,by omega,by omega,by omega,(l.length - 49) / 32,by omega⟩)
def ub (x:Int):UInt8:=UInt8.ofNat (x % 256).toNat
theorem ub_val (x:Int):((ub x).toNat:Int) = x % 256:=by
  unfold ub
  rw [UInt8.toNat_ofNat']
  omega
def lay (c:Nat) (m:Mv) (D hb:List UInt8):List UInt8:=
  match c with
  | 1=>[ub m.k]
  | 2=>[ub m.i]
  | 3=>be4 m.i.toNat
  | 4=>be4 m.b.toNat
  | 5=>be4 m.l.toNat
  | 6=>be4 m.l.toNat
  | 7=>m.r
  | 8=>be4 m.ba.toNat
  | 9=>be4 m.pr.toNat
  | 10=>D
  | 11=>hb
  | _=>[]
theorem rb_new {w:World} {l:List UInt8} {n:Nat} (hn:l.length = n):RB (w.alloc (.cells (bc l) 5)) (.slice (some ⟨w.heap.size,0,none⟩) n n) l:=by
  subst hn
  refine ⟨_,_,rfl,Nat.le_refl _,.inr ⟨w.heap.size,0,rfl,by simp,fun i hi=>?_⟩⟩
  rw [Nat.zero_add]
  exact cell_bc (heapNew w _) i hi
theorem ub_cells (x:Int):#[Value.int .u8 (x % 256)] = bc [ub x]:=by
  simp [bc,Lib.byteCells,ub_val]
theorem be4_cells (n:Nat):#[Value.int .u8 ((n:Int) / 16777216 % 256),Value.int .u8 ((n:Int) / 65536 % 256),Value.int .u8 ((n:Int) / 256 % 256),Value.int .u8 ((n:Int) % 256)] = bc (be4 n):=by
  have h1:=u8v (n / 16777216)
  have h2:=u8v (n / 65536)
  have h3:=u8v (n / 256)
  have h4:=u8v n
  simp only [bc,Lib.byteCells,be4,List.map_cons,List.map_nil,h1,h2,h3,h4]
  congr 1
theorem be4_cells' (n:Nat) (hn:n≤4294967295):#[Value.int .u8 ((n:Int) / 16777216),Value.int .u8 ((n:Int) / 65536 % 256),Value.int .u8 ((n:Int) / 256 % 256),Value.int .u8 ((n:Int) % 256)] = bc (be4 n):=by
  rw [← be4_cells,show (n:Int) / 16777216 % 256 = (n:Int) / 16777216 by omega]
def LYR (B:Nat) (w w':World) (e:Ending) (l:List UInt8):Prop:=∃ v',e = .returned v'∧OW B w' v' l∧Below B w w'
set_option maxHeartbeats 1000000 in
theorem k2T (w:World) (g B:Nat) (m:Mv) (v:Value) (l:List UInt8) (hm:MB w g m) (ho:OW B w v l) (hB:B≤w.heap.size) (hl:l.length≤100000000) :
    Calls Tryz.prog 131 #[v,ptr g] w fun e w'=>LYR B w w' e (l ++ [ub m.k]):=by
  have c0:=hm.c0
  have HB:=ub_cells m.k
  have HO:Hid (OW B (w.alloc (.cells (bc [ub m.k]) 5)) v l∧RB (w.alloc (.cells (bc [ub m.k]) 5)) (.slice (some ⟨w.heap.size,0,none⟩) 1 1) [ub m.k]∧B≤(w.alloc (.cells (bc [ub m.k]) 5)).heap.size∧l.length + [ub m.k].length≤140737488351232∧Below B w (w.alloc (.cells (bc [ub m.k]) 5))):=⟨ho.alloc _,rb_new rfl,by simp; omega,by simp; omega,(Below.refl _ _).alloc hB _⟩
  obtain ⟨a,c,rfl⟩:=ho.form
  rw [← HB] at HO
  clear hm ho HB
  go_enter Tryz.func131,Tryz.ntmps131
  go_wp2_with (at_builtin; refine append_bytes rfl _ _ rfl rfl HO.out.1 rfl HO.out.2.1 HO.out.2.2.1 HO.out.2.2.2.1 ?_; intro v' w1 hown' hb1)
  have HE:Hid (OW B w1 v' (l ++ [ub m.k])∧Below B w w1):=⟨hown',HO.out.2.2.2.2.trans hb1⟩
  clear hown' hb1
  go_wp2
  go_ret
  exact ⟨_,rfl,HE.out⟩
set_option maxHeartbeats 1000000 in
theorem o2T (w:World) (g B:Nat) (m:Mv) (v:Value) (l:List UInt8) (hm:MB w g m) (ho:OW B w v l) (hB:B≤w.heap.size) (hl:l.length≤100000000) :
    Calls Tryz.prog 136 #[v,ptr g] w fun e w'=>LYR B w w' e (l ++ [ub m.i]):=by
  have c0:=hm.c1
  have HB:=ub_cells m.i
  have HO:Hid (OW B (w.alloc (.cells (bc [ub m.i]) 5)) v l∧RB (w.alloc (.cells (bc [ub m.i]) 5)) (.slice (some ⟨w.heap.size,0,none⟩) 1 1) [ub m.i]∧B≤(w.alloc (.cells (bc [ub m.i]) 5)).heap.size∧l.length + [ub m.i].length≤140737488351232∧Below B w (w.alloc (.cells (bc [ub m.i]) 5))):=⟨ho.alloc _,rb_new rfl,by simp; omega,by simp; omega,(Below.refl _ _).alloc hB _⟩
  obtain ⟨a,c,rfl⟩:=ho.form
  rw [← HB] at HO
  clear hm ho HB
  go_enter Tryz.func136,Tryz.ntmps136
  go_wp2_with (at_builtin; refine append_bytes rfl _ _ rfl rfl HO.out.1 rfl HO.out.2.1 HO.out.2.2.1 HO.out.2.2.2.1 ?_; intro v' w1 hown' hb1)
  have HE:Hid (OW B w1 v' (l ++ [ub m.i])∧Below B w w1):=⟨hown',HO.out.2.2.2.2.trans hb1⟩
  clear hown' hb1
  go_wp2
  go_ret
  exact ⟨_,rfl,HE.out⟩
set_option maxHeartbeats 1000000 in
theorem layNumberT (w:World) (B n:Nat) (v:Value) (l:List UInt8) (hn:n≤4294967295) (ho:OW B w v l) (hB:B≤w.heap.size) (hl:l.length≤100000000) :
    Calls Tryz.prog 142 #[v,.int .i64 (n:Int)] w fun e w'=>LYR B w w' e (l ++ be4 n):=by
  have HB:=be4_cells' n hn
  have HO:Hid (OW B (w.alloc (.cells (bc (be4 n)) 5)) v l∧RB (w.alloc (.cells (bc (be4 n)) 5)) (.slice (some ⟨w.heap.size,0,none⟩) 4 4) (be4 n)∧B≤(w.alloc (.cells (bc (be4 n)) 5)).heap.size∧l.length + (be4 n).length≤140737488351232∧Below B w (w.alloc (.cells (bc (be4 n)) 5))):=⟨ho.alloc _,rb_new rfl,by simp; omega,by rw [be4_len]; omega,(Below.refl _ _).alloc hB _⟩
  obtain ⟨a,c,rfl⟩:=ho.form
  rw [← HB] at HO
  clear ho HB
  go_enter Tryz.func142,Tryz.ntmps142
  go_wp2_with (at_builtin; refine append_bytes rfl _ _ rfl rfl HO.out.1 rfl HO.out.2.1 HO.out.2.2.1 HO.out.2.2.2.1 ?_; intro v' w1 hown' hb1)
  have HE:Hid (OW B w1 v' (l ++ be4 n)∧Below B w w1):=⟨hown',HO.out.2.2.2.2.trans hb1⟩
  clear hown' hb1
  go_wp2
  go_ret
  exact ⟨_,rfl,HE.out⟩
set_option maxHeartbeats 1000000 in
theorem n2T (w:World) (g p f j B:Nat) (x:Int) (v:Value) (l:List UInt8) (hp:w.cell? ⟨p,0,none⟩ = some (fnv f)) (he:EN f) (hf:OFC f j) (h1:w.cell? ⟨g,j,none⟩ = some (.int .i64 x)) (hx:0≤x∧x≤4294967295) (ho:OW B w v l) (hB:B≤w.heap.size) (hl:l.length≤100000000) :
    Calls Tryz.prog 141 #[v,ptr g,ptr p] w fun e w'=>LYR B w w' e (l ++ be4 x.toNat):=by
  have HF:Hid (OFC f j):=hf
  have HN:Hid (Calls Tryz.prog 142 #[v,.int .i64 x] w fun e w'=>LYR B w w' e (l ++ be4 x.toNat)):=by
    have:=layNumberT w B x.toNat v l (by omega) ho hB hl
    rw [show ((x.toNat:Nat):Int) = x by omega] at this
    exact this
  obtain ⟨a,c,rfl⟩:=ho.form
  clear hf ho
  go_enter Tryz.func141,Tryz.ntmps141
  go_wp2_with fail
  refine (HF.out w g).mono ?_
  rintro e w1 ⟨rfl,rfl⟩
  go_wp2_with fail
  refine HN.out.mono ?_
  rintro e w2 ⟨v',rfl,o2,b2⟩
  have HE:Hid (OW B w2 v' (l ++ be4 x.toNat)∧Below B w1 w2):=⟨o2,b2⟩
  clear o2 b2
  go_wp2
  go_ret
  exact ⟨_,rfl,HE.out⟩
theorem MB.rb {w:World} {g:Nat} {m:Mv} (h:MB w g m) (ok:m.ok):RB w (.slice (some ⟨g,5,none⟩) 32 32) m.r:=by
  refine ⟨_,32,by rw [ok.r],by rw [ok.r]; exact Nat.le_refl _,.inr ⟨g,5,rfl,h.lt,fun i hi=>?_⟩⟩
  exact h.root i _ (bcl_get m.r i hi)
set_option maxHeartbeats 1000000 in
theorem r2T (w:World) (g B:Nat) (m:Mv) (ok:m.ok) (v:Value) (l:List UInt8) (hm:MB w g m) (ho:OW B w v l) (hB:B≤w.heap.size) (hl:l.length≤100000000) :
    Calls Tryz.prog 148 #[v,ptr g] w fun e w'=>LYR B w w' e (l ++ m.r):=by
  have HO:Hid (OW B w v l∧RB w (.slice (some ⟨g,5,none⟩) 32 32) m.r∧B≤w.heap.size∧l.length + m.r.length≤140737488351232):=⟨ho,hm.rb ok,hB,by rw [ok.r]; omega⟩
  obtain ⟨a,c,rfl⟩:=ho.form
  clear hm ho
  go_enter Tryz.func148,Tryz.ntmps148
  go_wp2_with (at_builtin; refine append_bytes rfl _ _ rfl rfl HO.out.1 rfl HO.out.2.1 HO.out.2.2.1 HO.out.2.2.2 ?_; intro v' w1 hown' hb1)
  have HE:Hid (OW B w1 v' (l ++ m.r)∧Below B w w1):=⟨hown',hb1⟩
  clear hown' hb1
  go_wp2
  go_ret
  exact ⟨_,rfl,HE.out⟩
set_option maxHeartbeats 1000000 in
theorem d2T (w:World) (g B:Nat) (m:Mv) (v:Value) (l D:List UInt8) (hm:MB w g m) (hd:RB w m.d D) (ho:OW B w v l) (hB:B≤w.heap.size) (hl:l.length + D.length≤140737488351232) :
    Calls Tryz.prog 152 #[v,ptr g] w fun e w'=>LYR B w w' e (l ++ D):=by
  have HO:Hid (OW B w v l∧RB w m.d D∧B≤w.heap.size∧l.length + D.length≤140737488351232):=⟨ho,hd,hB,hl⟩
  obtain ⟨a,c,rfl⟩:=ho.form
  obtain ⟨a2,c2,e2,_⟩:=hd
  have c4:=hm.c4
  rw [e2] at c4 HO
  clear hm ho
  go_enter Tryz.func152,Tryz.ntmps152
  go_wp2_with (at_builtin; refine append_bytes rfl _ _ rfl rfl HO.out.1 rfl HO.out.2.1 HO.out.2.2.1 HO.out.2.2.2 ?_; intro v' w1 hown' hb1)
  have HE:Hid (OW B w1 v' (l ++ D)∧Below B w w1):=⟨hown',hb1⟩
  clear hown' hb1
  go_wp2
  go_ret
  exact ⟨_,rfl,HE.out⟩
abbrev z32a:Array Value:=#[Value.int .u8 0,.int .u8 0,.int .u8 0,.int .u8 0,.int .u8 0,.int .u8 0,.int .u8 0,.int .u8 0,.int .u8 0,.int .u8 0,.int .u8 0,.int .u8 0,.int .u8 0,.int .u8 0,.int .u8 0,.int .u8 0,.int .u8 0,.int .u8 0,.int .u8 0,.int .u8 0,.int .u8 0,.int .u8 0,.int .u8 0,.int .u8 0,.int .u8 0,.int .u8 0,.int .u8 0,.int .u8 0,.int .u8 0,.int .u8 0,.int .u8 0,.int .u8 0]
theorem be4len (n:Nat):(be4 n).length = 4:=rfl
set_option maxHeartbeats 2000000 in
set_option maxRecDepth 100000 in
theorem layHashesT (W w:World) (g:Nat) (m:Mv) (ok:m.ok) (v:Value) (l hb:List UInt8) (hm:MB W g m) (hh:RH W m.h hb) (hW:Below W.heap.size W w) (ho:OW W.heap.size w v l) (hl:l.length + hb.length≤140737488351232) :
    Calls Tryz.prog 156 #[v,ptr g] w fun e w'=>LYR W.heap.size w w' e (l ++ hb):=by
  have c39:=(hm.below hW).c39 ok
  obtain ⟨ah,nh,ch,eh,lh,_,_⟩:=id hh
  rw [eh] at c39
  have HH:Hid (RH W m.h hb∧m.h = .slice ah nh ch∧hb.length = nh * 32∧l.length + hb.length≤140737488351232∧Below W.heap.size W w):=⟨hh,eh,lh,hl,hW⟩
  have HO:Hid (OW W.heap.size w v l):=ho
  obtain ⟨a,c,rfl⟩:=ho.form
  have hnh:nh * 32≤140737488351232:=by omega
  clear hm hh eh lh ho hW
  go_enter Tryz.func156,Tryz.ntmps156
  go_wp2
  go_loopw [0,12] (fun u t wr=>∃ k:Nat,k≤nh∧t = .int .i64 k∧Hid (OW W.heap.size wr u (l ++ hb.take (k * 32))∧Below W.heap.size w wr)) (fun _ t _=>nh - (intOf t).toNat)
  case atStart=>exact ⟨0,by omega,rfl,by simpa using HO.out,Below.refl _ _⟩
  case round =>
    obtain ⟨k,hk,rfl,hI⟩:=hrel
    by_cases hlt:k < nh
    · obtain ⟨G,o,rfl,hG,r1,l1⟩:=RH.cut HH.out.1 HH.out.2.1 k hlt
      have hWr:Below W.heap.size W wr:=HH.out.2.2.2.2.trans hI.out.2
      have r2:wr.rangeAt G (o + k * 32) (Lib.byteCells ((hb.drop (k * 32)).take 32)):=fun j y hj=>(hWr.cell (p:=⟨G,o + k * 32 + j,none⟩) hG).trans (r1 j y hj)
      have hih:(Tryz.prog.info? 25).map (·.size) = some (Lib.byteCells ((hb.drop (k * 32)).take 32)).length:=by rw [bcl_len,l1]; exact info_hash
      have hih2:(Tryz.prog.info? 25).map (·.size) = some (bc ((hb.drop (k * 32)).take 32)).size:=by rw [bc_size,l1]; exact info_hash
      have hone:=bc_one ((hb.drop (k * 32)).take 32)
      have hz:z32a.size = (bc ((hb.drop (k * 32)).take 32)).size:=by rw [bc_size,l1]; rfl
      have hg0:=heapNew wr (.cells z32a 25)
      have bX:Below wr.heap.size wr ((wr.alloc (.cells z32a 25)).setRow wr.heap.size (bc ((hb.drop (k * 32)).take 32))):=belowSetRow ((Below.refl _ _).alloc (Nat.le_refl _) _) (Nat.le_refl _) _
      have hs:=hWr.size
      have HX:Hid (OW W.heap.size ((wr.alloc (.cells z32a 25)).setRow wr.heap.size (bc ((hb.drop (k * 32)).take 32))) u0 (l ++ hb.take (k * 32))∧RB ((wr.alloc (.cells z32a 25)).setRow wr.heap.size (bc ((hb.drop (k * 32)).take 32))) (.slice (some ⟨wr.heap.size,0,none⟩) 32 32) ((hb.drop (k * 32)).take 32)∧W.heap.size≤((wr.alloc (.cells z32a 25)).setRow wr.heap.size (bc ((hb.drop (k * 32)).take 32))).heap.size∧(l ++ hb.take (k * 32)).length + ((hb.drop (k * 32)).take 32).length≤140737488351232∧Below W.heap.size w ((wr.alloc (.cells z32a 25)).setRow wr.heap.size (bc ((hb.drop (k * 32)).take 32)))):=by
        refine ⟨hI.out.1.grow bX,⟨_,32,by rw [l1],by rw [l1]; exact Nat.le_refl _,.inr ⟨wr.heap.size,0,rfl,by simp [World.setRow],fun i hi=>?_⟩⟩,by simp [World.setRow]; omega,?_,hI.out.2.trans (bX.mono hs)⟩
        · rw [Nat.zero_add]; exact cell_bc (heapSetRow _ _ _ _ _ hg0) i hi
        · rw [l1,List.length_append,List.length_take]
          have h1:=HH.out.2.2.1
          have h2:=HH.out.2.2.2.1
          omega
      have HT:Hid (hb.take ((k + 1) * 32) = hb.take (k * 32) ++ (hb.drop (k * 32)).take 32):=take_hash hb k
      obtain ⟨ua,uc,rfl⟩:=hI.out.1.form
      clear hI r1 bX hs hWr
      generalize (hb.drop (k * 32)).take 32 = h32 at *
      generalize hL:l ++ hb.take (k * 32) = L at *
      have HL:Hid (l ++ hb.take (k * 32) = L):=hL
      clear hL
      go_wp2_with (first |(refine wpList_load_mid rfl 25 _ rfl G (o + k * 32) rfl _ _ r2 Tryz.underlying25 rfl hih ?_) |(refine wpList_store_row rfl 25 _ _ rfl wr.heap.size (bc h32) rfl rfl 25 z32a hg0 hih2 hz hone ?_) |(at_builtin; refine append_bytes rfl _ _ rfl rfl HX.out.1 rfl HX.out.2.1 HX.out.2.2.1 HX.out.2.2.2.1 ?_; intro v' w1 hown' hb1))
      refine ⟨⟨k + 1,by omega,by go_num,?_,HX.out.2.2.2.2.trans hb1⟩,by simp [intOf]; omega⟩
      rw [HT.out, ← List.append_assoc,HL.out]
      exact hown'
    · have HE:Hid (OW W.heap.size wr u0 (l ++ hb)∧Below W.heap.size w wr):=by
        have h1:=hI.out.1
        rw [List.take_of_length_le (by have:=HH.out.2.2.1; omega)] at h1
        exact ⟨h1,hI.out.2⟩
      go_wp2
      go_ret
      exact ⟨_,rfl,HE.out⟩
def LYC (w:World) (c f:Nat) (caps:Array Value):Prop:=∀ (W:World) (g:Nat) (m:Mv) (D hb:List UInt8) (v:Value) (l:List UInt8),MB W g m→MM W m D hb→lk c m = true→Below W.heap.size W w→OW W.heap.size w v l→l.length≤100000000→D.length≤1000000→hb.length≤1000000→Calls Tryz.prog f (#[v,ptr g] ++ caps) w fun e w'=>LYR W.heap.size w w' e (l ++ lay c m D hb)
theorem rng_of {lo hi x:Int} (h:rng lo hi x = true):lo≤x∧x≤hi:=of_decide_eq_true h
theorem FLD.lay {w:World} {c:Nat} {v0 v1 v2 v3 v4:Value} (h:FLD w c [v0,v1,v2,v3,v4]):∃ f caps,v1 = clo f caps∧EN f∧LYC w c f caps:=by
  unfold FLD at h
  split at h
  · cases h
    refine ⟨_,_,rfl,en_k2,fun W g m D hb v l hm hM hk hW ho hl hD hH=>?_⟩
    exact k2T w g W.heap.size m v l (hm.below hW) ho hW.size hl
  · cases h
    refine ⟨_,_,rfl,en_o2,fun W g m D hb v l hm hM hk hW ho hl hD hH=>?_⟩
    exact o2T w g W.heap.size m v l (hm.below hW) ho hW.size hl
  · obtain ⟨p,q,s,e,hp,hq,hs⟩:=h.cells
    cases e
    refine ⟨_,_,rfl,en_n2,fun W g m D hb v l hm hM hk hW ho hl hD hH=>?_⟩
    exact n2T w g p 121 1 W.heap.size m.i v l hp en_of1 of1C ((hm.below hW).c1) (by have h:=rng_of hk; exact h) ho hW.size hl
  · obtain ⟨p,q,s,e,hp,hq,hs⟩:=h.cells
    cases e
    refine ⟨_,_,rfl,en_n2,fun W g m D hb v l hm hM hk hW ho hl hD hH=>?_⟩
    exact n2T w g p 122 2 W.heap.size m.b v l hp en_of2 of2C ((hm.below hW).c2) (by have h:=rng_of hk; exact h) ho hW.size hl
  · obtain ⟨p,q,s,e,hp,hq,hs⟩:=h.cells
    cases e
    refine ⟨_,_,rfl,en_n2,fun W g m D hb v l hm hM hk hW ho hl hD hH=>?_⟩
    exact n2T w g p 123 3 W.heap.size m.l v l hp en_of3 of3C ((hm.below hW).c3) (by have h:=rng_of hk; exact h) ho hW.size hl
  · obtain ⟨p,q,s,e,hp,hq,hs⟩:=h.cells
    cases e
    refine ⟨_,_,rfl,en_n2,fun W g m D hb v l hm hM hk hW ho hl hD hH=>?_⟩
    exact n2T w g p 124 3 W.heap.size m.l v l hp en_of4 of4C ((hm.below hW).c3) (by have h:=rng_of hk; omega) ho hW.size hl
  · cases h
    refine ⟨_,_,rfl,en_r2,fun W g m D hb v l hm hM hk hW ho hl hD hH=>?_⟩
    exact r2T w g W.heap.size m hM.ok v l (hm.below hW) ho hW.size hl
  · obtain ⟨p,q,s,e,hp,hq,hs⟩:=h.cells
    cases e
    refine ⟨_,_,rfl,en_n2,fun W g m D hb v l hm hM hk hW ho hl hD hH=>?_⟩
    exact n2T w g p 126 37 W.heap.size m.ba v l hp en_of5 of5C ((hm.below hW).c37 hM.ok) (by have h:=rng_of hk; exact h) ho hW.size hl
  · obtain ⟨p,q,s,e,hp,hq,hs⟩:=h.cells
    cases e
    refine ⟨_,_,rfl,en_n2,fun W g m D hb v l hm hM hk hW ho hl hD hH=>?_⟩
    exact n2T w g p 127 38 W.heap.size m.pr v l hp en_of6 of6C ((hm.below hW).c38 hM.ok) (by have h:=rng_of hk; exact h) ho hW.size hl
  · cases h
    refine ⟨_,_,rfl,en_d2,fun W g m D hb v l hm hM hk hW ho hl hD hH=>?_⟩
    exact d2T w g W.heap.size m v l D (hm.below hW) (hM.d.keep hW) ho hW.size (by omega)
  · cases h
    refine ⟨_,_,rfl,en_layHashes,fun W g m D hb v l hm hM hk hW ho hl hD hH=>?_⟩
    exact layHashesT W w g m hM.ok v l hb hm hM.h hW ho (by omega)
  · exact absurd h id
end Go.Proofs.YtfjjpbebnoghmaaGreatDoor
