import Derived.Test.YtfjjpbebnoghmaaGreatDoorK00
import Derived.Test.YtfjjpbebnoghmaaGreatDoorK06
import Derived.Test.YtfjjpbebnoghmaaGreatDoorK25
import Derived.Test.YtfjjpbebnoghmaaGreatDoorK08
namespace Go.Proofs.YtfjjpbebnoghmaaGreatDoor
open Go.RowKit
set_option maxHeartbeats 1000000 in
theorem fourT (w:World) (B:Nat) (x:Int) (v:Value) (l:List UInt8) (hx:0≤x∧x≤4294967295) (ho:OW B w v l) (hB:B≤w.heap.size) (hl:l.length≤100000000) :
    Calls Tryz.prog 90 #[v,.int .i64 x] w fun e w'=>LYR B w w' e (l ++ be4 x.toNat):=by
  obtain ⟨n,rfl⟩:=Int.eq_ofNat_of_zero_le hx.1
  have hn:n≤4294967295:=by omega
  have HB:=be4_cells' n hn
  have HO:Hid (OW B (w.alloc (.cells (bc (be4 n)) 5)) v l∧RB (w.alloc (.cells (bc (be4 n)) 5)) (.slice (some ⟨w.heap.size,0,none⟩) 4 4) (be4 n)∧B≤(w.alloc (.cells (bc (be4 n)) 5)).heap.size∧l.length + (be4 n).length≤140737488351232∧Below B w (w.alloc (.cells (bc (be4 n)) 5))):=⟨ho.alloc _,rb_new rfl,by simp; omega,by rw [be4_len]; omega,(Below.refl _ _).alloc hB _⟩
  obtain ⟨a,c,rfl⟩:=ho.form
  rw [← HB] at HO
  clear ho HB hx
  go_enter Tryz.func90,Tryz.ntmps90
  go_wp2_with (at_builtin; refine append_bytes rfl _ _ rfl rfl HO.out.1 rfl HO.out.2.1 HO.out.2.2.1 HO.out.2.2.2.1 ?_; intro v' w1 hown' hb1)
  have HE:Hid (OW B w1 v' (l ++ be4 n)∧Below B w w1):=⟨hown',HO.out.2.2.2.2.trans hb1⟩
  clear hown' hb1
  go_wp2
  go_ret
  exact ⟨_,rfl,HE.out⟩
theorem append_byte_row {ops:Array Oper} {rest:List Oper} {o:Oper} {a:Act} {Q:Exit→Act→World→Prop} {w:World} {B:Nat} {sv:Value} {l:List UInt8} (hgd:o.guard = none) (s x:Operand)
    (ho:o.op = .call { callee:=.builtin .append,args:=#[s,x],argTypes:=#[37,37] }) (hs:a.eval s = sv) (hown:OW B w sv l) (b:Nat) (c:UInt8) (hx:a.eval x = .slice (some ⟨b,0,none⟩) 1 1)
    (hc:w.cell? ⟨b,0,none⟩ = some (.int .u8 c.toNat)) (hB:B≤w.heap.size) (hlim:l.length < 140737488351232)
    (h:∀ v' w',OW B w' v' (l ++ [c])→Below B w w'→(∀ (k:Nat) (cs:Array Value) (t:TypeId),w.heap[k]? = some (.cells cs t (0,0))→t≠5→w'.heap[k]? = some (.cells cs t (0,0)))→wpList Tryz.prog ops Q rest (a.put o.dst v') w'):wpList Tryz.prog ops Q (o :: rest) a w:=by
  obtain ⟨i0,hi,hz0,hz1,hz2⟩:=info_parts info5
  refine wpList_append_own w hgd s x 37 ho B 5 i0 _ 1 1 Tryz.underlying37 hi hz0 hz1 hz2 rfl (by omega) sv l.length (Lib.byteCells l) hs hown ⟨b,0,none⟩ 1 1 [.int .u8 c.toNat] hx rfl (fun j u hu=>?_) (fun u hu=>?_) (by unfold maxLen; omega) (by omega) hB (fun v' w' h1 h2 _=>?_)
  · match j,hu with
    | 0,hu=>simp at hu; subst hu; simpa [Addr.add] using hc
  · simp at hu; subst hu; rfl
  · refine h v' w' ?_ ((Below.refl B w).grown h2 hB (fun k hk=>(World.ownsRow.lt hown k hk).1)) (fun k cs t hk ht=>?_)
    · have e:Lib.byteCells l ++ [Value.int .u8 c.toNat] = Lib.byteCells (l ++ [c]):=by simp [Lib.byteCells]
      rw [e] at h1
      simpa [OW] using h1
    · refine (h2.block k (Array.getElem?_eq_some_iff.1 hk).1 fun e'=>?_).trans hk
      rcases hown.2 with ⟨rfl,_⟩ | ⟨g,cap,cur,rfl,_,hg,_⟩
      · simp [Value.ownBlock] at e'
      · simp [Value.ownBlock] at e'
        subst e'
        rw [hk] at hg
        simp at hg
        exact ht hg.2
set_option maxHeartbeats 1000000 in
set_option maxRecDepth 100000 in
theorem hashT (w:World) (B:Nat) (h:List UInt8) (v:Value) (l:List UInt8) (hh:h.length = 32) (ho:OW B w v l) (hB:B≤w.heap.size) (hl:l.length≤100000000) :
    Calls Tryz.prog 91 #[v,.agg (bc h)] w fun e w'=>LYR B w w' e (l ++ h):=by
  have hg:=heapNew w (.cells (bc h) 25)
  have b0:Below B w (w.alloc (.cells (bc h) 25)):=(Below.refl _ _).alloc hB _
  have HO:Hid (OW B (w.alloc (.cells (bc h) 25)) v l∧Below B w (w.alloc (.cells (bc h) 25))∧B≤w.heap.size∧h.length = 32):=⟨ho.alloc _,b0,hB,hh⟩
  have hs0:w.heap.size < (w.alloc (.cells (bc h) 25)).heap.size:=by simp
  obtain ⟨a,c,rfl⟩:=ho.form
  clear ho b0
  go_enter Tryz.func91,Tryz.ntmps91
  go_wp2
  have HG:Hid ((w.alloc (.cells (bc h) 25)).heap[w.heap.size]? = some (.cells (bc h) 25 (0,0))):=hg
  clear hg
  generalize hbch:bc h = bch at *
  have HC:Hid (bc h = bch):=hbch
  clear hbch
  generalize w.alloc (.cells bch 25) = w0 at *
  go_loopw [0,5] (fun u t wr=>∃ k:Nat,k≤32∧t = .int .i64 k∧Hid (OW B wr u (l ++ h.take k)∧Below B w0 wr∧wr.heap[w.heap.size]? = some (.cells bch 25 (0,0))∧w.heap.size < wr.heap.size)) (fun _ t _=>32 - (intOf t).toNat)
  case atStart=>exact ⟨0,by omega,rfl,by simpa using HO.out.1,Below.refl _ _,HG.out,hs0⟩
  case round =>
    obtain ⟨k,hk,rfl,hI⟩:=hrel
    by_cases hlt:k < 32
    · have hc1:wr.cell? ⟨w.heap.size,k,none⟩ = some (.int .u8 ((byt h k).toNat:Int)):=by
        have h1:=hI.out.2.2.1
        rw [← HC.out] at h1
        exact cell_bc h1 k (by have:=HO.out.2.2.2; omega)
      have HT:Hid (h.take (k + 1) = h.take k ++ [byt h k]∧(l ++ h.take k).length < 140737488351232):=⟨take_snoc h k (by have:=HO.out.2.2.2; omega),by rw [List.length_append,List.length_take]; omega⟩
      obtain ⟨ua,uc,rfl⟩:=hI.out.1.form
      generalize hLL:l ++ h.take k = LL at *
      have HLL:Hid (l ++ h.take k = LL):=hLL
      clear hLL
      generalize byt h k = y at *
      have HX:Hid (OW B (wr.alloc (.cells #[.int .u8 (y.toNat:Int)] 5)) (.slice ua LL.length uc) LL∧B≤(wr.alloc (.cells #[.int .u8 (y.toNat:Int)] 5)).heap.size):=⟨hI.out.1.alloc _,by have:=HO.out.2.2.1; have:=hI.out.2.2.2; simp; omega⟩
      go_wp2_with (at_builtin; refine append_byte_row rfl _ _ rfl rfl HX.out.1 wr.heap.size y rfl (by go_simp) HX.out.2 HT.out.2 ?_; intro v' w1 hown' hb1 hrow)
      refine ⟨⟨k + 1,by omega,by go_num,?_,?_,?_,?_⟩,by simp [intOf]; omega⟩
      · rw [HT.out.1, ← List.append_assoc,HLL.out]; exact hown'
      · exact (hI.out.2.1.alloc (by have:=hI.out.2.1.size; have:=HO.out.2.2.1; have:=hI.out.2.2.2; omega) _).trans hb1
      · exact hrow _ _ _ (by rw [heapOld _ _ _ hI.out.2.2.2]; exact hI.out.2.2.1) (by decide)
      · have h1:=hb1.size; have h2:=hI.out.2.2.2; simp at h1; omega
    · obtain rfl:k = 32:=by omega
      have HE:Hid (OW B wr u0 (l ++ h)∧Below B w wr):=by
        have h1:=hI.out.1
        rw [List.take_of_length_le (by have:=HO.out.2.2.2; omega)] at h1
        exact ⟨h1,HO.out.2.1.trans hI.out.2.1⟩
      go_wp2
      go_ret
      exact ⟨_,rfl,HE.out⟩
theorem OW.form2 {B:Nat} {w:World} {v:Value} {l:List UInt8} (h:OW B w v l):∃ a n c,v = .slice a n c:=by
  obtain ⟨a,c,e⟩:=h.form
  exact ⟨a,_,c,e⟩
theorem ref0 (m:Mv) (h:refE m = 0):fR m = false∧fdR m = true:=by
  unfold refE at h
  split at h
  · simp at h
  · split at h
    · simp at h
    · rename_i h1 h2
      split at h
      · rename_i h3
        exact ⟨by simpa using h2,h3⟩
      · simp at h
theorem ref0_nums (m:Mv) (h:refE m = 0):(0≤m.i∧m.i≤4294967295)∧(0≤m.b∧m.b≤4294967295)∧(0≤m.l∧m.l≤4294967295)∧(0≤m.ba∧m.ba≤4294967295)∧(0≤m.pr∧m.pr≤4294967295):=by
  have:=(ref0 m h).2
  simp [fdR,fd1,numB] at this
  omega
theorem ref0_data (m:Mv) (h:refE m = 0) (h5:m.k≠5) (h7:m.k≠7) (h9:m.k≠1000):sln m.d = 0:=by
  have:=(ref0 m h).1
  simp [fR,fc4] at this
  have:=this.1.1.2
  omega
theorem ref0_hash (m:Mv) (h:refE m = 0) (h22:m.k≠22):sln m.h = 0:=by
  have:=(ref0 m h).1
  simp [fR,fc6] at this
  have:=this.2
  omega
set_option maxHeartbeats 4000000 in
set_option maxRecDepth 100000 in
theorem rEnc_0 (w:World) (m:Mv) (D hb:List UInt8) (hm:MM w m D hb) (h0:refE m = 0) (hk:m.k = -1) :
    Calls Tryz.prog 52 #[.agg m.cs] w fun e w'=>∃ v,e = .returned (.tuple #[v,.int .i64 0])∧OW w.heap.size w' v (lays [] m D hb)∧Below w.heap.size w w':=by
  have b0:Below w.heap.size w (w.alloc (.cells m.cs 40)):=(Below.refl _ _).alloc (Nat.le_refl _) _
  have HA:Hid (MB (w.alloc (.cells m.cs 40)) w.heap.size m∧Below w.heap.size w (w.alloc (.cells m.cs 40))∧w.heap.size < (w.alloc (.cells m.cs 40)).heap.size):=⟨heapNew w _,b0,by simp⟩
  have hc:=HA.out.1.cells
  have him:=info_msg hm.ok
  have hsm:=val_small m (by rw [← ref_val]; exact h0)
  obtain ⟨ad,cd,ed,_⟩:=id hm.d
  obtain ⟨ah,nh,ch,eh,lh,_,_⟩:=id hm.h
  have hA:asksB (-1) = false:=by decide
  have hQ:queryB (-1) = false:=by decide
  have hdl:D.length≤32767:=by have:=hm.sd; omega
  have hhl:hb.length≤17920:=by have:=hm.sh; omega
  have HS:Hid (MM w m D hb∧m.d = .slice ad D.length cd∧m.h = .slice ah nh ch∧hb.length = nh * 32):=⟨hm,ed,eh,lh⟩
  have HP:Hid (refE m = 0):=h0
  have hih:(Tryz.prog.info? 25).map (·.size) = some (Lib.byteCells m.r).length:=by rw [bcl_len,hm.ok.r]; exact info_hash
  have HD0:Hid (D = []):=List.length_eq_zero_iff.1 (by rw [← hm.sd]; exact ref0_data m h0 (by omega) (by omega) (by omega))
  have hn0:nh = 0:=by
    have h1:=ref0_hash m h0 (by omega)
    rw [eh] at h1
    exact h1
  have HH0:Hid (hb = []):=List.length_eq_zero_iff.1 (by omega)
  subst hn0
  clear b0 hm h0 hsm ed eh lh
  generalize hmcs:m.cs = mcs at *
  have HC:Hid (m.cs = mcs):=hmcs
  clear hmcs
  go_enter Tryz.func52,Tryz.ntmps52
  go_wp2_with (first |(refine wpList_load_row rfl 40 _ rfl w.heap.size rfl 40 mcs (0,0) _ hc Tryz.underlying40 rfl him ?_))
  generalize w.alloc (.cells mcs 40) = w0 at *
  rw [← HC.out]
  refine (rValidT w0 m HS.out.1.ok).mono ?_
  rintro e w1 ⟨rfl,b1⟩
  rw [HP.out,HC.out]
  have HM0:Hid (MB w1 w.heap.size m∧Below w.heap.size w w1∧w.heap.size < w1.heap.size∧MM w1 m D hb):=⟨HA.out.1.below b1,HA.out.2.1.trans (b1.mono (Nat.le_of_lt HA.out.2.2)),Nat.lt_of_lt_of_le HA.out.2.2 b1.size,HS.out.1.keep (HA.out.2.1.trans (b1.mono (Nat.le_of_lt HA.out.2.2)))⟩
  clear b1 hc HA him
  have c0:=HM0.out.1.c0
  have c1:=HM0.out.1.c1
  have c2:=HM0.out.1.c2
  have c3:=HM0.out.1.c3
  have c4:=HM0.out.1.c4
  have c37:=HM0.out.1.c37 HS.out.1.ok
  have c38:=HM0.out.1.c38 HS.out.1.ok
  have c39:=HM0.out.1.c39 HS.out.1.ok
  have rt:=HM0.out.1.root
  rw [HS.out.2.1] at c4
  rw [HS.out.2.2.1] at c39
  have HO0:Hid (OW w1.heap.size w1 (.slice none 0 0) []∧Below w1.heap.size w1 w1):=⟨World.ownsRow_nil _ _ _ _,Below.refl _ _⟩
  go_wp2
  go_ret2
  exact ⟨_,rfl,World.ownsRow_nil _ _ _ _,HM0.out.2.1⟩
set_option maxHeartbeats 4000000 in
set_option maxRecDepth 100000 in
theorem rEnc_1 (w:World) (m:Mv) (D hb:List UInt8) (hm:MM w m D hb) (h0:refE m = 0) (hk:m.k = 0) :
    Calls Tryz.prog 52 #[.agg m.cs] w fun e w'=>∃ v,e = .returned (.tuple #[v,.int .i64 0])∧OW w.heap.size w' v (lays [1] m D hb)∧Below w.heap.size w w':=by
  have b0:Below w.heap.size w (w.alloc (.cells m.cs 40)):=(Below.refl _ _).alloc (Nat.le_refl _) _
  have HA:Hid (MB (w.alloc (.cells m.cs 40)) w.heap.size m∧Below w.heap.size w (w.alloc (.cells m.cs 40))∧w.heap.size < (w.alloc (.cells m.cs 40)).heap.size):=⟨heapNew w _,b0,by simp⟩
  have hc:=HA.out.1.cells
  have him:=info_msg hm.ok
  have hsm:=val_small m (by rw [← ref_val]; exact h0)
  obtain ⟨ad,cd,ed,_⟩:=id hm.d
  obtain ⟨ah,nh,ch,eh,lh,_,_⟩:=id hm.h
  have hA:asksB (0) = false:=by decide
  have hQ:queryB (0) = false:=by decide
  have hdl:D.length≤32767:=by have:=hm.sd; omega
  have hhl:hb.length≤17920:=by have:=hm.sh; omega
  have HS:Hid (MM w m D hb∧m.d = .slice ad D.length cd∧m.h = .slice ah nh ch∧hb.length = nh * 32):=⟨hm,ed,eh,lh⟩
  have HP:Hid (refE m = 0):=h0
  have hih:(Tryz.prog.info? 25).map (·.size) = some (Lib.byteCells m.r).length:=by rw [bcl_len,hm.ok.r]; exact info_hash
  have HD0:Hid (D = []):=List.length_eq_zero_iff.1 (by rw [← hm.sd]; exact ref0_data m h0 (by omega) (by omega) (by omega))
  have hn0:nh = 0:=by
    have h1:=ref0_hash m h0 (by omega)
    rw [eh] at h1
    exact h1
  have HH0:Hid (hb = []):=List.length_eq_zero_iff.1 (by omega)
  subst hn0
  clear b0 hm h0 hsm ed eh lh
  generalize hmcs:m.cs = mcs at *
  have HC:Hid (m.cs = mcs):=hmcs
  clear hmcs
  go_enter Tryz.func52,Tryz.ntmps52
  go_wp2_with (first |(refine wpList_load_row rfl 40 _ rfl w.heap.size rfl 40 mcs (0,0) _ hc Tryz.underlying40 rfl him ?_))
  generalize w.alloc (.cells mcs 40) = w0 at *
  rw [← HC.out]
  refine (rValidT w0 m HS.out.1.ok).mono ?_
  rintro e w1 ⟨rfl,b1⟩
  rw [HP.out,HC.out]
  have HM0:Hid (MB w1 w.heap.size m∧Below w.heap.size w w1∧w.heap.size < w1.heap.size∧MM w1 m D hb):=⟨HA.out.1.below b1,HA.out.2.1.trans (b1.mono (Nat.le_of_lt HA.out.2.2)),Nat.lt_of_lt_of_le HA.out.2.2 b1.size,HS.out.1.keep (HA.out.2.1.trans (b1.mono (Nat.le_of_lt HA.out.2.2)))⟩
  clear b1 hc HA him
  have c0:=HM0.out.1.c0
  have c1:=HM0.out.1.c1
  have c2:=HM0.out.1.c2
  have c3:=HM0.out.1.c3
  have c4:=HM0.out.1.c4
  have c37:=HM0.out.1.c37 HS.out.1.ok
  have c38:=HM0.out.1.c38 HS.out.1.ok
  have c39:=HM0.out.1.c39 HS.out.1.ok
  have rt:=HM0.out.1.root
  rw [HS.out.2.1] at c4
  rw [HS.out.2.2.1] at c39
  have HO0:Hid (OW w1.heap.size w1 (.slice none 0 0) []∧Below w1.heap.size w1 w1):=⟨World.ownsRow_nil _ _ _ _,Below.refl _ _⟩
  have HBX:#[Value.int .u8 0] = bc ([0]:List UInt8):=rfl
  have HX:Hid (RB (w1.alloc (.cells (bc ([0]:List UInt8)) 5)) (.slice (some ⟨w1.heap.size,0,none⟩) 1 1) ([0]:List UInt8)∧OW w1.heap.size (w1.alloc (.cells (bc ([0]:List UInt8)) 5)) (.slice none 0 0) []∧w1.heap.size≤(w1.alloc (.cells (bc ([0]:List UInt8)) 5)).heap.size∧Below w1.heap.size w1 (w1.alloc (.cells (bc ([0]:List UInt8)) 5))):=⟨rb_new rfl,World.ownsRow_nil _ _ _ _,by simp,(Below.refl _ _).alloc (Nat.le_refl _) _⟩
  rw [← HBX] at HX
  clear HBX
  go_upto_region 10 with (first |(go_at_call 77; refine (asksT2 _ _).mono ?_; rintro e w' ⟨rfl,rfl⟩) |(go_at_call 78; refine (queryT2 _ _).mono ?_; rintro e w' ⟨rfl,rfl⟩) |(refine wpList_load_mid rfl 25 _ rfl w.heap.size 5 rfl (Lib.byteCells m.r) _ rt Tryz.underlying25 rfl hih ?_) |(at_builtin; refine append_bytes rfl _ _ rfl rfl HX.out.2.1 rfl HX.out.1 HX.out.2.2.1 (by simp) ?_; intro v1 w2 oA bA; simp only [List.nil_append] at oA; obtain ⟨a1,n1,d1,rfl⟩:=oA.form2; have HM1:Hid (MB w2 w.heap.size m∧OW w1.heap.size w2 (.slice a1 n1 d1) (([0]:List UInt8))∧Below w1.heap.size w1 w2):=⟨HM0.out.1.below (HX.out.2.2.2.trans bA),oA,HX.out.2.2.2.trans bA⟩))
  clear c0 c1 c2 c3 c4 c37 c38 c39 rt HX oA bA
  have c0:=HM1.out.1.c0
  have c1:=HM1.out.1.c1
  have c2:=HM1.out.1.c2
  have c3:=HM1.out.1.c3
  have c4:=HM1.out.1.c4
  have c37:=HM1.out.1.c37 HS.out.1.ok
  have c38:=HM1.out.1.c38 HS.out.1.ok
  have c39:=HM1.out.1.c39 HS.out.1.ok
  have rt:=HM1.out.1.root
  rw [HS.out.2.1] at c4
  rw [HS.out.2.2.1] at c39
  have HDD:Hid (RB w2 (.slice ad D.length cd) D):=by
    have h1:=HM0.out.2.2.2.d
    rw [HS.out.2.1] at h1
    exact h1.keep HM1.out.2.2
  have HLL:Hid ((([0]:List UInt8)).length + D.length≤140737488351232):=by
    have h1:(([0]:List UInt8)).length≤100:=by simp
    unfold Hid; omega
  go_wp2_with (first |(go_at_call 77; refine (asksT2 _ _).mono ?_; rintro e w' ⟨rfl,rfl⟩) |(go_at_call 78; refine (queryT2 _ _).mono ?_; rintro e w' ⟨rfl,rfl⟩) |(refine wpList_load_mid rfl 25 _ rfl w.heap.size 5 rfl (Lib.byteCells m.r) _ rt Tryz.underlying25 rfl hih ?_) |(at_builtin; refine append_bytes rfl _ _ rfl rfl HM1.out.2.1 rfl HDD.out HM1.out.2.2.size HLL.out ?_; intro v2 w3 oA bA; obtain ⟨a2,n2,d2,rfl⟩:=oA.form2; have HM2:Hid (MB w3 w.heap.size m∧OW w1.heap.size w3 (.slice a2 n2 d2) (([0]:List UInt8) ++ D)∧Below w1.heap.size w1 w3):=⟨(bA.block _ HM0.out.2.2.1).trans HM1.out.1,oA,HM1.out.2.2.trans bA⟩; have x39:=HM2.out.1.c39 HS.out.1.ok; rw [HS.out.2.2.1] at x39))
  have HF:Hid (lays [1] m D hb = ([0]:List UInt8) ++ D):=by unfold Hid; simp [lays,lay,hk,ub,HD0.out,HH0.out]
  go_loopw [5,6] (fun u t wr=>t = .int .i64 0∧u = .slice a2 n2 d2∧wr = w3) (fun _ _ _=>0)
  case atStart=>exact ⟨rfl,rfl,rfl⟩
  case round =>
    obtain ⟨rfl,rfl,rfl⟩:=hrel
    go_wp2
    go_ret2
    exact ⟨_,rfl,by rw [HF.out]; exact HM2.out.2.1.mono (Nat.le_of_lt HM0.out.2.2.1),HM0.out.2.1.trans (HM2.out.2.2.mono (Nat.le_of_lt HM0.out.2.2.1))⟩
set_option maxHeartbeats 4000000 in
set_option maxRecDepth 100000 in
theorem rEnc_2 (w:World) (m:Mv) (D hb:List UInt8) (hm:MM w m D hb) (h0:refE m = 0) (hk:m.k = 1) :
    Calls Tryz.prog 52 #[.agg m.cs] w fun e w'=>∃ v,e = .returned (.tuple #[v,.int .i64 0])∧OW w.heap.size w' v (lays [1] m D hb)∧Below w.heap.size w w':=by
  have b0:Below w.heap.size w (w.alloc (.cells m.cs 40)):=(Below.refl _ _).alloc (Nat.le_refl _) _
  have HA:Hid (MB (w.alloc (.cells m.cs 40)) w.heap.size m∧Below w.heap.size w (w.alloc (.cells m.cs 40))∧w.heap.size < (w.alloc (.cells m.cs 40)).heap.size):=⟨heapNew w _,b0,by simp⟩
  have hc:=HA.out.1.cells
  have him:=info_msg hm.ok
  have hsm:=val_small m (by rw [← ref_val]; exact h0)
  obtain ⟨ad,cd,ed,_⟩:=id hm.d
  obtain ⟨ah,nh,ch,eh,lh,_,_⟩:=id hm.h
  have hA:asksB (1) = false:=by decide
  have hQ:queryB (1) = false:=by decide
  have hdl:D.length≤32767:=by have:=hm.sd; omega
  have hhl:hb.length≤17920:=by have:=hm.sh; omega
  have HS:Hid (MM w m D hb∧m.d = .slice ad D.length cd∧m.h = .slice ah nh ch∧hb.length = nh * 32):=⟨hm,ed,eh,lh⟩
  have HP:Hid (refE m = 0):=h0
  have hih:(Tryz.prog.info? 25).map (·.size) = some (Lib.byteCells m.r).length:=by rw [bcl_len,hm.ok.r]; exact info_hash
  have HD0:Hid (D = []):=List.length_eq_zero_iff.1 (by rw [← hm.sd]; exact ref0_data m h0 (by omega) (by omega) (by omega))
  have hn0:nh = 0:=by
    have h1:=ref0_hash m h0 (by omega)
    rw [eh] at h1
    exact h1
  have HH0:Hid (hb = []):=List.length_eq_zero_iff.1 (by omega)
  subst hn0
  clear b0 hm h0 hsm ed eh lh
  generalize hmcs:m.cs = mcs at *
  have HC:Hid (m.cs = mcs):=hmcs
  clear hmcs
  go_enter Tryz.func52,Tryz.ntmps52
  go_wp2_with (first |(refine wpList_load_row rfl 40 _ rfl w.heap.size rfl 40 mcs (0,0) _ hc Tryz.underlying40 rfl him ?_))
  generalize w.alloc (.cells mcs 40) = w0 at *
  rw [← HC.out]
  refine (rValidT w0 m HS.out.1.ok).mono ?_
  rintro e w1 ⟨rfl,b1⟩
  rw [HP.out,HC.out]
  have HM0:Hid (MB w1 w.heap.size m∧Below w.heap.size w w1∧w.heap.size < w1.heap.size∧MM w1 m D hb):=⟨HA.out.1.below b1,HA.out.2.1.trans (b1.mono (Nat.le_of_lt HA.out.2.2)),Nat.lt_of_lt_of_le HA.out.2.2 b1.size,HS.out.1.keep (HA.out.2.1.trans (b1.mono (Nat.le_of_lt HA.out.2.2)))⟩
  clear b1 hc HA him
  have c0:=HM0.out.1.c0
  have c1:=HM0.out.1.c1
  have c2:=HM0.out.1.c2
  have c3:=HM0.out.1.c3
  have c4:=HM0.out.1.c4
  have c37:=HM0.out.1.c37 HS.out.1.ok
  have c38:=HM0.out.1.c38 HS.out.1.ok
  have c39:=HM0.out.1.c39 HS.out.1.ok
  have rt:=HM0.out.1.root
  rw [HS.out.2.1] at c4
  rw [HS.out.2.2.1] at c39
  have HO0:Hid (OW w1.heap.size w1 (.slice none 0 0) []∧Below w1.heap.size w1 w1):=⟨World.ownsRow_nil _ _ _ _,Below.refl _ _⟩
  have HBX:#[Value.int .u8 1] = bc ([1]:List UInt8):=rfl
  have HX:Hid (RB (w1.alloc (.cells (bc ([1]:List UInt8)) 5)) (.slice (some ⟨w1.heap.size,0,none⟩) 1 1) ([1]:List UInt8)∧OW w1.heap.size (w1.alloc (.cells (bc ([1]:List UInt8)) 5)) (.slice none 0 0) []∧w1.heap.size≤(w1.alloc (.cells (bc ([1]:List UInt8)) 5)).heap.size∧Below w1.heap.size w1 (w1.alloc (.cells (bc ([1]:List UInt8)) 5))):=⟨rb_new rfl,World.ownsRow_nil _ _ _ _,by simp,(Below.refl _ _).alloc (Nat.le_refl _) _⟩
  rw [← HBX] at HX
  clear HBX
  go_upto_region 10 with (first |(go_at_call 77; refine (asksT2 _ _).mono ?_; rintro e w' ⟨rfl,rfl⟩) |(go_at_call 78; refine (queryT2 _ _).mono ?_; rintro e w' ⟨rfl,rfl⟩) |(refine wpList_load_mid rfl 25 _ rfl w.heap.size 5 rfl (Lib.byteCells m.r) _ rt Tryz.underlying25 rfl hih ?_) |(at_builtin; refine append_bytes rfl _ _ rfl rfl HX.out.2.1 rfl HX.out.1 HX.out.2.2.1 (by simp) ?_; intro v1 w2 oA bA; simp only [List.nil_append] at oA; obtain ⟨a1,n1,d1,rfl⟩:=oA.form2; have HM1:Hid (MB w2 w.heap.size m∧OW w1.heap.size w2 (.slice a1 n1 d1) (([1]:List UInt8))∧Below w1.heap.size w1 w2):=⟨HM0.out.1.below (HX.out.2.2.2.trans bA),oA,HX.out.2.2.2.trans bA⟩))
  clear c0 c1 c2 c3 c4 c37 c38 c39 rt HX oA bA
  have c0:=HM1.out.1.c0
  have c1:=HM1.out.1.c1
  have c2:=HM1.out.1.c2
  have c3:=HM1.out.1.c3
  have c4:=HM1.out.1.c4
  have c37:=HM1.out.1.c37 HS.out.1.ok
  have c38:=HM1.out.1.c38 HS.out.1.ok
  have c39:=HM1.out.1.c39 HS.out.1.ok
  have rt:=HM1.out.1.root
  rw [HS.out.2.1] at c4
  rw [HS.out.2.2.1] at c39
  have HDD:Hid (RB w2 (.slice ad D.length cd) D):=by
    have h1:=HM0.out.2.2.2.d
    rw [HS.out.2.1] at h1
    exact h1.keep HM1.out.2.2
  have HLL:Hid ((([1]:List UInt8)).length + D.length≤140737488351232):=by
    have h1:(([1]:List UInt8)).length≤100:=by simp
    unfold Hid; omega
  go_wp2_with (first |(go_at_call 77; refine (asksT2 _ _).mono ?_; rintro e w' ⟨rfl,rfl⟩) |(go_at_call 78; refine (queryT2 _ _).mono ?_; rintro e w' ⟨rfl,rfl⟩) |(refine wpList_load_mid rfl 25 _ rfl w.heap.size 5 rfl (Lib.byteCells m.r) _ rt Tryz.underlying25 rfl hih ?_) |(at_builtin; refine append_bytes rfl _ _ rfl rfl HM1.out.2.1 rfl HDD.out HM1.out.2.2.size HLL.out ?_; intro v2 w3 oA bA; obtain ⟨a2,n2,d2,rfl⟩:=oA.form2; have HM2:Hid (MB w3 w.heap.size m∧OW w1.heap.size w3 (.slice a2 n2 d2) (([1]:List UInt8) ++ D)∧Below w1.heap.size w1 w3):=⟨(bA.block _ HM0.out.2.2.1).trans HM1.out.1,oA,HM1.out.2.2.trans bA⟩; have x39:=HM2.out.1.c39 HS.out.1.ok; rw [HS.out.2.2.1] at x39))
  have HF:Hid (lays [1] m D hb = ([1]:List UInt8) ++ D):=by unfold Hid; simp [lays,lay,hk,ub,HD0.out,HH0.out]
  go_loopw [5,6] (fun u t wr=>t = .int .i64 0∧u = .slice a2 n2 d2∧wr = w3) (fun _ _ _=>0)
  case atStart=>exact ⟨rfl,rfl,rfl⟩
  case round =>
    obtain ⟨rfl,rfl,rfl⟩:=hrel
    go_wp2
    go_ret2
    exact ⟨_,rfl,by rw [HF.out]; exact HM2.out.2.1.mono (Nat.le_of_lt HM0.out.2.2.1),HM0.out.2.1.trans (HM2.out.2.2.mono (Nat.le_of_lt HM0.out.2.2.1))⟩
set_option maxHeartbeats 4000000 in
set_option maxRecDepth 100000 in
theorem rEnc_3 (w:World) (m:Mv) (D hb:List UInt8) (hm:MM w m D hb) (h0:refE m = 0) (hk:m.k = 2) :
    Calls Tryz.prog 52 #[.agg m.cs] w fun e w'=>∃ v,e = .returned (.tuple #[v,.int .i64 0])∧OW w.heap.size w' v (lays [1] m D hb)∧Below w.heap.size w w':=by
  have b0:Below w.heap.size w (w.alloc (.cells m.cs 40)):=(Below.refl _ _).alloc (Nat.le_refl _) _
  have HA:Hid (MB (w.alloc (.cells m.cs 40)) w.heap.size m∧Below w.heap.size w (w.alloc (.cells m.cs 40))∧w.heap.size < (w.alloc (.cells m.cs 40)).heap.size):=⟨heapNew w _,b0,by simp⟩
  have hc:=HA.out.1.cells
  have him:=info_msg hm.ok
  have hsm:=val_small m (by rw [← ref_val]; exact h0)
  obtain ⟨ad,cd,ed,_⟩:=id hm.d
  obtain ⟨ah,nh,ch,eh,lh,_,_⟩:=id hm.h
  have hA:asksB (2) = false:=by decide
  have hQ:queryB (2) = false:=by decide
  have hdl:D.length≤32767:=by have:=hm.sd; omega
  have hhl:hb.length≤17920:=by have:=hm.sh; omega
  have HS:Hid (MM w m D hb∧m.d = .slice ad D.length cd∧m.h = .slice ah nh ch∧hb.length = nh * 32):=⟨hm,ed,eh,lh⟩
  have HP:Hid (refE m = 0):=h0
  have hih:(Tryz.prog.info? 25).map (·.size) = some (Lib.byteCells m.r).length:=by rw [bcl_len,hm.ok.r]; exact info_hash
  have HD0:Hid (D = []):=List.length_eq_zero_iff.1 (by rw [← hm.sd]; exact ref0_data m h0 (by omega) (by omega) (by omega))
  have hn0:nh = 0:=by
    have h1:=ref0_hash m h0 (by omega)
    rw [eh] at h1
    exact h1
  have HH0:Hid (hb = []):=List.length_eq_zero_iff.1 (by omega)
  subst hn0
  clear b0 hm h0 hsm ed eh lh
  generalize hmcs:m.cs = mcs at *
  have HC:Hid (m.cs = mcs):=hmcs
  clear hmcs
  go_enter Tryz.func52,Tryz.ntmps52
  go_wp2_with (first |(refine wpList_load_row rfl 40 _ rfl w.heap.size rfl 40 mcs (0,0) _ hc Tryz.underlying40 rfl him ?_))
  generalize w.alloc (.cells mcs 40) = w0 at *
  rw [← HC.out]
  refine (rValidT w0 m HS.out.1.ok).mono ?_
  rintro e w1 ⟨rfl,b1⟩
  rw [HP.out,HC.out]
  have HM0:Hid (MB w1 w.heap.size m∧Below w.heap.size w w1∧w.heap.size < w1.heap.size∧MM w1 m D hb):=⟨HA.out.1.below b1,HA.out.2.1.trans (b1.mono (Nat.le_of_lt HA.out.2.2)),Nat.lt_of_lt_of_le HA.out.2.2 b1.size,HS.out.1.keep (HA.out.2.1.trans (b1.mono (Nat.le_of_lt HA.out.2.2)))⟩
  clear b1 hc HA him
  have c0:=HM0.out.1.c0
  have c1:=HM0.out.1.c1
  have c2:=HM0.out.1.c2
  have c3:=HM0.out.1.c3
  have c4:=HM0.out.1.c4
  have c37:=HM0.out.1.c37 HS.out.1.ok
  have c38:=HM0.out.1.c38 HS.out.1.ok
  have c39:=HM0.out.1.c39 HS.out.1.ok
  have rt:=HM0.out.1.root
  rw [HS.out.2.1] at c4
  rw [HS.out.2.2.1] at c39
  have HO0:Hid (OW w1.heap.size w1 (.slice none 0 0) []∧Below w1.heap.size w1 w1):=⟨World.ownsRow_nil _ _ _ _,Below.refl _ _⟩
  have HBX:#[Value.int .u8 2] = bc ([2]:List UInt8):=rfl
  have HX:Hid (RB (w1.alloc (.cells (bc ([2]:List UInt8)) 5)) (.slice (some ⟨w1.heap.size,0,none⟩) 1 1) ([2]:List UInt8)∧OW w1.heap.size (w1.alloc (.cells (bc ([2]:List UInt8)) 5)) (.slice none 0 0) []∧w1.heap.size≤(w1.alloc (.cells (bc ([2]:List UInt8)) 5)).heap.size∧Below w1.heap.size w1 (w1.alloc (.cells (bc ([2]:List UInt8)) 5))):=⟨rb_new rfl,World.ownsRow_nil _ _ _ _,by simp,(Below.refl _ _).alloc (Nat.le_refl _) _⟩
  rw [← HBX] at HX
  clear HBX
  go_upto_region 10 with (first |(go_at_call 77; refine (asksT2 _ _).mono ?_; rintro e w' ⟨rfl,rfl⟩) |(go_at_call 78; refine (queryT2 _ _).mono ?_; rintro e w' ⟨rfl,rfl⟩) |(refine wpList_load_mid rfl 25 _ rfl w.heap.size 5 rfl (Lib.byteCells m.r) _ rt Tryz.underlying25 rfl hih ?_) |(at_builtin; refine append_bytes rfl _ _ rfl rfl HX.out.2.1 rfl HX.out.1 HX.out.2.2.1 (by simp) ?_; intro v1 w2 oA bA; simp only [List.nil_append] at oA; obtain ⟨a1,n1,d1,rfl⟩:=oA.form2; have HM1:Hid (MB w2 w.heap.size m∧OW w1.heap.size w2 (.slice a1 n1 d1) (([2]:List UInt8))∧Below w1.heap.size w1 w2):=⟨HM0.out.1.below (HX.out.2.2.2.trans bA),oA,HX.out.2.2.2.trans bA⟩))
  clear c0 c1 c2 c3 c4 c37 c38 c39 rt HX oA bA
  have c0:=HM1.out.1.c0
  have c1:=HM1.out.1.c1
  have c2:=HM1.out.1.c2
  have c3:=HM1.out.1.c3
  have c4:=HM1.out.1.c4
  have c37:=HM1.out.1.c37 HS.out.1.ok
  have c38:=HM1.out.1.c38 HS.out.1.ok
  have c39:=HM1.out.1.c39 HS.out.1.ok
  have rt:=HM1.out.1.root
  rw [HS.out.2.1] at c4
  rw [HS.out.2.2.1] at c39
  have HDD:Hid (RB w2 (.slice ad D.length cd) D):=by
    have h1:=HM0.out.2.2.2.d
    rw [HS.out.2.1] at h1
    exact h1.keep HM1.out.2.2
  have HLL:Hid ((([2]:List UInt8)).length + D.length≤140737488351232):=by
    have h1:(([2]:List UInt8)).length≤100:=by simp
    unfold Hid; omega
  go_wp2_with (first |(go_at_call 77; refine (asksT2 _ _).mono ?_; rintro e w' ⟨rfl,rfl⟩) |(go_at_call 78; refine (queryT2 _ _).mono ?_; rintro e w' ⟨rfl,rfl⟩) |(refine wpList_load_mid rfl 25 _ rfl w.heap.size 5 rfl (Lib.byteCells m.r) _ rt Tryz.underlying25 rfl hih ?_) |(at_builtin; refine append_bytes rfl _ _ rfl rfl HM1.out.2.1 rfl HDD.out HM1.out.2.2.size HLL.out ?_; intro v2 w3 oA bA; obtain ⟨a2,n2,d2,rfl⟩:=oA.form2; have HM2:Hid (MB w3 w.heap.size m∧OW w1.heap.size w3 (.slice a2 n2 d2) (([2]:List UInt8) ++ D)∧Below w1.heap.size w1 w3):=⟨(bA.block _ HM0.out.2.2.1).trans HM1.out.1,oA,HM1.out.2.2.trans bA⟩; have x39:=HM2.out.1.c39 HS.out.1.ok; rw [HS.out.2.2.1] at x39))
  have HF:Hid (lays [1] m D hb = ([2]:List UInt8) ++ D):=by unfold Hid; simp [lays,lay,hk,ub,HD0.out,HH0.out]
  go_loopw [5,6] (fun u t wr=>t = .int .i64 0∧u = .slice a2 n2 d2∧wr = w3) (fun _ _ _=>0)
  case atStart=>exact ⟨rfl,rfl,rfl⟩
  case round =>
    obtain ⟨rfl,rfl,rfl⟩:=hrel
    go_wp2
    go_ret2
    exact ⟨_,rfl,by rw [HF.out]; exact HM2.out.2.1.mono (Nat.le_of_lt HM0.out.2.2.1),HM0.out.2.1.trans (HM2.out.2.2.mono (Nat.le_of_lt HM0.out.2.2.1))⟩
set_option maxHeartbeats 4000000 in
set_option maxRecDepth 100000 in
theorem rEnc_4 (w:World) (m:Mv) (D hb:List UInt8) (hm:MM w m D hb) (h0:refE m = 0) (hk:m.k = 3) :
    Calls Tryz.prog 52 #[.agg m.cs] w fun e w'=>∃ v,e = .returned (.tuple #[v,.int .i64 0])∧OW w.heap.size w' v (lays [1] m D hb)∧Below w.heap.size w w':=by
  have b0:Below w.heap.size w (w.alloc (.cells m.cs 40)):=(Below.refl _ _).alloc (Nat.le_refl _) _
  have HA:Hid (MB (w.alloc (.cells m.cs 40)) w.heap.size m∧Below w.heap.size w (w.alloc (.cells m.cs 40))∧w.heap.size < (w.alloc (.cells m.cs 40)).heap.size):=⟨heapNew w _,b0,by simp⟩
  have hc:=HA.out.1.cells
  have him:=info_msg hm.ok
  have hsm:=val_small m (by rw [← ref_val]; exact h0)
  obtain ⟨ad,cd,ed,_⟩:=id hm.d
  obtain ⟨ah,nh,ch,eh,lh,_,_⟩:=id hm.h
  have hA:asksB (3) = false:=by decide
  have hQ:queryB (3) = false:=by decide
  have hdl:D.length≤32767:=by have:=hm.sd; omega
  have hhl:hb.length≤17920:=by have:=hm.sh; omega
  have HS:Hid (MM w m D hb∧m.d = .slice ad D.length cd∧m.h = .slice ah nh ch∧hb.length = nh * 32):=⟨hm,ed,eh,lh⟩
  have HP:Hid (refE m = 0):=h0
  have hih:(Tryz.prog.info? 25).map (·.size) = some (Lib.byteCells m.r).length:=by rw [bcl_len,hm.ok.r]; exact info_hash
  have HD0:Hid (D = []):=List.length_eq_zero_iff.1 (by rw [← hm.sd]; exact ref0_data m h0 (by omega) (by omega) (by omega))
  have hn0:nh = 0:=by
    have h1:=ref0_hash m h0 (by omega)
    rw [eh] at h1
    exact h1
  have HH0:Hid (hb = []):=List.length_eq_zero_iff.1 (by omega)
  subst hn0
  clear b0 hm h0 hsm ed eh lh
  generalize hmcs:m.cs = mcs at *
  have HC:Hid (m.cs = mcs):=hmcs
  clear hmcs
  go_enter Tryz.func52,Tryz.ntmps52
  go_wp2_with (first |(refine wpList_load_row rfl 40 _ rfl w.heap.size rfl 40 mcs (0,0) _ hc Tryz.underlying40 rfl him ?_))
  generalize w.alloc (.cells mcs 40) = w0 at *
  rw [← HC.out]
  refine (rValidT w0 m HS.out.1.ok).mono ?_
  rintro e w1 ⟨rfl,b1⟩
  rw [HP.out,HC.out]
  have HM0:Hid (MB w1 w.heap.size m∧Below w.heap.size w w1∧w.heap.size < w1.heap.size∧MM w1 m D hb):=⟨HA.out.1.below b1,HA.out.2.1.trans (b1.mono (Nat.le_of_lt HA.out.2.2)),Nat.lt_of_lt_of_le HA.out.2.2 b1.size,HS.out.1.keep (HA.out.2.1.trans (b1.mono (Nat.le_of_lt HA.out.2.2)))⟩
  clear b1 hc HA him
  have c0:=HM0.out.1.c0
  have c1:=HM0.out.1.c1
  have c2:=HM0.out.1.c2
  have c3:=HM0.out.1.c3
  have c4:=HM0.out.1.c4
  have c37:=HM0.out.1.c37 HS.out.1.ok
  have c38:=HM0.out.1.c38 HS.out.1.ok
  have c39:=HM0.out.1.c39 HS.out.1.ok
  have rt:=HM0.out.1.root
  rw [HS.out.2.1] at c4
  rw [HS.out.2.2.1] at c39
  have HO0:Hid (OW w1.heap.size w1 (.slice none 0 0) []∧Below w1.heap.size w1 w1):=⟨World.ownsRow_nil _ _ _ _,Below.refl _ _⟩
  have HBX:#[Value.int .u8 3] = bc ([3]:List UInt8):=rfl
  have HX:Hid (RB (w1.alloc (.cells (bc ([3]:List UInt8)) 5)) (.slice (some ⟨w1.heap.size,0,none⟩) 1 1) ([3]:List UInt8)∧OW w1.heap.size (w1.alloc (.cells (bc ([3]:List UInt8)) 5)) (.slice none 0 0) []∧w1.heap.size≤(w1.alloc (.cells (bc ([3]:List UInt8)) 5)).heap.size∧Below w1.heap.size w1 (w1.alloc (.cells (bc ([3]:List UInt8)) 5))):=⟨rb_new rfl,World.ownsRow_nil _ _ _ _,by simp,(Below.refl _ _).alloc (Nat.le_refl _) _⟩
  rw [← HBX] at HX
  clear HBX
  go_upto_region 10 with (first |(go_at_call 77; refine (asksT2 _ _).mono ?_; rintro e w' ⟨rfl,rfl⟩) |(go_at_call 78; refine (queryT2 _ _).mono ?_; rintro e w' ⟨rfl,rfl⟩) |(refine wpList_load_mid rfl 25 _ rfl w.heap.size 5 rfl (Lib.byteCells m.r) _ rt Tryz.underlying25 rfl hih ?_) |(at_builtin; refine append_bytes rfl _ _ rfl rfl HX.out.2.1 rfl HX.out.1 HX.out.2.2.1 (by simp) ?_; intro v1 w2 oA bA; simp only [List.nil_append] at oA; obtain ⟨a1,n1,d1,rfl⟩:=oA.form2; have HM1:Hid (MB w2 w.heap.size m∧OW w1.heap.size w2 (.slice a1 n1 d1) (([3]:List UInt8))∧Below w1.heap.size w1 w2):=⟨HM0.out.1.below (HX.out.2.2.2.trans bA),oA,HX.out.2.2.2.trans bA⟩))
  clear c0 c1 c2 c3 c4 c37 c38 c39 rt HX oA bA
  have c0:=HM1.out.1.c0
  have c1:=HM1.out.1.c1
  have c2:=HM1.out.1.c2
  have c3:=HM1.out.1.c3
  have c4:=HM1.out.1.c4
  have c37:=HM1.out.1.c37 HS.out.1.ok
  have c38:=HM1.out.1.c38 HS.out.1.ok
  have c39:=HM1.out.1.c39 HS.out.1.ok
  have rt:=HM1.out.1.root
  rw [HS.out.2.1] at c4
  rw [HS.out.2.2.1] at c39
  have HDD:Hid (RB w2 (.slice ad D.length cd) D):=by
    have h1:=HM0.out.2.2.2.d
    rw [HS.out.2.1] at h1
    exact h1.keep HM1.out.2.2
  have HLL:Hid ((([3]:List UInt8)).length + D.length≤140737488351232):=by
    have h1:(([3]:List UInt8)).length≤100:=by simp
    unfold Hid; omega
  go_wp2_with (first |(go_at_call 77; refine (asksT2 _ _).mono ?_; rintro e w' ⟨rfl,rfl⟩) |(go_at_call 78; refine (queryT2 _ _).mono ?_; rintro e w' ⟨rfl,rfl⟩) |(refine wpList_load_mid rfl 25 _ rfl w.heap.size 5 rfl (Lib.byteCells m.r) _ rt Tryz.underlying25 rfl hih ?_) |(at_builtin; refine append_bytes rfl _ _ rfl rfl HM1.out.2.1 rfl HDD.out HM1.out.2.2.size HLL.out ?_; intro v2 w3 oA bA; obtain ⟨a2,n2,d2,rfl⟩:=oA.form2; have HM2:Hid (MB w3 w.heap.size m∧OW w1.heap.size w3 (.slice a2 n2 d2) (([3]:List UInt8) ++ D)∧Below w1.heap.size w1 w3):=⟨(bA.block _ HM0.out.2.2.1).trans HM1.out.1,oA,HM1.out.2.2.trans bA⟩; have x39:=HM2.out.1.c39 HS.out.1.ok; rw [HS.out.2.2.1] at x39))
  have HF:Hid (lays [1] m D hb = ([3]:List UInt8) ++ D):=by unfold Hid; simp [lays,lay,hk,ub,HD0.out,HH0.out]
  go_loopw [5,6] (fun u t wr=>t = .int .i64 0∧u = .slice a2 n2 d2∧wr = w3) (fun _ _ _=>0)
  case atStart=>exact ⟨rfl,rfl,rfl⟩
  case round =>
    obtain ⟨rfl,rfl,rfl⟩:=hrel
    go_wp2
    go_ret2
    exact ⟨_,rfl,by rw [HF.out]; exact HM2.out.2.1.mono (Nat.le_of_lt HM0.out.2.2.1),HM0.out.2.1.trans (HM2.out.2.2.mono (Nat.le_of_lt HM0.out.2.2.1))⟩
set_option maxHeartbeats 4000000 in
set_option maxRecDepth 100000 in
theorem rEnc_5 (w:World) (m:Mv) (D hb:List UInt8) (hm:MM w m D hb) (h0:refE m = 0) (hk:m.k = 4) :
    Calls Tryz.prog 52 #[.agg m.cs] w fun e w'=>∃ v,e = .returned (.tuple #[v,.int .i64 0])∧OW w.heap.size w' v (lays [1,3] m D hb)∧Below w.heap.size w w':=by
  have b0:Below w.heap.size w (w.alloc (.cells m.cs 40)):=(Below.refl _ _).alloc (Nat.le_refl _) _
  have HA:Hid (MB (w.alloc (.cells m.cs 40)) w.heap.size m∧Below w.heap.size w (w.alloc (.cells m.cs 40))∧w.heap.size < (w.alloc (.cells m.cs 40)).heap.size):=⟨heapNew w _,b0,by simp⟩
  have hc:=HA.out.1.cells
  have him:=info_msg hm.ok
  have hsm:=val_small m (by rw [← ref_val]; exact h0)
  obtain ⟨ad,cd,ed,_⟩:=id hm.d
  obtain ⟨ah,nh,ch,eh,lh,_,_⟩:=id hm.h
  have hA:asksB (4) = false:=by decide
  have hQ:queryB (4) = false:=by decide
  have hdl:D.length≤32767:=by have:=hm.sd; omega
  have hhl:hb.length≤17920:=by have:=hm.sh; omega
  have HS:Hid (MM w m D hb∧m.d = .slice ad D.length cd∧m.h = .slice ah nh ch∧hb.length = nh * 32):=⟨hm,ed,eh,lh⟩
  have HP:Hid (refE m = 0):=h0
  have hih:(Tryz.prog.info? 25).map (·.size) = some (Lib.byteCells m.r).length:=by rw [bcl_len,hm.ok.r]; exact info_hash
  have HD0:Hid (D = []):=List.length_eq_zero_iff.1 (by rw [← hm.sd]; exact ref0_data m h0 (by omega) (by omega) (by omega))
  have hn0:nh = 0:=by
    have h1:=ref0_hash m h0 (by omega)
    rw [eh] at h1
    exact h1
  have HH0:Hid (hb = []):=List.length_eq_zero_iff.1 (by omega)
  subst hn0
  clear b0 hm h0 hsm ed eh lh
  generalize hmcs:m.cs = mcs at *
  have HC:Hid (m.cs = mcs):=hmcs
  clear hmcs
  go_enter Tryz.func52,Tryz.ntmps52
  go_wp2_with (first |(refine wpList_load_row rfl 40 _ rfl w.heap.size rfl 40 mcs (0,0) _ hc Tryz.underlying40 rfl him ?_))
  generalize w.alloc (.cells mcs 40) = w0 at *
  rw [← HC.out]
  refine (rValidT w0 m HS.out.1.ok).mono ?_
  rintro e w1 ⟨rfl,b1⟩
  rw [HP.out,HC.out]
  have HM0:Hid (MB w1 w.heap.size m∧Below w.heap.size w w1∧w.heap.size < w1.heap.size∧MM w1 m D hb):=⟨HA.out.1.below b1,HA.out.2.1.trans (b1.mono (Nat.le_of_lt HA.out.2.2)),Nat.lt_of_lt_of_le HA.out.2.2 b1.size,HS.out.1.keep (HA.out.2.1.trans (b1.mono (Nat.le_of_lt HA.out.2.2)))⟩
  clear b1 hc HA him
  have c0:=HM0.out.1.c0
  have c1:=HM0.out.1.c1
  have c2:=HM0.out.1.c2
  have c3:=HM0.out.1.c3
  have c4:=HM0.out.1.c4
  have c37:=HM0.out.1.c37 HS.out.1.ok
  have c38:=HM0.out.1.c38 HS.out.1.ok
  have c39:=HM0.out.1.c39 HS.out.1.ok
  have rt:=HM0.out.1.root
  rw [HS.out.2.1] at c4
  rw [HS.out.2.2.1] at c39
  have HO0:Hid (OW w1.heap.size w1 (.slice none 0 0) []∧Below w1.heap.size w1 w1):=⟨World.ownsRow_nil _ _ _ _,Below.refl _ _⟩
  have HBX:#[Value.int .u8 4] = bc ([4]:List UInt8):=rfl
  have HX:Hid (RB (w1.alloc (.cells (bc ([4]:List UInt8)) 5)) (.slice (some ⟨w1.heap.size,0,none⟩) 1 1) ([4]:List UInt8)∧OW w1.heap.size (w1.alloc (.cells (bc ([4]:List UInt8)) 5)) (.slice none 0 0) []∧w1.heap.size≤(w1.alloc (.cells (bc ([4]:List UInt8)) 5)).heap.size∧Below w1.heap.size w1 (w1.alloc (.cells (bc ([4]:List UInt8)) 5))):=⟨rb_new rfl,World.ownsRow_nil _ _ _ _,by simp,(Below.refl _ _).alloc (Nat.le_refl _) _⟩
  rw [← HBX] at HX
  clear HBX
  go_upto_region 10 with (first |(go_at_call 77; refine (asksT2 _ _).mono ?_; rintro e w' ⟨rfl,rfl⟩) |(go_at_call 78; refine (queryT2 _ _).mono ?_; rintro e w' ⟨rfl,rfl⟩) |(refine wpList_load_mid rfl 25 _ rfl w.heap.size 5 rfl (Lib.byteCells m.r) _ rt Tryz.underlying25 rfl hih ?_) |(at_builtin; refine append_bytes rfl _ _ rfl rfl HX.out.2.1 rfl HX.out.1 HX.out.2.2.1 (by simp) ?_; intro v1 w2 oA bA; simp only [List.nil_append] at oA; obtain ⟨a1,n1,d1,rfl⟩:=oA.form2; have HM1:Hid (MB w2 w.heap.size m∧OW w1.heap.size w2 (.slice a1 n1 d1) (([4]:List UInt8))∧Below w1.heap.size w1 w2):=⟨HM0.out.1.below (HX.out.2.2.2.trans bA),oA,HX.out.2.2.2.trans bA⟩))
  clear c0 c1 c2 c3 c4 c37 c38 c39 rt HX oA bA
  have c0:=HM1.out.1.c0
  have c1:=HM1.out.1.c1
  have c2:=HM1.out.1.c2
  have c3:=HM1.out.1.c3
  have c4:=HM1.out.1.c4
  have c37:=HM1.out.1.c37 HS.out.1.ok
  have c38:=HM1.out.1.c38 HS.out.1.ok
  have c39:=HM1.out.1.c39 HS.out.1.ok
  have rt:=HM1.out.1.root
  rw [HS.out.2.1] at c4
  rw [HS.out.2.2.1] at c39
  go_wp2_with (first |(go_at_call 77; refine (asksT2 _ _).mono ?_; rintro e w' ⟨rfl,rfl⟩) |(go_at_call 78; refine (queryT2 _ _).mono ?_; rintro e w' ⟨rfl,rfl⟩) |(refine wpList_load_mid rfl 25 _ rfl w.heap.size 5 rfl (Lib.byteCells m.r) _ rt Tryz.underlying25 rfl hih ?_))
  refine (fourT w2 w1.heap.size m.i _ (([4]:List UInt8)) (ref0_nums m HP.out).1 HM1.out.2.1 HM1.out.2.2.size (by simp)).mono ?_
  rintro e w3 ⟨v2,rfl,oA,bA⟩
  obtain ⟨a2,n2,d2,rfl⟩:=oA.form2
  have HM2:Hid (MB w3 w.heap.size m∧OW w1.heap.size w3 (.slice a2 n2 d2) (([4]:List UInt8) ++ be4 m.i.toNat)∧Below w1.heap.size w1 w3):=⟨(bA.block _ HM0.out.2.2.1).trans HM1.out.1,oA,HM1.out.2.2.trans bA⟩
  clear c0 c1 c2 c3 c4 c37 c38 c39 rt oA bA
  have c0:=HM2.out.1.c0
  have c1:=HM2.out.1.c1
  have c2:=HM2.out.1.c2
  have c3:=HM2.out.1.c3
  have c4:=HM2.out.1.c4
  have c37:=HM2.out.1.c37 HS.out.1.ok
  have c38:=HM2.out.1.c38 HS.out.1.ok
  have c39:=HM2.out.1.c39 HS.out.1.ok
  have rt:=HM2.out.1.root
  rw [HS.out.2.1] at c4
  rw [HS.out.2.2.1] at c39
  have HDD:Hid (RB w3 (.slice ad D.length cd) D):=by
    have h1:=HM0.out.2.2.2.d
    rw [HS.out.2.1] at h1
    exact h1.keep HM2.out.2.2
  have HLL:Hid ((([4]:List UInt8) ++ be4 m.i.toNat).length + D.length≤140737488351232):=by
    have h1:(([4]:List UInt8) ++ be4 m.i.toNat).length≤100:=by simp [be4]
    unfold Hid; omega
  go_wp2_with (first |(go_at_call 77; refine (asksT2 _ _).mono ?_; rintro e w' ⟨rfl,rfl⟩) |(go_at_call 78; refine (queryT2 _ _).mono ?_; rintro e w' ⟨rfl,rfl⟩) |(refine wpList_load_mid rfl 25 _ rfl w.heap.size 5 rfl (Lib.byteCells m.r) _ rt Tryz.underlying25 rfl hih ?_) |(at_builtin; refine append_bytes rfl _ _ rfl rfl HM2.out.2.1 rfl HDD.out HM2.out.2.2.size HLL.out ?_; intro v3 w4 oA bA; obtain ⟨a3,n3,d3,rfl⟩:=oA.form2; have HM3:Hid (MB w4 w.heap.size m∧OW w1.heap.size w4 (.slice a3 n3 d3) (([4]:List UInt8) ++ be4 m.i.toNat ++ D)∧Below w1.heap.size w1 w4):=⟨(bA.block _ HM0.out.2.2.1).trans HM2.out.1,oA,HM2.out.2.2.trans bA⟩; have x39:=HM3.out.1.c39 HS.out.1.ok; rw [HS.out.2.2.1] at x39))
  have HF:Hid (lays [1,3] m D hb = ([4]:List UInt8) ++ be4 m.i.toNat ++ D):=by unfold Hid; simp [lays,lay,hk,ub,HD0.out,HH0.out]
  go_loopw [5,6] (fun u t wr=>t = .int .i64 0∧u = .slice a3 n3 d3∧wr = w4) (fun _ _ _=>0)
  case atStart=>exact ⟨rfl,rfl,rfl⟩
  case round =>
    obtain ⟨rfl,rfl,rfl⟩:=hrel
    go_wp2
    go_ret2
    exact ⟨_,rfl,by rw [HF.out]; exact HM3.out.2.1.mono (Nat.le_of_lt HM0.out.2.2.1),HM0.out.2.1.trans (HM3.out.2.2.mono (Nat.le_of_lt HM0.out.2.2.1))⟩
end Go.Proofs.YtfjjpbebnoghmaaGreatDoor
