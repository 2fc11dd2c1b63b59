import Derived.Test.YtfjjpbebnoghmaaGreatDoorK00
import Derived.Test.YtfjjpbebnoghmaaGreatDoorK26
namespace Go.Proofs.YtfjjpbebnoghmaaGreatDoor
open Go.RowKit
set_option maxHeartbeats 4000000 in
set_option maxRecDepth 100000 in
theorem rEnc_10 (w:World) (m:Mv) (D hb:List UInt8) (hm:MM w m D hb) (h0:refE m = 0) (hk:m.k = 21) :
    Calls Tryz.prog 52 #[.agg m.cs] w fun e w'=>∃ v,e = .returned (.tuple #[v,.int .i64 0])∧OW w.heap.size w' v (lays [1,7,8,3,5,9] m D hb)∧Below w.heap.size w w':=by
  have b0:Below w.heap.size w (w.alloc (.cells m.cs 40)):=(Below.refl _ _).alloc (Nat.le_refl _) _
  have HA:Hid (MB (w.alloc (.cells m.cs 40)) w.heap.size m∧Below w.heap.size w (w.alloc (.cells m.cs 40))∧w.heap.size < (w.alloc (.cells m.cs 40)).heap.size):=⟨heapNew w _,b0,by simp⟩
  have hc:=HA.out.1.cells
  have him:=info_msg hm.ok
  have hsm:=val_small m (by rw [← ref_val]; exact h0)
  obtain ⟨ad,cd,ed,_⟩:=id hm.d
  obtain ⟨ah,nh,ch,eh,lh,_,_⟩:=id hm.h
  have hA:asksB (21) = false:=by decide
  have hQ:queryB (21) = true:=by decide
  have hdl:D.length≤32767:=by have:=hm.sd; omega
  have hhl:hb.length≤17920:=by have:=hm.sh; omega
  have HS:Hid (MM w m D hb∧m.d = .slice ad D.length cd∧m.h = .slice ah nh ch∧hb.length = nh * 32):=⟨hm,ed,eh,lh⟩
  have HP:Hid (refE m = 0):=h0
  have hih:(Tryz.prog.info? 25).map (·.size) = some (Lib.byteCells m.r).length:=by rw [bcl_len,hm.ok.r]; exact info_hash
  have HD0:Hid (D = []):=List.length_eq_zero_iff.1 (by rw [← hm.sd]; exact ref0_data m h0 (by omega) (by omega) (by omega))
  have hn0:nh = 0:=by
    have h1:=ref0_hash m h0 (by omega)
    rw [eh] at h1
    exact h1
  have HH0:Hid (hb = []):=List.length_eq_zero_iff.1 (by omega)
  subst hn0
  clear b0 hm h0 hsm ed eh lh
  generalize hmcs:m.cs = mcs at *
  have HC:Hid (m.cs = mcs):=hmcs
  clear hmcs
  go_enter Tryz.func52,Tryz.ntmps52
  go_wp2_with (first |(refine wpList_load_row rfl 40 _ rfl w.heap.size rfl 40 mcs (0,0) _ hc Tryz.underlying40 rfl him ?_))
  generalize w.alloc (.cells mcs 40) = w0 at *
  rw [← HC.out]
  refine (rValidT w0 m HS.out.1.ok).mono ?_
  rintro e w1 ⟨rfl,b1⟩
  rw [HP.out,HC.out]
  have HM0:Hid (MB w1 w.heap.size m∧Below w.heap.size w w1∧w.heap.size < w1.heap.size∧MM w1 m D hb):=⟨HA.out.1.below b1,HA.out.2.1.trans (b1.mono (Nat.le_of_lt HA.out.2.2)),Nat.lt_of_lt_of_le HA.out.2.2 b1.size,HS.out.1.keep (HA.out.2.1.trans (b1.mono (Nat.le_of_lt HA.out.2.2)))⟩
  clear b1 hc HA him
  have c0:=HM0.out.1.c0
  have c1:=HM0.out.1.c1
  have c2:=HM0.out.1.c2
  have c3:=HM0.out.1.c3
  have c4:=HM0.out.1.c4
  have c37:=HM0.out.1.c37 HS.out.1.ok
  have c38:=HM0.out.1.c38 HS.out.1.ok
  have c39:=HM0.out.1.c39 HS.out.1.ok
  have rt:=HM0.out.1.root
  rw [HS.out.2.1] at c4
  rw [HS.out.2.2.1] at c39
  have HO0:Hid (OW w1.heap.size w1 (.slice none 0 0) []∧Below w1.heap.size w1 w1):=⟨World.ownsRow_nil _ _ _ _,Below.refl _ _⟩
  have HBX:#[Value.int .u8 21] = bc ([21]:List UInt8):=rfl
  have HX:Hid (RB (w1.alloc (.cells (bc ([21]:List UInt8)) 5)) (.slice (some ⟨w1.heap.size,0,none⟩) 1 1) ([21]:List UInt8)∧OW w1.heap.size (w1.alloc (.cells (bc ([21]:List UInt8)) 5)) (.slice none 0 0) []∧w1.heap.size≤(w1.alloc (.cells (bc ([21]:List UInt8)) 5)).heap.size∧Below w1.heap.size w1 (w1.alloc (.cells (bc ([21]:List UInt8)) 5))):=⟨rb_new rfl,World.ownsRow_nil _ _ _ _,by simp,(Below.refl _ _).alloc (Nat.le_refl _) _⟩
  rw [← HBX] at HX
  clear HBX
  go_upto_region 10 with (first |(go_at_call 77; refine (asksT2 _ _).mono ?_; rintro e w' ⟨rfl,rfl⟩) |(go_at_call 78; refine (queryT2 _ _).mono ?_; rintro e w' ⟨rfl,rfl⟩) |(refine wpList_load_mid rfl 25 _ rfl w.heap.size 5 rfl (Lib.byteCells m.r) _ rt Tryz.underlying25 rfl hih ?_) |(at_builtin; refine append_bytes rfl _ _ rfl rfl HX.out.2.1 rfl HX.out.1 HX.out.2.2.1 (by simp) ?_; intro v1 w2 oA bA; simp only [List.nil_append] at oA; obtain ⟨a1,n1,d1,rfl⟩:=oA.form2; have HM1:Hid (MB w2 w.heap.size m∧OW w1.heap.size w2 (.slice a1 n1 d1) (([21]:List UInt8))∧Below w1.heap.size w1 w2):=⟨HM0.out.1.below (HX.out.2.2.2.trans bA),oA,HX.out.2.2.2.trans bA⟩))
  clear c0 c1 c2 c3 c4 c37 c38 c39 rt HX oA bA
  have c0:=HM1.out.1.c0
  have c1:=HM1.out.1.c1
  have c2:=HM1.out.1.c2
  have c3:=HM1.out.1.c3
  have c4:=HM1.out.1.c4
  have c37:=HM1.out.1.c37 HS.out.1.ok
  have c38:=HM1.out.1.c38 HS.out.1.ok
  have c39:=HM1.out.1.c39 HS.out.1.ok
  have rt:=HM1.out.1.root
  rw [HS.out.2.1] at c4
  rw [HS.out.2.2.1] at c39
  go_wp2_with (first |(go_at_call 77; refine (asksT2 _ _).mono ?_; rintro e w' ⟨rfl,rfl⟩) |(go_at_call 78; refine (queryT2 _ _).mono ?_; rintro e w' ⟨rfl,rfl⟩) |(refine wpList_load_mid rfl 25 _ rfl w.heap.size 5 rfl (Lib.byteCells m.r) _ rt Tryz.underlying25 rfl hih ?_))
  refine (hashT w2 w1.heap.size m.r _ (([21]:List UInt8)) HS.out.1.ok.r HM1.out.2.1 HM1.out.2.2.size (by simp)).mono ?_
  rintro e w3 ⟨v2,rfl,oA,bA⟩
  obtain ⟨a2,n2,d2,rfl⟩:=oA.form2
  have HM2:Hid (MB w3 w.heap.size m∧OW w1.heap.size w3 (.slice a2 n2 d2) (([21]:List UInt8) ++ m.r)∧Below w1.heap.size w1 w3):=⟨(bA.block _ HM0.out.2.2.1).trans HM1.out.1,oA,HM1.out.2.2.trans bA⟩
  clear c0 c1 c2 c3 c4 c37 c38 c39 rt oA bA
  have c0:=HM2.out.1.c0
  have c1:=HM2.out.1.c1
  have c2:=HM2.out.1.c2
  have c3:=HM2.out.1.c3
  have c4:=HM2.out.1.c4
  have c37:=HM2.out.1.c37 HS.out.1.ok
  have c38:=HM2.out.1.c38 HS.out.1.ok
  have c39:=HM2.out.1.c39 HS.out.1.ok
  have rt:=HM2.out.1.root
  rw [HS.out.2.1] at c4
  rw [HS.out.2.2.1] at c39
  go_wp2_with (first |(go_at_call 77; refine (asksT2 _ _).mono ?_; rintro e w' ⟨rfl,rfl⟩) |(go_at_call 78; refine (queryT2 _ _).mono ?_; rintro e w' ⟨rfl,rfl⟩) |(refine wpList_load_mid rfl 25 _ rfl w.heap.size 5 rfl (Lib.byteCells m.r) _ rt Tryz.underlying25 rfl hih ?_))
  refine (fourT w3 w1.heap.size m.ba _ (([21]:List UInt8) ++ m.r) (ref0_nums m HP.out).2.2.2.1 HM2.out.2.1 HM2.out.2.2.size (by simp [HS.out.1.ok.r])).mono ?_
  rintro e w4 ⟨v3,rfl,oA,bA⟩
  obtain ⟨a3,n3,d3,rfl⟩:=oA.form2
  have HM3:Hid (MB w4 w.heap.size m∧OW w1.heap.size w4 (.slice a3 n3 d3) (([21]:List UInt8) ++ m.r ++ be4 m.ba.toNat)∧Below w1.heap.size w1 w4):=⟨(bA.block _ HM0.out.2.2.1).trans HM2.out.1,oA,HM2.out.2.2.trans bA⟩
  clear c0 c1 c2 c3 c4 c37 c38 c39 rt oA bA
  have c0:=HM3.out.1.c0
  have c1:=HM3.out.1.c1
  have c2:=HM3.out.1.c2
  have c3:=HM3.out.1.c3
  have c4:=HM3.out.1.c4
  have c37:=HM3.out.1.c37 HS.out.1.ok
  have c38:=HM3.out.1.c38 HS.out.1.ok
  have c39:=HM3.out.1.c39 HS.out.1.ok
  have rt:=HM3.out.1.root
  rw [HS.out.2.1] at c4
  rw [HS.out.2.2.1] at c39
  go_wp2_with (first |(go_at_call 77; refine (asksT2 _ _).mono ?_; rintro e w' ⟨rfl,rfl⟩) |(go_at_call 78; refine (queryT2 _ _).mono ?_; rintro e w' ⟨rfl,rfl⟩) |(refine wpList_load_mid rfl 25 _ rfl w.heap.size 5 rfl (Lib.byteCells m.r) _ rt Tryz.underlying25 rfl hih ?_))
  refine (fourT w4 w1.heap.size m.i _ (([21]:List UInt8) ++ m.r ++ be4 m.ba.toNat) (ref0_nums m HP.out).1 HM3.out.2.1 HM3.out.2.2.size (by simp [be4,HS.out.1.ok.r])).mono ?_
  rintro e w5 ⟨v4,rfl,oA,bA⟩
  obtain ⟨a4,n4,d4,rfl⟩:=oA.form2
  have HM4:Hid (MB w5 w.heap.size m∧OW w1.heap.size w5 (.slice a4 n4 d4) (([21]:List UInt8) ++ m.r ++ be4 m.ba.toNat ++ be4 m.i.toNat)∧Below w1.heap.size w1 w5):=⟨(bA.block _ HM0.out.2.2.1).trans HM3.out.1,oA,HM3.out.2.2.trans bA⟩
  clear c0 c1 c2 c3 c4 c37 c38 c39 rt oA bA
  have c0:=HM4.out.1.c0
  have c1:=HM4.out.1.c1
  have c2:=HM4.out.1.c2
  have c3:=HM4.out.1.c3
  have c4:=HM4.out.1.c4
  have c37:=HM4.out.1.c37 HS.out.1.ok
  have c38:=HM4.out.1.c38 HS.out.1.ok
  have c39:=HM4.out.1.c39 HS.out.1.ok
  have rt:=HM4.out.1.root
  rw [HS.out.2.1] at c4
  rw [HS.out.2.2.1] at c39
  go_wp2_with (first |(go_at_call 77; refine (asksT2 _ _).mono ?_; rintro e w' ⟨rfl,rfl⟩) |(go_at_call 78; refine (queryT2 _ _).mono ?_; rintro e w' ⟨rfl,rfl⟩) |(refine wpList_load_mid rfl 25 _ rfl w.heap.size 5 rfl (Lib.byteCells m.r) _ rt Tryz.underlying25 rfl hih ?_))
  refine (fourT w5 w1.heap.size m.l _ (([21]:List UInt8) ++ m.r ++ be4 m.ba.toNat ++ be4 m.i.toNat) (ref0_nums m HP.out).2.2.1 HM4.out.2.1 HM4.out.2.2.size (by simp [be4,HS.out.1.ok.r])).mono ?_
  rintro e w6 ⟨v5,rfl,oA,bA⟩
  obtain ⟨a5,n5,d5,rfl⟩:=oA.form2
  have HM5:Hid (MB w6 w.heap.size m∧OW w1.heap.size w6 (.slice a5 n5 d5) (([21]:List UInt8) ++ m.r ++ be4 m.ba.toNat ++ be4 m.i.toNat ++ be4 m.l.toNat)∧Below w1.heap.size w1 w6):=⟨(bA.block _ HM0.out.2.2.1).trans HM4.out.1,oA,HM4.out.2.2.trans bA⟩
  clear c0 c1 c2 c3 c4 c37 c38 c39 rt oA bA
  have c0:=HM5.out.1.c0
  have c1:=HM5.out.1.c1
  have c2:=HM5.out.1.c2
  have c3:=HM5.out.1.c3
  have c4:=HM5.out.1.c4
  have c37:=HM5.out.1.c37 HS.out.1.ok
  have c38:=HM5.out.1.c38 HS.out.1.ok
  have c39:=HM5.out.1.c39 HS.out.1.ok
  have rt:=HM5.out.1.root
  rw [HS.out.2.1] at c4
  rw [HS.out.2.2.1] at c39
  go_wp2_with (first |(go_at_call 77; refine (asksT2 _ _).mono ?_; rintro e w' ⟨rfl,rfl⟩) |(go_at_call 78; refine (queryT2 _ _).mono ?_; rintro e w' ⟨rfl,rfl⟩) |(refine wpList_load_mid rfl 25 _ rfl w.heap.size 5 rfl (Lib.byteCells m.r) _ rt Tryz.underlying25 rfl hih ?_))
  refine (fourT w6 w1.heap.size m.pr _ (([21]:List UInt8) ++ m.r ++ be4 m.ba.toNat ++ be4 m.i.toNat ++ be4 m.l.toNat) (ref0_nums m HP.out).2.2.2.2 HM5.out.2.1 HM5.out.2.2.size (by simp [be4,HS.out.1.ok.r])).mono ?_
  rintro e w7 ⟨v6,rfl,oA,bA⟩
  obtain ⟨a6,n6,d6,rfl⟩:=oA.form2
  have HM6:Hid (MB w7 w.heap.size m∧OW w1.heap.size w7 (.slice a6 n6 d6) (([21]:List UInt8) ++ m.r ++ be4 m.ba.toNat ++ be4 m.i.toNat ++ be4 m.l.toNat ++ be4 m.pr.toNat)∧Below w1.heap.size w1 w7):=⟨(bA.block _ HM0.out.2.2.1).trans HM5.out.1,oA,HM5.out.2.2.trans bA⟩
  clear c0 c1 c2 c3 c4 c37 c38 c39 rt oA bA
  have c0:=HM6.out.1.c0
  have c1:=HM6.out.1.c1
  have c2:=HM6.out.1.c2
  have c3:=HM6.out.1.c3
  have c4:=HM6.out.1.c4
  have c37:=HM6.out.1.c37 HS.out.1.ok
  have c38:=HM6.out.1.c38 HS.out.1.ok
  have c39:=HM6.out.1.c39 HS.out.1.ok
  have rt:=HM6.out.1.root
  rw [HS.out.2.1] at c4
  rw [HS.out.2.2.1] at c39
  have HDD:Hid (RB w7 (.slice ad D.length cd) D):=by
    have h1:=HM0.out.2.2.2.d
    rw [HS.out.2.1] at h1
    exact h1.keep HM6.out.2.2
  have HLL:Hid ((([21]:List UInt8) ++ m.r ++ be4 m.ba.toNat ++ be4 m.i.toNat ++ be4 m.l.toNat ++ be4 m.pr.toNat).length + D.length≤140737488351232):=by
    have h1:(([21]:List UInt8) ++ m.r ++ be4 m.ba.toNat ++ be4 m.i.toNat ++ be4 m.l.toNat ++ be4 m.pr.toNat).length≤100:=by simp [be4,HS.out.1.ok.r]
    unfold Hid; omega
  go_wp2_with (first |(go_at_call 77; refine (asksT2 _ _).mono ?_; rintro e w' ⟨rfl,rfl⟩) |(go_at_call 78; refine (queryT2 _ _).mono ?_; rintro e w' ⟨rfl,rfl⟩) |(refine wpList_load_mid rfl 25 _ rfl w.heap.size 5 rfl (Lib.byteCells m.r) _ rt Tryz.underlying25 rfl hih ?_) |(at_builtin; refine append_bytes rfl _ _ rfl rfl HM6.out.2.1 rfl HDD.out HM6.out.2.2.size HLL.out ?_; intro v7 w8 oA bA; obtain ⟨a7,n7,d7,rfl⟩:=oA.form2; have HM7:Hid (MB w8 w.heap.size m∧OW w1.heap.size w8 (.slice a7 n7 d7) (([21]:List UInt8) ++ m.r ++ be4 m.ba.toNat ++ be4 m.i.toNat ++ be4 m.l.toNat ++ be4 m.pr.toNat ++ D)∧Below w1.heap.size w1 w8):=⟨(bA.block _ HM0.out.2.2.1).trans HM6.out.1,oA,HM6.out.2.2.trans bA⟩; have x39:=HM7.out.1.c39 HS.out.1.ok; rw [HS.out.2.2.1] at x39))
  have HF:Hid (lays [1,7,8,3,5,9] m D hb = ([21]:List UInt8) ++ m.r ++ be4 m.ba.toNat ++ be4 m.i.toNat ++ be4 m.l.toNat ++ be4 m.pr.toNat ++ D):=by unfold Hid; simp [lays,lay,hk,ub,HD0.out,HH0.out]
  go_loopw [5,6] (fun u t wr=>t = .int .i64 0∧u = .slice a7 n7 d7∧wr = w8) (fun _ _ _=>0)
  case atStart=>exact ⟨rfl,rfl,rfl⟩
  case round =>
    obtain ⟨rfl,rfl,rfl⟩:=hrel
    go_wp2
    go_ret2
    exact ⟨_,rfl,by rw [HF.out]; exact HM7.out.2.1.mono (Nat.le_of_lt HM0.out.2.2.1),HM0.out.2.1.trans (HM7.out.2.2.mono (Nat.le_of_lt HM0.out.2.2.1))⟩
set_option maxHeartbeats 4000000 in
set_option maxRecDepth 100000 in
theorem rEnc_11 (w:World) (m:Mv) (D hb:List UInt8) (hm:MM w m D hb) (h0:refE m = 0) (hk:m.k = 22) :
    Calls Tryz.prog 52 #[.agg m.cs] w fun e w'=>∃ v,e = .returned (.tuple #[v,.int .i64 0])∧OW w.heap.size w' v (lays [1,7,8,3,5,9,11] m D hb)∧Below w.heap.size w w':=by
  have b0:Below w.heap.size w (w.alloc (.cells m.cs 40)):=(Below.refl _ _).alloc (Nat.le_refl _) _
  have HA:Hid (MB (w.alloc (.cells m.cs 40)) w.heap.size m∧Below w.heap.size w (w.alloc (.cells m.cs 40))∧w.heap.size < (w.alloc (.cells m.cs 40)).heap.size):=⟨heapNew w _,b0,by simp⟩
  have hc:=HA.out.1.cells
  have him:=info_msg hm.ok
  have hsm:=val_small m (by rw [← ref_val]; exact h0)
  obtain ⟨ad,cd,ed,_⟩:=id hm.d
  obtain ⟨ah,nh,ch,eh,lh,_,_⟩:=id hm.h
  have hA:asksB (22) = false:=by decide
  have hQ:queryB (22) = true:=by decide
  have hdl:D.length≤32767:=by have:=hm.sd; omega
  have hhl:hb.length≤17920:=by have:=hm.sh; omega
  have HS:Hid (MM w m D hb∧m.d = .slice ad D.length cd∧m.h = .slice ah nh ch∧hb.length = nh * 32):=⟨hm,ed,eh,lh⟩
  have HP:Hid (refE m = 0):=h0
  have hih:(Tryz.prog.info? 25).map (·.size) = some (Lib.byteCells m.r).length:=by rw [bcl_len,hm.ok.r]; exact info_hash
  have HD0:Hid (D = []):=List.length_eq_zero_iff.1 (by rw [← hm.sd]; exact ref0_data m h0 (by omega) (by omega) (by omega))
  clear b0 hm h0 hsm ed eh lh
  generalize hmcs:m.cs = mcs at *
  have HC:Hid (m.cs = mcs):=hmcs
  clear hmcs
  go_enter Tryz.func52,Tryz.ntmps52
  go_wp2_with (first |(refine wpList_load_row rfl 40 _ rfl w.heap.size rfl 40 mcs (0,0) _ hc Tryz.underlying40 rfl him ?_))
  generalize w.alloc (.cells mcs 40) = w0 at *
  rw [← HC.out]
  refine (rValidT w0 m HS.out.1.ok).mono ?_
  rintro e w1 ⟨rfl,b1⟩
  rw [HP.out,HC.out]
  have HM0:Hid (MB w1 w.heap.size m∧Below w.heap.size w w1∧w.heap.size < w1.heap.size∧MM w1 m D hb):=⟨HA.out.1.below b1,HA.out.2.1.trans (b1.mono (Nat.le_of_lt HA.out.2.2)),Nat.lt_of_lt_of_le HA.out.2.2 b1.size,HS.out.1.keep (HA.out.2.1.trans (b1.mono (Nat.le_of_lt HA.out.2.2)))⟩
  clear b1 hc HA him
  have c0:=HM0.out.1.c0
  have c1:=HM0.out.1.c1
  have c2:=HM0.out.1.c2
  have c3:=HM0.out.1.c3
  have c4:=HM0.out.1.c4
  have c37:=HM0.out.1.c37 HS.out.1.ok
  have c38:=HM0.out.1.c38 HS.out.1.ok
  have c39:=HM0.out.1.c39 HS.out.1.ok
  have rt:=HM0.out.1.root
  rw [HS.out.2.1] at c4
  rw [HS.out.2.2.1] at c39
  have HO0:Hid (OW w1.heap.size w1 (.slice none 0 0) []∧Below w1.heap.size w1 w1):=⟨World.ownsRow_nil _ _ _ _,Below.refl _ _⟩
  have HBX:#[Value.int .u8 22] = bc ([22]:List UInt8):=rfl
  have HX:Hid (RB (w1.alloc (.cells (bc ([22]:List UInt8)) 5)) (.slice (some ⟨w1.heap.size,0,none⟩) 1 1) ([22]:List UInt8)∧OW w1.heap.size (w1.alloc (.cells (bc ([22]:List UInt8)) 5)) (.slice none 0 0) []∧w1.heap.size≤(w1.alloc (.cells (bc ([22]:List UInt8)) 5)).heap.size∧Below w1.heap.size w1 (w1.alloc (.cells (bc ([22]:List UInt8)) 5))):=⟨rb_new rfl,World.ownsRow_nil _ _ _ _,by simp,(Below.refl _ _).alloc (Nat.le_refl _) _⟩
  rw [← HBX] at HX
  clear HBX
  go_upto_region 10 with (first |(go_at_call 77; refine (asksT2 _ _).mono ?_; rintro e w' ⟨rfl,rfl⟩) |(go_at_call 78; refine (queryT2 _ _).mono ?_; rintro e w' ⟨rfl,rfl⟩) |(refine wpList_load_mid rfl 25 _ rfl w.heap.size 5 rfl (Lib.byteCells m.r) _ rt Tryz.underlying25 rfl hih ?_) |(at_builtin; refine append_bytes rfl _ _ rfl rfl HX.out.2.1 rfl HX.out.1 HX.out.2.2.1 (by simp) ?_; intro v1 w2 oA bA; simp only [List.nil_append] at oA; obtain ⟨a1,n1,d1,rfl⟩:=oA.form2; have HM1:Hid (MB w2 w.heap.size m∧OW w1.heap.size w2 (.slice a1 n1 d1) (([22]:List UInt8))∧Below w1.heap.size w1 w2):=⟨HM0.out.1.below (HX.out.2.2.2.trans bA),oA,HX.out.2.2.2.trans bA⟩))
  clear c0 c1 c2 c3 c4 c37 c38 c39 rt HX oA bA
  have c0:=HM1.out.1.c0
  have c1:=HM1.out.1.c1
  have c2:=HM1.out.1.c2
  have c3:=HM1.out.1.c3
  have c4:=HM1.out.1.c4
  have c37:=HM1.out.1.c37 HS.out.1.ok
  have c38:=HM1.out.1.c38 HS.out.1.ok
  have c39:=HM1.out.1.c39 HS.out.1.ok
  have rt:=HM1.out.1.root
  rw [HS.out.2.1] at c4
  rw [HS.out.2.2.1] at c39
  go_wp2_with (first |(go_at_call 77; refine (asksT2 _ _).mono ?_; rintro e w' ⟨rfl,rfl⟩) |(go_at_call 78; refine (queryT2 _ _).mono ?_; rintro e w' ⟨rfl,rfl⟩) |(refine wpList_load_mid rfl 25 _ rfl w.heap.size 5 rfl (Lib.byteCells m.r) _ rt Tryz.underlying25 rfl hih ?_))
  refine (hashT w2 w1.heap.size m.r _ (([22]:List UInt8)) HS.out.1.ok.r HM1.out.2.1 HM1.out.2.2.size (by simp)).mono ?_
  rintro e w3 ⟨v2,rfl,oA,bA⟩
  obtain ⟨a2,n2,d2,rfl⟩:=oA.form2
  have HM2:Hid (MB w3 w.heap.size m∧OW w1.heap.size w3 (.slice a2 n2 d2) (([22]:List UInt8) ++ m.r)∧Below w1.heap.size w1 w3):=⟨(bA.block _ HM0.out.2.2.1).trans HM1.out.1,oA,HM1.out.2.2.trans bA⟩
  clear c0 c1 c2 c3 c4 c37 c38 c39 rt oA bA
  have c0:=HM2.out.1.c0
  have c1:=HM2.out.1.c1
  have c2:=HM2.out.1.c2
  have c3:=HM2.out.1.c3
  have c4:=HM2.out.1.c4
  have c37:=HM2.out.1.c37 HS.out.1.ok
  have c38:=HM2.out.1.c38 HS.out.1.ok
  have c39:=HM2.out.1.c39 HS.out.1.ok
  have rt:=HM2.out.1.root
  rw [HS.out.2.1] at c4
  rw [HS.out.2.2.1] at c39
  go_wp2_with (first |(go_at_call 77; refine (asksT2 _ _).mono ?_; rintro e w' ⟨rfl,rfl⟩) |(go_at_call 78; refine (queryT2 _ _).mono ?_; rintro e w' ⟨rfl,rfl⟩) |(refine wpList_load_mid rfl 25 _ rfl w.heap.size 5 rfl (Lib.byteCells m.r) _ rt Tryz.underlying25 rfl hih ?_))
  refine (fourT w3 w1.heap.size m.ba _ (([22]:List UInt8) ++ m.r) (ref0_nums m HP.out).2.2.2.1 HM2.out.2.1 HM2.out.2.2.size (by simp [HS.out.1.ok.r])).mono ?_
  rintro e w4 ⟨v3,rfl,oA,bA⟩
  obtain ⟨a3,n3,d3,rfl⟩:=oA.form2
  have HM3:Hid (MB w4 w.heap.size m∧OW w1.heap.size w4 (.slice a3 n3 d3) (([22]:List UInt8) ++ m.r ++ be4 m.ba.toNat)∧Below w1.heap.size w1 w4):=⟨(bA.block _ HM0.out.2.2.1).trans HM2.out.1,oA,HM2.out.2.2.trans bA⟩
  clear c0 c1 c2 c3 c4 c37 c38 c39 rt oA bA
  have c0:=HM3.out.1.c0
  have c1:=HM3.out.1.c1
  have c2:=HM3.out.1.c2
  have c3:=HM3.out.1.c3
  have c4:=HM3.out.1.c4
  have c37:=HM3.out.1.c37 HS.out.1.ok
  have c38:=HM3.out.1.c38 HS.out.1.ok
  have c39:=HM3.out.1.c39 HS.out.1.ok
  have rt:=HM3.out.1.root
  rw [HS.out.2.1] at c4
  rw [HS.out.2.2.1] at c39
  go_wp2_with (first |(go_at_call 77; refine (asksT2 _ _).mono ?_; rintro e w' ⟨rfl,rfl⟩) |(go_at_call 78; refine (queryT2 _ _).mono ?_; rintro e w' ⟨rfl,rfl⟩) |(refine wpList_load_mid rfl 25 _ rfl w.heap.size 5 rfl (Lib.byteCells m.r) _ rt Tryz.underlying25 rfl hih ?_))
  refine (fourT w4 w1.heap.size m.i _ (([22]:List UInt8) ++ m.r ++ be4 m.ba.toNat) (ref0_nums m HP.out).1 HM3.out.2.1 HM3.out.2.2.size (by simp [be4,HS.out.1.ok.r])).mono ?_
  rintro e w5 ⟨v4,rfl,oA,bA⟩
  obtain ⟨a4,n4,d4,rfl⟩:=oA.form2
  have HM4:Hid (MB w5 w.heap.size m∧OW w1.heap.size w5 (.slice a4 n4 d4) (([22]:List UInt8) ++ m.r ++ be4 m.ba.toNat ++ be4 m.i.toNat)∧Below w1.heap.size w1 w5):=⟨(bA.block _ HM0.out.2.2.1).trans HM3.out.1,oA,HM3.out.2.2.trans bA⟩
  clear c0 c1 c2 c3 c4 c37 c38 c39 rt oA bA
  have c0:=HM4.out.1.c0
  have c1:=HM4.out.1.c1
  have c2:=HM4.out.1.c2
  have c3:=HM4.out.1.c3
  have c4:=HM4.out.1.c4
  have c37:=HM4.out.1.c37 HS.out.1.ok
  have c38:=HM4.out.1.c38 HS.out.1.ok
  have c39:=HM4.out.1.c39 HS.out.1.ok
  have rt:=HM4.out.1.root
  rw [HS.out.2.1] at c4
  rw [HS.out.2.2.1] at c39
  go_wp2_with (first |(go_at_call 77; refine (asksT2 _ _).mono ?_; rintro e w' ⟨rfl,rfl⟩) |(go_at_call 78; refine (queryT2 _ _).mono ?_; rintro e w' ⟨rfl,rfl⟩) |(refine wpList_load_mid rfl 25 _ rfl w.heap.size 5 rfl (Lib.byteCells m.r) _ rt Tryz.underlying25 rfl hih ?_))
  refine (fourT w5 w1.heap.size m.l _ (([22]:List UInt8) ++ m.r ++ be4 m.ba.toNat ++ be4 m.i.toNat) (ref0_nums m HP.out).2.2.1 HM4.out.2.1 HM4.out.2.2.size (by simp [be4,HS.out.1.ok.r])).mono ?_
  rintro e w6 ⟨v5,rfl,oA,bA⟩
  obtain ⟨a5,n5,d5,rfl⟩:=oA.form2
  have HM5:Hid (MB w6 w.heap.size m∧OW w1.heap.size w6 (.slice a5 n5 d5) (([22]:List UInt8) ++ m.r ++ be4 m.ba.toNat ++ be4 m.i.toNat ++ be4 m.l.toNat)∧Below w1.heap.size w1 w6):=⟨(bA.block _ HM0.out.2.2.1).trans HM4.out.1,oA,HM4.out.2.2.trans bA⟩
  clear c0 c1 c2 c3 c4 c37 c38 c39 rt oA bA
  have c0:=HM5.out.1.c0
  have c1:=HM5.out.1.c1
  have c2:=HM5.out.1.c2
  have c3:=HM5.out.1.c3
  have c4:=HM5.out.1.c4
  have c37:=HM5.out.1.c37 HS.out.1.ok
  have c38:=HM5.out.1.c38 HS.out.1.ok
  have c39:=HM5.out.1.c39 HS.out.1.ok
  have rt:=HM5.out.1.root
  rw [HS.out.2.1] at c4
  rw [HS.out.2.2.1] at c39
  go_wp2_with (first |(go_at_call 77; refine (asksT2 _ _).mono ?_; rintro e w' ⟨rfl,rfl⟩) |(go_at_call 78; refine (queryT2 _ _).mono ?_; rintro e w' ⟨rfl,rfl⟩) |(refine wpList_load_mid rfl 25 _ rfl w.heap.size 5 rfl (Lib.byteCells m.r) _ rt Tryz.underlying25 rfl hih ?_))
  refine (fourT w6 w1.heap.size m.pr _ (([22]:List UInt8) ++ m.r ++ be4 m.ba.toNat ++ be4 m.i.toNat ++ be4 m.l.toNat) (ref0_nums m HP.out).2.2.2.2 HM5.out.2.1 HM5.out.2.2.size (by simp [be4,HS.out.1.ok.r])).mono ?_
  rintro e w7 ⟨v6,rfl,oA,bA⟩
  obtain ⟨a6,n6,d6,rfl⟩:=oA.form2
  have HM6:Hid (MB w7 w.heap.size m∧OW w1.heap.size w7 (.slice a6 n6 d6) (([22]:List UInt8) ++ m.r ++ be4 m.ba.toNat ++ be4 m.i.toNat ++ be4 m.l.toNat ++ be4 m.pr.toNat)∧Below w1.heap.size w1 w7):=⟨(bA.block _ HM0.out.2.2.1).trans HM5.out.1,oA,HM5.out.2.2.trans bA⟩
  clear c0 c1 c2 c3 c4 c37 c38 c39 rt oA bA
  have c0:=HM6.out.1.c0
  have c1:=HM6.out.1.c1
  have c2:=HM6.out.1.c2
  have c3:=HM6.out.1.c3
  have c4:=HM6.out.1.c4
  have c37:=HM6.out.1.c37 HS.out.1.ok
  have c38:=HM6.out.1.c38 HS.out.1.ok
  have c39:=HM6.out.1.c39 HS.out.1.ok
  have rt:=HM6.out.1.root
  rw [HS.out.2.1] at c4
  rw [HS.out.2.2.1] at c39
  have HDD:Hid (RB w7 (.slice ad D.length cd) D):=by
    have h1:=HM0.out.2.2.2.d
    rw [HS.out.2.1] at h1
    exact h1.keep HM6.out.2.2
  have HLL:Hid ((([22]:List UInt8) ++ m.r ++ be4 m.ba.toNat ++ be4 m.i.toNat ++ be4 m.l.toNat ++ be4 m.pr.toNat).length + D.length≤140737488351232):=by
    have h1:(([22]:List UInt8) ++ m.r ++ be4 m.ba.toNat ++ be4 m.i.toNat ++ be4 m.l.toNat ++ be4 m.pr.toNat).length≤100:=by simp [be4,HS.out.1.ok.r]
    unfold Hid; omega
  go_wp2_with (first |(go_at_call 77; refine (asksT2 _ _).mono ?_; rintro e w' ⟨rfl,rfl⟩) |(go_at_call 78; refine (queryT2 _ _).mono ?_; rintro e w' ⟨rfl,rfl⟩) |(refine wpList_load_mid rfl 25 _ rfl w.heap.size 5 rfl (Lib.byteCells m.r) _ rt Tryz.underlying25 rfl hih ?_) |(at_builtin; refine append_bytes rfl _ _ rfl rfl HM6.out.2.1 rfl HDD.out HM6.out.2.2.size HLL.out ?_; intro v7 w8 oA bA; obtain ⟨a7,n7,d7,rfl⟩:=oA.form2; have HM7:Hid (MB w8 w.heap.size m∧OW w1.heap.size w8 (.slice a7 n7 d7) (([22]:List UInt8) ++ m.r ++ be4 m.ba.toNat ++ be4 m.i.toNat ++ be4 m.l.toNat ++ be4 m.pr.toNat ++ D)∧Below w1.heap.size w1 w8):=⟨(bA.block _ HM0.out.2.2.1).trans HM6.out.1,oA,HM6.out.2.2.trans bA⟩; have x39:=HM7.out.1.c39 HS.out.1.ok; rw [HS.out.2.2.1] at x39))
  have HF:Hid (lays [1,7,8,3,5,9,11] m D hb = (([22]:List UInt8) ++ m.r ++ be4 m.ba.toNat ++ be4 m.i.toNat ++ be4 m.l.toNat ++ be4 m.pr.toNat ++ D) ++ hb):=by unfold Hid; simp [lays,lay,hk,ub,HD0.out]
  have HQ:Hid ((([22]:List UInt8) ++ m.r ++ be4 m.ba.toNat ++ be4 m.i.toNat ++ be4 m.l.toNat ++ be4 m.pr.toNat ++ D).length≤40000):=by unfold Hid; simp [be4,HS.out.1.ok.r]; omega
  generalize ([22]:List UInt8) ++ m.r ++ be4 m.ba.toNat ++ be4 m.i.toNat ++ be4 m.l.toNat ++ be4 m.pr.toNat ++ D = LN at *
  have hnl:nh≤560:=by have:=HS.out.2.2.2; omega
  go_loopw [5,6] (fun u t wr=>∃ k:Nat,k≤nh∧t = .int .i64 k∧Hid (OW w1.heap.size wr u (LN ++ hb.take (k * 32))∧Below w1.heap.size w1 wr)) (fun _ t _=>nh - (intOf t).toNat)
  case atStart=>exact ⟨0,by omega,rfl,by simpa using HM7.out.2.1,HM7.out.2.2⟩
  case round =>
    obtain ⟨k,hk2,rfl,hI⟩:=hrel
    have hmb:MB wr w.heap.size m:=(hI.out.2.block _ HM0.out.2.2.1).trans HM0.out.1
    have c39:=hmb.c39 HS.out.1.ok
    rw [HS.out.2.2.1] at c39
    by_cases hlt:k < nh
    · obtain ⟨G,o,rfl,hG,r1,l1⟩:=RH.cut HM0.out.2.2.2.h HS.out.2.2.1 k hlt
      have r2:wr.rangeAt G (o + k * 32) (Lib.byteCells ((hb.drop (k * 32)).take 32)):=fun j y hj=>(hI.out.2.cell (p:=⟨G,o + k * 32 + j,none⟩) hG).trans (r1 j y hj)
      have hih2:(Tryz.prog.info? 25).map (·.size) = some (Lib.byteCells ((hb.drop (k * 32)).take 32)).length:=by rw [bcl_len,l1]; exact info_hash
      have HL:Hid ((LN ++ hb.take (k * 32)).length≤100000000):=by
        unfold Hid
        rw [List.length_append,List.length_take]
        have:=HQ.out
        omega
      have HT:Hid (hb.take ((k + 1) * 32) = hb.take (k * 32) ++ (hb.drop (k * 32)).take 32):=take_hash hb k
      have HL1:Hid (((hb.drop (k * 32)).take 32).length = 32):=l1
      obtain ⟨ua,un,uc,rfl⟩:=hI.out.1.form2
      clear hmb r1 l1
      generalize (hb.drop (k * 32)).take 32 = h32 at *
      go_wp2_with (first |(refine wpList_load_mid rfl 25 _ rfl G (o + k * 32) rfl (Lib.byteCells h32) _ r2 Tryz.underlying25 rfl hih2 ?_))
      refine (hashT wr w1.heap.size h32 _ _ HL1.out hI.out.1 hI.out.2.size HL.out).mono ?_
      rintro e w9 ⟨v9,rfl,oA,bA⟩
      have HE:Hid (OW w1.heap.size w9 v9 (LN ++ hb.take ((k + 1) * 32))∧Below w1.heap.size w1 w9):=⟨by rw [HT.out, ← List.append_assoc]; exact oA,hI.out.2.trans bA⟩
      clear oA bA hI
      go_wp2
      exact ⟨⟨k + 1,by omega,by go_num,HE.out⟩,by simp [intOf]; omega⟩
    · have HE:Hid (OW w1.heap.size wr u5 (LN ++ hb)∧Below w1.heap.size w1 wr):=by
        have h1:=hI.out.1
        rw [List.take_of_length_le (by have:=HS.out.2.2.2; omega)] at h1
        exact ⟨h1,hI.out.2⟩
      go_wp2
      go_ret2
      exact ⟨_,rfl,by rw [HF.out]; exact HE.out.1.mono (Nat.le_of_lt HM0.out.2.2.1),HM0.out.2.1.trans (HE.out.2.mono (Nat.le_of_lt HM0.out.2.2.1))⟩
set_option maxHeartbeats 4000000 in
set_option maxRecDepth 100000 in
theorem rEnc_12 (w:World) (m:Mv) (D hb:List UInt8) (hm:MM w m D hb) (h0:refE m = 0) (hk:m.k = 23) :
    Calls Tryz.prog 52 #[.agg m.cs] w fun e w'=>∃ v,e = .returned (.tuple #[v,.int .i64 0])∧OW w.heap.size w' v (lays [1,7,8,3,5,9] m D hb)∧Below w.heap.size w w':=by
  have b0:Below w.heap.size w (w.alloc (.cells m.cs 40)):=(Below.refl _ _).alloc (Nat.le_refl _) _
  have HA:Hid (MB (w.alloc (.cells m.cs 40)) w.heap.size m∧Below w.heap.size w (w.alloc (.cells m.cs 40))∧w.heap.size < (w.alloc (.cells m.cs 40)).heap.size):=⟨heapNew w _,b0,by simp⟩
  have hc:=HA.out.1.cells
  have him:=info_msg hm.ok
  have hsm:=val_small m (by rw [← ref_val]; exact h0)
  obtain ⟨ad,cd,ed,_⟩:=id hm.d
  obtain ⟨ah,nh,ch,eh,lh,_,_⟩:=id hm.h
  have hA:asksB (23) = false:=by decide
  have hQ:queryB (23) = true:=by decide
  have hdl:D.length≤32767:=by have:=hm.sd; omega
  have hhl:hb.length≤17920:=by have:=hm.sh; omega
  have HS:Hid (MM w m D hb∧m.d = .slice ad D.length cd∧m.h = .slice ah nh ch∧hb.length = nh * 32):=⟨hm,ed,eh,lh⟩
  have HP:Hid (refE m = 0):=h0
  have hih:(Tryz.prog.info? 25).map (·.size) = some (Lib.byteCells m.r).length:=by rw [bcl_len,hm.ok.r]; exact info_hash
  have HD0:Hid (D = []):=List.length_eq_zero_iff.1 (by rw [← hm.sd]; exact ref0_data m h0 (by omega) (by omega) (by omega))
  have hn0:nh = 0:=by
    have h1:=ref0_hash m h0 (by omega)
    rw [eh] at h1
    exact h1
  have HH0:Hid (hb = []):=List.length_eq_zero_iff.1 (by omega)
  subst hn0
  clear b0 hm h0 hsm ed eh lh
  generalize hmcs:m.cs = mcs at *
  have HC:Hid (m.cs = mcs):=hmcs
  clear hmcs
  go_enter Tryz.func52,Tryz.ntmps52
  go_wp2_with (first |(refine wpList_load_row rfl 40 _ rfl w.heap.size rfl 40 mcs (0,0) _ hc Tryz.underlying40 rfl him ?_))
  generalize w.alloc (.cells mcs 40) = w0 at *
  rw [← HC.out]
  refine (rValidT w0 m HS.out.1.ok).mono ?_
  rintro e w1 ⟨rfl,b1⟩
  rw [HP.out,HC.out]
  have HM0:Hid (MB w1 w.heap.size m∧Below w.heap.size w w1∧w.heap.size < w1.heap.size∧MM w1 m D hb):=⟨HA.out.1.below b1,HA.out.2.1.trans (b1.mono (Nat.le_of_lt HA.out.2.2)),Nat.lt_of_lt_of_le HA.out.2.2 b1.size,HS.out.1.keep (HA.out.2.1.trans (b1.mono (Nat.le_of_lt HA.out.2.2)))⟩
  clear b1 hc HA him
  have c0:=HM0.out.1.c0
  have c1:=HM0.out.1.c1
  have c2:=HM0.out.1.c2
  have c3:=HM0.out.1.c3
  have c4:=HM0.out.1.c4
  have c37:=HM0.out.1.c37 HS.out.1.ok
  have c38:=HM0.out.1.c38 HS.out.1.ok
  have c39:=HM0.out.1.c39 HS.out.1.ok
  have rt:=HM0.out.1.root
  rw [HS.out.2.1] at c4
  rw [HS.out.2.2.1] at c39
  have HO0:Hid (OW w1.heap.size w1 (.slice none 0 0) []∧Below w1.heap.size w1 w1):=⟨World.ownsRow_nil _ _ _ _,Below.refl _ _⟩
  have HBX:#[Value.int .u8 23] = bc ([23]:List UInt8):=rfl
  have HX:Hid (RB (w1.alloc (.cells (bc ([23]:List UInt8)) 5)) (.slice (some ⟨w1.heap.size,0,none⟩) 1 1) ([23]:List UInt8)∧OW w1.heap.size (w1.alloc (.cells (bc ([23]:List UInt8)) 5)) (.slice none 0 0) []∧w1.heap.size≤(w1.alloc (.cells (bc ([23]:List UInt8)) 5)).heap.size∧Below w1.heap.size w1 (w1.alloc (.cells (bc ([23]:List UInt8)) 5))):=⟨rb_new rfl,World.ownsRow_nil _ _ _ _,by simp,(Below.refl _ _).alloc (Nat.le_refl _) _⟩
  rw [← HBX] at HX
  clear HBX
  go_upto_region 10 with (first |(go_at_call 77; refine (asksT2 _ _).mono ?_; rintro e w' ⟨rfl,rfl⟩) |(go_at_call 78; refine (queryT2 _ _).mono ?_; rintro e w' ⟨rfl,rfl⟩) |(refine wpList_load_mid rfl 25 _ rfl w.heap.size 5 rfl (Lib.byteCells m.r) _ rt Tryz.underlying25 rfl hih ?_) |(at_builtin; refine append_bytes rfl _ _ rfl rfl HX.out.2.1 rfl HX.out.1 HX.out.2.2.1 (by simp) ?_; intro v1 w2 oA bA; simp only [List.nil_append] at oA; obtain ⟨a1,n1,d1,rfl⟩:=oA.form2; have HM1:Hid (MB w2 w.heap.size m∧OW w1.heap.size w2 (.slice a1 n1 d1) (([23]:List UInt8))∧Below w1.heap.size w1 w2):=⟨HM0.out.1.below (HX.out.2.2.2.trans bA),oA,HX.out.2.2.2.trans bA⟩))
  clear c0 c1 c2 c3 c4 c37 c38 c39 rt HX oA bA
  have c0:=HM1.out.1.c0
  have c1:=HM1.out.1.c1
  have c2:=HM1.out.1.c2
  have c3:=HM1.out.1.c3
  have c4:=HM1.out.1.c4
  have c37:=HM1.out.1.c37 HS.out.1.ok
  have c38:=HM1.out.1.c38 HS.out.1.ok
  have c39:=HM1.out.1.c39 HS.out.1.ok
  have rt:=HM1.out.1.root
  rw [HS.out.2.1] at c4
  rw [HS.out.2.2.1] at c39
  go_wp2_with (first |(go_at_call 77; refine (asksT2 _ _).mono ?_; rintro e w' ⟨rfl,rfl⟩) |(go_at_call 78; refine (queryT2 _ _).mono ?_; rintro e w' ⟨rfl,rfl⟩) |(refine wpList_load_mid rfl 25 _ rfl w.heap.size 5 rfl (Lib.byteCells m.r) _ rt Tryz.underlying25 rfl hih ?_))
  refine (hashT w2 w1.heap.size m.r _ (([23]:List UInt8)) HS.out.1.ok.r HM1.out.2.1 HM1.out.2.2.size (by simp)).mono ?_
  rintro e w3 ⟨v2,rfl,oA,bA⟩
  obtain ⟨a2,n2,d2,rfl⟩:=oA.form2
  have HM2:Hid (MB w3 w.heap.size m∧OW w1.heap.size w3 (.slice a2 n2 d2) (([23]:List UInt8) ++ m.r)∧Below w1.heap.size w1 w3):=⟨(bA.block _ HM0.out.2.2.1).trans HM1.out.1,oA,HM1.out.2.2.trans bA⟩
  clear c0 c1 c2 c3 c4 c37 c38 c39 rt oA bA
  have c0:=HM2.out.1.c0
  have c1:=HM2.out.1.c1
  have c2:=HM2.out.1.c2
  have c3:=HM2.out.1.c3
  have c4:=HM2.out.1.c4
  have c37:=HM2.out.1.c37 HS.out.1.ok
  have c38:=HM2.out.1.c38 HS.out.1.ok
  have c39:=HM2.out.1.c39 HS.out.1.ok
  have rt:=HM2.out.1.root
  rw [HS.out.2.1] at c4
  rw [HS.out.2.2.1] at c39
  go_wp2_with (first |(go_at_call 77; refine (asksT2 _ _).mono ?_; rintro e w' ⟨rfl,rfl⟩) |(go_at_call 78; refine (queryT2 _ _).mono ?_; rintro e w' ⟨rfl,rfl⟩) |(refine wpList_load_mid rfl 25 _ rfl w.heap.size 5 rfl (Lib.byteCells m.r) _ rt Tryz.underlying25 rfl hih ?_))
  refine (fourT w3 w1.heap.size m.ba _ (([23]:List UInt8) ++ m.r) (ref0_nums m HP.out).2.2.2.1 HM2.out.2.1 HM2.out.2.2.size (by simp [HS.out.1.ok.r])).mono ?_
  rintro e w4 ⟨v3,rfl,oA,bA⟩
  obtain ⟨a3,n3,d3,rfl⟩:=oA.form2
  have HM3:Hid (MB w4 w.heap.size m∧OW w1.heap.size w4 (.slice a3 n3 d3) (([23]:List UInt8) ++ m.r ++ be4 m.ba.toNat)∧Below w1.heap.size w1 w4):=⟨(bA.block _ HM0.out.2.2.1).trans HM2.out.1,oA,HM2.out.2.2.trans bA⟩
  clear c0 c1 c2 c3 c4 c37 c38 c39 rt oA bA
  have c0:=HM3.out.1.c0
  have c1:=HM3.out.1.c1
  have c2:=HM3.out.1.c2
  have c3:=HM3.out.1.c3
  have c4:=HM3.out.1.c4
  have c37:=HM3.out.1.c37 HS.out.1.ok
  have c38:=HM3.out.1.c38 HS.out.1.ok
  have c39:=HM3.out.1.c39 HS.out.1.ok
  have rt:=HM3.out.1.root
  rw [HS.out.2.1] at c4
  rw [HS.out.2.2.1] at c39
  go_wp2_with (first |(go_at_call 77; refine (asksT2 _ _).mono ?_; rintro e w' ⟨rfl,rfl⟩) |(go_at_call 78; refine (queryT2 _ _).mono ?_; rintro e w' ⟨rfl,rfl⟩) |(refine wpList_load_mid rfl 25 _ rfl w.heap.size 5 rfl (Lib.byteCells m.r) _ rt Tryz.underlying25 rfl hih ?_))
  refine (fourT w4 w1.heap.size m.i _ (([23]:List UInt8) ++ m.r ++ be4 m.ba.toNat) (ref0_nums m HP.out).1 HM3.out.2.1 HM3.out.2.2.size (by simp [be4,HS.out.1.ok.r])).mono ?_
  rintro e w5 ⟨v4,rfl,oA,bA⟩
  obtain ⟨a4,n4,d4,rfl⟩:=oA.form2
  have HM4:Hid (MB w5 w.heap.size m∧OW w1.heap.size w5 (.slice a4 n4 d4) (([23]:List UInt8) ++ m.r ++ be4 m.ba.toNat ++ be4 m.i.toNat)∧Below w1.heap.size w1 w5):=⟨(bA.block _ HM0.out.2.2.1).trans HM3.out.1,oA,HM3.out.2.2.trans bA⟩
  clear c0 c1 c2 c3 c4 c37 c38 c39 rt oA bA
  have c0:=HM4.out.1.c0
  have c1:=HM4.out.1.c1
  have c2:=HM4.out.1.c2
  have c3:=HM4.out.1.c3
  have c4:=HM4.out.1.c4
  have c37:=HM4.out.1.c37 HS.out.1.ok
  have c38:=HM4.out.1.c38 HS.out.1.ok
  have c39:=HM4.out.1.c39 HS.out.1.ok
  have rt:=HM4.out.1.root
  rw [HS.out.2.1] at c4
  rw [HS.out.2.2.1] at c39
  go_wp2_with (first |(go_at_call 77; refine (asksT2 _ _).mono ?_; rintro e w' ⟨rfl,rfl⟩) |(go_at_call 78; refine (queryT2 _ _).mono ?_; rintro e w' ⟨rfl,rfl⟩) |(refine wpList_load_mid rfl 25 _ rfl w.heap.size 5 rfl (Lib.byteCells m.r) _ rt Tryz.underlying25 rfl hih ?_))
  refine (fourT w5 w1.heap.size m.l _ (([23]:List UInt8) ++ m.r ++ be4 m.ba.toNat ++ be4 m.i.toNat) (ref0_nums m HP.out).2.2.1 HM4.out.2.1 HM4.out.2.2.size (by simp [be4,HS.out.1.ok.r])).mono ?_
  rintro e w6 ⟨v5,rfl,oA,bA⟩
  obtain ⟨a5,n5,d5,rfl⟩:=oA.form2
  have HM5:Hid (MB w6 w.heap.size m∧OW w1.heap.size w6 (.slice a5 n5 d5) (([23]:List UInt8) ++ m.r ++ be4 m.ba.toNat ++ be4 m.i.toNat ++ be4 m.l.toNat)∧Below w1.heap.size w1 w6):=⟨(bA.block _ HM0.out.2.2.1).trans HM4.out.1,oA,HM4.out.2.2.trans bA⟩
  clear c0 c1 c2 c3 c4 c37 c38 c39 rt oA bA
  have c0:=HM5.out.1.c0
  have c1:=HM5.out.1.c1
  have c2:=HM5.out.1.c2
  have c3:=HM5.out.1.c3
  have c4:=HM5.out.1.c4
  have c37:=HM5.out.1.c37 HS.out.1.ok
  have c38:=HM5.out.1.c38 HS.out.1.ok
  have c39:=HM5.out.1.c39 HS.out.1.ok
  have rt:=HM5.out.1.root
  rw [HS.out.2.1] at c4
  rw [HS.out.2.2.1] at c39
  go_wp2_with (first |(go_at_call 77; refine (asksT2 _ _).mono ?_; rintro e w' ⟨rfl,rfl⟩) |(go_at_call 78; refine (queryT2 _ _).mono ?_; rintro e w' ⟨rfl,rfl⟩) |(refine wpList_load_mid rfl 25 _ rfl w.heap.size 5 rfl (Lib.byteCells m.r) _ rt Tryz.underlying25 rfl hih ?_))
  refine (fourT w6 w1.heap.size m.pr _ (([23]:List UInt8) ++ m.r ++ be4 m.ba.toNat ++ be4 m.i.toNat ++ be4 m.l.toNat) (ref0_nums m HP.out).2.2.2.2 HM5.out.2.1 HM5.out.2.2.size (by simp [be4,HS.out.1.ok.r])).mono ?_
  rintro e w7 ⟨v6,rfl,oA,bA⟩
  obtain ⟨a6,n6,d6,rfl⟩:=oA.form2
  have HM6:Hid (MB w7 w.heap.size m∧OW w1.heap.size w7 (.slice a6 n6 d6) (([23]:List UInt8) ++ m.r ++ be4 m.ba.toNat ++ be4 m.i.toNat ++ be4 m.l.toNat ++ be4 m.pr.toNat)∧Below w1.heap.size w1 w7):=⟨(bA.block _ HM0.out.2.2.1).trans HM5.out.1,oA,HM5.out.2.2.trans bA⟩
  clear c0 c1 c2 c3 c4 c37 c38 c39 rt oA bA
  have c0:=HM6.out.1.c0
  have c1:=HM6.out.1.c1
  have c2:=HM6.out.1.c2
  have c3:=HM6.out.1.c3
  have c4:=HM6.out.1.c4
  have c37:=HM6.out.1.c37 HS.out.1.ok
  have c38:=HM6.out.1.c38 HS.out.1.ok
  have c39:=HM6.out.1.c39 HS.out.1.ok
  have rt:=HM6.out.1.root
  rw [HS.out.2.1] at c4
  rw [HS.out.2.2.1] at c39
  have HDD:Hid (RB w7 (.slice ad D.length cd) D):=by
    have h1:=HM0.out.2.2.2.d
    rw [HS.out.2.1] at h1
    exact h1.keep HM6.out.2.2
  have HLL:Hid ((([23]:List UInt8) ++ m.r ++ be4 m.ba.toNat ++ be4 m.i.toNat ++ be4 m.l.toNat ++ be4 m.pr.toNat).length + D.length≤140737488351232):=by
    have h1:(([23]:List UInt8) ++ m.r ++ be4 m.ba.toNat ++ be4 m.i.toNat ++ be4 m.l.toNat ++ be4 m.pr.toNat).length≤100:=by simp [be4,HS.out.1.ok.r]
    unfold Hid; omega
  go_wp2_with (first |(go_at_call 77; refine (asksT2 _ _).mono ?_; rintro e w' ⟨rfl,rfl⟩) |(go_at_call 78; refine (queryT2 _ _).mono ?_; rintro e w' ⟨rfl,rfl⟩) |(refine wpList_load_mid rfl 25 _ rfl w.heap.size 5 rfl (Lib.byteCells m.r) _ rt Tryz.underlying25 rfl hih ?_) |(at_builtin; refine append_bytes rfl _ _ rfl rfl HM6.out.2.1 rfl HDD.out HM6.out.2.2.size HLL.out ?_; intro v7 w8 oA bA; obtain ⟨a7,n7,d7,rfl⟩:=oA.form2; have HM7:Hid (MB w8 w.heap.size m∧OW w1.heap.size w8 (.slice a7 n7 d7) (([23]:List UInt8) ++ m.r ++ be4 m.ba.toNat ++ be4 m.i.toNat ++ be4 m.l.toNat ++ be4 m.pr.toNat ++ D)∧Below w1.heap.size w1 w8):=⟨(bA.block _ HM0.out.2.2.1).trans HM6.out.1,oA,HM6.out.2.2.trans bA⟩; have x39:=HM7.out.1.c39 HS.out.1.ok; rw [HS.out.2.2.1] at x39))
  have HF:Hid (lays [1,7,8,3,5,9] m D hb = ([23]:List UInt8) ++ m.r ++ be4 m.ba.toNat ++ be4 m.i.toNat ++ be4 m.l.toNat ++ be4 m.pr.toNat ++ D):=by unfold Hid; simp [lays,lay,hk,ub,HD0.out,HH0.out]
  go_loopw [5,6] (fun u t wr=>t = .int .i64 0∧u = .slice a7 n7 d7∧wr = w8) (fun _ _ _=>0)
  case atStart=>exact ⟨rfl,rfl,rfl⟩
  case round =>
    obtain ⟨rfl,rfl,rfl⟩:=hrel
    go_wp2
    go_ret2
    exact ⟨_,rfl,by rw [HF.out]; exact HM7.out.2.1.mono (Nat.le_of_lt HM0.out.2.2.1),HM0.out.2.1.trans (HM7.out.2.2.mono (Nat.le_of_lt HM0.out.2.2.1))⟩
set_option maxHeartbeats 4000000 in
set_option maxRecDepth 100000 in
theorem rEnc_13 (w:World) (m:Mv) (D hb:List UInt8) (hm:MM w m D hb) (h0:refE m = 0) (hk:m.k = 1000) :
    Calls Tryz.prog 52 #[.agg m.cs] w fun e w'=>∃ v,e = .returned (.tuple #[v,.int .i64 0])∧OW w.heap.size w' v (lays [2,10] m D hb)∧Below w.heap.size w w':=by
  have b0:Below w.heap.size w (w.alloc (.cells m.cs 40)):=(Below.refl _ _).alloc (Nat.le_refl _) _
  have HA:Hid (MB (w.alloc (.cells m.cs 40)) w.heap.size m∧Below w.heap.size w (w.alloc (.cells m.cs 40))∧w.heap.size < (w.alloc (.cells m.cs 40)).heap.size):=⟨heapNew w _,b0,by simp⟩
  have hc:=HA.out.1.cells
  have him:=info_msg hm.ok
  have hsm:=val_small m (by rw [← ref_val]; exact h0)
  obtain ⟨ad,cd,ed,_⟩:=id hm.d
  obtain ⟨ah,nh,ch,eh,lh,_,_⟩:=id hm.h
  have hA:asksB (1000) = false:=by decide
  have hQ:queryB (1000) = false:=by decide
  have hdl:D.length≤32767:=by have:=hm.sd; omega
  have hhl:hb.length≤17920:=by have:=hm.sh; omega
  have HS:Hid (MM w m D hb∧m.d = .slice ad D.length cd∧m.h = .slice ah nh ch∧hb.length = nh * 32):=⟨hm,ed,eh,lh⟩
  have HP:Hid (refE m = 0):=h0
  have hih:(Tryz.prog.info? 25).map (·.size) = some (Lib.byteCells m.r).length:=by rw [bcl_len,hm.ok.r]; exact info_hash
  have hn0:nh = 0:=by
    have h1:=ref0_hash m h0 (by omega)
    rw [eh] at h1
    exact h1
  have HH0:Hid (hb = []):=List.length_eq_zero_iff.1 (by omega)
  subst hn0
  clear b0 hm h0 hsm ed eh lh
  generalize hmcs:m.cs = mcs at *
  have HC:Hid (m.cs = mcs):=hmcs
  clear hmcs
  go_enter Tryz.func52,Tryz.ntmps52
  go_wp2_with (first |(refine wpList_load_row rfl 40 _ rfl w.heap.size rfl 40 mcs (0,0) _ hc Tryz.underlying40 rfl him ?_))
  generalize w.alloc (.cells mcs 40) = w0 at *
  rw [← HC.out]
  refine (rValidT w0 m HS.out.1.ok).mono ?_
  rintro e w1 ⟨rfl,b1⟩
  rw [HP.out,HC.out]
  have HM0:Hid (MB w1 w.heap.size m∧Below w.heap.size w w1∧w.heap.size < w1.heap.size∧MM w1 m D hb):=⟨HA.out.1.below b1,HA.out.2.1.trans (b1.mono (Nat.le_of_lt HA.out.2.2)),Nat.lt_of_lt_of_le HA.out.2.2 b1.size,HS.out.1.keep (HA.out.2.1.trans (b1.mono (Nat.le_of_lt HA.out.2.2)))⟩
  clear b1 hc HA him
  have c0:=HM0.out.1.c0
  have c1:=HM0.out.1.c1
  have c2:=HM0.out.1.c2
  have c3:=HM0.out.1.c3
  have c4:=HM0.out.1.c4
  have c37:=HM0.out.1.c37 HS.out.1.ok
  have c38:=HM0.out.1.c38 HS.out.1.ok
  have c39:=HM0.out.1.c39 HS.out.1.ok
  have rt:=HM0.out.1.root
  rw [HS.out.2.1] at c4
  rw [HS.out.2.2.1] at c39
  have HO0:Hid (OW w1.heap.size w1 (.slice none 0 0) []∧Below w1.heap.size w1 w1):=⟨World.ownsRow_nil _ _ _ _,Below.refl _ _⟩
  have HBX:#[Value.int .u8 (m.i % 256)] = bc ([ub m.i]:List UInt8):=ub_cells m.i
  have HX:Hid (RB (w1.alloc (.cells (bc ([ub m.i]:List UInt8)) 5)) (.slice (some ⟨w1.heap.size,0,none⟩) 1 1) ([ub m.i]:List UInt8)∧OW w1.heap.size (w1.alloc (.cells (bc ([ub m.i]:List UInt8)) 5)) (.slice none 0 0) []∧w1.heap.size≤(w1.alloc (.cells (bc ([ub m.i]:List UInt8)) 5)).heap.size∧Below w1.heap.size w1 (w1.alloc (.cells (bc ([ub m.i]:List UInt8)) 5))):=⟨rb_new rfl,World.ownsRow_nil _ _ _ _,by simp,(Below.refl _ _).alloc (Nat.le_refl _) _⟩
  rw [← HBX] at HX
  clear HBX
  go_upto_region 10 with (first |(go_at_call 77; refine (asksT2 _ _).mono ?_; rintro e w' ⟨rfl,rfl⟩) |(go_at_call 78; refine (queryT2 _ _).mono ?_; rintro e w' ⟨rfl,rfl⟩) |(refine wpList_load_mid rfl 25 _ rfl w.heap.size 5 rfl (Lib.byteCells m.r) _ rt Tryz.underlying25 rfl hih ?_) |(at_builtin; refine append_bytes rfl _ _ rfl rfl HX.out.2.1 rfl HX.out.1 HX.out.2.2.1 (by simp) ?_; intro v1 w2 oA bA; simp only [List.nil_append] at oA; obtain ⟨a1,n1,d1,rfl⟩:=oA.form2; have HM1:Hid (MB w2 w.heap.size m∧OW w1.heap.size w2 (.slice a1 n1 d1) (([ub m.i]:List UInt8))∧Below w1.heap.size w1 w2):=⟨HM0.out.1.below (HX.out.2.2.2.trans bA),oA,HX.out.2.2.2.trans bA⟩))
  clear c0 c1 c2 c3 c4 c37 c38 c39 rt HX oA bA
  have c0:=HM1.out.1.c0
  have c1:=HM1.out.1.c1
  have c2:=HM1.out.1.c2
  have c3:=HM1.out.1.c3
  have c4:=HM1.out.1.c4
  have c37:=HM1.out.1.c37 HS.out.1.ok
  have c38:=HM1.out.1.c38 HS.out.1.ok
  have c39:=HM1.out.1.c39 HS.out.1.ok
  have rt:=HM1.out.1.root
  rw [HS.out.2.1] at c4
  rw [HS.out.2.2.1] at c39
  have HDD:Hid (RB w2 (.slice ad D.length cd) D):=by
    have h1:=HM0.out.2.2.2.d
    rw [HS.out.2.1] at h1
    exact h1.keep HM1.out.2.2
  have HLL:Hid ((([ub m.i]:List UInt8)).length + D.length≤140737488351232):=by
    have h1:(([ub m.i]:List UInt8)).length≤100:=by simp
    unfold Hid; omega
  go_wp2_with (first |(go_at_call 77; refine (asksT2 _ _).mono ?_; rintro e w' ⟨rfl,rfl⟩) |(go_at_call 78; refine (queryT2 _ _).mono ?_; rintro e w' ⟨rfl,rfl⟩) |(refine wpList_load_mid rfl 25 _ rfl w.heap.size 5 rfl (Lib.byteCells m.r) _ rt Tryz.underlying25 rfl hih ?_) |(at_builtin; refine append_bytes rfl _ _ rfl rfl HM1.out.2.1 rfl HDD.out HM1.out.2.2.size HLL.out ?_; intro v2 w3 oA bA; obtain ⟨a2,n2,d2,rfl⟩:=oA.form2; have HM2:Hid (MB w3 w.heap.size m∧OW w1.heap.size w3 (.slice a2 n2 d2) (([ub m.i]:List UInt8) ++ D)∧Below w1.heap.size w1 w3):=⟨(bA.block _ HM0.out.2.2.1).trans HM1.out.1,oA,HM1.out.2.2.trans bA⟩; have x39:=HM2.out.1.c39 HS.out.1.ok; rw [HS.out.2.2.1] at x39))
  have HF:Hid (lays [2,10] m D hb = ([ub m.i]:List UInt8) ++ D):=by unfold Hid; simp [lays,lay,HH0.out]
  go_loopw [5,6] (fun u t wr=>t = .int .i64 0∧u = .slice a2 n2 d2∧wr = w3) (fun _ _ _=>0)
  case atStart=>exact ⟨rfl,rfl,rfl⟩
  case round =>
    obtain ⟨rfl,rfl,rfl⟩:=hrel
    go_wp2
    go_ret2
    exact ⟨_,rfl,by rw [HF.out]; exact HM2.out.2.1.mono (Nat.le_of_lt HM0.out.2.2.1),HM0.out.2.1.trans (HM2.out.2.2.mono (Nat.le_of_lt HM0.out.2.2.1))⟩
end Go.Proofs.YtfjjpbebnoghmaaGreatDoor
