import Derived.Test.YtfjjpbebnoghmaaGreatDoorK00
import Derived.Test.YtfjjpbebnoghmaaGreatDoorK26
namespace Go.Proofs.YtfjjpbebnoghmaaGreatDoor
open Go.RowKit
set_option maxHeartbeats 4000000 in
set_option maxRecDepth 100000 in
theorem rEnc_6 (w:World) (m:Mv) (D hb:List UInt8) (hm:MM w m D hb) (h0:refE m = 0) (hk:m.k = 5) :
    Calls Tryz.prog 52 #[.agg m.cs] w fun e w'=>∃ v,e = .returned (.tuple #[v,.int .i64 0])∧OW w.heap.size w' v (lays [1,10] m D hb)∧Below w.heap.size w w':=by
  have b0:Below w.heap.size w (w.alloc (.cells m.cs 40)):=(Below.refl _ _).alloc (Nat.le_refl _) _
  have HA:Hid (MB (w.alloc (.cells m.cs 40)) w.heap.size m∧Below w.heap.size w (w.alloc (.cells m.cs 40))∧w.heap.size < (w.alloc (.cells m.cs 40)).heap.size):=⟨heapNew w _,b0,by simp⟩
  have hc:=HA.out.1.cells
  have him:=info_msg hm.ok
  have hsm:=val_small m (by rw [← ref_val]; exact h0)
  obtain ⟨ad,cd,ed,_⟩:=id hm.d
  obtain ⟨ah,nh,ch,eh,lh,_,_⟩:=id hm.h
  have hA:asksB (5) = false:=by decide
  have hQ:queryB (5) = false:=by decide
  have hdl:D.length≤32767:=by have:=hm.sd; omega
  have hhl:hb.length≤17920:=by have:=hm.sh; omega
  have HS:Hid (MM w m D hb∧m.d = .slice ad D.length cd∧m.h = .slice ah nh ch∧hb.length = nh * 32):=⟨hm,ed,eh,lh⟩
  have HP:Hid (refE m = 0):=h0
  have hih:(Tryz.prog.info? 25).map (·.size) = some (Lib.byteCells m.r).length:=by rw [bcl_len,hm.ok.r]; exact info_hash
  have hn0:nh = 0:=by
    have h1:=ref0_hash m h0 (by omega)
    rw [eh] at h1
    exact h1
  have HH0:Hid (hb = []):=List.length_eq_zero_iff.1 (by omega)
  subst hn0
  clear b0 hm h0 hsm ed eh lh
  generalize hmcs:m.cs = mcs at *
  have HC:Hid (m.cs = mcs):=hmcs
  clear hmcs
  go_enter Tryz.func52,Tryz.ntmps52
  go_wp2_with (first |(refine wpList_load_row rfl 40 _ rfl w.heap.size rfl 40 mcs (0,0) _ hc Tryz.underlying40 rfl him ?_))
  generalize w.alloc (.cells mcs 40) = w0 at *
  rw [← HC.out]
  refine (rValidT w0 m HS.out.1.ok).mono ?_
  rintro e w1 ⟨rfl,b1⟩
  rw [HP.out,HC.out]
  have HM0:Hid (MB w1 w.heap.size m∧Below w.heap.size w w1∧w.heap.size < w1.heap.size∧MM w1 m D hb):=⟨HA.out.1.below b1,HA.out.2.1.trans (b1.mono (Nat.le_of_lt HA.out.2.2)),Nat.lt_of_lt_of_le HA.out.2.2 b1.size,HS.out.1.keep (HA.out.2.1.trans (b1.mono (Nat.le_of_lt HA.out.2.2)))⟩
  clear b1 hc HA him
  have c0:=HM0.out.1.c0
  have c1:=HM0.out.1.c1
  have c2:=HM0.out.1.c2
  have c3:=HM0.out.1.c3
  have c4:=HM0.out.1.c4
  have c37:=HM0.out.1.c37 HS.out.1.ok
  have c38:=HM0.out.1.c38 HS.out.1.ok
  have c39:=HM0.out.1.c39 HS.out.1.ok
  have rt:=HM0.out.1.root
  rw [HS.out.2.1] at c4
  rw [HS.out.2.2.1] at c39
  have HO0:Hid (OW w1.heap.size w1 (.slice none 0 0) []∧Below w1.heap.size w1 w1):=⟨World.ownsRow_nil _ _ _ _,Below.refl _ _⟩
  have HBX:#[Value.int .u8 5] = bc ([5]:List UInt8):=rfl
  have HX:Hid (RB (w1.alloc (.cells (bc ([5]:List UInt8)) 5)) (.slice (some ⟨w1.heap.size,0,none⟩) 1 1) ([5]:List UInt8)∧OW w1.heap.size (w1.alloc (.cells (bc ([5]:List UInt8)) 5)) (.slice none 0 0) []∧w1.heap.size≤(w1.alloc (.cells (bc ([5]:List UInt8)) 5)).heap.size∧Below w1.heap.size w1 (w1.alloc (.cells (bc ([5]:List UInt8)) 5))):=⟨rb_new rfl,World.ownsRow_nil _ _ _ _,by simp,(Below.refl _ _).alloc (Nat.le_refl _) _⟩
  rw [← HBX] at HX
  clear HBX
  go_upto_region 10 with (first |(go_at_call 77; refine (asksT2 _ _).mono ?_; rintro e w' ⟨rfl,rfl⟩) |(go_at_call 78; refine (queryT2 _ _).mono ?_; rintro e w' ⟨rfl,rfl⟩) |(refine wpList_load_mid rfl 25 _ rfl w.heap.size 5 rfl (Lib.byteCells m.r) _ rt Tryz.underlying25 rfl hih ?_) |(at_builtin; refine append_bytes rfl _ _ rfl rfl HX.out.2.1 rfl HX.out.1 HX.out.2.2.1 (by simp) ?_; intro v1 w2 oA bA; simp only [List.nil_append] at oA; obtain ⟨a1,n1,d1,rfl⟩:=oA.form2; have HM1:Hid (MB w2 w.heap.size m∧OW w1.heap.size w2 (.slice a1 n1 d1) (([5]:List UInt8))∧Below w1.heap.size w1 w2):=⟨HM0.out.1.below (HX.out.2.2.2.trans bA),oA,HX.out.2.2.2.trans bA⟩))
  clear c0 c1 c2 c3 c4 c37 c38 c39 rt HX oA bA
  have c0:=HM1.out.1.c0
  have c1:=HM1.out.1.c1
  have c2:=HM1.out.1.c2
  have c3:=HM1.out.1.c3
  have c4:=HM1.out.1.c4
  have c37:=HM1.out.1.c37 HS.out.1.ok
  have c38:=HM1.out.1.c38 HS.out.1.ok
  have c39:=HM1.out.1.c39 HS.out.1.ok
  have rt:=HM1.out.1.root
  rw [HS.out.2.1] at c4
  rw [HS.out.2.2.1] at c39
  have HDD:Hid (RB w2 (.slice ad D.length cd) D):=by
    have h1:=HM0.out.2.2.2.d
    rw [HS.out.2.1] at h1
    exact h1.keep HM1.out.2.2
  have HLL:Hid ((([5]:List UInt8)).length + D.length≤140737488351232):=by
    have h1:(([5]:List UInt8)).length≤100:=by simp
    unfold Hid; omega
  go_wp2_with (first |(go_at_call 77; refine (asksT2 _ _).mono ?_; rintro e w' ⟨rfl,rfl⟩) |(go_at_call 78; refine (queryT2 _ _).mono ?_; rintro e w' ⟨rfl,rfl⟩) |(refine wpList_load_mid rfl 25 _ rfl w.heap.size 5 rfl (Lib.byteCells m.r) _ rt Tryz.underlying25 rfl hih ?_) |(at_builtin; refine append_bytes rfl _ _ rfl rfl HM1.out.2.1 rfl HDD.out HM1.out.2.2.size HLL.out ?_; intro v2 w3 oA bA; obtain ⟨a2,n2,d2,rfl⟩:=oA.form2; have HM2:Hid (MB w3 w.heap.size m∧OW w1.heap.size w3 (.slice a2 n2 d2) (([5]:List UInt8) ++ D)∧Below w1.heap.size w1 w3):=⟨(bA.block _ HM0.out.2.2.1).trans HM1.out.1,oA,HM1.out.2.2.trans bA⟩; have x39:=HM2.out.1.c39 HS.out.1.ok; rw [HS.out.2.2.1] at x39))
  have HF:Hid (lays [1,10] m D hb = ([5]:List UInt8) ++ D):=by unfold Hid; simp [lays,lay,hk,ub,HH0.out]
  go_loopw [5,6] (fun u t wr=>t = .int .i64 0∧u = .slice a2 n2 d2∧wr = w3) (fun _ _ _=>0)
  case atStart=>exact ⟨rfl,rfl,rfl⟩
  case round =>
    obtain ⟨rfl,rfl,rfl⟩:=hrel
    go_wp2
    go_ret2
    exact ⟨_,rfl,by rw [HF.out]; exact HM2.out.2.1.mono (Nat.le_of_lt HM0.out.2.2.1),HM0.out.2.1.trans (HM2.out.2.2.mono (Nat.le_of_lt HM0.out.2.2.1))⟩
set_option maxHeartbeats 4000000 in
set_option maxRecDepth 100000 in
theorem rEnc_7 (w:World) (m:Mv) (D hb:List UInt8) (hm:MM w m D hb) (h0:refE m = 0) (hk:m.k = 6) :
    Calls Tryz.prog 52 #[.agg m.cs] w fun e w'=>∃ v,e = .returned (.tuple #[v,.int .i64 0])∧OW w.heap.size w' v (lays [1,3,4,6] m D hb)∧Below w.heap.size w w':=by
  have b0:Below w.heap.size w (w.alloc (.cells m.cs 40)):=(Below.refl _ _).alloc (Nat.le_refl _) _
  have HA:Hid (MB (w.alloc (.cells m.cs 40)) w.heap.size m∧Below w.heap.size w (w.alloc (.cells m.cs 40))∧w.heap.size < (w.alloc (.cells m.cs 40)).heap.size):=⟨heapNew w _,b0,by simp⟩
  have hc:=HA.out.1.cells
  have him:=info_msg hm.ok
  have hsm:=val_small m (by rw [← ref_val]; exact h0)
  obtain ⟨ad,cd,ed,_⟩:=id hm.d
  obtain ⟨ah,nh,ch,eh,lh,_,_⟩:=id hm.h
  have hA:asksB (6) = true:=by decide
  have hQ:queryB (6) = false:=by decide
  have hdl:D.length≤32767:=by have:=hm.sd; omega
  have hhl:hb.length≤17920:=by have:=hm.sh; omega
  have HS:Hid (MM w m D hb∧m.d = .slice ad D.length cd∧m.h = .slice ah nh ch∧hb.length = nh * 32):=⟨hm,ed,eh,lh⟩
  have HP:Hid (refE m = 0):=h0
  have hih:(Tryz.prog.info? 25).map (·.size) = some (Lib.byteCells m.r).length:=by rw [bcl_len,hm.ok.r]; exact info_hash
  have HD0:Hid (D = []):=List.length_eq_zero_iff.1 (by rw [← hm.sd]; exact ref0_data m h0 (by omega) (by omega) (by omega))
  have hn0:nh = 0:=by
    have h1:=ref0_hash m h0 (by omega)
    rw [eh] at h1
    exact h1
  have HH0:Hid (hb = []):=List.length_eq_zero_iff.1 (by omega)
  subst hn0
  clear b0 hm h0 hsm ed eh lh
  generalize hmcs:m.cs = mcs at *
  have HC:Hid (m.cs = mcs):=hmcs
  clear hmcs
  go_enter Tryz.func52,Tryz.ntmps52
  go_wp2_with (first |(refine wpList_load_row rfl 40 _ rfl w.heap.size rfl 40 mcs (0,0) _ hc Tryz.underlying40 rfl him ?_))
  generalize w.alloc (.cells mcs 40) = w0 at *
  rw [← HC.out]
  refine (rValidT w0 m HS.out.1.ok).mono ?_
  rintro e w1 ⟨rfl,b1⟩
  rw [HP.out,HC.out]
  have HM0:Hid (MB w1 w.heap.size m∧Below w.heap.size w w1∧w.heap.size < w1.heap.size∧MM w1 m D hb):=⟨HA.out.1.below b1,HA.out.2.1.trans (b1.mono (Nat.le_of_lt HA.out.2.2)),Nat.lt_of_lt_of_le HA.out.2.2 b1.size,HS.out.1.keep (HA.out.2.1.trans (b1.mono (Nat.le_of_lt HA.out.2.2)))⟩
  clear b1 hc HA him
  have c0:=HM0.out.1.c0
  have c1:=HM0.out.1.c1
  have c2:=HM0.out.1.c2
  have c3:=HM0.out.1.c3
  have c4:=HM0.out.1.c4
  have c37:=HM0.out.1.c37 HS.out.1.ok
  have c38:=HM0.out.1.c38 HS.out.1.ok
  have c39:=HM0.out.1.c39 HS.out.1.ok
  have rt:=HM0.out.1.root
  rw [HS.out.2.1] at c4
  rw [HS.out.2.2.1] at c39
  have HO0:Hid (OW w1.heap.size w1 (.slice none 0 0) []∧Below w1.heap.size w1 w1):=⟨World.ownsRow_nil _ _ _ _,Below.refl _ _⟩
  have HBX:#[Value.int .u8 6] = bc ([6]:List UInt8):=rfl
  have HX:Hid (RB (w1.alloc (.cells (bc ([6]:List UInt8)) 5)) (.slice (some ⟨w1.heap.size,0,none⟩) 1 1) ([6]:List UInt8)∧OW w1.heap.size (w1.alloc (.cells (bc ([6]:List UInt8)) 5)) (.slice none 0 0) []∧w1.heap.size≤(w1.alloc (.cells (bc ([6]:List UInt8)) 5)).heap.size∧Below w1.heap.size w1 (w1.alloc (.cells (bc ([6]:List UInt8)) 5))):=⟨rb_new rfl,World.ownsRow_nil _ _ _ _,by simp,(Below.refl _ _).alloc (Nat.le_refl _) _⟩
  rw [← HBX] at HX
  clear HBX
  go_upto_region 10 with (first |(go_at_call 77; refine (asksT2 _ _).mono ?_; rintro e w' ⟨rfl,rfl⟩) |(go_at_call 78; refine (queryT2 _ _).mono ?_; rintro e w' ⟨rfl,rfl⟩) |(refine wpList_load_mid rfl 25 _ rfl w.heap.size 5 rfl (Lib.byteCells m.r) _ rt Tryz.underlying25 rfl hih ?_) |(at_builtin; refine append_bytes rfl _ _ rfl rfl HX.out.2.1 rfl HX.out.1 HX.out.2.2.1 (by simp) ?_; intro v1 w2 oA bA; simp only [List.nil_append] at oA; obtain ⟨a1,n1,d1,rfl⟩:=oA.form2; have HM1:Hid (MB w2 w.heap.size m∧OW w1.heap.size w2 (.slice a1 n1 d1) (([6]:List UInt8))∧Below w1.heap.size w1 w2):=⟨HM0.out.1.below (HX.out.2.2.2.trans bA),oA,HX.out.2.2.2.trans bA⟩))
  clear c0 c1 c2 c3 c4 c37 c38 c39 rt HX oA bA
  have c0:=HM1.out.1.c0
  have c1:=HM1.out.1.c1
  have c2:=HM1.out.1.c2
  have c3:=HM1.out.1.c3
  have c4:=HM1.out.1.c4
  have c37:=HM1.out.1.c37 HS.out.1.ok
  have c38:=HM1.out.1.c38 HS.out.1.ok
  have c39:=HM1.out.1.c39 HS.out.1.ok
  have rt:=HM1.out.1.root
  rw [HS.out.2.1] at c4
  rw [HS.out.2.2.1] at c39
  go_wp2_with (first |(go_at_call 77; refine (asksT2 _ _).mono ?_; rintro e w' ⟨rfl,rfl⟩) |(go_at_call 78; refine (queryT2 _ _).mono ?_; rintro e w' ⟨rfl,rfl⟩) |(refine wpList_load_mid rfl 25 _ rfl w.heap.size 5 rfl (Lib.byteCells m.r) _ rt Tryz.underlying25 rfl hih ?_))
  refine (fourT w2 w1.heap.size m.i _ (([6]:List UInt8)) (ref0_nums m HP.out).1 HM1.out.2.1 HM1.out.2.2.size (by simp)).mono ?_
  rintro e w3 ⟨v2,rfl,oA,bA⟩
  obtain ⟨a2,n2,d2,rfl⟩:=oA.form2
  have HM2:Hid (MB w3 w.heap.size m∧OW w1.heap.size w3 (.slice a2 n2 d2) (([6]:List UInt8) ++ be4 m.i.toNat)∧Below w1.heap.size w1 w3):=⟨(bA.block _ HM0.out.2.2.1).trans HM1.out.1,oA,HM1.out.2.2.trans bA⟩
  clear c0 c1 c2 c3 c4 c37 c38 c39 rt oA bA
  have c0:=HM2.out.1.c0
  have c1:=HM2.out.1.c1
  have c2:=HM2.out.1.c2
  have c3:=HM2.out.1.c3
  have c4:=HM2.out.1.c4
  have c37:=HM2.out.1.c37 HS.out.1.ok
  have c38:=HM2.out.1.c38 HS.out.1.ok
  have c39:=HM2.out.1.c39 HS.out.1.ok
  have rt:=HM2.out.1.root
  rw [HS.out.2.1] at c4
  rw [HS.out.2.2.1] at c39
  go_wp2_with (first |(go_at_call 77; refine (asksT2 _ _).mono ?_; rintro e w' ⟨rfl,rfl⟩) |(go_at_call 78; refine (queryT2 _ _).mono ?_; rintro e w' ⟨rfl,rfl⟩) |(refine wpList_load_mid rfl 25 _ rfl w.heap.size 5 rfl (Lib.byteCells m.r) _ rt Tryz.underlying25 rfl hih ?_))
  refine (fourT w3 w1.heap.size m.b _ (([6]:List UInt8) ++ be4 m.i.toNat) (ref0_nums m HP.out).2.1 HM2.out.2.1 HM2.out.2.2.size (by simp [be4])).mono ?_
  rintro e w4 ⟨v3,rfl,oA,bA⟩
  obtain ⟨a3,n3,d3,rfl⟩:=oA.form2
  have HM3:Hid (MB w4 w.heap.size m∧OW w1.heap.size w4 (.slice a3 n3 d3) (([6]:List UInt8) ++ be4 m.i.toNat ++ be4 m.b.toNat)∧Below w1.heap.size w1 w4):=⟨(bA.block _ HM0.out.2.2.1).trans HM2.out.1,oA,HM2.out.2.2.trans bA⟩
  clear c0 c1 c2 c3 c4 c37 c38 c39 rt oA bA
  have c0:=HM3.out.1.c0
  have c1:=HM3.out.1.c1
  have c2:=HM3.out.1.c2
  have c3:=HM3.out.1.c3
  have c4:=HM3.out.1.c4
  have c37:=HM3.out.1.c37 HS.out.1.ok
  have c38:=HM3.out.1.c38 HS.out.1.ok
  have c39:=HM3.out.1.c39 HS.out.1.ok
  have rt:=HM3.out.1.root
  rw [HS.out.2.1] at c4
  rw [HS.out.2.2.1] at c39
  go_wp2_with (first |(go_at_call 77; refine (asksT2 _ _).mono ?_; rintro e w' ⟨rfl,rfl⟩) |(go_at_call 78; refine (queryT2 _ _).mono ?_; rintro e w' ⟨rfl,rfl⟩) |(refine wpList_load_mid rfl 25 _ rfl w.heap.size 5 rfl (Lib.byteCells m.r) _ rt Tryz.underlying25 rfl hih ?_))
  refine (fourT w4 w1.heap.size m.l _ (([6]:List UInt8) ++ be4 m.i.toNat ++ be4 m.b.toNat) (ref0_nums m HP.out).2.2.1 HM3.out.2.1 HM3.out.2.2.size (by simp [be4])).mono ?_
  rintro e w5 ⟨v4,rfl,oA,bA⟩
  obtain ⟨a4,n4,d4,rfl⟩:=oA.form2
  have HM4:Hid (MB w5 w.heap.size m∧OW w1.heap.size w5 (.slice a4 n4 d4) (([6]:List UInt8) ++ be4 m.i.toNat ++ be4 m.b.toNat ++ be4 m.l.toNat)∧Below w1.heap.size w1 w5):=⟨(bA.block _ HM0.out.2.2.1).trans HM3.out.1,oA,HM3.out.2.2.trans bA⟩
  clear c0 c1 c2 c3 c4 c37 c38 c39 rt oA bA
  have c0:=HM4.out.1.c0
  have c1:=HM4.out.1.c1
  have c2:=HM4.out.1.c2
  have c3:=HM4.out.1.c3
  have c4:=HM4.out.1.c4
  have c37:=HM4.out.1.c37 HS.out.1.ok
  have c38:=HM4.out.1.c38 HS.out.1.ok
  have c39:=HM4.out.1.c39 HS.out.1.ok
  have rt:=HM4.out.1.root
  rw [HS.out.2.1] at c4
  rw [HS.out.2.2.1] at c39
  have HDD:Hid (RB w5 (.slice ad D.length cd) D):=by
    have h1:=HM0.out.2.2.2.d
    rw [HS.out.2.1] at h1
    exact h1.keep HM4.out.2.2
  have HLL:Hid ((([6]:List UInt8) ++ be4 m.i.toNat ++ be4 m.b.toNat ++ be4 m.l.toNat).length + D.length≤140737488351232):=by
    have h1:(([6]:List UInt8) ++ be4 m.i.toNat ++ be4 m.b.toNat ++ be4 m.l.toNat).length≤100:=by simp [be4]
    unfold Hid; omega
  go_wp2_with (first |(go_at_call 77; refine (asksT2 _ _).mono ?_; rintro e w' ⟨rfl,rfl⟩) |(go_at_call 78; refine (queryT2 _ _).mono ?_; rintro e w' ⟨rfl,rfl⟩) |(refine wpList_load_mid rfl 25 _ rfl w.heap.size 5 rfl (Lib.byteCells m.r) _ rt Tryz.underlying25 rfl hih ?_) |(at_builtin; refine append_bytes rfl _ _ rfl rfl HM4.out.2.1 rfl HDD.out HM4.out.2.2.size HLL.out ?_; intro v5 w6 oA bA; obtain ⟨a5,n5,d5,rfl⟩:=oA.form2; have HM5:Hid (MB w6 w.heap.size m∧OW w1.heap.size w6 (.slice a5 n5 d5) (([6]:List UInt8) ++ be4 m.i.toNat ++ be4 m.b.toNat ++ be4 m.l.toNat ++ D)∧Below w1.heap.size w1 w6):=⟨(bA.block _ HM0.out.2.2.1).trans HM4.out.1,oA,HM4.out.2.2.trans bA⟩; have x39:=HM5.out.1.c39 HS.out.1.ok; rw [HS.out.2.2.1] at x39))
  have HF:Hid (lays [1,3,4,6] m D hb = ([6]:List UInt8) ++ be4 m.i.toNat ++ be4 m.b.toNat ++ be4 m.l.toNat ++ D):=by unfold Hid; simp [lays,lay,hk,ub,HD0.out,HH0.out]
  go_loopw [5,6] (fun u t wr=>t = .int .i64 0∧u = .slice a5 n5 d5∧wr = w6) (fun _ _ _=>0)
  case atStart=>exact ⟨rfl,rfl,rfl⟩
  case round =>
    obtain ⟨rfl,rfl,rfl⟩:=hrel
    go_wp2
    go_ret2
    exact ⟨_,rfl,by rw [HF.out]; exact HM5.out.2.1.mono (Nat.le_of_lt HM0.out.2.2.1),HM0.out.2.1.trans (HM5.out.2.2.mono (Nat.le_of_lt HM0.out.2.2.1))⟩
set_option maxHeartbeats 4000000 in
set_option maxRecDepth 100000 in
theorem rEnc_8 (w:World) (m:Mv) (D hb:List UInt8) (hm:MM w m D hb) (h0:refE m = 0) (hk:m.k = 7) :
    Calls Tryz.prog 52 #[.agg m.cs] w fun e w'=>∃ v,e = .returned (.tuple #[v,.int .i64 0])∧OW w.heap.size w' v (lays [1,3,4,10] m D hb)∧Below w.heap.size w w':=by
  have b0:Below w.heap.size w (w.alloc (.cells m.cs 40)):=(Below.refl _ _).alloc (Nat.le_refl _) _
  have HA:Hid (MB (w.alloc (.cells m.cs 40)) w.heap.size m∧Below w.heap.size w (w.alloc (.cells m.cs 40))∧w.heap.size < (w.alloc (.cells m.cs 40)).heap.size):=⟨heapNew w _,b0,by simp⟩
  have hc:=HA.out.1.cells
  have him:=info_msg hm.ok
  have hsm:=val_small m (by rw [← ref_val]; exact h0)
  obtain ⟨ad,cd,ed,_⟩:=id hm.d
  obtain ⟨ah,nh,ch,eh,lh,_,_⟩:=id hm.h
  have hA:asksB (7) = false:=by decide
  have hQ:queryB (7) = false:=by decide
  have hdl:D.length≤32767:=by have:=hm.sd; omega
  have hhl:hb.length≤17920:=by have:=hm.sh; omega
  have HS:Hid (MM w m D hb∧m.d = .slice ad D.length cd∧m.h = .slice ah nh ch∧hb.length = nh * 32):=⟨hm,ed,eh,lh⟩
  have HP:Hid (refE m = 0):=h0
  have hih:(Tryz.prog.info? 25).map (·.size) = some (Lib.byteCells m.r).length:=by rw [bcl_len,hm.ok.r]; exact info_hash
  have hn0:nh = 0:=by
    have h1:=ref0_hash m h0 (by omega)
    rw [eh] at h1
    exact h1
  have HH0:Hid (hb = []):=List.length_eq_zero_iff.1 (by omega)
  subst hn0
  clear b0 hm h0 hsm ed eh lh
  generalize hmcs:m.cs = mcs at *
  have HC:Hid (m.cs = mcs):=hmcs
  clear hmcs
  go_enter Tryz.func52,Tryz.ntmps52
  go_wp2_with (first |(refine wpList_load_row rfl 40 _ rfl w.heap.size rfl 40 mcs (0,0) _ hc Tryz.underlying40 rfl him ?_))
  generalize w.alloc (.cells mcs 40) = w0 at *
  rw [← HC.out]
  refine (rValidT w0 m HS.out.1.ok).mono ?_
  rintro e w1 ⟨rfl,b1⟩
  rw [HP.out,HC.out]
  have HM0:Hid (MB w1 w.heap.size m∧Below w.heap.size w w1∧w.heap.size < w1.heap.size∧MM w1 m D hb):=⟨HA.out.1.below b1,HA.out.2.1.trans (b1.mono (Nat.le_of_lt HA.out.2.2)),Nat.lt_of_lt_of_le HA.out.2.2 b1.size,HS.out.1.keep (HA.out.2.1.trans (b1.mono (Nat.le_of_lt HA.out.2.2)))⟩
  clear b1 hc HA him
  have c0:=HM0.out.1.c0
  have c1:=HM0.out.1.c1
  have c2:=HM0.out.1.c2
  have c3:=HM0.out.1.c3
  have c4:=HM0.out.1.c4
  have c37:=HM0.out.1.c37 HS.out.1.ok
  have c38:=HM0.out.1.c38 HS.out.1.ok
  have c39:=HM0.out.1.c39 HS.out.1.ok
  have rt:=HM0.out.1.root
  rw [HS.out.2.1] at c4
  rw [HS.out.2.2.1] at c39
  have HO0:Hid (OW w1.heap.size w1 (.slice none 0 0) []∧Below w1.heap.size w1 w1):=⟨World.ownsRow_nil _ _ _ _,Below.refl _ _⟩
  have HBX:#[Value.int .u8 7] = bc ([7]:List UInt8):=rfl
  have HX:Hid (RB (w1.alloc (.cells (bc ([7]:List UInt8)) 5)) (.slice (some ⟨w1.heap.size,0,none⟩) 1 1) ([7]:List UInt8)∧OW w1.heap.size (w1.alloc (.cells (bc ([7]:List UInt8)) 5)) (.slice none 0 0) []∧w1.heap.size≤(w1.alloc (.cells (bc ([7]:List UInt8)) 5)).heap.size∧Below w1.heap.size w1 (w1.alloc (.cells (bc ([7]:List UInt8)) 5))):=⟨rb_new rfl,World.ownsRow_nil _ _ _ _,by simp,(Below.refl _ _).alloc (Nat.le_refl _) _⟩
  rw [← HBX] at HX
  clear HBX
  go_upto_region 10 with (first |(go_at_call 77; refine (asksT2 _ _).mono ?_; rintro e w' ⟨rfl,rfl⟩) |(go_at_call 78; refine (queryT2 _ _).mono ?_; rintro e w' ⟨rfl,rfl⟩) |(refine wpList_load_mid rfl 25 _ rfl w.heap.size 5 rfl (Lib.byteCells m.r) _ rt Tryz.underlying25 rfl hih ?_) |(at_builtin; refine append_bytes rfl _ _ rfl rfl HX.out.2.1 rfl HX.out.1 HX.out.2.2.1 (by simp) ?_; intro v1 w2 oA bA; simp only [List.nil_append] at oA; obtain ⟨a1,n1,d1,rfl⟩:=oA.form2; have HM1:Hid (MB w2 w.heap.size m∧OW w1.heap.size w2 (.slice a1 n1 d1) (([7]:List UInt8))∧Below w1.heap.size w1 w2):=⟨HM0.out.1.below (HX.out.2.2.2.trans bA),oA,HX.out.2.2.2.trans bA⟩))
  clear c0 c1 c2 c3 c4 c37 c38 c39 rt HX oA bA
  have c0:=HM1.out.1.c0
  have c1:=HM1.out.1.c1
  have c2:=HM1.out.1.c2
  have c3:=HM1.out.1.c3
  have c4:=HM1.out.1.c4
  have c37:=HM1.out.1.c37 HS.out.1.ok
  have c38:=HM1.out.1.c38 HS.out.1.ok
  have c39:=HM1.out.1.c39 HS.out.1.ok
  have rt:=HM1.out.1.root
  rw [HS.out.2.1] at c4
  rw [HS.out.2.2.1] at c39
  go_wp2_with (first |(go_at_call 77; refine (asksT2 _ _).mono ?_; rintro e w' ⟨rfl,rfl⟩) |(go_at_call 78; refine (queryT2 _ _).mono ?_; rintro e w' ⟨rfl,rfl⟩) |(refine wpList_load_mid rfl 25 _ rfl w.heap.size 5 rfl (Lib.byteCells m.r) _ rt Tryz.underlying25 rfl hih ?_))
  refine (fourT w2 w1.heap.size m.i _ (([7]:List UInt8)) (ref0_nums m HP.out).1 HM1.out.2.1 HM1.out.2.2.size (by simp)).mono ?_
  rintro e w3 ⟨v2,rfl,oA,bA⟩
  obtain ⟨a2,n2,d2,rfl⟩:=oA.form2
  have HM2:Hid (MB w3 w.heap.size m∧OW w1.heap.size w3 (.slice a2 n2 d2) (([7]:List UInt8) ++ be4 m.i.toNat)∧Below w1.heap.size w1 w3):=⟨(bA.block _ HM0.out.2.2.1).trans HM1.out.1,oA,HM1.out.2.2.trans bA⟩
  clear c0 c1 c2 c3 c4 c37 c38 c39 rt oA bA
  have c0:=HM2.out.1.c0
  have c1:=HM2.out.1.c1
  have c2:=HM2.out.1.c2
  have c3:=HM2.out.1.c3
  have c4:=HM2.out.1.c4
  have c37:=HM2.out.1.c37 HS.out.1.ok
  have c38:=HM2.out.1.c38 HS.out.1.ok
  have c39:=HM2.out.1.c39 HS.out.1.ok
  have rt:=HM2.out.1.root
  rw [HS.out.2.1] at c4
  rw [HS.out.2.2.1] at c39
  go_wp2_with (first |(go_at_call 77; refine (asksT2 _ _).mono ?_; rintro e w' ⟨rfl,rfl⟩) |(go_at_call 78; refine (queryT2 _ _).mono ?_; rintro e w' ⟨rfl,rfl⟩) |(refine wpList_load_mid rfl 25 _ rfl w.heap.size 5 rfl (Lib.byteCells m.r) _ rt Tryz.underlying25 rfl hih ?_))
  refine (fourT w3 w1.heap.size m.b _ (([7]:List UInt8) ++ be4 m.i.toNat) (ref0_nums m HP.out).2.1 HM2.out.2.1 HM2.out.2.2.size (by simp [be4])).mono ?_
  rintro e w4 ⟨v3,rfl,oA,bA⟩
  obtain ⟨a3,n3,d3,rfl⟩:=oA.form2
  have HM3:Hid (MB w4 w.heap.size m∧OW w1.heap.size w4 (.slice a3 n3 d3) (([7]:List UInt8) ++ be4 m.i.toNat ++ be4 m.b.toNat)∧Below w1.heap.size w1 w4):=⟨(bA.block _ HM0.out.2.2.1).trans HM2.out.1,oA,HM2.out.2.2.trans bA⟩
  clear c0 c1 c2 c3 c4 c37 c38 c39 rt oA bA
  have c0:=HM3.out.1.c0
  have c1:=HM3.out.1.c1
  have c2:=HM3.out.1.c2
  have c3:=HM3.out.1.c3
  have c4:=HM3.out.1.c4
  have c37:=HM3.out.1.c37 HS.out.1.ok
  have c38:=HM3.out.1.c38 HS.out.1.ok
  have c39:=HM3.out.1.c39 HS.out.1.ok
  have rt:=HM3.out.1.root
  rw [HS.out.2.1] at c4
  rw [HS.out.2.2.1] at c39
  have HDD:Hid (RB w4 (.slice ad D.length cd) D):=by
    have h1:=HM0.out.2.2.2.d
    rw [HS.out.2.1] at h1
    exact h1.keep HM3.out.2.2
  have HLL:Hid ((([7]:List UInt8) ++ be4 m.i.toNat ++ be4 m.b.toNat).length + D.length≤140737488351232):=by
    have h1:(([7]:List UInt8) ++ be4 m.i.toNat ++ be4 m.b.toNat).length≤100:=by simp [be4]
    unfold Hid; omega
  go_wp2_with (first |(go_at_call 77; refine (asksT2 _ _).mono ?_; rintro e w' ⟨rfl,rfl⟩) |(go_at_call 78; refine (queryT2 _ _).mono ?_; rintro e w' ⟨rfl,rfl⟩) |(refine wpList_load_mid rfl 25 _ rfl w.heap.size 5 rfl (Lib.byteCells m.r) _ rt Tryz.underlying25 rfl hih ?_) |(at_builtin; refine append_bytes rfl _ _ rfl rfl HM3.out.2.1 rfl HDD.out HM3.out.2.2.size HLL.out ?_; intro v4 w5 oA bA; obtain ⟨a4,n4,d4,rfl⟩:=oA.form2; have HM4:Hid (MB w5 w.heap.size m∧OW w1.heap.size w5 (.slice a4 n4 d4) (([7]:List UInt8) ++ be4 m.i.toNat ++ be4 m.b.toNat ++ D)∧Below w1.heap.size w1 w5):=⟨(bA.block _ HM0.out.2.2.1).trans HM3.out.1,oA,HM3.out.2.2.trans bA⟩; have x39:=HM4.out.1.c39 HS.out.1.ok; rw [HS.out.2.2.1] at x39))
  have HF:Hid (lays [1,3,4,10] m D hb = ([7]:List UInt8) ++ be4 m.i.toNat ++ be4 m.b.toNat ++ D):=by unfold Hid; simp [lays,lay,hk,ub,HH0.out]
  go_loopw [5,6] (fun u t wr=>t = .int .i64 0∧u = .slice a4 n4 d4∧wr = w5) (fun _ _ _=>0)
  case atStart=>exact ⟨rfl,rfl,rfl⟩
  case round =>
    obtain ⟨rfl,rfl,rfl⟩:=hrel
    go_wp2
    go_ret2
    exact ⟨_,rfl,by rw [HF.out]; exact HM4.out.2.1.mono (Nat.le_of_lt HM0.out.2.2.1),HM0.out.2.1.trans (HM4.out.2.2.mono (Nat.le_of_lt HM0.out.2.2.1))⟩
set_option maxHeartbeats 4000000 in
set_option maxRecDepth 100000 in
theorem rEnc_9 (w:World) (m:Mv) (D hb:List UInt8) (hm:MM w m D hb) (h0:refE m = 0) (hk:m.k = 8) :
    Calls Tryz.prog 52 #[.agg m.cs] w fun e w'=>∃ v,e = .returned (.tuple #[v,.int .i64 0])∧OW w.heap.size w' v (lays [1,3,4,6] m D hb)∧Below w.heap.size w w':=by
  have b0:Below w.heap.size w (w.alloc (.cells m.cs 40)):=(Below.refl _ _).alloc (Nat.le_refl _) _
  have HA:Hid (MB (w.alloc (.cells m.cs 40)) w.heap.size m∧Below w.heap.size w (w.alloc (.cells m.cs 40))∧w.heap.size < (w.alloc (.cells m.cs 40)).heap.size):=⟨heapNew w _,b0,by simp⟩
  have hc:=HA.out.1.cells
  have him:=info_msg hm.ok
  have hsm:=val_small m (by rw [← ref_val]; exact h0)
  obtain ⟨ad,cd,ed,_⟩:=id hm.d
  obtain ⟨ah,nh,ch,eh,lh,_,_⟩:=id hm.h
  have hA:asksB (8) = true:=by decide
  have hQ:queryB (8) = false:=by decide
  have hdl:D.length≤32767:=by have:=hm.sd; omega
  have hhl:hb.length≤17920:=by have:=hm.sh; omega
  have HS:Hid (MM w m D hb∧m.d = .slice ad D.length cd∧m.h = .slice ah nh ch∧hb.length = nh * 32):=⟨hm,ed,eh,lh⟩
  have HP:Hid (refE m = 0):=h0
  have hih:(Tryz.prog.info? 25).map (·.size) = some (Lib.byteCells m.r).length:=by rw [bcl_len,hm.ok.r]; exact info_hash
  have HD0:Hid (D = []):=List.length_eq_zero_iff.1 (by rw [← hm.sd]; exact ref0_data m h0 (by omega) (by omega) (by omega))
  have hn0:nh = 0:=by
    have h1:=ref0_hash m h0 (by omega)
    rw [eh] at h1
    exact h1
  have HH0:Hid (hb = []):=List.length_eq_zero_iff.1 (by omega)
  subst hn0
  clear b0 hm h0 hsm ed eh lh
  generalize hmcs:m.cs = mcs at *
  have HC:Hid (m.cs = mcs):=hmcs
  clear hmcs
  go_enter Tryz.func52,Tryz.ntmps52
  go_wp2_with (first |(refine wpList_load_row rfl 40 _ rfl w.heap.size rfl 40 mcs (0,0) _ hc Tryz.underlying40 rfl him ?_))
  generalize w.alloc (.cells mcs 40) = w0 at *
  rw [← HC.out]
  refine (rValidT w0 m HS.out.1.ok).mono ?_
  rintro e w1 ⟨rfl,b1⟩
  rw [HP.out,HC.out]
  have HM0:Hid (MB w1 w.heap.size m∧Below w.heap.size w w1∧w.heap.size < w1.heap.size∧MM w1 m D hb):=⟨HA.out.1.below b1,HA.out.2.1.trans (b1.mono (Nat.le_of_lt HA.out.2.2)),Nat.lt_of_lt_of_le HA.out.2.2 b1.size,HS.out.1.keep (HA.out.2.1.trans (b1.mono (Nat.le_of_lt HA.out.2.2)))⟩
  clear b1 hc HA him
  have c0:=HM0.out.1.c0
  have c1:=HM0.out.1.c1
  have c2:=HM0.out.1.c2
  have c3:=HM0.out.1.c3
  have c4:=HM0.out.1.c4
  have c37:=HM0.out.1.c37 HS.out.1.ok
  have c38:=HM0.out.1.c38 HS.out.1.ok
  have c39:=HM0.out.1.c39 HS.out.1.ok
  have rt:=HM0.out.1.root
  rw [HS.out.2.1] at c4
  rw [HS.out.2.2.1] at c39
  have HO0:Hid (OW w1.heap.size w1 (.slice none 0 0) []∧Below w1.heap.size w1 w1):=⟨World.ownsRow_nil _ _ _ _,Below.refl _ _⟩
  have HBX:#[Value.int .u8 8] = bc ([8]:List UInt8):=rfl
  have HX:Hid (RB (w1.alloc (.cells (bc ([8]:List UInt8)) 5)) (.slice (some ⟨w1.heap.size,0,none⟩) 1 1) ([8]:List UInt8)∧OW w1.heap.size (w1.alloc (.cells (bc ([8]:List UInt8)) 5)) (.slice none 0 0) []∧w1.heap.size≤(w1.alloc (.cells (bc ([8]:List UInt8)) 5)).heap.size∧Below w1.heap.size w1 (w1.alloc (.cells (bc ([8]:List UInt8)) 5))):=⟨rb_new rfl,World.ownsRow_nil _ _ _ _,by simp,(Below.refl _ _).alloc (Nat.le_refl _) _⟩
  rw [← HBX] at HX
  clear HBX
  go_upto_region 10 with (first |(go_at_call 77; refine (asksT2 _ _).mono ?_; rintro e w' ⟨rfl,rfl⟩) |(go_at_call 78; refine (queryT2 _ _).mono ?_; rintro e w' ⟨rfl,rfl⟩) |(refine wpList_load_mid rfl 25 _ rfl w.heap.size 5 rfl (Lib.byteCells m.r) _ rt Tryz.underlying25 rfl hih ?_) |(at_builtin; refine append_bytes rfl _ _ rfl rfl HX.out.2.1 rfl HX.out.1 HX.out.2.2.1 (by simp) ?_; intro v1 w2 oA bA; simp only [List.nil_append] at oA; obtain ⟨a1,n1,d1,rfl⟩:=oA.form2; have HM1:Hid (MB w2 w.heap.size m∧OW w1.heap.size w2 (.slice a1 n1 d1) (([8]:List UInt8))∧Below w1.heap.size w1 w2):=⟨HM0.out.1.below (HX.out.2.2.2.trans bA),oA,HX.out.2.2.2.trans bA⟩))
  clear c0 c1 c2 c3 c4 c37 c38 c39 rt HX oA bA
  have c0:=HM1.out.1.c0
  have c1:=HM1.out.1.c1
  have c2:=HM1.out.1.c2
  have c3:=HM1.out.1.c3
  have c4:=HM1.out.1.c4
  have c37:=HM1.out.1.c37 HS.out.1.ok
  have c38:=HM1.out.1.c38 HS.out.1.ok
  have c39:=HM1.out.1.c39 HS.out.1.ok
  have rt:=HM1.out.1.root
  rw [HS.out.2.1] at c4
  rw [HS.out.2.2.1] at c39
  go_wp2_with (first |(go_at_call 77; refine (asksT2 _ _).mono ?_; rintro e w' ⟨rfl,rfl⟩) |(go_at_call 78; refine (queryT2 _ _).mono ?_; rintro e w' ⟨rfl,rfl⟩) |(refine wpList_load_mid rfl 25 _ rfl w.heap.size 5 rfl (Lib.byteCells m.r) _ rt Tryz.underlying25 rfl hih ?_))
  refine (fourT w2 w1.heap.size m.i _ (([8]:List UInt8)) (ref0_nums m HP.out).1 HM1.out.2.1 HM1.out.2.2.size (by simp)).mono ?_
  rintro e w3 ⟨v2,rfl,oA,bA⟩
  obtain ⟨a2,n2,d2,rfl⟩:=oA.form2
  have HM2:Hid (MB w3 w.heap.size m∧OW w1.heap.size w3 (.slice a2 n2 d2) (([8]:List UInt8) ++ be4 m.i.toNat)∧Below w1.heap.size w1 w3):=⟨(bA.block _ HM0.out.2.2.1).trans HM1.out.1,oA,HM1.out.2.2.trans bA⟩
  clear c0 c1 c2 c3 c4 c37 c38 c39 rt oA bA
  have c0:=HM2.out.1.c0
  have c1:=HM2.out.1.c1
  have c2:=HM2.out.1.c2
  have c3:=HM2.out.1.c3
  have c4:=HM2.out.1.c4
  have c37:=HM2.out.1.c37 HS.out.1.ok
  have c38:=HM2.out.1.c38 HS.out.1.ok
  have c39:=HM2.out.1.c39 HS.out.1.ok
  have rt:=HM2.out.1.root
  rw [HS.out.2.1] at c4
  rw [HS.out.2.2.1] at c39
  go_wp2_with (first |(go_at_call 77; refine (asksT2 _ _).mono ?_; rintro e w' ⟨rfl,rfl⟩) |(go_at_call 78; refine (queryT2 _ _).mono ?_; rintro e w' ⟨rfl,rfl⟩) |(refine wpList_load_mid rfl 25 _ rfl w.heap.size 5 rfl (Lib.byteCells m.r) _ rt Tryz.underlying25 rfl hih ?_))
  refine (fourT w3 w1.heap.size m.b _ (([8]:List UInt8) ++ be4 m.i.toNat) (ref0_nums m HP.out).2.1 HM2.out.2.1 HM2.out.2.2.size (by simp [be4])).mono ?_
  rintro e w4 ⟨v3,rfl,oA,bA⟩
  obtain ⟨a3,n3,d3,rfl⟩:=oA.form2
  have HM3:Hid (MB w4 w.heap.size m∧OW w1.heap.size w4 (.slice a3 n3 d3) (([8]:List UInt8) ++ be4 m.i.toNat ++ be4 m.b.toNat)∧Below w1.heap.size w1 w4):=⟨(bA.block _ HM0.out.2.2.1).trans HM2.out.1,oA,HM2.out.2.2.trans bA⟩
  clear c0 c1 c2 c3 c4 c37 c38 c39 rt oA bA
  have c0:=HM3.out.1.c0
  have c1:=HM3.out.1.c1
  have c2:=HM3.out.1.c2
  have c3:=HM3.out.1.c3
  have c4:=HM3.out.1.c4
  have c37:=HM3.out.1.c37 HS.out.1.ok
  have c38:=HM3.out.1.c38 HS.out.1.ok
  have c39:=HM3.out.1.c39 HS.out.1.ok
  have rt:=HM3.out.1.root
  rw [HS.out.2.1] at c4
  rw [HS.out.2.2.1] at c39
  go_wp2_with (first |(go_at_call 77; refine (asksT2 _ _).mono ?_; rintro e w' ⟨rfl,rfl⟩) |(go_at_call 78; refine (queryT2 _ _).mono ?_; rintro e w' ⟨rfl,rfl⟩) |(refine wpList_load_mid rfl 25 _ rfl w.heap.size 5 rfl (Lib.byteCells m.r) _ rt Tryz.underlying25 rfl hih ?_))
  refine (fourT w4 w1.heap.size m.l _ (([8]:List UInt8) ++ be4 m.i.toNat ++ be4 m.b.toNat) (ref0_nums m HP.out).2.2.1 HM3.out.2.1 HM3.out.2.2.size (by simp [be4])).mono ?_
  rintro e w5 ⟨v4,rfl,oA,bA⟩
  obtain ⟨a4,n4,d4,rfl⟩:=oA.form2
  have HM4:Hid (MB w5 w.heap.size m∧OW w1.heap.size w5 (.slice a4 n4 d4) (([8]:List UInt8) ++ be4 m.i.toNat ++ be4 m.b.toNat ++ be4 m.l.toNat)∧Below w1.heap.size w1 w5):=⟨(bA.block _ HM0.out.2.2.1).trans HM3.out.1,oA,HM3.out.2.2.trans bA⟩
  clear c0 c1 c2 c3 c4 c37 c38 c39 rt oA bA
  have c0:=HM4.out.1.c0
  have c1:=HM4.out.1.c1
  have c2:=HM4.out.1.c2
  have c3:=HM4.out.1.c3
  have c4:=HM4.out.1.c4
  have c37:=HM4.out.1.c37 HS.out.1.ok
  have c38:=HM4.out.1.c38 HS.out.1.ok
  have c39:=HM4.out.1.c39 HS.out.1.ok
  have rt:=HM4.out.1.root
  rw [HS.out.2.1] at c4
  rw [HS.out.2.2.1] at c39
  have HDD:Hid (RB w5 (.slice ad D.length cd) D):=by
    have h1:=HM0.out.2.2.2.d
    rw [HS.out.2.1] at h1
    exact h1.keep HM4.out.2.2
  have HLL:Hid ((([8]:List UInt8) ++ be4 m.i.toNat ++ be4 m.b.toNat ++ be4 m.l.toNat).length + D.length≤140737488351232):=by
    have h1:(([8]:List UInt8) ++ be4 m.i.toNat ++ be4 m.b.toNat ++ be4 m.l.toNat).length≤100:=by simp [be4]
    unfold Hid; omega
  go_wp2_with (first |(go_at_call 77; refine (asksT2 _ _).mono ?_; rintro e w' ⟨rfl,rfl⟩) |(go_at_call 78; refine (queryT2 _ _).mono ?_; rintro e w' ⟨rfl,rfl⟩) |(refine wpList_load_mid rfl 25 _ rfl w.heap.size 5 rfl (Lib.byteCells m.r) _ rt Tryz.underlying25 rfl hih ?_) |(at_builtin; refine append_bytes rfl _ _ rfl rfl HM4.out.2.1 rfl HDD.out HM4.out.2.2.size HLL.out ?_; intro v5 w6 oA bA; obtain ⟨a5,n5,d5,rfl⟩:=oA.form2; have HM5:Hid (MB w6 w.heap.size m∧OW w1.heap.size w6 (.slice a5 n5 d5) (([8]:List UInt8) ++ be4 m.i.toNat ++ be4 m.b.toNat ++ be4 m.l.toNat ++ D)∧Below w1.heap.size w1 w6):=⟨(bA.block _ HM0.out.2.2.1).trans HM4.out.1,oA,HM4.out.2.2.trans bA⟩; have x39:=HM5.out.1.c39 HS.out.1.ok; rw [HS.out.2.2.1] at x39))
  have HF:Hid (lays [1,3,4,6] m D hb = ([8]:List UInt8) ++ be4 m.i.toNat ++ be4 m.b.toNat ++ be4 m.l.toNat ++ D):=by unfold Hid; simp [lays,lay,hk,ub,HD0.out,HH0.out]
  go_loopw [5,6] (fun u t wr=>t = .int .i64 0∧u = .slice a5 n5 d5∧wr = w6) (fun _ _ _=>0)
  case atStart=>exact ⟨rfl,rfl,rfl⟩
  case round =>
    obtain ⟨rfl,rfl,rfl⟩:=hrel
    go_wp2
    go_ret2
    exact ⟨_,rfl,by rw [HF.out]; exact HM5.out.2.1.mono (Nat.le_of_lt HM0.out.2.2.1),HM0.out.2.1.trans (HM5.out.2.2.mono (Nat.le_of_lt HM0.out.2.2.1))⟩
end Go.Proofs.YtfjjpbebnoghmaaGreatDoor
