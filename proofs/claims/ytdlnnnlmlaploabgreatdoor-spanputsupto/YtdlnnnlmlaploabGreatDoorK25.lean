import Derived.Test.YtdlnnnlmlaploabGreatDoorK06
import Derived.Test.YtdlnnnlmlaploabGreatDoorK19
import Derived.Test.YtdlnnnlmlaploabGreatDoorK01
import Derived.Deep.RegionHeld3
import Derived.Test.YtdlnnnlmlaploabGreatDoorK21
import Derived.Lib.AppendZeros
import Derived.Test.YtdlnnnlmlaploabGreatDoorK22
namespace Go.Proofs.YtdlnnnlmlaploabGreatDoor
open Go.RowKit Go.Deep
theorem index_s (s:ByteArray) (p:Nat) (h:p < s.size) (i:Int) (hi:i = (p:Int)) (w:World):(Instr.index 9 (.string s) (.int .i64 i)).run Tryz.prog w = .ok (.int .u8 (s[p].toNat:Int)) w:=by
  subst hi
  have h2:(p:Int) < (s.size:Int):=by omega
  simp [go_sem,Tryz.underlying9,h2]
theorem OW.keep {B:Nat} {w w':World} {v:Value} {l:List UInt8} (h:OW B w v l) (hb:Below w.heap.size w w'):OW B w' v l:=by
  refine ⟨h.1,?_⟩
  rcases h.2 with h | ⟨g,cap,cur,h1,h2,h3,h4⟩
  · exact .inl h
  · exact .inr ⟨g,cap,cur,h1,h2,by rw [hb.block g (Array.getElem?_eq_some_iff.1 h3).1]; exact h3,h4⟩
set_option maxRecDepth 10000 in
set_option maxHeartbeats 1000000 in
theorem laid30 (B:Nat) (s:ByteArray) (sv:Value) (l:List UInt8) (w:World) (hown:OW B w sv l) (hB:B ≤ w.heap.size) (hlim:l.length + s.size ≤ 100000000000000) :
    Calls Tryz.prog 58 #[sv,.string s] w fun e w'=>∃ v',e = .returned v'∧OW B w' v' (l ++ s.data.toList)∧BW B w w':=by
  go_enter Tryz.func58,Tryz.ntmps58
  go_wp2
  go_loopw [0,5] (fun o i wr=>∃ (j:Nat),j ≤ s.size∧i = .int .i64 j∧Hid (OW B wr o (l ++ s.data.toList.take j)∧BW B w wr)) (fun _ i _=>s.size - (intOf i).toNat)
  case atStart=>exact ⟨0,Nat.zero_le _,rfl,by simpa using hown,BW.refl _ _⟩
  case round =>
    obtain ⟨j,hj,rfl,HO⟩:=hrel
    by_cases hlt:j < s.size
    · have j0:(0:Int) ≤ (j:Int):=by omega
      have j1:(j:Int) < (s.size:Int):=by omega
      have hix:=index_s s j hlt j rfl
      obtain ⟨ho,hbw⟩:=HO.out
      have hB2:=Nat.le_trans hB hbw.1.size
      have hlen:(s.data.toList.take j).length = j:=by rw [List.length_take,Array.length_toList]; exact Nat.min_eq_left hj
      have HBW:=Lib.hid hbw
      have HT:Hid (s.data.toList.take (j + 1) = s.data.toList.take j ++ [s[j]]):=by
        rw [List.take_add_one,Array.getElem?_toList,Array.getElem?_eq_getElem (show j < s.data.size from hlt)]; rfl
      clear hbw HO
      go_wp2_with (at_builtin; refine append_byte rfl _ _ rfl rfl (ho.alloc _) _ s[j] rfl (by go_simp) (by simp; omega) (by rw [List.length_append,hlen]; omega) ?_)
      intro v2 w2 ho2 hb2
      have HN:Hid (OW B w2 v2 (l ++ s.data.toList.take (j + 1))∧BW B w w2):=⟨by rw [HT.out]; simpa using ho2,(HBW.out.alloc hB2 _).trans hb2⟩
      clear ho2 hb2 HBW ho HT hlen hix
      go_wp2
      go_roundw
      case rel=>exact ⟨j + 1,by omega,by go_num,HN⟩
      case measure=>simp [intOf]; omega
    · obtain rfl:j = s.size:=by omega
      go_wp2
      go_ret
      obtain ⟨ho,hbw⟩:=HO.out
      exact ⟨_,rfl,by rwa [List.take_of_length_le (by rw [Array.length_toList]; exact Nat.le_refl _)] at ho,hbw⟩
set_option maxRecDepth 10000 in
set_option maxHeartbeats 1000000 in
theorem told31 (B:Nat) (s:ByteArray) (sv:Value) (l:List UInt8) (w:World) (hown:OW B w sv l) (hB:B ≤ w.heap.size) (hT:TB B w) (hlim:l.length + s.size ≤ 90000000000000) :
    Calls Tryz.prog 60 #[sv,.string s] w fun e w'=>∃ v',e = .returned v'∧OW B w' v' (l ++ wtx s)∧BW B w w':=by
  have hlen:=Lib.itoa_length_le s.size (by omega) (by omega)
  have hz:(({ data:=(Lib.itoa (s.size:Int)).toArray }:ByteArray)).size = (Lib.itoa (s.size:Int)).length:=List.size_toArray
  have HZ:=Lib.hid hz
  clear hz
  go_enter Tryz.func60,Tryz.ntmps60
  go_wp2_with fail
  refine (itoa25 s.size (by omega) (by omega) w (tb_up hT hB)).mono ?_
  rintro e w1 ⟨rfl,hb1⟩
  have hbw1:BW B w w1:=(BW.refl B w).below hB hb1
  have ho1:OW B w1 sv l:=hown.keep hb1
  have hB1:=Nat.le_trans hB hb1.size
  clear hb1
  go_wp2_with fail
  refine (laid30 B _ sv l w1 ho1 hB1 (by rw [HZ.out]; omega)).mono ?_
  rintro e w2 ⟨v2,rfl,ho2,hb2⟩
  have hbw2:=Lib.hid (hbw1.trans hb2)
  have hB2:=Nat.le_trans hB hbw2.out.1.size
  clear hb2 ho1
  go_wp2_with (at_builtin; refine append_byte rfl _ _ rfl rfl (ho2.alloc _) _ 58 rfl (by go_simp) (by simp; omega) (by simp; omega) ?_)
  intro v3 w3 ho3 hb3
  have hbw3:=Lib.hid ((hbw2.out.alloc hB2 _).trans hb3)
  have hB3:=Nat.le_trans hB hbw3.out.1.size
  clear hb3 ho2
  go_wp2_with fail
  refine (laid30 B s v3 _ w3 ho3 hB3 (by simp; omega)).mono ?_
  rintro e w4 ⟨v4,rfl,ho4,hb4⟩
  go_wp2
  go_ret
  exact ⟨v4,rfl,by simpa [wtx] using ho4,hbw3.out.trans hb4⟩
def RC (t:T):Prop:=∀ (B:Nat) (x y sv:Value) (l:List UInt8) (w:World),RV (fun b=>b < B) w t x y → t.ok → t.rng → OW B w sv l → B ≤ w.heap.size → TB B w → l.length + (txt t).length ≤ 80000000000000 →
  Calls Tryz.prog 42 #[sv,vv t x y] w fun e w'=>∃ v',e = .returned v'∧OW B w' v' (l ++ txt t)∧BW B w w'
set_option maxRecDepth 10000 in
set_option maxHeartbeats 4000000 in
theorem text19 (t:T):RC t:=by
  induction t with
  | no=>intro B x y sv l w h; exact h.elim
  | mk k n s ln l dn ky dv il id =>
    intro B x y sv ls w hr hok hrng hown hB hT hlim
    obtain ⟨⟨xa,xn,xc,rfl⟩,⟨ya,yn,yc,rfl⟩⟩:=hr.slices
    obtain ⟨r1,r2,r3,r4,r5,r6⟩:=hrng
    obtain ⟨ok1,ok2,ok3,ok4,ok5⟩:=hok
    have hB1:B ≤ w.heap.size + 1:=by omega
    by_cases hk1:k = 1
    · subst hk1
      have e:txt (.mk 1 n s ln l dn ky dv) = 105 :: (Lib.itoa n ++ [101]):=rfl
      have hlen:=Lib.itoa_length_le n r1 r2
      rw [e] at hlim ⊢
      have hz:(({ data:=(Lib.itoa n).toArray }:ByteArray)).size = (Lib.itoa n).length:=List.size_toArray
      have HZ:=Lib.hid hz
      have hl1:ls.length ≤ 80000000000000:=by omega
      clear hz hr il id r5 r6 ok4 ok5 e hlim
      show Calls Tryz.prog 42 #[_,.agg #[.int .i64 1,.int .i64 n,.string s,.slice xa xn xc,.slice ya yn yc]] w _
      go_enter Tryz.func42,Tryz.ntmps42
      go_wp2_with (at_builtin; refine append_byte rfl _ _ rfl rfl ((hown.alloc _).alloc _) _ 105 rfl (by go_simp) (by simp; omega) (by omega) ?_)
      intro v1 w1 ho1 hb1
      have hbw0:BW B w ((w.alloc (Obj.cells #[.int .i64 1,.int .i64 n,.string s,.slice xa xn xc,.slice ya yn yc] 55)).alloc (Obj.cells #[Value.int .u8 105] 5)):=((BW.refl B w).alloc hB _).alloc (by simp; omega) _
      have hx0:blk ((w.alloc (Obj.cells #[.int .i64 1,.int .i64 n,.string s,.slice xa xn xc,.slice ya yn yc] 55)).alloc (Obj.cells #[Value.int .u8 105] 5)) w.heap.size 55 #[.int .i64 1,.int .i64 n,.string s,.slice xa xn xc,.slice ya yn yc]:=(Below.heap_alloc _ _ _ (by simp)).trans (heap_new _ _)
      have hx1:blk w1 w.heap.size 55 #[.int .i64 1,.int .i64 n,.string s,.slice xa xn xc,.slice ya yn yc]:=hb1.2 _ _ hx0 (by simp) (fun cc fz h=>by cases h)
      have hbw1:=Lib.hid (hbw0.trans hb1)
      have hBw1:=Nat.le_trans hB hbw1.out.1.size
      have cn:w1.cell? ⟨w.heap.size,1,none⟩ = some (.int .i64 n):=hx1.cell 1
      clear hb1 hbw0 hx0 hx1
      go_wp2_with fail
      clear cn
      refine (itoa25 n r1 r2 w1 (tb_up (hT.on hbw1.out.1) hBw1)).mono ?_
      rintro e w2 ⟨rfl,hb2⟩
      have ho2:OW B w2 v1 _:=ho1.keep hb2
      have hbw2:=Lib.hid (hbw1.out.below hBw1 hb2)
      have hBw2:=Nat.le_trans hB hbw2.out.1.size
      clear hb2 ho1 hbw1
      go_wp2_with fail
      refine (laid30 B _ v1 _ w2 ho2 hBw2 (by rw [HZ.out]; simp; omega)).mono ?_
      rintro e w3 ⟨v3,rfl,ho3,hb3⟩
      have hbw3:=Lib.hid (hbw2.out.trans hb3)
      have hBw3:=Nat.le_trans hB hbw3.out.1.size
      clear hb3 ho2 hbw2
      go_wp2_with (at_builtin; refine append_byte rfl _ _ rfl rfl (ho3.alloc _) _ 101 rfl (by go_simp) (by simp; omega) (by simp; omega) ?_)
      intro v4 w4 ho4 hb4
      go_wp2
      go_ret
      exact ⟨v4,rfl,by simpa using ho4,(hbw3.out.alloc hBw3 _).trans hb4⟩
    by_cases hk2:k = 2
    · subst hk2
      have e:txt (.mk 2 n s ln l dn ky dv) = wtx s:=rfl
      have e2:(wtx s).length = (Lib.itoa (s.size:Int)).length + (s.size + 1):=by
        show (Lib.itoa (s.size:Int) ++ 58 :: s.data.toList).length = _
        rw [List.length_append,List.length_cons,Array.length_toList]; rfl
      rw [e] at hlim ⊢
      have hl1:ls.length + s.size ≤ 80000000000000:=by omega
      clear hr il id r5 r6 ok4 ok5 e hlim e2
      show Calls Tryz.prog 42 #[_,.agg #[.int .i64 2,.int .i64 n,.string s,.slice xa xn xc,.slice ya yn yc]] w _
      go_enter Tryz.func42,Tryz.ntmps42
      go_wp2_with fail
      refine (told31 B s sv ls _ (hown.alloc _) (by simp; omega) (hT.on ((Below.refl _ _).alloc hB _)) (by omega)).mono ?_
      rintro e w1 ⟨v1,rfl,ho1,hb1⟩
      go_wp2
      go_ret
      exact ⟨v1,rfl,ho1,((BW.refl B w).alloc hB _).trans hb1⟩
    have hk1':(k == 1) = false:=by simpa using hk1
    have hk2':(k == 2) = false:=by simpa using hk2
    by_cases hk3:k = 3
    · subst hk3
      have e:txt (.mk 3 n s ln l dn ky dv) = 108 :: (catN (fun i=>txt (l i)) ln ++ [101]):=rfl
      rw [e] at hlim ⊢
      have hl1:ls.length + (catN (fun i=>txt (l i)) ln).length + 2 ≤ 80000000000000:=by simp only [List.length_cons,List.length_append,List.length_nil] at hlim; omega
      obtain ⟨hL,_⟩:=hr
      obtain ⟨a,ca,ha,hL⟩:=hL
      obtain ⟨rfl,rfl,rfl⟩:a = xa∧ln = xn∧ca = xc:=by cases ha; exact ⟨rfl,rfl,rfl⟩
      clear ha
      have HC:Hid ((∀ i,RC (l i))∧(∀ i,i < ln → (l i).ok)∧(∀ i,i < ln → (l i).rng)∧(ln = 0 ∨ ∃ b o,a = some ⟨b,o,none⟩∧b < B∧b < w.heap.size∧∀ i,i < ln → ∃ x' y',RV (fun b=>b < B) w (l i) x' y'∧five w b (o + i * 5) (l i) x' y')):=⟨il,ok4,r5,hL⟩
      clear il id r5 r6 ok4 ok5 e hlim hL hk1 hk2 hk1' hk2'
      show Calls Tryz.prog 42 #[_,.agg #[.int .i64 3,.int .i64 n,.string s,.slice a ln ca,.slice ya yn yc]] w _
      go_enter Tryz.func42,Tryz.ntmps42
      go_wp2_with (at_builtin; refine append_byte rfl _ _ rfl rfl ((hown.alloc _).alloc _) _ 108 rfl (by go_simp) (by simp; omega) (by omega) ?_)
      intro v1 w1 ho1 hb1
      have hbw0:BW B w ((w.alloc (Obj.cells #[.int .i64 3,.int .i64 n,.string s,.slice a ln ca,.slice ya yn yc] 55)).alloc (Obj.cells #[Value.int .u8 108] 5)):=((BW.refl B w).alloc hB _).alloc (by simp; omega) _
      have hx0:blk ((w.alloc (Obj.cells #[.int .i64 3,.int .i64 n,.string s,.slice a ln ca,.slice ya yn yc] 55)).alloc (Obj.cells #[Value.int .u8 108] 5)) w.heap.size 55 #[.int .i64 3,.int .i64 n,.string s,.slice a ln ca,.slice ya yn yc]:=(Below.heap_alloc _ _ _ (by simp)).trans (heap_new _ _)
      have hx1:blk w1 w.heap.size 55 #[.int .i64 3,.int .i64 n,.string s,.slice a ln ca,.slice ya yn yc]:=hb1.2 _ _ hx0 (by simp) (fun cc fz h=>by cases h)
      have hbw1:=hbw0.trans hb1
      generalize hvb:w.heap.size = vb at *
      have HVB:=Lib.hid hvb
      clear hb1 hbw0 hx0 hvb
      go_wp2
      go_loopw [0,5] (fun o i wr=>∃ (j:Nat),j ≤ ln∧i = .int .i64 j∧Hid (OW B wr o (ls ++ 108 :: catN (fun i=>txt (l i)) j)∧BW B w wr∧blk wr vb 55 #[.int .i64 3,.int .i64 n,.string s,.slice a ln ca,.slice ya yn yc])) (fun _ i _=>ln - (intOf i).toNat)
      case atStart=>exact ⟨0,Nat.zero_le _,rfl,ho1,hbw1,hx1⟩
      case round =>
        clear ho1 hbw1 hx1
        obtain ⟨j,hj,rfl,HO⟩:=hrel
        have cl:_ = some (Value.slice a ln ca):=HO.out.2.2.cell 3
        by_cases hlt:j < ln
        · obtain ⟨il,ok4,r5,hL⟩:=HC.out
          rcases hL with h | ⟨b,o,rfl,hb,hbl,hL⟩
          · omega
          obtain ⟨x1,y1,hv,g1,g2,g3,g4,g5⟩:=hL j hlt
          have hle:=catN_le (f:=fun i=>txt (l i)) hlt
          obtain ⟨ho,hbw,hx⟩:=HO.out
          have hk:=hbw.1.block b hb
          replace g1:=(World.cell?_of_block (w:=w) hk).trans g1
          replace g2:=(World.cell?_of_block (w:=w) hk).trans g2
          replace g3:=(World.cell?_of_block (w:=w) hk).trans g3
          replace g4:=(World.cell?_of_block (w:=w) hk).trans g4
          replace g5:=(World.cell?_of_block (w:=w) hk).trans g5
          have hv':=RV.move (fun _ h _=>h) hbw.1.size (fun b hb' _=>hbw.1.block b hb') _ _ _ hv
          obtain ⟨⟨xa1,xn1,xc1,rfl⟩,⟨ya1,yn1,yc1,rfl⟩⟩:=hv.slices
          have HX:=Lib.hid (il j B _ _ _ _ _ hv' (ok4 j hlt) (r5 j hlt) ho (by have:=hbw.1.size; have:=HVB.out; omega) (hT.on hbw.1) (by simp only [List.length_append,List.length_cons]; omega))
          have HRX:=Lib.hid (show ∀ w2 v2,OW B w2 v2 ((ls ++ 108 :: catN (fun i=>txt (l i)) j) ++ txt (l j)) → BW B _ w2 → Hid (OW B w2 v2 (ls ++ 108 :: catN (fun i=>txt (l i)) (j + 1))∧BW B w w2∧blk w2 vb 55 #[.int .i64 3,.int .i64 n,.string s,.slice (some ⟨b,o,none⟩) ln ca,.slice ya yn yc]) from fun w2 v2 q1 q2=>⟨by simpa [catN] using q1,hbw.trans q2,q2.2 _ _ hx (by simp) (fun cc fz h=>by cases h)⟩)
          have j0:(0:Int) ≤ (j:Int):=by omega
          have j1:(j:Int) < (ln:Int):=by omega
          clear il ok4 r5 hL hv hv' hle ho hbw hx hk HO
          go_wp2_with fail
          refine HX.out.mono ?_
          rintro e w2 ⟨v2,rfl,q1,q2⟩
          have HN:=HRX.out w2 v2 q1 q2
          clear q1 q2 HX HRX g1 g2 g3 g4 g5 cl
          go_wp2
          go_roundw
          case rel=>exact ⟨j + 1,by omega,by go_num,HN⟩
          case measure=>simp [intOf]; omega
        · obtain rfl:j = ln:=by omega
          obtain ⟨ho,hbw,hx⟩:=HO.out
          have HBW:=Lib.hid hbw
          have hBw:=Nat.le_trans hB (HVB.out ▸ hbw.1.size)
          clear hbw hx HO
          go_wp2_with (at_builtin; refine append_byte rfl _ _ rfl rfl (ho.alloc _) _ 101 rfl (by go_simp) (by simp; omega) (by simp; omega) ?_)
          intro v4 w4 ho4 hb4
          go_wp2
          go_ret
          exact ⟨v4,rfl,by simpa using ho4,(HBW.out.alloc hBw _).trans hb4⟩
    have hk3':(k == 3) = false:=by simpa using hk3
    have e:txt (.mk k n s ln l dn ky dv) = 100 :: (catN (fun i=>wtx (ky i) ++ txt (dv i)) dn ++ [101]):=(if_neg hk1).trans ((if_neg hk2).trans (if_neg hk3))
    rw [e] at hlim ⊢
    have hl1:ls.length + (catN (fun i=>wtx (ky i) ++ txt (dv i)) dn).length + 2 ≤ 80000000000000:=by simp only [List.length_cons,List.length_append,List.length_nil] at hlim; omega
    obtain ⟨_,hL⟩:=hr
    obtain ⟨a,ca,ha,hL⟩:=hL
    obtain ⟨rfl,rfl,rfl⟩:a = ya∧dn = yn∧ca = yc:=by cases ha; exact ⟨rfl,rfl,rfl⟩
    clear ha
    have HC:Hid ((∀ i,RC (dv i))∧(∀ i,i < dn → (ky i).size ≤ 140737488351232∧(dv i).ok)∧(∀ i,i < dn → (dv i).rng)∧(dn = 0 ∨ ∃ b o,a = some ⟨b,o,none⟩∧b < B∧b < w.heap.size∧∀ i,i < dn → ∃ x' y',RV (fun b=>b < B) w (dv i) x' y'∧w.cell? ⟨b,o + i * 6,none⟩ = some (.string (ky i))∧five w b (o + i * 6 + 1) (dv i) x' y')):=⟨id,ok5,r6,hL⟩
    clear il id r5 r6 ok4 ok5 e hlim hL hk1 hk2 hk3
    show Calls Tryz.prog 42 #[_,.agg #[.int .i64 k,.int .i64 n,.string s,.slice xa xn xc,.slice a dn ca]] w _
    go_enter Tryz.func42,Tryz.ntmps42
    go_wp2_with (at_builtin; refine append_byte rfl _ _ rfl rfl ((hown.alloc _).alloc _) _ 100 rfl (by go_simp) (by simp; omega) (by omega) ?_)
    intro v1 w1 ho1 hb1
    have hbw0:BW B w ((w.alloc (Obj.cells #[.int .i64 k,.int .i64 n,.string s,.slice xa xn xc,.slice a dn ca] 55)).alloc (Obj.cells #[Value.int .u8 100] 5)):=((BW.refl B w).alloc hB _).alloc (by simp; omega) _
    have hx0:blk ((w.alloc (Obj.cells #[.int .i64 k,.int .i64 n,.string s,.slice xa xn xc,.slice a dn ca] 55)).alloc (Obj.cells #[Value.int .u8 100] 5)) w.heap.size 55 #[.int .i64 k,.int .i64 n,.string s,.slice xa xn xc,.slice a dn ca]:=(Below.heap_alloc _ _ _ (by simp)).trans (heap_new _ _)
    have hx1:blk w1 w.heap.size 55 #[.int .i64 k,.int .i64 n,.string s,.slice xa xn xc,.slice a dn ca]:=hb1.2 _ _ hx0 (by simp) (fun cc fz h=>by cases h)
    have hbw1:=hbw0.trans hb1
    generalize hvb:w.heap.size = vb at *
    have HVB:=Lib.hid hvb
    clear hb1 hbw0 hx0 hvb
    go_wp2
    go_loopw [0,6] (fun o i wr=>∃ (j:Nat),j ≤ dn∧i = .int .i64 j∧Hid (OW B wr o (ls ++ 100 :: catN (fun i=>wtx (ky i) ++ txt (dv i)) j)∧BW B w wr∧blk wr vb 55 #[.int .i64 k,.int .i64 n,.string s,.slice xa xn xc,.slice a dn ca])) (fun _ i _=>dn - (intOf i).toNat)
    case atStart=>exact ⟨0,Nat.zero_le _,rfl,ho1,hbw1,hx1⟩
    case round =>
      clear ho1 hbw1 hx1
      obtain ⟨j,hj,rfl,HO⟩:=hrel
      have cl:_ = some (Value.slice a dn ca):=HO.out.2.2.cell 4
      by_cases hlt:j < dn
      · obtain ⟨il,ok4,r5,hL⟩:=HC.out
        rcases hL with h | ⟨b,o,rfl,hb,hbl,hL⟩
        · omega
        obtain ⟨x1,y1,hv,g0,g1,g2,g3,g4,g5⟩:=hL j hlt
        have hle:=catN_le (f:=fun i=>wtx (ky i) ++ txt (dv i)) hlt
        have hl2:(wtx (ky j) ++ txt (dv j)).length = (wtx (ky j)).length + (txt (dv j)).length:=List.length_append
        have hl3:(wtx (ky j)).length = (Lib.itoa ((ky j).size:Int)).length + ((ky j).size + 1):=by
          show (Lib.itoa ((ky j).size:Int) ++ 58 :: (ky j).data.toList).length = _
          rw [List.length_append,List.length_cons,Array.length_toList]; rfl
        obtain ⟨ho,hbw,hx⟩:=HO.out
        have hk:=hbw.1.block b hb
        have hBr:=Nat.le_trans hB (HVB.out ▸ hbw.1.size)
        replace g0:=(World.cell?_of_block (w:=w) hk).trans g0
        obtain ⟨⟨xa1,xn1,xc1,rfl⟩,⟨ya1,yn1,yc1,rfl⟩⟩:=hv.slices
        have HC1:=Lib.hid (told31 B (ky j) _ _ _ ho hBr (hT.on hbw.1) (by simp only [List.length_append,List.length_cons]; omega))
        have HC2:=Lib.hid (show ∀ w2 v2,OW B w2 v2 ((ls ++ 100 :: catN (fun i=>wtx (ky i) ++ txt (dv i)) j) ++ wtx (ky j)) → BW B _ w2 →
            w2.cell? ⟨vb,4,none⟩ = some (.slice (some ⟨b,o,none⟩) dn ca)∧five w2 b (o + j * 6 + 1) (dv j) (.slice xa1 xn1 xc1) (.slice ya1 yn1 yc1)∧Hid (Calls Tryz.prog 42 #[v2,vv (dv j) (.slice xa1 xn1 xc1) (.slice ya1 yn1 yc1)] w2 fun e w3=>∃ v3,e = .returned v3 ∧
              Hid (OW B w3 v3 (ls ++ 100 :: catN (fun i=>wtx (ky i) ++ txt (dv i)) (j + 1))∧BW B w w3∧blk w3 vb 55 #[.int .i64 k,.int .i64 n,.string s,.slice xa xn xc,.slice (some ⟨b,o,none⟩) dn ca])) from fun w2 v2 q1 q2=>by
          have hbw2:=hbw.trans q2
          have hx2:blk w2 vb 55 #[.int .i64 k,.int .i64 n,.string s,.slice xa xn xc,.slice (some ⟨b,o,none⟩) dn ca]:=q2.2 _ _ hx (by simp) (fun cc fz h=>by cases h)
          have hk2:=hbw2.1.block b hb
          refine ⟨hx2.cell 4,⟨(World.cell?_of_block (w:=w) hk2).trans g1,(World.cell?_of_block (w:=w) hk2).trans g2,(World.cell?_of_block (w:=w) hk2).trans g3,(World.cell?_of_block (w:=w) hk2).trans g4,(World.cell?_of_block (w:=w) hk2).trans g5⟩,?_⟩
          refine Lib.hid ((il j B _ _ v2 _ w2 (RV.move (fun _ h _=>h) hbw2.1.size (fun b hb' _=>hbw2.1.block b hb') _ _ _ hv) (ok4 j hlt).2 (r5 j hlt) q1 (Nat.le_trans hB (HVB.out ▸ hbw2.1.size)) (hT.on hbw2.1) (by simp only [List.length_append,List.length_cons]; omega)).mono ?_)
          rintro e w3 ⟨v3,rfl,q3,q4⟩
          exact ⟨v3,rfl,by simpa [catN] using q3,hbw2.trans q4,q4.2 _ _ hx2 (by simp) (fun cc fz h=>by cases h)⟩)
        have j0:(0:Int) ≤ (j:Int):=by omega
        have j1:(j:Int) < (dn:Int):=by omega
        clear il ok4 r5 hL hv hle ho hbw hx hk HO hl2 hl3 g1 g2 g3 g4 g5
        go_wp2_with fail
        refine HC1.out.mono ?_
        rintro e w2 ⟨v2,rfl,q1,q2⟩
        obtain ⟨c2,⟨g1,g2,g3,g4,g5⟩,HX⟩:=HC2.out w2 v2 q1 q2
        clear q1 q2 HC1 HC2 cl g0
        go_wp2_with fail
        refine HX.out.mono ?_
        rintro e w3 ⟨v3,rfl,HN⟩
        clear HX g1 g2 g3 g4 g5 c2
        go_wp2
        go_roundw
        case rel=>exact ⟨j + 1,by omega,by go_num,HN⟩
        case measure=>simp [intOf]; omega
      · obtain rfl:j = dn:=by omega
        obtain ⟨ho,hbw,hx⟩:=HO.out
        have HBW:=Lib.hid hbw
        have hBw:=Nat.le_trans hB (HVB.out ▸ hbw.1.size)
        clear hbw hx HO
        go_wp2_with (at_builtin; refine append_byte rfl _ _ rfl rfl (ho.alloc _) _ 101 rfl (by go_simp) (by simp; omega) (by simp; omega) ?_)
        intro v4 w4 ho4 hb4
        go_wp2
        go_ret
        exact ⟨v4,rfl,by simpa using ho4,(HBW.out.alloc hBw _).trans hb4⟩
set_option maxHeartbeats 2000000 in
theorem foreign33 (k n:Int) (s:ByteArray) (ln dn:Nat) (a a':Option Addr) (c c':Nat) (w:World) :
    Calls Tryz.prog 75 #[.agg #[.int .i64 k,.int .i64 n,.string s,.slice a ln c,.slice a' dn c']] w (BP (fun r=>r = false ↔ Own k n s ln dn) w):=by
  go_enter Tryz.func75,Tryz.ntmps75
  go_wp2
  all_goals
    go_ret
    refine ⟨_,rfl,?_,(Below.refl _ _).alloc (Nat.le_refl _) _⟩
    unfold Own
    first
      | (simp_all; done)
      | (simp_all; omega)
set_option maxHeartbeats 4000000 in
theorem walk23 (t:T):WC 57 t:=by
  induction t with
  | no=>intro x y w ar _ _ _ h; exact h.elim
  | mk k n s ln l dn ky dv il id =>
    intro x y w ar ar0 ar1 hok hr
    obtain ⟨ok1,ok2,ok3,ok4,ok5⟩:=hok
    obtain ⟨⟨a,ca,rfl,hL⟩,⟨a',ca',rfl,hD⟩⟩:=hr
    show Calls Tryz.prog 57 #[.agg #[.int .i64 k,.int .i64 n,.string s,.slice a ln ca,.slice a' dn ca'],.int .i64 ar] w _
    have HI:Hid ((∀ i,WC 57 (l i))∧(∀ i,WC 57 (dv i))∧(∀ i,i < ln → (l i).ok)∧(∀ i,i < dn → (dv i).ok) ∧
        (ln = 0 ∨ ∃ b o,a = some ⟨b,o,none⟩∧True∧b < w.heap.size∧∀ i,i < ln → ∃ x' y',RV (fun _=>True) w (l i) x' y'∧five w b (o + i * 5) (l i) x' y') ∧
        (dn = 0 ∨ ∃ b o,a' = some ⟨b,o,none⟩∧True∧b < w.heap.size∧∀ i,i < dn → ∃ x' y',RV (fun _=>True) w (dv i) x' y'∧w.cell? ⟨b,o + i * 6,none⟩ = some (.string (ky i))∧five w b (o + i * 6 + 1) (dv i) x' y')):=
      ⟨il,id,ok4,fun i hi=>(ok5 i hi).2,hL,hD⟩
    clear il id ok4 ok5 hL hD
    have HW:Hid (∀ r,wk (.mk k n s ln l dn ky dv) ar = r ↔ (if ownB k n s ln dn = false then 27 else if k < 3 then 0 else if 32 ≤ ar then 24
      else if fstE (fun i=>wk (l i) (ar + 1)) ln ≠ 0 then fstE (fun i=>wk (l i) (ar + 1)) ln
      else fstE (fun i=>if keyBad ky i = true then 25 else wk (dv i) (ar + 1)) dn) = r):=fun r=>by rw [wk]
    generalize wk (.mk k n s ln l dn ky dv) ar = R at *
    by_cases hk14:k < 1 ∨ 4 < k
    · have hown:ownB k n s ln dn = false:=by
        cases h:ownB k n s ln dn with
        | false=>rfl
        | true=>have:=(ownB_iff _ _ _ _ _).1 h; omega
      have hR:R = 27:=(HW.out 27).2 (if_pos hown)
      subst hR
      rcases hk14 with h | h
      all_goals
        go_enter Tryz.func57,Tryz.ntmps57
        go_wp2
        go_ret
        exact ⟨rfl,(Below.refl _ _).alloc (Nat.le_refl _) _⟩
    have k1:1 ≤ k:=by omega
    have k4:k ≤ 4:=by omega
    clear hk14
    go_enter Tryz.func57,Tryz.ntmps57
    go_wp2_with fail
    refine (foreign33 k n s ln dn a a' ca ca' _).mono ?_
    rintro e w0 ⟨r,rfl,hp,hb0⟩
    have hw0:Hid (Below w.heap.size w w0):=((Below.refl _ _).alloc (Nat.le_refl _) _).trans (hb0.mono (by simp))
    obtain ⟨c0,c3,c4⟩:w0.cell? ⟨w.heap.size,0,none⟩ = some (.int .i64 k)∧w0.cell? ⟨w.heap.size,3,none⟩ = some (.slice a ln ca)∧w0.cell? ⟨w.heap.size,4,none⟩ = some (.slice a' dn ca'):=
      ⟨Below.cellS hb0 (Nat.le_refl _) (by go_simp),Below.cellS hb0 (Nat.le_refl _) (by go_simp),Below.cellS hb0 (Nat.le_refl _) (by go_simp)⟩
    clear hb0
    cases r with
    | true =>
      have hown:ownB k n s ln dn = false:=by
        cases h:ownB k n s ln dn with
        | false=>rfl
        | true=>exact absurd (hp.2 ((ownB_iff _ _ _ _ _).1 h).2.2) (by simp)
      have hR:R = 27:=(HW.out 27).2 (if_pos hown)
      subst hR
      go_wp2
      go_ret
      exact ⟨rfl,hw0.out⟩
    | false =>
      have hown:ownB k n s ln dn = true:=(ownB_iff _ _ _ _ _).2 ⟨k1,k4,hp.1 rfl⟩
      have HO:Hid (ownB k n s ln dn ≠ false):=fun h=>by rw [hown] at h; cases h
      clear hown hp
      by_cases hk:k < 3
      · have hR:R = 0:=(HW.out 0).2 ((if_neg HO.out).trans (if_pos hk))
        subst hR
        go_wp2
        go_ret
        exact ⟨rfl,hw0.out⟩
      by_cases har:32 ≤ ar
      · have hR:R = 24:=(HW.out 24).2 ((if_neg HO.out).trans ((if_neg hk).trans (if_pos har)))
        subst hR
        have hk':3 ≤ k:=by omega
        go_wp2
        go_ret
        exact ⟨rfl,hw0.out⟩
      have HX:Hid (∀ r,R = r ↔ (if fstE (fun i=>wk (l i) (ar + 1)) ln ≠ 0 then fstE (fun i=>wk (l i) (ar + 1)) ln
          else fstE (fun i=>if keyBad ky i = true then 25 else wk (dv i) (ar + 1)) dn) = r):=fun r=>by
        rw [HW.out r,if_neg HO.out,if_neg hk,if_neg har]
      have hk':3 ≤ k:=by omega
      have har':ar < 32:=by omega
      clear HW HO hk har
      go_wp2
      go_loopw [5] (fun i wr=>∃ j:Nat,j ≤ ln∧i = .int .i64 j∧Hid (Below w0.heap.size w0 wr)∧Hid (fstE (fun i=>wk (l i) (ar + 1)) j = 0)) (fun i _=>ln - (intOf i).toNat)
      case atStart=>exact ⟨0,Nat.zero_le _,rfl,Below.refl _ _,rfl⟩
      case round =>
        obtain ⟨j,hj,rfl,hb,hz⟩:=hrel
        replace c3:=Below.cellS hb.out (Nat.le_refl _) c3
        replace c4:=Below.cellS hb.out (Nat.le_refl _) c4
        have hw:Hid (Below w.heap.size w wr):=hw0.out.trans (hb.out.mono hw0.out.size)
        by_cases hlt:j < ln
        · obtain ⟨il,_,ok4,_,hL,_⟩:=HI.out
          rcases hL with h | ⟨b,o,rfl,_,hbl,hL⟩
          · omega
          obtain ⟨x1,y1,hv,g1,g2,g3,g4,g5⟩:=hL j hlt
          replace g1:=Below.cellS hw.out (Nat.le_refl _) g1
          replace g2:=Below.cellS hw.out (Nat.le_refl _) g2
          replace g3:=Below.cellS hw.out (Nat.le_refl _) g3
          replace g4:=Below.cellS hw.out (Nat.le_refl _) g4
          replace g5:=Below.cellS hw.out (Nat.le_refl _) g5
          have HV:Hid (WC 57 (l j)∧(l j).ok∧RV (fun _=>True) wr (l j) x1 y1):=⟨il j,ok4 j hlt,Below.rv hw.out (Nat.le_refl _) hv⟩
          clear il ok4 hL hv hbl
          go_wp2_with fail
          refine (HV.out.1 _ _ _ (ar + 1) (by omega) (by omega) HV.out.2.1 HV.out.2.2).mono ?_
          rintro e w2 ⟨rfl,hb2⟩
          have hb3:Hid (Below w0.heap.size w0 w2):=hb.out.trans (hb2.mono hb.out.size)
          clear HV hb2 g1 g2 g3 g4 g5
          by_cases he:wk (l j) (ar + 1) = 0
          · rw [he]
            go_wp2
            go_roundw
            case rel=>exact ⟨j + 1,by omega,by go_num,hb3,fstE_go hz.out he⟩
            case measure=>simp [intOf]; omega
          · have hst:=fstE_stop hlt hz.out he
            have hR:R = wk (l j) (ar + 1):=(HX.out _).2 (by rw [if_pos (by rw [hst]; exact he),hst])
            clear hst HX
            generalize wk (l j) (ar + 1) = q at *
            subst hR
            go_wp2
            go_ret
            exact ⟨rfl,hw0.out.trans (hb3.out.mono hw0.out.size)⟩
        · obtain rfl:j = ln:=by omega
          have HX2:Hid (R = fstE (fun i=>if keyBad ky i = true then 25 else wk (dv i) (ar + 1)) dn):=(HX.out _).2 (by rw [if_neg (by rw [hz.out]; simp)])
          clear HX
          go_wp2
          clear hz hlt hj ok2 c3
          rename World=>w1
          go_loopw [7] (fun i w9=>∃ j2:Nat,j2 ≤ dn∧i = .int .i64 j2∧Hid (Below w1.heap.size w1 w9)∧Hid (fstE (fun i=>if keyBad ky i = true then 25 else wk (dv i) (ar + 1)) j2 = 0)) (fun i _=>dn - (intOf i).toNat)
          case atStart=>exact ⟨0,Nat.zero_le _,rfl,Below.refl _ _,rfl⟩
          case round =>
            obtain ⟨j2,hj2,rfl,hb9,hz⟩:=hrel
            replace c4:=Below.cellS hb9.out (Nat.le_refl _) c4
            have hw1:=hw
            replace hw:Hid (Below w.heap.size w wr):=hw.out.trans (hb9.out.mono hw.out.size)
            by_cases hlt:j2 < dn
            · obtain ⟨_,id,_,ok5,_,hD⟩:=HI.out
              rcases hD with h | ⟨b,o,rfl,_,hbl,hD⟩
              · omega
              obtain ⟨x1,y1,hv,g0,g1,g2,g3,g4,g5⟩:=hD j2 hlt
              have hpk:∀ p,p < dn → wr.cell? ⟨b,o + p * 6,none⟩ = some (.string (ky p)):=fun p hp=>by
                obtain ⟨_,_,_,h,_⟩:=hD p hp
                exact Below.cellS hw.out (Nat.le_refl _) h
              replace g0:=Below.cellS hw.out (Nat.le_refl _) g0
              replace g1:=Below.cellS hw.out (Nat.le_refl _) g1
              replace g2:=Below.cellS hw.out (Nat.le_refl _) g2
              replace g3:=Below.cellS hw.out (Nat.le_refl _) g3
              replace g4:=Below.cellS hw.out (Nat.le_refl _) g4
              replace g5:=Below.cellS hw.out (Nat.le_refl _) g5
              have HV:Hid (∀ nq,Calls Tryz.prog 57 #[vv (dv j2) x1 y1,.int .i64 (ar + 1)] (wr.drewN nq) fun e w'=>e = .returned (.int .i64 (wk (dv j2) (ar + 1)))∧Below w1.heap.size w1 w'):=by
                intro nq
                refine ((id j2) x1 y1 (wr.drewN nq) (ar + 1) (by omega) (by omega) (ok5 j2 hlt) (Below.rv (below_drewN hw.out nq) (Nat.le_refl _) hv)).mono ?_
                rintro e w' ⟨rfl,hb'⟩
                exact ⟨rfl,(below_drewN hb9.out nq).trans (hb'.mono hb9.out.size)⟩
              clear id ok5 hD hv hbl
              have HG:Hid (∀ q:Int,q = wk (dv j2) (ar + 1) → keyBad ky j2 = false → (q = 0 → fstE (fun i=>if keyBad ky i = true then 25 else wk (dv i) (ar + 1)) (j2 + 1) = 0)∧(q ≠ 0 → R = q)):=by
                intro q hq hkb
                have hf:(fun i=>if keyBad ky i = true then (25:Int) else wk (dv i) (ar + 1)) j2 = q:=by simp only [hkb]; simp [hq]
                exact ⟨fun h=>fstE_go hz.out (hf.trans h),fun h=>HX2.out.trans ((fstE_stop hlt hz.out (fun hc=>h (hf.symm.trans hc))).trans hf)⟩
              have HF:Hid (keyBad ky j2 = true → R = 25):=by
                intro hkb
                have hf:(fun i=>if keyBad ky i = true then (25:Int) else wk (dv i) (ar + 1)) j2 = 25:=by simp only [hkb]; simp
                exact HX2.out.trans ((fstE_stop hlt hz.out (fun hc=>absurd (hf.symm.trans hc) (by omega))).trans hf)
              clear hz HX2
              cases j2 with
              | zero =>
                clear hpk
                rw [show o + 0 * 6 = o by omega] at g0
                rw [show o + 0 * 6 + 1 = o + 1 by omega] at g1
                rw [show o + 0 * 6 + 1 + 1 = o + 2 by omega] at g2
                rw [show o + 0 * 6 + 1 + 2 = o + 3 by omega] at g3
                rw [show o + 0 * 6 + 1 + 3 = o + 4 by omega] at g4
                rw [show o + 0 * 6 + 1 + 4 = o + 5 by omega] at g5
                have HG2:=HG.out _ rfl rfl
                have HG3:Hid _:=HG2
                clear HF HG HG2
                go_wp2
                go_quiet (fail)
                go_wp2_with fail
                refine (HV.out nq).mono ?_
                rintro e w2 ⟨rfl,hb2⟩
                have hb3:Hid (Below w1.heap.size w1 w2):=hb2
                clear HV hb2 g0 g1 g2 g3 g4 g5 c4
                generalize wk (dv 0) (ar + 1) = q at *
                by_cases he:q = 0
                · have HG4:Hid _:=HG3.out.1 he
                  clear HG3
                  subst he
                  go_wp2
                  go_roundw
                  case rel=>exact ⟨1,by omega,by go_num,hb3,HG4.out⟩
                  case measure=>simp [intOf]; omega
                · have hR:=HG3.out.2 he
                  clear HG3
                  subst hR
                  go_wp2
                  go_ret
                  exact ⟨rfl,hw1.out.trans (hb3.out.mono hw1.out.size)⟩
              | succ p =>
                have hk1:=hpk p (by omega)
                clear hpk
                have p0:(0:Int) ≤ (p:Int):=by omega
                have p1:(p:Int) < (dn:Int):=by omega
                have p2:(0:Int) ≤ ((p + 1:Nat):Int):=by omega
                have p3:((p + 1:Nat):Int) < (dn:Int):=by omega
                by_cases hkb:keyBad ky (p + 1) = true
                · have hR:R = 25:=HF.out hkb
                  have hT:Op.bytesLess (ky p).toList (ky (p + 1)).toList = false:=by
                    have:=bytes_tri (ky (p + 1)).toList (ky p).toList
                    rw [show (Op.bytesLess (ky (p + 1)).toList (ky p).toList || (ky (p + 1)).toList == (ky p).toList) = true from hkb] at this
                    simpa using this
                  clear HF HG HV hkb
                  subst hR
                  go_wp2
                  go_quiet (fail)
                  go_wp2
                  go_ret
                  exact ⟨rfl,below_drewN hw.out _⟩
                · have hkb3:keyBad ky (p + 1) = false:=by simpa using hkb
                  have hT:Op.bytesLess (ky p).toList (ky (p + 1)).toList = true:=by
                    have:=bytes_tri (ky (p + 1)).toList (ky p).toList
                    rw [show (Op.bytesLess (ky (p + 1)).toList (ky p).toList || (ky (p + 1)).toList == (ky p).toList) = false from hkb3] at this
                    simpa using this
                  have HG2:=HG.out _ rfl hkb3
                  have HG3:Hid _:=HG2
                  clear HF HG HG2 hkb hkb3
                  go_wp2
                  go_quiet (fail)
                  go_wp2_with fail
                  refine (HV.out nq).mono ?_
                  rintro e w2 ⟨rfl,hb2⟩
                  have hb3:Hid (Below w1.heap.size w1 w2):=hb2
                  clear HV hb2 g0 g1 g2 g3 g4 g5 c4 hk1 hT
                  generalize wk (dv (p + 1)) (ar + 1) = q at *
                  by_cases he:q = 0
                  · have HG4:Hid _:=HG3.out.1 he
                    clear HG3
                    subst he
                    go_wp2
                    go_roundw
                    case rel=>exact ⟨p + 1 + 1,by omega,by go_num,hb3,HG4.out⟩
                    case measure=>simp [intOf]; omega
                  · have hR:=HG3.out.2 he
                    clear HG3
                    subst hR
                    go_wp2
                    go_ret
                    exact ⟨rfl,hw1.out.trans (hb3.out.mono hw1.out.size)⟩
            · obtain rfl:j2 = dn:=by omega
              have hR:R = 0:=HX2.out.trans hz.out
              subst hR
              clear hz HX2
              go_wp2
              go_ret
              exact ⟨rfl,hw.out⟩
set_option maxHeartbeats 400000 in
theorem valid13 (t:T) (x y:Value) (w:World) (hok:t.ok) (hr:RV (fun _=>True) w t x y) :
    Calls Tryz.prog 41 #[vv t x y] w fun e w'=>e = .returned (.int .i64 (wk t 0))∧Below w.heap.size w w':=by
  have HR:Hid (RV (fun _=>True) w t x y):=hr
  clear hr
  unfold vv
  go_enter Tryz.func41,Tryz.ntmps41
  go_wp2_with fail
  refine (walk23 t x y _ 0 (by omega) (by omega) hok (Below.rv ((Below.refl _ _).alloc (Nat.le_refl _) _) (Nat.le_refl _) HR.out)).mono ?_
  rintro e w1 ⟨rfl,hb⟩
  go_wp2
  go_ret
  exact ⟨rfl,((Below.refl _ _).alloc (Nat.le_refl _) _).trans (hb.mono (by simp))⟩
theorem ow_cell {B:Nat} {w:World} {v:Value} {l:List UInt8} (h:OW B w v l):(v = .slice none 0 0∧l = []) ∨ ∃ g c,v = .slice (some ⟨g,0,none⟩) l.length c∧∀ i (hi:i < l.length),w.cell? ⟨g,i,none⟩ = some (.int .u8 (l[i].toNat:Int)):=by
  rcases h.2 with ⟨h1,h2⟩ | ⟨g,cap,cur,rfl,_⟩
  · exact .inl ⟨h1,List.length_eq_zero_iff.1 h2⟩
  · refine .inr ⟨g,cap,rfl,fun i hi=>?_⟩
    have:=World.ownsRow.cellAt h i (by omega)
    rw [this]
    simp [Lib.byteCells,hi]
def EP (t:T) (w w':World) (v:Value) (er:Int):Prop:=∃ B l,OW B w' v l∧er = (if wk t 0 = 0 then (if 1048576 < (txt t).length then 20 else 0) else wk t 0)∧l = (if wk t 0 = 0∧(txt t).length ≤ 1048576 then txt t else [])∧Below w.heap.size w w'
theorem EP.bad {t:T} {w w':World} (h:wk t 0 ≠ 0) (hb:Below w.heap.size w w'):EP t w w' (.slice none 0 0) (wk t 0):=
  ⟨0, [],World.ownsRow_nil _ _ _ _,by rw [if_neg h],by rw [if_neg (fun h'=>h h'.1)],hb⟩
theorem EP.long {t:T} {w w':World} (h:wk t 0 = 0) (h2:1048576 < (txt t).length) (hb:Below w.heap.size w w'):EP t w w' (.slice none 0 0) 20:=
  ⟨0, [],World.ownsRow_nil _ _ _ _,by rw [if_pos h,if_pos h2],by rw [if_neg (fun h'=>by omega)],hb⟩
theorem EP.good {t:T} {w w':World} {B:Nat} {v:Value} (h:wk t 0 = 0) (h2:(txt t).length ≤ 1048576) (ho:OW B w' v (txt t)) (hb:Below w.heap.size w w'):EP t w w' v 0:=
  ⟨B,txt t,ho,by rw [if_pos h,if_neg (by omega)],by rw [if_pos ⟨h,h2⟩],hb⟩
theorem ow_slice {B:Nat} {w:World} {v:Value} {l:List UInt8} (h:OW B w v l):∃ a c,v = .slice a l.length c:=by
  rcases ow_cell h with ⟨rfl,rfl⟩ | ⟨g,c,rfl,_⟩
  · exact ⟨_,_,rfl⟩
  · exact ⟨_,_,rfl⟩
set_option maxRecDepth 10000 in
set_option maxHeartbeats 1000000 in
theorem encode8 (t:T) (x y:Value) (w:World) (hok:t.ok) (hrng:t.rng) (hwt:(txt t).length ≤ 80000000000000) (hT:TB w.heap.size w) (hr:RV (fun _=>True) w t x y) :
    Calls Tryz.prog 24 #[vv t x y] w fun e w'=>∃ v er,e = .returned (.tuple #[v,.int .i64 er])∧EP t w w' v er:=by
  obtain ⟨⟨xa,xn,xc,rfl⟩,⟨ya,yn,yc,rfl⟩⟩:=hr.slices
  have HR:=Lib.hid hr
  clear hr
  have HB0:Hid (Below w.heap.size w (w.alloc (Obj.cells #[.int .i64 t.k,.int .i64 t.n,.string t.s,.slice xa xn xc,.slice ya yn yc] 55))∧obj (w.alloc (Obj.cells #[.int .i64 t.k,.int .i64 t.n,.string t.s,.slice xa xn xc,.slice ya yn yc] 55)) w.heap.size (.int .i64 t.k) (.int .i64 t.n) (.string t.s) (.slice xa xn xc) (.slice ya yn yc)):=⟨(Below.refl _ _).alloc (Nat.le_refl _) _,heap_new _ _⟩
  unfold vv
  go_enter Tryz.func24,Tryz.ntmps24
  go_wp2_with fail
  refine (valid13 t _ _ _ hok (Below.rv HB0.out.1 (Nat.le_refl _) HR.out)).mono ?_
  rintro e w1 ⟨rfl,hb1⟩
  have HB1:Hid (Below w.heap.size w w1∧obj w1 w.heap.size (.int .i64 t.k) (.int .i64 t.n) (.string t.s) (.slice xa xn xc) (.slice ya yn yc)):=⟨HB0.out.1.trans (hb1.mono (by simp)),HB0.out.2.keep (hb1.block _ HB0.out.2.lt)⟩
  clear hb1 HB0
  by_cases hk:wk t 0 = 0
  case neg =>
    have hk':(wk t 0 != 0) = true:=by simpa using hk
    have HE:=Lib.hid (EP.bad hk HB1.out.1)
    generalize wk t 0 = q at *
    go_wp2
    go_ret2
    exact ⟨_,_,rfl,HE.out⟩
  have HK:=Lib.hid hk
  rw [hk]
  obtain ⟨c0,c1,c2,c3,c4⟩:=HB1.out.2.cells
  go_wp2_with fail
  refine (text19 t w1.heap.size _ _ _ [] w1 (RV.move (fun b _ hl=>Nat.lt_of_lt_of_le hl HB1.out.1.size) HB1.out.1.size (fun b _ hl=>HB1.out.1.block b hl) _ _ _ HR.out) hok hrng (World.ownsRow_nil _ _ _ _) (Nat.le_refl _) (tb_up (hT.on HB1.out.1) HB1.out.1.size) (by simpa using hwt)).mono ?_
  rintro e w2 ⟨v2,rfl,ho2,hb2⟩
  rw [List.nil_append] at ho2
  obtain ⟨a2,c2',rfl⟩:=ow_slice ho2
  have HB2:=Lib.hid (And.intro (HB1.out.1.trans (hb2.1.mono HB1.out.1.size)) ho2)
  clear ho2 hb2 c0 c1 c2 c3 c4
  by_cases hlen:1048576 < (txt t).length
  · have HE:=Lib.hid (EP.long HK.out hlen HB2.out.1)
    have hl2:(1048576:Int) < ((txt t).length:Int):=by omega
    generalize (txt t).length = q at *
    go_wp2
    go_ret2
    exact ⟨_,_,rfl,HE.out⟩
  · have HE:=Lib.hid (EP.good HK.out (by omega) HB2.out.2 HB2.out.1)
    have hl2:((txt t).length:Int) ≤ (1048576:Int):=by omega
    generalize (txt t).length = q at *
    go_wp2
    go_ret2
    exact ⟨_,_,rfl,HE.out⟩
set_option maxHeartbeats 400000 in
theorem valid53 (t:T) (x y:Value) (w:World) (hok:t.ok) (hr:RV (fun _=>True) w t x y) :
    Calls Tryz.prog 53 #[vv t x y] w fun e w'=>e = .returned (.int .i64 (wk t 0))∧Below w.heap.size w w':=by
  have HR:Hid (RV (fun _=>True) w t x y):=hr
  clear hr
  unfold vv
  go_enter Tryz.func53,Tryz.ntmps53
  go_wp2_with fail
  refine (fault22 t x y _ 0 (by omega) (by omega) hok (Below.rv ((Below.refl _ _).alloc (Nat.le_refl _) _) (Nat.le_refl _) HR.out)).mono ?_
  rintro e w1 ⟨rfl,hb⟩
  go_wp2
  go_ret
  exact ⟨rfl,((Below.refl _ _).alloc (Nat.le_refl _) _).trans (hb.mono (by simp))⟩
set_option maxRecDepth 10000 in
set_option maxHeartbeats 1000000 in
theorem wordSize67 (s:ByteArray) (w:World) (hT:TB w.heap.size w) (hlim:s.size ≤ 140737488351232) :
    Calls Tryz.prog 67 #[.string s] w fun e w'=>e = .returned (.int .i64 (wtx s).length)∧Below w.heap.size w w':=by
  have hlen:=Lib.itoa_length_le s.size (by omega) (by omega)
  go_enter Tryz.func67,Tryz.ntmps67
  go_wp2_with fail
  refine (itoa25 s.size (by omega) (by omega) w hT).mono ?_
  rintro e w1 ⟨rfl,hb⟩
  have hz:(({ data:=(Lib.itoa (s.size:Int)).toArray }:ByteArray)).size = (Lib.itoa (s.size:Int)).length:=List.size_toArray
  have hz2:(wtx s).length = (Lib.itoa (s.size:Int)).length + (s.size + 1):=by
    show (Lib.itoa (s.size:Int) ++ 58 :: s.data.toList).length = _
    rw [List.length_append,List.length_cons,Array.length_toList]; rfl
  have HZ:=Lib.hid hz2
  clear hz2
  go_wp2
  go_ret
  exact ⟨by have:=HZ.out; show Ending.returned (Value.int .i64 (((Lib.itoa (s.size:Int)).length:Int) + 1 + (s.size:Int))) = _; congr 2; omega,hb⟩
set_option maxHeartbeats 1000000 in
theorem size54s (s:ByteArray) (n:Int) (x y:Value) (w:World) (hx:(∃ a k c,x = .slice a k c)∧∃ a k c,y = .slice a k c) (hT:TB w.heap.size w) (hlim:s.size ≤ 140737488351232) :
    Calls Tryz.prog 54 #[.agg #[.int .i64 2,.int .i64 n,.string s,x,y]] w fun e w'=>e = .returned (.int .i64 (wtx s).length)∧Below w.heap.size w w':=by
  obtain ⟨⟨xa,xn,xc,rfl⟩,⟨ya,yn,yc,rfl⟩⟩:=hx
  go_enter Tryz.func54,Tryz.ntmps54
  go_wp2_with fail
  refine (wordSize67 s _ (tb_up (hT.on ((Below.refl _ _).alloc (Nat.le_refl _) _)) (by simp)) hlim).mono ?_
  rintro e w2 ⟨rfl,hb2⟩
  go_wp2
  go_ret
  exact ⟨rfl,((Below.refl _ _).alloc (Nat.le_refl _) _).trans (hb2.mono (by simp))⟩
theorem nil56 (u : Value) (w : World) : Sem.run Tryz.prog (nilAhead 303 102 u "torrent/bencode.text") w = .ok (some false) w := by kernel_rfl
def C5s (w:World) (b:Nat) (s:ByteArray):Prop:=w.cell? ⟨b,0,none⟩ = some (.int .i64 2)∧w.cell? ⟨b,1,none⟩ = some (.int .i64 0)∧w.cell? ⟨b,2,none⟩ = some (.string s)∧w.cell? ⟨b,3,none⟩ = some (.slice none 0 0)∧w.cell? ⟨b,4,none⟩ = some (.slice none 0 0)
abbrev objS (w:World) (b:Nat) (s:ByteArray):Prop:=obj w b (.int .i64 2) (.int .i64 0) (.string s) (.slice none 0 0) (.slice none 0 0)
theorem obj.c5s {w:World} {b:Nat} {s:ByteArray} (h:objS w b s):C5s w b s:=h.cells
theorem made_own (w:World) (B m:Nat) (hm:m ≤ 1048576) (hB:B ≤ w.heap.size):OW B (w.alloc (.cells (madeCells #[.int .u8 0] m) 5)) (.slice (some ⟨w.heap.size,0,none⟩) 0 m) []:=
  ⟨rfl,.inr ⟨w.heap.size,m,madeCells #[.int .u8 0] m,rfl,hB,heap_new _ _,Nat.zero_le _,by unfold maxLen; omega,by rw [size_madeCells]; simp,by simp [Lib.byteCells]⟩⟩
theorem word_call (s:ByteArray) (sv:Value) (w wt:World) (ho:OW w.heap.size wt sv []) (hb:Below w.heap.size w wt) (hT:TB w.heap.size w) (hx:objS wt w.heap.size s) (hs:s.size ≤ 70000000000000) :
    Calls Tryz.prog 145 #[.string s,sv] wt fun e wz=>∃ v,e = .returned v∧C5s wz w.heap.size s∧Hid (OW w.heap.size wz v (wtx s)∧Below w.heap.size w wz):=by
  refine (word100 w.heap.size s sv [] wt ho hb.size (hT.on hb) (by simp; omega)).mono ?_
  rintro e wz ⟨v,rfl,h1,h2⟩
  have hx':objS wz w.heap.size s:=h2.2 _ _ hx (by simp) (fun cc fz h=>by cases h)
  exact ⟨v,rfl,hx'.c5s,by simpa using h1,hb.trans h2.1⟩
theorem rv_str (S:Nat → Prop) (w:World) (s:ByteArray):RV S w (tStr s) (.slice none 0 0) (.slice none 0 0):=⟨⟨none,0,rfl,.inl rfl⟩,⟨none,0,rfl,.inl rfl⟩⟩
theorem node_call (s:ByteArray) (w:World) (hs:s.size ≤ 70000000000000):Calls Tryz.prog 55 #[.agg #[.int .i64 2,.int .i64 0,.string s,.slice none 0 0,.slice none 0 0]] w fun e w'=>e = .returned (.iface 102 (.string s))∧Below w.heap.size w w':=by
  have hP:VT (tStr s)∧(tStr s).ok∧(tStr s).small:=by
    refine ⟨⟨?_,fun i hi=>absurd hi (Nat.not_lt_zero _),fun i hi=>absurd hi (Nat.not_lt_zero _)⟩,⟨by omega,Nat.zero_le _,Nat.zero_le _,fun i hi=>absurd hi (Nat.not_lt_zero _),fun i hi=>absurd hi (Nat.not_lt_zero _)⟩,⟨Nat.zero_le _,Nat.zero_le _,fun i hi=>absurd hi (Nat.not_lt_zero _),fun i hi=>absurd hi (Nat.not_lt_zero _)⟩⟩
    rw [ownB_iff]
    exact ⟨by decide,by decide,.inr rfl,.inl rfl,.inr rfl,.inr rfl⟩
  refine (nodeOf27 (tStr s) _ _ w hP.2.1 hP.2.2 hP.1 (rv_str _ _ _)).mono ?_
  rintro e w' ⟨u,rfl,hrn,hb,_⟩
  refine ⟨?_,hb⟩
  rcases hrn with ⟨h,_⟩ | ⟨_,rfl⟩ | ⟨h,_⟩ | ⟨h,_⟩
  · cases h
  · rfl
  · cases h
  · cases h
theorem enc_A (s:ByteArray) (w w2:World) (m:Nat) (hT:TB w.heap.size w) (hB2:Below w.heap.size w w2) (hx:objS w2 w.heap.size s) (hm:m ≤ 1048576) (hs:s.size ≤ 70000000000000) :
    Calls Tryz.prog 55 #[.agg #[.int .i64 2,.int .i64 0,.string s,.slice none 0 0,.slice none 0 0]] w2.drew fun e wq=>e = .returned (.iface 102 (.string s))∧C5s wq w.heap.size s∧C5s (wq.alloc (.cells (madeCells #[.int .u8 0] m) 5)) w.heap.size s ∧
      Hid (Calls Tryz.prog 145 #[.string s,.slice (some ⟨wq.heap.size,0,none⟩) 0 m] (wq.alloc (.cells (madeCells #[.int .u8 0] m) 5)) fun e wz=>∃ v,e = .returned v∧C5s wz w.heap.size s∧Hid (OW w.heap.size wz v (wtx s)∧Below w.heap.size w wz)):=by
  have hBd:Below w.heap.size w w2.drew:=hB2.drew
  refine (node_call s w2.drew hs).mono ?_
  rintro e wq ⟨rfl,hb⟩
  have hBq:Below w.heap.size w wq:=hBd.trans (hb.mono hBd.size)
  have hxd:objS w2.drew w.heap.size s:=hx
  have hxq:objS wq w.heap.size s:=hxd.keep (hb.block _ hxd.lt)
  have hxa:objS (wq.alloc (.cells (madeCells #[.int .u8 0] m) 5)) w.heap.size s:=hxq.keep (Below.heap_alloc _ _ _ hxq.lt)
  exact ⟨rfl,hxq.c5s,hxa.c5s,Lib.hid (word_call s _ w _ (made_own wq _ m hm hBq.size) (hBq.alloc hBq.size _) hT hxa hs)⟩
theorem enc_B (s:ByteArray) (w w2:World) (m:Nat) (hT:TB w.heap.size w) (hB2:Below w.heap.size w w2) (hx:objS w2 w.heap.size s) (hm:m ≤ 1048576) (hs:s.size ≤ 70000000000000) :
    Calls Tryz.prog 55 #[.agg #[.int .i64 2,.int .i64 0,.string s,.slice none 0 0,.slice none 0 0]] (w2.alloc (.cells (madeCells #[.int .u8 0] m) 5)).drew fun e wq=>e = .returned (.iface 102 (.string s))∧C5s wq w.heap.size s ∧
      Hid (Calls Tryz.prog 145 #[.string s,.slice (some ⟨w2.heap.size,0,none⟩) 0 m] wq fun e wz=>∃ v,e = .returned v∧C5s wz w.heap.size s∧Hid (OW w.heap.size wz v (wtx s)∧Below w.heap.size w wz)):=by
  have hBd:Below w.heap.size w (w2.alloc (.cells (madeCells #[.int .u8 0] m) 5)).drew:=(hB2.alloc hB2.size _).drew
  have ho:OW w.heap.size (w2.alloc (.cells (madeCells #[.int .u8 0] m) 5)).drew (.slice (some ⟨w2.heap.size,0,none⟩) 0 m) []:=made_own w2 w.heap.size m hm hB2.size
  have hxd:objS (w2.alloc (.cells (madeCells #[.int .u8 0] m) 5)).drew w.heap.size s:=hx.keep (Below.heap_alloc w2 _ _ hx.lt)
  generalize (w2.alloc (.cells (madeCells #[.int .u8 0] m) 5)).drew = wd at *
  refine (node_call s wd hs).mono ?_
  rintro e wq ⟨rfl,hb⟩
  have hBq:Below w.heap.size w wq:=hBd.trans (hb.mono hBd.size)
  have hxq:objS wq w.heap.size s:=hxd.keep (hb.block _ hxd.lt)
  exact ⟨rfl,hxq.c5s,Lib.hid (word_call s _ w _ (ho.keep hb) hBq hT hxq hs)⟩
theorem wk_str (s:ByteArray):wk (tStr s) 0 = 0:=(gd_str (s:=s) (ar:=0)).1
set_option maxRecDepth 10000 in
set_option maxHeartbeats 1000000 in
theorem encode37s (s:ByteArray) (w:World) (hs:s.size ≤ 70000000000000) (hT:TB w.heap.size w) :
    Calls Tryz.prog 37 #[.agg #[.int .i64 2,.int .i64 0,.string s,.slice none 0 0,.slice none 0 0]] w fun e w'=>∃ v er,e = .returned (.tuple #[v,.int .i64 er])∧EP (tStr s) w w' v er:=by
  have HB0:Hid (Below w.heap.size w (w.alloc (Obj.cells #[.int .i64 2,.int .i64 0,.string s,.slice none 0 0,.slice none 0 0] 55))∧objS (w.alloc (Obj.cells #[.int .i64 2,.int .i64 0,.string s,.slice none 0 0,.slice none 0 0] 55)) w.heap.size s):=⟨(Below.refl _ _).alloc (Nat.le_refl _) _,heap_new _ _⟩
  have hok:(tStr s).ok:=⟨by omega,Nat.zero_le _,Nat.zero_le _,fun i hi=>absurd hi (Nat.not_lt_zero _),fun i hi=>absurd hi (Nat.not_lt_zero _)⟩
  have HW:=Lib.hid (valid53 (tStr s) (.slice none 0 0) (.slice none 0 0) (w.alloc (Obj.cells #[.int .i64 2,.int .i64 0,.string s,.slice none 0 0,.slice none 0 0] 55)) hok (rv_str _ _ _))
  clear hok
  rw [wk_str] at HW
  go_enter Tryz.func37,Tryz.ntmps37
  go_wp2_with fail
  refine HW.out.mono ?_
  rintro e w1 ⟨rfl,hb1⟩
  have HB1:Hid (Below w.heap.size w w1∧objS w1 w.heap.size s):=⟨HB0.out.1.trans (hb1.mono (by simp)),HB0.out.2.keep (hb1.block _ HB0.out.2.lt)⟩
  clear hb1 HB0 HW
  obtain ⟨c0,c1,c2,c3,c4⟩:=HB1.out.2.cells
  go_wp2_with fail
  refine (size54s s 0 _ _ w1 ⟨⟨_,_,_,rfl⟩,⟨_,_,_,rfl⟩⟩ (tb_up (hT.on HB1.out.1) HB1.out.1.size) (by omega)).mono ?_
  rintro e w2 ⟨rfl,hb2⟩
  have HB2:Hid (Below w.heap.size w w2∧objS w2 w.heap.size s):=⟨HB1.out.1.trans (hb2.mono HB1.out.1.size),HB1.out.2.keep (hb2.block _ HB1.out.2.lt)⟩
  clear hb2 HB1 c0 c1 c2 c3 c4
  have ht:txt (tStr s) = wtx s:=rfl
  have HTX:=Lib.hid ht
  clear ht
  generalize hm:(wtx s).length = m at *
  have HM:=Lib.hid hm
  clear hm
  by_cases hlen:1048576 < m
  · have HE:=Lib.hid (EP.long (t:=tStr s) (wk_str s) (by rw [HTX.out,HM.out]; omega) HB2.out.1)
    have hl2:(1048576:Int) < (m:Int):=by omega
    go_wp2
    go_ret2
    exact ⟨_,_,rfl,HE.out⟩
  have hl2:(m:Int) ≤ (1048576:Int):=by omega
  have hl3:m ≤ 1048576:=by omega
  clear hlen
  obtain ⟨i0,hi,hz0,hz1,hz2⟩:=info_parts info5
  have hmk:∀ u:World,(Instr.makeSlice 22 (.int .i64 0) (.int .i64 (m:Int))).run Tryz.prog u =
      .ok (.slice (some ⟨u.heap.size,0,none⟩) 0 m) (u.alloc (.cells (madeCells #[.int .u8 0] m) 5)):=fun u=>by
    have h:=run_make (P:=Tryz.prog) u 22 5 i0 (.int .u8 0) Tryz.underlying22 hi hz0 .i64 .i64 0 m (by omega) (by omega) (by rw [hz2]; omega) (by omega)
    simpa [hz1,Value.cells] using h
  clear hi hz0 hz1 hz2 i0
  obtain ⟨c0,c1,c2,c3,c4⟩:=HB2.out.2.cells
  obtain ⟨d0,d1,d2,d3,d4⟩:C5s (w2.alloc (.cells (madeCells #[.int .u8 0] m) 5)).drew w.heap.size s:=obj.c5s (HB2.out.2.keep (Below.heap_alloc w2 _ _ HB2.out.2.lt))
  have HCA:=Lib.hid (enc_A s w w2 m hT HB2.out.1 HB2.out.2 hl3 hs)
  have HCB:=Lib.hid (enc_B s w w2 m hT HB2.out.1 HB2.out.2 hl3 hs)
  have hmt:=meth56
  have hnl:=nil56
  clear HB2
  go_wp2_with fail
  generalize hxb:w.heap.size = xb at *
  have HXB:=Lib.hid hxb
  clear hxb
  go_region_held3 (fun w'=>w'.cell? ⟨xb,0,none⟩ = some (.int .i64 2)∧w'.cell? ⟨xb,1,none⟩ = some (.int .i64 0)∧w'.cell? ⟨xb,2,none⟩ = some (.string s)∧w'.cell? ⟨xb,3,none⟩ = some (.slice none 0 0)∧w'.cell? ⟨xb,4,none⟩ = some (.slice none 0 0))
    (first | (with_reducible exact ⟨z0,z1,z2,z3,z4⟩) | (with_reducible exact ⟨x0,x1,x2,x3,x4⟩) | (with_reducible exact ⟨q0,q1,q2,q3,q4⟩) | (with_reducible exact ⟨d0,d1,d2,d3,d4⟩) | (exact ⟨c0,c1,c2,c3,c4⟩))
    (first | (go_at_call 55; refine HCA.out.mono ?_; rintro e wq ⟨rfl,⟨q0,q1,q2,q3,q4⟩,⟨x0,x1,x2,x3,x4⟩,HXA⟩) | (go_at_call 55; refine HCB.out.mono ?_; rintro e wq ⟨rfl,⟨q0,q1,q2,q3,q4⟩,HXC⟩) | (go_at_call 145; refine HXA.out.mono ?_; rintro e wz ⟨v3,rfl,⟨z0,z1,z2,z3,z4⟩,HN⟩) | (go_at_call 145; refine HXC.out.mono ?_; rintro e wz ⟨v3,rfl,⟨z0,z1,z2,z3,z4⟩,HN⟩))
  all_goals
    have HE:=Lib.hid (EP.good (t:=tStr s) (wk_str s) (by rw [HTX.out,HM.out]; omega) (by rw [HTX.out]; exact HN.out.1) (HXB.out.symm ▸ HN.out.2))
    go_wp2
    go_ret2
    exact ⟨_,_,rfl,HE.out⟩
theorem grow_own (n:Nat) (w:World) (hn:n ≤ 4194304) (cs:Array Value) (hc:cs.size = grownCap w n 0 5):OW w.heap.size (w.drew.alloc (.cells cs 5)) (.slice (some ⟨w.heap.size,0,none⟩) 0 (grownCap w n 0 5)) []:=by
  refine ⟨rfl,.inr ⟨w.heap.size,grownCap w n 0 5,cs,rfl,Nat.le_refl _,heap_new w.drew _,Nat.zero_le _,grownCap_le_maxLen w n 0 5 (by unfold maxLen; omega),by rw [hc,Nat.mul_one],by simp [Lib.byteCells]⟩⟩
set_option maxRecDepth 10000 in
set_option maxHeartbeats 1000000 in
theorem grow54 (n:Nat) (w:World) (hn:n ≤ 4194304) :
    Calls Tryz.prog 51 #[.slice none 0 0,.int .i64 n] w fun e w'=>∃ v,e = .returned v∧OW w.heap.size w' v []∧Below w.heap.size w w':=by
  by_cases h0:n = 0
  · subst h0
    go_enter Tryz.func51,Tryz.ntmps51
    go_wp2
    go_ret
    exact ⟨_,rfl,ow_nil _ _,Below.refl _ _⟩
  · have h1:(0:Int) < (n:Int):=by omega
    have h2:¬ (n:Int) < 0:=by omega
    have hrun:∃ cs:Array Value,cs.size = grownCap w n 0 5∧(Builtin.append_ #[22,3] 22 #[.slice none 0 0,.int .i64 n]).run Tryz.prog w = .ok (.slice (some ⟨w.heap.size,0,none⟩) n (grownCap w n 0 5)) (w.drew.alloc (.cells cs 5)):=by
      obtain ⟨i0,hi,hz0,hz1,hz2⟩:=info_parts info5
      have hg:=grownCap_ge w n 0 5
      exact ⟨_,by rw [Array.size_append,size_zeroCells,size_zeroCells]; show n * 1 + (grownCap w n 0 5 - n) * 1 = _; omega,Lib.run_append_nil_zeros w 22 3 22 5 i0 _ .i64 .i64 Tryz.underlying22 Tryz.underlying3 hi hz0 n (by omega) (by rw [hz1]; omega) (by omega) (by rw [hz2]; omega)⟩
    obtain ⟨cs,hcs,hrun⟩:=hrun
    have hg:=grownCap_ge w n 0 5
    have HO:=Lib.hid (grow_own n w hn cs hcs)
    have HB:Hid (Below w.heap.size w (w.drew.alloc (.cells cs 5))):=((⟨rfl,rfl,rfl,Nat.le_refl _,fun _ _=>rfl⟩:Below w.heap.size w w.drew).alloc (Nat.le_refl _) _)
    generalize grownCap w n 0 5 = cp at *
    go_enter Tryz.func51,Tryz.ntmps51
    go_wp2_with (at_builtin; refine Lib.wpList_append_run _ rfl _ _ _ _ rfl _ _ rfl rfl _ _ hrun ?_)
    go_wp2
    go_ret
    exact ⟨_,rfl,HO.out,HB.out⟩
def RowB (w:World) (vb:Nat) (xs:List (Value × List UInt8)):Prop:=vb < w.heap.size∧∀ (i:Nat) (x:Value × List UInt8),xs[i]? = some x → w.cell? ⟨vb,i,none⟩ = some x.1∧RB w x.1 x.2∧(x.1 = .slice none 0 0 ∨ ∃ ad n c,x.1 = .slice (some ad) n c)
theorem RowB.keep {w w':World} {vb:Nat} {xs:List (Value × List UInt8)} (h:RowB w vb xs) (hb:Below w.heap.size w w'):RowB w' vb xs:=
  ⟨Nat.lt_of_lt_of_le h.1 hb.size,fun i x hx=>by
    obtain ⟨h1,h2,h3⟩:=h.2 i x hx
    exact ⟨(World.cell?_of_block (w:=w) (hb.block vb h.1)).trans h1,h2.keep hb,h3⟩⟩
def cats (xs:List (Value × List UInt8)):List UInt8:=(xs.map (·.2)).flatten
theorem cats_snoc {xs:List (Value × List UInt8)} {k:Nat} {x:Value × List UInt8} (h:xs[k]? = some x):cats (xs.take (k + 1)) = cats (xs.take k) ++ x.2:=by
  unfold cats
  rw [List.take_add_one,h]
  simp
theorem cats_le (xs:List (Value × List UInt8)) (k:Nat):(cats (xs.take k)).length ≤ (cats xs).length:=by
  have e:cats xs = cats (xs.take k) ++ cats (xs.drop k):=by
    unfold cats
    rw [← List.flatten_append, ← List.map_append,List.take_append_drop]
  rw [e,List.length_append]
  omega
set_option maxRecDepth 10000 in
set_option maxHeartbeats 2000000 in
theorem concat35 (vb c:Nat) (xs:List (Value × List UInt8)) (w:World) (h:RowB w vb xs) (hl:(cats xs).length ≤ 4194304) (hx:xs.length ≤ 16) :
    Calls Tryz.prog 35 #[.slice (some ⟨vb,0,none⟩) xs.length c] w fun e w'=>∃ v,e = .returned v∧OW w.heap.size w' v (cats xs)∧Below w.heap.size w w':=by
  have HR:=Lib.hid h
  clear h
  go_enter Tryz.func35,Tryz.ntmps35
  go_wp2
  go_loopw [3,11] (fun sz i wr=>∃ k nq:Nat,k ≤ xs.length∧sz = .int .i64 ((cats (xs.take k)).length:Nat)∧i = .int .i64 k∧wr = w.drewN nq) (fun _ i _=>xs.length - (intOf i).toNat)
  case atStart=>exact ⟨0,0,Nat.zero_le _,rfl,rfl,rfl⟩
  case round =>
    obtain ⟨k,nq,hk,rfl,rfl,rfl⟩:=hrel
    have hle:=cats_le xs k
    by_cases hlt:k < xs.length
    · obtain ⟨⟨v,l⟩,hxk⟩:∃ x,xs[k]? = some x:=⟨_,List.getElem?_eq_getElem hlt⟩
      obtain ⟨h1,h2,_⟩:=HR.out.2 k _ hxk
      dsimp only at h1 h2
      obtain ⟨a,c',rfl,_⟩:=h2
      have hcs:=cats_snoc hxk
      have hle2:=cats_le xs (k + 1)
      rw [hcs,List.length_append] at hle2
      have k0:(0:Int) ≤ (k:Int):=by omega
      have k1:(k:Int) < (xs.length:Int):=by omega
      dsimp only at hcs hle2
      have HCS:=Lib.hid hcs
      generalize hS:(cats (xs.take k)).length = S at *
      have s1:¬ ((S:Int) + (l.length:Int)) < 0:=by omega
      clear hxk hcs
      go_wp2
      exact ⟨⟨k + 1,nq,by omega,by rw [HCS.out,List.length_append,hS]; go_num,by go_num,rfl⟩,by simp [intOf]; omega⟩
    · have hk':¬ (k:Int) < (xs.length:Int):=by omega
      obtain rfl:k = xs.length:=by omega
      rw [List.take_length]
      have HR2:Hid (RowB (w.drewN nq) vb xs∧Below w.heap.size w (w.drewN nq)):=⟨HR.out.keep ⟨rfl,rfl,rfl,Nat.le_refl _,fun _ _=>rfl⟩,⟨rfl,rfl,rfl,Nat.le_refl _,fun _ _=>rfl⟩⟩
      go_wp2_with fail
      refine (grow54 (cats xs).length _ hl).mono ?_
      rintro e w1 ⟨v1,rfl,ho1,hb1⟩
      have H1:Hid (RowB w1 vb xs∧Below w.heap.size w w1∧OW w.heap.size w1 v1 []):=by
        obtain ⟨q1,q2⟩:=HR2.out
        exact ⟨q1.keep hb1,q2.trans (hb1.mono q2.size),ow_low (Nat.le_refl _) ho1⟩
      obtain ⟨a1,c1,rfl⟩:=ho1.form'
      clear ho1 hb1 HR2 hle hlt hk
      go_wp2
      go_loopw [6,27] (fun nv i wr=>∃ (k:Nat) (aa:Option Addr) (cp:Nat),k ≤ xs.length∧nv = .slice aa (cats (xs.take k)).length cp∧i = .int .i64 k∧Hid (RowB wr vb xs∧Below w.heap.size w wr∧OW w.heap.size wr nv (cats (xs.take k)))) (fun _ i _=>xs.length - (intOf i).toNat)
      case atStart=>exact ⟨0,a1,c1,Nat.zero_le _,rfl,rfl,H1⟩
      case round =>
        obtain ⟨k,aa,cp,hk,rfl,rfl,HJ⟩:=hrel
        by_cases hlt:k < xs.length
        · obtain ⟨⟨v,l⟩,hxk⟩:∃ x,xs[k]? = some x:=⟨_,List.getElem?_eq_getElem hlt⟩
          obtain ⟨h1,h2,h3⟩:=HJ.out.1.2 k _ hxk
          dsimp only at h1 h2 h3
          have HV:=Lib.hid (And.intro h2 h3)
          obtain ⟨a,c',rfl,_⟩:=h2
          have hcs:=cats_snoc hxk
          have hle2:=cats_le xs (k + 1)
          rw [hcs,List.length_append] at hle2
          dsimp only at hcs hle2
          have HCS:=Lib.hid hcs
          have k0:(0:Int) ≤ (k:Int):=by omega
          have k1:(k:Int) < (xs.length:Int):=by omega
          clear hxk hcs h3
          go_wp2_with (at_builtin; (refine append_bl (l:=cats (xs.take k)) (m:=l) (B:=w.heap.size) (sv:=.slice aa (cats (xs.take k)).length cp) (v:=.slice a l.length c') rfl _ _ rfl rfl HJ.out.2.2 rfl HV.out.1 HV.out.2 HJ.out.2.1.size (by omega) ?_); intro v8 w8 ho8 hb8; have O8:Hid (RowB w8 vb xs∧Below w.heap.size w w8∧OW w.heap.size w8 v8 (cats (xs.take k) ++ l)):=⟨HR.out.keep (HJ.out.2.1.trans hb8),HJ.out.2.1.trans hb8,ho8⟩; obtain ⟨a8,c8,rfl⟩:=ho8.form'; clear ho8 hb8)
          go_wp2
          refine ⟨⟨k + 1,a8,c8,by omega,by rw [HCS.out,List.length_append],by go_num,?_⟩,by simp [intOf]; omega⟩
          rw [HCS.out]
          have:=O8.out
          rw [List.length_append] at this
          exact Lib.hid this
        · have hk':¬ (k:Int) < (xs.length:Int):=by omega
          obtain rfl:k = xs.length:=by omega
          go_wp2
          go_ret
          exact ⟨_,rfl,by have:=HJ.out.2.2; rw [List.take_length] at this; exact this,HJ.out.2.1⟩
end Go.Proofs.YtdlnnnlmlaploabGreatDoor
