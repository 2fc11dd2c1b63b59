import Derived.Test.YtfjjpbebnoghmaaGreatDoorK00
import Derived.Test.YtfjjpbebnoghmaaGreatDoorK09
namespace Go.Proofs.YtfjjpbebnoghmaaGreatDoor
open Go.RowKit
theorem frn_to {m:Mv} (h:frn m = false):m.i = 0∧m.b = 0∧m.l = 0∧m.ba = 0∧m.pr = 0∧m.r = zr 32∧sln m.d = 0∧sln m.h = 0:=by
  unfold frn at h
  simp at h
  obtain ⟨⟨⟨⟨⟨⟨⟨h1,h2⟩,h3⟩,h4⟩,h5⟩,h6⟩,h7⟩,h8⟩:=h
  exact ⟨h1,h2,h3,h4,h5,h6,h7,h8⟩
theorem len0 {l:List UInt8} {v:Value} (h:l.length = sln v * 32) (h0:sln v = 0):l = []:=List.length_eq_zero_iff.1 (by omega)
theorem len0' {l:List UInt8} {v:Value} (h:sln v = l.length) (h0:sln v = 0):l = []:=List.length_eq_zero_iff.1 (by omega)
set_option maxHeartbeats 1000000 in
theorem bk_n1 (m:Mv) (ok:m.ok) (D hb:List UInt8) (hk:m.k = -1) (hf:frn (blks [] m) = false) (hl:lks [] m = true) (hd:sln m.d = D.length) (hh:hb.length = sln m.h * 32) :
    kindB (lays [] m D hb) = -1∧(lays [] m D hb).length = szs [] m∧(decR (⟨-1,0,0,1, [0,0,0,0,0,0,0]⟩:Kr) (lays [] m D hb)).D = D∧(decR (⟨-1,0,0,1, [0,0,0,0,0,0,0]⟩:Kr) (lays [] m D hb)).hb = hb∧∀ d' h',({ (decR (⟨-1,0,0,1, [0,0,0,0,0,0,0]⟩:Kr) (lays [] m D hb)).m with d:=d',h:=h' }:Mv) = { m with d:=d',h:=h' }:=by
  have okr:=ok.r
  clear ok
  obtain ⟨mk,mi,mb,ml,md,mr,mba,mpr,mh⟩:=m
  simp only at hk okr hd hh
  subst hk
  obtain ⟨q1,q2,q3,q4,q5,q6,q7,q8⟩:=frn_to hf
  obtain rfl:mi = 0:=q1
  obtain rfl:mb = 0:=q2
  obtain rfl:ml = 0:=q3
  obtain rfl:mba = 0:=q4
  obtain rfl:mpr = 0:=q5
  obtain rfl:mr = zr 32:=q6
  obtain rfl:D = []:=len0' hd q7
  obtain rfl:hb = []:=len0 hh q8
  clear hf hl
  have eL:lays [] ⟨-1,0,0,0,md,(zr 32),0,0,mh⟩ [] [] = ([]:List UInt8):=rfl
  rw [eL]
  refine ⟨rfl,rfl,rfl,rfl,fun d' h'=>rfl⟩
set_option maxHeartbeats 1000000 in
theorem bk_0 (m:Mv) (ok:m.ok) (D hb:List UInt8) (hk:m.k = 0) (hf:frn (blks [1] m) = false) (hl:lks [1] m = true) (hd:sln m.d = D.length) (hh:hb.length = sln m.h * 32) :
    kindB (lays [1] m D hb) = 0∧(lays [1] m D hb).length = szs [1] m∧(decR (⟨0,1,1,1, [1,0,0,0,0,0,0]⟩:Kr) (lays [1] m D hb)).D = D∧(decR (⟨0,1,1,1, [1,0,0,0,0,0,0]⟩:Kr) (lays [1] m D hb)).hb = hb∧∀ d' h',({ (decR (⟨0,1,1,1, [1,0,0,0,0,0,0]⟩:Kr) (lays [1] m D hb)).m with d:=d',h:=h' }:Mv) = { m with d:=d',h:=h' }:=by
  have okr:=ok.r
  clear ok
  obtain ⟨mk,mi,mb,ml,md,mr,mba,mpr,mh⟩:=m
  simp only at hk okr hd hh
  subst hk
  obtain ⟨q1,q2,q3,q4,q5,q6,q7,q8⟩:=frn_to hf
  obtain rfl:mi = 0:=q1
  obtain rfl:mb = 0:=q2
  obtain rfl:ml = 0:=q3
  obtain rfl:mba = 0:=q4
  obtain rfl:mpr = 0:=q5
  obtain rfl:mr = zr 32:=q6
  obtain rfl:D = []:=len0' hd q7
  obtain rfl:hb = []:=len0 hh q8
  clear hf hl
  have eL:lays [1] ⟨0,0,0,0,md,(zr 32),0,0,mh⟩ [] [] = [ub 0]:=rfl
  rw [eL]
  have hu:(ub (0:Int)).toNat = 0:=by decide
  refine ⟨?_,?_,?_,?_,fun d' h'=>?_⟩
  · have e:∀ X,byt (ub (0:Int) :: X) 0 = ub (0:Int):=fun _=>rfl
    unfold kindB
    rw [if_neg (by simp),e,hu,if_neg (by omega)]
    rfl
  · rfl
  · rfl
  · rfl
  · rfl
set_option maxHeartbeats 1000000 in
theorem bk_1 (m:Mv) (ok:m.ok) (D hb:List UInt8) (hk:m.k = 1) (hf:frn (blks [1] m) = false) (hl:lks [1] m = true) (hd:sln m.d = D.length) (hh:hb.length = sln m.h * 32) :
    kindB (lays [1] m D hb) = 1∧(lays [1] m D hb).length = szs [1] m∧(decR (⟨1,1,1,1, [1,0,0,0,0,0,0]⟩:Kr) (lays [1] m D hb)).D = D∧(decR (⟨1,1,1,1, [1,0,0,0,0,0,0]⟩:Kr) (lays [1] m D hb)).hb = hb∧∀ d' h',({ (decR (⟨1,1,1,1, [1,0,0,0,0,0,0]⟩:Kr) (lays [1] m D hb)).m with d:=d',h:=h' }:Mv) = { m with d:=d',h:=h' }:=by
  have okr:=ok.r
  clear ok
  obtain ⟨mk,mi,mb,ml,md,mr,mba,mpr,mh⟩:=m
  simp only at hk okr hd hh
  subst hk
  obtain ⟨q1,q2,q3,q4,q5,q6,q7,q8⟩:=frn_to hf
  obtain rfl:mi = 0:=q1
  obtain rfl:mb = 0:=q2
  obtain rfl:ml = 0:=q3
  obtain rfl:mba = 0:=q4
  obtain rfl:mpr = 0:=q5
  obtain rfl:mr = zr 32:=q6
  obtain rfl:D = []:=len0' hd q7
  obtain rfl:hb = []:=len0 hh q8
  clear hf hl
  have eL:lays [1] ⟨1,0,0,0,md,(zr 32),0,0,mh⟩ [] [] = [ub 1]:=rfl
  rw [eL]
  have hu:(ub (1:Int)).toNat = 1:=by decide
  refine ⟨?_,?_,?_,?_,fun d' h'=>?_⟩
  · have e:∀ X,byt (ub (1:Int) :: X) 0 = ub (1:Int):=fun _=>rfl
    unfold kindB
    rw [if_neg (by simp),e,hu,if_neg (by omega)]
    rfl
  · rfl
  · rfl
  · rfl
  · rfl
set_option maxHeartbeats 1000000 in
theorem bk_2 (m:Mv) (ok:m.ok) (D hb:List UInt8) (hk:m.k = 2) (hf:frn (blks [1] m) = false) (hl:lks [1] m = true) (hd:sln m.d = D.length) (hh:hb.length = sln m.h * 32) :
    kindB (lays [1] m D hb) = 2∧(lays [1] m D hb).length = szs [1] m∧(decR (⟨2,1,1,1, [1,0,0,0,0,0,0]⟩:Kr) (lays [1] m D hb)).D = D∧(decR (⟨2,1,1,1, [1,0,0,0,0,0,0]⟩:Kr) (lays [1] m D hb)).hb = hb∧∀ d' h',({ (decR (⟨2,1,1,1, [1,0,0,0,0,0,0]⟩:Kr) (lays [1] m D hb)).m with d:=d',h:=h' }:Mv) = { m with d:=d',h:=h' }:=by
  have okr:=ok.r
  clear ok
  obtain ⟨mk,mi,mb,ml,md,mr,mba,mpr,mh⟩:=m
  simp only at hk okr hd hh
  subst hk
  obtain ⟨q1,q2,q3,q4,q5,q6,q7,q8⟩:=frn_to hf
  obtain rfl:mi = 0:=q1
  obtain rfl:mb = 0:=q2
  obtain rfl:ml = 0:=q3
  obtain rfl:mba = 0:=q4
  obtain rfl:mpr = 0:=q5
  obtain rfl:mr = zr 32:=q6
  obtain rfl:D = []:=len0' hd q7
  obtain rfl:hb = []:=len0 hh q8
  clear hf hl
  have eL:lays [1] ⟨2,0,0,0,md,(zr 32),0,0,mh⟩ [] [] = [ub 2]:=rfl
  rw [eL]
  have hu:(ub (2:Int)).toNat = 2:=by decide
  refine ⟨?_,?_,?_,?_,fun d' h'=>?_⟩
  · have e:∀ X,byt (ub (2:Int) :: X) 0 = ub (2:Int):=fun _=>rfl
    unfold kindB
    rw [if_neg (by simp),e,hu,if_neg (by omega)]
    rfl
  · rfl
  · rfl
  · rfl
  · rfl
set_option maxHeartbeats 1000000 in
theorem bk_3 (m:Mv) (ok:m.ok) (D hb:List UInt8) (hk:m.k = 3) (hf:frn (blks [1] m) = false) (hl:lks [1] m = true) (hd:sln m.d = D.length) (hh:hb.length = sln m.h * 32) :
    kindB (lays [1] m D hb) = 3∧(lays [1] m D hb).length = szs [1] m∧(decR (⟨3,1,1,1, [1,0,0,0,0,0,0]⟩:Kr) (lays [1] m D hb)).D = D∧(decR (⟨3,1,1,1, [1,0,0,0,0,0,0]⟩:Kr) (lays [1] m D hb)).hb = hb∧∀ d' h',({ (decR (⟨3,1,1,1, [1,0,0,0,0,0,0]⟩:Kr) (lays [1] m D hb)).m with d:=d',h:=h' }:Mv) = { m with d:=d',h:=h' }:=by
  have okr:=ok.r
  clear ok
  obtain ⟨mk,mi,mb,ml,md,mr,mba,mpr,mh⟩:=m
  simp only at hk okr hd hh
  subst hk
  obtain ⟨q1,q2,q3,q4,q5,q6,q7,q8⟩:=frn_to hf
  obtain rfl:mi = 0:=q1
  obtain rfl:mb = 0:=q2
  obtain rfl:ml = 0:=q3
  obtain rfl:mba = 0:=q4
  obtain rfl:mpr = 0:=q5
  obtain rfl:mr = zr 32:=q6
  obtain rfl:D = []:=len0' hd q7
  obtain rfl:hb = []:=len0 hh q8
  clear hf hl
  have eL:lays [1] ⟨3,0,0,0,md,(zr 32),0,0,mh⟩ [] [] = [ub 3]:=rfl
  rw [eL]
  have hu:(ub (3:Int)).toNat = 3:=by decide
  refine ⟨?_,?_,?_,?_,fun d' h'=>?_⟩
  · have e:∀ X,byt (ub (3:Int) :: X) 0 = ub (3:Int):=fun _=>rfl
    unfold kindB
    rw [if_neg (by simp),e,hu,if_neg (by omega)]
    rfl
  · rfl
  · rfl
  · rfl
  · rfl
set_option maxHeartbeats 1000000 in
theorem bk_4 (m:Mv) (ok:m.ok) (D hb:List UInt8) (hk:m.k = 4) (hf:frn (blks [1,3] m) = false) (hl:lks [1,3] m = true) (hd:sln m.d = D.length) (hh:hb.length = sln m.h * 32) :
    kindB (lays [1,3] m D hb) = 4∧(lays [1,3] m D hb).length = szs [1,3] m∧(decR (⟨4,5,5,1, [1,3,0,0,0,0,0]⟩:Kr) (lays [1,3] m D hb)).D = D∧(decR (⟨4,5,5,1, [1,3,0,0,0,0,0]⟩:Kr) (lays [1,3] m D hb)).hb = hb∧∀ d' h',({ (decR (⟨4,5,5,1, [1,3,0,0,0,0,0]⟩:Kr) (lays [1,3] m D hb)).m with d:=d',h:=h' }:Mv) = { m with d:=d',h:=h' }:=by
  have okr:=ok.r
  clear ok
  obtain ⟨mk,mi,mb,ml,md,mr,mba,mpr,mh⟩:=m
  simp only at hk okr hd hh
  subst hk
  obtain ⟨q1,q2,q3,q4,q5,q6,q7,q8⟩:=frn_to hf
  obtain rfl:mb = 0:=q2
  obtain rfl:ml = 0:=q3
  obtain rfl:mba = 0:=q4
  obtain rfl:mpr = 0:=q5
  obtain rfl:mr = zr 32:=q6
  obtain rfl:D = []:=len0' hd q7
  obtain rfl:hb = []:=len0 hh q8
  have g3:0≤mi∧mi≤4294967295:=rng_of (show rng 0 4294967295 mi = true from List.all_eq_true.1 hl 3 (by decide))
  clear hf hl
  obtain ⟨mi,rfl⟩:=Int.eq_ofNat_of_zero_le (show 0≤mi by omega)
  have eL:lays [1,3] ⟨4,(mi:Int),0,0,md,(zr 32),0,0,mh⟩ [] [] = ub 4 :: (be4 mi ++ []):=rfl
  rw [eL]
  have hu:(ub (4:Int)).toNat = 4:=by decide
  refine ⟨?_,?_,?_,?_,fun d' h'=>?_⟩
  · have e:∀ X,byt (ub (4:Int) :: X) 0 = ub (4:Int):=fun _=>rfl
    unfold kindB
    rw [if_neg (by simp),e,hu,if_neg (by omega)]
    rfl
  · show _ = 1 + (4 + (0))
    simp only [List.length_cons,List.length_append,List.length_nil,be4len]
    omega
  · rfl
  · rfl
  · show (⟨4,((nm4 (be4 mi ++ []):Nat):Int),0,0,d',zr 32,0,0,h'⟩:Mv) = _
    rw [nm4_be4 mi (by omega)]
set_option maxHeartbeats 1000000 in
theorem bk_5 (m:Mv) (ok:m.ok) (D hb:List UInt8) (hk:m.k = 5) (hf:frn (blks [1,10] m) = false) (hl:lks [1,10] m = true) (hd:sln m.d = D.length) (hh:hb.length = sln m.h * 32) :
    kindB (lays [1,10] m D hb) = 5∧(lays [1,10] m D hb).length = szs [1,10] m∧(decR (⟨5,1,8193,1, [1,10,0,0,0,0,0]⟩:Kr) (lays [1,10] m D hb)).D = D∧(decR (⟨5,1,8193,1, [1,10,0,0,0,0,0]⟩:Kr) (lays [1,10] m D hb)).hb = hb∧∀ d' h',({ (decR (⟨5,1,8193,1, [1,10,0,0,0,0,0]⟩:Kr) (lays [1,10] m D hb)).m with d:=d',h:=h' }:Mv) = { m with d:=d',h:=h' }:=by
  have okr:=ok.r
  clear ok
  obtain ⟨mk,mi,mb,ml,md,mr,mba,mpr,mh⟩:=m
  simp only at hk okr hd hh
  subst hk
  obtain ⟨q1,q2,q3,q4,q5,q6,q7,q8⟩:=frn_to hf
  obtain rfl:mi = 0:=q1
  obtain rfl:mb = 0:=q2
  obtain rfl:ml = 0:=q3
  obtain rfl:mba = 0:=q4
  obtain rfl:mpr = 0:=q5
  obtain rfl:mr = zr 32:=q6
  obtain rfl:hb = []:=len0 hh q8
  clear hf hl
  have eL:lays [1,10] ⟨5,0,0,0,md,(zr 32),0,0,mh⟩ D [] = ub 5 :: (D ++ []):=rfl
  rw [eL]
  have hu:(ub (5:Int)).toNat = 5:=by decide
  refine ⟨?_,?_,?_,?_,fun d' h'=>?_⟩
  · have e:∀ X,byt (ub (5:Int) :: X) 0 = ub (5:Int):=fun _=>rfl
    unfold kindB
    rw [if_neg (by simp),e,hu,if_neg (by omega)]
    rfl
  · show _ = 1 + (sln md + (0))
    simp only [List.length_cons,List.length_append,List.length_nil]
    omega
  · show D ++ [] = D
    simp
  · rfl
  · rfl
set_option maxHeartbeats 1000000 in
theorem bk_6 (m:Mv) (ok:m.ok) (D hb:List UInt8) (hk:m.k = 6) (hf:frn (blks [1,3,4,6] m) = false) (hl:lks [1,3,4,6] m = true) (hd:sln m.d = D.length) (hh:hb.length = sln m.h * 32) :
    kindB (lays [1,3,4,6] m D hb) = 6∧(lays [1,3,4,6] m D hb).length = szs [1,3,4,6] m∧(decR (⟨6,13,13,1, [1,3,4,6,0,0,0]⟩:Kr) (lays [1,3,4,6] m D hb)).D = D∧(decR (⟨6,13,13,1, [1,3,4,6,0,0,0]⟩:Kr) (lays [1,3,4,6] m D hb)).hb = hb∧∀ d' h',({ (decR (⟨6,13,13,1, [1,3,4,6,0,0,0]⟩:Kr) (lays [1,3,4,6] m D hb)).m with d:=d',h:=h' }:Mv) = { m with d:=d',h:=h' }:=by
  have okr:=ok.r
  clear ok
  obtain ⟨mk,mi,mb,ml,md,mr,mba,mpr,mh⟩:=m
  simp only at hk okr hd hh
  subst hk
  obtain ⟨q1,q2,q3,q4,q5,q6,q7,q8⟩:=frn_to hf
  obtain rfl:mba = 0:=q4
  obtain rfl:mpr = 0:=q5
  obtain rfl:mr = zr 32:=q6
  obtain rfl:D = []:=len0' hd q7
  obtain rfl:hb = []:=len0 hh q8
  have g3:0≤mi∧mi≤4294967295:=rng_of (show rng 0 4294967295 mi = true from List.all_eq_true.1 hl 3 (by decide))
  have g4:0≤mb∧mb≤4294967295:=rng_of (show rng 0 4294967295 mb = true from List.all_eq_true.1 hl 4 (by decide))
  have g6:1≤ml∧ml≤16384:=rng_of (show rng 1 16384 ml = true from List.all_eq_true.1 hl 6 (by decide))
  clear hf hl
  obtain ⟨mi,rfl⟩:=Int.eq_ofNat_of_zero_le (show 0≤mi by omega)
  obtain ⟨mb,rfl⟩:=Int.eq_ofNat_of_zero_le (show 0≤mb by omega)
  obtain ⟨ml,rfl⟩:=Int.eq_ofNat_of_zero_le (show 0≤ml by omega)
  have eL:lays [1,3,4,6] ⟨6,(mi:Int),(mb:Int),(ml:Int),md,(zr 32),0,0,mh⟩ [] [] = ub 6 :: (be4 mi ++ (be4 mb ++ (be4 ml ++ []))):=rfl
  rw [eL]
  have hu:(ub (6:Int)).toNat = 6:=by decide
  refine ⟨?_,?_,?_,?_,fun d' h'=>?_⟩
  · have e:∀ X,byt (ub (6:Int) :: X) 0 = ub (6:Int):=fun _=>rfl
    unfold kindB
    rw [if_neg (by simp),e,hu,if_neg (by omega)]
    rfl
  · show _ = 1 + (4 + (4 + (4 + (0))))
    simp only [List.length_cons,List.length_append,List.length_nil,be4len]
    omega
  · rfl
  · rfl
  · show (⟨6,((nm4 (be4 mi ++ (be4 mb ++ (be4 ml ++ []))):Nat):Int),((nm4 (be4 mb ++ (be4 ml ++ [])):Nat):Int),((nm4 (be4 ml ++ []):Nat):Int),d',zr 32,0,0,h'⟩:Mv) = _
    rw [nm4_be4 mi (by omega),nm4_be4 mb (by omega),nm4_be4 ml (by omega)]
set_option maxHeartbeats 1000000 in
theorem bk_7 (m:Mv) (ok:m.ok) (D hb:List UInt8) (hk:m.k = 7) (hf:frn (blks [1,3,4,10] m) = false) (hl:lks [1,3,4,10] m = true) (hd:sln m.d = D.length) (hh:hb.length = sln m.h * 32) :
    kindB (lays [1,3,4,10] m D hb) = 7∧(lays [1,3,4,10] m D hb).length = szs [1,3,4,10] m∧(decR (⟨7,10,16393,1, [1,3,4,10,0,0,0]⟩:Kr) (lays [1,3,4,10] m D hb)).D = D∧(decR (⟨7,10,16393,1, [1,3,4,10,0,0,0]⟩:Kr) (lays [1,3,4,10] m D hb)).hb = hb∧∀ d' h',({ (decR (⟨7,10,16393,1, [1,3,4,10,0,0,0]⟩:Kr) (lays [1,3,4,10] m D hb)).m with d:=d',h:=h' }:Mv) = { m with d:=d',h:=h' }:=by
  have okr:=ok.r
  clear ok
  obtain ⟨mk,mi,mb,ml,md,mr,mba,mpr,mh⟩:=m
  simp only at hk okr hd hh
  subst hk
  obtain ⟨q1,q2,q3,q4,q5,q6,q7,q8⟩:=frn_to hf
  obtain rfl:ml = 0:=q3
  obtain rfl:mba = 0:=q4
  obtain rfl:mpr = 0:=q5
  obtain rfl:mr = zr 32:=q6
  obtain rfl:hb = []:=len0 hh q8
  have g3:0≤mi∧mi≤4294967295:=rng_of (show rng 0 4294967295 mi = true from List.all_eq_true.1 hl 3 (by decide))
  have g4:0≤mb∧mb≤4294967295:=rng_of (show rng 0 4294967295 mb = true from List.all_eq_true.1 hl 4 (by decide))
  clear hf hl
  obtain ⟨mi,rfl⟩:=Int.eq_ofNat_of_zero_le (show 0≤mi by omega)
  obtain ⟨mb,rfl⟩:=Int.eq_ofNat_of_zero_le (show 0≤mb by omega)
  have eL:lays [1,3,4,10] ⟨7,(mi:Int),(mb:Int),0,md,(zr 32),0,0,mh⟩ D [] = ub 7 :: (be4 mi ++ (be4 mb ++ (D ++ []))):=rfl
  rw [eL]
  have hu:(ub (7:Int)).toNat = 7:=by decide
  refine ⟨?_,?_,?_,?_,fun d' h'=>?_⟩
  · have e:∀ X,byt (ub (7:Int) :: X) 0 = ub (7:Int):=fun _=>rfl
    unfold kindB
    rw [if_neg (by simp),e,hu,if_neg (by omega)]
    rfl
  · show _ = 1 + (4 + (4 + (sln md + (0))))
    simp only [List.length_cons,List.length_append,List.length_nil,be4len]
    omega
  · show D ++ [] = D
    simp
  · rfl
  · show (⟨7,((nm4 (be4 mi ++ (be4 mb ++ (D ++ []))):Nat):Int),((nm4 (be4 mb ++ (D ++ [])):Nat):Int),0,d',zr 32,0,0,h'⟩:Mv) = _
    rw [nm4_be4 mi (by omega),nm4_be4 mb (by omega)]
set_option maxHeartbeats 1000000 in
theorem bk_8 (m:Mv) (ok:m.ok) (D hb:List UInt8) (hk:m.k = 8) (hf:frn (blks [1,3,4,6] m) = false) (hl:lks [1,3,4,6] m = true) (hd:sln m.d = D.length) (hh:hb.length = sln m.h * 32) :
    kindB (lays [1,3,4,6] m D hb) = 8∧(lays [1,3,4,6] m D hb).length = szs [1,3,4,6] m∧(decR (⟨8,13,13,1, [1,3,4,6,0,0,0]⟩:Kr) (lays [1,3,4,6] m D hb)).D = D∧(decR (⟨8,13,13,1, [1,3,4,6,0,0,0]⟩:Kr) (lays [1,3,4,6] m D hb)).hb = hb∧∀ d' h',({ (decR (⟨8,13,13,1, [1,3,4,6,0,0,0]⟩:Kr) (lays [1,3,4,6] m D hb)).m with d:=d',h:=h' }:Mv) = { m with d:=d',h:=h' }:=by
  have okr:=ok.r
  clear ok
  obtain ⟨mk,mi,mb,ml,md,mr,mba,mpr,mh⟩:=m
  simp only at hk okr hd hh
  subst hk
  obtain ⟨q1,q2,q3,q4,q5,q6,q7,q8⟩:=frn_to hf
  obtain rfl:mba = 0:=q4
  obtain rfl:mpr = 0:=q5
  obtain rfl:mr = zr 32:=q6
  obtain rfl:D = []:=len0' hd q7
  obtain rfl:hb = []:=len0 hh q8
  have g3:0≤mi∧mi≤4294967295:=rng_of (show rng 0 4294967295 mi = true from List.all_eq_true.1 hl 3 (by decide))
  have g4:0≤mb∧mb≤4294967295:=rng_of (show rng 0 4294967295 mb = true from List.all_eq_true.1 hl 4 (by decide))
  have g6:1≤ml∧ml≤16384:=rng_of (show rng 1 16384 ml = true from List.all_eq_true.1 hl 6 (by decide))
  clear hf hl
  obtain ⟨mi,rfl⟩:=Int.eq_ofNat_of_zero_le (show 0≤mi by omega)
  obtain ⟨mb,rfl⟩:=Int.eq_ofNat_of_zero_le (show 0≤mb by omega)
  obtain ⟨ml,rfl⟩:=Int.eq_ofNat_of_zero_le (show 0≤ml by omega)
  have eL:lays [1,3,4,6] ⟨8,(mi:Int),(mb:Int),(ml:Int),md,(zr 32),0,0,mh⟩ [] [] = ub 8 :: (be4 mi ++ (be4 mb ++ (be4 ml ++ []))):=rfl
  rw [eL]
  have hu:(ub (8:Int)).toNat = 8:=by decide
  refine ⟨?_,?_,?_,?_,fun d' h'=>?_⟩
  · have e:∀ X,byt (ub (8:Int) :: X) 0 = ub (8:Int):=fun _=>rfl
    unfold kindB
    rw [if_neg (by simp),e,hu,if_neg (by omega)]
    rfl
  · show _ = 1 + (4 + (4 + (4 + (0))))
    simp only [List.length_cons,List.length_append,List.length_nil,be4len]
    omega
  · rfl
  · rfl
  · show (⟨8,((nm4 (be4 mi ++ (be4 mb ++ (be4 ml ++ []))):Nat):Int),((nm4 (be4 mb ++ (be4 ml ++ [])):Nat):Int),((nm4 (be4 ml ++ []):Nat):Int),d',zr 32,0,0,h'⟩:Mv) = _
    rw [nm4_be4 mi (by omega),nm4_be4 mb (by omega),nm4_be4 ml (by omega)]
set_option maxHeartbeats 1000000 in
theorem bk_21 (m:Mv) (ok:m.ok) (D hb:List UInt8) (hk:m.k = 21) (hf:frn (blks [1,7,8,3,5,9] m) = false) (hl:lks [1,7,8,3,5,9] m = true) (hd:sln m.d = D.length) (hh:hb.length = sln m.h * 32) :
    kindB (lays [1,7,8,3,5,9] m D hb) = 21∧(lays [1,7,8,3,5,9] m D hb).length = szs [1,7,8,3,5,9] m∧(decR (⟨21,49,49,1, [1,7,8,3,5,9,0]⟩:Kr) (lays [1,7,8,3,5,9] m D hb)).D = D∧(decR (⟨21,49,49,1, [1,7,8,3,5,9,0]⟩:Kr) (lays [1,7,8,3,5,9] m D hb)).hb = hb∧∀ d' h',({ (decR (⟨21,49,49,1, [1,7,8,3,5,9,0]⟩:Kr) (lays [1,7,8,3,5,9] m D hb)).m with d:=d',h:=h' }:Mv) = { m with d:=d',h:=h' }:=by
  have okr:=ok.r
  clear ok
  obtain ⟨mk,mi,mb,ml,md,mr,mba,mpr,mh⟩:=m
  simp only at hk okr hd hh
  subst hk
  obtain ⟨q1,q2,q3,q4,q5,q6,q7,q8⟩:=frn_to hf
  obtain rfl:mb = 0:=q2
  obtain rfl:D = []:=len0' hd q7
  obtain rfl:hb = []:=len0 hh q8
  have g8:0≤mba∧mba≤4294967295:=rng_of (show rng 0 4294967295 mba = true from List.all_eq_true.1 hl 8 (by decide))
  have g3:0≤mi∧mi≤4294967295:=rng_of (show rng 0 4294967295 mi = true from List.all_eq_true.1 hl 3 (by decide))
  have g5:0≤ml∧ml≤4294967295:=rng_of (show rng 0 4294967295 ml = true from List.all_eq_true.1 hl 5 (by decide))
  have g9:0≤mpr∧mpr≤4294967295:=rng_of (show rng 0 4294967295 mpr = true from List.all_eq_true.1 hl 9 (by decide))
  clear hf hl
  obtain ⟨mi,rfl⟩:=Int.eq_ofNat_of_zero_le (show 0≤mi by omega)
  obtain ⟨ml,rfl⟩:=Int.eq_ofNat_of_zero_le (show 0≤ml by omega)
  obtain ⟨mba,rfl⟩:=Int.eq_ofNat_of_zero_le (show 0≤mba by omega)
  obtain ⟨mpr,rfl⟩:=Int.eq_ofNat_of_zero_le (show 0≤mpr by omega)
  have eL:lays [1,7,8,3,5,9] ⟨21,(mi:Int),0,(ml:Int),md,mr,(mba:Int),(mpr:Int),mh⟩ [] [] = ub 21 :: (mr ++ (be4 mba ++ (be4 mi ++ (be4 ml ++ (be4 mpr ++ []))))):=rfl
  rw [eL]
  have hu:(ub (21:Int)).toNat = 21:=by decide
  refine ⟨?_,?_,?_,?_,fun d' h'=>?_⟩
  · have e:∀ X,byt (ub (21:Int) :: X) 0 = ub (21:Int):=fun _=>rfl
    unfold kindB
    rw [if_neg (by simp),e,hu,if_neg (by omega)]
    rfl
  · show _ = 1 + (32 + (4 + (4 + (4 + (4 + (0))))))
    simp only [List.length_cons,List.length_append,List.length_nil,be4len]
    omega
  · rfl
  · rfl
  · have em:∀ X:List UInt8,(decR (⟨21,49,49,1, [1,7,8,3,5,9,0]⟩:Kr) (ub 21 :: X)).m = { zmk 21 with r:=X.take 32,ba:=(nm4 (X.drop 32):Int),i:=(nm4 ((X.drop 32).drop 4):Int),l:=(nm4 (((X.drop 32).drop 4).drop 4):Int),pr:=(nm4 ((((X.drop 32).drop 4).drop 4).drop 4):Int) }:=fun _=>rfl
    rw [em,List.take_left' okr,List.drop_left' okr]
    simp only [drop_be4]
    rw [nm4_be4 mi (by omega),nm4_be4 ml (by omega),nm4_be4 mba (by omega),nm4_be4 mpr (by omega)]
    rfl
set_option maxHeartbeats 1000000 in
theorem bk_22 (m:Mv) (ok:m.ok) (D hb:List UInt8) (hk:m.k = 22) (hf:frn (blks [1,7,8,3,5,9,11] m) = false) (hl:lks [1,7,8,3,5,9,11] m = true) (hd:sln m.d = D.length) (hh:hb.length = sln m.h * 32) :
    kindB (lays [1,7,8,3,5,9,11] m D hb) = 22∧(lays [1,7,8,3,5,9,11] m D hb).length = szs [1,7,8,3,5,9,11] m∧(decR (⟨22,49,17969,32, [1,7,8,3,5,9,11]⟩:Kr) (lays [1,7,8,3,5,9,11] m D hb)).D = D∧(decR (⟨22,49,17969,32, [1,7,8,3,5,9,11]⟩:Kr) (lays [1,7,8,3,5,9,11] m D hb)).hb = hb∧∀ d' h',({ (decR (⟨22,49,17969,32, [1,7,8,3,5,9,11]⟩:Kr) (lays [1,7,8,3,5,9,11] m D hb)).m with d:=d',h:=h' }:Mv) = { m with d:=d',h:=h' }:=by
  have okr:=ok.r
  clear ok
  obtain ⟨mk,mi,mb,ml,md,mr,mba,mpr,mh⟩:=m
  simp only at hk okr hd hh
  subst hk
  obtain ⟨q1,q2,q3,q4,q5,q6,q7,q8⟩:=frn_to hf
  obtain rfl:mb = 0:=q2
  obtain rfl:D = []:=len0' hd q7
  have g8:0≤mba∧mba≤4294967295:=rng_of (show rng 0 4294967295 mba = true from List.all_eq_true.1 hl 8 (by decide))
  have g3:0≤mi∧mi≤4294967295:=rng_of (show rng 0 4294967295 mi = true from List.all_eq_true.1 hl 3 (by decide))
  have g5:0≤ml∧ml≤4294967295:=rng_of (show rng 0 4294967295 ml = true from List.all_eq_true.1 hl 5 (by decide))
  have g9:0≤mpr∧mpr≤4294967295:=rng_of (show rng 0 4294967295 mpr = true from List.all_eq_true.1 hl 9 (by decide))
  clear hf hl
  obtain ⟨mi,rfl⟩:=Int.eq_ofNat_of_zero_le (show 0≤mi by omega)
  obtain ⟨ml,rfl⟩:=Int.eq_ofNat_of_zero_le (show 0≤ml by omega)
  obtain ⟨mba,rfl⟩:=Int.eq_ofNat_of_zero_le (show 0≤mba by omega)
  obtain ⟨mpr,rfl⟩:=Int.eq_ofNat_of_zero_le (show 0≤mpr by omega)
  have eL:lays [1,7,8,3,5,9,11] ⟨22,(mi:Int),0,(ml:Int),md,mr,(mba:Int),(mpr:Int),mh⟩ [] hb = ub 22 :: (mr ++ (be4 mba ++ (be4 mi ++ (be4 ml ++ (be4 mpr ++ (hb ++ [])))))):=rfl
  rw [eL]
  have hu:(ub (22:Int)).toNat = 22:=by decide
  refine ⟨?_,?_,?_,?_,fun d' h'=>?_⟩
  · have e:∀ X,byt (ub (22:Int) :: X) 0 = ub (22:Int):=fun _=>rfl
    unfold kindB
    rw [if_neg (by simp),e,hu,if_neg (by omega)]
    rfl
  · show _ = 1 + (32 + (4 + (4 + (4 + (4 + (32 * sln mh + (0)))))))
    simp only [List.length_cons,List.length_append,List.length_nil,be4len]
    omega
  · rfl
  · have eh:∀ X:List UInt8,(decR (⟨22,49,17969,32, [1,7,8,3,5,9,11]⟩:Kr) (ub 22 :: X)).hb = ((((X.drop 32).drop 4).drop 4).drop 4).drop 4:=fun _=>rfl
    rw [eh,List.drop_left' okr]
    simp only [drop_be4]
    exact List.append_nil hb
  · have em:∀ X:List UInt8,(decR (⟨22,49,17969,32, [1,7,8,3,5,9,11]⟩:Kr) (ub 22 :: X)).m = { zmk 22 with r:=X.take 32,ba:=(nm4 (X.drop 32):Int),i:=(nm4 ((X.drop 32).drop 4):Int),l:=(nm4 (((X.drop 32).drop 4).drop 4):Int),pr:=(nm4 ((((X.drop 32).drop 4).drop 4).drop 4):Int) }:=fun _=>rfl
    rw [em,List.take_left' okr,List.drop_left' okr]
    simp only [drop_be4]
    rw [nm4_be4 mi (by omega),nm4_be4 ml (by omega),nm4_be4 mba (by omega),nm4_be4 mpr (by omega)]
    rfl
set_option maxHeartbeats 1000000 in
theorem bk_23 (m:Mv) (ok:m.ok) (D hb:List UInt8) (hk:m.k = 23) (hf:frn (blks [1,7,8,3,5,9] m) = false) (hl:lks [1,7,8,3,5,9] m = true) (hd:sln m.d = D.length) (hh:hb.length = sln m.h * 32) :
    kindB (lays [1,7,8,3,5,9] m D hb) = 23∧(lays [1,7,8,3,5,9] m D hb).length = szs [1,7,8,3,5,9] m∧(decR (⟨23,49,49,1, [1,7,8,3,5,9,0]⟩:Kr) (lays [1,7,8,3,5,9] m D hb)).D = D∧(decR (⟨23,49,49,1, [1,7,8,3,5,9,0]⟩:Kr) (lays [1,7,8,3,5,9] m D hb)).hb = hb∧∀ d' h',({ (decR (⟨23,49,49,1, [1,7,8,3,5,9,0]⟩:Kr) (lays [1,7,8,3,5,9] m D hb)).m with d:=d',h:=h' }:Mv) = { m with d:=d',h:=h' }:=by
  have okr:=ok.r
  clear ok
  obtain ⟨mk,mi,mb,ml,md,mr,mba,mpr,mh⟩:=m
  simp only at hk okr hd hh
  subst hk
  obtain ⟨q1,q2,q3,q4,q5,q6,q7,q8⟩:=frn_to hf
  obtain rfl:mb = 0:=q2
  obtain rfl:D = []:=len0' hd q7
  obtain rfl:hb = []:=len0 hh q8
  have g8:0≤mba∧mba≤4294967295:=rng_of (show rng 0 4294967295 mba = true from List.all_eq_true.1 hl 8 (by decide))
  have g3:0≤mi∧mi≤4294967295:=rng_of (show rng 0 4294967295 mi = true from List.all_eq_true.1 hl 3 (by decide))
  have g5:0≤ml∧ml≤4294967295:=rng_of (show rng 0 4294967295 ml = true from List.all_eq_true.1 hl 5 (by decide))
  have g9:0≤mpr∧mpr≤4294967295:=rng_of (show rng 0 4294967295 mpr = true from List.all_eq_true.1 hl 9 (by decide))
  clear hf hl
  obtain ⟨mi,rfl⟩:=Int.eq_ofNat_of_zero_le (show 0≤mi by omega)
  obtain ⟨ml,rfl⟩:=Int.eq_ofNat_of_zero_le (show 0≤ml by omega)
  obtain ⟨mba,rfl⟩:=Int.eq_ofNat_of_zero_le (show 0≤mba by omega)
  obtain ⟨mpr,rfl⟩:=Int.eq_ofNat_of_zero_le (show 0≤mpr by omega)
  have eL:lays [1,7,8,3,5,9] ⟨23,(mi:Int),0,(ml:Int),md,mr,(mba:Int),(mpr:Int),mh⟩ [] [] = ub 23 :: (mr ++ (be4 mba ++ (be4 mi ++ (be4 ml ++ (be4 mpr ++ []))))):=rfl
  rw [eL]
  have hu:(ub (23:Int)).toNat = 23:=by decide
  refine ⟨?_,?_,?_,?_,fun d' h'=>?_⟩
  · have e:∀ X,byt (ub (23:Int) :: X) 0 = ub (23:Int):=fun _=>rfl
    unfold kindB
    rw [if_neg (by simp),e,hu,if_neg (by omega)]
    rfl
  · show _ = 1 + (32 + (4 + (4 + (4 + (4 + (0))))))
    simp only [List.length_cons,List.length_append,List.length_nil,be4len]
    omega
  · rfl
  · rfl
  · have em:∀ X:List UInt8,(decR (⟨23,49,49,1, [1,7,8,3,5,9,0]⟩:Kr) (ub 23 :: X)).m = { zmk 23 with r:=X.take 32,ba:=(nm4 (X.drop 32):Int),i:=(nm4 ((X.drop 32).drop 4):Int),l:=(nm4 (((X.drop 32).drop 4).drop 4):Int),pr:=(nm4 ((((X.drop 32).drop 4).drop 4).drop 4):Int) }:=fun _=>rfl
    rw [em,List.take_left' okr,List.drop_left' okr]
    simp only [drop_be4]
    rw [nm4_be4 mi (by omega),nm4_be4 ml (by omega),nm4_be4 mba (by omega),nm4_be4 mpr (by omega)]
    rfl
set_option maxHeartbeats 1000000 in
theorem bk_1000 (m:Mv) (ok:m.ok) (D hb:List UInt8) (hk:m.k = 1000) (hf:frn (blks [2,10] m) = false) (hl:lks [2,10] m = true) (hd:sln m.d = D.length) (hh:hb.length = sln m.h * 32) :
    kindB (lays [2,10] m D hb) = 1000∧(lays [2,10] m D hb).length = szs [2,10] m∧(decR (⟨1000,1,32768,1, [2,10,0,0,0,0,0]⟩:Kr) (lays [2,10] m D hb)).D = D∧(decR (⟨1000,1,32768,1, [2,10,0,0,0,0,0]⟩:Kr) (lays [2,10] m D hb)).hb = hb∧∀ d' h',({ (decR (⟨1000,1,32768,1, [2,10,0,0,0,0,0]⟩:Kr) (lays [2,10] m D hb)).m with d:=d',h:=h' }:Mv) = { m with d:=d',h:=h' }:=by
  have okr:=ok.r
  clear ok
  obtain ⟨mk,mi,mb,ml,md,mr,mba,mpr,mh⟩:=m
  simp only at hk okr hd hh
  subst hk
  obtain ⟨q1,q2,q3,q4,q5,q6,q7,q8⟩:=frn_to hf
  obtain rfl:mb = 0:=q2
  obtain rfl:ml = 0:=q3
  obtain rfl:mba = 0:=q4
  obtain rfl:mpr = 0:=q5
  obtain rfl:mr = zr 32:=q6
  obtain rfl:hb = []:=len0 hh q8
  have g2:64≤mi∧mi≤255:=rng_of (show rng 64 255 mi = true from List.all_eq_true.1 hl 2 (by decide))
  clear hf hl
  obtain ⟨mi,rfl⟩:=Int.eq_ofNat_of_zero_le (show 0≤mi by omega)
  have eL:lays [2,10] ⟨1000,(mi:Int),0,0,md,(zr 32),0,0,mh⟩ D [] = ub (mi:Int) :: (D ++ []):=rfl
  rw [eL]
  have hu:(ub (mi:Int)).toNat = mi:=by have:=ub_val (mi:Int); omega
  refine ⟨?_,?_,?_,rfl,fun d' h'=>?_⟩
  · have e:byt (ub (mi:Int) :: (D ++ [])) 0 = ub (mi:Int):=rfl
    unfold kindB
    rw [if_neg (by simp),e,hu,if_pos (by omega)]
  · show _ = 1 + (sln md + 0)
    simp only [List.length_cons,List.length_append,List.length_nil]
    omega
  · show D ++ [] = D
    simp
  · show (⟨1000,((byt (ub (mi:Int) :: (D ++ [])) 0).toNat:Int),0,0,d',zr 32,0,0,h'⟩:Mv) = ⟨1000,(mi:Int),0,0,d',zr 32,0,0,h'⟩
    rw [show byt (ub (mi:Int) :: (D ++ [])) 0 = ub (mi:Int) from rfl,hu]
theorem back_way (m:Mv) (ok:m.ok) (D hb:List UInt8) (h:valE m = 0) (hd:sln m.d = D.length) (hh:hb.length = sln m.h * 32) :
    decE (encB m D hb) = 0∧(decS (encB m D hb)).D = D∧(decS (encB m D hb)).hb = hb∧(∀ d' h',({ (decS (encB m D hb)).m with d:=d',h:=h' }:Mv) = { m with d:=d',h:=h' })∧(encB m D hb).length≤32768:=by
  have he:encB m D hb = (match rowFor m.k with | some r=>lays r.cs m D hb | none=>[]):=by unfold encB; exact if_pos h
  unfold valE at h
  cases hr:rowFor m.k with
  | none=>rw [hr] at h; simp at h
  | some r =>
    rw [hr] at h he
    simp only at h he
    split at h
    · omega
    · rename_i hfrn
      have hfrn':frn (blks r.cs m) = false:=by simpa using hfrn
      split at h
      · rename_i hlk
        split at h
        · rename_i hfit
          obtain ⟨hmem,hkk⟩:=rowFor_mem hr
          have key:kindB (lays r.cs m D hb) = r.k∧(lays r.cs m D hb).length = szs r.cs m∧(decR r (lays r.cs m D hb)).D = D∧(decR r (lays r.cs m D hb)).hb = hb∧∀ d' h',({ (decR r (lays r.cs m D hb)).m with d:=d',h:=h' }:Mv) = { m with d:=d',h:=h' }:=by
            clear hr hfrn he hfit
            simp only [rws,List.mem_cons,List.not_mem_nil,or_false] at hmem
            rcases hmem with rfl | rfl | rfl | rfl | rfl | rfl | rfl | rfl | rfl | rfl | rfl | rfl | rfl | rfl
            · exact bk_n1 m ok D hb hkk.symm hfrn' hlk hd hh
            · exact bk_0 m ok D hb hkk.symm hfrn' hlk hd hh
            · exact bk_1 m ok D hb hkk.symm hfrn' hlk hd hh
            · exact bk_2 m ok D hb hkk.symm hfrn' hlk hd hh
            · exact bk_3 m ok D hb hkk.symm hfrn' hlk hd hh
            · exact bk_4 m ok D hb hkk.symm hfrn' hlk hd hh
            · exact bk_5 m ok D hb hkk.symm hfrn' hlk hd hh
            · exact bk_6 m ok D hb hkk.symm hfrn' hlk hd hh
            · exact bk_7 m ok D hb hkk.symm hfrn' hlk hd hh
            · exact bk_8 m ok D hb hkk.symm hfrn' hlk hd hh
            · exact bk_21 m ok D hb hkk.symm hfrn' hlk hd hh
            · exact bk_22 m ok D hb hkk.symm hfrn' hlk hd hh
            · exact bk_23 m ok D hb hkk.symm hfrn' hlk hd hh
            · exact bk_1000 m ok D hb hkk.symm hfrn' hlk hd hh
          obtain ⟨k1,k2,k3,k4,k5⟩:=key
          have hle:(lays r.cs m D hb).length≤32768:=by
            have h1:=fit_le hfit
            have h2:=rws_mo r hmem
            omega
          have hlk2:lks r.cs (decR r (lays r.cs m D hb)).m = true:=by
            have h9:=lks_same r.cs (decR r (lays r.cs m D hb)).m m.d m.h
            rw [← h9,k5]
            exact hlk
          have hE:decE (lays r.cs m D hb) = 0:=by
            unfold decE
            rw [if_neg (by omega),k1,hkk,hr]
            simp only [k2,hfit,hlk2]
            rfl
          have hS:decS (lays r.cs m D hb) = decR r (lays r.cs m D hb):=by
            unfold decS
            rw [if_pos hE,k1,hkk,hr]
          rw [he,hS]
          exact ⟨hE,k3,k4,k5,hle⟩
        · omega
      · omega
end Go.Proofs.YtfjjpbebnoghmaaGreatDoor
