import Derived.Test.YtfjjpbebnoghmaaGreatDoorK00
import Derived.Test.YtfjjpbebnoghmaaGreatDoorK09
import Derived.Test.YtfjjpbebnoghmaaGreatDoorK10
namespace Go.Proofs.YtfjjpbebnoghmaaGreatDoor
open Go.RowKit
theorem kindB_low {l:List UInt8} {k:Nat} (h0:0 < l.length) (hk:(byt l 0).toNat = k) (h:k < 64):kindB l = (k:Int):=by
  unfold kindB
  rw [if_neg (by intro e; rw [e] at h0; simp at h0),hk,if_neg (by omega)]
theorem kindB_high {l:List UInt8} {k:Nat} (h0:0 < l.length) (hk:(byt l 0).toNat = k) (h:64≤k):kindB l = 1000:=by
  unfold kindB
  rw [if_neg (by intro e; rw [e] at h0; simp at h0),hk,if_pos h]
set_option maxHeartbeats 1000000 in
set_option maxRecDepth 100000 in
theorem rDec_A (w:World) (v:Value) (l:List UInt8) (hl:l.length≤140737488351232) (hr:RB w v l) (h1:32768 < l.length):Calls Tryz.prog 45 #[v] w fun e w'=>DCR w w' e l:=by
  obtain ⟨a,c,rfl,_⟩:=hr
  have hz:=heapNew w (.cells z40 40)
  have b0:Below w.heap.size w (w.alloc (.cells z40 40)):=(Below.refl _ _).alloc (Nat.le_refl _) _
  have HE:Hid (decE l = 111):=by unfold Hid decE; rw [if_pos h1]
  go_enter Tryz.func45,Tryz.ntmps45
  go_wp2_with (first |(refine wpList_store_row rfl 40 _ _ rfl w.heap.size z40 rfl rfl 40 z40 hz z40_info rfl z40_one ?_))
  exact bodyPost_ret (results_msg2 Tryz.results45 _ _ w.heap.size zm rfl (heapSetRow _ _ _ _ _ hz) zm_ok) rfl (DCR.err (by rw [HE.out]; decide) (by rw [HE.out]; rfl) (belowSetRow b0 (Nat.le_refl _) _))
set_option maxHeartbeats 1000000 in
set_option maxRecDepth 100000 in
theorem rDec_B (w:World) (v:Value) (hr:RB w v []):Calls Tryz.prog 45 #[v] w fun e w'=>DCR w w' e []:=by
  obtain ⟨a,c,rfl,_⟩:=hr
  have hz:=heapNew w (.cells z40 40)
  have b0:Below w.heap.size w (w.alloc (.cells z40 40)):=(Below.refl _ _).alloc (Nat.le_refl _) _
  have hki:=zk40_info (-1)
  have hko:=zk40_one (-1)
  have hkb:=zk40_built (-1)
  have hS:decE [] = 0∧decS [] = decR ⟨-1,0,0,1, [0,0,0,0,0,0,0]⟩ []:=decS_of (by simp) rfl rfl rfl
  have HS:Hid (DCR w ((w.alloc (.cells z40 40)).setRow w.heap.size (zk40 (-1))) (.returned (.tuple #[.agg (zmk (-1)).cs,.int .i64 0])) []):=by
    unfold DCR
    rw [hS.1,hS.2]
    exact ⟨_,_,rfl,World.ownsRow_nil _ _ _ _,OH.nil _ _,belowSetRow b0 (Nat.le_refl _) _⟩
  clear b0 hS
  go_enter Tryz.func45,Tryz.ntmps45
  go_wp2_with (first |(refine wpList_built rfl 40 _ rfl (zk40 (-1)) hkb ?_) |(refine wpList_store_row rfl 40 _ _ rfl w.heap.size (zk40 (-1)) rfl rfl 40 z40 hz hki rfl hko ?_))
  exact bodyPost_ret (results_msg2 Tryz.results45 _ _ w.heap.size (zmk (-1)) rfl (heapSetRow _ _ _ _ _ hz) (zmk_ok (-1))) rfl HS.out
set_option maxHeartbeats 1000000 in
set_option maxRecDepth 100000 in
theorem rDec_C (w:World) (v:Value) (l:List UInt8) (hr:RB w v l) (hl1:0 < l.length) (hl2:l.length≤32768) (k:Nat) (hk:(byt l 0).toNat = k) (h64:k < 64) (hkn:knownB (k:Int) = false) (hE:decE l = 110):Calls Tryz.prog 45 #[v] w fun e w'=>DCR w w' e l:=by
  obtain ⟨b,off,c,rfl,_,hc⟩:=hr.cells hl1
  have c0:w.cell? ⟨b,off,none⟩ = some (.int .u8 (k:Int)):=by rw [← hk]; exact hc 0 hl1
  have hb:b < w.heap.size:=World.block_lt_of_cell? w _ c0
  have hk256:k < 256:=by have:=UInt8.toNat_lt (byt l 0); omega
  have b0:Below w.heap.size w (w.alloc (.cells z40 40)):=(Below.refl _ _).alloc (Nat.le_refl _) _
  have c1:(w.alloc (.cells z40 40)).cell? ⟨b,off,none⟩ = some (.int .u8 (k:Int)):=(b0.cell (p:=⟨b,off,none⟩) hb).trans c0
  have hz:=heapNew w (.cells z40 40)
  have HA:Hid (Below w.heap.size w (w.alloc (.cells z40 40))):=b0
  have HE:Hid (decE l = 110):=hE
  clear hc hk b0 c0 hr hE
  generalize hlen:l.length = n at *
  clear hlen
  go_enter Tryz.func45,Tryz.ntmps45
  go_wp2_with fail
  refine (knownT _ _).mono ?_
  rintro e w0 ⟨rfl,rfl⟩
  rw [hkn]
  go_wp2_with (first |(refine wpList_store_row rfl 40 _ _ rfl w.heap.size z40 rfl rfl 40 z40 hz z40_info rfl z40_one ?_))
  exact bodyPost_ret (results_msg2 Tryz.results45 _ _ w.heap.size zm rfl (heapSetRow _ _ _ _ _ hz) zm_ok) rfl (DCR.err (by rw [HE.out]; decide) (by rw [HE.out]; rfl) (belowSetRow HA.out (Nat.le_refl _) _))
set_option maxHeartbeats 1000000 in
set_option maxRecDepth 100000 in
theorem rDec_D (w:World) (v:Value) (l:List UInt8) (hr:RB w v l) (hl1:0 < l.length) (hl2:l.length≤32768) (k:Nat) (hk:(byt l 0).toNat = k) (hkn:64≤k∨knownB (k:Int) = true) (hsz:szdB (k:Int) (l.length:Int) = false) (hE:decE l = 111):Calls Tryz.prog 45 #[v] w fun e w'=>DCR w w' e l:=by
  obtain ⟨b,off,c,rfl,_,hc⟩:=hr.cells hl1
  have c0:w.cell? ⟨b,off,none⟩ = some (.int .u8 (k:Int)):=by rw [← hk]; exact hc 0 hl1
  have hb:b < w.heap.size:=World.block_lt_of_cell? w _ c0
  have hk256:k < 256:=by have:=UInt8.toNat_lt (byt l 0); omega
  have b0:Below w.heap.size w (w.alloc (.cells z40 40)):=(Below.refl _ _).alloc (Nat.le_refl _) _
  have c1:(w.alloc (.cells z40 40)).cell? ⟨b,off,none⟩ = some (.int .u8 (k:Int)):=(b0.cell (p:=⟨b,off,none⟩) hb).trans c0
  have hz:=heapNew w (.cells z40 40)
  have HA:Hid (Below w.heap.size w (w.alloc (.cells z40 40))):=b0
  have HE:Hid (decE l = 111):=hE
  clear hc hk b0 c0 hr hE
  generalize hlen:l.length = n at *
  clear hlen
  by_cases h64:64≤k
  · clear hkn
    go_enter Tryz.func45,Tryz.ntmps45
    go_wp2_with fail
    refine (rsizedT _ _ _ (by omega) (by omega)).mono ?_
    rintro e w0 ⟨rfl,rfl⟩
    rw [hsz]
    go_wp2_with (first |(refine wpList_store_row rfl 40 _ _ rfl w.heap.size z40 rfl rfl 40 z40 hz z40_info rfl z40_one ?_))
    exact bodyPost_ret (results_msg2 Tryz.results45 _ _ w.heap.size zm rfl (heapSetRow _ _ _ _ _ hz) zm_ok) rfl (DCR.err (by rw [HE.out]; decide) (by rw [HE.out]; rfl) (belowSetRow HA.out (Nat.le_refl _) _))
  · have hkn' : knownB (k : Int) = true := by rcases hkn with h | h; · exact absurd h h64
                                              · exact h
    clear hkn
    have h64':k < 64:=by omega
    clear h64
    go_enter Tryz.func45,Tryz.ntmps45
    go_wp2_with fail
    refine (knownT _ _).mono ?_
    rintro e w0 ⟨rfl,rfl⟩
    rw [hkn']
    go_wp2_with fail
    refine (rsizedT _ _ _ (by omega) (by omega)).mono ?_
    rintro e w0 ⟨rfl,rfl⟩
    rw [hsz]
    go_wp2_with (first |(refine wpList_store_row rfl 40 _ _ rfl w.heap.size z40 rfl rfl 40 z40 hz z40_info rfl z40_one ?_))
    exact bodyPost_ret (results_msg2 Tryz.results45 _ _ w.heap.size zm rfl (heapSetRow _ _ _ _ _ hz) zm_ok) rfl (DCR.err (by rw [HE.out]; decide) (by rw [HE.out]; rfl) (belowSetRow HA.out (Nat.le_refl _) _))
theorem lks_of {cs:List Nat} {m:Mv} (h:∀ c ∈ cs,lk c m = true):lks cs m = true:=List.all_eq_true.2 h
theorem rng_nm (l:List UInt8):rng 0 4294967295 (nm4 l:Int) = true:=by
  have:=nm4_lt l
  unfold rng
  exact decide_eq_true ⟨by omega,by omega⟩
theorem fit_szd (k:Nat) (n:Nat) (r:Kr) (hn:1≤n) (hr:rowFor (k:Int) = some r) (hk:k < 64):r.fit (n:Int) = szdB (k:Int) (n:Int):=by
  obtain ⟨hmem,hkk⟩:=rowFor_mem hr
  simp only [rws,List.mem_cons,List.not_mem_nil,or_false] at hmem
  rcases hmem with rfl | rfl | rfl | rfl | rfl | rfl | rfl | rfl | rfl | rfl | rfl | rfl | rfl | rfl
  · simp only at hkk; omega
  · obtain rfl:k = 0:=by simp only at hkk; omega
    show (decide ((1:Int)≤(n:Int)) && decide ((n:Int)≤1) && (((n:Int) - 1) % 1 == 0)) = ((n:Int) == 1)
    first | rfl |(rw [Bool.eq_iff_iff]; simp; done) |(rw [Bool.eq_iff_iff]; simp; omega)
  · obtain rfl:k = 1:=by simp only at hkk; omega
    show (decide ((1:Int)≤(n:Int)) && decide ((n:Int)≤1) && (((n:Int) - 1) % 1 == 0)) = ((n:Int) == 1)
    first | rfl |(rw [Bool.eq_iff_iff]; simp; done) |(rw [Bool.eq_iff_iff]; simp; omega)
  · obtain rfl:k = 2:=by simp only at hkk; omega
    show (decide ((1:Int)≤(n:Int)) && decide ((n:Int)≤1) && (((n:Int) - 1) % 1 == 0)) = ((n:Int) == 1)
    first | rfl |(rw [Bool.eq_iff_iff]; simp; done) |(rw [Bool.eq_iff_iff]; simp; omega)
  · obtain rfl:k = 3:=by simp only at hkk; omega
    show (decide ((1:Int)≤(n:Int)) && decide ((n:Int)≤1) && (((n:Int) - 1) % 1 == 0)) = ((n:Int) == 1)
    first | rfl |(rw [Bool.eq_iff_iff]; simp; done) |(rw [Bool.eq_iff_iff]; simp; omega)
  · obtain rfl:k = 4:=by simp only at hkk; omega
    show (decide ((5:Int)≤(n:Int)) && decide ((n:Int)≤5) && (((n:Int) - 5) % 1 == 0)) = ((n:Int) == 5)
    first | rfl |(rw [Bool.eq_iff_iff]; simp; done) |(rw [Bool.eq_iff_iff]; simp; omega)
  · obtain rfl:k = 5:=by simp only at hkk; omega
    show (decide ((1:Int)≤(n:Int)) && decide ((n:Int)≤8193) && (((n:Int) - 1) % 1 == 0)) = decide ((n:Int)≤8193)
    first | rfl |(rw [Bool.eq_iff_iff]; simp; done) |(rw [Bool.eq_iff_iff]; simp; omega)
  · obtain rfl:k = 6:=by simp only at hkk; omega
    show (decide ((13:Int)≤(n:Int)) && decide ((n:Int)≤13) && (((n:Int) - 13) % 1 == 0)) = ((n:Int) == 13)
    first | rfl |(rw [Bool.eq_iff_iff]; simp; done) |(rw [Bool.eq_iff_iff]; simp; omega)
  · obtain rfl:k = 7:=by simp only at hkk; omega
    show (decide ((10:Int)≤(n:Int)) && decide ((n:Int)≤16393) && (((n:Int) - 10) % 1 == 0)) = (decide (10≤(n:Int)) && decide ((n:Int)≤16393))
    first | rfl |(rw [Bool.eq_iff_iff]; simp; done) |(rw [Bool.eq_iff_iff]; simp; omega)
  · obtain rfl:k = 8:=by simp only at hkk; omega
    show (decide ((13:Int)≤(n:Int)) && decide ((n:Int)≤13) && (((n:Int) - 13) % 1 == 0)) = ((n:Int) == 13)
    first | rfl |(rw [Bool.eq_iff_iff]; simp; done) |(rw [Bool.eq_iff_iff]; simp; omega)
  · obtain rfl:k = 21:=by simp only at hkk; omega
    show (decide ((49:Int)≤(n:Int)) && decide ((n:Int)≤49) && (((n:Int) - 49) % 1 == 0)) = ((n:Int) == 49)
    first | rfl |(rw [Bool.eq_iff_iff]; simp; done) |(rw [Bool.eq_iff_iff]; simp; omega)
  · obtain rfl:k = 22:=by simp only at hkk; omega
    show (decide ((49:Int)≤(n:Int)) && decide ((n:Int)≤17969) && (((n:Int) - 49) % 32 == 0)) = (decide (49≤(n:Int)) && decide ((n:Int)≤17969) && ((n:Int) - 49) % 32 == 0)
    first | rfl |(rw [Bool.eq_iff_iff]; simp; done) |(rw [Bool.eq_iff_iff]; simp; omega)
  · obtain rfl:k = 23:=by simp only at hkk; omega
    show (decide ((49:Int)≤(n:Int)) && decide ((n:Int)≤49) && (((n:Int) - 49) % 1 == 0)) = ((n:Int) == 49)
    first | rfl |(rw [Bool.eq_iff_iff]; simp; done) |(rw [Bool.eq_iff_iff]; simp; omega)
  · simp only at hkk; omega
set_option maxHeartbeats 1000000 in
theorem rDecodeT (w:World) (v:Value) (l:List UInt8) (hl:l.length≤140737488351232) (hr:RB w v l):Calls Tryz.prog 45 #[v] w fun e w'=>DCR w w' e l:=by
  by_cases h1:32768 < l.length
  · exact rDec_A w v l hl hr h1
  by_cases h0:l = []
  · subst h0; exact rDec_B w v hr
  have hpos:0 < l.length:=List.length_pos_iff.2 h0
  have hle:l.length≤32768:=by omega
  obtain ⟨k,hk⟩:∃ k,(byt l 0).toNat = k:=⟨_,rfl⟩
  have hk256:k < 256:=by have:=UInt8.toNat_lt (byt l 0); omega
  obtain ⟨r0,r1,r2,r3,r4,r5,r6,r7,r8,r9,r10,r11,r12,r13⟩:=rowFor_lit
  by_cases h64:64≤k
  · have hkb:=kindB_high hpos hk h64
    have hsz:szdB (k:Int) (l.length:Int) = true:=by
      unfold szdB
      rw [if_pos (by omega)]
      exact decide_eq_true (by omega)
    have hS:=decS_of (r:=⟨1000,1,32768,1, [2,10,0,0,0,0,0]⟩) h1 (by rw [hkb]; exact r13) (by
      show (decide ((1:Int)≤(l.length:Int)) && decide ((l.length:Int)≤32768) && (((l.length:Int) - 1) % 1 == 0)) = true
      simp
      omega) (by
      refine lks_of fun c hc=>?_
      have hc':c = 2∨c = 10:=by simpa [Kr.cs] using hc
      rcases hc' with rfl | rfl
      · show rng 64 255 ((byt l 0).toNat:Int) = true
        rw [hk]
        exact decide_eq_true ⟨by omega,by omega⟩
      · rfl)
    exact rDec_O w v l hr hpos hle k hk h64 hsz hS.1 (by rw [hS.2]; rfl) (by rw [hS.2]; rfl) (fun d h=>by
      rw [hS.2, ← hk]; rfl)
  · have h64':k < 64:=by omega
    have hkb:=kindB_low hpos hk h64'
    cases hrow:rowFor (k:Int) with
    | none =>
      have hkn:knownB (k:Int) = false:=by
        cases hq:knownB (k:Int) with
        | false=>rfl
        | true =>
          have hke:kE (k:Int) = false:=by unfold kE; rw [hq]; simp
          rcases kE_cases _ hke with h | h | h | h | h | h | h | h | h | h | h | h | h | h
          all_goals (rw [h] at hrow; first | omega |(rw [r1] at hrow; simp at hrow; done) |(rw [r2] at hrow; simp at hrow; done) |(rw [r3] at hrow; simp at hrow; done) |(rw [r4] at hrow; simp at hrow; done) |(rw [r5] at hrow; simp at hrow; done) |(rw [r6] at hrow; simp at hrow; done) |(rw [r7] at hrow; simp at hrow; done) |(rw [r8] at hrow; simp at hrow; done) |(rw [r9] at hrow; simp at hrow; done) |(rw [r10] at hrow; simp at hrow; done) |(rw [r11] at hrow; simp at hrow; done) |(rw [r12] at hrow; simp at hrow; done))
      exact rDec_C w v l hr hpos hle k hk h64' hkn (by unfold decE; rw [if_neg h1,hkb,hrow])
    | some r =>
      have hfs:=fit_szd k l.length r hpos hrow h64'
      obtain ⟨hmem,hkk⟩:=rowFor_mem hrow
      by_cases hsz:szdB (k:Int) (l.length:Int) = true
      · have hfit:r.fit (l.length:Int) = true:=by rw [hfs]; exact hsz
        have hrk:rowFor (kindB l) = some r:=by rw [hkb]; exact hrow
        clear r0 r1 r2 r3 r4 r5 r6 r7 r8 r9 r10 r11 r12 r13 hfs hrow
        simp only [rws,List.mem_cons,List.not_mem_nil,or_false] at hmem
        obtain ⟨f1,f2,f3⟩:=fit_of hfit
        rcases hmem with rfl | rfl | rfl | rfl | rfl | rfl | rfl | rfl | rfl | rfl | rfl | rfl | rfl | rfl
        · simp only at hkk; omega
        · obtain rfl:k = 0:=by simp only at hkk; omega
          simp only at f1 f2 f3
          have hS:=decS_of h1 hrk hfit rfl
          exact rDec_1 w v l hr hpos hle 0 hk (by omega) hsz hS.1 (by rw [hS.2]; rfl) (by rw [hS.2]; rfl) (fun d h=>by rw [hS.2]; rfl)
        · obtain rfl:k = 1:=by simp only at hkk; omega
          simp only at f1 f2 f3
          have hS:=decS_of h1 hrk hfit rfl
          exact rDec_1 w v l hr hpos hle 1 hk (by omega) hsz hS.1 (by rw [hS.2]; rfl) (by rw [hS.2]; rfl) (fun d h=>by rw [hS.2]; rfl)
        · obtain rfl:k = 2:=by simp only at hkk; omega
          simp only at f1 f2 f3
          have hS:=decS_of h1 hrk hfit rfl
          exact rDec_1 w v l hr hpos hle 2 hk (by omega) hsz hS.1 (by rw [hS.2]; rfl) (by rw [hS.2]; rfl) (fun d h=>by rw [hS.2]; rfl)
        · obtain rfl:k = 3:=by simp only at hkk; omega
          simp only at f1 f2 f3
          have hS:=decS_of h1 hrk hfit rfl
          exact rDec_1 w v l hr hpos hle 3 hk (by omega) hsz hS.1 (by rw [hS.2]; rfl) (by rw [hS.2]; rfl) (fun d h=>by rw [hS.2]; rfl)
        · obtain rfl:k = 4:=by simp only at hkk; omega
          simp only at f1 f2 f3
          have hS:=decS_of h1 hrk hfit (lks_of fun c hc=>by
            have hc':c = 1∨c = 3:=by simpa [Kr.cs] using hc
            rcases hc' with rfl | rfl
            · rfl
            · exact rng_nm (l.drop 1))
          exact rDec_4 w v l hr hpos hle (by rw [hk]; rfl) hsz _ rfl (by omega) hS.1 (by rw [hS.2]; rfl) (by rw [hS.2]; rfl) (fun d h=>by rw [hS.2]; rfl)
        · obtain rfl:k = 5:=by simp only at hkk; omega
          simp only at f1 f2 f3
          have hS:=decS_of h1 hrk hfit rfl
          exact rDec_5 w v l hr hpos hle (by rw [hk]; rfl) hsz hS.1 (by rw [hS.2]; rfl) (by rw [hS.2]; rfl) (fun d h=>by rw [hS.2]; rfl)
        · obtain rfl:k = 6:=by simp only at hkk; omega
          simp only at f1 f2 f3
          by_cases hg:1≤((nm4 (((l.drop 1).drop 4).drop 4):Nat):Int)∧((nm4 (((l.drop 1).drop 4).drop 4):Nat):Int)≤16384
          · have hS:=decS_of h1 hrk hfit (lks_of fun c hc=>by
              have hc':c = 1∨c = 3∨c = 4∨c = 6:=by simpa [Kr.cs] using hc
              rcases hc' with rfl | rfl | rfl | rfl
              · rfl
              · exact rng_nm (l.drop 1)
              · exact rng_nm ((l.drop 1).drop 4)
              · exact decide_eq_true hg)
            exact rDec_6 w v l hr hpos hle (by rw [hk]; rfl) hsz _ rfl (nm4 ((l.drop 1).drop 4)) (by rw [List.drop_drop]) (nm4 (((l.drop 1).drop 4).drop 4)) (by rw [List.drop_drop,List.drop_drop]) (by omega) hS.1 (by rw [hS.2]; rfl) (by rw [hS.2]; rfl) (fun d h=>by rw [hS.2]; rfl) hg
          · exact rDec_6b w v l hr hpos hle (by rw [hk]; rfl) hsz _ rfl (nm4 ((l.drop 1).drop 4)) (by rw [List.drop_drop]) (nm4 (((l.drop 1).drop 4).drop 4)) (by rw [List.drop_drop,List.drop_drop]) (by omega) (by
              have hlk:lks (⟨6,13,13,1, [1,3,4,6,0,0,0]⟩:Kr).cs (decR ⟨6,13,13,1, [1,3,4,6,0,0,0]⟩ l).m = false:=by
                unfold lks
                rw [List.all_eq_false]
                exact ⟨6,by decide,fun hc=>hg (of_decide_eq_true hc)⟩
              unfold decE
              rw [if_neg h1,hrk]
              simp only [hfit,hlk]
              rfl) hg
        · obtain rfl:k = 7:=by simp only at hkk; omega
          simp only at f1 f2 f3
          have hS:=decS_of h1 hrk hfit (lks_of fun c hc=>by
            have hc':c = 1∨c = 3∨c = 4∨c = 10:=by simpa [Kr.cs] using hc
            rcases hc' with rfl | rfl | rfl | rfl
            · rfl
            · exact rng_nm (l.drop 1)
            · exact rng_nm ((l.drop 1).drop 4)
            · rfl)
          exact rDec_7 w v l hr hpos hle (by rw [hk]; rfl) hsz _ rfl (nm4 ((l.drop 1).drop 4)) (by rw [List.drop_drop]) (by omega) hS.1 (by rw [hS.2]; show ((l.drop 1).drop 4).drop 4 = _; rw [List.drop_drop,List.drop_drop]) (by rw [hS.2]; rfl) (fun d h=>by rw [hS.2]; rfl)
        · obtain rfl:k = 8:=by simp only at hkk; omega
          simp only at f1 f2 f3
          by_cases hg:1≤((nm4 (((l.drop 1).drop 4).drop 4):Nat):Int)∧((nm4 (((l.drop 1).drop 4).drop 4):Nat):Int)≤16384
          · have hS:=decS_of h1 hrk hfit (lks_of fun c hc=>by
              have hc':c = 1∨c = 3∨c = 4∨c = 6:=by simpa [Kr.cs] using hc
              rcases hc' with rfl | rfl | rfl | rfl
              · rfl
              · exact rng_nm (l.drop 1)
              · exact rng_nm ((l.drop 1).drop 4)
              · exact decide_eq_true hg)
            exact rDec_8 w v l hr hpos hle (by rw [hk]; rfl) hsz _ rfl (nm4 ((l.drop 1).drop 4)) (by rw [List.drop_drop]) (nm4 (((l.drop 1).drop 4).drop 4)) (by rw [List.drop_drop,List.drop_drop]) (by omega) hS.1 (by rw [hS.2]; rfl) (by rw [hS.2]; rfl) (fun d h=>by rw [hS.2]; rfl) hg
          · exact rDec_8b w v l hr hpos hle (by rw [hk]; rfl) hsz _ rfl (nm4 ((l.drop 1).drop 4)) (by rw [List.drop_drop]) (nm4 (((l.drop 1).drop 4).drop 4)) (by rw [List.drop_drop,List.drop_drop]) (by omega) (by
              have hlk:lks (⟨8,13,13,1, [1,3,4,6,0,0,0]⟩:Kr).cs (decR ⟨8,13,13,1, [1,3,4,6,0,0,0]⟩ l).m = false:=by
                unfold lks
                rw [List.all_eq_false]
                exact ⟨6,by decide,fun hc=>hg (of_decide_eq_true hc)⟩
              unfold decE
              rw [if_neg h1,hrk]
              simp only [hfit,hlk]
              rfl) hg
        · obtain rfl:k = 21:=by simp only at hkk; omega
          simp only at f1 f2 f3
          have hS:=decS_of h1 hrk hfit (lks_of fun c hc=>by
            have hc':c = 1∨c = 7∨c = 8∨c = 3∨c = 5∨c = 9:=by simpa [Kr.cs] using hc
            rcases hc' with rfl | rfl | rfl | rfl | rfl | rfl
            · rfl
            · rfl
            · exact rng_nm ((l.drop 1).drop 32)
            · exact rng_nm (((l.drop 1).drop 32).drop 4)
            · exact rng_nm ((((l.drop 1).drop 32).drop 4).drop 4)
            · exact rng_nm (((((l.drop 1).drop 32).drop 4).drop 4).drop 4))
          exact rDec_Q w v l hr hpos hle 21 hk (by omega) hsz (nm4 ((l.drop 1).drop 32)) (by rw [List.drop_drop]) (nm4 (((l.drop 1).drop 32).drop 4)) (by simp only [List.drop_drop]) (nm4 ((((l.drop 1).drop 32).drop 4).drop 4)) (by simp only [List.drop_drop]) (nm4 (((((l.drop 1).drop 32).drop 4).drop 4).drop 4)) (by simp only [List.drop_drop]) _ rfl 0 (by omega) hS.1 (by rw [hS.2]; rfl) (by rw [hS.2]; show [] = l.drop 49; exact (List.drop_eq_nil_of_le (by omega)).symm) (fun d h=>by rw [hS.2]; rfl)
        · obtain rfl:k = 22:=by simp only at hkk; omega
          simp only at f1 f2 f3
          have hS:=decS_of h1 hrk hfit (lks_of fun c hc=>by
            have hc':c = 1∨c = 7∨c = 8∨c = 3∨c = 5∨c = 9∨c = 11:=by simpa [Kr.cs] using hc
            rcases hc' with rfl | rfl | rfl | rfl | rfl | rfl | rfl
            · rfl
            · rfl
            · exact rng_nm ((l.drop 1).drop 32)
            · exact rng_nm (((l.drop 1).drop 32).drop 4)
            · exact rng_nm ((((l.drop 1).drop 32).drop 4).drop 4)
            · exact rng_nm (((((l.drop 1).drop 32).drop 4).drop 4).drop 4)
            · rfl)
          exact rDec_Q w v l hr hpos hle 22 hk (by omega) hsz (nm4 ((l.drop 1).drop 32)) (by rw [List.drop_drop]) (nm4 (((l.drop 1).drop 32).drop 4)) (by simp only [List.drop_drop]) (nm4 ((((l.drop 1).drop 32).drop 4).drop 4)) (by simp only [List.drop_drop]) (nm4 (((((l.drop 1).drop 32).drop 4).drop 4).drop 4)) (by simp only [List.drop_drop]) _ rfl ((l.length - 49) / 32) (by omega) hS.1 (by rw [hS.2]; rfl) (by rw [hS.2]; show (((((l.drop 1).drop 32).drop 4).drop 4).drop 4).drop 4 = _; simp only [List.drop_drop]) (fun d h=>by rw [hS.2]; rfl)
        · obtain rfl:k = 23:=by simp only at hkk; omega
          simp only at f1 f2 f3
          have hS:=decS_of h1 hrk hfit (lks_of fun c hc=>by
            have hc':c = 1∨c = 7∨c = 8∨c = 3∨c = 5∨c = 9:=by simpa [Kr.cs] using hc
            rcases hc' with rfl | rfl | rfl | rfl | rfl | rfl
            · rfl
            · rfl
            · exact rng_nm ((l.drop 1).drop 32)
            · exact rng_nm (((l.drop 1).drop 32).drop 4)
            · exact rng_nm ((((l.drop 1).drop 32).drop 4).drop 4)
            · exact rng_nm (((((l.drop 1).drop 32).drop 4).drop 4).drop 4))
          exact rDec_Q w v l hr hpos hle 23 hk (by omega) hsz (nm4 ((l.drop 1).drop 32)) (by rw [List.drop_drop]) (nm4 (((l.drop 1).drop 32).drop 4)) (by simp only [List.drop_drop]) (nm4 ((((l.drop 1).drop 32).drop 4).drop 4)) (by simp only [List.drop_drop]) (nm4 (((((l.drop 1).drop 32).drop 4).drop 4).drop 4)) (by simp only [List.drop_drop]) _ rfl 0 (by omega) hS.1 (by rw [hS.2]; rfl) (by rw [hS.2]; show [] = l.drop 49; exact (List.drop_eq_nil_of_le (by omega)).symm) (fun d h=>by rw [hS.2]; rfl)
        · simp only at hkk; omega
      · have hsz':szdB (k:Int) (l.length:Int) = false:=by simpa using hsz
        have hkn:knownB (k:Int) = true:=by
          cases hq:knownB (k:Int) with
          | true=>rfl
          | false =>
            have hke:kE (k:Int) = true:=by unfold kE; rw [hq]; simp; omega
            rw [rowFor_kE _ hke] at hrow
            simp at hrow
        exact rDec_D w v l hr hpos hle k hk (.inr hkn) hsz' (by
          unfold decE
          rw [if_neg h1,hkb,hrow]
          simp only [hfs,hsz']
          rfl)
theorem wrap_head (n:Nat) (hn:n≤32768):((((bc (zr (4 + n))).setIfInBounds 0 (Value.int .u8 ((n:Int) / 16777216))).setIfInBounds 1 (Value.int .u8 ((n:Int) / 65536))).setIfInBounds 2 (Value.int .u8 ((n:Int) / 256))).setIfInBounds 3 (Value.int .u8 ((n:Int) % 256)) = bc (be4 n ++ zr n):=by
  have e:zr (4 + n) = [0,0,0,0] ++ zr n:=by
    unfold zr; rw [← List.replicate_append_replicate]; rfl
  rw [e]
  apply Array.ext'
  have h1:=u8v (n / 16777216)
  have h2:=u8v (n / 65536)
  have h3:=u8v (n / 256)
  have h4:=u8v n
  rw [Array.toList_setIfInBounds,Array.toList_setIfInBounds,Array.toList_setIfInBounds,Array.toList_setIfInBounds,bc_list,bc_list,bcl_append,bcl_append]
  simp only [Lib.byteCells,be4,List.map_cons,List.map_nil,List.cons_append,List.nil_append,List.set_cons_zero,List.set_cons_succ,h1,h2,h3,h4]
  have k1:((n / 16777216:Nat):Int) % 256 = (n:Int) / 16777216:=by omega
  have k2:((n / 65536:Nat):Int) % 256 = (n:Int) / 65536:=by omega
  have k3:((n / 256:Nat):Int) % 256 = (n:Int) / 256:=by omega
  rw [k1,k2,k3]
set_option maxHeartbeats 1000000 in
set_option maxRecDepth 100000 in
theorem wrap_yes (v:Value) (l:List UInt8) (hl:l.length≤32768) (w:World) (hr:RB w v l) :
    Calls Tryz.prog 109 #[v] w fun e w'=>∃ v',e = .returned (.tuple #[v',.int .i64 0])∧OW w.heap.size w' v' (frm l)∧Below w.heap.size w w':=by
  obtain ⟨a,c,rfl,_,hr⟩:=hr
  have hmk:∀ u:World,(Instr.makeSlice 37 (.int .i64 (4 + (l.length:Int))) (.int .i64 (4 + (l.length:Int)))).run Tryz.prog u = .ok (.slice (some ⟨u.heap.size,0,none⟩) (4 + l.length) (4 + l.length)) (u.alloc (.cells (bc (zr (4 + l.length))) 5)):=by
    have:=make_bytes (4 + l.length) (by omega)
    simpa using this
  have hb:Below w.heap.size w (w.alloc (.cells (bc (be4 l.length ++ zr l.length)) 5)):=(Below.refl _ _).alloc (Nat.le_refl _) _
  have HW:=wrap_head l.length hl
  have hg:=heapNew w (.cells (bc (be4 l.length ++ zr l.length)) 5)
  by_cases hn:l = []
  · subst hn
    have HO:Hid (OW w.heap.size (w.alloc (.cells (bc (be4 0 ++ zr 0)) 5)) (.slice (some ⟨w.heap.size,0,none⟩) 4 4) (frm [])):=OW.of_block (l:=frm []) (Nat.le_refl _) hg rfl rfl (by decide) (by decide)
    have hm4:∀ u:World,(Instr.makeSlice 37 (.int .i64 4) (.int .i64 4)).run Tryz.prog u = .ok (.slice (some ⟨u.heap.size,0,none⟩) 4 4) (u.alloc (.cells (bc (zr 4)) 5)):=make_bytes 4 (by omega)
    have HM:(((((bc (zr 4)).setIfInBounds 0 (Value.int .u8 0)).setIfInBounds 1 (Value.int .u8 0)).setIfInBounds 2 (Value.int .u8 0)).setIfInBounds 3 (Value.int .u8 0)) = bc (be4 0 ++ zr 0):=rfl
    have hc:=fun (d:Option Addr) (dc:Nat)=>run_copy_none (P:=Tryz.prog) (w.alloc (.cells (bc (be4 0 ++ zr 0)) 5)) 37 37 3 5 d a 0 dc 0 c Tryz.underlying37 hs5 rfl
    have HB:Hid (Below w.heap.size w (w.alloc (.cells (bc (be4 0 ++ zr 0)) 5))):=hb
    have z0:=zr_get 4 0 (by omega)
    have z1:=zr_get 4 1 (by omega)
    have z2:=zr_get 4 2 (by omega)
    have z3:=zr_get 4 3 (by omega)
    rw [← HM] at hc HB HO
    clear hr hg HW hb hmk HM
    generalize bc (zr 4) = Z at *
    go_enter Tryz.func109,Tryz.ntmps109
    go_wp2
    go_ret2
    exact ⟨_,rfl,HO.out,HB.out⟩
  · rcases hr with h | ⟨b,off,rfl,hb1,hc1⟩
    · exact absurd h hn
    have hcp:=copy_row (w.alloc (.cells (bc (be4 l.length ++ zr l.length)) 5)) 3 w.heap.size 4 l.length l.length b off l.length c (be4 l.length ++ zr l.length) l 5 hg (Nat.min_self _).symm (fun i hi=>(hb.cell (p:=⟨b,off + i,none⟩) hb1).trans (hc1 i hi)) (by simp [be4_len,zr_len])
    have e1:(be4 l.length ++ zr l.length).take 4 ++ l ++ (be4 l.length ++ zr l.length).drop (4 + l.length) = frm l:=by
      rw [List.drop_eq_nil_of_le (by simp [be4_len,zr_len])]
      simp [frm,be4]
    rw [e1] at hcp
    have HO:Hid (OW w.heap.size ((w.alloc (.cells (bc (be4 l.length ++ zr l.length)) 5)).setRow w.heap.size (bc (frm l))) (.slice (some ⟨w.heap.size,0,none⟩) (4 + l.length) (4 + l.length)) (frm l)∧Below w.heap.size w ((w.alloc (.cells (bc (be4 l.length ++ zr l.length)) 5)).setRow w.heap.size (bc (frm l)))):=by
      have hfl:(frm l).length = 4 + l.length:=by simp [frm,be4_len]
      refine ⟨?_,belowSetRow hb (Nat.le_refl _) _⟩
      have:=OW.of_block (B:=w.heap.size) (cap:=4 + l.length) (l:=frm l) (Nat.le_refl _) (heapSetRow _ _ _ (bc (frm l)) _ hg) hfl.symm (List.take_length ..) (Nat.le_refl _) (by rw [hfl]; unfold maxLen; omega)
      rwa [hfl] at this
    rw [← HW] at hcp HO
    have hne:l.length≠0:=fun h=>hn (List.length_eq_zero_iff.1 h)
    have z0:=zr_get (4 + l.length) 0 (by omega)
    have z1:=zr_get (4 + l.length) 1 (by omega)
    have z2:=zr_get (4 + l.length) 2 (by omega)
    have z3:=zr_get (4 + l.length) 3 (by omega)
    clear hg HW hb hb1 hc1 e1
    generalize bc (zr (4 + l.length)) = Z at *
    generalize l.length = n at *
    generalize bc (frm l) = FL at *
    generalize frm l = fl at *
    go_enter Tryz.func109,Tryz.ntmps109
    go_wp2
    go_ret2
    exact ⟨_,rfl,HO.out⟩
structure Mg where
  m:Mv
  D:List UInt8
  hb:List UInt8
def Mg.fr (x:Mg):List UInt8:=frm (encB x.m x.D x.hb)
def RMS (w:World) (v:Value) (ms:List Mg):Prop:=
  ∃ a c,v = .slice a ms.length c∧ms.length≤c∧(ms = []∨∃ g o,a = some ⟨g,o,none⟩∧g < w.heap.size∧∀ i x,ms[i]? = some x→w.rangeAt g (o + i * 40) x.m.ls)∧∀ x ∈ ms,MM w x.m x.D x.hb
def wirE:List Mg→Int
  | []=>0
  | x :: ms=>if valE x.m = 0 then wirE ms else valE x.m
def wirB (ms:List Mg):List UInt8:=(ms.map Mg.fr).flatten
theorem wirE_take (ms:List Mg) (n:Nat) (x:Mg) (hx:ms[n]? = some x) (h:wirE (ms.take n) = 0) (hv:valE x.m≠0):wirE ms = valE x.m:=by
  induction ms generalizing n with
  | nil=>simp at hx
  | cons y ms ih =>
    cases n with
    | zero=>simp at hx; subst hx; unfold wirE; rw [if_neg hv]
    | succ n =>
      rw [List.take_succ_cons] at h
      unfold wirE at h ⊢
      split at h
      · rename_i h0
        rw [if_pos h0]
        exact ih n (by simpa using hx) h
      · rename_i h0
        exact absurd h h0
theorem wirE_snoc (ms:List Mg) (x:Mg) (h:wirE ms = 0) (hv:valE x.m = 0):wirE (ms ++ [x]) = 0:=by
  induction ms with
  | nil=>show wirE [x] = 0; unfold wirE; rw [if_pos hv]; rfl
  | cons y ms ih =>
    rw [List.cons_append]
    unfold wirE at h ⊢
    split at h
    · rename_i h0
      rw [if_pos h0]
      exact ih h
    · rename_i h0
      exact absurd h h0
theorem wirB_snoc (ms:List Mg) (x:Mg):wirB (ms ++ [x]) = wirB ms ++ x.fr:=by
  unfold wirB; simp
theorem enc_le (m:Mv) (ok:m.ok) (D hb:List UInt8) (hd:sln m.d = D.length) (hh:hb.length = sln m.h * 32):(encB m D hb).length≤32768:=by
  by_cases h:valE m = 0
  · exact (back_way m ok D hb h hd hh).2.2.2.2
  · unfold encB; rw [if_neg h]; simp
theorem MM.enc_le {w:World} {m:Mv} {D hb:List UInt8} (h:MM w m D hb):(encB m D hb).length≤32768:=Go.Proofs.YtfjjpbebnoghmaaGreatDoor.enc_le m h.ok D hb h.sd h.sh
theorem fr_le {w:World} {x:Mg} (h:MM w x.m x.D x.hb):x.fr.length≤32772:=by
  have:=h.enc_le
  unfold Mg.fr frm
  rw [List.length_append,be4_len]
  omega
theorem wirB_le {w:World} (ms:List Mg) (h:∀ x ∈ ms,MM w x.m x.D x.hb):(wirB ms).length≤ms.length * 32772:=by
  induction ms with
  | nil=>simp [wirB]
  | cons x ms ih =>
    have h1:=fr_le (h x (by simp))
    have h2:=ih (fun y hy=>h y (by simp [hy]))
    have e:wirB (x :: ms) = x.fr ++ wirB ms:=rfl
    rw [e,List.length_append,List.length_cons]
    omega
def frB (m:Mv) (D hb:List UInt8):List UInt8:=if valE m = 0 then frm (encB m D hb) else []
set_option maxHeartbeats 1000000 in
set_option maxRecDepth 100000 in
theorem framedT (w:World) (m:Mv) (D hb:List UInt8) (hm:MM w m D hb) (hk:KT w) :
    Calls Tryz.prog 88 #[.agg m.cs] w fun e w'=>∃ v,e = .returned (.tuple #[v,.int .i64 (valE m)])∧OW w.heap.size w' v (frB m D hb)∧Below w.heap.size w w':=by
  have b0:Below w.heap.size w (w.alloc (.cells m.cs 40)):=(Below.refl _ _).alloc (Nat.le_refl _) _
  have hc:(w.alloc (.cells m.cs 40)).heap[w.heap.size]? = some (.cells m.cs 40 (0,0)):=heapNew w _
  have HA:Hid (MM (w.alloc (.cells m.cs 40)) m D hb∧KT (w.alloc (.cells m.cs 40))∧Below w.heap.size w (w.alloc (.cells m.cs 40))):=⟨hm.keep b0,hk.below b0 hk.pos,b0⟩
  have him:=info_msg hm.ok
  have HL:Hid ((encB m D hb).length≤32768):=hm.enc_le
  clear b0 hk hm
  go_enter Tryz.func88,Tryz.ntmps88
  go_wp2_with (first |(refine wpList_load_row rfl 40 _ rfl w.heap.size rfl 40 m.cs (0,0) _ hc Tryz.underlying40 rfl him ?_))
  generalize w.alloc (.cells m.cs 40) = w0 at *
  refine (encodeT w0 m D hb HA.out.1 HA.out.2.1).mono ?_
  rintro e w1 ⟨v,rfl,o1,b1⟩
  obtain ⟨va,vn,vc,rfl⟩:=o1.form3
  have HB:Hid (RB w1 (.slice va vn vc) (encB m D hb)∧Below w.heap.size w w1):=⟨o1.rb,HA.out.2.2.trans (b1.mono HA.out.2.2.size)⟩
  clear o1 b1 HA hc
  by_cases h0:valE m = 0
  · rw [h0]
    have HV:Hid (valE m = 0):=h0
    clear h0
    go_wp2_with fail
    refine (wrap_yes _ (encB m D hb) HL.out w1 HB.out.1).mono ?_
    rintro e w2 ⟨v2,rfl,o2,b2⟩
    have HE:Hid (OW w.heap.size w2 v2 (frm (encB m D hb))∧Below w.heap.size w w2):=⟨o2.mono HB.out.2.size,HB.out.2.trans (b2.mono HB.out.2.size)⟩
    clear o2 b2
    go_wp2
    go_ret2
    exact ⟨_,by rw [HV.out]; rfl,by unfold frB; rw [if_pos HV.out]; exact HE.out.1,HE.out.2⟩
  · obtain ⟨ve,hve⟩:∃ ve,valE m = ve:=⟨_,rfl⟩
    have HV:Hid (valE m≠0∧valE m = ve):=⟨h0,hve⟩
    rw [hve] at h0 ⊢
    clear hve
    go_wp2
    go_ret2
    exact ⟨_,by rw [HV.out.2]; rfl,by unfold frB; rw [if_neg HV.out.1]; exact World.ownsRow_nil _ _ _ _,HB.out.2⟩
theorem RMS.at {w:World} {a:Option Addr} {n c:Nat} {ms:List Mg} (h:RMS w (.slice a n c) ms) (i:Nat) (x:Mg) (hx:ms[i]? = some x):∃ g o,a = some ⟨g,o,none⟩∧g < w.heap.size∧w.rangeAt g (o + i * 40) x.m.ls∧MM w x.m x.D x.hb:=by
  obtain ⟨a',c',e,_,h,hm⟩:=h
  simp only [Value.slice.injEq] at e
  obtain ⟨rfl, -, -⟩:=e
  rcases h with rfl | ⟨g,o,rfl,h2,h3⟩
  · simp at hx
  · exact ⟨g,o,rfl,h2,h3 i x hx,hm x (List.mem_of_getElem? hx)⟩
theorem RMS.mem {w:World} {v:Value} {ms:List Mg} (h:RMS w v ms) (x:Mg) (hx:x ∈ ms):MM w x.m x.D x.hb:=by
  obtain ⟨a,c,_,_,_,hm⟩:=h
  exact hm x hx
def WIR (w w':World) (e:Ending) (ms:List Mg):Prop:=∃ v,e = .returned (.tuple #[v,.int .i64 (wirE ms)])∧OW w.heap.size w' v (if wirE ms = 0 then wirB ms else [])∧Below w.heap.size w w'
set_option maxHeartbeats 2000000 in
set_option maxRecDepth 100000 in
theorem wireT (w:World) (v:Value) (ms:List Mg) (hr:RMS w v ms) (hk:KT w) (hl:ms.length≤2147483647) :
    Calls Tryz.prog 50 #[v] w fun e w'=>WIR w w' e ms:=by
  obtain ⟨a,c,rfl,_⟩:=id hr
  have HR:Hid (RMS w (.slice a ms.length c) ms∧KT w):=⟨hr,hk⟩
  clear hr hk
  go_enter Tryz.func50,Tryz.ntmps50
  go_wp2
  generalize hln:ms.length = len at *
  have HN:Hid (ms.length = len):=hln
  clear hln
  go_loopw [4,11] (fun u t wr=>∃ n:Nat,n≤len∧t = .int .i64 n∧Hid (OW w.heap.size wr u (wirB (ms.take n))∧Below w.heap.size w wr∧wirE (ms.take n) = 0)) (fun _ t _=>len - (intOf t).toNat)
  case atStart=>exact ⟨0,by omega,rfl,World.ownsRow_nil _ _ _ _,Below.refl _ _,rfl⟩
  case round =>
    obtain ⟨n,hn,rfl,hI⟩:=hrel
    by_cases hlt:n < len
    · have hl2:n < ms.length:=by rw [HN.out]; exact hlt
      have hx:ms[n]? = some ms[n]:=List.getElem?_eq_getElem hl2
      generalize ms[n] = x at hx
      obtain ⟨g,o,rfl,hg,hrg,hmx⟩:=HR.out.1.at n x hx
      have hrg':wr.rangeAt g (o + n * 40) x.m.ls:=fun j y hj=>(hI.out.2.1.cell (p:=⟨g,o + n * 40 + j,none⟩) hg).trans (hrg j y hj)
      have hb1:=hI.out.2.1
      have hmx':MM wr x.m x.D x.hb:=hmx.keep hb1
      have hsz40:x.m.ls.length = 40:=by have:=hmx.ok.size; unfold Mv.cs at this; simpa using this
      have hiL:(Tryz.prog.info? 40).map (·.size) = some x.m.ls.length:=by rw [hsz40]; kernel_rfl
      have him:=info_msg hmx.ok
      have hone:=hmx.ok.one
      have hz2:=heapNew wr (.cells z40 40)
      have hs1:z40.size = x.m.cs.size:=hmx.ok.size.symm
      have hc:((wr.alloc (.cells z40 40)).setRow wr.heap.size x.m.cs).heap[wr.heap.size]? = some (.cells x.m.cs 40 (0,0)):=heapSetRow _ _ _ _ _ hz2
      have bX:Below wr.heap.size wr ((wr.alloc (.cells z40 40)).setRow wr.heap.size x.m.cs):=belowSetRow ((Below.refl _ _).alloc (Nat.le_refl _) _) (Nat.le_refl _) _
      have HX:Hid (MM ((wr.alloc (.cells z40 40)).setRow wr.heap.size x.m.cs) x.m x.D x.hb∧KT ((wr.alloc (.cells z40 40)).setRow wr.heap.size x.m.cs)∧Below w.heap.size w ((wr.alloc (.cells z40 40)).setRow wr.heap.size x.m.cs)∧OW w.heap.size ((wr.alloc (.cells z40 40)).setRow wr.heap.size x.m.cs) u4 (wirB (ms.take n))∧wirE (ms.take n) = 0∧ms.take (n + 1) = ms.take n ++ [x]∧(wirB (ms.take n)).length + x.fr.length≤140737488351232):=by
        refine ⟨hmx'.keep bX,HR.out.2.below (hb1.trans (bX.mono hb1.size)) HR.out.2.pos,hb1.trans (bX.mono hb1.size),hI.out.1.grow bX,hI.out.2.2,by rw [List.take_add_one,hx]; rfl,?_⟩
        have h1:=wirB_le (w:=w) (ms.take n) (fun y hy=>HR.out.1.mem y (List.mem_of_mem_take hy))
        have h2:=fr_le hmx
        have h3:(ms.take n).length≤2147483647:=by rw [List.length_take]; omega
        have h4:=Nat.mul_le_mul_right 32772 h3
        omega
      have HXX:Hid (ms[n]? = some x):=hx
      obtain ⟨ua,un,uc,rfl⟩:=hI.out.1.form3
      clear hI hrg hmx hmx' bX hb1 hx
      go_wp2_with (first |(refine wpList_load_mid rfl 40 _ rfl g (o + n * 40) rfl _ _ hrg' Tryz.underlying40 rfl hiL ?_) |(refine wpList_store_row rfl 40 _ _ rfl wr.heap.size x.m.cs rfl rfl 40 z40 hz2 him hs1 hone ?_) |(refine wpList_load_row rfl 40 _ rfl wr.heap.size rfl 40 x.m.cs (0,0) _ hc Tryz.underlying40 rfl him ?_))
      clear hrg' hc hz2
      generalize (wr.alloc (.cells z40 40)).setRow wr.heap.size x.m.cs = X at *
      refine (framedT X x.m x.D x.hb HX.out.1 HX.out.2.1).mono ?_
      rintro e w2 ⟨v2,rfl,o2,b2⟩
      obtain ⟨va,vn,vc,rfl⟩:=o2.form3
      by_cases h0:valE x.m = 0
      · have HY:Hid (OW w.heap.size w2 (.slice ua un uc) (wirB (ms.take n))∧RB w2 (.slice va vn vc) x.fr∧Below w.heap.size w w2∧valE x.m = 0):=by
          refine ⟨HX.out.2.2.2.1.grow b2,?_,HX.out.2.2.1.trans (b2.mono HX.out.2.2.1.size),h0⟩
          have h9:=o2.rb
          unfold frB at h9
          rw [if_pos h0] at h9
          exact h9
        rw [h0]
        clear h0 o2 b2
        go_wp2_with (first |(at_builtin; refine append_bytes rfl _ _ rfl rfl HY.out.1 rfl HY.out.2.1 HY.out.2.2.1.size HX.out.2.2.2.2.2.2 ?_; intro v' w3 o3 b3))
        refine ⟨⟨n + 1,by omega,by go_num,?_,HY.out.2.2.1.trans b3,?_⟩,by simp [intOf]; omega⟩
        · rw [HX.out.2.2.2.2.2.1,wirB_snoc]; exact o3
        · rw [HX.out.2.2.2.2.2.1]; exact wirE_snoc _ _ HX.out.2.2.2.2.1 HY.out.2.2.2
      · obtain ⟨ve,hve⟩:∃ ve,valE x.m = ve:=⟨_,rfl⟩
        have HV:Hid (wirE ms = ve∧ve≠0∧Below w.heap.size w w2):=by
          refine ⟨by rw [← hve]; exact wirE_take ms n x HXX.out HX.out.2.2.2.2.1 h0,by rw [← hve]; exact h0,HX.out.2.2.1.trans (b2.mono HX.out.2.2.1.size)⟩
        rw [hve] at h0 ⊢
        clear hve o2 b2
        go_wp2
        go_ret2
        exact ⟨_,by rw [HV.out.1]; rfl,by rw [HV.out.1,if_neg HV.out.2.1]; exact World.ownsRow_nil _ _ _ _,HV.out.2.2⟩
    · have HE:Hid (OW w.heap.size wr u4 (wirB ms)∧Below w.heap.size w wr∧wirE ms = 0):=by
        have h1:=hI.out
        rw [List.take_of_length_le (by have:=HN.out; omega)] at h1
        exact h1
      clear hI
      go_wp2
      go_ret2
      exact ⟨_,by rw [HE.out.2.2]; rfl,by rw [HE.out.2.2,if_pos rfl]; exact HE.out.1,HE.out.2.1⟩
theorem MM.of_dec {w w':World} {l:List UInt8} {d h:Value} (hd:OW w.heap.size w' d (decS l).D) (hh:OH w.heap.size w' h (decS l).hb):MM w' { (decS l).m with d:=d,h:=h } (decS l).D (decS l).hb:=by
  have hl:(decS l).m.r.length = 32∧(decS l).D.length≤32768∧(decS l).hb.length≤32768:=by
    unfold decS
    by_cases hE:decE l = 0
    · rw [if_pos hE]
      unfold decE at hE
      split at hE
      · omega
      · rename_i h1
        cases hr:rowFor (kindB l) with
        | none=>rw [hr] at hE; simp at hE
        | some r =>
          rw [hr] at hE
          simp only at hE ⊢
          split at hE
          · rename_i hfit
            have hnds:=fit_NDS r (rowFor_mem hr).1 l hfit
            refine ⟨tks_r _ _ (zr_len 32) hnds,?_⟩
            have key:∀ (cs:List Nat) (s:Ds),s.l.length≤32768→s.D.length≤32768→s.hb.length≤32768→(Ds.tks cs s).D.length≤32768∧(Ds.tks cs s).hb.length≤32768:=by
              intro cs
              induction cs with
              | nil=>intro s _ h2 h3; exact ⟨h2,h3⟩
              | cons c cs ih =>
                intro s h1 h2 h3
                refine ih (Ds.tk c s) (Nat.le_trans (rst_le c s.l) h1) ?_ ?_
                · show (dD c s.l s.D).length≤_
                  unfold dD; split <;> assumption
                · show (dH c s.l s.hb).length≤_
                  unfold dH; split <;> assumption
            exact key r.cs ⟨zmk r.k, [], [],l⟩ (by simp only; omega) (by simp) (by simp)
          · omega
    · rw [if_neg hE]
      exact ⟨zr_len 32,by simp,by simp⟩
  exact ⟨⟨hl.1,hd.form3,hh.form⟩,hd.rb,hh.rh,by omega,by omega⟩
theorem info_msgP:(Tryz.prog.info? 40).map (fun i=>(i.zero,i.size,i.bytes)) = some (some (.agg z40),40,128):=by kernel_rfl
end Go.Proofs.YtfjjpbebnoghmaaGreatDoor
