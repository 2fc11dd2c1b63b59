import Derived.Test.YtfjjpbebnoghmaaGreatDoorK00
import Derived.Test.YtfjjpbebnoghmaaGreatDoorK18
import Derived.Test.YtfjjpbebnoghmaaGreatDoorK25
import Derived.ChangeKeysEq
import Derived.Test.YtfjjpbebnoghmaaGreatDoorK30
import Derived.Test.YtfjjpbebnoghmaaGreatDoorK29
namespace Go.Proofs.YtfjjpbebnoghmaaGreatDoor.Fm
open Go.RowKit Go.Proofs.YtfjjpbebnoghmaaGreatDoor
def mtE (l:List UInt8):Int:=if sok l 0 then (if l.length < 68 then 101 else 0) else 100
def mtH (l:List UInt8):List UInt8:=if mtE l = 0 then hel l else zr 48
theorem mt_no {l:List UInt8} (h:sok l 0 = false):mtE l = 100∧mtH l = zr 48:=by simp [mtE,mtH,h]
theorem mt_few {l:List UInt8} (h:sok l 0 = true) (h2:l.length < 68):mtE l = 101∧mtH l = zr 48:=by simp [mtE,mtH,h,h2]
theorem mt_yes {l:List UInt8} (h:sok l 0 = true) (h2:68≤l.length):mtE l = 0∧mtH l = hel l:=by simp [mtE,mtH,h,Nat.not_lt.2 h2]
theorem mt_len (l:List UInt8):(mtH l).length = 48:=by
  unfold mtH
  by_cases h:mtE l = 0
  · rw [if_pos h]
    refine hel_len l ?_
    unfold mtE at h
    split at h
    · split at h
      · simp at h
      · omega
    · simp at h
  · rw [if_neg h,zr_len]
set_option maxRecDepth 100000 in
theorem sgn_ix:∀ (k:Fin 20),0 < k.val→∀ w:World,(Instr.index 9 (.string { data:=#[66,105,116,84,111,114,114,101,110,116,32,112,114,111,116,111,99,111,108] }) (.int .i64 ((k.val:Int) - 1))).run Tryz.prog w = .ok (.int .u8 ((byt sgn k.val).toNat:Int)) w:=by
  intro k hk w
  rcases k with ⟨k,h⟩
  match k,h with
  | 0,_=>simp at hk
  | 1,_ | 2,_ | 3,_ | 4,_ | 5,_ | 6,_ | 7,_ | 8,_ | 9,_ | 10,_ | 11,_ | 12,_ | 13,_ | 14,_ | 15,_ | 16,_ | 17,_ | 18,_ | 19,_=>rfl
  | k + 20,h=>omega
set_option maxHeartbeats 400000 in
theorem sign (k:Nat) (hk:k < 20) (w:World):Calls Tryz.prog 92 #[.int .i64 k] w fun e w'=>e = .returned (.int .u8 ((byt sgn k).toNat:Int))∧w = w':=by
  by_cases h:k = 0
  · subst h
    go_enter Tryz.func92,Tryz.ntmps92
    go_wp2
    go_ret
    exact ⟨rfl,rfl⟩
  · have hx:=sgn_ix ⟨k,hk⟩ (by show 0 < k; omega)
    simp only at hx
    have hne:((k:Int) == 0) = false:=by simp; omega
    generalize ((byt sgn k).toNat:Int) = y at *
    go_enter Tryz.func92,Tryz.ntmps92
    go_wp2
    go_ret
    exact ⟨rfl,rfl⟩
theorem take_greet (hb:List UInt8) (hl:hb.length = 48) (k:Nat) (hk:k < 68):(sgn ++ hb).take (k + 1) = (sgn ++ hb).take k ++ [byt (sgn ++ hb) k]:=take_snoc _ k (by simp [sgn,hl]; omega)
set_option maxHeartbeats 2000000 in
theorem greetR (hb:List UInt8) (hl:hb.length = 48) (w:World) :
    Calls Tryz.prog 59 #[.agg (bc hb)] w fun e w'=>∃ v,e = .returned v∧OW w.heap.size w' v (sgn ++ hb)∧Below w.heap.size w w':=by
  have hs20:sgn.length = 20:=rfl
  have hL:(sgn ++ hb).length = 68:=by simp [hs20,hl]
  have HL:Hid ((sgn ++ hb).length = 68):=hL
  have HB:Hid (∀ k,20≤k→byt (sgn ++ hb) k = byt hb (k - 20)):=fun k hk=>byt_right sgn hb k hk
  have HA:Hid (∀ k,k < 20→byt (sgn ++ hb) k = byt sgn k):=fun k hk=>byt_left sgn hb k hk
  have HT:Hid (∀ k,k < 68→(sgn ++ hb).take (k + 1) = (sgn ++ hb).take k ++ [byt (sgn ++ hb) k]):=fun k hk=>take_greet hb hl k hk
  have HH:Hid (hb.length = 48):=hl
  clear hs20 hL hl
  generalize sgn ++ hb = L at *
  go_enter Tryz.func59,Tryz.ntmps59
  go_wp2
  go_loopw [3,4] (fun v t wr=>∃ (k:Nat) (a:Option Addr) (cp:Nat),k≤68∧t = .int .i64 k∧v = .slice a k cp∧OW (w.heap.size + 1) wr v (L.take k)∧Below (w.heap.size + 1) (w.alloc (.cells (bc hb) 97)) wr) (fun _ t _=>68 - (intOf t).toNat)
  case atStart=>exact ⟨0,none,0,Nat.zero_le _,rfl,rfl,World.ownsRow_nil _ _ _ _,Below.refl _ _⟩
  case round =>
    obtain ⟨k,a,cp,hk,rfl,rfl,hown,hbel⟩:=hrel
    have hsz:=hbel.size
    have hsz:w.heap.size + 1≤wr.heap.size:=by simpa using hsz
    by_cases hlt:k < 68
    · have HK:Hid (L.take (k + 1) = L.take k ++ [byt L k]∧(L.take k).length < 140737488351232):=⟨HT.out k hlt,by rw [List.length_take]; omega⟩
      have hhb:wr.heap[w.heap.size]? = some (.cells (bc hb) 97 (0,0)):=(hbel.block w.heap.size (by omega)).trans (heapNew _ _)
      have hlen:(L.take k ++ [byt L k]).length = k + 1:=by rw [List.length_append,List.length_take,HL.out]; simp; omega
      have HLN:Hid (∀ y,(L.take k ++ [y]).length = k + 1):=fun y=>by rw [List.length_append,List.length_take,HL.out]; simp; omega
      clear hlen
      by_cases h20:k < 20
      · have HS:=fun u=>sign k h20 u
        rw [← HA.out k h20] at HS
        have HS':Hid _:=HS
        clear HS hhb
        generalize byt L k = y at *
        go_wp2_with (first |(go_at_call 92; refine (HS'.out _).mono ?_; rintro e w' ⟨rfl,rfl⟩) |(at_builtin; refine append_byte rfl _ _ rfl rfl (hown.alloc _) wr.heap.size y rfl (by go_simp) (by simp; omega) HK.out.2 ?_; intro v' w1 hown' hb1))
        obtain ⟨a',c',rfl⟩:=hown'.form
        have hbel':=(hbel.alloc hsz _).trans hb1
        have hown2:OW (w.heap.size + 1) w1 (.slice a' (L.take k ++ [y]).length c') (L.take (k + 1)):=by rw [HK.out.1]; exact hown'
        have hlen:=HLN.out y
        rw [hlen] at hown2
        clear hown hbel hb1 hown'
        go_wp2
        go_roundw
        case rel=>exact ⟨k + 1,a',c',by omega,by go_num,by rw [hlen],by rw [hlen]; exact hown2,hbel'⟩
        case measure=>simp [intOf]; omega
      · have hcell:wr.cell? ⟨w.heap.size,k - 20,none⟩ = some (.int .u8 ((byt L k).toNat:Int)):=by
          rw [HB.out k (by omega)]; exact cell_bc hhb (k - 20) (by rw [HH.out]; omega)
        clear hhb
        generalize byt L k = y at *
        by_cases h28:k < 28
        · have e1:(((k:Int) - 20).toNat) = k - 20:=by omega
          go_wp2_with (at_builtin; refine append_byte rfl _ _ rfl rfl (hown.alloc _) wr.heap.size y rfl (by go_simp) (by simp; omega) HK.out.2 ?_; intro v' w1 hown' hb1)
          obtain ⟨a',c',rfl⟩:=hown'.form
          have hbel':=(hbel.alloc hsz _).trans hb1
          have hown2:OW (w.heap.size + 1) w1 (.slice a' (L.take k ++ [y]).length c') (L.take (k + 1)):=by rw [HK.out.1]; exact hown'
          have hlen:=HLN.out y
          rw [hlen] at hown2
          clear hown hbel hb1 hown'
          exact ⟨⟨k + 1,a',c',by omega,by go_num,by rw [hlen],by rw [hlen]; exact hown2,hbel'⟩,by simp [intOf]; omega⟩
        · by_cases h48:k < 48
          · have hcell2:wr.cell? ⟨w.heap.size,8 + (k - 28),none⟩ = some (.int .u8 (y.toNat:Int)):=by rw [show 8 + (k - 28) = k - 20 by omega]; exact hcell
            clear hcell
            go_wp2_with (at_builtin; refine append_byte rfl _ _ rfl rfl (hown.alloc _) wr.heap.size y rfl (by go_simp) (by simp; omega) HK.out.2 ?_; intro v' w1 hown' hb1)
            obtain ⟨a',c',rfl⟩:=hown'.form
            have hbel':=(hbel.alloc hsz _).trans hb1
            have hown2:OW (w.heap.size + 1) w1 (.slice a' (L.take k ++ [y]).length c') (L.take (k + 1)):=by rw [HK.out.1]; exact hown'
            have hlen:=HLN.out y
            rw [hlen] at hown2
            clear hown hbel hb1 hown'
            exact ⟨⟨k + 1,a',c',by omega,by go_num,by rw [hlen],by rw [hlen]; exact hown2,hbel'⟩,by simp [intOf]; omega⟩
          · have hcell2:wr.cell? ⟨w.heap.size,28 + (k - 48),none⟩ = some (.int .u8 (y.toNat:Int)):=by rw [show 28 + (k - 48) = k - 20 by omega]; exact hcell
            clear hcell
            go_wp2_with (at_builtin; refine append_byte rfl _ _ rfl rfl (hown.alloc _) wr.heap.size y rfl (by go_simp) (by simp; omega) HK.out.2 ?_; intro v' w1 hown' hb1)
            obtain ⟨a',c',rfl⟩:=hown'.form
            have hbel':=(hbel.alloc hsz _).trans hb1
            have hown2:OW (w.heap.size + 1) w1 (.slice a' (L.take k ++ [y]).length c') (L.take (k + 1)):=by rw [HK.out.1]; exact hown'
            have hlen:=HLN.out y
            rw [hlen] at hown2
            clear hown hbel hb1 hown'
            exact ⟨⟨k + 1,a',c',by omega,by go_num,by rw [hlen],by rw [hlen]; exact hown2,hbel'⟩,by simp [intOf]; omega⟩
    · have hk68:k = 68:=by omega
      subst hk68
      have HF:Hid (OW w.heap.size wr (.slice a 68 cp) L∧Below w.heap.size w wr):=⟨by
        have:=hown.mono (Nat.le_succ _)
        rwa [List.take_of_length_le (by rw [HL.out]; omega)] at this,((Below.refl _ _).alloc (Nat.le_refl _) _).trans (hbel.mono (Nat.le_succ _))⟩
      go_wp2
      go_ret
      exact ⟨_,rfl,HF.out⟩
theorem sok0 (l:List UInt8):sok l 0 = true↔∀ j,j < l.length→j < 20→byt l j = byt sgn j:=by
  have hs:sgn.length = 20:=rfl
  unfold sok
  rw [beq_iff_eq,Nat.sub_zero,List.drop_zero]
  constructor
  · intro h j h1 h2
    have:=congrArg (fun x=>x[j]?) h
    simp only [List.getElem?_take_of_lt h2,List.getElem?_take_of_lt h1] at this
    unfold byt
    rw [List.getD_eq_getElem?_getD,List.getD_eq_getElem?_getD,this]
  · intro h
    apply List.ext_getElem
    · rw [List.length_take,List.length_take,hs,Nat.min_comm]
    · intro j h1 h2
      rw [List.length_take] at h1 h2
      have:=h j (by omega) (by omega)
      rw [getD_byt l j (by omega),getD_byt sgn j (by omega)] at this
      simpa using this
theorem setCell_bc {w:World} {G:Nat} {d:List UInt8} {t:TypeId} (hg:w.heap[G]? = some (.cells (bc d) t (0,0))) (i:Nat) (x:UInt8):w.setCell ⟨G,i,none⟩ (.int .u8 (x.toNat:Int)) = w.setRow G (bc (d.set i x)):=by
  rw [setCell_eq_setRow w G i (bc d) t (0,0) _ hg]
  congr 1
  apply Array.ext'
  rw [Array.toList_setIfInBounds,bc_list,bc_list]
  simp [Lib.byteCells,List.map_set]
theorem byt_set (l:List UInt8) (q k:Nat) (c:UInt8) (hq:q < l.length):byt (l.set q c) k = if k = q then c else byt l k:=by
  unfold byt
  simp only [List.getD_eq_getElem?_getD,List.getElem?_set]
  by_cases h:q = k
  · subst h; simp [hq]
  · rw [if_neg h,if_neg (fun h'=>h h'.symm)]
theorem byt_ext {a b:List UInt8} (h:a.length = b.length) (hb:∀ i,i < a.length→byt a i = byt b i):a = b:=by
  apply List.ext_getElem h
  intro i h1 h2
  have:=hb i h1
  rwa [getD_byt a i h1,getD_byt b i h2] at this
theorem byt_hel (l:List UInt8) (i:Nat) (hi:i < 48):byt (hel l) i = byt l (20 + i):=by
  unfold hel; rw [byt_take _ _ _ hi,byt_drop]
def MB (w wr:World) (d:List UInt8):Prop:=d.length = 48∧wr.heap[w.heap.size + 1]? = some (.cells (bc d) 97 (0,0))∧wr.heap[w.heap.size]? = some (.cells (bc (zr 48)) 97 (0,0))∧Below w.heap.size w wr
theorem MB.set {w wr:World} {d:List UInt8} (h:MB w wr d) (i:Nat) (x:UInt8):MB w (wr.setCell ⟨w.heap.size + 1,i,none⟩ (.int .u8 (x.toNat:Int))) (d.set i x):=by
  rw [setCell_bc h.2.1 i x]
  exact ⟨by simpa using h.1,heapSetRow _ _ _ _ _ h.2.1,by rw [setRow_other _ _ _ _ (by omega)]; exact h.2.2.1,belowSetRow h.2.2.2 (by omega) _⟩
theorem MB.drew {w wr:World} {d:List UInt8} (h:MB w wr d) (n:Nat):MB w (wr.drewN n) d:=⟨h.1,h.2.1,h.2.2.1,belowN h.2.2.2 n⟩
theorem MB.cell {w wr:World} {d:List UInt8} (h:MB w wr d) (i:Nat) (hi:i < 48):wr.cell? ⟨w.heap.size + 1,i,none⟩ = some (.int .u8 ((byt d i).toNat:Int)):=cell_bc h.2.1 i (by rw [h.1]; exact hi)
theorem MB.frozen {w wr:World} {d:List UInt8} (h:MB w wr d) (i:Nat):wr.frozen? ⟨w.heap.size + 1,i,none⟩ = false:=by simp [World.frozen?,h.2.1]
set_option maxHeartbeats 2000000 in
set_option maxRecDepth 100000 in
theorem meetR (v:Value) (l:List UInt8) (hl:l.length≤140737488351232) (w:World) (hr:RB w v l) :
    Calls Tryz.prog 101 #[v] w fun e w'=>e = .returned (.tuple #[.agg (bc (mtH l)),.int .i64 (mtE l)])∧Below w.heap.size w w':=by
  have M0:MB w ((w.alloc (.cells (bc (zr 48)) 97)).alloc (.cells (bc (zr 48)) 97)) (zr 48):=by
    refine ⟨zr_len 48,?_,by rw [heapOld _ _ _ (by simp),heapNew],((Below.refl _ _).alloc (Nat.le_refl _) _).alloc (by simp) _⟩
    have:=heapNew (w.alloc (.cells (bc (zr 48)) 97)) (.cells (bc (zr 48)) 97)
    simpa using this
  have HR:Hid (RB w v l):=hr
  obtain ⟨a,c,rfl,hlc,hr⟩:=hr
  have HC:Hid (∀ k,k < l.length→∃ b o,a = some ⟨b,o,none⟩∧b < w.heap.size∧∀ wr,Below w.heap.size w wr→wr.cell? ⟨b,o + k,none⟩ = some (.int .u8 ((byt l k).toNat:Int))):=by
    intro k hk
    rcases hr with rfl | ⟨b,o,rfl,hb,hc⟩
    · simp at hk
    · exact ⟨b,o,rfl,hb,fun wr hw=>(hw.cell (p:=⟨b,o + k,none⟩) hb).trans (hc k hk)⟩
  clear hr
  generalize hP:mtE l = mE at *
  generalize hP2:mtH l = mH at *
  have HP:Hid (mtE l = mE∧mtH l = mH):=⟨hP,hP2⟩
  clear hP hP2
  have I48:Hid (∀ d:List UInt8,d.length = 48→(Tryz.prog.info? 97).map (·.size) = some (bc d).size∧(bc (zr 48)).size = (bc d).size∧(bc d).all (·.oneCell') = true):=fun d hd=>⟨info_hello hd,by rw [bc_size,bc_size,hd,zr_len],bc_one d⟩
  have FIN:Hid (∀ (wr:World) (d:List UInt8),MB w wr d→d = mH→mH.length = 48∧Below w.heap.size w (wr.setRow w.heap.size (bc d))∧(wr.setRow w.heap.size (bc d)).heap[w.heap.size]? = some (.cells (bc mH) 97 (0,0))):=fun wr d h e=>by
    subst e
    exact ⟨h.1,belowSetRow h.2.2.2 (Nat.le_refl _) _,heapSetRow _ _ _ _ _ h.2.2.1⟩
  go_enter Tryz.func101,Tryz.ntmps101
  go_wp2
  rw [z48]
  generalize hW0:(w.alloc (.cells (bc (zr 48)) 97)).alloc (.cells (bc (zr 48)) 97) = w0 at *
  have H0:Hid (MB w w0 (zr 48)):=M0
  clear M0 hW0
  go_loopw [5] (fun t wr=>∃ k:Nat,k≤l.length∧k≤20∧t = .int .i64 k∧Hid (MB w wr (zr 48))∧∀ j,j < k→byt l j = byt sgn j) (fun t _=>20 - (intOf t).toNat)
  case atStart=>exact ⟨0,Nat.zero_le _,Nat.zero_le _,rfl,H0,fun j h=>absurd h (by omega)⟩
  case round =>
    obtain ⟨k,hk1,hk2,rfl,HW,hb⟩:=hrel
    clear H0
    have HB:Hid (∀ j,j < k→byt l j = byt sgn j):=hb
    clear hb
    by_cases hlt:k < l.length∧k < 20
    · obtain ⟨h1,h2⟩:=hlt
      obtain ⟨b,o,rfl,hb,hcc⟩:=HC.out k h1
      have hck:=hcc wr HW.out.2.2.2
      have HS:Hid (∀ u,Calls Tryz.prog 92 #[.int .i64 k] u fun e w'=>e = .returned (.int .u8 ((byt sgn k).toNat:Int))∧w' = u):=fun u=>(sign k h2 u).mono fun e w' h=>⟨h.1,h.2.symm⟩
      clear hcc
      by_cases heq:byt l k = byt sgn k
      · have hne:(((byt l k).toNat:Int) != ((byt sgn k).toNat:Int)) = false:=by rw [heq]; simp
        have HEQ:Hid (byt l k = byt sgn k):=heq
        clear heq
        generalize ((byt l k).toNat:Int) = x at *
        generalize ((byt sgn k).toNat:Int) = y at *
        go_wp2
        go_quiet ((go_at_call 92; exact Calls.quiet_of_same (HS.out _)))
        go_wp2
        go_roundw
        case rel=>exact ⟨k + 1,by omega,by omega,by go_num,HW.out.drew _,fun j hj=>by
          by_cases h:j = k
          · rw [h]; exact HEQ.out
          · exact HB.out j (by omega)⟩
        case measure=>simp [intOf]; omega
      · have hne:(((byt l k).toNat:Int) != ((byt sgn k).toNat:Int)) = true:=by
          rw [bne_iff_ne]
          intro h
          exact heq (UInt8.toNat_inj.1 (by omega))
        have hso:sok l 0 = false:=by
          rw [← Bool.not_eq_true,sok0]
          exact fun h=>heq (h k h1 h2)
        obtain ⟨e1,e2⟩:=mt_no hso
        have e3:mE = 100:=HP.out.1.symm.trans e1
        have HM:Hid (zr 48 = mH):=e2.symm.trans HP.out.2
        have MW:Hid (∀ n,MB w (wr.drewN n) (zr 48)):=fun n=>HW.out.drew n
        clear heq hso e1 e2 HB
        generalize ((byt l k).toNat:Int) = x at *
        generalize ((byt sgn k).toNat:Int) = y at *
        obtain ⟨q1,q2,q3⟩:=I48.out (zr 48) (zr_len 48)
        have hgL:=fun n=>(MW.out n).2.1
        have hgR:=fun n=>(MW.out n).2.2.1
        go_wp2
        go_quiet ((go_at_call 92; exact Calls.quiet_of_same (HS.out _)))
        go_wp2_with (first |(refine wpList_load_row rfl 97 _ rfl (w.heap.size + 1) rfl 97 (bc (zr 48)) (0,0) _ (by first | exact hgL _ | exact HW.out.2.1) Tryz.underlying97 rfl q1 ?_) |(refine wpList_store_row rfl 97 _ _ rfl w.heap.size (bc (zr 48)) rfl rfl 97 (bc (zr 48)) (by first | exact hgR _ | exact HW.out.2.2.1) q1 rfl q3 ?_))
        subst e3
        obtain ⟨f1,f2,f3⟩:=FIN.out (wr.drewN _) (zr 48) (MW.out _) HM.out
        exact bodyPost_ret (results_hello2 Tryz.results101 _ _ w.heap.size mH rfl f3 f1) rfl ⟨rfl,f2⟩
    · have hso:sok l 0 = true:=(sok0 l).2 fun j h1 h2=>HB.out j (by omega)
      by_cases h68:l.length < 68
      · obtain ⟨e1,e2⟩:=mt_few hso h68
        have e3:mE = 101:=HP.out.1.symm.trans e1
        have HM:Hid (zr 48 = mH):=e2.symm.trans HP.out.2
        obtain ⟨q1,q2,q3⟩:=I48.out (zr 48) (zr_len 48)
        clear hso e1 e2 HB
        have hd:(decide ((k:Int) < (l.length:Int)) && decide ((k:Int) < 20)) = false:=by
          rw [Bool.and_eq_false_iff]; simp; omega
        by_cases hkl:k < l.length
        · have hk20:¬ k < 20:=fun h=>hlt ⟨hkl,h⟩
          clear hlt hd
          go_wp2_with (first |(refine wpList_load_row rfl 97 _ rfl (w.heap.size + 1) rfl 97 (bc (zr 48)) (0,0) _ HW.out.2.1 Tryz.underlying97 rfl q1 ?_) |(refine wpList_store_row rfl 97 _ _ rfl w.heap.size (bc (zr 48)) rfl rfl 97 (bc (zr 48)) HW.out.2.2.1 q1 rfl q3 ?_))
          subst e3
          obtain ⟨f1,f2,f3⟩:=FIN.out wr (zr 48) HW.out HM.out
          exact bodyPost_ret (results_hello2 Tryz.results101 _ _ w.heap.size mH rfl f3 f1) rfl ⟨rfl,f2⟩
        · clear hlt hd
          go_wp2_with (first |(refine wpList_load_row rfl 97 _ rfl (w.heap.size + 1) rfl 97 (bc (zr 48)) (0,0) _ HW.out.2.1 Tryz.underlying97 rfl q1 ?_) |(refine wpList_store_row rfl 97 _ _ rfl w.heap.size (bc (zr 48)) rfl rfl 97 (bc (zr 48)) HW.out.2.2.1 q1 rfl q3 ?_))
          subst e3
          obtain ⟨f1,f2,f3⟩:=FIN.out wr (zr 48) HW.out HM.out
          exact bodyPost_ret (results_hello2 Tryz.results101 _ _ w.heap.size mH rfl f3 f1) rfl ⟨rfl,f2⟩
      · have h68':68≤l.length:=by omega
        obtain ⟨e1,e2⟩:=mt_yes hso h68'
        have e3:mE = 0:=HP.out.1.symm.trans e1
        have HM:Hid (hel l = mH):=e2.symm.trans HP.out.2
        have hk20:¬ k < 20:=fun h=>hlt ⟨by omega,h⟩
        have hkl:k < l.length:=by omega
        subst e3
        clear hso e1 e2 HB hlt
        go_wp2
        go_loopw [6] (fun t wr=>∃ (k:Nat) (d:List UInt8),k≤8∧t = .int .i64 k∧Hid (MB w wr d∧∀ j,j < k→byt d j = byt l (20 + j))) (fun t _=>8 - (intOf t).toNat)
        case atStart=>exact ⟨0,zr 48,Nat.zero_le _,rfl,HW.out,fun j h=>absurd h (by omega)⟩
        case round =>
          clear HW
          obtain ⟨k2,d,hk8,rfl,HD⟩:=hrel
          by_cases hlt:k2 < 8
          · obtain ⟨b,o,rfl,hb,hcc⟩:=HC.out (20 + k2) (by omega)
            have hck:=hcc wr HD.out.1.2.2.2
            have hold:=HD.out.1.cell k2 (by omega)
            have hfr:=HD.out.1.frozen k2
            have HN:Hid (MB w (wr.setCell ⟨w.heap.size + 1,k2,none⟩ (.int .u8 ((byt l (20 + k2)).toNat:Int))) (d.set k2 (byt l (20 + k2)))∧∀ j,j < k2 + 1→byt (d.set k2 (byt l (20 + k2))) j = byt l (20 + j)):=⟨HD.out.1.set k2 _,fun j hj=>by
              rw [byt_set _ _ _ _ (by rw [HD.out.1.1]; omega)]
              split
              · rename_i h; rw [h]
              · exact HD.out.2 j (by omega)⟩
            clear hcc HD
            generalize ((byt l (20 + k2)).toNat:Int) = x at *
            generalize ((byt d k2).toNat:Int) = y at *
            go_wp2
            go_roundw
            case rel=>exact ⟨k2 + 1,_,by omega,by go_num,HN⟩
            case measure=>simp [intOf]; omega
          · obtain rfl:k2 = 8:=by omega
            go_wp2
            go_loopw [7] (fun t wr=>∃ (k:Nat) (d:List UInt8),k≤20∧t = .int .i64 k∧Hid (MB w wr d∧(∀ j,j < 8 + k→byt d j = byt l (20 + j))∧∀ j,28≤j→j < 28 + k→byt d j = byt l (20 + j))) (fun t _=>20 - (intOf t).toNat)
            case atStart=>exact ⟨0,d,Nat.zero_le _,rfl,HD.out.1,fun j h=>HD.out.2 j (by omega),fun j h1 h2=>absurd h1 (by omega)⟩
            case round =>
              clear HD
              obtain ⟨k3,d,hk20',rfl,HD⟩:=hrel
              by_cases hlt:k3 < 20
              · obtain ⟨b,o,rfl,hb,hcc⟩:=HC.out (28 + k3) (by omega)
                obtain ⟨b',o',he,_,hcc'⟩:=HC.out (48 + k3) (by omega)
                simp only [Option.some.injEq,Addr.mk.injEq,and_true] at he
                obtain ⟨rfl,rfl⟩:=he
                have hck:=hcc wr HD.out.1.2.2.2
                have hold:=HD.out.1.cell (8 + k3) (by omega)
                have hfr:=HD.out.1.frozen (8 + k3)
                have M1:=HD.out.1.set (8 + k3) (byt l (28 + k3))
                have hck2:=hcc' _ M1.2.2.2
                have hold2:=M1.cell (28 + k3) (by omega)
                have hfr2:=M1.frozen (28 + k3)
                have HN:Hid (MB w ((wr.setCell ⟨w.heap.size + 1,8 + k3,none⟩ (.int .u8 ((byt l (28 + k3)).toNat:Int))).setCell ⟨w.heap.size + 1,28 + k3,none⟩ (.int .u8 ((byt l (48 + k3)).toNat:Int))) ((d.set (8 + k3) (byt l (28 + k3))).set (28 + k3) (byt l (48 + k3)))∧(∀ j,j < 8 + (k3 + 1)→byt ((d.set (8 + k3) (byt l (28 + k3))).set (28 + k3) (byt l (48 + k3))) j = byt l (20 + j))∧∀ j,28≤j→j < 28 + (k3 + 1)→byt ((d.set (8 + k3) (byt l (28 + k3))).set (28 + k3) (byt l (48 + k3))) j = byt l (20 + j)):=by
                  refine ⟨M1.set (28 + k3) _,fun j hj=>?_,fun j h1 h2=>?_⟩
                  · rw [byt_set _ _ _ _ (by rw [M1.1]; omega),if_neg (by omega),byt_set _ _ _ _ (by rw [HD.out.1.1]; omega)]
                    split
                    · rename_i h; rw [h]; congr 1; omega
                    · exact HD.out.2.1 j (by omega)
                  · rw [byt_set _ _ _ _ (by rw [M1.1]; omega)]
                    split
                    · rename_i h; rw [h]; congr 1; omega
                    · rw [byt_set _ _ _ _ (by rw [HD.out.1.1]; omega),if_neg (by omega)]
                      exact HD.out.2.2 j h1 (by omega)
                clear hcc hcc' HD M1
                generalize ((byt l (28 + k3)).toNat:Int) = x at *
                generalize ((byt l (48 + k3)).toNat:Int) = x2 at *
                generalize ((byt d (8 + k3)).toNat:Int) = y at *
                generalize ((byt (d.set (8 + k3) (byt l (28 + k3))) (28 + k3)).toNat:Int) = y2 at *
                go_wp2
                go_roundw
                case rel=>exact ⟨k3 + 1,_,by omega,by go_num,HN⟩
                case measure=>simp [intOf]; omega
              · obtain rfl:k3 = 20:=by omega
                have hd:d = hel l:=byt_ext (by rw [HD.out.1.1,hel_len l h68']) (fun i hi=>by
                  rw [HD.out.1.1] at hi
                  rw [byt_hel l i hi]
                  by_cases h:i < 28
                  · exact HD.out.2.1 i (by omega)
                  · exact HD.out.2.2 i (by omega) (by omega))
                obtain ⟨q1,q2,q3⟩:=I48.out d HD.out.1.1
                have HDM:Hid (d = mH):=hd.trans HM.out
                clear hd
                go_wp2_with (first |(refine wpList_load_row rfl 97 _ rfl (w.heap.size + 1) rfl 97 (bc d) (0,0) _ HD.out.1.2.1 Tryz.underlying97 rfl q1 ?_) |(refine wpList_store_row rfl 97 _ _ rfl w.heap.size (bc d) rfl rfl 97 (bc (zr 48)) HD.out.1.2.2.1 q1 q2 q3 ?_))
                obtain ⟨f1,f2,f3⟩:=FIN.out wr d HD.out.1 HDM.out
                exact bodyPost_ret (results_hello2 Tryz.results101 _ _ w.heap.size mH rfl f3 f1) rfl ⟨rfl,f2⟩
end Go.Proofs.YtfjjpbebnoghmaaGreatDoor.Fm
namespace Go.Proofs.YtfjjpbebnoghmaaGreatDoor
open Go.RowKit
theorem hello_built2 (i m:List UInt8) (hi:i.length = 20) (hm:m.length = 20):Tryz.prog.built 97 [(1,.agg (bc i)),(2,.agg (bc m))] = some (bc (zr 8 ++ i ++ m)):=by
  rw [built30]
  have e1:bc (zr 48) = bc (zr 8 ++ zr 20 ++ zr 20):=rfl
  rw [e1,fill_part _ (zr 8) (zr 20) (zr 20) i 1 8 _ (by rw [hi]; rfl) rfl (by rw [hi]; rfl)]
  have e2:zr 8 ++ i ++ zr 20 = (zr 8 ++ i) ++ zr 20 ++ []:=by simp
  rw [e2,fill_part _ (zr 8 ++ i) (zr 20) [] m 2 28 _ (by rw [hm]; rfl) (by rw [List.length_append,hi]; rfl) (by rw [hm]; rfl)]
  unfold Instr.fill
  simp
theorem RQ.infoR {w:World} {g:Nat} {Q:Rv} (h:RQ w g Q):w.rangeAt g 2 (Lib.byteCells Q.info):=fun j v hj=>by
  have hj2:j < (Lib.byteCells Q.info).length:=(List.getElem?_eq_some_iff.1 hj).1
  have e:Q.ls[2 + j]? = some v:=by
    unfold Rv.ls
    rw [List.getElem?_append_left (by rw [List.length_append]; show 2 + j < 2 + _; omega),List.getElem?_append_right (by show 2≤2 + j; omega)]
    show (Lib.byteCells Q.info)[2 + j - 2]? = _
    rw [show 2 + j - 2 = j by omega]
    exact hj
  simp [World.cell?,h.2,e]
set_option maxHeartbeats 2000000 in
set_option maxRecDepth 100000 in
theorem rgreetT (w:World) (g:Nat) (Q:Rv) (h:RQ w g Q) (me:List UInt8) (hme:me.length = 20) :
    Calls Tryz.prog 34 #[.pointer (some ⟨g,0,none⟩),.agg (bc me)] w fun e w'=>∃ v,e = .returned v∧OW w.heap.size w' v (Fm.sgn ++ (fl8 ++ Q.info ++ me))∧Below w.heap.size w w':=by
  have bA:Below w.heap.size w (w.alloc (.cells (bc me) 41)):=(Below.refl _ _).alloc (Nat.le_refl _) _
  have HBA:=Lib.hid bA
  have HK1:=Lib.hid (h.keep (bA.block g h.lt))
  have hP:=h.1
  have hi1:(Tryz.prog.info? 41).map (·.size) = some (Lib.byteCells Q.info).length:=by rw [bcl_len,hP]; exact info20
  have hi2:(Tryz.prog.info? 41).map (·.size) = some (Lib.byteCells me).length:=by rw [bcl_len,hme]; exact info20
  have rowOf:∀ u:World,u.heap[w.heap.size]? = some (.cells (bc me) 41 (0,0))→u.rangeAt w.heap.size 0 (Lib.byteCells me):=fun u hu j v hj=>by
    rw [Nat.zero_add]
    simp only [World.cell?,hu,bc]
    simpa using hj
  have HRI:Hid ((w.alloc (.cells (bc me) 41)).rangeAt g 2 (Lib.byteCells Q.info)):=HK1.out.infoR
  have HRM:Hid ((w.alloc (.cells (bc me) 41)).rangeAt w.heap.size 0 (Lib.byteCells me)):=rowOf _ (heapNew _ _)
  have hszA:(w.alloc (.cells (bc me) 41)).heap.size = w.heap.size + 1:=by show (w.heap.push _).size = _; simp
  have hx48:(zr 8 ++ Q.info ++ me).length = 48:=by rw [List.length_append,List.length_append,hP,hme]; rfl
  have hf48:(fl8 ++ Q.info ++ me).length = 48:=by rw [List.length_append,List.length_append,hP,hme]; rfl
  have hset:(bc (zr 8 ++ Q.info ++ me)).setIfInBounds 7 (.int .u8 16) = bc (fl8 ++ Q.info ++ me):=rfl
  have h7:(bc (zr 8 ++ Q.info ++ me))[7]? = some (.int .u8 0):=rfl
  have hbu:=hello_built2 Q.info me hP hme
  generalize zr 8 ++ Q.info ++ me = X at *
  generalize hFF:fl8 ++ Q.info ++ me = F at *
  clear hFF
  have hKr:∀ u,Below (w.alloc (.cells (bc me) 41)).heap.size (w.alloc (.cells (bc me) 41)) u→u.rangeAt g 2 (Lib.byteCells Q.info)∧u.rangeAt w.heap.size 0 (Lib.byteCells me):=fun u hu=>⟨(HK1.out.keep (hu.block g HK1.out.lt)).infoR,rowOf _ ((hu.block w.heap.size (by rw [hszA]; omega)).trans (heapNew _ _))⟩
  clear bA h rowOf
  go_enter Tryz.func34,Tryz.ntmps34
  go_upto_region 3 with fail
  refine wp_region_held_drew (S:=fun u=>u.rangeAt g 2 (Lib.byteCells Q.info)∧u.rangeAt w.heap.size 0 (Lib.byteCells me)) (by kernel_rfl) (⟨HRI.out,HRM.out⟩) (fun hHeld=>?_)
  refine tkB (i:=0) (v:=.pointer (some ⟨g,0,none⟩)) rfl hHeld ?_
  simp only [Act.put,zq1,zq2,zq4,zq5,zq6]
  refine tkB (i:=1) (v:=.pointer (some ⟨g,0,none⟩)) rfl hHeld ?_
  simp only [Act.put,zq1,zq2,zq3,zq4,zq5,zq6]
  refine tkB (i:=2) (v:=.pointer (some ⟨g,2,none⟩)) rfl hHeld ?_
  simp only [Act.put,zq1,zq2,zq3,zq4,zq5,zq6]
  refine tkA (i:=3) (v:=.agg (bc Q.info)) rfl (yieldsIf_load_mid (by rfl) _ _ rfl _ _ rfl _ _ (fun u hw=>hw.1) Tryz.underlying41 rfl hi1) hHeld ?_
  simp only [Act.put,zq1,zq2,zq3,zq4,zq5,zq6]
  refine tkA (i:=4) (v:=.agg (bc me)) rfl (yieldsIf_load_mid (by rfl) _ _ rfl _ _ rfl _ _ (fun u hw=>hw.2) Tryz.underlying41 rfl hi2) hHeld ?_
  simp only [Act.put,zq1,zq2,zq3,zq4,zq5,zq6]
  refine tkA (i:=5) (v:=.agg (bc X)) rfl (yieldsIf_built2 (by rfl) 97 1 2 _ _ rfl (.agg (bc Q.info)) (.agg (bc me)) rfl rfl _ hbu) hHeld ?_
  simp only [Act.put,zq1,zq2,zq3,zq4,zq5,zq6]
  refine wpAnyH_ready (rs:=[6]) (by kernel_rfl) (by simp) ?_
  refine AllReadyH.cons (o:=_) rfl (fun K hK=>?_) AllReadyH.nil
  go_simp
  have bV:Below (w.alloc (.cells (bc me) 41)).heap.size (w.alloc (.cells (bc me) 41)) (World.drew ((w.alloc (.cells (bc me) 41)).alloc (.cells (bc (zr 48)) 97))):=belowN ((Below.refl _ _).alloc (Nat.le_refl _) _) 1
  have hgV:(World.drew ((w.alloc (.cells (bc me) 41)).alloc (.cells (bc (zr 48)) 97))).heap[w.heap.size + 1]? = some (.cells (bc (zr 48)) 97 (0,0)):=by
    have:=heapNew (w.alloc (.cells (bc me) 41)) (.cells (bc (zr 48)) 97)
    rw [hszA] at this
    exact this
  refine hK.out _ (World.drew ((w.alloc (.cells (bc me) 41)).alloc (.cells (bc (zr 48)) 97))) (hKr _ bV) (fun hHeld=>?_)
  clear hK K
  have HBV:=Lib.hid bV
  obtain ⟨u1,hu1⟩:∃ u,u = (World.drew ((w.alloc (.cells (bc me) 41)).alloc (.cells (bc (zr 48)) 97))):=⟨_,rfl⟩
  rw [← hu1] at HBV hgV hHeld ⊢
  clear hu1 bV
  have hiH:(Tryz.prog.info? 97).map (·.size) = some (bc X).size:=by rw [bc_size,hx48]; kernel_rfl
  have hszH:(bc (zr 48)).size = (bc X).size:=by rw [bc_size,bc_size,zr_len]; exact hx48.symm
  have honeX:=bc_one X
  have b2:Below (w.alloc (.cells (bc me) 41)).heap.size (w.alloc (.cells (bc me) 41)) (u1.setRow (w.heap.size + 1) (bc X)):=belowSetRow HBV.out (by rw [hszA]; omega) _
  refine wpAnyH_ready (rs:=[7]) (by kernel_rfl) (by simp) ?_
  refine AllReadyH.cons (o:=_) rfl (fun K hK=>?_) AllReadyH.nil
  refine if_tt (by rfl) ?_
  refine wp_store_row 97 _ _ rfl (w.heap.size + 1) (bc X) rfl rfl 97 (bc (zr 48)) hgV hiH hszH honeX ?_
  refine hK.out _ _ (hKr _ b2) (fun hHeld=>?_)
  clear hK K
  refine wpAnyH_done (by kernel_rfl) ?_ _
  clear hHeld
  have hg3:(u1.setRow (w.heap.size + 1) (bc X)).heap[w.heap.size + 1]? = some (.cells (bc X) 97 (0,0)):=setRow_heap _ _ _ _ _ _ hgV
  have HB3:=Lib.hid (HBA.out.trans (b2.mono HBA.out.size))
  obtain ⟨u3,hu3⟩:∃ u,u = u1.setRow (w.heap.size + 1) (bc X):=⟨_,rfl⟩
  rw [← hu3] at HB3 hg3 ⊢
  clear hu3 b2 hgV HBV
  have c7:u3.cell? ⟨w.heap.size + 1,7,none⟩ = some (.int .u8 0):=by simp only [World.cell?,hg3]; exact h7
  have f7:u3.frozen? ⟨w.heap.size + 1,7,none⟩ = false:=by simp [World.frozen?,hg3]
  have hg4:(u3.setCell ⟨w.heap.size + 1,7,none⟩ (.int .u8 16)).heap[w.heap.size + 1]? = some (.cells (bc F) 97 (0,0)):=by rw [← hset]; exact heap_setCell_same u3 _ 7 _ _ _ hg3
  have HB4:Hid (Below w.heap.size w (u3.setCell ⟨w.heap.size + 1,7,none⟩ (.int .u8 16))):=HB3.out.setCell (p:=⟨w.heap.size + 1,7,none⟩) (by show w.heap.size≤w.heap.size + 1; omega) _
  have hiF:(Tryz.prog.info? 97).map (·.size) = some (bc F).size:=by rw [bc_size,hf48]; kernel_rfl
  clear hset h7 hbu hg3 hKr HRI HRM HK1 hiH hszH honeX
  go_wp2_with (first |(refine wpList_load_row rfl 97 _ rfl (w.heap.size + 1) rfl 97 (bc F) (0,0) _ hg4 Tryz.underlying97 rfl hiF ?_))
  refine (Fm.greetR F hf48 _).mono ?_
  rintro e w5 ⟨v5,rfl,o5,b5⟩
  obtain ⟨a5,n5,c5,rfl⟩:=o5.form3
  have HE:=Lib.hid (And.intro (o5.mono HB4.out.size) (HB4.out.trans (b5.mono HB4.out.size)))
  clear o5 b5
  go_wp2
  go_ret
  exact ⟨_,rfl,HE.out.1,HE.out.2⟩
theorem pce_lt {L:List Int} {i:Int} (hi:0≤i):pce L i = decide (i < (L.length:Int)):=by
  unfold pce
  rw [decide_eq_true hi,Bool.true_and]
theorem leg_same {L:List Int} {b:Int} {hd:Bool} {m:Mv} {D:List UInt8} (hi:0≤m.i) (h7:m.k = 7→1≤D.length):rlE L b hd m D = legE L b hd m D:=by
  unfold rlE legE
  by_cases k5:m.k = 5
  · rw [if_pos k5,if_pos k5]
  rw [if_neg k5,if_neg k5]
  by_cases k4:m.k = 4
  · have n7:¬ m.k = 7:=by omega
    have n68:¬ (m.k = 6∨m.k = 8):=by omega
    rw [if_pos k4,if_neg n7,if_neg n68,if_pos k4,pce_lt hi]
    by_cases h:m.i < (L.length:Int)
    · rw [decide_eq_true h,if_neg (by omega),if_pos rfl]
    · rw [decide_eq_false h,if_pos (by omega),if_neg (by simp)]
  rw [if_neg k4]
  by_cases k7:m.k = 7
  · have n68:¬ (m.k = 6∨m.k = 8):=by omega
    rw [if_neg n68,if_pos k7,if_pos k7,blE_eq (by have:=h7 k7; omega)]
    cases ctp L b m.i m.b D.length <;> cases rgp L b m.i m.b D.length <;> rfl
  rw [if_neg k7,if_neg k7,if_neg k4]
theorem may_same {L:List Int} {P:Pv} {Q:Rv} {m:Mv} {D:List UInt8} (hi:0≤m.i) (hb:Q.b = P.b) (hc:Q.c = P.ic) (ha:Q.ac = P.wc) (hs:Q.sd = P.wb):rmE L Q.b Q.c Q.ac Q.sd m D = mayE L P m D:=by
  unfold rmE mayE
  rw [hb,hc,ha,hs,pce_lt hi]
  by_cases k5:m.k = 5
  · rw [if_pos k5,if_pos k5]
  rw [if_neg k5,if_neg k5]
  by_cases k4:m.k = 4
  · rw [if_pos k4,if_pos k4]
  rw [if_neg k4,if_neg k4]
  by_cases k7:m.k = 7
  · have n6:¬ m.k = 6:=by omega
    have n8:¬ m.k = 8:=by omega
    rw [if_neg n6,if_neg n8,if_pos k7,if_pos k7,Bool.and_comm]
  rw [if_neg k7,if_neg k7]
  by_cases k6:m.k = 6
  · rw [if_pos k6,if_pos k6,Bool.and_comm]
  rw [if_neg k6,if_neg k6]
theorem qt_iff (k:Int):qtE k = decide (k = -1∨k = 1000):=by
  unfold qtE
  rw [Bool.eq_iff_iff]
  simp
theorem say_same (Q:Rv) (k:Int):(Q.say k).ac = (sy k Q.ac Q.ai Q.sd).1∧(Q.say k).ai = (sy k Q.ac Q.ai Q.sd).2.1∧(Q.say k).sd = (sy k Q.ac Q.ai Q.sd).2.2:=by
  unfold Rv.say sy
  rw [qt_iff]
  by_cases hq:k = -1∨k = 1000
  · have h0:¬ k = 0:=by omega
    have h1:¬ k = 1:=by omega
    have h2:¬ k = 2:=by omega
    have h3:¬ k = 3:=by omega
    simp [hq,h0,h1,h2,h3]
  · rw [if_neg hq,decide_eq_false hq]
    by_cases h0:k = 0
    · simp [h0]
    by_cases h1:k = 1
    · simp [h1]
    by_cases h2:k = 2
    · simp [h2]
    by_cases h3:k = 3
    · simp [h3]
    simp [h0,h1,h2,h3]
theorem eff_same (Q:Rv) (k:Int) (hv:Value):(Q.eff k hv).c = (sy k Q.c Q.i Q.hd).1∧(Q.eff k hv).i = (sy k Q.c Q.i Q.hd).2.1∧(Q.eff k hv).hd = (sy k Q.c Q.i Q.hd).2.2:=by
  unfold Rv.eff sy
  rw [qt_iff]
  by_cases hq:k = -1∨k = 1000
  · have h0:¬ k = 0:=by omega
    have h1:¬ k = 1:=by omega
    have h2:¬ k = 2:=by omega
    have h3:¬ k = 3:=by omega
    simp [hq,h0,h1,h2,h3]
  · rw [if_neg hq,decide_eq_false hq]
    by_cases h0:k = 0
    · simp [h0]
    by_cases h1:k = 1
    · simp [h1]
    by_cases h2:k = 2
    · simp [h2]
    by_cases h3:k = 3
    · simp [h3]
    simp [h0,h1,h2,h3]
end Go.Proofs.YtfjjpbebnoghmaaGreatDoor
