import Derived.Test.YtfjjpbebnoghmaaGreatDoorK00
import Derived.Test.YtfjjpbebnoghmaaGreatDoorK05
namespace Go.Proofs.YtfjjpbebnoghmaaGreatDoor
open Go.RowKit
def lays (cs:List Nat) (m:Mv) (D hb:List UInt8):List UInt8:=(cs.map fun c=>lay c m D hb).flatten
def encB (m:Mv) (D hb:List UInt8):List UInt8:=
  if valE m = 0 then (match rowFor m.k with | some r=>lays r.cs m D hb | none=>[]) else []
theorem val_small (m:Mv) (h:valE m = 0):sln m.d≤32767∧sln m.h≤560:=by
  rw [← ref_val] at h
  unfold refE at h
  split at h
  · simp at h
  · split at h
    · simp at h
    · rename_i h1 h2
      split at h
      · split at h
        · simp at h
        · rename_i h3 h4
          have h2':fR m = false:=by simpa using h2
          have h4':szb m (sln m.d) (sln m.h) = false:=by simpa using h4
          simp [fR,fc4,fc6] at h2'
          simp [szb] at h4'
          generalize sln m.d = nd at *
          generalize sln m.h = nh at *
          obtain ⟨⟨⟨_,h24⟩,_⟩,h26⟩:=h2'
          obtain ⟨⟨⟨q5,q7⟩,q9⟩,q22⟩:=h4'
          constructor
          · by_cases hn:0 < nd
            · have:=h24 hn
              by_cases k5:m.k = 5
              · have:=q5 k5; omega
              · by_cases k7:m.k = 7
                · have:=q7 k7; omega
                · have:=q9 (this k5 k7); omega
            · omega
          · by_cases hn:0 < nh
            · have:=q22 (h26 hn); omega
            · omega
      · simp at h
theorem rws_mo:∀ r ∈ rws,r.mo≤32768∧0≤r.mo:=by decide
theorem fit_le {r:Kr} {n:Int} (h:r.fit n = true):n≤r.mo:=by
  unfold Kr.fit at h
  simp at h
  exact h.1.2
theorem lay_le (c:Nat) (m:Mv) (ok:m.ok) (D hb:List UInt8) (hD:D.length≤1000000) (hH:hb.length≤1000000):(lay c m D hb).length≤1000000:=by
  unfold lay
  split <;> first |(simp [be4]; done) |(rw [ok.r]; omega) | assumption | simp
theorem lays_le (cs:List Nat) (m:Mv) (ok:m.ok) (D hb:List UInt8) (hD:D.length≤1000000) (hH:hb.length≤1000000):(lays cs m D hb).length≤cs.length * 1000000:=by
  induction cs with
  | nil=>simp [lays]
  | cons c l ih =>
    have:=lay_le c m ok D hb hD hH
    have e:lays (c :: l) m D hb = lay c m D hb ++ lays l m D hb:=rfl
    rw [e,List.length_append,List.length_cons,Nat.succ_mul]
    omega
theorem lays_snoc (cs:List Nat) (c:Nat) (m:Mv) (D hb:List UInt8):lays (cs ++ [c]) m D hb = lays cs m D hb ++ lay c m D hb:=by
  simp [lays]
set_option maxHeartbeats 2000000 in
set_option maxRecDepth 100000 in
theorem encodeT (w:World) (m:Mv) (D HBB:List UInt8) (hm:MM w m D HBB) (hk:KT w) :
    Calls Tryz.prog 108 #[.agg m.cs] w fun e w'=>∃ v,e = .returned (.tuple #[v,.int .i64 (valE m)])∧OW w.heap.size w' v (encB m D HBB)∧Below w.heap.size w w':=by
  have b0:Below w.heap.size w (w.alloc (.cells m.cs 40)):=(Below.refl _ _).alloc (Nat.le_refl _) _
  have HA:Hid (KT (w.alloc (.cells m.cs 40))∧MB (w.alloc (.cells m.cs 40)) w.heap.size m∧MM (w.alloc (.cells m.cs 40)) m D HBB∧Below w.heap.size w (w.alloc (.cells m.cs 40))∧w.heap.size < (w.alloc (.cells m.cs 40)).heap.size):=⟨hk.below b0 hk.pos,heapNew w _,hm.keep b0,b0,by simp⟩
  have hc:=HA.out.2.1.cells
  have him:=info_msg hm.ok
  have HS:Hid (MM w m D HBB):=hm
  clear b0 hk hm
  go_enter Tryz.func108,Tryz.ntmps108
  go_wp2_with (first |(refine wpList_load_row rfl 40 _ rfl w.heap.size rfl 40 m.cs (0,0) _ hc Tryz.underlying40 rfl him ?_))
  generalize w.alloc (.cells m.cs 40) = w0 at *
  refine (checkedT w0 m HS.out.ok HA.out.1 HS.out.big.1 HS.out.big.2).mono ?_
  rintro e w1 ⟨v,rfl,hv,b1⟩
  have HB:Hid (MB w1 w.heap.size m∧MM w1 m D HBB∧Below w.heap.size w w1∧w.heap.size < w1.heap.size):=⟨HA.out.2.1.below b1,HA.out.2.2.1.keep b1,HA.out.2.2.2.1.trans (b1.mono (Nat.le_of_lt HA.out.2.2.2.2)),Nat.lt_of_lt_of_le HA.out.2.2.2.2 b1.size⟩
  clear b1 hc HA him
  by_cases h0:valE m = 0
  · obtain ⟨r,hr,hfs,hlk,hfit,_⟩:=hv h0
    have hsm:=val_small m h0
    have hmem:=(rowFor_mem hr).1
    have hmo:=rws_mo r hmem
    have hfl:=fit_le hfit
    have hcs:r.cs.length≤7:=(rws_all r hmem).2.2.2.2.2
    have HR:Hid (encB m D HBB = lays r.cs m D HBB∧valE m = 0∧lks r.cs m = true∧FS w1 v r.cs∧D.length≤1000000∧HBB.length≤1000000∧r.cs.length≤7):=by
      refine ⟨by unfold encB; rw [if_pos h0,hr],h0,hlk,hfs,?_,?_,hcs⟩
      · have:=HS.out.sd; omega
      · have:=HS.out.sh; omega
    have hsz:szs r.cs m≤32768:=by omega
    obtain ⟨va,vc,rfl,_⟩:=id hfs
    rw [h0]
    clear hv h0 hfs hlk hfit hr hmem hmo hfl hsm
    go_wp2_with fail
    refine (sizeT w1 _ r.cs w.heap.size m HB.out.1 HS.out.ok HR.out.2.2.2.1 (by omega) HS.out.big.1 HS.out.big.2).mono ?_
    rintro e w2 ⟨rfl,b2⟩
    have HC:Hid (MB w2 w.heap.size m∧MM w2 m D HBB∧Below w.heap.size w w2∧w.heap.size < w2.heap.size∧FS w2 (.slice va r.cs.length vc) r.cs):=⟨HB.out.1.below b2,HB.out.2.1.keep b2,HB.out.2.2.1.trans (b2.mono (Nat.le_of_lt HB.out.2.2.2)),Nat.lt_of_lt_of_le HB.out.2.2.2 b2.size,HR.out.2.2.2.1.below b2⟩
    clear b2 HB
    generalize szs r.cs m = S at *
    have hmk:∀ u:World,(Instr.makeSlice 37 (.int .i64 0) (.int .i64 (S:Int))).run Tryz.prog u = .ok (.slice (some ⟨u.heap.size,0,none⟩) 0 S) (u.alloc (.cells (madeCells #[.int .u8 0] S) 5)):=fun u=>by
      obtain ⟨i0,hi,hz0,hz1,hz2⟩:=info_parts info5
      have h:=run_make (P:=Tryz.prog) u 37 5 i0 (.int .u8 0) Tryz.underlying37 hi hz0 .i64 .i64 0 (S:Int) (by omega) (by omega) (by rw [hz2]; omega) (by omega)
      simpa [hz1,Value.cells] using h
    go_wp2
    have HD:Hid (OW w2.heap.size (w2.alloc (.cells (madeCells #[.int .u8 0] S) 5)) (.slice (some ⟨w2.heap.size,0,none⟩) 0 S) []∧Below w2.heap.size w2 (w2.alloc (.cells (madeCells #[.int .u8 0] S) 5))):=⟨World.ownsRow_made w2 _ S (Nat.le_refl _) (by unfold maxLen; omega) (by simp [size_madeCells]),(Below.refl _ _).alloc (Nat.le_refl _) _⟩
    generalize w2.alloc (.cells (madeCells #[.int .u8 0] S) 5) = w3 at *
    generalize hln:r.cs.length = len at *
    have HN:Hid (r.cs.length = len):=hln
    clear hln hmk
    generalize m.cs = mcs at *
    go_loopw [6,22] (fun u t wr=>∃ n:Nat,n≤len∧t = .int .i64 n∧Hid (OW w2.heap.size wr u (lays (r.cs.take n) m D HBB)∧Below w2.heap.size w2 wr)) (fun _ t _=>len - (intOf t).toNat)
    case atStart=>exact ⟨0,by omega,rfl,HD.out⟩
    case round =>
      obtain ⟨n,hn,rfl,hI⟩:=hrel
      by_cases hlt:n < len
      · have hl2:n < r.cs.length:=by rw [HN.out]; exact hlt
        have hx:r.cs[n]? = some r.cs[n]:=List.getElem?_eq_getElem hl2
        generalize r.cs[n] = c at hx
        obtain ⟨a',cap',e',hfa⟩:=HC.out.2.2.2.2
        simp only [Value.slice.injEq] at e'
        obtain ⟨rfl, -,rfl⟩:=e'
        rcases hfa with h | ⟨G,cur,rfl,hG,hfa⟩
        · rw [h] at hl2; simp at hl2
        obtain ⟨vs,hv,hr⟩:=hfa n c hx
        obtain ⟨v0,v1,v2,v3,v4,rfl⟩:=hv.len
        have hGlt:=(Array.getElem?_eq_some_iff.1 hG).1
        have hb:=hI.out.2
        have hr':wr.rangeAt G (n * 5) [v0,v1,v2,v3,v4]:=fun j y hj=>(hb.cell (p:=⟨G,n * 5 + j,none⟩) hGlt).trans (hr j y hj)
        have hi5:(Tryz.prog.info? 152).map (·.size) = some [v0,v1,v2,v3,v4].length:=info_field
        have hi5':(Tryz.prog.info? 152).map (·.size) = some ([v0,v1,v2,v3,v4]:List Value).toArray.size:=info_field
        have hone:([v0,v1,v2,v3,v4]:List Value).toArray.all (·.oneCell') = true:=hv.one
        have hb2:Below w2.heap.size w2 (bxw wr [v0,v1,v2,v3,v4]):=hb.trans ((bxw_below _ _).mono hb.size)
        have ho2:=hI.out.1.grow (bxw_below wr [v0,v1,v2,v3,v4])
        have hv2:FLD (bxw wr [v0,v1,v2,v3,v4]) c [v0,v1,v2,v3,v4]:=hv.below hb2
        obtain ⟨f,caps,rfl,he,hc⟩:=hv2.lay
        have hlkc:lk c m = true:=by
          have:=HR.out.2.2.1
          unfold lks at this
          exact List.all_eq_true.1 this c (List.mem_of_getElem? hx)
        have hll:(lays (r.cs.take n) m D HBB).length≤100000000:=by
          have h1:=lays_le (r.cs.take n) m HS.out.ok D HBB HR.out.2.2.2.2.1 HR.out.2.2.2.2.2.1
          have h2:(r.cs.take n).length≤7:=by rw [List.length_take]; have:=HR.out.2.2.2.2.2.2; omega
          have h3:=Nat.mul_le_mul_right 1000000 h2
          omega
        have HX:Hid (Calls Tryz.prog f (#[u6,ptr w.heap.size] ++ caps) (bxw wr [v0,clo f caps,v2,v3,v4]) (fun e w'=>LYR w2.heap.size (bxw wr [v0,clo f caps,v2,v3,v4]) w' e (lays (r.cs.take n) m D HBB ++ lay c m D HBB))∧Below w2.heap.size w2 (bxw wr [v0,clo f caps,v2,v3,v4])):=
          ⟨hc w2 w.heap.size m D HBB u6 _ HC.out.1 HC.out.2.1 hlkc hb2 ho2 hll HR.out.2.2.2.2.1 HR.out.2.2.2.2.2.1,hb2⟩
        have h3:(bxw wr [v0,clo f caps,v2,v3,v4]).cell? ⟨wr.heap.size,1,none⟩ = some (clo f caps):=rangeOf (bxw_heap _ _) 1 _ rfl
        have hg0:=heapNew wr (.cells nil5 152)
        obtain ⟨ua,uc,rfl⟩:=hI.out.1.form
        have HT:Hid (lays (r.cs.take (n + 1)) m D HBB = lays (r.cs.take n) m D HBB ++ lay c m D HBB):=by
          unfold Hid
          rw [← lays_snoc]
          congr 1
          rw [List.take_add_one,hx]; rfl
        clear hc hb2 hv2 hv hr hfa hb ho2 hI hll hlkc
        generalize hLL:lays (r.cs.take n) m D HBB = LL at *
        go_wp2_with (first |(refine wpList_load_mid rfl 152 _ rfl G (n * 5) rfl _ _ hr' Tryz.underlying152 rfl hi5 ?_) |(refine wpList_store_row rfl 152 _ _ rfl wr.heap.size _ rfl rfl 152 nil5 hg0 hi5' rfl hone ?_))
        refine HX.out.1.mono ?_
        rintro e w4 ⟨v',rfl,o4,b4⟩
        have HE:Hid (OW w2.heap.size w4 v' (lays (r.cs.take (n + 1)) m D HBB)∧Below w2.heap.size w2 w4):=⟨by rw [HT.out]; exact o4,HX.out.2.trans b4⟩
        clear o4 b4 HX h3 hg0 hr'
        go_wp2
        exact ⟨⟨n + 1,by omega,by go_num,HE.out⟩,by simp [intOf]; omega⟩
      · have HE:Hid (OW w.heap.size wr u6 (encB m D HBB)∧Below w.heap.size w wr):=by
          have h1:=hI.out.1
          rw [List.take_of_length_le (by have:=HN.out; omega)] at h1
          rw [HR.out.1]
          exact ⟨h1.mono (Nat.le_of_lt HC.out.2.2.2.1),HC.out.2.2.1.trans (hI.out.2.mono (Nat.le_of_lt HC.out.2.2.2.1))⟩
        go_wp2
        go_ret2
        exact ⟨_,by rw [HR.out.2.1]; rfl,HE.out⟩
  · have HE:Hid (encB m D HBB = []):=by unfold Hid encB; rw [if_neg h0]
    obtain ⟨ve,hve⟩:∃ ve,valE m = ve:=⟨_,rfl⟩
    rw [hve] at h0 ⊢
    have HVE:Hid (valE m = ve):=hve
    clear hv hve
    go_wp2
    go_ret2
    exact ⟨_,by rw [HVE.out]; rfl,by rw [HE.out]; exact World.ownsRow_nil _ _ _ _,HB.out.2.2.1⟩
def zmk (k:Int):Mv:={ zm with k:=k }
def decR (r:Kr) (l:List UInt8):Ds:=Ds.tks r.cs ⟨zmk r.k, [], [],l⟩
def decE (l:List UInt8):Int:=
  if 32768 < l.length then 111 else
  match rowFor (kindB l) with
  | none=>110
  | some r=>if r.fit (l.length:Int) then (if lks r.cs (decR r l).m then 0 else 112) else 111
def decS (l:List UInt8):Ds:=
  if decE l = 0 then (match rowFor (kindB l) with | some r=>decR r l | none=>⟨zm, [], [], []⟩) else ⟨zm, [], [], []⟩
theorem upd_r (c:Nat) (m:Mv) (l:List UInt8) (h:m.r.length = 32) (hn:nds c l):(upd c m l).r.length = 32:=by
  unfold upd
  split <;> first | exact h |(unfold nds at hn; simp at hn ⊢; omega)
theorem tks_r (cs:List Nat) (s:Ds) (h:s.m.r.length = 32) (hn:NDS cs s.l):(Ds.tks cs s).m.r.length = 32:=by
  induction cs generalizing s with
  | nil=>exact h
  | cons c cs ih=>exact ih (Ds.tk c s) (upd_r c s.m s.l h hn.1) hn.2
theorem tks_snoc (cs:List Nat) (c:Nat) (s:Ds):Ds.tks (cs ++ [c]) s = Ds.tk c (Ds.tks cs s):=by
  unfold Ds.tks; rw [List.foldl_append]; rfl
theorem upd_dh (c:Nat) (m:Mv) (l:List UInt8) (d h d' h':Value):({ upd c { m with d:=d,h:=h } l with d:=d',h:=h' }:Mv) = { upd c m l with d:=d',h:=h' }:=by
  unfold upd
  split <;> rfl
theorem lks_same (cs:List Nat) (m:Mv) (d h:Value):lks cs { m with d:=d,h:=h } = lks cs m:=by
  simp only [lks,lk_same]
theorem nm4_lt (l:List UInt8):nm4 l≤4294967295:=by
  have h0:=UInt8.toNat_lt (byt l 0)
  have h1:=UInt8.toNat_lt (byt l 1)
  have h2:=UInt8.toNat_lt (byt l 2)
  have h3:=UInt8.toNat_lt (byt l 3)
  unfold nm4
  omega
theorem nm4_be4 (n:Nat) (h:n≤4294967295) (l:List UInt8):nm4 (be4 n ++ l) = n:=by
  have e:nm4 (be4 n ++ l) = (((UInt8.ofNat (n / 16777216)).toNat * 256 + (UInt8.ofNat (n / 65536)).toNat) * 256 + (UInt8.ofNat (n / 256)).toNat) * 256 + (UInt8.ofNat n).toNat:=rfl
  rw [e]
  simp only [UInt8.toNat_ofNat']
  omega
theorem drop_be4 (n:Nat) (l:List UInt8):(be4 n ++ l).drop 4 = l:=rfl
def szdB (k n:Int):Bool:=
  if 64≤k then decide (n≤32768) else if k≤3 then n == 1 else if k = 4 then n == 5 else if k = 5 then decide (n≤8193) else if k = 7 then (decide (10≤n) && decide (n≤16393)) else if asksB k then n == 13 else if k = 22 then (decide (49≤n) && decide (n≤17969) && (n - 49) % 32 == 0) else n == 49
set_option maxHeartbeats 1000000 in
theorem rsizedT (w:World) (k n:Int) (hn:0≤n) (hn2:n≤140737488351232):Calls Tryz.prog 74 #[.int .i64 k,.int .i64 n] w fun e w'=>e = .returned (.bool (szdB k n))∧w' = w:=by
  have hA:=fun u=>asksT u k
  by_cases h1:64≤k
  · rw [show szdB k n = decide (n≤32768) by unfold szdB; rw [if_pos h1]]
    go_enter Tryz.func74,Tryz.ntmps74
    go_wp2
    go_ret
    exact ⟨rfl,rfl⟩
  by_cases h2:k≤3
  · rw [show szdB k n = (n == 1) by unfold szdB; rw [if_neg h1,if_pos h2]]
    go_enter Tryz.func74,Tryz.ntmps74
    go_wp2
    go_ret
    exact ⟨rfl,rfl⟩
  by_cases h3:k = 4
  · rw [show szdB k n = (n == 5) by unfold szdB; rw [if_neg h1,if_neg h2,if_pos h3]]
    subst h3
    go_enter Tryz.func74,Tryz.ntmps74
    go_wp2
    go_ret
    exact ⟨rfl,rfl⟩
  by_cases h4:k = 5
  · rw [show szdB k n = decide (n≤8193) by unfold szdB; rw [if_neg h1,if_neg h2,if_neg h3,if_pos h4]]
    subst h4
    go_enter Tryz.func74,Tryz.ntmps74
    go_wp2
    go_ret
    exact ⟨rfl,rfl⟩
  by_cases h5:k = 7
  · subst h5
    rw [show szdB 7 n = (decide (10≤n) && decide (n≤16393)) from rfl]
    by_cases q:10≤n
    · rw [decide_eq_true q]
      go_enter Tryz.func74,Tryz.ntmps74
      go_wp2
      go_ret
      exact ⟨rfl,rfl⟩
    · rw [decide_eq_false q]
      go_enter Tryz.func74,Tryz.ntmps74
      go_wp2
      go_ret
      exact ⟨rfl,rfl⟩
  by_cases h6:asksB k = true
  · rw [show szdB k n = (n == 13) by unfold szdB; rw [if_neg h1,if_neg h2,if_neg h3,if_neg h4,if_neg h5,if_pos h6]]
    rw [h6] at hA
    go_enter Tryz.func74,Tryz.ntmps74
    go_wp2_with fail
    refine (hA _).mono ?_
    rintro e w1 ⟨rfl,rfl⟩
    go_wp2
    go_ret
    exact ⟨rfl,rfl⟩
  have h6':asksB k = false:=by simpa using h6
  rw [h6'] at hA
  by_cases h7:k = 22
  · subst h7
    rw [show szdB 22 n = (decide (49≤n) && decide (n≤17969) && (n - 49) % 32 == 0) from rfl]
    by_cases q:49≤n
    · by_cases q2:n≤17969
      · rw [decide_eq_true q,decide_eq_true q2]
        go_enter Tryz.func74,Tryz.ntmps74
        go_wp2_with fail
        refine (hA _).mono ?_
        rintro e w1 ⟨rfl,rfl⟩
        go_wp2
        go_ret
        exact ⟨rfl,rfl⟩
      · rw [decide_eq_true q,decide_eq_false q2]
        go_enter Tryz.func74,Tryz.ntmps74
        go_wp2_with fail
        refine (hA _).mono ?_
        rintro e w1 ⟨rfl,rfl⟩
        go_wp2
        go_ret
        exact ⟨rfl,rfl⟩
    · rw [decide_eq_false q]
      go_enter Tryz.func74,Tryz.ntmps74
      go_wp2_with fail
      refine (hA _).mono ?_
      rintro e w1 ⟨rfl,rfl⟩
      go_wp2
      go_ret
      exact ⟨rfl,rfl⟩
  · rw [show szdB k n = (n == 49) by unfold szdB; rw [if_neg h1,if_neg h2,if_neg h3,if_neg h4,if_neg h5,if_neg h6,if_neg h7]]
    go_enter Tryz.func74,Tryz.ntmps74
    go_wp2_with fail
    refine (hA _).mono ?_
    rintro e w1 ⟨rfl,rfl⟩
    go_wp2
    go_ret
    exact ⟨rfl,rfl⟩
set_option maxHeartbeats 1000000 in
theorem rnumT (w:World) (v:Value) (l:List UInt8) (i:Nat) (hl:i + 4≤l.length) (hl2:l.length≤140737488351232) (hr:RB w v l) :
    Calls Tryz.prog 76 #[v,.int .i64 (i:Int)] w fun e w'=>e = .returned (.int .i64 (nm4 (l.drop i):Int))∧∃ n,w' = w.drewN n:=by
  obtain ⟨b,o,c,rfl,_,hc⟩:=hr.cells (by omega)
  have h0:=UInt8.toNat_lt (byt l i)
  have h1:=UInt8.toNat_lt (byt l (i + 1))
  have h2:=UInt8.toNat_lt (byt l (i + 2))
  have h3:=UInt8.toNat_lt (byt l (i + 3))
  have c0:=hc i (by omega)
  have c1:=hc (i + 1) (by omega)
  have c2:=hc (i + 2) (by omega)
  have c3:=hc (i + 3) (by omega)
  have en:nm4 (l.drop i) = (((byt l i).toNat * 256 + (byt l (i + 1)).toNat) * 256 + (byt l (i + 2)).toNat) * 256 + (byt l (i + 3)).toNat:=by
    unfold nm4; simp only [byt_drop,Nat.add_zero]
  rw [en]
  clear hc hr en
  generalize (byt l i).toNat = x0 at *
  generalize (byt l (i + 1)).toNat = x1 at *
  generalize (byt l (i + 2)).toNat = x2 at *
  generalize (byt l (i + 3)).toNat = x3 at *
  generalize l.length = n at *
  go_enter Tryz.func76,Tryz.ntmps76
  go_wp2
  go_quiet (fail)
  go_wp2
  go_ret
  exact ⟨ret_int (by omega),_,rfl⟩
def DCR (w w':World) (e:Ending) (l:List UInt8):Prop:=∃ d h,e = .returned (.tuple #[.agg ({ (decS l).m with d:=d,h:=h }:Mv).cs,.int .i64 (decE l)])∧OW w.heap.size w' d (decS l).D∧OH w.heap.size w' h (decS l).hb∧Below w.heap.size w w'
theorem results_msg2 {fn:Func} {p q:Tmp} (h:fn.results = #[.cell p 40,.tmp q]) (tmps:Array Value) (w:World) (g:Nat) (m:Mv)
    (hp:tmps.getD p undef = .pointer (some ⟨g,0,none⟩)) (hg:MB w g m) (ok:m.ok):(results fn tmps).run Tryz.prog w = .ok (.tuple #[.agg m.cs,tmps.getD q undef]) w:=by
  have hp':tmps[p]?.getD undef = .pointer (some ⟨g,0,none⟩):=by simpa using hp
  simp [results,h,hp',asAddr,run_loadVar_row w g 40 40 m.cs (0,0) _ hg Tryz.underlying40 rfl (info_msg ok)]
theorem DCR.err {w w':World} {e:Ending} {l:List UInt8} (hE:decE l≠0) (he:e = .returned (.tuple #[.agg zm.cs,.int .i64 (decE l)])) (hb:Below w.heap.size w w'):DCR w w' e l:=by
  have hS:decS l = ⟨zm, [], [], []⟩:=by unfold decS; exact if_neg hE
  unfold DCR
  rw [hS]
  exact ⟨_,_,he,World.ownsRow_nil _ _ _ _,OH.nil _ _,hb⟩
abbrev z40:Array Value:=#[Value.int .i64 0,.int .i64 0,.int .i64 0,.int .i64 0,Value.slice none 0 0,.int .u8 0,.int .u8 0,.int .u8 0,.int .u8 0,.int .u8 0,.int .u8 0,.int .u8 0,.int .u8 0,.int .u8 0,.int .u8 0,.int .u8 0,.int .u8 0,.int .u8 0,.int .u8 0,.int .u8 0,.int .u8 0,.int .u8 0,.int .u8 0,.int .u8 0,.int .u8 0,.int .u8 0,.int .u8 0,.int .u8 0,.int .u8 0,.int .u8 0,.int .u8 0,.int .u8 0,.int .u8 0,.int .u8 0,.int .u8 0,.int .u8 0,.int .u8 0,.int .i64 0,.int .i64 0,Value.slice none 0 0]
abbrev zk40 (k:Int):Array Value:=#[Value.int .i64 k,.int .i64 0,.int .i64 0,.int .i64 0,Value.slice none 0 0,.int .u8 0,.int .u8 0,.int .u8 0,.int .u8 0,.int .u8 0,.int .u8 0,.int .u8 0,.int .u8 0,.int .u8 0,.int .u8 0,.int .u8 0,.int .u8 0,.int .u8 0,.int .u8 0,.int .u8 0,.int .u8 0,.int .u8 0,.int .u8 0,.int .u8 0,.int .u8 0,.int .u8 0,.int .u8 0,.int .u8 0,.int .u8 0,.int .u8 0,.int .u8 0,.int .u8 0,.int .u8 0,.int .u8 0,.int .u8 0,.int .u8 0,.int .u8 0,.int .i64 0,.int .i64 0,Value.slice none 0 0]
theorem zk40_cs (k:Int):zk40 k = (zmk k).cs:=rfl
theorem zmk_ok (k:Int):(zmk k).ok:=⟨zr_len 32,⟨_,_,_,rfl⟩,⟨_,_,_,rfl⟩⟩
theorem zk40_info (k:Int):(Tryz.prog.info? 40).map (·.size) = some (zk40 k).size:=by kernel_rfl
theorem zk40_one (k:Int):(zk40 k).all (·.oneCell') = true:=by rw [zk40_cs]; exact (zmk_ok k).one
theorem zk40_built (k:Int):Tryz.prog.built 40 [(0,.int .i64 k)] = some (zk40 k):=by kernel_rfl
theorem z40_cs:z40 = zm.cs:=rfl
theorem z40_info:(Tryz.prog.info? 40).map (·.size) = some z40.size:=by kernel_rfl
theorem z40_one:z40.all (·.oneCell') = true:=by rw [z40_cs]; exact zm_ok.one
theorem NDS.take {cs:List Nat} {l:List UInt8} (h:NDS cs l) (n:Nat):NDS (cs.take n) l:=by
  induction cs generalizing l n with
  | nil=>simp [NDS]
  | cons c cs ih =>
    cases n with
    | zero=>exact trivial
    | succ n=>exact ⟨h.1,ih h.2 n⟩
theorem OH.grow {B:Nat} {w w':World} {v:Value} {l:List UInt8} (h:OH B w v l) (hb:Below w.heap.size w w'):OH B w' v l:=by
  obtain ⟨n,e,h⟩:=h
  refine ⟨n,e,h.1,?_⟩
  rcases h.2 with h1 | ⟨k,cap,cur,h1,h2,h3,h4⟩
  · exact .inl h1
  · exact .inr ⟨k,cap,cur,h1,h2,(hb.block k (Array.getElem?_eq_some_iff.1 h3).1).trans h3,h4⟩
theorem OH.form {B:Nat} {w:World} {v:Value} {l:List UInt8} (h:OH B w v l):∃ a n c,v = .slice a n c:=by
  obtain ⟨a,n,c,e,_⟩:=h.rh
  exact ⟨a,n,c,e⟩
def decN (r:Kr) (l:List UInt8) (n:Nat):Ds:=Ds.tks (r.cs.take n) ⟨zmk r.k, [], [],l⟩
theorem decN_succ (r:Kr) (l:List UInt8) (n c:Nat) (h:r.cs[n]? = some c):decN r l (n + 1) = Ds.tk c (decN r l n):=by
  unfold decN
  rw [show r.cs.take (n + 1) = r.cs.take n ++ [c] by rw [List.take_add_one,h]; rfl,tks_snoc]
theorem decN_nds (r:Kr) (l:List UInt8) (n c:Nat) (hd:NDS r.cs l) (h:r.cs[n]? = some c):nds c (decN r l n).l:=by
  unfold decN
  rw [tks_l]
  exact hd.at n c h
theorem decN_le (r:Kr) (l:List UInt8) (n:Nat):(decN r l n).l.length≤l.length:=by
  unfold decN
  rw [tks_l]
  exact rsts_le _ _
theorem decN_r (r:Kr) (l:List UInt8) (n:Nat) (hd:NDS r.cs l):(decN r l n).m.r.length = 32:=tks_r _ _ (zr_len 32) (hd.take n)
def DIN (w wr:World) (M:Nat) (u fv:Value) (r:Kr) (l:List UInt8) (n:Nat):Prop:=
  ∃ d h,RB w u (decN r l n).l∧MB wr M { (decN r l n).m with d:=d,h:=h }∧OW w.heap.size wr d (decN r l n).D∧OH w.heap.size wr h (decN r l n).hb∧FS wr fv r.cs∧Below w.heap.size w wr∧wr.heap[w.heap.size]? = some (.cells z40 40 (0,0))
theorem DIN.next {w wr w':World} {M:Nat} {v' fv:Value} {r:Kr} {l:List UInt8} {n c:Nat} {d h d' h':Value} (hc:r.cs[n]? = some c) (hM:w.heap.size < M) (hm:MB wr M { (decN r l n).m with d:=d,h:=h })
    (h2:RB w v' (rst c (decN r l n).l)) (h3:MB w' M { upd c { (decN r l n).m with d:=d,h:=h } (decN r l n).l with d:=d',h:=h' }) (h4:OW w.heap.size w' d' (dD c (decN r l n).l (decN r l n).D)) (h5:OH w.heap.size w' h' (dH c (decN r l n).l (decN r l n).hb)) (hb:Besides M wr w')
    (hf:FS wr fv r.cs) (hw:Below w.heap.size w wr) (hz:wr.heap[w.heap.size]? = some (.cells z40 40 (0,0))):DIN w w' M v' fv r l (n + 1):=by
  unfold DIN
  rw [decN_succ r l n c hc]
  rw [upd_dh] at h3
  exact ⟨d',h',h2,h3,h4,h5,hf.keep hb hm,hb.below hw (Nat.le_of_lt hM) hw.size,(hb.block _ (Array.getElem?_eq_some_iff.1 hz).1 (Nat.ne_of_lt hM)).trans hz⟩
set_option maxHeartbeats 2000000 in
set_option maxRecDepth 100000 in
theorem decodeT (w:World) (v:Value) (l:List UInt8) (hl:l.length≤140737488351232) (hr:RB w v l) (hk:KT w) :
    Calls Tryz.prog 69 #[v] w fun e w'=>DCR w w' e l:=by
  obtain ⟨a,c,rfl,hlc⟩:∃ a c,v = .slice a l.length c∧l.length≤c:=by obtain ⟨a,c,e,h,_⟩:=id hr; exact ⟨a,c,e,h⟩
  have HR:Hid (RB w (.slice a l.length c) l∧KT w):=⟨hr,hk⟩
  have hz:=heapNew w (.cells z40 40)
  have b0:Below w.heap.size w (w.alloc (.cells z40 40)):=(Below.refl _ _).alloc (Nat.le_refl _) _
  clear hr hk
  by_cases h1:32768 < l.length
  · have HE:Hid (decE l = 111):=by unfold Hid decE; rw [if_pos h1]
    go_enter Tryz.func69,Tryz.ntmps69
    go_wp2_with (first |(refine wpList_store_row rfl 40 _ _ rfl w.heap.size z40 rfl rfl 40 z40 hz z40_info rfl z40_one ?_))
    exact bodyPost_ret (results_msg2 Tryz.results69 _ _ w.heap.size zm rfl (heapSetRow _ _ _ _ _ hz) zm_ok) rfl (DCR.err (by rw [HE.out]; decide) (by rw [HE.out]; rfl) (belowSetRow b0 (Nat.le_refl _) _))
  · have HA:Hid (RB (w.alloc (.cells z40 40)) (.slice a l.length c) l∧KT (w.alloc (.cells z40 40))∧Below w.heap.size w (w.alloc (.cells z40 40))∧w.heap.size < (w.alloc (.cells z40 40)).heap.size):=⟨HR.out.1.keep b0,HR.out.2.below b0 HR.out.2.pos,b0,by simp⟩
    clear b0
    go_enter Tryz.func69,Tryz.ntmps69
    go_wp2_with fail
    generalize w.alloc (.cells z40 40) = w0 at *
    refine (kindOfT w0 _ l hl HA.out.1).mono ?_
    rintro e w0' ⟨rfl,rfl⟩
    go_wp2_with fail
    refine (rowOfT w0' (kindB l) HA.out.2.1).mono ?_
    rintro e w1 ⟨rfl,b1⟩
    have HB:Hid (w1.heap[w.heap.size]? = some (.cells z40 40 (0,0))∧Below w.heap.size w w1∧w.heap.size < w1.heap.size):=⟨(b1.block _ HA.out.2.2.2).trans hz,HA.out.2.2.1.trans (b1.mono (Nat.le_of_lt HA.out.2.2.2)),Nat.lt_of_lt_of_le HA.out.2.2.2 b1.size⟩
    clear HA b1 hz
    have hz:=HB.out.1
    have HG:=heapNew w1 (.cells z11 141)
    cases hrf:rowFor (kindB l) with
    | none =>
      have HE:Hid (decE l = 110):=by unfold Hid decE; rw [if_neg h1,hrf]
      have hiz:(Tryz.prog.info? 141).map (·.size) = some zrow.ls.toArray.size:=info_row
      have h1z:zrow.ls.toArray.all (·.oneCell') = true:=row_one _
      have hz2:((w1.alloc (.cells z11 141)).setRow w1.heap.size zrow.ls.toArray).heap[w.heap.size]? = some (.cells z40 40 (0,0)):=by
        rw [setRow_other _ _ _ _ (Nat.ne_of_lt HB.out.2.2),heapOld _ _ _ HB.out.2.2]; exact hz
      have b2:Below w.heap.size w ((w1.alloc (.cells z11 141)).setRow w1.heap.size zrow.ls.toArray):=belowSetRow (HB.out.2.1.alloc (Nat.le_of_lt HB.out.2.2) _) (Nat.le_of_lt HB.out.2.2) _
      clear hrf hz
      simp only [Option.getD_none,Option.isSome_none]
      go_wp2_with (first |(refine wpList_store_row rfl 141 _ _ rfl w1.heap.size zrow.ls.toArray rfl rfl 141 z11 HG hiz rfl h1z ?_) |(refine wpList_store_row rfl 40 _ _ rfl w.heap.size z40 rfl rfl 40 z40 hz2 z40_info rfl z40_one ?_))
      exact bodyPost_ret (results_msg2 Tryz.results69 _ _ w.heap.size zm rfl (heapSetRow _ _ _ _ _ hz2) zm_ok) rfl (DCR.err (by rw [HE.out]; decide) (by rw [HE.out]; rfl) (belowSetRow b2 (Nat.le_refl _) _))
    | some r =>
      obtain ⟨hmem,hrk⟩:=rowFor_mem hrf
      obtain ⟨hf7,hf11,hst,hle,hle2,hcs⟩:=rws_all r hmem
      have hi:=info_rowK r hf7
      have h1r:=row_one r
      have hzr:z11.size = r.ls.toArray.size:=by simp [Kr.ls,rowL,fcs,hf7]
      have hG2:=heapSetRow _ _ _ r.ls.toArray _ HG
      simp only [Option.getD_some,Option.isSome_some]
      have HQ:Hid (rowFor (kindB l) = some r∧r ∈ rws∧r.fs.length = 7∧(∀ c ∈ r.fs,c≤11)∧1≤r.st∧0≤r.le∧r.le≤1000000∧r.cs.length≤7):=⟨hrf,hmem,hf7,hf11,hst,hle,hle2,hcs⟩
      clear hrf hmem hrk hf7 hf11 hst hle hle2 hcs
      go_wp2_with (first |(refine wpList_store_row rfl 141 _ _ rfl w1.heap.size r.ls.toArray rfl rfl 141 z11 HG hi hzr h1r ?_) |(refine wpList_load_row rfl 141 _ rfl w1.heap.size rfl 141 r.ls.toArray (0,0) _ hG2 Tryz.underlying141 rfl hi ?_))
      have HX:Hid (((w1.alloc (.cells z11 141)).setRow w1.heap.size r.ls.toArray).heap[w.heap.size]? = some (.cells z40 40 (0,0))∧Below w.heap.size w ((w1.alloc (.cells z11 141)).setRow w1.heap.size r.ls.toArray)∧w1.heap.size < ((w1.alloc (.cells z11 141)).setRow w1.heap.size r.ls.toArray).heap.size∧w.heap.size < w1.heap.size):=by
        refine ⟨?_,belowSetRow (HB.out.2.1.alloc (Nat.le_of_lt HB.out.2.2) _) (Nat.le_of_lt HB.out.2.2) _,(Array.getElem?_eq_some_iff.1 hG2).1,HB.out.2.2⟩
        rw [setRow_other _ _ _ _ (Nat.ne_of_lt HB.out.2.2),heapOld _ _ _ HB.out.2.2]; exact hz
      clear HG hzr HB hz
      generalize (w1.alloc (.cells z11 141)).setRow w1.heap.size r.ls.toArray = X at *
      generalize hG:w1.heap.size = G at *
      clear hG w1 w0'
      refine (fitsT X r (l.length:Int) (by omega) (by omega) HQ.out.2.2.2.2.1 HQ.out.2.2.2.2.2.1 HQ.out.2.2.2.2.2.2.1).mono ?_
      rintro e w2 ⟨rfl,b2⟩
      have HY:Hid (w2.heap[w.heap.size]? = some (.cells z40 40 (0,0))∧Below w.heap.size w w2∧G < w2.heap.size∧w.heap.size < G):=by
        have hlt:w.heap.size < X.heap.size:=Nat.lt_trans HX.out.2.2.2 HX.out.2.2.1
        exact ⟨(b2.block _ hlt).trans HX.out.1,HX.out.2.1.trans (b2.mono (Nat.le_of_lt hlt)),Nat.lt_of_lt_of_le HX.out.2.2.1 b2.size,HX.out.2.2.2⟩
      have hG3:=(b2.block G HX.out.2.2.1).trans hG2
      have hz:=HY.out.1
      clear HX b2 hG2
      by_cases q1:r.fit (l.length:Int) = true
      · rw [q1]
        have HF:Hid (r.fit (l.length:Int) = true):=q1
        clear q1
        have c0:w2.cell? ⟨G,0,none⟩ = some (.int .i64 r.k):=rangeOf hG3 0 _ rfl
        have hzn:=heapNew w2 (.cells z40 40)
        have hG4:((w2.alloc (.cells z40 40)).setRow w2.heap.size (zk40 r.k)).heap[G]? = some (.cells r.ls.toArray 141 (0,0)):=(setRow_other _ _ _ _ (Nat.ne_of_lt HY.out.2.2.1)).trans ((heapOld _ _ _ HY.out.2.2.1).trans hG3)
        have hki:=zk40_info r.k
        have hko:=zk40_one r.k
        have hkb:=zk40_built r.k
        go_wp2_with (first |(refine wpList_built rfl 40 _ rfl (zk40 r.k) hkb ?_) |(refine wpList_store_row rfl 40 _ _ rfl w2.heap.size (zk40 r.k) rfl rfl 40 z40 hzn hki rfl hko ?_) |(refine wpList_load_row rfl 141 _ rfl G rfl 141 r.ls.toArray (0,0) _ hG4 Tryz.underlying141 rfl hi ?_))
        have HZ:Hid (((w2.alloc (.cells z40 40)).setRow w2.heap.size (zk40 r.k)).heap[w.heap.size]? = some (.cells z40 40 (0,0))∧Below w.heap.size w ((w2.alloc (.cells z40 40)).setRow w2.heap.size (zk40 r.k))∧w2.heap.size < ((w2.alloc (.cells z40 40)).setRow w2.heap.size (zk40 r.k)).heap.size∧MB ((w2.alloc (.cells z40 40)).setRow w2.heap.size (zk40 r.k)) w2.heap.size (zmk r.k)∧w.heap.size < w2.heap.size):=by
          have hlt:w.heap.size < w2.heap.size:=Nat.lt_trans HY.out.2.2.2 HY.out.2.2.1
          have hs:=heapSetRow _ _ _ (zk40 r.k) _ hzn
          exact ⟨(setRow_other _ _ _ _ (Nat.ne_of_lt hlt)).trans ((heapOld _ _ _ hlt).trans hz),belowSetRow (HY.out.2.1.alloc (Nat.le_of_lt hlt) _) (Nat.le_of_lt hlt) _,(Array.getElem?_eq_some_iff.1 hs).1,hs,hlt⟩
        clear HY hG3 hz c0 hG4 hzn hki hko hkb
        generalize (w2.alloc (.cells z40 40)).setRow w2.heap.size (zk40 r.k) = Y at *
        generalize hM:w2.heap.size = M at *
        clear hM w2 X
        generalize (#[.int .i64 r.k,.int .i64 0,.int .i64 0,.int .i64 0,.slice none 0 0,.int .u8 0,.int .u8 0,.int .u8 0,.int .u8 0,.int .u8 0,.int .u8 0,.int .u8 0,.int .u8 0,.int .u8 0,.int .u8 0,.int .u8 0,.int .u8 0,.int .u8 0,.int .u8 0,.int .u8 0,.int .u8 0,.int .u8 0,.int .u8 0,.int .u8 0,.int .u8 0,.int .u8 0,.int .u8 0,.int .u8 0,.int .u8 0,.int .u8 0,.int .u8 0,.int .u8 0,.int .u8 0,.int .u8 0,.int .u8 0,.int .u8 0,.int .u8 0,.int .i64 0,.int .i64 0,.slice none 0 0]:Array Value) = zk at *
        refine (madeT Y r.k r.le r.mo r.st r.fs HQ.out.2.2.1 HQ.out.2.2.2.1).mono ?_
        rintro e w3 ⟨v,W,rfl,ho,bw,b3⟩
        replace ho:OFS W.heap.size W w3 v r.cs:=ho
        have bY:Below Y.heap.size Y w3:=bw.trans (b3.mono bw.size)
        have HV:Hid (FS w3 v r.cs∧MB w3 M (zmk r.k)∧Below w.heap.size w w3∧w3.heap[w.heap.size]? = some (.cells z40 40 (0,0))∧M < w3.heap.size∧w.heap.size < M):=by
          have hlt:w.heap.size < Y.heap.size:=Nat.lt_trans HZ.out.2.2.2.2 HZ.out.2.2.1
          exact ⟨ho.fs b3,HZ.out.2.2.2.1.below bY,HZ.out.2.1.trans (bY.mono (Nat.le_of_lt hlt)),(bY.block _ hlt).trans HZ.out.1,Nat.lt_of_lt_of_le HZ.out.2.2.1 bY.size,HZ.out.2.2.2.2⟩
        obtain ⟨va,vc,rfl⟩:=ho.form
        clear ho bw b3 bY HZ
        have HD:Hid (NDS r.cs l):=fit_NDS r HQ.out.2.1 l HF.out
        go_wp2_with fail
        generalize hln:r.cs.length = len at *
        have HN:Hid (r.cs.length = len):=hln
        have hlen7:len≤7:=by have:=HQ.out.2.2.2.2.2.2.2; omega
        clear hln
        have HI0:Hid (DIN w w3 M (.slice a l.length c) (.slice va len vc) r l 0):=⟨.slice none 0 0,.slice none 0 0,HR.out.1,HV.out.2.1,World.ownsRow_nil _ _ _ _,OH.nil _ _,HV.out.1,HV.out.2.2.1,HV.out.2.2.2.1⟩
        have HM:Hid (w.heap.size < M):=HV.out.2.2.2.2.2
        clear HV
        go_loopw [0,36] (fun u t wr=>∃ n:Nat,n≤len∧t = .int .i64 n∧Hid (DIN w wr M u (.slice va len vc) r l n)) (fun _ t _=>len - (intOf t).toNat)
        case atStart=>exact ⟨0,by omega,rfl,HI0⟩
        case round =>
          obtain ⟨n,hn,rfl,hI⟩:=hrel
          by_cases hlt:n < len
          · have hl2:n < r.cs.length:=by rw [HN.out]; exact hlt
            have hx:r.cs[n]? = some r.cs[n]:=List.getElem?_eq_getElem hl2
            generalize r.cs[n] = fc at hx
            obtain ⟨d,h,i1,i2,i3,i4,i5,i6,i7⟩:=hI.out
            obtain ⟨a',cap',e',hfa⟩:=id i5
            simp only [Value.slice.injEq] at e'
            obtain ⟨rfl, -,rfl⟩:=e'
            rcases hfa with h | ⟨GF,cur,rfl,hGF,hfa⟩
            · rw [h] at hl2; simp at hl2
            obtain ⟨vs,hv,hrr⟩:=hfa n fc hx
            obtain ⟨v0,v1,v2,v3,v4,rfl⟩:=hv.len
            have hGlt:=(Array.getElem?_eq_some_iff.1 hGF).1
            have hi5:(Tryz.prog.info? 152).map (·.size) = some [v0,v1,v2,v3,v4].length:=info_field
            have hi5':(Tryz.prog.info? 152).map (·.size) = some ([v0,v1,v2,v3,v4]:List Value).toArray.size:=info_field
            have hone:([v0,v1,v2,v3,v4]:List Value).toArray.all (·.oneCell') = true:=hv.one
            have bx:=bxw_below wr [v0,v1,v2,v3,v4]
            have hv2:FLD (bxw wr [v0,v1,v2,v3,v4]) fc [v0,v1,v2,v3,v4]:=hv.below bx
            obtain ⟨f,caps,rfl,he,hc⟩:=hv2.take
            have hok:Mv.ok { (decN r l n).m with d:=d,h:=h }:=⟨decN_r r l n HD.out,i3.form3,i4.form⟩
            have i2':=i2.below bx
            have hcall:=hc w M _ (decN r l n).D (decN r l n).hb u0 _ i2' hok i1 (i6.trans (bx.mono i6.size)) (Nat.le_of_lt HM.out) (by have:=decN_le r l n; omega) (decN_nds r l n fc HD.out hx) (i3.grow bx) (i4.grow bx)
            have HX:Hid (Calls Tryz.prog f (#[ptr M,u0] ++ caps) (bxw wr [v0,v1,clo f caps,v3,v4]) (fun e w'=>TKR w (bxw wr [v0,v1,clo f caps,v3,v4]) w' e fc M { (decN r l n).m with d:=d,h:=h } (decN r l n).D (decN r l n).hb (decN r l n).l)):=hcall
            have HP:Hid (MB (bxw wr [v0,v1,clo f caps,v3,v4]) M { (decN r l n).m with d:=d,h:=h }∧FS (bxw wr [v0,v1,clo f caps,v3,v4]) (.slice (some ⟨GF,0,none⟩) len vc) r.cs∧Below w.heap.size w (bxw wr [v0,v1,clo f caps,v3,v4])∧(bxw wr [v0,v1,clo f caps,v3,v4]).heap[w.heap.size]? = some (.cells z40 40 (0,0))):=⟨i2',i5.below bx,i6.trans (bx.mono i6.size),(bx.block _ (Array.getElem?_eq_some_iff.1 i7).1).trans i7⟩
            have h3:(bxw wr [v0,v1,clo f caps,v3,v4]).cell? ⟨wr.heap.size,2,none⟩ = some (clo f caps):=rangeOf (bxw_heap _ _) 2 _ rfl
            have hg0:=heapNew wr (.cells nil5 152)
            obtain ⟨ua,uc,rfl,_⟩:=id i1
            clear hc hv2 hv hfa i1 i2 i3 i4 i5 i6 i7 hI bx hok i2' hcall
            go_wp2_with (first |(refine wpList_load_mid rfl 152 _ rfl GF (n * 5) rfl _ _ hrr Tryz.underlying152 rfl hi5 ?_) |(refine wpList_store_row rfl 152 _ _ rfl wr.heap.size _ rfl rfl 152 nil5 hg0 hi5' rfl hone ?_))
            refine HX.out.mono ?_
            rintro e w4 ⟨v',d',h',rfl,t2,t3,t4,t5,t6⟩
            have HE:Hid (DIN w w4 M v' (.slice (some ⟨GF,0,none⟩) len vc) r l (n + 1)):=DIN.next hx HM.out HP.out.1 t2 t3 t4 t5 t6 HP.out.2.1 HP.out.2.2.1 HP.out.2.2.2
            clear t2 t3 t4 t5 t6 HX HP h3 hg0 hrr
            go_wp2
            exact ⟨⟨n + 1,by omega,by go_num,HE⟩,by simp [intOf]; omega⟩
          · obtain rfl:n = len:=by omega
            have hN:decN r l n = decR r l:=by
              unfold decN decR
              rw [List.take_of_length_le (by have:=HN.out; omega)]
            obtain ⟨d,h,i1,i2,i3,i4,i5,i6,i7⟩:=hI.out
            rw [hN] at i2 i3 i4
            have hok:Mv.ok { (decR r l).m with d:=d,h:=h }:=by
              have h9:=decN_r r l n HD.out
              rw [hN] at h9
              exact ⟨h9,i3.form3,i4.form⟩
            have HJ:Hid (MB wr M { (decR r l).m with d:=d,h:=h }∧OW w.heap.size wr d (decR r l).D∧OH w.heap.size wr h (decR r l).hb∧FS wr (.slice va n vc) r.cs∧Below w.heap.size w wr∧wr.heap[w.heap.size]? = some (.cells z40 40 (0,0))∧Mv.ok { (decR r l).m with d:=d,h:=h }):=⟨i2,i3,i4,i5,i6,i7,hok⟩
            clear i1 i2 i3 i4 i5 i6 i7 hok hN hI
            go_wp2_with fail
            refine (allowedT wr _ r.cs M _ HJ.out.1 HJ.out.2.2.2.2.2.2 HJ.out.2.2.2.1 (by have:=HN.out; omega)).mono ?_
            rintro e w5 ⟨rfl,b5⟩
            have HK:Hid (MB w5 M { (decR r l).m with d:=d,h:=h }∧OW w.heap.size w5 d (decR r l).D∧OH w.heap.size w5 h (decR r l).hb∧Below w.heap.size w w5∧w5.heap[w.heap.size]? = some (.cells z40 40 (0,0))∧Mv.ok { (decR r l).m with d:=d,h:=h }):=⟨HJ.out.1.below b5,HJ.out.2.1.grow b5,HJ.out.2.2.1.grow b5,HJ.out.2.2.2.2.1.trans (b5.mono HJ.out.2.2.2.2.1.size),(b5.block _ (Array.getElem?_eq_some_iff.1 HJ.out.2.2.2.2.2.1).1).trans HJ.out.2.2.2.2.2.1,HJ.out.2.2.2.2.2.2⟩
            clear b5 HJ
            rw [lks_same]
            have hz:=HK.out.2.2.2.2.1
            by_cases q2:lks r.cs (decR r l).m = true
            · have HE:Hid (decE l = 0∧decS l = decR r l):=by
                have hE:decE l = 0:=by unfold decE; rw [if_neg h1,HQ.out.1]; simp [HF.out,q2]
                refine ⟨hE,?_⟩
                unfold decS
                rw [if_pos hE,HQ.out.1]
              rw [q2]
              clear q2
              have hm:=HK.out.1.cells
              have him:=info_msg HK.out.2.2.2.2.2
              have hone:=HK.out.2.2.2.2.2.one
              have hsz:z40.size = (Mv.cs { (decR r l).m with d:=d,h:=h }).size:=HK.out.2.2.2.2.2.size.symm
              have HS:=MB.setRow (m:=zm) (m':={ (decR r l).m with d:=d,h:=h }) hz
              have HT:Hid (DCR w (w5.setRow w.heap.size (Mv.cs { (decR r l).m with d:=d,h:=h })) (.returned (.tuple #[.agg (Mv.cs { (decR r l).m with d:=d,h:=h }),.int .i64 0])) l):=by
                unfold DCR
                rw [HE.out.1,HE.out.2]
                refine ⟨d,h,rfl,?_,?_,belowSetRow HK.out.2.2.2.1 (Nat.le_refl _) _⟩
                · exact HK.out.2.1.besides (m:=zm) hz (Besides.setRow _ _ _)
                · exact HK.out.2.2.1.besides (m:=zm) hz (Besides.setRow _ _ _)
              have ok:=HK.out.2.2.2.2.2
              clear HK
              generalize Mv.mk _ _ _ _ _ _ _ _ _ = mm at *
              go_wp2_with (first |(refine wpList_load_row rfl 40 _ rfl M rfl 40 mm.cs (0,0) _ hm Tryz.underlying40 rfl him ?_) |(refine wpList_store_row rfl 40 _ _ rfl w.heap.size mm.cs rfl rfl 40 z40 hz him hsz hone ?_))
              exact bodyPost_ret (results_msg2 Tryz.results69 _ _ w.heap.size mm rfl HS ok) rfl HT.out
            · have q2':lks r.cs (decR r l).m = false:=by simpa using q2
              have HE:Hid (decE l = 112):=by unfold Hid decE; rw [if_neg h1,HQ.out.1]; simp [HF.out,q2']
              rw [q2']
              clear q2 q2'
              go_wp2_with (first |(refine wpList_store_row rfl 40 _ _ rfl w.heap.size z40 rfl rfl 40 z40 hz z40_info rfl z40_one ?_))
              exact bodyPost_ret (results_msg2 Tryz.results69 _ _ w.heap.size zm rfl (heapSetRow _ _ _ _ _ hz) zm_ok) rfl (DCR.err (by rw [HE.out]; decide) (by rw [HE.out]; rfl) (belowSetRow HK.out.2.2.2.1 (Nat.le_refl _) _))
      · have q1':r.fit (l.length:Int) = false:=by simpa using q1
        have HE:Hid (decE l = 111):=by unfold Hid decE; rw [if_neg h1,HQ.out.1]; simp [q1']
        rw [q1']
        clear q1 q1'
        go_wp2_with (first |(refine wpList_store_row rfl 40 _ _ rfl w.heap.size z40 rfl rfl 40 z40 hz z40_info rfl z40_one ?_))
        exact bodyPost_ret (results_msg2 Tryz.results69 _ _ w.heap.size zm rfl (heapSetRow _ _ _ _ _ hz) zm_ok) rfl (DCR.err (by rw [HE.out]; decide) (by rw [HE.out]; rfl) (belowSetRow HY.out.2.1 (Nat.le_refl _) _))
end Go.Proofs.YtfjjpbebnoghmaaGreatDoor
