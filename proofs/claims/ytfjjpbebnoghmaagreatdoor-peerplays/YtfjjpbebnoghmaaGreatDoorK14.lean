import Derived.Test.YtfjjpbebnoghmaaGreatDoorK00
import Derived.Test.YtfjjpbebnoghmaaGreatDoorK13
import Derived.Laws.BitsAllLaws
import Derived.Test.YtfjjpbebnoghmaaGreatDoorRows
import Derived.WalkKit
import Derived.BigQuiet
import Derived.Deep.QuietTactic
import Derived.WalkLawsBesides
import Derived.Lib.Hide
import Derived.Laws.OwnMore
import Derived.Below
import Derived.Lib.OwnKind
import Derived.Lib.AppendStr
import Derived.Laws.IdiomStrings
import Derived.Deep.RegionHeld3
namespace Go.Proofs.YtfjjpbebnoghmaaGreatDoor.Fm
open Go.RowKit Go.Proofs.YtfjjpbebnoghmaaGreatDoor
def RBS (w:World) (v:Value) (bs:List (List UInt8)):Prop:=
  ∃ a c,v = .slice a bs.length c∧bs.length≤c∧(bs = []∨∃ g o,a = some ⟨g,o,none⟩∧g < w.heap.size∧∀ i,i < bs.length→∃ u,w.cell? ⟨g,o + i,none⟩ = some u∧RB w u (bs.getD i []))
theorem drewN2 (w:World) (n m:Nat):(w.drewN n).drewN m = w.drewN (n + m):=by simp [World.drewN,Nat.add_assoc]
theorem RBS.nil (w:World) (a:Option Addr) (c:Nat):RBS w (.slice a 0 c) []:=⟨a,c,rfl,Nat.zero_le _,.inl rfl⟩
theorem row_rbs {w:World} {B:Nat} {v:Value} {bs:List (List UInt8)} {us:List Value} (h:w.ownsRow B 37 1 v bs.length us) (hu:us.length = bs.length) (hr:∀ i,i < bs.length→RB w (us.getD i undef) (bs.getD i [])):RBS w v bs:=by
  have h':=h
  rcases h.2 with ⟨rfl,h0⟩ | ⟨g,cap,cur,rfl,_,hg,hle,_⟩
  · have:bs = []:=List.length_eq_zero_iff.1 h0
    subst this; exact RBS.nil _ _ _
  · refine ⟨_,cap,rfl,hle,.inr ⟨g,0,rfl,(Array.getElem?_eq_some_iff.1 hg).1,fun i hi=>⟨us.getD i undef,?_,hr i hi⟩⟩⟩
    have:=World.ownsRow.cellAt h' i (by omega)
    rw [Nat.zero_add,this]
    simp [List.getElem?_eq_getElem (show i < us.length by omega)]
theorem BK.rb {S:Nat→Prop} {w:World} {u:Value} {l:List UInt8} (h:BK S w u l):RB w u l:=by
  obtain ⟨g,_,rfl,h3⟩:=h
  exact rb_block h3 _ rfl
theorem OB.rbs {B:Nat} {S:Nat→Prop} {w:World} {v:Value} {bs:List (List UInt8)} (h:OB B S w v bs):RBS w v bs:=by
  obtain ⟨us,h1,h2,h3⟩:=h
  exact row_rbs h2 h1 (fun i hi=>(h3 i hi).rb)
def OR (B:Nat) (w:World) (v:Value) (bs:List (List UInt8)):Prop:=∃ us:List Value,us.length = bs.length∧w.ownsRow B 37 1 v bs.length us∧∀ i,i < bs.length→OW B w (us.getD i undef) (bs.getD i [])
theorem OR.rbs {B:Nat} {w:World} {v:Value} {bs:List (List UInt8)} (h:OR B w v bs):RBS w v bs:=by
  obtain ⟨us,h1,h2,h3⟩:=h
  exact row_rbs h2 h1 (fun i hi=>(h3 i hi).rb)
theorem OR.nil (B:Nat) (w:World):OR B w (.slice none 0 0) []:=⟨[],rfl,World.ownsRow_nil _ _ _ _,fun i h=>by simp at h⟩
theorem OR.form {B:Nat} {w:World} {v:Value} {bs:List (List UInt8)} (h:OR B w v bs):∃ a c,v = .slice a bs.length c:=by
  obtain ⟨a,c,e,_⟩:=h.rbs
  exact ⟨a,c,e⟩
theorem OR.keep {B:Nat} {w w':World} {v:Value} {bs:List (List UInt8)} (h:OR B w v bs) (hb:∀ k,B≤k→k < w.heap.size→w'.heap[k]? = w.heap[k]?):OR B w' v bs:=by
  obtain ⟨us,h1,h2,h3⟩:=h
  exact ⟨us,h1,ownsRow_keep h2 hb,fun i hi=>ownsRow_keep (h3 i hi) hb⟩
theorem append_own {ops:Array Oper} {rest:List Oper} {o:Oper} {a:Act} {Q:Exit→Act→World→Prop} {w:World} {B:Nat} {sv:Value} {bs:List (List UInt8)} (hgd:o.guard = none) (s x:Operand)
    (ho:o.op = .call { callee:=.builtin .append,args:=#[s,x],argTypes:=#[90,90] }) (hs:a.eval s = sv) (hown:OR B w sv bs) (b:Nat) (u:Value) (l:List UInt8) (hx:a.eval x = .slice (some ⟨b,0,none⟩) 1 1)
    (hc:w.cell? ⟨b,0,none⟩ = some u) (hu:OW B w u l) (hB:B≤w.heap.size) (hlim:bs.length < 1073741824)
    (h:∀ v' w',OR B w' v' (bs ++ [l])→Below B w w'→wpList Tryz.prog ops Q rest (a.put o.dst v') w'):wpList Tryz.prog ops Q (o :: rest) a w:=by
  obtain ⟨i0,hi,hz0,hz1,hz2⟩:=info_parts infoB
  obtain ⟨us,h1,h2,h3⟩:=hown
  refine wpList_append_own w hgd s x 90 ho B 37 i0 _ 1 24 Tryz.underlying90 hi hz0 hz1 hz2 rfl (by omega) sv bs.length us hs h2 ⟨b,0,none⟩ 1 1 [u] hx rfl (fun j y hy=>?_) (fun y hy=>?_) (by unfold maxLen; omega) (by omega) hB (fun v' w' k1 k2 _=>?_)
  · match j,hy with
    | 0,hy=>simp at hy; subst hy; simpa [Addr.add] using hc
  · simp at hy; subst hy
    obtain ⟨a,c,e⟩:=hu.form
    rw [e]; rfl
  · refine h v' w' ⟨us ++ [u],by simp [h1],by simpa using k1,fun i hi=>?_⟩ ((Below.refl B w).grown k2 hB (fun k hk=>(World.ownsRow.lt h2 k hk).1))
    have kb:∀ {u:Value} {l:List UInt8},OW B w u l→OW B w' u l:=fun h=>ownsRow_keep2 (e2:=37) h k2 (row_of h2) (by decide)
    rw [List.length_append,List.length_singleton] at hi
    by_cases hlt:i < bs.length
    · have:=kb (h3 i hlt)
      rw [List.getD_eq_getElem?_getD,List.getD_eq_getElem?_getD,List.getElem?_append_left (by omega),List.getElem?_append_left (by omega), ← List.getD_eq_getElem?_getD, ← List.getD_eq_getElem?_getD]
      exact this
    · have hi':i = bs.length:=by omega
      subst hi'
      have:=kb hu
      rw [List.getD_eq_getElem?_getD,List.getD_eq_getElem?_getD,List.getElem?_append_right (by omega),List.getElem?_append_right (by omega)]
      simpa [h1] using this
theorem _root_.Go.Proofs.YtfjjpbebnoghmaaGreatDoor.RB.cut {w:World} {a:Option Addr} {c m n:Nat} {l:List UInt8} (h:RB w (.slice a l.length c) l) (h1:m≤n) (h2:n≤l.length):RB w (.slice (if c = m then a else a.map (·.add m)) (n - m) (c - m)) ((l.drop m).take (n - m)):=by
  have hle:=h.le
  have hd:=(RN.of_rb h).drop (m:=m) (by omega)
  have e:l.length - m = (l.drop m).length:=by rw [List.length_drop]
  rw [e] at hd
  exact hd.rb.take (n - m) (by rw [List.length_drop]; omega)
set_option maxHeartbeats 1000000 in
theorem part (v:Value) (l:List UInt8) (m n:Nat) (h1:m≤n) (h2:n≤l.length) (h3:l.length≤140737488351232) (w:World) (hr:RB w v l) :
    Calls Tryz.prog 115 #[v,.int .i64 m,.int .i64 n] w fun e w'=>∃ u,e = .returned u∧OW w.heap.size w' u ((l.drop m).take (n - m))∧Below w.heap.size w w':=by
  have hr':=hr
  obtain ⟨a,c,rfl,hle,_⟩:=hr
  have RC:=hr'.cut h1 h2
  have e1:(m:Int)≤n:=by omega
  have e2:(n:Int)≤c:=by omega
  have hlen:((l.drop m).take (n - m)).length = n - m:=by rw [List.length_take,List.length_drop]; omega
  have HL:Hid (([]:List UInt8).length + ((l.drop m).take (n - m)).length≤140737488351232):=by rw [hlen]; unfold Hid; simp; omega
  have HN:Hid (OW w.heap.size w (.slice none 0 0) []):=World.ownsRow_nil _ _ _ _
  clear hlen hr'
  generalize (l.drop m).take (n - m) = T at *
  generalize l.length = L at *
  by_cases hcm:c = m
  · rw [if_pos hcm,show n - m = 0 by omega,show c - m = 0 by omega] at RC
    have HC:Hid (RB w (.slice a 0 0) T):=RC
    clear RC
    have hnm:n = m:=by omega
    subst hcm hnm
    go_enter Tryz.func115,Tryz.ntmps115
    go_wp2_with (at_builtin; refine append_bytes rfl _ _ rfl rfl HN.out rfl HC.out (Nat.le_refl _) HL.out ?_; intro v' w1 k1 k2)
    go_ret
    exact ⟨_,rfl,k1,k2⟩
  · rw [if_neg hcm] at RC
    have HC:Hid (RB w (.slice (a.map (·.add m)) (n - m) (c - m)) T):=RC
    clear RC
    go_enter Tryz.func115,Tryz.ntmps115
    go_wp2_with (at_builtin; refine append_bytes rfl _ _ rfl rfl HN.out rfl HC.out (Nat.le_refl _) HL.out ?_; intro v' w1 k1 k2)
    go_ret
    exact ⟨_,rfl,k1,k2⟩
end Go.Proofs.YtfjjpbebnoghmaaGreatDoor.Fm
namespace Go.Proofs.YtfjjpbebnoghmaaGreatDoor.Fm
open Go.RowKit Go.Proofs.YtfjjpbebnoghmaaGreatDoor
def sz (bs:List (List UInt8)):Nat:=(bs.map fun b=>4 + b.length).sum
theorem sz_snoc (bs:List (List UInt8)) (b:List UInt8):sz (bs ++ [b]) = sz bs + (4 + b.length):=by simp [sz]
theorem sz_cons (bs:List (List UInt8)) (b:List UInt8):sz (b :: bs) = 4 + b.length + sz bs:=by simp [sz]
theorem Rd.frames {h:Bool} {l:List UInt8} {met bs:List (List UInt8)} {h':Bool} {r:List UInt8} {e:Int} (x:Rd h l met bs h' r e):h = false→met = []∧h' = false∧l.length = sz bs + r.length∧r = l.drop (sz bs)∧(e = 0∨e = 102)∧∀ b ∈ bs,b.length≤32768:=by
  induction x with
  | bad l hs=>intro h; cases h
  | few l hs hl=>intro h; cases h
  | hello l met bs h r e hs hl _ ih=>intro h; cases h
  | num l hl=>intro _; exact ⟨rfl,rfl,by simp [sz],by simp [sz],.inl rfl,by simp⟩
  | big l hl hn=>intro _; exact ⟨rfl,rfl,by simp [sz],by simp [sz],.inr rfl,by simp⟩
  | part l hl hn hp=>intro _; exact ⟨rfl,rfl,by simp [sz],by simp [sz],.inl rfl,by simp⟩
  | body l met bs h r e hl hn hp _ ih =>
    intro _
    obtain ⟨h1,h2,h3,h4,h5,h6⟩:=ih rfl
    have hlen:((l.drop 4).take (nm l)).length = nm l:=by rw [List.length_take,List.length_drop]; omega
    rw [List.length_drop] at h3
    refine ⟨h1,h2,by rw [sz_cons,hlen]; omega,?_,h5,?_⟩
    · rw [sz_cons,hlen,h4,List.drop_drop]
    · intro b hb
      rcases List.mem_cons.1 hb with rfl | hb
      · omega
      · exact h6 b hb
theorem drop_get (l:List UInt8) (k i:Nat):byt (l.drop k) i = byt l (k + i):=byt_drop l k i
set_option maxHeartbeats 4000000 in
theorem split (v:Value) (l:List UInt8) (f0:Nat) (hf0:f0≤l.length) (hl:l.length≤33554432) (w:World) (hr:RB w v l) :
    Calls Tryz.prog 100 #[v,.int .i64 f0] w fun e w'=>∃ bv bs k er,e = .returned (.tuple #[bv,.int .i64 (k:Nat),.int .i64 er])∧Rd false (l.drop f0) [] bs false (l.drop k) er∧k = f0 + sz bs∧k≤l.length∧OR w.heap.size w' bv bs∧Below w.heap.size w w':=by
  have HR:Hid (RB w v l):=hr
  obtain ⟨a,c,rfl,_,hr⟩:=hr
  have HC:Hid (∀ k,k < l.length→∃ b o,a = some ⟨b,o,none⟩∧b < w.heap.size∧∀ wr,Below w.heap.size w wr→∀ j,j < l.length→wr.cell? ⟨b,o + j,none⟩ = some (.int .u8 ((byt l j).toNat:Int))):=by
    intro k hk
    rcases hr with rfl | ⟨b,o,rfl,hb,hc⟩
    · simp at hk
    · exact ⟨b,o,rfl,hb,fun wr hw j hj=>(hw.cell (p:=⟨b,o + j,none⟩) hb).trans (hc j hj)⟩
  clear hr
  go_enter Tryz.func100,Tryz.ntmps100
  go_wp2
  go_loopw [7,8] (fun bv t wr=>∃ (bs:List (List UInt8)) (k:Nat) (ba:Option Addr) (bcap:Nat),bv = .slice ba bs.length bcap∧t = .int .i64 k∧k≤l.length∧Hid (k = f0 + sz bs∧(∀ bs' r' e',Rd false (l.drop k) [] bs' false r' e'→Rd false (l.drop f0) [] (bs ++ bs') false r' e')∧OR w.heap.size wr (.slice ba bs.length bcap) bs∧Below w.heap.size w wr∧4 * bs.length≤k)) (fun _ t _=>l.length - (intOf t).toNat)
  case atStart=>exact ⟨[],f0,none,0,rfl,rfl,hf0,by simp [sz],fun _ _ _ h=>h,OR.nil _ _,Below.refl _ _,by simp⟩
  case round =>
    obtain ⟨bs,k,ba,bcap,rfl,rfl,hk,H⟩:=hrel
    by_cases h4:k + 4≤l.length
    · obtain ⟨b,o,rfl,hb,hcc⟩:=HC.out k (by omega)
      have hc:=hcc wr H.out.2.2.2.1
      have q0:=hc k (by omega)
      have q1:=hc (k + 1) (by omega)
      have q2:=hc (k + 2) (by omega)
      have q3:=hc (k + 3) (by omega)
      have e0:=drop_get l k 0
      have e1:=drop_get l k 1
      have e2:=drop_get l k 2
      have e3:=drop_get l k 3
      have hnm:nm (l.drop k) = (((byt l k).toNat * 256 + (byt l (k + 1)).toNat) * 256 + (byt l (k + 2)).toNat) * 256 + (byt l (k + 3)).toNat:=by unfold nm; rw [e0,e1,e2,e3]; rfl
      have hdl:(l.drop k).length = l.length - k:=List.length_drop
      have b0:=UInt8.toNat_lt (byt l k)
      have b1:=UInt8.toNat_lt (byt l (k + 1))
      have b2:=UInt8.toNat_lt (byt l (k + 2))
      have b3:=UInt8.toNat_lt (byt l (k + 3))
      have HNM:Hid (nm (l.drop k) = (((byt l k).toNat * 256 + (byt l (k + 1)).toNat) * 256 + (byt l (k + 2)).toNat) * 256 + (byt l (k + 3)).toNat∧(l.drop k).length = l.length - k):=⟨hnm,hdl⟩
      clear hcc hc e0 e1 e2 e3 hnm hdl
      generalize (byt l k).toNat = x0 at *
      generalize (byt l (k + 1)).toNat = x1 at *
      generalize (byt l (k + 2)).toNat = x2 at *
      generalize (byt l (k + 3)).toNat = x3 at *
      have a0:(0:Int)≤(k:Int):=by omega
      have a1:(k:Int) + 4≤(l.length:Int):=by omega
      obtain ⟨nn,hnn⟩:∃ nn,((x0 * 256 + x1) * 256 + x2) * 256 + x3 = nn:=⟨_,rfl⟩
      have hN:(((x0:Int) * 256 + x1) * 256 + x2) * 256 + x3 = (nn:Int):=by omega
      have hnl:nn < 4294967296:=by omega
      have HN2:Hid (nm (l.drop k) = nn∧(l.drop k).length = l.length - k):=⟨HNM.out.1.trans hnn,HNM.out.2⟩
      clear hnn HNM
      go_wp2
      go_quiet (fail)
      rename_i nq
      have H2:Hid (k = f0 + sz bs∧(∀ bs' r' e',Rd false (l.drop k) [] bs' false r' e'→Rd false (l.drop f0) [] (bs ++ bs') false r' e')∧OR w.heap.size (wr.drewN nq) (.slice ba bs.length bcap) bs∧Below w.heap.size w (wr.drewN nq)∧4 * bs.length≤k):=⟨H.out.1,H.out.2.1,H.out.2.2.1.keep (fun _ _ _=>rfl),belowN H.out.2.2.2.1 _,H.out.2.2.2.2⟩
      clear H q0 q1 q2 q3 hN b0 b1 b2 b3
      generalize wr.drewN nq = wq at *
      by_cases hbig:32768 < nn
      · have R1:=H2.out.2.1 _ _ _ (Rd.big (l.drop k) (by have:=HN2.out.2; omega) (by rw [HN2.out.1]; exact hbig))
        rw [List.append_nil] at R1
        have HE:Hid (Rd false (l.drop f0) [] bs false (l.drop k) 102∧k = f0 + sz bs∧k≤l.length∧OR w.heap.size wq (.slice ba bs.length bcap) bs∧Below w.heap.size w wq):=⟨R1,H2.out.1,hk,H2.out.2.2.1,H2.out.2.2.2.1⟩
        clear R1
        go_wp2
        go_ret3
        exact ⟨_,bs,k,102,rfl,HE.out⟩
      · by_cases hpt:l.length < k + 4 + nn
        · have R1:=H2.out.2.1 _ _ _ (Rd.part (l.drop k) (by have:=HN2.out.2; omega) (by rw [HN2.out.1]; omega) (by rw [HN2.out.1]; have:=HN2.out.2; omega))
          rw [List.append_nil] at R1
          have HE:Hid (Rd false (l.drop f0) [] bs false (l.drop k) 0∧k = f0 + sz bs∧k≤l.length∧OR w.heap.size wq (.slice ba bs.length bcap) bs∧Below w.heap.size w wq):=⟨R1,H2.out.1,hk,H2.out.2.2.1,H2.out.2.2.2.1⟩
          clear R1
          go_wp2
          go_ret3
          exact ⟨_,bs,k,0,rfl,HE.out⟩
        · have PT:Hid (Calls Tryz.prog 115 #[.slice (some ⟨b,o,none⟩) l.length c,.int .i64 ((k:Int) + 4),.int .i64 ((k:Int) + 4 + (nn:Int))] wq fun e w'=>∃ u,e = .returned u∧OW wq.heap.size w' u ((l.drop (k + 4)).take nn)∧Below wq.heap.size wq w'):=by
            have:=part (.slice (some ⟨b,o,none⟩) l.length c) l (k + 4) (k + 4 + nn) (by omega) (by omega) (by omega) wq (HR.out.keep H2.out.2.2.2.1)
            rw [show k + 4 + nn - (k + 4) = nn by omega] at this
            simp only [Int.natCast_add,Int.cast_ofNat_Int] at this
            exact this
          have hlen:((l.drop (k + 4)).take nn).length = nn:=by rw [List.length_take,List.length_drop]; omega
          have RDX:Hid (∀ bs' r' e',Rd false (l.drop (k + 4 + nn)) [] bs' false r' e'→Rd false (l.drop f0) [] ((bs ++ [(l.drop (k + 4)).take nn]) ++ bs') false r' e'):=fun bs' r' e' h=>by
            rw [List.append_assoc]
            refine H2.out.2.1 _ _ _ ?_
            have:=Rd.body (l.drop k) [] bs' false r' e' (by have:=HN2.out.2; omega) (by rw [HN2.out.1]; omega) (by rw [HN2.out.1]; have:=HN2.out.2; omega) (by rw [HN2.out.1,List.drop_drop, ← Nat.add_assoc]; exact h)
            rw [HN2.out.1,List.drop_drop] at this
            exact this
          have HS:Hid (sz (bs ++ [(l.drop (k + 4)).take nn]) = sz bs + (4 + nn)):=by rw [sz_snoc,hlen]; exact rfl
          clear hlen
          generalize (l.drop (k + 4)).take nn = T at *
          go_wp2_with fail
          refine PT.out.mono ?_
          rintro e w2 ⟨u,rfl,o2,b2⟩
          have ho2:OW w.heap.size w2 u T:=o2.mono H2.out.2.2.2.1.size
          have B2:Below w.heap.size w w2:=H2.out.2.2.2.1.trans (b2.mono H2.out.2.2.2.1.size)
          have OR2:OR w.heap.size w2 (.slice ba bs.length bcap) bs:=H2.out.2.2.1.keep (fun k _ hl=>b2.block k hl)
          obtain ⟨ua,un,uc,rfl⟩:=ho2.form3
          have A3:Hid (OR w.heap.size (w2.alloc (.cells #[.slice ua un uc] 37)) (.slice ba bs.length bcap) bs∧OW w.heap.size (w2.alloc (.cells #[.slice ua un uc] 37)) (.slice ua un uc) T∧Below w.heap.size w (w2.alloc (.cells #[.slice ua un uc] 37))):=⟨OR2.keep (fun k _ hl=>heapOld _ _ _ hl),ho2.alloc _,B2.alloc B2.size _⟩
          clear o2 b2 ho2 B2 OR2 PT
          have hbl:bs.length < 1073741824:=by have:=H2.out.2.2.2.2; omega
          go_wp2_with (at_builtin; refine append_own rfl _ _ rfl rfl A3.out.1 w2.heap.size _ T rfl (by go_simp) A3.out.2.1 A3.out.2.2.size hbl ?_; intro v' w5 k1 k2; have A5:Hid (OR w.heap.size w5 v' (bs ++ [T])∧Below w.heap.size w w5):=⟨k1,A3.out.2.2.trans k2⟩; clear k1 k2)
          obtain ⟨va,vc,hv⟩:=A5.out.1.form
          go_roundw
          case rel=>exact ⟨bs ++ [T],k + 4 + nn,va,vc,hv,by go_num,by omega,by rw [HS.out]; have:=H2.out.1; omega,RDX.out,hv ▸ A5.out.1,A5.out.2,by have:=H2.out.2.2.2.2; simp; omega⟩
          case measure=>simp [intOf]; omega
    · have R1:=H.out.2.1 _ _ _ (Rd.num (l.drop k) (by rw [List.length_drop]; omega))
      rw [List.append_nil] at R1
      have HE:Hid (Rd false (l.drop f0) [] bs false (l.drop k) 0∧k = f0 + sz bs∧k≤l.length∧OR w.heap.size wr (.slice ba bs.length bcap) bs∧Below w.heap.size w wr):=⟨R1,H.out.1,hk,H.out.2.2.1,H.out.2.2.2.1⟩
      clear R1 H
      go_wp2
      go_ret3
      exact ⟨_,bs,k,0,rfl,HE.out⟩
end Go.Proofs.YtfjjpbebnoghmaaGreatDoor.Fm
namespace Go.Proofs.YtfjjpbebnoghmaaGreatDoor.Fm
open Go.RowKit Go.Proofs.YtfjjpbebnoghmaaGreatDoor
theorem ownsRow_mono {w:World} {B B' e size n:Nat} {v:Value} {xs:List Value} (h:w.ownsRow B e size v n xs) (hb:B'≤B):w.ownsRow B' e size v n xs:=by
  refine ⟨h.1,?_⟩
  rcases h.2 with h1 | ⟨g,cap,cur,h1,h2,h3⟩
  · exact .inl h1
  · exact .inr ⟨g,cap,cur,h1,Nat.le_trans hb h2,h3⟩
end Go.Proofs.YtfjjpbebnoghmaaGreatDoor.Fm
namespace Go.Proofs.YtfjjpbebnoghmaaGreatDoor.Bs
def byt (l:List UInt8) (i:Nat):UInt8:=l.getD i 0
def bit (l:List UInt8) (i:Nat):Bool:=(byt l (i / 8)).toNat.testBit (7 - i % 8)
def mk (j:Nat):Nat:=2 ^ (7 - j)
theorem mk_lt (j:Nat):mk j < 256:=by
  have:2 ^ (7 - j)≤2 ^ 7:=Nat.pow_le_pow_right (by omega) (by omega)
  unfold mk; omega
theorem mk_pos (j:Nat):0 < mk j:=Nat.pos_of_ne_zero (by unfold mk; exact Nat.ne_of_gt (Nat.two_pow_pos _))
theorem and_mk_fin:∀ (x:Fin 256) (j:Fin 8),((x.val &&& mk j.val) == 0) = !(x.val.testBit (7 - j.val)):=by decide +kernel
theorem and_mk (c:UInt8) (j:Nat) (hj:j < 8):((c.toNat &&& mk j) == 0) = !(c.toNat.testBit (7 - j)):=and_mk_fin ⟨c.toNat,c.toNat_lt⟩ ⟨j,hj⟩
theorem div_mk_fin:∀ (x:Fin 256) (j:Fin 8),(x.val / mk j.val % 2 == 1) = x.val.testBit (7 - j.val):=by decide +kernel
theorem div_mk (c:UInt8) (j:Nat) (hj:j < 8):(c.toNat / mk j % 2 == 1) = c.toNat.testBit (7 - j):=div_mk_fin ⟨c.toNat,c.toNat_lt⟩ ⟨j,hj⟩
theorem add_mk_fin:∀ (x:Fin 256) (j:Fin 8),x.val.testBit (7 - j.val) = false→x.val + mk j.val = (x.val ||| mk j.val)∧x.val + mk j.val < 256:=by decide +kernel
theorem add_mk (c:UInt8) (j:Nat) (hj:j < 8) (h:c.toNat.testBit (7 - j) = false):c.toNat + mk j = (c.toNat ||| mk j)∧c.toNat + mk j < 256:=add_mk_fin ⟨c.toNat,c.toNat_lt⟩ ⟨j,hj⟩ h
def on (c:UInt8) (j:Nat):UInt8:=UInt8.ofNat (c.toNat ||| mk j)
def off (c:UInt8) (j:Nat):UInt8:=UInt8.ofNat (c.toNat &&& (255 - mk j))
theorem or_lt (c:UInt8) (j:Nat):(c.toNat ||| mk j) < 256:=Nat.or_lt_two_pow (n:=8) c.toNat_lt (mk_lt j)
theorem on_toNat (c:UInt8) (j:Nat):(on c j).toNat = (c.toNat ||| mk j):=by
  unfold on; rw [UInt8.toNat_ofNat']; exact Nat.mod_eq_of_lt (or_lt c j)
theorem off_toNat (c:UInt8) (j:Nat):(off c j).toNat = (c.toNat &&& (255 - mk j)):=by
  unfold off; rw [UInt8.toNat_ofNat']; exact Nat.mod_eq_of_lt (Nat.lt_of_le_of_lt Nat.and_le_left c.toNat_lt)
theorem on_bit (c:UInt8) (j k:Nat) (hj:j < 8) (hk:k < 8):(on c j).toNat.testBit (7 - k) = (decide (k = j) || c.toNat.testBit (7 - k)):=by
  rw [on_toNat,Nat.testBit_or]; unfold mk; rw [Nat.testBit_two_pow,Bool.or_comm]
  congr 1
  exact decide_eq_decide.2 (by omega)
theorem off_fin:∀ (j k:Fin 8),(255 - mk j.val).testBit (7 - k.val) = !decide (k.val = j.val):=by decide +kernel
theorem off_bit (c:UInt8) (j k:Nat) (hj:j < 8) (hk:k < 8):(off c j).toNat.testBit (7 - k) = (!decide (k = j) && c.toNat.testBit (7 - k)):=by
  rw [off_toNat,Nat.testBit_and,off_fin ⟨j,hj⟩ ⟨k,hk⟩,Bool.and_comm]
theorem byt_set (l:List UInt8) (q k:Nat) (c:UInt8) (hq:q < l.length):byt (l.set q c) k = if k = q then c else byt l k:=by
  unfold byt
  simp only [List.getD_eq_getElem?_getD,List.getElem?_set]
  by_cases h:q = k
  · subst h; simp [hq]
  · rw [if_neg h,if_neg (fun h'=>h h'.symm)]
theorem bit_set_on (l:List UInt8) (i k:Nat) (hi:i / 8 < l.length):bit (l.set (i / 8) (on (byt l (i / 8)) (i % 8))) k = (decide (k = i) || bit l k):=by
  unfold bit
  rw [byt_set _ _ _ _ hi]
  by_cases h:k / 8 = i / 8
  · rw [if_pos h,on_bit _ _ _ (Nat.mod_lt _ (by omega)) (Nat.mod_lt _ (by omega)),h]
    congr 1
    exact decide_eq_decide.2 (by omega)
  · rw [if_neg h]
    have:k≠i:=fun h'=>h (by rw [h'])
    simp [this]
theorem bit_set_off (l:List UInt8) (i k:Nat) (hi:i / 8 < l.length):bit (l.set (i / 8) (off (byt l (i / 8)) (i % 8))) k = (!decide (k = i) && bit l k):=by
  unfold bit
  rw [byt_set _ _ _ _ hi]
  by_cases h:k / 8 = i / 8
  · rw [if_pos h,off_bit _ _ _ (Nat.mod_lt _ (by omega)) (Nat.mod_lt _ (by omega)),h]
    congr 2
    exact decide_eq_decide.2 (by omega)
  · rw [if_neg h]
    have:k≠i:=fun h'=>h (by rw [h'])
    simp [this]
theorem bit_beyond (l:List UInt8) (i:Nat) (h:8 * l.length≤i):bit l i = false:=by
  unfold bit byt
  rw [List.getD_eq_getElem?_getD,List.getElem?_eq_none (by omega)]
  simp
theorem bits_ext {l r:List UInt8} (hl:l.length = r.length) (h:∀ i,bit l i = bit r i):l = r:=by
  apply List.ext_getElem hl
  intro q h1 h2
  have hq:∀ k,k < 8→l[q].toNat.testBit k = r[q].toNat.testBit k:=by
    intro k hk
    have:=h (8 * q + (7 - k))
    unfold bit byt at this
    rw [show (8 * q + (7 - k)) / 8 = q by omega,show 7 - (8 * q + (7 - k)) % 8 = k by omega] at this
    simpa [List.getD_eq_getElem?_getD,List.getElem?_eq_getElem h1,List.getElem?_eq_getElem h2] using this
  apply UInt8.toNat_inj.1
  apply Nat.eq_of_testBit_eq
  intro k
  by_cases hk:k < 8
  · exact hq k hk
  · have h3:∀ c:UInt8,c.toNat.testBit k = false:=fun c=>Nat.testBit_lt_two_pow (Nat.lt_of_lt_of_le c.toNat_lt (Nat.pow_le_pow_right (n:=2) (i:=8) (by omega) (by omega)))
    rw [h3,h3]
def BF (n:Nat) (f:Nat→Bool) (r:List UInt8):Prop:=r.length = (n + 7) / 8∧∀ i,bit r i = (decide (i < n) && f i)
theorem BF.unique {n:Nat} {f g:Nat→Bool} {r s:List UInt8} (h:BF n f r) (k:BF n g s) (e:∀ i,i < n→f i = g i):r = s:=by
  apply bits_ext (h.1.trans k.1.symm)
  intro i
  rw [h.2,k.2]
  by_cases hi:i < n
  · rw [e i hi]
  · simp [hi]
theorem bit_zeros (m i:Nat):bit (List.replicate m 0) i = false:=by
  unfold bit byt
  simp only [List.getD_eq_getElem?_getD,List.getElem?_replicate]
  split <;> simp
def ck (n:Int) (l:List UInt8):Int:=
  if n < 0∨65536 < n then 40 else if (l.length:Int)≠(n + 7) / 8 then 41 else if (List.range (8 * l.length)).any (fun i=>decide (n≤i) && bit l i) then 42 else 0
theorem ck_ok {n:Int} {l:List UInt8} (h:ck n l = 0):0≤n∧n≤65536∧l.length = (n.toNat + 7) / 8∧∀ i,n.toNat≤i→bit l i = false:=by
  unfold ck at h
  split at h
  · simp at h
  · split at h
    · simp at h
    · split at h
      · simp at h
      · rename_i h1 h2 h3
        refine ⟨by omega,by omega,by omega,fun i hi=>?_⟩
        by_cases hb:8 * l.length≤i
        · exact bit_beyond l i hb
        · simp only [List.any_eq_true,List.mem_range,Bool.and_eq_true,decide_eq_true_eq,not_exists,not_and] at h3
          have:=h3 i (by omega) (by omega)
          simpa using this
theorem ck_bf {n:Int} {l:List UInt8} (h:ck n l = 0):BF n.toNat (bit l) l:=by
  obtain ⟨_,_,h3,h4⟩:=ck_ok h
  refine ⟨h3,fun i=>?_⟩
  by_cases hi:i < n.toNat
  · simp [hi]
  · rw [h4 i (by omega)]; simp
theorem spare_fin:∀ (x:Fin 256) (r:Fin 8),0 < r.val→(x.val % (2 * mk r.val) == 0) = (List.range 8).all (fun j=>decide (j < r.val) || !(x.val.testBit (7 - j))):=by decide +kernel
end Go.Proofs.YtfjjpbebnoghmaaGreatDoor.Bs
namespace Go.Proofs.YtfjjpbebnoghmaaGreatDoor.Bs
open Go.RowKit
def RB (w:World) (v:Value) (l:List UInt8):Prop:=
  ∃ a c,v = .slice a l.length c∧(l = []∨∃ g o,a = some ⟨g,o,none⟩∧g < w.heap.size∧∀ i,i < l.length→w.cell? ⟨g,o + i,none⟩ = some (.int .u8 ((byt l i).toNat:Int)))
theorem RB.keep {w w':World} {v:Value} {l:List UInt8} (h:RB w v l) (hb:Below w.heap.size w w'):RB w' v l:=by
  obtain ⟨a,c,rfl,h⟩:=h
  refine ⟨a,c,rfl,?_⟩
  rcases h with h | ⟨g,o,h1,h2,h3⟩
  · exact .inl h
  · exact .inr ⟨g,o,h1,Nat.lt_of_lt_of_le h2 hb.size,fun i hi=>(World.cell?_of_block (w:=w) (hb.block g h2)).trans (h3 i hi)⟩
def MT (w:World):Prop:=1 < w.heap.size∧∀ j,j < 8→w.cell? ⟨1,j,none⟩ = some (.int .u8 (mk j:Int))
theorem MT.keep {w w':World} (h:MT w) (hb:Below w.heap.size w w'):MT w':=
  ⟨Nat.lt_of_lt_of_le h.1 hb.size,fun j hj=>(World.cell?_of_block (w:=w) (hb.block 1 h.1)).trans (h.2 j hj)⟩
theorem belowDrew (w:World) (n:Nat):Below w.heap.size w (w.drewN n):=⟨rfl,rfl,rfl,Nat.le_refl _,fun _ _=>rfl⟩
theorem belowN {B:Nat} {a w:World} (h:Below B a w) (n:Nat):Below B a (w.drewN n):=⟨h.os,h.tape,h.output,h.size,h.block⟩
set_option maxHeartbeats 400000 in
theorem need27 (n:Nat) (hn:n≤65536) (w:World):Calls Tryz.prog 37 #[.int .i64 n] w fun e w'=>e = .returned (.int .i64 (((n + 7) / 8:Nat):Int))∧w = w':=by
  go_enter Tryz.func37,Tryz.ntmps37
  go_wp2
  go_ret
  exact ⟨by go_num,rfl⟩
set_option maxHeartbeats 400000 in
theorem has28 (v:Value) (l:List UInt8) (i:Nat) (w:World) (hr:RB w v l) (hm:MT w) (hi:i < 8 * l.length) (hl:l.length≤140737488351232) :
    Calls Tryz.prog 116 #[v,.int .i64 i] w fun e w'=>e = .returned (.bool (bit l i))∧∃ n,w' = w.drewN n:=by
  obtain ⟨a,c,rfl,hr⟩:=hr
  rcases hr with rfl | ⟨g,o,rfl,hg,hc⟩
  · simp at hi
  have h1:=hc (i / 8) (by omega)
  have h2:=hm.2 (i % 8) (Nat.mod_lt _ (by omega))
  have h3:=u8_and_nat (byt l (i / 8)).toNat (mk (i % 8)) (UInt8.toNat_lt _) (mk_lt _)
  have h4:=and_mk (byt l (i / 8)) (i % 8) (Nat.mod_lt _ (by omega))
  clear hc hm
  go_enter Tryz.func116,Tryz.ntmps116
  go_wp2
  go_region
  go_wp2
  go_ret
  refine ⟨?_,_,rfl⟩
  have h5:((((byt l (i / 8)).toNat &&& mk (i % 8):Nat):Int) != 0) = bit l i:=by
    have:((((byt l (i / 8)).toNat &&& mk (i % 8):Nat):Int) == 0) = (((byt l (i / 8)).toNat &&& mk (i % 8)) == 0):=by
      rw [Bool.eq_iff_iff,beq_iff_eq,beq_iff_eq]; omega
    unfold bne bit
    rw [this,h4]; simp
  rw [h5]; rfl
theorem ck_bits {n:Int} (h:n < 0∨65536 < n) (l:List UInt8):ck n l = 40:=by unfold ck; rw [if_pos h]
theorem ck_bytes {n:Nat} (h:n≤65536) {l:List UInt8} (hl:l.length≠(n + 7) / 8):ck n l = 41:=by
  unfold ck; rw [if_neg (by omega),if_pos (by omega)]
theorem ck_spare {n:Nat} (h:n≤65536) {l:List UInt8} (hl:l.length = (n + 7) / 8) {k:Nat} (hk:n≤k) (hb:bit l k = true):ck n l = 42:=by
  have hk2:k < 8 * l.length:=by
    rcases Nat.lt_or_ge k (8 * l.length) with h | h
    · exact h
    · rw [bit_beyond l k h] at hb; cases hb
  unfold ck
  rw [if_neg (by omega),if_neg (by omega),if_pos]
  simp only [List.any_eq_true,List.mem_range,Bool.and_eq_true,decide_eq_true_eq]
  exact ⟨k,hk2,by omega,hb⟩
theorem ck_fine {n:Nat} (h:n≤65536) {l:List UInt8} (hl:l.length = (n + 7) / 8) (hb:∀ k,n≤k→k < 8 * l.length→bit l k = false):ck n l = 0:=by
  unfold ck
  rw [if_neg (by omega),if_neg (by omega),if_neg]
  simp only [List.any_eq_true,List.mem_range,Bool.and_eq_true,decide_eq_true_eq,not_exists,not_and]
  intro k hk hn
  rw [hb k (by omega) hk]; simp
set_option maxHeartbeats 1000000 in
theorem check10 (n:Int) (h0:-9223372036854775808≤n) (h1:n≤9223372036854775807) (v:Value) (l:List UInt8) (w:World) (hr:RB w v l) (hm:MT w) (hl:l.length≤140737488351232) :
    Calls Tryz.prog 106 #[.int .i64 n,v] w fun e w'=>e = .returned (.int .i64 (ck n l))∧∃ nq,w' = w.drewN nq:=by
  have HR:Hid (RB w v l∧MT w):=⟨hr,hm⟩
  clear hm
  obtain ⟨a,c,rfl,_⟩:=hr
  by_cases h:n < 0∨65536 < n
  · rw [ck_bits h]
    rcases h with h | h
    · go_enter Tryz.func106,Tryz.ntmps106
      go_wp2
      go_ret
      exact ⟨rfl,0,rfl⟩
    · go_enter Tryz.func106,Tryz.ntmps106
      go_wp2
      go_ret
      exact ⟨rfl,0,rfl⟩
  · obtain ⟨m,rfl⟩:=Int.eq_ofNat_of_zero_le (show 0≤n by omega)
    have hm:m≤65536:=by omega
    clear h h0 h1
    generalize hz:ck m l = z
    have HZ:Hid (ck m l = z):=hz
    clear hz
    by_cases hlen:l.length = (m + 7) / 8
    · go_enter Tryz.func106,Tryz.ntmps106
      go_wp2_with (go_at_call 37; refine (need27 m hm _).mono ?_; rintro e w1 ⟨rfl,rfl⟩)
      go_loopw [5] (fun i wr=>∃ (k nq:Nat),m≤k∧k≤8 * l.length∧i = .int .i64 k∧wr = w.drewN nq∧∀ j,m≤j→j < k→bit l j = false) (fun i _=>8 * l.length - (intOf i).toNat)
      case atStart=>exact ⟨m,0,Nat.le_refl _,by omega,rfl,rfl,fun j h1 h2=>absurd h1 (by omega)⟩
      case round =>
        obtain ⟨k,nq,hk1,hk2,rfl,rfl,hb⟩:=hrel
        by_cases hlt:k < 8 * l.length
        · have HC:Hid (Calls Tryz.prog 116 #[.slice a l.length c,.int .i64 k] (w.drewN nq) fun e w'=>e = .returned (.bool (bit l k))∧∃ n,w' = (w.drewN nq).drewN n):=
            has28 _ l k _ (HR.out.1.keep (belowDrew _ _)) (HR.out.2.keep (belowDrew _ _)) hlt hl
          rw [hlen] at HC
          by_cases hbit:bit l k = true
          · have hz:z = 42:=HZ.out.symm.trans (ck_spare hm hlen hk1 hbit)
            clear hb
            rw [hbit] at HC
            go_wp2_with (go_at_call 116; refine HC.out.mono ?_; rintro e w1 ⟨rfl,nr,rfl⟩)
            go_ret
            exact ⟨by subst hz; rfl,_,rfl⟩
          · have hbf:bit l k = false:=by simpa using hbit
            rw [hbf] at HC
            have HB:Hid (∀ j,m≤j→j < k→bit l j = false):=hb
            clear hb
            go_wp2_with (go_at_call 116; refine HC.out.mono ?_; rintro e w1 ⟨rfl,nr,rfl⟩)
            go_roundw
            case rel=>exact ⟨k + 1,_,by omega,by omega,by go_num,rfl,fun j h1 h2=>by
              by_cases h:j = k
              · rw [h]; exact hbf
              · exact HB.out j h1 (by omega)⟩
            case measure=>simp [intOf]; omega
        · obtain rfl:k = 8 * l.length:=by omega
          have hz:z = 0:=HZ.out.symm.trans (ck_fine hm hlen hb)
          clear hb
          go_wp2
          go_ret
          exact ⟨by subst hz; rfl,_,rfl⟩
    · have hz:z = 41:=HZ.out.symm.trans (ck_bytes hm hlen)
      have hl2:((l.length:Int) != (((m + 7) / 8:Nat):Int)) = true:=by simp; omega
      go_enter Tryz.func106,Tryz.ntmps106
      go_wp2_with (go_at_call 37; refine (need27 m hm _).mono ?_; rintro e w1 ⟨rfl,rfl⟩)
      go_ret
      exact ⟨by subst hz; rfl,0,rfl⟩
end Go.Proofs.YtfjjpbebnoghmaaGreatDoor.Bs
namespace Go.Proofs.YtfjjpbebnoghmaaGreatDoor.Bs
open Go.RowKit
theorem info5:(Tryz.prog.info? 5).map (fun i=>(i.zero,i.size,i.bytes)) = some (some (.int .u8 0),1,1):=by kernel_rfl
def OW (B:Nat) (w:World) (v:Value) (l:List UInt8):Prop:=w.ownsRow B 5 1 v l.length (Lib.byteCells l)
theorem getD_byt (l:List UInt8) (i:Nat) (hi:i < l.length):byt l i = l[i]:=by unfold byt; simp [List.getD,List.getElem?_eq_getElem hi]
theorem OW.rb {B:Nat} {w:World} {v:Value} {l:List UInt8} (h:OW B w v l):RB w v l:=by
  have h':=h
  rcases h.2 with ⟨rfl,h0⟩ | ⟨g,cap,cur,rfl,_,hg,_⟩
  · have:l = []:=List.length_eq_zero_iff.1 h0
    subst this; exact ⟨none,0,rfl,.inl rfl⟩
  · refine ⟨_,cap,rfl,.inr ⟨g,0,rfl,(Array.getElem?_eq_some_iff.1 hg).1,fun i hi=>?_⟩⟩
    have:=World.ownsRow.cellAt h' i (by omega)
    rw [Nat.zero_add,this,getD_byt l i hi]
    simp [Lib.byteCells,List.getElem?_eq_getElem hi]
theorem OW.form {B:Nat} {w:World} {v:Value} {l:List UInt8} (h:OW B w v l):∃ a c,v = .slice a l.length c:=by
  obtain ⟨a,c,h,_⟩:=h.rb
  exact ⟨a,c,h⟩
theorem OW.grow {B:Nat} {w w':World} {v:Value} {l:List UInt8} (h:OW B w v l) (hb:Below w.heap.size w w'):OW B w' v l:=by
  refine ⟨h.1,?_⟩
  rcases h.2 with h1 | ⟨g,cap,cur,h1,h2,h3,h4⟩
  · exact .inl h1
  · exact .inr ⟨g,cap,cur,h1,h2,(hb.block g (Array.getElem?_eq_some_iff.1 h3).1).trans h3,h4⟩
theorem OW.alloc {B:Nat} {w:World} {v:Value} {l:List UInt8} (h:OW B w v l) (o:Obj):OW B (w.alloc o) v l:=h.grow ((Below.refl _ _).alloc (Nat.le_refl _) _)
theorem append_byte {ops:Array Oper} {rest:List Oper} {o:Oper} {a:Act} {Q:Exit→Act→World→Prop} {w:World} {B:Nat} {sv:Value} {l:List UInt8} (hgd:o.guard = none) (s x:Operand)
    (ho:o.op = .call { callee:=.builtin .append,args:=#[s,x],argTypes:=#[37,37] }) (hs:a.eval s = sv) (hown:OW B w sv l) (b:Nat) (c:UInt8) (hx:a.eval x = .slice (some ⟨b,0,none⟩) 1 1)
    (hc:w.cell? ⟨b,0,none⟩ = some (.int .u8 c.toNat)) (hB:B≤w.heap.size) (hlim:l.length < 140737488351232)
    (h:∀ v' w',OW B w' v' (l ++ [c])→Below B w w'→wpList Tryz.prog ops Q rest (a.put o.dst v') w'):wpList Tryz.prog ops Q (o :: rest) a w:=by
  obtain ⟨i0,hi,hz0,hz1,hz2⟩:=info_parts info5
  refine wpList_append_own w hgd s x 37 ho B 5 i0 _ 1 1 Tryz.underlying37 hi hz0 hz1 hz2 rfl (by omega) sv l.length (Lib.byteCells l) hs hown ⟨b,0,none⟩ 1 1 [.int .u8 c.toNat] hx rfl (fun j u hu=>?_) (fun u hu=>?_) (by unfold maxLen; omega) (by omega) hB (fun v' w' h1 h2 _=>?_)
  · match j,hu with
    | 0,hu=>simp at hu; subst hu; simpa [Addr.add] using hc
  · simp at hu; subst hu; rfl
  · refine h v' w' ?_ ((Below.refl B w).grown h2 hB (fun k hk=>(World.ownsRow.lt hown k hk).1))
    have e:Lib.byteCells l ++ [Value.int .u8 c.toNat] = Lib.byteCells (l ++ [c]):=by simp [Lib.byteCells]
    rw [e] at h1
    simpa [OW] using h1
theorem take_snoc (l:List UInt8) (k:Nat) (h:k < l.length):l.take (k + 1) = l.take k ++ [byt l k]:=by
  rw [List.take_succ_eq_append_getElem h,getD_byt l k h]
end Go.Proofs.YtfjjpbebnoghmaaGreatDoor.Bs
namespace Go.Proofs.YtfjjpbebnoghmaaGreatDoor.Bs
open Go.RowKit
theorem byteCells_zeros (m:Nat):Lib.byteCells (List.replicate m 0) = (madeCells #[Value.int .u8 0] m).toList:=by
  rw [toList_madeCells_one]
  simp [Lib.byteCells]
theorem OW.zeros (w:World) (m:Nat) (hm:m≤1000000):OW w.heap.size (w.alloc (.cells (madeCells #[.int .u8 0] m) 5)) (.slice (some ⟨w.heap.size,0,none⟩) m m) (List.replicate m 0):=by
  unfold OW
  rw [byteCells_zeros,List.length_replicate]
  exact World.ownsRow_lit w _ m (Nat.le_refl _) (by unfold maxLen; omega) (by simp [size_madeCells])
theorem make13 (n:Nat) (h:n≤65536) (w:World) :
    Calls Tryz.prog 14 #[.int .i64 n] w fun e w'=>e = .returned (.tuple #[.slice (some ⟨w.heap.size,0,none⟩) ((n + 7) / 8) ((n + 7) / 8),.int .i64 0])∧w' = w.alloc (.cells (madeCells #[.int .u8 0] ((n + 7) / 8)) 5):=by
  obtain ⟨i0,hi,hz0,hz1,hz2⟩:=info_parts info5
  have hmk:∀ u:World,(Instr.makeSlice 37 (.int .i64 (((n + 7) / 8:Nat):Int)) (.int .i64 (((n + 7) / 8:Nat):Int))).run Tryz.prog u =
      .ok (.slice (some ⟨u.heap.size,0,none⟩) ((n + 7) / 8) ((n + 7) / 8)) (u.alloc (.cells (madeCells #[.int .u8 0] ((n + 7) / 8)) 5)):=fun u=>by
    have h:=run_make (P:=Tryz.prog) u 37 5 i0 (.int .u8 0) Tryz.underlying37 hi hz0 .i64 .i64 (((n + 7) / 8:Nat):Int) (((n + 7) / 8:Nat):Int) (by omega) (by omega) (by rw [hz2]; omega) (by omega)
    rw [hz1] at h
    simpa only [Value.cells,Int.toNat_natCast,Nat.mul_one] using h
  have HN:Hid (∀ w,Calls Tryz.prog 37 #[.int .i64 n] w fun e w'=>e = .returned (.int .i64 (((n + 7) / 8:Nat):Int))∧w = w'):=fun w=>need27 n h w
  clear hi hz0 hz1 hz2
  generalize (n + 7) / 8 = m at *
  go_enter Tryz.func14,Tryz.ntmps14
  go_wp2_with (go_at_call 37; refine (HN.out _).mono ?_; rintro e w1 ⟨rfl,rfl⟩)
  go_ret2
  exact ⟨rfl,rfl⟩
theorem make13_ow (n:Nat) (h:n≤65536) (w:World) :
    Calls Tryz.prog 14 #[.int .i64 n] w fun e w'=>∃ v,e = .returned (.tuple #[v,.int .i64 0])∧OW w.heap.size w' v (List.replicate ((n + 7) / 8) 0)∧Below w.heap.size w w':=by
  refine (make13 n h w).mono ?_
  rintro e w1 ⟨rfl,rfl⟩
  exact ⟨_,rfl,OW.zeros w _ (by omega),(Below.refl _ _).alloc (Nat.le_refl _) _⟩
theorem BF.zeros (n:Nat):BF n (fun _=>false) (List.replicate ((n + 7) / 8) 0):=⟨by simp,fun i=>by rw [bit_zeros]; simp⟩
theorem OW.stored {B g c:Nat} {w:World} {l:List UInt8} {n:Nat} (h:OW B w (.slice (some ⟨g,0,none⟩) n c) l) (j:Nat) (y:UInt8) :
    OW B (w.setCell ⟨g,j,none⟩ (.int .u8 (y.toNat:Int))) (.slice (some ⟨g,0,none⟩) n c) (l.set j y):=by
  have hn:n = l.length:=by
    obtain ⟨_,_,h,_⟩:=h.rb
    simp at h; exact h.2.1
  subst hn
  have:=(World.ownsRow.stored h j (.int .u8 (y.toNat:Int))).1
  unfold OW
  rw [List.length_set]
  have e:Lib.byteCells (l.set j y) = (Lib.byteCells l).set j (.int .u8 (y.toNat:Int)):=by simp [Lib.byteCells,List.map_set]
  rw [e]; exact this
theorem OW.at {B:Nat} {w:World} {a:Option Addr} {n c:Nat} {l:List UInt8} (h:OW B w (.slice a n c) l) (q:Nat) (hq:q < n) :
    ∃ g,a = some ⟨g,0,none⟩∧B≤g∧w.cell? ⟨g,q,none⟩ = some (.int .u8 ((byt l q).toNat:Int))∧w.frozen? ⟨g,q,none⟩ = false:=by
  have hn:n = l.length:=by
    obtain ⟨_,_,h,_⟩:=h.rb
    simp at h; exact h.2.1
  subst hn
  rcases h.2 with ⟨h1,h2⟩ | ⟨g,cap,cur,h1,h2,h3,_⟩
  · omega
  · simp only [Value.slice.injEq] at h1
    obtain ⟨rfl,_,rfl⟩:=h1
    refine ⟨g,rfl,h2,?_,World.ownsRow.frozenAt h q⟩
    have:=World.ownsRow.cellAt h q (by omega)
    rw [this,getD_byt l q hq]
    simp [Lib.byteCells,List.getElem?_eq_getElem hq]
theorem OW.drew {B:Nat} {w:World} {v:Value} {l:List UInt8} (h:OW B w v l) (n:Nat):OW B (w.drewN n) v l:=h.grow (belowDrew _ _)
theorem or_on (c:UInt8) (j:Nat):bits .or .u8 (c.toNat:Int) (mk j:Int) = ((on c j).toNat:Int):=by
  rw [u8_or_nat _ _ (UInt8.toNat_lt _) (mk_lt _),on_toNat]
end Go.Proofs.YtfjjpbebnoghmaaGreatDoor.Bs
namespace Go.Proofs.YtfjjpbebnoghmaaGreatDoor.Bs
open Go.RowKit
theorem ck_last {m:Nat} (hm:m≤65536) {l:List UInt8} (hl:l.length = (m + 7) / 8) (hr:m % 8≠0) :
    ck m l = if (byt l (l.length - 1)).toNat % (2 * mk (m % 8)) = 0 then 0 else 42:=by
  have hs:=spare_fin ⟨(byt l (l.length - 1)).toNat,UInt8.toNat_lt _⟩ ⟨m % 8,Nat.mod_lt _ (by omega)⟩ (by show 0 < m % 8; omega)
  simp only at hs
  have hd:∀ k,m≤k→k < 8 * l.length→k / 8 = l.length - 1:=by intro k h1 h2; omega
  by_cases h:(byt l (l.length - 1)).toNat % (2 * mk (m % 8)) = 0
  · rw [if_pos h]
    rw [h,beq_self_eq_true] at hs
    have hs':=List.all_eq_true.1 hs.symm
    refine ck_fine hm hl fun k h1 h2=>?_
    have:=hs' (k % 8) (List.mem_range.2 (Nat.mod_lt _ (by omega)))
    have h3:=hd k h1 h2
    have h4:¬ k % 8 < m % 8:=by omega
    unfold bit
    rw [h3]
    simpa [h4] using this
  · rw [if_neg h]
    have hf:(List.range 8).all (fun j=>decide (j < m % 8) || !((byt l (l.length - 1)).toNat.testBit (7 - j))) = false:=by
      rw [← hs]; simpa using h
    rw [List.all_eq_false] at hf
    obtain ⟨j,hj,hb⟩:=hf
    have hj8:j < 8:=List.mem_range.1 hj
    simp at hb
    refine ck_spare hm hl (k:=8 * (l.length - 1) + j) (by omega) ?_
    unfold bit
    rw [show (8 * (l.length - 1) + j) / 8 = l.length - 1 by omega,show (8 * (l.length - 1) + j) % 8 = j by omega]
    exact hb.2
end Go.Proofs.YtfjjpbebnoghmaaGreatDoor.Bs
namespace Go.Proofs.YtfjjpbebnoghmaaGreatDoor.Bs
open Go.RowKit
theorem append_bytes {ops:Array Oper} {rest:List Oper} {o:Oper} {a:Act} {Q:Exit→Act→World→Prop} {w:World} {B:Nat} {sv:Value} {ad:Addr} {c:Nat} {l:List UInt8} (hgd:o.guard = none) (s x:Operand)
    (ho:o.op = .call { callee:=.builtin .append,args:=#[s,x],argTypes:=#[37,37] }) (hs:a.eval s = sv) (hown:OW B w sv []) (hx:a.eval x = .slice (some ad) l.length c) (hr:RB w (.slice (some ad) l.length c) l) (hB:B≤w.heap.size) (hl:l.length≤140737488351232)
    (h:∀ v' w',OW B w' v' l→Below B w w'→wpList Tryz.prog ops Q rest (a.put o.dst v') w'):wpList Tryz.prog ops Q (o :: rest) a w:=by
  obtain ⟨i0,hi,hz0,hz1,hz2⟩:=info_parts info5
  obtain ⟨a',c',he,hr⟩:=hr
  injection he with e1 e2 e3
  subst e1 e3
  refine wpList_append_own w hgd s x 37 ho B 5 i0 _ 1 1 Tryz.underlying37 hi hz0 hz1 hz2 rfl (by omega) _ 0 [] hs hown ad l.length c (Lib.byteCells l) hx (by simp [Lib.byteCells]) (fun j u hu=>?_) (fun u hu=>?_) (by unfold maxLen; omega) (by omega) hB (fun v' w' h1 h2 _=>?_)
  · have hj:j < l.length:=by simpa [Lib.byteCells] using (List.getElem?_eq_some_iff.1 hu).1
    rcases hr with rfl | ⟨g,o',he,_,hc⟩
    · simp at hj
    · simp only [Option.some.injEq] at he
      subst he
      have hadd:(⟨g,o',none⟩:Addr).add j = ⟨g,o' + j,none⟩:=by unfold Addr.add; split <;> simp_all
      rw [hadd,hc j hj, ← hu,getD_byt l j hj]
      simp [Lib.byteCells,List.getElem?_eq_getElem hj]
  · unfold Lib.byteCells at hu
    obtain ⟨z,_,rfl⟩:=List.mem_map.1 hu
    rfl
  · refine h v' w' ?_ ((Below.refl B w).grown h2 hB (fun k hk=>(World.ownsRow.lt hown k hk).1))
    simpa [OW] using h1
set_option maxHeartbeats 1000000 in
theorem clone34 (v:Value) (l:List UInt8) (w:World) (hr:RB w v l) (hl:l.length≤140737488351232) :
    Calls Tryz.prog 57 #[v] w fun e w'=>∃ v',e = .returned v'∧OW w.heap.size w' v' l∧Below w.heap.size w w':=by
  have HR:Hid (RB w v l):=hr
  obtain ⟨a,c,rfl,hr⟩:=hr
  cases a with
  | none =>
    rcases hr with rfl | ⟨g,o,h,_⟩
    · have hq:=fun u:World=>Lib.run_eql_slice_nil (P:=Tryz.prog) u 37 5 none 0 c 0 0 Tryz.underlying37
      clear HR
      go_enter Tryz.func57,Tryz.ntmps57
      go_wp2
      go_ret
      exact ⟨_,rfl,World.ownsRow_nil _ _ _ _,Below.refl _ _⟩
    · cases h
  | some x =>
    have hq:=fun u:World=>Lib.run_eql_slice_nil (P:=Tryz.prog) u 37 5 (some x) l.length c 0 0 Tryz.underlying37
    clear hr
    have hb0:Below w.heap.size w (w.alloc (.cells #[] 5)):=(Below.refl _ _).alloc (Nat.le_refl _) _
    have HO:Hid (OW w.heap.size (w.alloc (.cells #[] 5)) (.slice (some ⟨w.heap.size,0,none⟩) 0 0) []∧RB (w.alloc (.cells #[] 5)) (.slice (some x) l.length c) l∧Below w.heap.size w (w.alloc (.cells #[] 5))):=
      ⟨World.ownsRow_lit w #[] 0 (Nat.le_refl _) (Nat.zero_le _) rfl,HR.out.keep hb0,hb0⟩
    clear hb0
    go_enter Tryz.func57,Tryz.ntmps57
    go_wp2_with (at_builtin; refine append_bytes rfl _ _ rfl rfl HO.out.1 rfl HO.out.2.1 (by simp) hl ?_; intro v' w1 ho1 hb1)
    obtain ⟨a',c',rfl⟩:=ho1.form
    go_ret
    exact ⟨_,rfl,ho1,HO.out.2.2.trans hb1⟩
end Go.Proofs.YtfjjpbebnoghmaaGreatDoor.Bs
