import Derived.Shelf.Strconv.AtoiAll
import Derived.Shelf.Strconv.ParseIntPublic10
import Derived.Shelf.Lay
import Derived.Ground.NamesProg
import Derived.Lib.AtoiErrMem
import Derived.Lib.ParseIntBTie
import Derived.Test.YtdlnnnlmlaploabGreatDoorK02
import Derived.Shelf.Strconv.AppendIntPublic10
import Derived.Shelf.Strconv.Itoa3
import Derived.Lib.ItoaLen
import Derived.Lib.OwnKind
import Derived.Lib.AppendStr
import Derived.Test.YtdlnnnlmlaploabGreatDoorK00
import Derived.Maps.AppendAt
import Derived.Lib.AppendZeros
namespace Go.Proofs.YtdlnnnlmlaploabGreatDoor
open Go.Shelf Go.RowKit Go.Deep
shelf_lay LaysC.n172 Nm 172 at Tryz as lays172
shelf_lay LaysC.n174 Nm 174 at Tryz as lays174
theorem atoi55 (s:ByteArray) (rb:Nat) (w:World) (hs:s.size ≤ 1048577) (hv:EVn rb w) :
    Calls Tryz.prog 102 #[.string s] w fun e w'=>Below w.heap.size w w'∧((∃ v,Lib.atoiAll s.data.toList = .ok v∧e = .returned (.tuple #[.int .i64 v,.nilIface])) ∨ ((∀ v,Lib.atoiAll s.data.toList ≠ .ok v)∧∃ n t N,e = .returned (.tuple #[.int .i64 n,.iface t (.pointer (some ⟨N,0,none⟩))]))):=by
  obtain ⟨_,_,⟨t1,p1,h1⟩,⟨t2,p2,h2⟩⟩:=hv
  cases h:Lib.atoiAll s.data.toList with
  | ok v =>
    refine (Any.strconv_Atoi_ok lays172 s (by omega) v h w).mono ?_
    rintro e w' ⟨rfl,hw⟩
    refine ⟨?_,.inl ⟨v,rfl,rfl⟩⟩
    rcases hw with rfl | ⟨t,rfl⟩
    · exact Below.refl _ _
    · exact Lib.bytesWorld_below _ _ _
  | «syntax» =>
    refine (Any.strconv_Atoi_syntax lays172 s (by omega) h _ w h1 (.inr ⟨_,_,rfl⟩)).mono ?_
    rintro e w' ⟨N,rfl,_,_,hb⟩
    exact ⟨hb,.inr ⟨(fun v hv=>by cases hv),_,_,_,rfl⟩⟩
  | range =>
    refine (Any.strconv_Atoi_range lays172 s (by omega) h _ w h2 (.inr ⟨_,_,rfl⟩)).mono ?_
    rintro e w' ⟨N,rfl,_,_,hb⟩
    exact ⟨hb,.inr ⟨(fun v hv=>by cases hv),_,_,_,rfl⟩⟩
theorem parseInt53 (s:ByteArray) (rb:Nat) (w:World) (hs:s.size ≤ 1048577) (hv:EVn rb w) :
    Calls Tryz.prog 100 #[.string s,.int .i64 10,.int .i64 64] w fun e w'=>Below w.heap.size w w'∧((∃ v,Lib.atoiAll s.data.toList = .ok v∧e = .returned (.tuple #[.int .i64 v,.nilIface])) ∨ ((∀ v,Lib.atoiAll s.data.toList ≠ .ok v)∧∃ n t N,e = .returned (.tuple #[.int .i64 n,.iface t (.pointer (some ⟨N,0,none⟩))]))):=by
  obtain ⟨_,_,⟨t1,p1,h1⟩,⟨t2,p2,h2⟩⟩:=hv
  cases h:Lib.atoiAll s.data.toList with
  | ok v =>
    refine (Any.strconv_ParseInt_10_at64_ok lays174 s (by omega) v (by rw [Lib.parseIntB_64]; exact h) w).mono ?_
    rintro e w' ⟨rfl,hw⟩
    refine ⟨?_,.inl ⟨v,rfl,rfl⟩⟩
    first
    | exact hw
    | (rcases hw with rfl | ⟨t,rfl⟩
       · exact Below.refl _ _
       · exact Lib.bytesWorld_below _ _ _)
  | «syntax» =>
    refine (Any.strconv_ParseInt_10_at64_syntax lays174 s (by omega) (by rw [Lib.parseIntB_64]; exact h) _ w h1 (.inr ⟨_,_,rfl⟩)).mono ?_
    rintro e w' ⟨N,rfl,_,_,hb⟩
    exact ⟨hb,.inr ⟨(fun v hv=>by cases hv),_,_,_,rfl⟩⟩
  | range =>
    refine (Any.strconv_ParseInt_10_at64_range lays174 s (by omega) (by rw [Lib.parseIntB_64]; exact h) _ w h2 (.inr ⟨_,_,rfl⟩)).mono ?_
    rintro e w' ⟨N,rfl,_,_,hb⟩
    exact ⟨hb,.inr ⟨(fun v hv=>by cases hv),_,_,_,rfl⟩⟩
theorem ba_size (l:List UInt8):(⟨l.toArray⟩:ByteArray).size = l.length:=List.size_toArray
theorem ba_zero (l:List UInt8) (h:0 < (⟨l.toArray⟩:ByteArray).size):(⟨l.toArray⟩:ByteArray)[0] = byt l 0:=by
  cases l with
  | nil=>exact absurd h (by decide)
  | cons x l=>rfl
theorem u8_beq (x y:UInt8):((x.toNat:Int) == (y.toNat:Int)) = (x == y):=by
  by_cases h:x = y
  · subst h; simp
  · have h2:=u8_ne h
    rw [beq_eq_false_iff_ne.2 h2,beq_eq_false_iff_ne.2 h]
set_option maxHeartbeats 400000 in
theorem padded54 (l:List UInt8) (w:World) (hl:l.length ≤ 1048577):Calls Tryz.prog 101 #[.string ⟨l.toArray⟩] w fun e w'=>e = .returned (.bool (padd l))∧w' = w:=by
  have hs:=ba_size l
  by_cases h1:1 < l.length
  · have e:padd l = ((((⟨l.toArray⟩:ByteArray)[0]'(by rw [hs]; omega)).toNat:Int) == 48):=by
      rw [ba_zero l (by rw [hs]; omega)]
      have:=u8_beq (byt l 0) 48
      simp only [padd,h1,decide_true,Bool.true_and]
      exact this.symm
    have h2:(1:Int) < (l.length:Int):=by omega
    rw [e]
    clear e
    go_enter Tryz.func101,Tryz.ntmps101
    go_wp2
    go_ret
    exact ⟨rfl,rfl⟩
  · have e:padd l = false:=by simp [padd,h1]
    have h2:¬ (1:Int) < (l.length:Int):=by omega
    rw [e]
    go_enter Tryz.func101,Tryz.ntmps101
    go_wp2
    go_ret
    exact ⟨rfl,rfl⟩
theorem strg_no {b:List UInt8} {i j:Nat} {d:List UInt8} (h:digs b 58 i = .ok d j) (hp:padd d = false) (hno:∀ v,Lib.atoiAll d ≠ .ok v):strg b i = .bad b.length 21:=by
  cases e:Lib.atoiAll d with
  | ok v=>exact absurd e (hno v)
  | «syntax»=>simp [strg,h,hp,e]
  | range=>simp [strg,h,hp,e]
theorem strg_far {b:List UInt8} {i j m:Nat} {d:List UInt8} (h:digs b 58 i = .ok d j) (hp:padd d = false) (hv:Lib.atoiAll d = .ok (m:Int)) (hm:(b.length:Int) - j < m):strg b i = .bad b.length 21:=by
  unfold strg
  rw [h]
  simp only [hp,Bool.false_eq_true,if_false,hv,if_pos hm]
theorem strg_ok {b:List UInt8} {i j m:Nat} {d:List UInt8} (h:digs b 58 i = .ok d j) (hp:padd d = false) (hv:Lib.atoiAll d = .ok (m:Int)) (hm:¬ (b.length:Int) - j < m):strg b i = .ok ⟨(cut b j (j + m)).toArray⟩ (j + m):=by
  unfold strg
  rw [h]
  simp only [hp,Bool.false_eq_true,if_false,hv,if_neg hm,Int.toNat_natCast]
theorem RR.text {rb g o c i:Nat} {w:World} {b:List UInt8} (h:RR rb w (some ⟨g,o,none⟩) c b i):∀ k,k < b.length → w.cell? ⟨g,o + k,none⟩ = some (.int .u8 ((byt b k).toNat:Int)):=by
  rcases h.2.2.2.2 with rfl | ⟨g',o',h1,_,_,h4⟩
  · intro k hk; simp at hk
  · cases h1; exact h4
theorem conv_far {rb g o c i j m cap:Nat} {w:World} {b:List UInt8} (h:RR rb w (some ⟨g,o,none⟩) c b i) (hm:j + m ≤ b.length) (_:¬ c = j) (ty:TypeId) (hty:Tryz.prog.underlying ty = some .string) :
    (convert 22 ty (.slice (some ⟨g,o + j,none⟩) m cap)).run Tryz.prog w = .ok (.string ⟨(cut b j (j + m)).toArray⟩) w:=by
  have:=conv_cut (g:=g) (o:=o) (i:=j) (j:=j + m) (cap:=cap) hm h.text ty hty
  rwa [show j + m - j = m from by omega] at this
theorem conv_end {rb g o c i j m cap:Nat} {w:World} {b:List UInt8} (h:RR rb w (some ⟨g,o,none⟩) c b i) (hm:j + m ≤ b.length) (hc:c = j) (ty:TypeId) (hty:Tryz.prog.underlying ty = some .string) :
    (convert 22 ty (.slice (some ⟨g,o,none⟩) m cap)).run Tryz.prog w = .ok (.string ⟨(cut b j (j + m)).toArray⟩) w:=by
  have hcap:=h.2.2.1
  obtain rfl:m = 0:=by omega
  have:=conv_cut (g:=g) (o:=o) (i:=0) (j:=0) (cap:=cap) (b:=b) (w:=w) (by omega) h.text ty hty
  simpa [cut] using this
set_option maxRecDepth 10000 in
set_option maxHeartbeats 1000000 in
theorem word47 (rb:Nat) (a:Option Addr) (c:Nat) (b:List UInt8) (i:Nat) (w:World) (h:RR rb w a c b i) :
    Calls Tryz.prog 89 #[.pointer (some ⟨rb,0,none⟩)] w fun e w'=>pcEnd (strg b i) rb w w' a c b (fun s=>.string s) e:=by
  obtain ⟨c0,c1,f1⟩:=h.cells
  have HR:=Lib.hid h
  clear h
  go_enter Tryz.func89,Tryz.ntmps89
  go_wp2_with fail
  refine (digits52 rb a c b 58 i w HR.out).mono ?_
  intro e w1 hp
  obtain ⟨hb1,⟨d,j,hd,rfl,hr1⟩ | ⟨p,er,hd,rfl⟩⟩:=hp.cases
  case inr=>exact ⟨rfl,pcEnd.bad (by rw [strg,hd]) hb1⟩
  have hn:=hr1.2.1
  have hl:=hr1.2.2.2.1
  have hcap:=hr1.2.2.1
  have HD:Hid (digs b 58 i = .ok d j):=hd
  have hdl:d.length ≤ 1048576:=by have:=digs_len hd; have:=digs_ok hd; omega
  have hjl:0 < b.length:=by have:=digs_ok hd; omega
  have H1:Hid (RR rb w1 a c b j∧Besides rb w w1):=⟨hr1,hb1⟩
  clear hp hd hr1 hb1 c0 c1 f1
  go_wp2_with fail
  refine (padded54 d w1 (by omega)).mono ?_
  rintro e w2 ⟨rfl,rfl⟩
  by_cases hp:padd d = true
  · rw [hp]
    go_wp2_with fail
    refine (giveUp44 rb _ _ _).mono ?_
    rintro e w' ⟨rfl,rfl⟩
    exact ⟨rfl,pcEnd.bad (by rw [strg,HD.out]; simp [hp]) H1.out.2⟩
  have hp':padd d = false:=by simpa using hp
  have HP:=Lib.hid hp'
  rw [hp']
  clear hp hp'
  obtain ⟨g,o,rfl,hg,_⟩:=H1.out.1.byte hjl
  obtain ⟨c0,c1,f1⟩:=H1.out.1.cells
  have b0:(0:Int) ≤ (j:Int):=by omega
  have b1:(j:Int) ≤ (b.length:Int):=by omega
  have b2:(b.length:Int) ≤ (c:Int):=by omega
  by_cases hcj:c = j
  · go_wp2
    go_quiet (fail)
    have hB:Below w2.heap.size w2 (w2.drewN nq):=⟨rfl,rfl,rfl,Nat.le_refl _,fun _ _=>rfl⟩
    have H2:Hid (RR rb (w2.drewN nq) (some ⟨g,o,none⟩) c b j∧Besides rb w (w2.drewN nq)):=⟨H1.out.1.heap hB,H1.out.2.trans (Besides.of_below hB)⟩
    clear c0 c1 f1 H1 hB
    generalize w2.drewN nq = w3 at *
    go_wp2_with fail
    refine (atoi55 ⟨d.toArray⟩ rb w3 (by rw [ba_size]; omega) H2.out.1.1.2).mono ?_
    rintro e w4 ⟨hb4,⟨v,hv,rfl⟩ | ⟨hno,n,ty,N,rfl⟩⟩
    case inr =>
      have H4:Hid (RR rb w4 (some ⟨g,o,none⟩) c b j∧Besides rb w w4):=⟨H2.out.1.heap hb4,H2.out.2.trans (Besides.of_below hb4)⟩
      have HE:Hid (strg b i = .bad b.length 21):=Lib.hid (strg_no HD.out HP.out hno)
      clear H2 hb4 hno
      obtain ⟨c0,c1,f1⟩:=H4.out.1.cells
      go_wp2_with fail
      refine (giveUp44 rb _ _ _).mono ?_
      rintro e w' ⟨rfl,rfl⟩
      exact ⟨rfl,pcEnd.bad HE.out H4.out.2⟩
    have hv0:0 ≤ v:=atoi_nonneg ((digs_len HD.out).2 0 (by have:=digs_len HD.out; have:=digs_ok HD.out; omega)) hv
    obtain ⟨m,rfl⟩:∃ m:Nat,v = m:=⟨v.toNat,by omega⟩
    have H4:Hid (RR rb w4 (some ⟨g,o,none⟩) c b j∧Besides rb w w4):=⟨H2.out.1.heap hb4,H2.out.2.trans (Besides.of_below hb4)⟩
    have HV:Hid (Lib.atoiAll d = .ok (m:Int)):=hv
    clear H2 hb4 hv hv0
    obtain ⟨c0,c1,f1⟩:=H4.out.1.cells
    have hm0:m ≤ 9223372036854775807:=by have:=Lib.atoiAll_bounds HV.out; omega
    by_cases hm:b.length - j < m
    · have hm2:((b.length - j:Nat):Int) < (m:Int):=by omega
      have HE:Hid (strg b i = .bad b.length 21):=Lib.hid (strg_far HD.out HP.out HV.out (by omega))
      clear hm
      go_wp2_with fail
      refine (giveUp44 rb _ _ _).mono ?_
      rintro e w' ⟨rfl,rfl⟩
      exact ⟨rfl,pcEnd.bad HE.out H4.out.2⟩
    · obtain rfl:m = 0:=by omega
      have HE:Hid (strg b i = .ok ⟨(cut b j (j + 0)).toArray⟩ j):=Lib.hid (strg_ok HD.out HP.out HV.out (by omega))
      have HN:Hid (RR rb (w4.setCell ⟨rb,1,none⟩ (.int .i64 (j:Int))) (some ⟨g,o,none⟩) c b j∧Besides rb w (w4.setCell ⟨rb,1,none⟩ (.int .i64 (j:Int)))):=⟨H4.out.1.set j (by omega),H4.out.2.set1⟩
      have hconv:=conv_end (m:=0) (cap:=0) HN.out.1 (show j + 0 ≤ b.length by omega) hcj 102 Tryz.underlying102
      have hz:¬ ((b.length - j:Nat):Int) < 0:=by omega
      have m3:(j:Int) ≤ 1048576:=by omega
      clear H4 hm0 HV hm
      go_wp2
      go_ret
      exact pcEnd.ok HE.out HN.out.2 HN.out.1
  · go_wp2
    go_quiet (fail)
    have hB:Below w2.heap.size w2 (w2.drewN nq):=⟨rfl,rfl,rfl,Nat.le_refl _,fun _ _=>rfl⟩
    have H2:Hid (RR rb (w2.drewN nq) (some ⟨g,o,none⟩) c b j∧Besides rb w (w2.drewN nq)):=⟨H1.out.1.heap hB,H1.out.2.trans (Besides.of_below hB)⟩
    clear c0 c1 f1 H1 hB
    generalize w2.drewN nq = w3 at *
    go_wp2_with fail
    refine (atoi55 ⟨d.toArray⟩ rb w3 (by rw [ba_size]; omega) H2.out.1.1.2).mono ?_
    rintro e w4 ⟨hb4,⟨v,hv,rfl⟩ | ⟨hno,n,ty,N,rfl⟩⟩
    case inr =>
      have H4:Hid (RR rb w4 (some ⟨g,o,none⟩) c b j∧Besides rb w w4):=⟨H2.out.1.heap hb4,H2.out.2.trans (Besides.of_below hb4)⟩
      have HE:Hid (strg b i = .bad b.length 21):=Lib.hid (strg_no HD.out HP.out hno)
      clear H2 hb4 hno
      obtain ⟨c0,c1,f1⟩:=H4.out.1.cells
      go_wp2_with fail
      refine (giveUp44 rb _ _ _).mono ?_
      rintro e w' ⟨rfl,rfl⟩
      exact ⟨rfl,pcEnd.bad HE.out H4.out.2⟩
    have hv0:0 ≤ v:=atoi_nonneg ((digs_len HD.out).2 0 (by have:=digs_len HD.out; have:=digs_ok HD.out; omega)) hv
    obtain ⟨m,rfl⟩:∃ m:Nat,v = m:=⟨v.toNat,by omega⟩
    have H4:Hid (RR rb w4 (some ⟨g,o,none⟩) c b j∧Besides rb w w4):=⟨H2.out.1.heap hb4,H2.out.2.trans (Besides.of_below hb4)⟩
    have HV:Hid (Lib.atoiAll d = .ok (m:Int)):=hv
    clear H2 hb4 hv hv0
    obtain ⟨c0,c1,f1⟩:=H4.out.1.cells
    have hm0:m ≤ 9223372036854775807:=by have:=Lib.atoiAll_bounds HV.out; omega
    by_cases hm:b.length - j < m
    · have hm2:((b.length - j:Nat):Int) < (m:Int):=by omega
      have HE:Hid (strg b i = .bad b.length 21):=Lib.hid (strg_far HD.out HP.out HV.out (by omega))
      clear hm
      go_wp2_with fail
      refine (giveUp44 rb _ _ _).mono ?_
      rintro e w' ⟨rfl,rfl⟩
      exact ⟨rfl,pcEnd.bad HE.out H4.out.2⟩
    · have hm2:¬ ((b.length - j:Nat):Int) < (m:Int):=by omega
      have HE:Hid (strg b i = .ok ⟨(cut b j (j + m)).toArray⟩ (j + m)):=Lib.hid (strg_ok HD.out HP.out HV.out (by omega))
      have HN:Hid (RR rb (w4.setCell ⟨rb,1,none⟩ (.int .i64 ((j:Int) + (m:Int)))) (some ⟨g,o,none⟩) c b (j + m)∧Besides rb w (w4.setCell ⟨rb,1,none⟩ (.int .i64 ((j:Int) + (m:Int))))):=by
        have h:=H4.out.1.set (j + m) (by omega)
        rw [show ((j + m:Nat):Int) = (j:Int) + (m:Int) from by omega] at h
        exact ⟨h,H4.out.2.set1⟩
      have hconv:=conv_far (cap:=(c - j)) HN.out.1 (show j + m ≤ b.length by omega) hcj 102 Tryz.underlying102
      have m0:(0:Int) ≤ (m:Int):=by omega
      have m1:(m:Int) ≤ (((c - j):Nat):Int):=by omega
      have m2:m ≤ (c - j):=by omega
      have m3:((j:Int) + (m:Int)) ≤ 1048576:=by omega
      clear H4
      go_wp2
      go_ret
      exact pcEnd.ok HE.out HN.out.2 HN.out.1
theorem ba_ext {x y:ByteArray} (h:x.data.toList = y.data.toList):x = y:=ByteArray.ext (Array.toList_inj.1 h)
theorem numb_sg {b:List UInt8} {i:Nat} (hl:i + 1 < b.length):numb b i = (match digs b 101 (i + 1 + (if byt b (i + 1) = 45 then [45] else []:List UInt8).length) with
  | .bad p e=>.bad p e
  | .ok d j=>match Lib.atoiAll ((if byt b (i + 1) = 45 then [45] else []) ++ d) with
    | .ok n=>if padd d = true ∨ (if byt b (i + 1) = 45 then [45] else []) ++ d = [45,48] then .bad i 23 else .ok n j
    | _=>.bad i 23):=by
  rw [numb,if_neg (by omega)]
  all_goals rfl
theorem numb_no {b:List UInt8} {i j:Nat} {sg d:List UInt8} (hl:i + 1 < b.length) (hs:(if byt b (i + 1) = 45 then [45] else []:List UInt8) = sg) (hd:digs b 101 (i + 1 + sg.length) = .ok d j) (hno:∀ v,Lib.atoiAll (sg ++ d) ≠ .ok v):numb b i = .bad i 23:=by
  rw [numb_sg hl,hs,hd]
  dsimp only
  cases e:Lib.atoiAll (sg ++ d) with
  | ok v=>exact absurd e (hno v)
  | «syntax»=>rfl
  | range=>rfl
theorem numb_bad {b:List UInt8} {i j:Nat} {v:Int} {sg d:List UInt8} (hl:i + 1 < b.length) (hs:(if byt b (i + 1) = 45 then [45] else []:List UInt8) = sg) (hd:digs b 101 (i + 1 + sg.length) = .ok d j) (hv:Lib.atoiAll (sg ++ d) = .ok v) (h:padd d = true ∨ sg ++ d = [45,48]):numb b i = .bad i 23:=by
  rw [numb_sg hl,hs,hd]
  dsimp only
  rw [hv]
  dsimp only
  rw [if_pos h]
theorem numb_ok {b:List UInt8} {i j:Nat} {v:Int} {sg d:List UInt8} (hl:i + 1 < b.length) (hs:(if byt b (i + 1) = 45 then [45] else []:List UInt8) = sg) (hd:digs b 101 (i + 1 + sg.length) = .ok d j) (hv:Lib.atoiAll (sg ++ d) = .ok v) (h:padd d = false) (h':¬ sg ++ d = [45,48]):numb b i = .ok v j:=by
  rw [numb_sg hl,hs,hd]
  dsimp only
  rw [hv]
  dsimp only
  rw [if_neg (by rintro (h1 | h1); rw [h] at h1; cases h1; exact h' h1)]
set_option maxRecDepth 10000 in
set_option maxHeartbeats 1000000 in
theorem number45 (rb:Nat) (a:Option Addr) (c:Nat) (b:List UInt8) (i:Nat) (w:World) (h:RR rb w a c b i) (hi:i < b.length) :
    Calls Tryz.prog 87 #[.pointer (some ⟨rb,0,none⟩)] w fun e w'=>pcEnd (numb b i) rb w w' a c b (fun n=>.iface 101 (.int .i64 n)) e:=by
  obtain ⟨c0,c1,f1⟩:=h.cells
  have hl:=h.2.2.2.1
  have HN:Hid (RR rb (w.setCell ⟨rb,1,none⟩ (.int .i64 ((i:Int) + 1))) a c b (i + 1)∧Besides rb w (w.setCell ⟨rb,1,none⟩ (.int .i64 ((i:Int) + 1)))):=⟨h.set (i + 1) (by omega),(Besides.refl _ _).set1⟩
  clear h
  go_enter Tryz.func87,Tryz.ntmps87
  go_wp2_with fail
  clear c0 c1 f1
  generalize w.setCell ⟨rb,1,none⟩ (.int .i64 ((i:Int) + 1)) = w1 at *
  refine (next43 rb a c b (i + 1) w1 HN.out.1).mono ?_
  rintro e w2 ⟨hb1,⟨hlt,rfl⟩ | ⟨heq,rfl⟩⟩
  case inr =>
    rw [heq]
    exact ⟨rfl,pcEnd.bad (by rw [numb,if_pos (by omega)]) (HN.out.2.trans (Besides.of_below hb1))⟩
  have H1:Hid (RR rb w2 a c b (i + 1)∧Besides rb w w2):=⟨HN.out.1.heap hb1,HN.out.2.trans (Besides.of_below hb1)⟩
  clear HN hb1
  obtain ⟨c0,c1,f1⟩:=H1.out.1.cells
  by_cases hs:byt b (i + 1) = 45
  · rw [hs]
    have H2:Hid (RR rb (w2.setCell ⟨rb,1,none⟩ (.int .i64 ((i:Int) + 1 + 1))) a c b (i + 1 + 1)∧Besides rb w (w2.setCell ⟨rb,1,none⟩ (.int .i64 ((i:Int) + 1 + 1)))):=⟨H1.out.1.set (i + 1 + 1) (by omega),H1.out.2.set1⟩
    go_wp2_with fail
    clear c0 c1 f1 H1
    generalize w2.setCell ⟨rb,1,none⟩ (.int .i64 ((i:Int) + 1 + 1)) = w3 at *
    refine (digits52 rb a c b 101 (i + 1 + 1) w3 H2.out.1).mono ?_
    intro e w4 hp
    obtain ⟨hb1,⟨d,j,hd,rfl,hr1⟩ | ⟨p,er,hd,rfl⟩⟩:=hp.cases
    case inr=>exact ⟨rfl,pcEnd.bad (by simp [numb,hs,hd]; omega) (H2.out.2.trans hb1)⟩
    have hdl:d.length ≤ 1048576:=by have:=digs_len hd; have:=digs_ok hd; omega
    have hq:¬ 9223372036854775807 < 1 + d.length:=by omega
    have H4:Hid (RR rb w4 a c b j∧Besides rb w w4):=⟨hr1,H2.out.2.trans hb1⟩
    have HD:Hid (digs b 101 (i + 1 + 1) = .ok d j):=hd
    have hss:(({ data:=#[45] }:ByteArray) ++ { data:=d.toArray }).data.toList = [45] ++ d:=by simp
    have hsz:(({ data:=#[45] }:ByteArray) ++ { data:=d.toArray }).size = 1 + d.length:=by simp [ByteArray.size]; omega
    clear hp hb1 hd hr1 H2
    go_wp2_with fail
    refine (parseInt53 _ rb w4 (by rw [hsz]; omega) H4.out.1.1.2).mono ?_
    rw [hss]
    rintro e w5 ⟨hb5,⟨v,hv,rfl⟩ | ⟨hno,n,ty,N,rfl⟩⟩
    case inr =>
      have H5:Hid (RR rb w5 a c b j∧Besides rb w w5):=⟨H4.out.1.heap hb5,H4.out.2.trans (Besides.of_below hb5)⟩
      have HE:Hid (numb b i = .bad i 23):=Lib.hid (numb_no (sg:=[45]) (by omega) (if_pos hs) HD.out hno)
      clear H4 hb5 hno
      go_wp2_with fail
      refine (giveUp44 rb _ _ _).mono ?_
      rintro e w' ⟨rfl,rfl⟩
      exact ⟨rfl,pcEnd.bad HE.out H5.out.2⟩
    have H5:Hid (RR rb w5 a c b j∧Besides rb w w5):=⟨H4.out.1.heap hb5,H4.out.2.trans (Besides.of_below hb5)⟩
    have HV:Hid (Lib.atoiAll ([45] ++ d) = .ok v):=hv
    clear H4 hb5 hv
    go_wp2_with fail
    refine (padded54 d w5 (by omega)).mono ?_
    rintro e w6 ⟨rfl,rfl⟩
    by_cases hp:padd d = true
    · rw [hp]
      have HE:Hid (numb b i = .bad i 23):=Lib.hid (numb_bad (sg:=[45]) (by omega) (if_pos hs) HD.out HV.out (.inl hp))
      go_wp2_with fail
      refine (giveUp44 rb _ _ _).mono ?_
      rintro e w' ⟨rfl,rfl⟩
      exact ⟨rfl,pcEnd.bad HE.out H5.out.2⟩
    have hp':padd d = false:=by simpa using hp
    rw [hp']
    by_cases hm:[45] ++ d = [45,48]
    · have HE:Hid (numb b i = .bad i 23):=Lib.hid (numb_bad (sg:=[45]) (by omega) (if_pos hs) HD.out HV.out (.inr hm))
      have hst:((({ data:=#[45] }:ByteArray) ++ { data:=d.toArray }).toList == [45,48]) = true:=by rw [ByteArray.toList_eq,hss,hm]; rfl
      clear hss hsz hm
      go_wp2_with fail
      refine (giveUp44 rb _ _ _).mono ?_
      rintro e w' ⟨rfl,rfl⟩
      exact ⟨rfl,pcEnd.bad HE.out H5.out.2⟩
    · have HE:Hid (numb b i = .ok v j):=Lib.hid (numb_ok (sg:=[45]) (by omega) (if_pos hs) HD.out HV.out hp' hm)
      have hst:((({ data:=#[45] }:ByteArray) ++ { data:=d.toArray }).toList == [45,48]) = false:=by rw [ByteArray.toList_eq,hss]; exact beq_eq_false_iff_ne.2 hm
      clear hss hsz hm
      go_wp2
      go_ret
      exact pcEnd.ok HE.out H5.out.2 H5.out.1
  · have hz:((byt b (i + 1)).toNat:Int) ≠ 45:=u8_ne hs
    go_wp2_with fail
    clear c0 c1 f1
    refine (digits52 rb a c b 101 (i + 1) w2 H1.out.1).mono ?_
    intro e w4 hp
    obtain ⟨hb1,⟨d,j,hd,rfl,hr1⟩ | ⟨p,er,hd,rfl⟩⟩:=hp.cases
    case inr=>exact ⟨rfl,pcEnd.bad (by simp [numb,hs,hd]; omega) (H1.out.2.trans hb1)⟩
    have hdl:d.length ≤ 1048576:=by have:=digs_len hd; have:=digs_ok hd; omega
    have hq:¬ 9223372036854775807 < d.length:=by omega
    have H4:Hid (RR rb w4 a c b j∧Besides rb w w4):=⟨hr1,H1.out.2.trans hb1⟩
    have HD:Hid (digs b 101 (i + 1) = .ok d j):=hd
    have hss:(({ data:=#[] }:ByteArray) ++ { data:=d.toArray }).data.toList = [] ++ d:=by simp
    have hsz:(({ data:=#[] }:ByteArray) ++ { data:=d.toArray }).size = d.length:=by simp [ByteArray.size]
    clear hp hb1 hd hr1 H1
    go_wp2_with fail
    refine (parseInt53 _ rb w4 (by rw [hsz]; omega) H4.out.1.1.2).mono ?_
    rw [hss]
    rintro e w5 ⟨hb5,⟨v,hv,rfl⟩ | ⟨hno,n,ty,N,rfl⟩⟩
    case inr =>
      have H5:Hid (RR rb w5 a c b j∧Besides rb w w5):=⟨H4.out.1.heap hb5,H4.out.2.trans (Besides.of_below hb5)⟩
      have HE:Hid (numb b i = .bad i 23):=Lib.hid (numb_no (sg:=[]) (by omega) (if_neg hs) HD.out hno)
      clear H4 hb5 hno
      go_wp2_with fail
      refine (giveUp44 rb _ _ _).mono ?_
      rintro e w' ⟨rfl,rfl⟩
      exact ⟨rfl,pcEnd.bad HE.out H5.out.2⟩
    have H5:Hid (RR rb w5 a c b j∧Besides rb w w5):=⟨H4.out.1.heap hb5,H4.out.2.trans (Besides.of_below hb5)⟩
    have HV:Hid (Lib.atoiAll ([] ++ d) = .ok v):=hv
    clear H4 hb5 hv
    go_wp2_with fail
    refine (padded54 d w5 (by omega)).mono ?_
    rintro e w6 ⟨rfl,rfl⟩
    by_cases hp:padd d = true
    · rw [hp]
      have HE:Hid (numb b i = .bad i 23):=Lib.hid (numb_bad (sg:=[]) (by omega) (if_neg hs) HD.out HV.out (.inl hp))
      go_wp2_with fail
      refine (giveUp44 rb _ _ _).mono ?_
      rintro e w' ⟨rfl,rfl⟩
      exact ⟨rfl,pcEnd.bad HE.out H5.out.2⟩
    have hp':padd d = false:=by simpa using hp
    rw [hp']
    by_cases hm:[] ++ d = [45,48]
    · have HE:Hid (numb b i = .bad i 23):=Lib.hid (numb_bad (sg:=[]) (by omega) (if_neg hs) HD.out HV.out (.inr hm))
      have hst:((({ data:=#[] }:ByteArray) ++ { data:=d.toArray }).toList == [45,48]) = true:=by rw [ByteArray.toList_eq,hss,hm]; rfl
      clear hss hsz hm
      go_wp2_with fail
      refine (giveUp44 rb _ _ _).mono ?_
      rintro e w' ⟨rfl,rfl⟩
      exact ⟨rfl,pcEnd.bad HE.out H5.out.2⟩
    · have HE:Hid (numb b i = .ok v j):=Lib.hid (numb_ok (sg:=[]) (by omega) (if_neg hs) HD.out HV.out hp' hm)
      have hst:((({ data:=#[] }:ByteArray) ++ { data:=d.toArray }).toList == [45,48]) = false:=by rw [ByteArray.toList_eq,hss]; exact beq_eq_false_iff_ne.2 hm
      clear hss hsz hm
      go_wp2
      go_ret
      exact pcEnd.ok HE.out H5.out.2 H5.out.1
open Go.Shelf Go.RowKit Go.Deep
shelf_lay LaysM.n176 Nm 176 at Tryz as lays176
shelf_lay LaysM.n171 Nm 171 at Tryz as lays171
def BW (B:Nat) (w w':World):Prop:=Below B w w'∧Lib.OthersKept 5 none w w'
theorem BW.refl (B:Nat) (w:World):BW B w w:=⟨Below.refl _ _,Lib.OthersKept.refl _ _ _⟩
theorem BW.trans {B:Nat} {a b c:World} (h:BW B a b) (k:BW B b c):BW B a c:=⟨h.1.trans k.1,h.2.trans k.2⟩
theorem BW.alloc {B:Nat} {a w:World} (h:BW B a w) (hB:B ≤ w.heap.size) (o:Obj):BW B a (w.alloc o):=⟨h.1.alloc hB o,h.2.alloc o⟩
theorem BW.below {B:Nat} {a w w':World} (h:BW B a w) (hB:B ≤ w.heap.size) (hb:Below w.heap.size w w'):BW B a w':=⟨h.1.trans (hb.mono hB),fun k o hk hn hx=>by
  have h1:=h.2 k o hk hn hx
  rw [hb.block k (Array.getElem?_eq_some_iff.1 h1).1]; exact h1⟩
def OW (B:Nat) (w:World) (v:Value) (l:List UInt8):Prop:=w.ownsRow B 5 1 v l.length (Lib.byteCells l)
theorem info5:(Tryz.prog.info? 5).map (fun i=>(i.zero,i.size,i.bytes)) = some (some (.int .u8 0),1,1):=by kernel_rfl
theorem bc_append (a b:List UInt8):Lib.byteCells a ++ Lib.byteCells b = Lib.byteCells (a ++ b):=by simp [Lib.byteCells]
theorem append_byte {ops:Array Oper} {rest:List Oper} {o:Oper} {a:Act} {Q:Exit → Act → World → Prop} {w:World} {B:Nat} {sv:Value} {l:List UInt8} (hgd:o.guard = none) (s x:Operand)
    (ho:o.op = .call { callee:=.builtin .append,args:=#[s,x],argTypes:=#[22,22] }) (hs:a.eval s = sv) (hown:OW B w sv l) (b:Nat) (c:UInt8) (hx:a.eval x = .slice (some ⟨b,0,none⟩) 1 1)
    (hc:w.cell? ⟨b,0,none⟩ = some (.int .u8 c.toNat)) (hB:B ≤ w.heap.size) (hlim:l.length ≤ 140000000000000)
    (h:∀ v' w',OW B w' v' (l ++ [c]) → BW B w w' → wpList Tryz.prog ops Q rest (a.put o.dst v') w'):wpList Tryz.prog ops Q (o :: rest) a w:=by
  obtain ⟨i0,hi,hz0,hz1,hz2⟩:=info_parts info5
  refine wpList_append_own w hgd s x 22 ho B 5 i0 _ 1 1 Tryz.underlying22 hi hz0 hz1 hz2 rfl (by omega) sv l.length (Lib.byteCells l) hs hown ⟨b,0,none⟩ 1 1 [.int .u8 c.toNat] hx rfl (fun j u hu=>?_) (fun u hu=>?_) (by unfold maxLen; omega) (by omega) hB (fun v' w' h1 h2 _=>?_)
  · match j,hu with
    | 0,hu=>simp at hu; subst hu; simpa [Addr.add] using hc
  · simp at hu; subst hu; rfl
  · refine h v' w' ?_ ⟨(Below.refl B w).grown h2 hB (fun k hk=>(World.ownsRow.lt hown k hk).1),(Lib.OthersKept.refl _ _ _).grown h2 (Lib.ownsRow_kind hown)⟩
    have e:Lib.byteCells l ++ [Value.int .u8 c.toNat] = Lib.byteCells (l ++ [c]):=by simp [Lib.byteCells]
    rw [e] at h1
    simpa [OW] using h1
theorem append_str {ops:Array Oper} {rest:List Oper} {o:Oper} {a:Act} {Q:Exit → Act → World → Prop} {w:World} {B:Nat} {sv:Value} {l:List UInt8} (hgd:o.guard = none) (s x:Operand)
    (ho:o.op = .call { callee:=.builtin .append,args:=#[s,x],argTypes:=#[22,102] }) (hs:a.eval s = sv) (hown:OW B w sv l) (c:ByteArray) (hx:a.eval x = .string c)
    (hB:B ≤ w.heap.size) (hlim:l.length + c.size ≤ 140000000000000)
    (h:∀ v' w',OW B w' v' (l ++ c.data.toList) → BW B w w' → wpList Tryz.prog ops Q rest (a.put o.dst v') w'):wpList Tryz.prog ops Q (o :: rest) a w:=by
  obtain ⟨i0,hi,hz0,hz1,hz2⟩:=info_parts info5
  refine Lib.wpList_append_own_string w hgd s x 22 102 ho B 5 i0 Tryz.underlying22 Tryz.underlying102 hi hz0 hz1 hz2 sv l.length (Lib.byteCells l) hs hown c hx (by unfold maxLen; omega) (by omega) hB (fun v' w' h1 h2 _=>?_)
  refine h v' w' ?_ ⟨(Below.refl B w).grown h2 hB (fun k hk=>(World.ownsRow.lt hown k hk).1),(Lib.OthersKept.refl _ _ _).grown h2 (Lib.ownsRow_kind hown)⟩
  have e:Lib.strCells c = Lib.byteCells c.data.toList:=by simp [Lib.strCells,Lib.byteCells]
  rw [e,bc_append] at h1
  have e2:l.length + c.size = (l ++ c.data.toList).length:=by rw [List.length_append,Array.length_toList]; rfl
  rw [e2] at h1
  exact h1
def TB (B : Nat) (w : World) : Prop := Lib.TabBelow Tryz.prog B w "internal/strconv.uint64pow10" .u64 Lib.pow10Tab
theorem appendInt97 (B:Nat) (i:Int) (h0:-9223372036854775808 ≤ i) (h1:i ≤ 9223372036854775807) (sv:Value) (l:List UInt8) (w:World) (hown:OW B w sv l) (hBw:B ≤ w.heap.size) (hlim:l.length ≤ 140000000000000) (htab:TB B w) :
    Calls Tryz.prog 142 #[sv,.int .i64 i,.int .i64 10] w fun e w'=>∃ v',e = .returned v'∧OW B w' v' (l ++ Lib.itoa i)∧BW B w w':=by
  refine (Any.strconv_AppendInt_10 lays176 B l.length i h0 h1 sv (Lib.byteCells l) w hown hBw (by omega) htab).mono ?_
  rintro e w' ⟨v',rfl,h2,h3,h4⟩
  refine ⟨v',rfl,?_,h3,h4⟩
  rw [bc_append, ← List.length_append] at h2
  exact h2
theorem itoa25 (n:Int) (h0:-9223372036854775808 ≤ n) (h1:n ≤ 9223372036854775807) (w:World) (htab:TB w.heap.size w) :
    Calls Tryz.prog 59 #[.int .i64 n] w fun e w'=>e = .returned (.string ⟨(Lib.itoa n).toArray⟩)∧Below w.heap.size w w':=by
  refine (Any.strconv_Itoa lays171 n h0 h1 w htab.here).mono ?_
  rintro e w' ⟨rfl,k,os,rfl⟩
  refine ⟨rfl,rfl,rfl,rfl,?_,fun j hj=>?_⟩
  · show w.heap.size ≤ (w.heap ++ os).size
    simp
  · show (w.heap ++ os)[j]? = w.heap[j]?
    rw [Array.getElem?_append_left hj]
structure BB (B rb:Nat) (w w':World):Prop where
  os:w'.os = w.os
  tape:w'.tape = w.tape
  output:w'.output = w.output
  size:w.heap.size ≤ w'.heap.size
  block:∀ k,k < B → k ≠ rb → w'.heap[k]? = w.heap[k]?
theorem BB.trans {B rb:Nat} {a b c:World} (h:BB B rb a b) (g:BB B rb b c):BB B rb a c:=
  ⟨g.os.trans h.os,g.tape.trans h.tape,g.output.trans h.output,Nat.le_trans h.size g.size,fun k hk hn=>(g.block k hk hn).trans (h.block k hk hn)⟩
theorem BB.of {B rb:Nat} {w w':World} (h:Besides rb w w') (hB:B ≤ w.heap.size):BB B rb w w':=⟨h.os,h.tape,h.output,h.size,fun k hk hn=>h.block k (by omega) hn⟩
theorem BB.alloc {B rb:Nat} {w:World} (hB:B ≤ w.heap.size) (o:Obj):BB B rb w (w.alloc o):=BB.of (Besides.alloc rb w o) hB
theorem BB.grown {B rb:Nat} {w w':World} {r:Option Nat} (h:w.grownBy w' r) (hB:B ≤ w.heap.size) (hr:∀ k,r = some k → B ≤ k):BB B rb w w':=
  ⟨h.os,h.tape,h.output,h.size,fun k hk _=>h.block k (by omega) (fun e=>by have:=hr k e.symm; omega)⟩
theorem BB.besides {rb:Nat} {w w':World} (h:BB w.heap.size rb w w'):Besides rb w w':=⟨h.os,h.tape,h.output,h.size,h.block⟩
def LI (B:Nat) (w:World) (v:Value) (l:List T):Prop:=∃ (us:List Value) (g:Nat),w.ownsRow B 87 1 v l.length us∧v.ownBlock = some g∧∀ k,k < l.length → ∃ u,us[k]? = some u∧RN (fun x=>B ≤ x∧x ≠ g) w (l.getD k .no) u
def DI (B:Nat) (w:World) (v:Value) (l:List (ByteArray × T)):Prop:=∃ (us:List Value) (g:Nat),w.ownsRow B 130 2 v l.length us∧v.ownBlock = some g∧∀ k,k < l.length → ∃ u,us[k * 2]? = some (.string (l.getD k (ByteArray.empty,.no)).1)∧us[k * 2 + 1]? = some u∧RN (fun x=>B ≤ x∧x ≠ g) w (l.getD k (ByteArray.empty,.no)).2 u
theorem own_keep {w w':World} {B e s:Nat} {v:Value} {n:Nat} {us:List Value} (h:w.ownsRow B e s v n us) (hs:∀ x,B ≤ x → x < w.heap.size → w'.heap[x]? = w.heap[x]?):w'.ownsRow B e s v n us:=by
  refine ⟨h.1,?_⟩
  rcases h.2 with h | ⟨g,cap,cur,h1,h2,h3,h4⟩
  · exact .inl h
  · exact .inr ⟨g,cap,cur,h1,h2,(hs g h2 (Array.getElem?_eq_some_iff.1 h3).1).trans h3,h4⟩
theorem LI.keep {B:Nat} {w w':World} {v:Value} {l:List T} (h:LI B w v l) (hz:w.heap.size ≤ w'.heap.size) (hs:∀ x,B ≤ x → x < w.heap.size → w'.heap[x]? = w.heap[x]?):LI B w' v l:=by
  obtain ⟨us,g,h1,h2,h3⟩:=h
  refine ⟨us,g,own_keep h1 hs,h2,fun k hk=>?_⟩
  obtain ⟨u,g1,g2⟩:=h3 k hk
  exact ⟨u,g1,RN.move (fun _ hb _=>hb) hz (fun b hb hl=>hs b hb.1 hl) _ _ g2⟩
theorem DI.keep {B:Nat} {w w':World} {v:Value} {l:List (ByteArray × T)} (h:DI B w v l) (hz:w.heap.size ≤ w'.heap.size) (hs:∀ x,B ≤ x → x < w.heap.size → w'.heap[x]? = w.heap[x]?):DI B w' v l:=by
  obtain ⟨us,g,h1,h2,h3⟩:=h
  refine ⟨us,g,own_keep h1 hs,h2,fun k hk=>?_⟩
  obtain ⟨u,g0,g1,g2⟩:=h3 k hk
  exact ⟨u,g0,g1,RN.move (fun _ hb _=>hb) hz (fun b hb hl=>hs b hb.1 hl) _ _ g2⟩
theorem own_lt {w:World} {B e s n g:Nat} {v:Value} {us:List Value} (h:w.ownsRow B e s v n us) (hg:v.ownBlock = some g):B ≤ g∧g < w.heap.size:=by
  rcases h.2 with ⟨rfl,_⟩ | ⟨g',cap,cur,rfl,h2,h3,_⟩
  · cases hg
  · cases hg; exact ⟨h2,(Array.getElem?_eq_some_iff.1 h3).1⟩
theorem own_form {w:World} {B e s n g:Nat} {v:Value} {us:List Value} (h:w.ownsRow B e s v n us) (hg:v.ownBlock = some g):∃ cap,v = .slice (some ⟨g,0,none⟩) n cap∧∀ k u,us[k]? = some u → w.cell? ⟨g,k,none⟩ = some u:=by
  rcases h.2 with ⟨rfl,_⟩ | ⟨g',cap,cur,rfl,h2,h3,_,_,_,h7⟩
  · cases hg
  · cases hg
    refine ⟨cap,rfl,fun k u hu=>?_⟩
    have hk:k < n * s:=by
      have:=(List.getElem?_eq_some_iff.1 hu).1
      rw [h.1] at this; exact this
    rw [← h7,List.getElem?_take_of_lt hk] at hu
    have h3':blk w _ e cur:=h3
    rw [h3'.cell]
    simpa using hu
theorem LI.node {B:Nat} {w:World} {v:Value} {l:List T} (h:LI B w v l):RN (fun x=>B ≤ x) w (tList l) (.iface 104 v):=by
  obtain ⟨us,g,h1,h2,h3⟩:=h
  obtain ⟨cap,rfl,hc⟩:=own_form h1 h2
  obtain ⟨l1,l2⟩:=own_lt h1 h2
  refine .inr (.inr (.inl ⟨rfl,g,cap,rfl,l1,l2,fun i hi=>?_⟩))
  obtain ⟨u,g1,g2⟩:=h3 i hi
  exact ⟨u,hc i u g1,RN.move (fun _ hb _=>hb.1) (Nat.le_refl _) (fun _ _ _=>rfl) _ _ g2⟩
theorem DI.node {B:Nat} {w:World} {v:Value} {l:List (ByteArray × T)} (h:DI B w v l):RN (fun x=>B ≤ x) w (tDict l) (.iface 107 v):=by
  obtain ⟨us,g,h1,h2,h3⟩:=h
  obtain ⟨cap,rfl,hc⟩:=own_form h1 h2
  obtain ⟨l1,l2⟩:=own_lt h1 h2
  refine .inr (.inr (.inr ⟨rfl,g,cap,rfl,l1,l2,fun i hi=>?_⟩))
  obtain ⟨u,g0,g1,g2⟩:=h3 i hi
  exact ⟨u,hc _ _ g0,hc _ u g1,RN.move (fun _ hb _=>hb.1) (Nat.le_refl _) (fun _ _ _=>rfl) _ _ g2⟩
theorem LI.nil {B:Nat} {w:World} {g:Nat} (hB:B ≤ g) (h:w.heap[g]? = some (.cells #[] 87 (0,0))):LI B w (.slice (some ⟨g,0,none⟩) 0 0) []:=
  ⟨[],g,⟨rfl,.inr ⟨g,0,#[],rfl,hB,h,Nat.le_refl _,Nat.zero_le _,rfl,rfl⟩⟩,rfl,fun _k hk=>absurd hk (Nat.not_lt_zero _)⟩
theorem DI.nil {B:Nat} {w:World} {g:Nat} (hB:B ≤ g) (h:w.heap[g]? = some (.cells #[] 130 (0,0))):DI B w (.slice (some ⟨g,0,none⟩) 0 0) []:=
  ⟨[],g,⟨rfl,.inr ⟨g,0,#[],rfl,hB,h,Nat.le_refl _,Nat.zero_le _,rfl,rfl⟩⟩,rfl,fun _k hk=>absurd hk (Nat.not_lt_zero _)⟩
theorem append_node {ops:Array Oper} {rest:List Oper} {o:Oper} {a:Act} {Q:Exit → Act → World → Prop} {w:World} {B rb:Nat} {v:Value} {l:List T} {t:T} (hgd:o.guard = none) (s x:Operand)
    (ho:o.op = .call { callee:=.builtin .append,args:=#[s,x],argTypes:=#[104,104] }) (hs:a.eval s = v) (hl:LI B w v l) (b:Nat) (u:Value) (hx:a.eval x = .slice (some ⟨b,0,none⟩) 1 1) (hc:w.cell? ⟨b,0,none⟩ = some u)
    (hu:RN (fun x=>B ≤ x∧some x ≠ v.ownBlock) w t u) (hB:B ≤ w.heap.size) (hlim:l.length ≤ 2097152)
    (h:∀ v' w',LI B w' v' (l ++ [t]) → BB B rb w w' → (∀ k,k < w.heap.size → k < B → w'.heap[k]? = w.heap[k]?) → wpList Tryz.prog ops Q rest (a.put o.dst v') w'):wpList Tryz.prog ops Q (o :: rest) a w:=by
  obtain ⟨i0,hi,hz0,hz1,hz2⟩:=info_parts info55
  obtain ⟨us,g,h1,h2,h3⟩:=hl
  have hone:u.oneCell' = true:=by
    obtain ⟨ty,uu,rfl⟩:=hu.iface; rfl
  obtain ⟨v',w',hr,hown',hgrow,_,hatb⟩:=run_append_own_at (P:=Tryz.prog) w B 104 o.type 87 i0 _ 1 16 Tryz.underlying104 hi hz0 hz1 hz2 rfl (by omega) v l.length us h1 ⟨b,0,none⟩ 1 1 [u] rfl
    (fun j u' hu'=>by
      match j,hu' with
      | 0,hu'=>simp at hu'; subst hu'; simpa [Addr.add] using hc) (fun u' hu'=>by simp at hu'; subst hu'; exact hone) (by unfold maxLen; omega) (by omega) hB
  obtain ⟨gl,gh⟩:=own_lt h1 h2
  have hfr:∀ k,k < w.heap.size → k ≠ g → w'.heap[k]? = w.heap[k]?:=fun k hk hn=>hgrow.block k hk (fun e=>hn (by rw [h2] at e; cases e; rfl))
  refine Lib.wpList_append_run w hgd s x 104 104 ho v _ hs hx v' w' hr (h v' w' ?_ (BB.grown hgrow hB (fun k hk=>by rw [h2] at hk; cases hk; exact gl)) (fun k hk hkB=>hfr k hk (by omega)))
  have hg':∃ g',v'.ownBlock = some g'∧(g' = g ∨ g' = w.heap.size):=by
    rcases hatb with h | h
    · exact ⟨g,h.trans h2,.inl rfl⟩
    · exact ⟨_,h,.inr rfl⟩
  obtain ⟨g',e1,e2⟩:=hg'
  refine ⟨us ++ [u],g',by simpa using hown',e1,fun k hk=>?_⟩
  have hul:us.length = l.length:=by simpa using h1.1
  by_cases hkl:k < l.length
  · obtain ⟨u',q1,q2⟩:=h3 k hkl
    refine ⟨u',by rw [List.getElem?_append_left (by omega)]; exact q1,?_⟩
    rw [show (l ++ [t]).getD k .no = l.getD k .no from by simp [List.getD,List.getElem?_append_left hkl]]
    exact RN.move (fun b hb hbl=>⟨hb.1,by have:=hb.2; omega⟩) hgrow.size (fun b hb hbl=>hfr b hbl hb.2) _ _ q2
  · obtain rfl:k = l.length:=by simp at hk; omega
    refine ⟨u,by rw [List.getElem?_append_right (by omega)]; simp [hul],?_⟩
    rw [show (l ++ [t]).getD l.length .no = t from by simp [List.getD]]
    exact RN.move (fun b hb hbl=>⟨hb.1,by have:b ≠ g:=fun e=>hb.2 (by rw [h2,e]); omega⟩) hgrow.size (fun b hb hbl=>hfr b hbl (fun e=>hb.2 (by rw [h2,e]))) _ _ hu
theorem append_entry {ops:Array Oper} {rest:List Oper} {o:Oper} {a:Act} {Q:Exit → Act → World → Prop} {w:World} {B rb:Nat} {v:Value} {l:List (ByteArray × T)} {t:T} {key:ByteArray} (hgd:o.guard = none) (s x:Operand)
    (ho:o.op = .call { callee:=.builtin .append,args:=#[s,x],argTypes:=#[107,107] }) (hs:a.eval s = v) (hl:DI B w v l) (b:Nat) (u:Value) (hx:a.eval x = .slice (some ⟨b,0,none⟩) 1 1) (hc0:w.cell? ⟨b,0,none⟩ = some (.string key)) (hc:w.cell? ⟨b,1,none⟩ = some u)
    (hu:RN (fun x=>B ≤ x∧some x ≠ v.ownBlock) w t u) (hB:B ≤ w.heap.size) (hlim:l.length ≤ 2097152)
    (h:∀ v' w',DI B w' v' (l ++ [(key,t)]) → BB B rb w w' → (∀ k,k < w.heap.size → k < B → w'.heap[k]? = w.heap[k]?) → wpList Tryz.prog ops Q rest (a.put o.dst v') w'):wpList Tryz.prog ops Q (o :: rest) a w:=by
  obtain ⟨i0,hi,hz0,hz1,hz2⟩:=info_parts info57
  obtain ⟨us,g,h1,h2,h3⟩:=hl
  have hone:u.oneCell' = true:=by
    obtain ⟨ty,uu,rfl⟩:=hu.iface; rfl
  obtain ⟨v',w',hr,hown',hgrow,_,hatb⟩:=run_append_own_at (P:=Tryz.prog) w B 107 o.type 130 i0 _ 2 32 Tryz.underlying107 hi hz0 hz1 hz2 rfl (by omega) v l.length us h1 ⟨b,0,none⟩ 1 1 [.string key,u] rfl
    (fun j u' hu'=>by
      match j,hu' with
      | 0,hu'=>simp at hu'; subst hu'; simpa [Addr.add] using hc0
      | 1,hu'=>simp at hu'; subst hu'; simpa [Addr.add] using hc) (fun u' hu'=>by simp at hu'; rcases hu' with rfl | rfl; rfl; exact hone) (by unfold maxLen; omega) (by omega) hB
  obtain ⟨gl,gh⟩:=own_lt h1 h2
  have hfr:∀ k,k < w.heap.size → k ≠ g → w'.heap[k]? = w.heap[k]?:=fun k hk hn=>hgrow.block k hk (fun e=>hn (by rw [h2] at e; cases e; rfl))
  refine Lib.wpList_append_run w hgd s x 107 107 ho v _ hs hx v' w' hr (h v' w' ?_ (BB.grown hgrow hB (fun k hk=>by rw [h2] at hk; cases hk; exact gl)) (fun k hk hkB=>hfr k hk (by omega)))
  have hg':∃ g',v'.ownBlock = some g'∧(g' = g ∨ g' = w.heap.size):=by
    rcases hatb with h | h
    · exact ⟨g,h.trans h2,.inl rfl⟩
    · exact ⟨_,h,.inr rfl⟩
  obtain ⟨g',e1,e2⟩:=hg'
  refine ⟨us ++ [.string key,u],g',by simpa using hown',e1,fun k hk=>?_⟩
  have hul:us.length = l.length * 2:=by simpa using h1.1
  by_cases hkl:k < l.length
  · obtain ⟨u',q0,q1,q2⟩:=h3 k hkl
    have e3:(l ++ [(key,t)]).getD k (ByteArray.empty,.no) = l.getD k (ByteArray.empty,.no):=by simp [List.getD,List.getElem?_append_left hkl]
    rw [e3]
    exact ⟨u',by rw [List.getElem?_append_left (by omega)]; exact q0,by rw [List.getElem?_append_left (by omega)]; exact q1,RN.move (fun b hb hbl=>⟨hb.1,by have:=hb.2; omega⟩) hgrow.size (fun b hb hbl=>hfr b hbl hb.2) _ _ q2⟩
  · obtain rfl:k = l.length:=by simp at hk; omega
    have e3:(l ++ [(key,t)]).getD l.length (ByteArray.empty,.no) = (key,t):=by simp [List.getD]
    rw [e3]
    exact ⟨u,by rw [List.getElem?_append_right (by omega)]; simp [hul],by rw [List.getElem?_append_right (by omega)]; simp [hul],
      RN.move (fun b hb hbl=>⟨hb.1,by have:b ≠ g:=fun e=>hb.2 (by rw [h2,e]); omega⟩) hgrow.size (fun b hb hbl=>hfr b hbl (fun e=>hb.2 (by rw [h2,e]))) _ _ hu⟩
def TOK (t:T):Prop:=t.small∧VT t∧t.ok
theorem eL:ByteArray.empty.toList = []:=by rw [ByteArray.toList_eq]; rfl
theorem tok_num (n:Int):TOK (tNum n):=
  ⟨⟨Nat.zero_le _,Nat.zero_le _,fun i hi=>absurd hi (Nat.not_lt_zero _),fun i hi=>absurd hi (Nat.not_lt_zero _)⟩,⟨(ownB_iff _ _ _ _ _).2 ⟨by omega,by omega,.inl rfl,.inr eL,.inr rfl,.inr rfl⟩,fun i hi=>absurd hi (Nat.not_lt_zero _),fun i hi=>absurd hi (Nat.not_lt_zero _)⟩,Nat.zero_le _,Nat.zero_le _,Nat.zero_le _,fun i hi=>absurd hi (Nat.not_lt_zero _),fun i hi=>absurd hi (Nat.not_lt_zero _)⟩
theorem tok_str (s:ByteArray) (hs:s.size ≤ 1048576):TOK (tStr s):=
  ⟨⟨Nat.zero_le _,Nat.zero_le _,fun i hi=>absurd hi (Nat.not_lt_zero _),fun i hi=>absurd hi (Nat.not_lt_zero _)⟩,⟨(ownB_iff _ _ _ _ _).2 ⟨by omega,by omega,.inr rfl,.inl rfl,.inr rfl,.inr rfl⟩,fun i hi=>absurd hi (Nat.not_lt_zero _),fun i hi=>absurd hi (Nat.not_lt_zero _)⟩,(by show s.size ≤ 140737488351232; omega),Nat.zero_le _,Nat.zero_le _,fun i hi=>absurd hi (Nat.not_lt_zero _),fun i hi=>absurd hi (Nat.not_lt_zero _)⟩
theorem tok_list (l:List T) (hl:l.length ≤ 1048576) (h:∀ k,k < l.length → TOK (l.getD k .no)):TOK (tList l):=
  ⟨⟨(by show l.length ≤ 2147483647; omega),Nat.zero_le _,fun i hi=>(h i hi).1,fun i hi=>absurd hi (Nat.not_lt_zero _)⟩,⟨(ownB_iff _ _ _ _ _).2 ⟨by omega,by omega,.inr rfl,.inr eL,.inl rfl,.inr rfl⟩,fun i hi=>(h i hi).2.1,fun i hi=>absurd hi (Nat.not_lt_zero _)⟩,Nat.zero_le _,(by show l.length ≤ 140737488351232; omega),Nat.zero_le _,fun i hi=>(h i hi).2.2,fun i hi=>absurd hi (Nat.not_lt_zero _)⟩
def DOK (l:List (ByteArray × T)):Prop:=l.length ≤ 1048576∧∀ k,k < l.length → (l.getD k (ByteArray.empty,.no)).1.size ≤ 1048576∧TOK (l.getD k (ByteArray.empty,.no)).2∧keyBad (fun i=>(l.getD i (ByteArray.empty,.no)).1) k = false
theorem tok_dict (l:List (ByteArray × T)) (h:DOK l):TOK (tDict l):=by
  obtain ⟨hl,h⟩:=h
  exact ⟨⟨Nat.zero_le _,(by show l.length ≤ 2147483647; omega),fun i hi=>absurd hi (Nat.not_lt_zero _),fun i hi=>(h i hi).2.1.1⟩,⟨(ownB_iff _ _ _ _ _).2 ⟨by omega,by omega,.inr rfl,.inr eL,.inr rfl,.inl rfl⟩,fun i hi=>absurd hi (Nat.not_lt_zero _),fun i hi=>⟨(h i hi).2.2,(h i hi).2.1.2.1⟩⟩,Nat.zero_le _,Nat.zero_le _,(by show l.length ≤ 140737488351232; omega),fun i hi=>absurd hi (Nat.not_lt_zero _),fun i hi=>⟨Nat.le_trans (h i hi).1 (by omega),(h i hi).2.1.2.2⟩⟩
theorem dok_nil:DOK []:=⟨Nat.zero_le _,fun _k hk=>absurd hk (Nat.not_lt_zero _)⟩
theorem getD_snoc_lt {α:Type} (l:List α) (x d:α) {k:Nat} (h:k < l.length):(l ++ [x]).getD k d = l.getD k d:=by simp [List.getD,List.getElem?_append_left h]
theorem getD_snoc_eq {α:Type} (l:List α) (x d:α):(l ++ [x]).getD l.length d = x:=by simp [List.getD]
theorem dok_snoc {l:List (ByteArray × T)} {key:ByteArray} {t:T} (h:DOK l) (hl:l.length < 1048576) (hk:key.size ≤ 1048576) (ht:TOK t) (hr:l ≠ [] → leB key (l.getLastD (ByteArray.empty,.no)).1 = false):DOK (l ++ [(key,t)]):=by
  refine ⟨by simp; omega,fun k hk'=>?_⟩
  by_cases e:k < l.length
  · obtain ⟨h1,h2,h3⟩:=h.2 k e
    refine ⟨by rw [getD_snoc_lt _ _ _ e]; exact h1,by rw [getD_snoc_lt _ _ _ e]; exact h2,?_⟩
    cases k with
    | zero=>rfl
    | succ k =>
      show leB ((l ++ [(key,t)]).getD (k + 1) (ByteArray.empty,.no)).1 ((l ++ [(key,t)]).getD k (ByteArray.empty,.no)).1 = false
      rw [getD_snoc_lt _ _ _ e,getD_snoc_lt _ _ _ (by omega)]
      exact h3
  · obtain rfl:k = l.length:=by simp at hk'; omega
    refine ⟨by rw [getD_snoc_eq]; exact hk,by rw [getD_snoc_eq]; exact ht,?_⟩
    cases hn:l.length with
    | zero=>rfl
    | succ m =>
      show leB ((l ++ [(key,t)]).getD (m + 1) (ByteArray.empty,.no)).1 ((l ++ [(key,t)]).getD m (ByteArray.empty,.no)).1 = false
      rw [← hn,getD_snoc_eq,getD_snoc_lt _ _ _ (by omega)]
      have:=hr (by intro e; rw [e] at hn; cases hn)
      rw [show l.getLastD (ByteArray.empty,.no) = l.getD m (ByteArray.empty,.no) from by rw [List.getLastD_eq_getLast?,List.getLast?_eq_getElem?,hn]; rfl] at this
      exact this
theorem RR.low {rb:Nat} {w0 w w':World} {a:Option Addr} {c:Nat} {b:List UInt8} {i0 j:Nat} (h0:RR rb w0 a c b i0) (h:RR rb w a c b j) (hs:w0.heap.size ≤ w'.heap.size) (hk:∀ k,k < w0.heap.size → w'.heap[k]? = w.heap[k]?):RR rb w' a c b j:=by
  obtain ⟨⟨x1,y1,y2,⟨t1,p1,y3⟩,⟨t2,p2,y4⟩⟩,x2,x3,x4,x5⟩:=h0
  obtain ⟨⟨z1,u1,u2,⟨t3,p3,u3⟩,⟨t4,p4,u4⟩⟩,z2,z3,z4,z5⟩:=h
  refine ⟨⟨z1.keep (hk _ x1.lt),u1,u2,⟨t3,p3,(World.cell?_of_block (w:=w) (hk 3 (World.block_lt_of_cell? w0 _ y3))).trans u3⟩,⟨t4,p4,(World.cell?_of_block (w:=w) (hk 4 (World.block_lt_of_cell? w0 _ y4))).trans u4⟩⟩,z2,z3,z4,?_⟩
  rcases z5 with h | ⟨g,o,rfl,h2,h3,h4⟩
  · exact .inl h
  · rcases x5 with h | ⟨g',o',e,k2,k3,k4⟩
    · exact .inl h
    · cases e
      exact .inr ⟨g,o,rfl,h2,Nat.lt_of_lt_of_le k3 hs,fun k hk'=>(World.cell?_of_block (w:=w) (hk g k3)).trans (h4 k hk')⟩
def ready (b:List UInt8) (st:List Fr) (i:Nat):Prop:=match st with
  | []=>True
  | f :: _=>(f.d = true∧f.has = true) ∨ (f.d = false∧i < b.length∧byt b i ≠ 101)
theorem step_end {b:List UInt8} {st:List Fr} {i:Nat} (h:b.length ≤ i):step b st i = .bad b.length 21:=by unfold step; rw [if_pos h]
theorem step_ready {b:List UInt8} {st:List Fr} {i:Nat} (h:ready b st i) (hi:i < b.length):step b st i = opn b st i:=by
  unfold step; rw [if_neg (by omega)]
  cases st with
  | nil=>rfl
  | cons f r =>
    dsimp only
    rcases h with ⟨h1,h2⟩ | ⟨h1,_,h3⟩
    · rw [if_neg (by simp [h1,h2]),if_neg (by simp [h1])]
    · rw [if_neg (by simp [h1]),if_neg (by simp [h3])]
def valEnd (b:List UInt8) (st:List Fr) (i rb:Nat) (w w':World) (a:Option Addr) (c:Nat) (f:Value → Value) (e:Ending):Prop:=
  Besides rb w w'∧((∃ t u j,e = .returned u∧RN (fun x=>w.heap.size ≤ x) w' t (f u)∧RR rb w' a c b j∧i < j∧Run b (.go st i) (deliver st t j)∧TOK t) ∨ ∃ (p:Nat) (er:Int),e = pnc p er∧Run b (.go st i) (.bad p er))
theorem valEnd.bad {b:List UInt8} {st:List Fr} {i rb:Nat} {w w':World} {a:Option Addr} {c:Nat} {f:Value → Value} {p:Nat} {er:Int} (h:Besides rb w w') (hr:Run b (.go st i) (.bad p er)):valEnd b st i rb w w' a c f (pnc p er):=⟨h,.inr ⟨p,er,rfl,hr⟩⟩
theorem valEnd.ok {b:List UInt8} {st:List Fr} {i j rb:Nat} {w w':World} {a:Option Addr} {c:Nat} {f:Value → Value} {t:T} {u:Value} (h:Besides rb w w') (h1:RN (fun x=>w.heap.size ≤ x) w' t (f u)) (h2:RR rb w' a c b j) (h3:i < j) (hr:Run b (.go st i) (deliver st t j)) (ht:TOK t):valEnd b st i rb w w' a c f (.returned u):=⟨h,.inl ⟨t,u,j,rfl,h1,h2,h3,hr,ht⟩⟩
def VVc (b:List UInt8) (N:Nat):Prop:=∀ (rb:Nat) (a:Option Addr) (c:Nat) (st:List Fr) (i:Nat) (w:World),b.length - i < N → RR rb w a c b i → st.length ≤ 32 → ready b st i →
  Calls Tryz.prog 79 #[.pointer (some ⟨rb,0,none⟩),.int .i64 (st.length:Int)] w fun e w'=>valEnd b st i rb w w' a c (fun u=>u) e
theorem step_list {b:List UInt8} {st:List Fr} {l:List T} {j:Nat} (hj:j < b.length) (hx:byt b j = 101):step b ({ d:=false,ls:=l } :: st) j = deliver st (tList l) (j + 1):=by
  unfold step; rw [if_neg (by omega)]
  dsimp only
  rw [if_neg (by simp),if_pos ⟨rfl,hx⟩]
  rfl
set_option maxRecDepth 10000 in
set_option maxHeartbeats 2000000 in
theorem list48 (b:List UInt8) (N:Nat) (ih:VVc b N) (rb:Nat) (a:Option Addr) (c:Nat) (st:List Fr) (i:Nat) (w:World) (hN:b.length - i ≤ N) (h:RR rb w a c b i) (hi:i < b.length) (hst:st.length < 32) (hrd:ready b st i) (hx:byt b i = 108) :
    Calls Tryz.prog 90 #[.pointer (some ⟨rb,0,none⟩),.int .i64 (st.length:Int)] w fun e w'=>valEnd b st i rb w w' a c (.iface 104) e:=by
  obtain ⟨c0,c1,f1⟩:=h.cells
  have hl:=h.2.2.2.1
  have hrb:rb < w.heap.size:=h.1.1.lt
  have HI:=Lib.hid ih
  have H0:=Lib.hid h
  have HR1:Hid (Run b (.go st i) (.go ({ d:=false } :: st) (i + 1))):=Lib.hid (Run.one (by rw [step_ready hrd hi,opn,if_pos hx,if_neg (by omega)]))
  have HN:Hid (RR rb ((w.setCell ⟨rb,1,none⟩ (.int .i64 ((i:Int) + 1))).alloc (Obj.cells #[] 87)) a c b (i + 1)∧BB w.heap.size rb w ((w.setCell ⟨rb,1,none⟩ (.int .i64 ((i:Int) + 1))).alloc (Obj.cells #[] 87))∧LI w.heap.size ((w.setCell ⟨rb,1,none⟩ (.int .i64 ((i:Int) + 1))).alloc (Obj.cells #[] 87)) (.slice (some ⟨w.heap.size,0,none⟩) 0 0) []):=by
    have e:(w.setCell ⟨rb,1,none⟩ (.int .i64 ((i:Int) + 1))).heap.size = w.heap.size:=by simp [World.setCell]
    have hs:=h.set (i + 1) (by omega)
    refine ⟨hs.heap ((Below.refl _ _).alloc (Nat.le_refl _) _),(BB.of (Besides.refl rb w).set1 (Nat.le_refl _)).trans (BB.alloc (by rw [e]; exact Nat.le_refl _) _),LI.nil (Nat.le_refl _) ?_⟩
    have:=heap_new (w.setCell ⟨rb,1,none⟩ (.int .i64 ((i:Int) + 1))) (Obj.cells #[] 87)
    rw [e] at this
    exact this
  clear h ih hrd hx
  go_enter Tryz.func90,Tryz.ntmps90
  go_wp2
  clear c0 c1 f1
  generalize (w.setCell ⟨rb,1,none⟩ (.int .i64 ((i:Int) + 1))).alloc (Obj.cells #[] 87) = w1 at *
  go_loopw [5] (fun v wr=>∃ (l:List T) (j:Nat),Hid (LI w.heap.size wr v l∧RR rb wr a c b j∧BB w.heap.size rb w wr∧i < j∧l.length ≤ j∧(∀ k,k < l.length → TOK (l.getD k .no))∧Run b (.go st i) (.go ({ d:=false,ls:=l } :: st) j))) (fun _ wr=>b.length - atOf wr rb)
  case atStart=>exact ⟨[],i + 1,HN.out.2.2,HN.out.1,HN.out.2.1,Nat.lt_succ_self _,Nat.zero_le _,fun k hk=>absurd hk (Nat.not_lt_zero _),HR1.out⟩
  case round =>
    clear HN HR1
    obtain ⟨l,j,HO⟩:=hrel
    have hmer:=HO.out.2.1.atOf
    have hjn:=HO.out.2.1.2.1
    have hij:=HO.out.2.2.2.1
    have hlj:=HO.out.2.2.2.2.1
    go_wp2_with fail
    refine (next43 rb a c b j wr HO.out.2.1).mono ?_
    rintro e w2 ⟨hb1,⟨hlt,rfl⟩ | ⟨heq,rfl⟩⟩
    case inr =>
      rw [heq]
      exact ⟨rfl,valEnd.bad (BB.besides (HO.out.2.2.1.trans (BB.of (Besides.of_below hb1) HO.out.2.2.1.size))) (HO.out.2.2.2.2.2.2.trans (Run.one (step_end (by omega))))⟩
    have HP:Hid (LI w.heap.size w2 u5 l∧RR rb w2 a c b j∧BB w.heap.size rb w w2∧(∀ k,k < l.length → TOK (l.getD k .no))∧Run b (.go st i) (.go ({ d:=false,ls:=l } :: st) j)):=
      ⟨HO.out.1.keep hb1.size (fun x _ hx=>hb1.block x hx),HO.out.2.1.heap hb1,HO.out.2.2.1.trans (BB.of (Besides.of_below hb1) HO.out.2.2.1.size),HO.out.2.2.2.2.2.1,HO.out.2.2.2.2.2.2⟩
    clear HO hb1
    obtain ⟨g,cap,rfl⟩:∃ g cap,u5 = .slice (some ⟨g,0,none⟩) l.length cap:=by
      obtain ⟨us,g,q1,q2,_⟩:=HP.out.1
      obtain ⟨cap,rfl,_⟩:=own_form q1 q2
      exact ⟨g,cap,rfl⟩
    by_cases hx:byt b j = 101
    · rw [hx]
      obtain ⟨c0,c1,f1⟩:=HP.out.2.1.cells
      have HE:Hid (valEnd b st i rb w (w2.setCell ⟨rb,1,none⟩ (.int .i64 ((j:Int) + 1))) a c (.iface 104) (.returned (.slice (some ⟨g,0,none⟩) l.length cap))):=by
        obtain ⟨q1,q2,q3,q4,q5⟩:=HP.out
        have e:(w2.setCell ⟨rb,1,none⟩ (.int .i64 ((j:Int) + 1))).heap.size = w2.heap.size:=by simp [World.setCell]
        exact Lib.hid (valEnd.ok (BB.besides (q3.trans (BB.of (Besides.refl rb w2).set1 q3.size))) (LI.keep q1 (by rw [e]; exact Nat.le_refl _) (fun x hx _=>Below.heap_setCell _ _ _ _ (by show x ≠ rb; omega))).node (q2.set (j + 1) (by omega)) (by omega) (q5.trans (Run.one (step_list hlt hx))) (tok_list l (by omega) q4))
      clear HP
      go_wp2
      go_ret
      exact HE.out
    · have hz:((byt b j).toNat:Int) ≠ 101:=u8_ne hx
      have HV:=HI.out rb a c ({ d:=false,ls:=l } :: st) j w2 (by omega) HP.out.2.1 (by simp; omega) (.inr ⟨rfl,hlt,hx⟩)
      rw [show ((({ d:=false,ls:=l }:Fr) :: st).length:Int) = (st.length:Int) + 1 from by simp] at HV
      have HVH:=Lib.hid HV
      clear HV
      go_wp2_with fail
      refine HVH.out.mono ?_
      clear HVH
      rintro e w3 ⟨hb3,⟨t,u,j2,rfl,hrn,hrr,hlt2,hrun,htok⟩ | ⟨p,er,rfl,hrun⟩⟩
      case inr=>exact ⟨rfl,valEnd.bad (BB.besides (HP.out.2.2.1.trans (BB.of hb3 HP.out.2.2.1.size))) (HP.out.2.2.2.2.trans hrun)⟩
      obtain ⟨ty,uu,rfl⟩:=hrn.iface
      have hB3:w.heap.size ≤ w3.heap.size:=Nat.le_trans HP.out.2.2.1.size hb3.size
      have hli:LI w.heap.size (w3.alloc (Obj.cells #[.iface ty uu] 87)) (.slice (some ⟨g,0,none⟩) l.length cap) l:=
        (HP.out.1.keep hb3.size (fun x hx1 hx2=>hb3.block x hx2 (by omega))).keep (by simp) (fun x _ hx2=>Below.heap_alloc _ _ _ hx2)
      have hrn':RN (fun x=>w.heap.size ≤ x∧some x ≠ (Value.slice (some ⟨g,0,none⟩) l.length cap).ownBlock) (w3.alloc (Obj.cells #[.iface ty uu] 87)) t (.iface ty uu):=by
        obtain ⟨us,g',q1,q2,_⟩:=HP.out.1
        have q3:=own_lt q1 q2
        cases q2
        refine RN.move (fun x hx _=>⟨Nat.le_trans HP.out.2.2.1.size hx,fun e=>?_⟩) (by simp) (fun x _ hx2=>Below.heap_alloc _ _ _ hx2) _ _ hrn
        have h5:x = g:=by cases e; rfl
        have h6:g < w2.heap.size:=q3.2
        omega
      have HQ:Hid (RR rb w3 a c b j2∧BB w.heap.size rb w w3∧j < j2∧(∀ k,k < (l ++ [t]).length → TOK ((l ++ [t]).getD k .no))∧Run b (.go st i) (.go ({ d:=false,ls:=l ++ [t] } :: st) j2)):=by
        obtain ⟨_,_,q3,q4,q5⟩:=HP.out
        refine ⟨hrr,q3.trans (BB.of hb3 q3.size),hlt2,fun k hk=>?_,q5.trans hrun⟩
        by_cases e:k < l.length
        · rw [getD_snoc_lt _ _ _ e]; exact q4 k e
        · obtain rfl:k = l.length:=by simp at hk; omega
          rw [getD_snoc_eq]; exact htok
      have hll:l.length ≤ 2097152:=by omega
      clear hrn hrr hrun htok hb3 HP
      go_wp2_with (at_builtin; refine append_node (rb:=rb) (B:=w.heap.size) (t:=t) rfl _ _ rfl rfl hli _ (.iface ty uu) rfl (by go_simp) hrn' (by simp; omega) hll ?_)
      intro v' w4 hl4 hb4 hf4
      have HZ:Hid (LI w.heap.size w4 v' (l ++ [t])∧RR rb w4 a c b j2∧BB w.heap.size rb w w4∧i < j2∧(l ++ [t]).length ≤ j2∧(∀ k,k < (l ++ [t]).length → TOK ((l ++ [t]).getD k .no))∧Run b (.go st i) (.go ({ d:=false,ls:=l ++ [t] } :: st) j2)):=by
        obtain ⟨q1,q2,q3,q4,q5⟩:=HQ.out
        have hz5:(w3.alloc (Obj.cells #[.iface ty uu] 87)).heap.size = w3.heap.size + 1:=by simp
        have hz6:=hb4.size
        refine ⟨hl4,H0.out.low q1 (by omega) (fun k hk=>(hf4 k (by omega) hk).trans (Below.heap_alloc _ _ _ (by omega))),(q2.trans (BB.alloc hB3 _)).trans hb4,by omega,by simp; omega,q4,q5⟩
      have hme2:=HZ.out.2.1.atOf
      have hj2:=HQ.out.2.2.1
      have hj3:=HQ.out.1.2.1
      clear HQ hl4 hb4 hf4 hli hrn'
      go_wp2
      go_roundw
      case rel=>exact ⟨l ++ [t],j2,HZ⟩
      case measure=>rw [hmer,hme2]; omega
def lastK (l:List (ByteArray × T)):ByteArray:=(l.getLastD (ByteArray.empty,.no)).1
def keyP (b:List UInt8) (l:List (ByteArray × T)) (i:Nat):Pc ByteArray:=
  match strg b i with
  | .bad p e=>.bad p e
  | .ok s j=>if l ≠ []∧leB s (lastK l) = true then .bad i 25 else .ok s j
theorem strg_nodig {b:List UInt8} {i:Nat} (hi:i < b.length) (hd:dig (byt b i) = false):strg b i = .bad i 22:=by
  have hr:run b i = 0:=by
    rcases Nat.eq_zero_or_pos (run b i) with h | h
    · exact h
    · have:=(run_lt h).2
      simp only [Nat.add_zero] at this
      rw [hd] at this; cases this
  have hdg:digs b 58 i = .bad i 22:=by
    unfold digs
    rw [hr,if_neg (by omega),if_pos (.inl rfl)]
    rfl
  unfold strg
  rw [hdg]
theorem keyy_eq {b:List UInt8} {f:Fr} {r:List Fr} {i:Nat} (hi:i < b.length):keyy b f r i = match keyP b f.ps i with
    | .bad p e=>.bad p e
    | .ok s j=>.go ({ f with key:=s,has:=true } :: r) j:=by
  unfold keyy keyP
  by_cases hd:dig (byt b i) = false
  · rw [if_pos hd,strg_nodig hi hd]
  · rw [if_neg hd]
    cases strg b i with
    | bad p e=>rfl
    | ok s j =>
      dsimp only
      show (if f.ps ≠ []∧leB s (lastK f.ps) = true then Out.bad i 25 else Out.go ({ f with key:=s,has:=true } :: r) j) = _
      by_cases h:f.ps ≠ []∧leB s (lastK f.ps) = true
      · rw [if_pos h,if_pos h]
      · rw [if_neg h,if_neg h]
theorem DI.last {B:Nat} {w:World} {g cap n:Nat} {l:List (ByteArray × T)} (h:DI B w (.slice (some ⟨g,0,none⟩) n cap) l) (hn:l ≠ []):w.cell? ⟨g,(l.length - 1) * 2,none⟩ = some (.string (lastK l)):=by
  obtain ⟨us,g',q1,q2,q3⟩:=h
  obtain ⟨cap',_,hc⟩:=own_form q1 q2
  cases q2
  have hl:0 < l.length:=List.length_pos_iff.2 hn
  obtain ⟨u,g0,_⟩:=q3 (l.length - 1) (by omega)
  have:=hc _ _ g0
  rw [this]
  unfold lastK
  rw [List.getLastD_eq_getLast?,List.getLast?_eq_getElem?]
  rfl
set_option maxRecDepth 10000 in
set_option maxHeartbeats 1000000 in
theorem key56 (rb:Nat) (a:Option Addr) (c:Nat) (b:List UInt8) (i B g cap:Nat) (l:List (ByteArray × T)) (w:World) (h:RR rb w a c b i) (hd:DI B w (.slice (some ⟨g,0,none⟩) l.length cap) l) (hrb:rb < B) (hlen:l.length ≤ 1048576) :
    Calls Tryz.prog 103 #[.pointer (some ⟨rb,0,none⟩),.slice (some ⟨g,0,none⟩) l.length cap] w fun e w'=>pcEnd (keyP b l i) rb w w' a c b (fun s=>.string s) e:=by
  obtain ⟨c0,c1,f1⟩:=h.cells
  have HR:=Lib.hid h
  have HD:=Lib.hid hd
  clear h hd
  go_enter Tryz.func103,Tryz.ntmps103
  go_wp2_with fail
  clear c0 c1 f1
  refine (word47 rb a c b i w HR.out).mono ?_
  intro e w1 hp
  obtain ⟨hb1,⟨s,j,hd,rfl,hr1⟩ | ⟨p,er,hd,rfl⟩⟩:=hp.cases
  case inr=>exact ⟨rfl,pcEnd.bad (by rw [keyP,hd]) hb1⟩
  have HK:Hid (keyP b l i = if l ≠ []∧leB s (lastK l) = true then .bad i 25 else .ok s j):=Lib.hid (by rw [keyP,hd])
  have H1:Hid (RR rb w1 a c b j∧Besides rb w w1):=⟨hr1,hb1⟩
  by_cases hn:l = []
  · have HE:Hid (keyP b l i = .ok s j):=Lib.hid (by rw [HK.out,if_neg (by simp [hn])])
    have hz:(l.length:Int) = 0:=by simp [hn]
    clear hp hb1 hd hr1 HK HD hn
    rw [show l.length = 0 from by omega]
    go_wp2
    go_ret
    exact pcEnd.ok HE.out H1.out.2 H1.out.1
  · have hlp:0 < l.length:=List.length_pos_iff.2 hn
    have hcell:=(HD.out.keep hb1.size (fun x h1 h2=>hb1.block x h2 (by omega))).last hn
    clear hp hb1 hd hr1 HD
    obtain ⟨m,hm⟩:∃ m,l.length = m + 1:=⟨l.length - 1,by omega⟩
    rw [hm] at hcell ⊢
    simp only [Nat.add_sub_cancel] at hcell
    have m0:(0:Int) ≤ (m:Int):=by omega
    have m1:(m:Int) ≤ 1048576:=by omega
    have HL:Hid (l ≠ []):=hn
    clear hn hm hlp hlen
    cases hle:leB s (lastK l) with
    | true =>
      have HE:Hid (keyP b l i = .bad i 25):=Lib.hid (by rw [HK.out,if_pos ⟨HL.out,hle⟩])
      have hle':(Op.bytesLess s.toList (lastK l).toList || s.toList == (lastK l).toList) = true:=hle
      clear hle HK
      cases h1:Op.bytesLess s.toList (lastK l).toList with
      | true =>
        clear hle'
        go_wp2_with fail
        refine (giveUp44 rb _ _ _).mono ?_
        rintro e w' ⟨rfl,rfl⟩
        exact ⟨rfl,pcEnd.bad HE.out H1.out.2⟩
      | false =>
        rw [h1,Bool.false_or] at hle'
        go_wp2_with fail
        refine (giveUp44 rb _ _ _).mono ?_
        rintro e w' ⟨rfl,rfl⟩
        exact ⟨rfl,pcEnd.bad HE.out H1.out.2⟩
    | false =>
      have HE:Hid (keyP b l i = .ok s j):=Lib.hid (by rw [HK.out,if_neg (by simp [hle])])
      have hle':(Op.bytesLess s.toList (lastK l).toList || s.toList == (lastK l).toList) = false:=hle
      clear hle HK
      go_wp2
      go_ret
      exact pcEnd.ok HE.out H1.out.2 H1.out.1
theorem step_dict {b:List UInt8} {st:List Fr} {l:List (ByteArray × T)} {j:Nat} (hj:j < b.length) (hx:byt b j = 101):step b ({ d:=true,ps:=l } :: st) j = deliver st (tDict l) (j + 1):=by
  unfold step; rw [if_neg (by omega)]
  dsimp only
  rw [if_pos ⟨rfl,rfl⟩,if_pos hx]
  rfl
theorem step_key {b:List UInt8} {st:List Fr} {l:List (ByteArray × T)} {j:Nat} (hj:j < b.length) (hx:¬ byt b j = 101):step b ({ d:=true,ps:=l } :: st) j = match keyP b l j with
    | .bad p e=>.bad p e
    | .ok s k=>.go ({ d:=true,ps:=l,key:=s,has:=true } :: st) k:=by
  unfold step; rw [if_neg (by omega)]
  dsimp only
  rw [if_pos ⟨rfl,rfl⟩,if_neg hx,keyy_eq hj]
  all_goals rfl
theorem strg_lt {b:List UInt8} {i j:Nat} {s:ByteArray} (h:strg b i = .ok s j):i < j∧s.size ≤ b.length∧j ≤ b.length:=by
  unfold strg at h
  cases hd:digs b 58 i with
  | bad p e=>rw [hd] at h; cases h
  | ok d k =>
    rw [hd] at h
    dsimp only at h
    obtain ⟨_,h2,h3,h4,_⟩:=digs_ok hd
    split at h
    · cases h
    · split at h
      · rename_i n hn
        split at h
        · cases h
        · cases h
          have h0:0 ≤ n:=atoi_nonneg ((digs_len hd).2 0 (by have:=(digs_len hd).1; omega)) hn
          refine ⟨by omega,?_,by omega⟩
          rw [ba_size,cut_length (by omega)]
          omega
      · cases h
theorem keyP_ok {b:List UInt8} {l:List (ByteArray × T)} {i j:Nat} {s:ByteArray} (h:keyP b l i = .ok s j):i < j∧s.size ≤ b.length∧(l ≠ [] → leB s (lastK l) = false):=by
  unfold keyP at h
  cases hs:strg b i with
  | bad p e=>rw [hs] at h; cases h
  | ok s' k =>
    rw [hs] at h
    dsimp only at h
    split at h
    · cases h
    · rename_i hn
      cases h
      obtain ⟨h1,h2,_⟩:=strg_lt hs
      refine ⟨h1,h2,fun hl=>?_⟩
      cases e:leB s (lastK l) with
      | false=>rfl
      | true=>exact absurd ⟨hl,e⟩ hn
set_option maxRecDepth 10000 in
set_option maxHeartbeats 2000000 in
theorem dict49 (b:List UInt8) (N:Nat) (ih:VVc b N) (rb:Nat) (a:Option Addr) (c:Nat) (st:List Fr) (i:Nat) (w:World) (hN:b.length - i ≤ N) (h:RR rb w a c b i) (hi:i < b.length) (hst:st.length < 32) (hrd:ready b st i) (hx:byt b i = 100) :
    Calls Tryz.prog 91 #[.pointer (some ⟨rb,0,none⟩),.int .i64 (st.length:Int)] w fun e w'=>valEnd b st i rb w w' a c (.iface 107) e:=by
  obtain ⟨c0,c1,f1⟩:=h.cells
  have hl:=h.2.2.2.1
  have hrb:rb < w.heap.size:=h.1.1.lt
  have HI:=Lib.hid ih
  have H0:=Lib.hid h
  have HR1:Hid (Run b (.go st i) (.go ({ d:=true } :: st) (i + 1))):=Lib.hid (Run.one (by rw [step_ready hrd hi,opn,if_neg (by rw [hx]; decide),if_pos hx,if_neg (by omega)]))
  have HN:Hid (RR rb ((w.setCell ⟨rb,1,none⟩ (.int .i64 ((i:Int) + 1))).alloc (Obj.cells #[] 130)) a c b (i + 1)∧BB w.heap.size rb w ((w.setCell ⟨rb,1,none⟩ (.int .i64 ((i:Int) + 1))).alloc (Obj.cells #[] 130))∧DI w.heap.size ((w.setCell ⟨rb,1,none⟩ (.int .i64 ((i:Int) + 1))).alloc (Obj.cells #[] 130)) (.slice (some ⟨w.heap.size,0,none⟩) 0 0) []):=by
    have e:(w.setCell ⟨rb,1,none⟩ (.int .i64 ((i:Int) + 1))).heap.size = w.heap.size:=by simp [World.setCell]
    have hs:=h.set (i + 1) (by omega)
    refine ⟨hs.heap ((Below.refl _ _).alloc (Nat.le_refl _) _),(BB.of (Besides.refl rb w).set1 (Nat.le_refl _)).trans (BB.alloc (by rw [e]; exact Nat.le_refl _) _),DI.nil (Nat.le_refl _) ?_⟩
    have:=heap_new (w.setCell ⟨rb,1,none⟩ (.int .i64 ((i:Int) + 1))) (Obj.cells #[] 130)
    rw [e] at this
    exact this
  clear h ih hrd hx
  go_enter Tryz.func91,Tryz.ntmps91
  go_wp2
  clear c0 c1 f1
  generalize (w.setCell ⟨rb,1,none⟩ (.int .i64 ((i:Int) + 1))).alloc (Obj.cells #[] 130) = w1 at *
  go_loopw [5] (fun v wr=>∃ (l:List (ByteArray × T)) (j:Nat),Hid (DI w.heap.size wr v l∧RR rb wr a c b j∧BB w.heap.size rb w wr∧i < j∧l.length ≤ j∧DOK l∧Run b (.go st i) (.go ({ d:=true,ps:=l } :: st) j))) (fun _ wr=>b.length - atOf wr rb)
  case atStart=>exact ⟨[],i + 1,HN.out.2.2,HN.out.1,HN.out.2.1,Nat.lt_succ_self _,Nat.zero_le _,dok_nil,HR1.out⟩
  case round =>
    clear HN HR1
    obtain ⟨l,j,HO⟩:=hrel
    have hmer:=HO.out.2.1.atOf
    have hjn:=HO.out.2.1.2.1
    have hij:=HO.out.2.2.2.1
    have hlj:=HO.out.2.2.2.2.1
    go_wp2_with fail
    refine (next43 rb a c b j wr HO.out.2.1).mono ?_
    rintro e w2 ⟨hb1,⟨hlt,rfl⟩ | ⟨heq,rfl⟩⟩
    case inr =>
      rw [heq]
      exact ⟨rfl,valEnd.bad (BB.besides (HO.out.2.2.1.trans (BB.of (Besides.of_below hb1) HO.out.2.2.1.size))) (HO.out.2.2.2.2.2.2.trans (Run.one (step_end (by omega))))⟩
    have HP:Hid (DI w.heap.size w2 u5 l∧RR rb w2 a c b j∧BB w.heap.size rb w w2∧DOK l∧Run b (.go st i) (.go ({ d:=true,ps:=l } :: st) j)):=
      ⟨HO.out.1.keep hb1.size (fun x _ hx=>hb1.block x hx),HO.out.2.1.heap hb1,HO.out.2.2.1.trans (BB.of (Besides.of_below hb1) HO.out.2.2.1.size),HO.out.2.2.2.2.2.1,HO.out.2.2.2.2.2.2⟩
    clear HO hb1
    obtain ⟨g,cap,rfl⟩:∃ g cap,u5 = .slice (some ⟨g,0,none⟩) l.length cap:=by
      obtain ⟨us,g,q1,q2,_⟩:=HP.out.1
      obtain ⟨cap,rfl,_⟩:=own_form q1 q2
      exact ⟨g,cap,rfl⟩
    by_cases hx:byt b j = 101
    · rw [hx]
      obtain ⟨c0,c1,f1⟩:=HP.out.2.1.cells
      have HE:Hid (valEnd b st i rb w (w2.setCell ⟨rb,1,none⟩ (.int .i64 ((j:Int) + 1))) a c (.iface 107) (.returned (.slice (some ⟨g,0,none⟩) l.length cap))):=by
        obtain ⟨q1,q2,q3,q4,q5⟩:=HP.out
        have e:(w2.setCell ⟨rb,1,none⟩ (.int .i64 ((j:Int) + 1))).heap.size = w2.heap.size:=by simp [World.setCell]
        exact Lib.hid (valEnd.ok (BB.besides (q3.trans (BB.of (Besides.refl rb w2).set1 q3.size))) (DI.keep q1 (by rw [e]; exact Nat.le_refl _) (fun x hx _=>Below.heap_setCell _ _ _ _ (by show x ≠ rb; omega))).node (q2.set (j + 1) (by omega)) (by omega) (q5.trans (Run.one (step_dict hlt hx))) (tok_dict l q4))
      clear HP
      go_wp2
      go_ret
      exact HE.out
    · have hz:((byt b j).toNat:Int) ≠ 101:=u8_ne hx
      have hlb:l.length ≤ 1048576:=by omega
      go_wp2_with fail
      refine (key56 rb a c b j w.heap.size g cap l w2 HP.out.2.1 HP.out.1 hrb hlb).mono ?_
      intro e w5 hp
      obtain ⟨hb5,⟨s,j1,hk1,rfl,hr5⟩ | ⟨p,er,hk1,rfl⟩⟩:=hp.cases
      case inr=>exact ⟨rfl,valEnd.bad (BB.besides (HP.out.2.2.1.trans (BB.of hb5 HP.out.2.2.1.size))) (HP.out.2.2.2.2.trans (Run.one (by rw [step_key hlt hx,hk1])))⟩
      have hkf:=keyP_ok hk1
      have HP5:Hid (DI w.heap.size w5 (.slice (some ⟨g,0,none⟩) l.length cap) l∧RR rb w5 a c b j1∧BB w.heap.size rb w w5∧DOK l∧Run b (.go st i) (.go ({ d:=true,ps:=l,key:=s,has:=true } :: st) j1)):=by
        obtain ⟨q1,q2,q3,q4,q5⟩:=HP.out
        exact ⟨q1.keep hb5.size (fun x h1 h2=>hb5.block x h2 (by omega)),hr5,q3.trans (BB.of hb5 q3.size),q4,q5.trans (Run.one (by rw [step_key hlt hx,hk1]))⟩
      have hj1:j < j1:=hkf.1
      have HK:Hid (s.size ≤ 1048576∧(l ≠ [] → leB s (lastK l) = false)):=⟨by have:=hkf.2.1; omega,hkf.2.2⟩
      clear HP hb5 hr5 hp hk1 hkf
      have hj1n:=HP5.out.2.1.2.1
      have HV:=HI.out rb a c ({ d:=true,ps:=l,key:=s,has:=true } :: st) j1 w5 (by omega) HP5.out.2.1 (by simp; omega) (.inl ⟨rfl,rfl⟩)
      rw [show ((({ d:=true,ps:=l,key:=s,has:=true }:Fr) :: st).length:Int) = (st.length:Int) + 1 from by simp] at HV
      have HVH:=Lib.hid HV
      clear HV
      go_wp2_with fail
      refine HVH.out.mono ?_
      clear HVH
      rintro e w3 ⟨hb3,⟨t,u,j2,rfl,hrn,hrr,hlt2,hrun,htok⟩ | ⟨p,er,rfl,hrun⟩⟩
      case inr=>exact ⟨rfl,valEnd.bad (BB.besides (HP5.out.2.2.1.trans (BB.of hb3 HP5.out.2.2.1.size))) (HP5.out.2.2.2.2.trans hrun)⟩
      obtain ⟨ty,uu,rfl⟩:=hrn.iface
      have hB3:w.heap.size ≤ w3.heap.size:=Nat.le_trans HP5.out.2.2.1.size hb3.size
      have hli:DI w.heap.size (w3.alloc (Obj.cells #[.string s,.iface ty uu] 130)) (.slice (some ⟨g,0,none⟩) l.length cap) l:=
        (HP5.out.1.keep hb3.size (fun x hx1 hx2=>hb3.block x hx2 (by omega))).keep (by simp) (fun x _ hx2=>Below.heap_alloc _ _ _ hx2)
      have hrn':RN (fun x=>w.heap.size ≤ x∧some x ≠ (Value.slice (some ⟨g,0,none⟩) l.length cap).ownBlock) (w3.alloc (Obj.cells #[.string s,.iface ty uu] 130)) t (.iface ty uu):=by
        obtain ⟨us,g',q1,q2,_⟩:=HP5.out.1
        have q3:=own_lt q1 q2
        cases q2
        refine RN.move (fun x hx _=>⟨Nat.le_trans HP5.out.2.2.1.size hx,fun e=>?_⟩) (by simp) (fun x _ hx2=>Below.heap_alloc _ _ _ hx2) _ _ hrn
        have h5:x = g:=by cases e; rfl
        have h6:g < w5.heap.size:=q3.2
        omega
      have HQ:Hid (RR rb w3 a c b j2∧BB w.heap.size rb w w3∧j1 < j2∧DOK (l ++ [(s,t)])∧Run b (.go st i) (.go ({ d:=true,ps:=l ++ [(s,t)] } :: st) j2)):=by
        obtain ⟨_,_,q3,q4,q5⟩:=HP5.out
        exact ⟨hrr,q3.trans (BB.of hb3 q3.size),hlt2,dok_snoc q4 (by omega) HK.out.1 htok HK.out.2,q5.trans hrun⟩
      have hll:l.length ≤ 2097152:=by omega
      clear hrn hrr hrun htok hb3 HP5 HK
      go_wp2_with (at_builtin; refine append_entry (rb:=rb) (B:=w.heap.size) (t:=t) (key:=s) rfl _ _ rfl rfl hli _ (.iface ty uu) rfl (by go_simp) (by go_simp) hrn' (by simp; omega) hll ?_)
      intro v' w4 hl4 hb4 hf4
      have HZ:Hid (DI w.heap.size w4 v' (l ++ [(s,t)])∧RR rb w4 a c b j2∧BB w.heap.size rb w w4∧i < j2∧(l ++ [(s,t)]).length ≤ j2∧DOK (l ++ [(s,t)])∧Run b (.go st i) (.go ({ d:=true,ps:=l ++ [(s,t)] } :: st) j2)):=by
        obtain ⟨q1,q2,q3,q4,q5⟩:=HQ.out
        have hz5:(w3.alloc (Obj.cells #[.string s,.iface ty uu] 130)).heap.size = w3.heap.size + 1:=by simp
        have hz6:=hb4.size
        refine ⟨hl4,H0.out.low q1 (by omega) (fun k hk=>(hf4 k (by omega) hk).trans (Below.heap_alloc _ _ _ (by omega))),(q2.trans (BB.alloc hB3 _)).trans hb4,by omega,by simp; omega,q4,q5⟩
      have hme2:=HZ.out.2.1.atOf
      have hj2:=HQ.out.2.2.1
      have hj3:=HQ.out.1.2.1
      clear HQ hl4 hb4 hf4 hli hrn'
      go_wp2
      go_roundw
      case rel=>exact ⟨l ++ [(s,t)],j2,HZ⟩
      case measure=>rw [hmer,hme2]; omega
theorem numb_lt {b:List UInt8} {i j:Nat} {n:Int} (h:numb b i = .ok n j):i < j:=by
  by_cases hl:i + 1 < b.length
  · rw [numb_sg hl] at h
    generalize (if byt b (i + 1) = 45 then [45] else []:List UInt8) = sg at h
    cases hd:digs b 101 (i + 1 + sg.length) with
    | bad p e=>rw [hd] at h; cases h
    | ok d k =>
      rw [hd] at h
      dsimp only at h
      obtain ⟨_,h2,_⟩:=digs_ok hd
      cases ha:Lib.atoiAll (sg ++ d) with
      | ok v =>
        rw [ha] at h
        dsimp only at h
        by_cases hc:padd d = true ∨ sg ++ d = [45,48]
        · rw [if_pos hc] at h; cases h
        · rw [if_neg hc] at h; cases h; omega
      | «syntax»=>rw [ha] at h; cases h
      | range=>rw [ha] at h; cases h
  · rw [numb,if_pos (by omega)] at h; cases h
theorem scal_num {b:List UInt8} {st:List Fr} {i j:Nat} {n:Int} (hx:byt b i = 105) (h:numb b i = .ok n j):scal b st i = deliver st (tNum n) j:=by rw [scal,if_pos hx,h]
theorem scal_nbad {b:List UInt8} {st:List Fr} {i p:Nat} {e:Int} (hx:byt b i = 105) (h:numb b i = .bad p e):scal b st i = .bad p e:=by rw [scal,if_pos hx,h]
theorem scal_str {b:List UInt8} {st:List Fr} {i j:Nat} {s:ByteArray} (hx:dig (byt b i) = true) (h:strg b i = .ok s j):scal b st i = deliver st (tStr s) j:=by
  rw [scal,if_neg (by intro e; rw [e] at hx; revert hx; decide),if_pos hx,h]
theorem scal_sbad {b:List UInt8} {st:List Fr} {i p:Nat} {e:Int} (hx:dig (byt b i) = true) (h:strg b i = .bad p e):scal b st i = .bad p e:=by
  rw [scal,if_neg (by intro e; rw [e] at hx; revert hx; decide),if_pos hx,h]
set_option maxRecDepth 10000 in
set_option maxHeartbeats 2000000 in
theorem value34 (b:List UInt8):∀ N,VVc b N:=by
  intro N
  induction N with
  | zero=>intro rb a c st i w hN; omega
  | succ N ih =>
    intro rb a c st i w hN h hst hrd
    have HI:=Lib.hid ih
    have HR:=Lib.hid h
    have HRD:=Lib.hid hrd
    have hl:=h.2.2.2.1
    clear ih h hrd
    go_enter Tryz.func79,Tryz.ntmps79
    go_wp2_with fail
    refine (next43 rb a c b i w HR.out).mono ?_
    rintro e w1 ⟨hb1,⟨hlt,rfl⟩ | ⟨heq,rfl⟩⟩
    case inr =>
      rw [heq]
      exact ⟨rfl,valEnd.bad (Besides.of_below hb1) (Run.one (step_end (by omega)))⟩
    have H1:Hid (RR rb w1 a c b i∧Besides rb w w1):=⟨HR.out.heap hb1,Besides.of_below hb1⟩
    have HS:Hid (step b st i = opn b st i):=Lib.hid (step_ready HRD.out hlt)
    have HW:Hid (w.heap.size ≤ w1.heap.size):=Lib.hid hb1.size
    clear hb1 HR
    obtain ⟨c0,c1,f1⟩:=H1.out.1.cells
    have hst0:(st.length:Int) ≤ 32:=by omega
    by_cases h105:byt b i = 105
    · rw [h105]
      have HE:Hid (step b st i = scal b st i):=Lib.hid (by rw [HS.out,opn,if_neg (by rw [h105]; decide),if_neg (by rw [h105]; decide)])
      go_wp2_with fail
      refine (number45 rb a c b i w1 H1.out.1 hlt).mono ?_
      intro e w2 hp
      obtain ⟨hb2,⟨n,j,hd,rfl,hr2⟩ | ⟨p,er,hd,rfl⟩⟩:=hp.cases
      case inr=>exact ⟨rfl,valEnd.bad (H1.out.2.trans hb2) (Run.one (by rw [HE.out,scal_nbad h105 hd]))⟩
      have HF:Hid (valEnd b st i rb w w2 a c (fun u=>u) (.returned (.iface 101 (.int .i64 n)))):=Lib.hid (valEnd.ok (t:=tNum n) (H1.out.2.trans hb2) (.inl ⟨rfl,rfl⟩) hr2 (numb_lt hd) (Run.one (by rw [HE.out,scal_num h105 hd])) (tok_num n))
      clear hp hb2 hr2 hd HE H1 c0 c1 f1
      go_wp2
      go_ret
      exact HF.out
    by_cases h108:byt b i = 108
    · rw [h108]
      by_cases h32:st.length = 32
      · have HE:Hid (step b st i = .bad i 24):=Lib.hid (by rw [HS.out,opn,if_pos h108,if_pos (by omega)])
        have h32':(st.length:Int) = 32:=by omega
        go_wp2_with fail
        refine (giveUp44 rb _ _ _).mono ?_
        rintro e w' ⟨rfl,rfl⟩
        exact ⟨rfl,valEnd.bad H1.out.2 (Run.one HE.out)⟩
      · have h32':(st.length:Int) < 32:=by omega
        have HC:=Lib.hid (list48 b N HI.out rb a c st i w1 (by omega) H1.out.1 hlt (by omega) HRD.out h108)
        go_wp2_with fail
        refine (isDigit46 108 _).mono ?_
        rintro e w2 ⟨rfl,rfl⟩
        rw [show dig 108 = false from by decide]
        go_wp2_with fail
        refine HC.out.mono ?_
        rintro e w3 ⟨hb3,⟨t,u,j2,rfl,hrn,hrr,hlt2,hrun,htok⟩ | ⟨p,er,rfl,hrun⟩⟩
        case inr=>exact ⟨rfl,valEnd.bad (H1.out.2.trans hb3) hrun⟩
        have HF:Hid (valEnd b st i rb w w3 a c (fun u=>u) (.returned (.iface 104 u))):=Lib.hid (valEnd.ok (H1.out.2.trans hb3) (RN.move (fun x hx _=>Nat.le_trans HW.out hx) (Nat.le_refl _) (fun _ _ _=>rfl) _ _ hrn) hrr hlt2 hrun htok)
        clear hrn hrr hrun htok hb3 HC H1 c0 c1 f1
        go_wp2
        go_ret
        exact HF.out
    by_cases h100:byt b i = 100
    · rw [h100]
      by_cases h32:st.length = 32
      · have HE:Hid (step b st i = .bad i 24):=Lib.hid (by rw [HS.out,opn,if_neg h108,if_pos h100,if_pos (by omega)])
        have h32':(st.length:Int) = 32:=by omega
        go_wp2_with fail
        refine (giveUp44 rb _ _ _).mono ?_
        rintro e w' ⟨rfl,rfl⟩
        exact ⟨rfl,valEnd.bad H1.out.2 (Run.one HE.out)⟩
      · have h32':(st.length:Int) < 32:=by omega
        have HC:=Lib.hid (dict49 b N HI.out rb a c st i w1 (by omega) H1.out.1 hlt (by omega) HRD.out h100)
        go_wp2_with fail
        refine (isDigit46 100 _).mono ?_
        rintro e w2 ⟨rfl,rfl⟩
        rw [show dig 100 = false from by decide]
        go_wp2_with fail
        refine HC.out.mono ?_
        rintro e w3 ⟨hb3,⟨t,u,j2,rfl,hrn,hrr,hlt2,hrun,htok⟩ | ⟨p,er,rfl,hrun⟩⟩
        case inr=>exact ⟨rfl,valEnd.bad (H1.out.2.trans hb3) hrun⟩
        have HF:Hid (valEnd b st i rb w w3 a c (fun u=>u) (.returned (.iface 107 u))):=Lib.hid (valEnd.ok (H1.out.2.trans hb3) (RN.move (fun x hx _=>Nat.le_trans HW.out hx) (Nat.le_refl _) (fun _ _ _=>rfl) _ _ hrn) hrr hlt2 hrun htok)
        clear hrn hrr hrun htok hb3 HC H1 c0 c1 f1
        go_wp2
        go_ret
        exact HF.out
    have HE:Hid (step b st i = scal b st i):=Lib.hid (by rw [HS.out,opn,if_neg h108,if_neg h100])
    have z105:((byt b i).toNat:Int) ≠ 105:=u8_ne h105
    have z108:((byt b i).toNat:Int) ≠ 108:=u8_ne h108
    have z100:((byt b i).toNat:Int) ≠ 100:=u8_ne h100
    go_wp2_with fail
    refine (isDigit46 (byt b i) _).mono ?_
    rintro e w2 ⟨rfl,rfl⟩
    cases hdg:dig (byt b i) with
    | true =>
      go_wp2_with fail
      refine (word47 rb a c b i w2 H1.out.1).mono ?_
      intro e w3 hp
      obtain ⟨hb2,⟨s,j,hd,rfl,hr2⟩ | ⟨p,er,hd,rfl⟩⟩:=hp.cases
      case inr=>exact ⟨rfl,valEnd.bad (H1.out.2.trans hb2) (Run.one (by rw [HE.out,scal_sbad hdg hd]))⟩
      have hsl:=strg_lt hd
      have HF:Hid (valEnd b st i rb w w3 a c (fun u=>u) (.returned (.iface 102 (.string s)))):=Lib.hid (valEnd.ok (t:=tStr s) (H1.out.2.trans hb2) (.inr (.inl ⟨rfl,rfl⟩)) hr2 hsl.1 (Run.one (by rw [HE.out,scal_str hdg hd])) (tok_str s (by omega)))
      clear hp hb2 hr2 hd HE H1 c0 c1 f1
      go_wp2
      go_ret
      exact HF.out
    | false =>
      go_wp2_with fail
      refine (giveUp44 rb _ _ _).mono ?_
      rintro e w' ⟨rfl,rfl⟩
      exact ⟨rfl,valEnd.bad H1.out.2 (Run.one (by rw [HE.out,scal,if_neg h105,if_neg (by rw [hdg]; decide)]))⟩
end Go.Proofs.YtdlnnnlmlaploabGreatDoor
