import Derived.Test.YtfjjpbebnoghmaaGreatDoorK00
import Derived.Test.YtfjjpbebnoghmaaGreatDoorK38
import Derived.Test.YtfjjpbebnoghmaaGreatDoorK04
import Derived.ProofKit
import Derived.OpenShut
import Derived.SizedLaws
import Derived.Carry
import Derived.ChangeSlices
import Derived.Deep.Slices
import Derived.Test.YtfjjpbebnoghmaaGreatDoorK18
import Derived.Test.YtfjjpbebnoghmaaGreatDoorK15
import Derived.Lib.SmallJoins
import Derived.Lib.LaidTab
import Derived.LaidMore
namespace Go.Proofs.YtfjjpbebnoghmaaGreatDoor
open Go.RowKit
theorem RSc.keep {w w':World} {v:Value} {us:List Oo} (h:RSc w v us) (hb:Below w.heap.size w w'):RSc w' v us:=by
  obtain ⟨⟨a,c,e,hle,h⟩,h2⟩:=h
  refine ⟨⟨a,c,e,hle,?_⟩,fun u hu=>(h2 u hu).keep hb⟩
  rcases h with h | ⟨g,o,h1,h3,h4⟩
  · exact .inl h
  · exact .inr ⟨g,o,h1,Nat.lt_of_lt_of_le h3 hb.size,fun i u hi=>rangeFr2 (h4 i u hi) (hb.block g h3)⟩
set_option maxHeartbeats 1000000 in
set_option maxRecDepth 100000 in
theorem feedsLaw (b v:Int) (h1 h2:List UInt8) (e1:h1.length = 32) (e2:h2.length = 32) (lv mv sv:Value) (L M:List Int) (us:List Oo) (w:World) (hkt:KT w) (hmt:Bs.MT w) (hl:L.length * 8≤140737488351232) (hm:M.length * 8≤140737488351232) (hr:Bs.RZ w lv L) (hr2:Bs.RZ w mv M) (hs:RSc w sv us) (hd:dsum us≤16777216) (hn:us.length≤16777216) :
    Calls Tryz.prog 3 #[Bs.sc b v,.agg (bc h1),lv,.agg (bc h2),mv,sv] w fun e w'=>e = .returned (.bool true)∧Below w.heap.size w w':=by
  have hS:=SP.start b v h1 h2 w
  obtain ⟨a1,c1,e3,_⟩:=id hr
  obtain ⟨a5,c5,e4,_⟩:=id hr2
  obtain ⟨⟨sa,scap,e5,_⟩,_⟩:=id hs
  have HP:=Lib.hid (playT b v h1 h2 e1 e2 lv mv sv L M us 1 1 _ (hkt.below hS.bel hkt.pos) (hmt.keep hS.bel) hl hm (hr.keep hS.bel) (hr2.keep hS.bel) (hs.keep hS.bel) hd hn)
  have HB:=Lib.hid hS.bel
  have hi1:=hS.i
  have hj1:=hS.j
  obtain ⟨q0,q1⟩:=hS.cells
  rw [e3,e4,e5] at HP ⊢
  have E1:=Lib.hid e1
  have E2:=Lib.hid e2
  clear hS hkt hmt hl hm hr hr2 hs hd hn e1 e2
  go_enter Tryz.func3,Tryz.ntmps3
  go_wp2_with (first |(refine load_hash_if rfl _ rfl (w.heap.size + 1) rfl h1 hi1 E1.out ?_) |(refine load_hash_if rfl _ rfl (w.heap.size + 2) rfl h2 hj1 E2.out ?_))
  refine HP.out.mono ?_
  rintro e w2 ⟨rfl,b2⟩
  have HE:=Lib.hid (HB.out.trans (b2.mono HB.out.size))
  clear b2 q0 q1 hi1 hj1 HB HP
  go_wp2
  go_ret
  exact ⟨rfl,HE.out⟩
set_option maxHeartbeats 1000000 in
set_option maxRecDepth 100000 in
theorem saysLaw (b v:Int) (h1 h2:List UInt8) (e1:h1.length = 32) (e2:h2.length = 32) (lv mv sv:Value) (L M:List Int) (us:List Oo) (w:World) (hkt:KT w) (hmt:Bs.MT w) (hl:L.length * 8≤140737488351232) (hm:M.length * 8≤140737488351232) (hr:Bs.RZ w lv L) (hr2:Bs.RZ w mv M) (hs:RSc w sv us) (hd:dsum us≤16777216) (hn:us.length≤16777216) :
    Calls Tryz.prog 4 #[Bs.sc b v,.agg (bc h1),lv,.agg (bc h2),mv,sv] w fun e w'=>e = .returned (.bool true)∧Below w.heap.size w w':=by
  have hS:=SP.start b v h1 h2 w
  obtain ⟨a1,c1,e3,_⟩:=id hr
  obtain ⟨a5,c5,e4,_⟩:=id hr2
  obtain ⟨⟨sa,scap,e5,_⟩,_⟩:=id hs
  have HP:=Lib.hid (playT b v h1 h2 e1 e2 lv mv sv L M us 2 2 _ (hkt.below hS.bel hkt.pos) (hmt.keep hS.bel) hl hm (hr.keep hS.bel) (hr2.keep hS.bel) (hs.keep hS.bel) hd hn)
  have HB:=Lib.hid hS.bel
  have hi1:=hS.i
  have hj1:=hS.j
  obtain ⟨q0,q1⟩:=hS.cells
  rw [e3,e4,e5] at HP ⊢
  have E1:=Lib.hid e1
  have E2:=Lib.hid e2
  clear hS hkt hmt hl hm hr hr2 hs hd hn e1 e2
  go_enter Tryz.func4,Tryz.ntmps4
  go_wp2_with (first |(refine load_hash_if rfl _ rfl (w.heap.size + 1) rfl h1 hi1 E1.out ?_) |(refine load_hash_if rfl _ rfl (w.heap.size + 2) rfl h2 hj1 E2.out ?_))
  refine HP.out.mono ?_
  rintro e w2 ⟨rfl,b2⟩
  have HE:=Lib.hid (HB.out.trans (b2.mono HB.out.size))
  clear b2 q0 q1 hi1 hj1 HB HP
  go_wp2
  go_ret
  exact ⟨rfl,HE.out⟩
set_option maxHeartbeats 1000000 in
set_option maxRecDepth 100000 in
theorem statesLaw (b v:Int) (h1 h2:List UInt8) (e1:h1.length = 32) (e2:h2.length = 32) (lv mv sv:Value) (L M:List Int) (us:List Oo) (w:World) (hkt:KT w) (hmt:Bs.MT w) (hl:L.length * 8≤140737488351232) (hm:M.length * 8≤140737488351232) (hr:Bs.RZ w lv L) (hr2:Bs.RZ w mv M) (hs:RSc w sv us) (hd:dsum us≤16777216) (hn:us.length≤16777216) :
    Calls Tryz.prog 5 #[Bs.sc b v,.agg (bc h1),lv,.agg (bc h2),mv,sv] w fun e w'=>e = .returned (.bool true)∧Below w.heap.size w w':=by
  have hS:=SP.start b v h1 h2 w
  obtain ⟨a1,c1,e3,_⟩:=id hr
  obtain ⟨a5,c5,e4,_⟩:=id hr2
  obtain ⟨⟨sa,scap,e5,_⟩,_⟩:=id hs
  have HP:=Lib.hid (playT b v h1 h2 e1 e2 lv mv sv L M us 3 3 _ (hkt.below hS.bel hkt.pos) (hmt.keep hS.bel) hl hm (hr.keep hS.bel) (hr2.keep hS.bel) (hs.keep hS.bel) hd hn)
  have HB:=Lib.hid hS.bel
  have hi1:=hS.i
  have hj1:=hS.j
  obtain ⟨q0,q1⟩:=hS.cells
  rw [e3,e4,e5] at HP ⊢
  have E1:=Lib.hid e1
  have E2:=Lib.hid e2
  clear hS hkt hmt hl hm hr hr2 hs hd hn e1 e2
  go_enter Tryz.func5,Tryz.ntmps5
  go_wp2_with (first |(refine load_hash_if rfl _ rfl (w.heap.size + 1) rfl h1 hi1 E1.out ?_) |(refine load_hash_if rfl _ rfl (w.heap.size + 2) rfl h2 hj1 E2.out ?_))
  refine HP.out.mono ?_
  rintro e w2 ⟨rfl,b2⟩
  have HE:=Lib.hid (HB.out.trans (b2.mono HB.out.size))
  clear b2 q0 q1 hi1 hj1 HB HP
  go_wp2
  go_ret
  exact ⟨rfl,HE.out⟩
set_option maxHeartbeats 1000000 in
set_option maxRecDepth 100000 in
theorem playsLaw (b v:Int) (h1 h2:List UInt8) (e1:h1.length = 32) (e2:h2.length = 32) (lv mv sv:Value) (L M:List Int) (us:List Oo) (w:World) (hkt:KT w) (hmt:Bs.MT w) (hl:L.length * 8≤140737488351232) (hm:M.length * 8≤140737488351232) (hr:Bs.RZ w lv L) (hr2:Bs.RZ w mv M) (hs:RSc w sv us) (hd:dsum us≤16777216) (hn:us.length≤16777216) :
    Calls Tryz.prog 6 #[Bs.sc b v,.agg (bc h1),lv,.agg (bc h2),mv,sv] w fun e w'=>e = .returned (.bool true)∧Below w.heap.size w w':=by
  have hS:=SP.start b v h1 h2 w
  obtain ⟨a1,c1,e3,_⟩:=id hr
  obtain ⟨a5,c5,e4,_⟩:=id hr2
  obtain ⟨⟨sa,scap,e5,_⟩,_⟩:=id hs
  have HP:=Lib.hid (playT b v h1 h2 e1 e2 lv mv sv L M us 1 4 _ (hkt.below hS.bel hkt.pos) (hmt.keep hS.bel) hl hm (hr.keep hS.bel) (hr2.keep hS.bel) (hs.keep hS.bel) hd hn)
  have HB:=Lib.hid hS.bel
  have hi1:=hS.i
  have hj1:=hS.j
  obtain ⟨q0,q1⟩:=hS.cells
  rw [e3,e4,e5] at HP ⊢
  have E1:=Lib.hid e1
  have E2:=Lib.hid e2
  clear hS hkt hmt hl hm hr hr2 hs hd hn e1 e2
  go_enter Tryz.func6,Tryz.ntmps6
  go_wp2_with (first |(refine load_hash_if rfl _ rfl (w.heap.size + 1) rfl h1 hi1 E1.out ?_) |(refine load_hash_if rfl _ rfl (w.heap.size + 2) rfl h2 hj1 E2.out ?_))
  refine HP.out.mono ?_
  rintro e w2 ⟨rfl,b2⟩
  have HE:=Lib.hid (HB.out.trans (b2.mono HB.out.size))
  clear b2 q0 q1 hi1 hj1 HB HP
  go_wp2
  go_ret
  exact ⟨rfl,HE.out⟩
end Go.Proofs.YtfjjpbebnoghmaaGreatDoor
namespace Go.Proofs.YtfjjpbebnoghmaaGreatDoor
open Go.ChangeShapes Go.WideShapes Go.ChangeAt Go.RowKit
theorem ownKn:ownKnob Tryz.prog.godebug = none:=by kernel_rfl
theorem laidO:laidOutB Tryz.prog = true:=by kernel_rfl
theorem trodLt {H:Type} {enc:TypeId × Value→H} {W:World} {t:TypeId} {v:Value} {d:DataW H} {p:List MemPlace} (h:DataW.Trod enc Tryz.prog W 0 (fun _=>true) true t v d p):∀ x ∈ p,x.block < W.heap.size:=by
  obtain ⟨m,hm⟩:=h
  exact DataW.trod_lt m _ _ _ hm
theorem cellByte {H:Type} {enc:TypeId × Value→H} {W:World} {cs:List Value} {o n:Nat} {x:DataW H × List MemPlace} (ho:o < cs.length)
    (h:DataW.trod enc Tryz.prog W 0 (fun _=>true) true n 5 ((cs.drop o).take 1) = some x):∃ a:UInt8,cs[o]? = some (.int .u8 (a.toNat:Int)):=by
  have e:(cs.drop o).take 1 = [cs[o]]:=by rw [List.drop_eq_getElem_cons ho]; rfl
  rw [e] at h
  obtain ⟨a,e0,rfl,wa⟩:=DataW.trod_int Tryz.underlying5 h
  have h255:0≤a∧a≤255:=by simpa [Lit.wf,IntKind.min,IntKind.max,IntKind.signed,IntKind.bits] using wa
  refine ⟨UInt8.ofNat a.toNat,?_⟩
  rw [List.getElem?_eq_getElem ho,UInt8.toNat_ofNat',Nat.mod_eq_of_lt (by omega)]
  simp at e0
  rw [e0]
  congr 2
  omega
def asB (v:Value):UInt8:=match v with | .int _ z=>UInt8.ofNat z.toNat | _=>0
theorem cellsHash {H:Type} {enc:TypeId × Value→H} {W:World} {fuel:Nat} {cs:List Value} {x:DataW H × List MemPlace}
    (hf:DataW.trod enc Tryz.prog W 0 (fun _=>true) true fuel 25 cs = some x):cs.length = 32∧∀ i,i < 32→∃ a:UInt8,cs[i]? = some (.int .u8 (a.toNat:Int)):=by
  obtain ⟨xs,m,_,_,hlen,hxs,hget⟩:=DataW.trod_array Tryz.underlying25 hf
  have c5:Tryz.prog.cellsOf 5 = 1:=by kernel_rfl
  have c32:Tryz.prog.cellsOf 25 = 32:=by kernel_rfl
  rw [c32] at hlen
  refine ⟨hlen,fun i hi=>?_⟩
  have h1:=hget i hi
  rw [c5,Nat.mul_one,List.getElem?_eq_getElem (by omega)] at h1
  exact cellByte (by omega) h1
theorem bytes_of {cs:List Value} (h:∀ i,i < cs.length→∃ a:UInt8,cs[i]? = some (.int .u8 (a.toNat:Int))):cs = Lib.byteCells (cs.map asB):=by
  apply List.ext_getElem?
  intro i
  simp only [Lib.byteCells,List.getElem?_map]
  by_cases hi:i < cs.length
  · obtain ⟨a,ha⟩:=h i hi
    rw [ha]
    simp [asB]
  · rw [List.getElem?_eq_none (by omega)]; rfl
theorem dsplit (L:List Value) (k n:Nat):L.drop k = (L.drop k).take n ++ L.drop (k + n):=by
  rw [← List.drop_drop]; exact (List.take_append_drop n (L.drop k)).symm
theorem split40 (L:List Value) (h:L.length = 40):L = (L.drop 0).take 1 ++ ((L.drop 1).take 1 ++ ((L.drop 2).take 1 ++ ((L.drop 3).take 1 ++ ((L.drop 4).take 1 ++ ((L.drop 5).take 32 ++ ((L.drop 37).take 1 ++ ((L.drop 38).take 1 ++ (L.drop 39).take 1))))))):=by
  have e40:L.drop 40 = []:=List.drop_eq_nil_of_le (by omega)
  have h39:=dsplit L 39 1
  rw [e40,List.append_nil] at h39
  conv=>lhs; rw [← List.drop_zero (l:=L),dsplit L 0 1,dsplit L (0 + 1) 1,dsplit L (0 + 1 + 1) 1,dsplit L (0 + 1 + 1 + 1) 1,dsplit L (0 + 1 + 1 + 1 + 1) 1,dsplit L (0 + 1 + 1 + 1 + 1 + 1) 32,dsplit L (0 + 1 + 1 + 1 + 1 + 1 + 32) 1,dsplit L (0 + 1 + 1 + 1 + 1 + 1 + 32 + 1) 1,show 0 + 1 + 1 + 1 + 1 + 1 + 32 + 1 + 1 = 39 from rfl,h39]
end Go.Proofs.YtfjjpbebnoghmaaGreatDoor
namespace Go.Proofs.YtfjjpbebnoghmaaGreatDoor
open Go.ChangeShapes Go.WideShapes Go.ChangeAt Go.RowKit
end Go.Proofs.YtfjjpbebnoghmaaGreatDoor
namespace Go.Proofs.YtfjjpbebnoghmaaGreatDoor
open Go.ChangeShapes Go.WideShapes Go.ChangeAt Go.RowKit Go.Deep
theorem bulk_pos {H:Type}:∀ d:DataW H,1≤Rows.uptoBulk d
  | .lit (.string b)=>by simp [Rows.uptoBulk]
  | .lit (.int _ _)=>by simp [Rows.uptoBulk]
  | .lit (.bool _)=>by simp [Rows.uptoBulk]
  | .lit (.float _ _)=>by simp [Rows.uptoBulk]
  | .lit .nil=>by simp [Rows.uptoBulk]
  | .nil=>by simp [Rows.uptoBulk]
  | .ptr d=>by simp [Rows.uptoBulk]
  | .slice _ _=>by simp [Rows.uptoBulk]
  | .agg _=>by simp [Rows.uptoBulk]
  | .iface _ d=>by simp [Rows.uptoBulk]
  | .map _=>by simp [Rows.uptoBulk]
  | .held _=>by simp [Rows.uptoBulk]
theorem bulk_len {H:Type}:∀ l:List (DataW H),l.length≤Rows.uptoBulkAll l
  | []=>by simp [Rows.uptoBulkAll]
  | d :: l=>by
    have:=bulk_len l
    have:=bulk_pos d
    simp [Rows.uptoBulkAll]; omega
theorem bulk_mem {H:Type} {d:DataW H}:∀ {l:List (DataW H)},d ∈ l→Rows.uptoBulk d≤Rows.uptoBulkAll l
  | [],h=>by cases h
  | a :: l,h=>by
    simp only [Rows.uptoBulkAll]
    rcases List.mem_cons.1 h with rfl | h
    · omega
    · have:=bulk_mem h; omega
section
variable {H:Type} {enc:TypeId × Value→H} {w:World}
theorem openRowB {t e:TypeId} (ht:Tryz.prog.underlying t = some (.slice e)) {fuel:Nat} {v:Value} {x:DataW H × List MemPlace} (h:DataW.trod enc Tryz.prog w 0 (fun _=>true) true fuel t [v] = some x) (hc:0 < Tryz.prog.cellsOf e) :
    ∃ (a:Option Addr) (len cap:Nat),v = .slice a len cap∧len≤cap∧(len = 0∨∃ (m:Nat) (elems:List (DataW H × List MemPlace)),elems.length = len∧Rows.uptoBulkAll (elems.map (·.1)) + 1≤Rows.uptoBulk x.1∧∃ b o,a = some ⟨b,o,none⟩∧b < w.heap.size ∧
      ∀ i (hi:i < elems.length), ∃ cs,cs.length = Tryz.prog.cellsOf e∧(∀ j,j < Tryz.prog.cellsOf e→w.cell? ⟨b,o + i * Tryz.prog.cellsOf e + j,none⟩ = cs[j]?)∧DataW.trod enc Tryz.prog w 0 (fun _=>true) true m e cs = some elems[i]):=by
  rcases DataW.trod_slice ht h with ⟨h0,rfl⟩ | ⟨a,len,cap,elems,rest,m,rfl,h0,rfl,_,hlc,_,hlen,hel,_,_⟩
  · simp at h0
    exact ⟨none,0,0,h0,Nat.le_refl _,.inl rfl⟩
  simp at h0
  subst h0
  refine ⟨some a,len,cap,rfl,hlc,?_⟩
  by_cases h00:len = 0
  · exact .inl h00
  have key:∀ i (hi:i < elems.length), ∃ cs,w.cells? 0 (a.add (i * Tryz.prog.cellsOf e)) (Tryz.prog.cellsOf e) = some cs∧DataW.trod enc Tryz.prog w 0 (fun _=>true) true m e cs = some elems[i]:=by
    intro i hi
    have:=hel i (by omega)
    rw [List.getElem?_eq_getElem (by omega)] at this
    obtain ⟨cs',h1,h2⟩:=Option.bind_eq_some_iff.1 this
    exact ⟨cs',h1,h2⟩
  have cellof:∀ {a':Addr} {c:Nat} {cs:List Value},w.cells? 0 a' c = some cs→cs.length = c∧∀ j,j < c→w.cell? (a'.add j) = cs[j]?:=fun h=>⟨(World.cells?_some h).2.1,(World.cells?_some h).2.2⟩
  obtain ⟨b,o,spot⟩:=a
  have hspot:spot = none∧b < w.heap.size:=by
    obtain ⟨cs,h1,_⟩:=key 0 (by omega)
    obtain ⟨hl,hj⟩:=cellof h1
    have:=hj 0 hc
    rw [List.getElem?_eq_getElem (by omega)] at this
    have h2:=World.cell?_spot this
    have h3:=World.block_lt_of_cell? w _ this
    simp [Addr.add] at h2 h3
    exact ⟨h2,h3⟩
  obtain ⟨rfl,hb⟩:=hspot
  have hadd:∀ o i:Nat,(⟨b,o,none⟩:Addr).add i = ⟨b,o + i,none⟩:=by intro o i; unfold Addr.add; split <;> simp_all
  refine .inr ⟨m,elems,hlen,by simp only [Rows.uptoBulk]; omega,b,o,rfl,hb,fun i hi=>?_⟩
  obtain ⟨cs,h1,h2⟩:=key i hi
  obtain ⟨hl,hj⟩:=cellof h1
  refine ⟨cs,hl,fun j hj'=>?_,h2⟩
  have:=hj j hj'
  rw [hadd,hadd] at this
  exact this
theorem cells5:Tryz.prog.cellsOf 5 = 1:=by kernel_rfl
theorem cells3:Tryz.prog.cellsOf 3 = 1:=by kernel_rfl
theorem lists_of {α:Type} (f:Nat→α) (n:Nat):∃ L:List α,L.length = n∧∀ i,i < n→L[i]? = some (f i):=
  ⟨(List.range n).map f,by simp,fun i hi=>by simp [hi]⟩
theorem openBytesB {fuel:Nat} {v:Value} {x:DataW H × List MemPlace} (h:DataW.trod enc Tryz.prog w 0 (fun _=>true) true fuel 37 [v] = some x) :
    ∃ l,RB w v l∧l.length + 1≤Rows.uptoBulk x.1:=by
  obtain ⟨a,len,cap,rfl,hlc,hrow⟩:=openRowB Tryz.underlying37 h (by rw [cells5]; omega)
  rcases hrow with rfl | ⟨m,elems,hlen,hbulk,b,o,rfl,hlt,hel⟩
  · exact ⟨[],⟨a,cap,rfl,hlc,.inl rfl⟩,by have:=bulk_pos x.1; simpa using this⟩
  have:∀ i,i < len→∃ c:UInt8,w.cell? ⟨b,o + i,none⟩ = some (.int .u8 (c.toNat:Int)):=fun i hi=>by
    obtain ⟨cs,hcl,hc,ht⟩:=hel i (by omega)
    have h0:=hc 0 (by rw [cells5]; omega)
    rw [cells5] at h0 hcl
    obtain ⟨y,rfl⟩:=List.length_eq_one_iff.1 hcl
    obtain ⟨z,e0,_,wa⟩:=DataW.trod_int Tryz.underlying5 ht
    have h255:0≤z∧z≤255:=by simpa [Lit.wf,IntKind.min,IntKind.max,IntKind.signed,IntKind.bits] using wa
    simp at e0
    subst e0
    refine ⟨UInt8.ofNat z.toNat,?_⟩
    rw [UInt8.toNat_ofNat',Nat.mod_eq_of_lt (by omega)]
    simp at h0
    rw [h0]
    congr 2
    omega
  have hinh:Inhabited UInt8:=⟨0⟩
  obtain ⟨f,hf⟩:=choose_lt this
  obtain ⟨l,rfl,hl⟩:=lists_of f len
  refine ⟨l,⟨_,cap,rfl,hlc,.inr ⟨b,o,rfl,hlt,fun i hi=>?_⟩⟩,?_⟩
  · have:byt l i = f i:=by unfold byt; simp [List.getD,hl i hi]
    rw [this]; exact hf i hi
  · have:=bulk_len (elems.map (·.1)); rw [List.length_map] at this; omega
end
end Go.Proofs.YtfjjpbebnoghmaaGreatDoor
namespace Go.Proofs.YtfjjpbebnoghmaaGreatDoor
open Go.ChangeShapes Go.WideShapes Go.ChangeAt Go.RowKit Go.Deep
theorem one_of {L:List Value} {k:Nat} (h:k < L.length):∃ v,(L.drop k).take 1 = [v]:=⟨L[k],by rw [List.drop_eq_getElem_cons h]; rfl⟩
theorem bulk_times {H:Type} (c:Nat):∀ E:List (DataW H),(∀ e ∈ E,c≤Rows.uptoBulk e)→c * E.length≤Rows.uptoBulkAll E
  | [],_=>by simp
  | d :: E,h=>by
    have h1:=bulk_times c E (fun e he=>h e (by simp [he]))
    have h2:=h d (by simp)
    simp only [Rows.uptoBulkAll,List.length_cons,Nat.mul_add,Nat.mul_one]
    omega
section
variable {H:Type} {enc:TypeId × Value→H} {w:World}
set_option maxRecDepth 100000 in
theorem hashBulk {m:Nat} {cs:List Value} {x:DataW H × List MemPlace} (h:DataW.trod enc Tryz.prog w 0 (fun _=>true) true m 25 cs = some x):32≤Rows.uptoBulk x.1:=by
  obtain ⟨xs,m',_,hx,hlen,hxs,hget⟩:=DataW.trod_array Tryz.underlying25 h
  have e:x.1 = .agg (xs.map (·.1)):=congrArg Prod.fst hx
  rw [e]
  simp only [Rows.uptoBulk]
  have:=bulk_len (xs.map (·.1))
  rw [List.length_map,hxs] at this
  omega
set_option maxRecDepth 100000 in
theorem openHashesB {fuel:Nat} {v:Value} {x:DataW H × List MemPlace} (h:DataW.trod enc Tryz.prog w 0 (fun _=>true) true fuel 38 [v] = some x) :
    ∃ l,RH w v l∧l.length + 1≤Rows.uptoBulk x.1:=by
  have c32:Tryz.prog.cellsOf 25 = 32:=by kernel_rfl
  obtain ⟨a,len,cap,rfl,hlc,hrow⟩:=openRowB Tryz.underlying38 h (by rw [c32]; omega)
  rcases hrow with rfl | ⟨m,elems,hlen,hbulk,b,o,rfl,hlt,hel⟩
  · exact ⟨[],⟨a,0,cap,rfl,rfl,hlc,.inl rfl⟩,by have:=bulk_pos x.1; simpa using this⟩
  have key:∀ i,i < len * 32→∃ y:UInt8,w.cell? ⟨b,o + i,none⟩ = some (.int .u8 (y.toNat:Int)):=by
    intro i hi
    obtain ⟨cs',h1,h2,h3⟩:=hel (i / 32) (by omega)
    rw [c32] at h1 h2
    obtain ⟨hl32,hby⟩:=cellsHash h3
    obtain ⟨y,hy⟩:=hby (i % 32) (by omega)
    refine ⟨y,?_⟩
    have:=h2 (i % 32) (by omega)
    rw [hy,show o + i / 32 * 32 + i % 32 = o + i by omega] at this
    exact this
  have hinh:Inhabited UInt8:=⟨0⟩
  obtain ⟨f,hf⟩:=choose_lt key
  obtain ⟨l,hll,hl⟩:=lists_of f (len * 32)
  refine ⟨l,⟨_,len,cap,rfl,hll,hlc,.inr ⟨b,o,rfl,hlt,fun i hi=>?_⟩⟩,?_⟩
  · rw [hll] at hi
    have:byt l i = f i:=by unfold byt; simp [List.getD,hl i hi]
    rw [this]; exact hf i hi
  · have h9:=bulk_times 32 (elems.map (·.1)) (fun e he=>by
      obtain ⟨y,hy,rfl⟩:=List.mem_map.1 he
      obtain ⟨i,hi,rfl⟩:=List.getElem_of_mem hy
      obtain ⟨cs',_,_,h3⟩:=hel i hi
      exact hashBulk h3)
    rw [List.length_map] at h9
    omega
set_option maxRecDepth 100000 in
theorem openMsgC {fuel:Nat} {cs:List Value} {x:DataW H × List MemPlace} (hf:DataW.trod enc Tryz.prog w 0 (fun _=>true) true fuel 40 cs = some x) (hbk:Rows.uptoBulk x.1≤1048576) :
    ∃ y:Mg,cs = y.m.ls∧MM w y.m y.D y.hb∧10 + y.D.length + y.hb.length≤Rows.uptoBulk x.1:=by
  obtain ⟨xs,n,_,hx,hl,hlen,hf⟩:=DataW.trod_struct Tryz.underlying40 hf
  have hL:xs.length = 9:=hlen
  have hd:x.1 = .agg (xs.map (·.1)):=congrArg Prod.fst hx
  have hcs:cs.length = 40:=hl.trans (by kernel_rfl)
  have f0:DataW.trod enc Tryz.prog w 0 (fun _=>true) true n 3 ((cs.drop 0).take (Tryz.prog.cellsOf 3)) = xs[0]?:=hf 0 _ rfl
  have f1:DataW.trod enc Tryz.prog w 0 (fun _=>true) true n 3 ((cs.drop 1).take (Tryz.prog.cellsOf 3)) = xs[1]?:=hf 1 _ rfl
  have f2:DataW.trod enc Tryz.prog w 0 (fun _=>true) true n 3 ((cs.drop 2).take (Tryz.prog.cellsOf 3)) = xs[2]?:=hf 2 _ rfl
  have f3:DataW.trod enc Tryz.prog w 0 (fun _=>true) true n 3 ((cs.drop 3).take (Tryz.prog.cellsOf 3)) = xs[3]?:=hf 3 _ rfl
  have f4:DataW.trod enc Tryz.prog w 0 (fun _=>true) true n 37 ((cs.drop 4).take (Tryz.prog.cellsOf 37)) = xs[4]?:=hf 4 _ rfl
  have f5:DataW.trod enc Tryz.prog w 0 (fun _=>true) true n 25 ((cs.drop 5).take (Tryz.prog.cellsOf 25)) = xs[5]?:=hf 5 _ rfl
  have f6:DataW.trod enc Tryz.prog w 0 (fun _=>true) true n 3 ((cs.drop 37).take (Tryz.prog.cellsOf 3)) = xs[6]?:=hf 6 _ rfl
  have f7:DataW.trod enc Tryz.prog w 0 (fun _=>true) true n 3 ((cs.drop 38).take (Tryz.prog.cellsOf 3)) = xs[7]?:=hf 7 _ rfl
  have f8:DataW.trod enc Tryz.prog w 0 (fun _=>true) true n 38 ((cs.drop 39).take (Tryz.prog.cellsOf 38)) = xs[8]?:=hf 8 _ rfl
  obtain ⟨y0,y1,y2,y3,y4,y5,y6,y7,y8,rfl⟩:∃ y0 y1 y2 y3 y4 y5 y6 y7 y8,xs = [y0,y1,y2,y3,y4,y5,y6,y7,y8]:=by
    match xs,hL with
    | [y0,y1,y2,y3,y4,y5,y6,y7,y8],_=>exact ⟨y0,y1,y2,y3,y4,y5,y6,y7,y8,rfl⟩
  clear hf
  replace f0:_ = some y0:=f0
  replace f1:_ = some y1:=f1
  replace f2:_ = some y2:=f2
  replace f3:_ = some y3:=f3
  replace f4:_ = some y4:=f4
  replace f5:_ = some y5:=f5
  replace f6:_ = some y6:=f6
  replace f7:_ = some y7:=f7
  replace f8:_ = some y8:=f8
  have k3:Tryz.prog.cellsOf 3 = 1:=by kernel_rfl
  have k22:Tryz.prog.cellsOf 37 = 1:=by kernel_rfl
  have k26:Tryz.prog.cellsOf 38 = 1:=by kernel_rfl
  have k25:Tryz.prog.cellsOf 25 = 32:=by kernel_rfl
  rw [k3] at f0 f1 f2 f3 f6 f7
  rw [k22] at f4
  rw [k25] at f5
  rw [k26] at f8
  obtain ⟨a0,e0,_⟩:=DataW.trod_int Tryz.underlying3 f0
  obtain ⟨a1,e1,_⟩:=DataW.trod_int Tryz.underlying3 f1
  obtain ⟨a2,e2,_⟩:=DataW.trod_int Tryz.underlying3 f2
  obtain ⟨a3,e3,_⟩:=DataW.trod_int Tryz.underlying3 f3
  obtain ⟨a6,e6,_⟩:=DataW.trod_int Tryz.underlying3 f6
  obtain ⟨a7,e7,_⟩:=DataW.trod_int Tryz.underlying3 f7
  obtain ⟨dv,e4⟩:=one_of (L:=cs) (k:=4) (by omega)
  obtain ⟨hv',e8⟩:=one_of (L:=cs) (k:=39) (by omega)
  rw [e4] at f4
  rw [e8] at f8
  obtain ⟨D,rd,dl⟩:=openBytesB f4
  obtain ⟨hb,rh,hl8⟩:=openHashesB f8
  obtain ⟨l5,b5⟩:=cellsHash f5
  have e5:=bytes_of (cs:=(cs.drop 5).take 32) (fun i hi=>b5 i (by rw [l5] at hi; exact hi))
  have hbulk:10 + D.length + hb.length≤Rows.uptoBulk x.1:=by
    rw [hd]
    simp only [List.map_cons,List.map_nil,Rows.uptoBulk,Rows.uptoBulkAll]
    have p0:=bulk_pos y0.1
    have p1:=bulk_pos y1.1
    have p2:=bulk_pos y2.1
    have p3:=bulk_pos y3.1
    have p5:=bulk_pos y5.1
    have p6:=bulk_pos y6.1
    have p7:=bulk_pos y7.1
    omega
  refine ⟨⟨⟨a0,a1,a2,a3,dv,((cs.drop 5).take 32).map asB,a6,a7,hv'⟩,D,hb⟩,?_,⟨⟨by rw [List.length_map,l5],?_,?_⟩,rd,rh,by simp only; omega,by simp only; omega⟩,hbulk⟩
  · have e:=split40 _ hcs
    rw [e0,e1,e2,e3,e4,e5,e6,e7,e8] at e
    exact e.trans (by simp [Mv.ls])
  · obtain ⟨a,c,e,_⟩:=rd
    exact ⟨_,_,_,e⟩
  · obtain ⟨a,n,c,e,_⟩:=rh
    exact ⟨_,_,_,e⟩
end
end Go.Proofs.YtfjjpbebnoghmaaGreatDoor
namespace Go.Proofs.YtfjjpbebnoghmaaGreatDoor
open Go.ChangeShapes Go.WideShapes Go.ChangeAt Go.RowKit Go.Joins Go.Deep
section
variable {H:Type} {enc:TypeId × Value→H} {w:World}
set_option maxRecDepth 100000 in
theorem openIntsZ {base:Nat} {v:Value} {d:DataW H} {ps:List MemPlace} (hv:Value.okWide Tryz.prog w .any base 26 v)
    (h:DataW.Trod enc Tryz.prog w 0 (fun _=>true) true 26 v d ps):∃ zs,Bs.RZ w v zs∧zs.length + 1≤Rows.uptoBulk d∧(∀ z ∈ zs, -9223372036854775808≤z∧z≤9223372036854775807):=by
  obtain ⟨a0,len0,cap0,rfl⟩:=okWide_slice Tryz.underlying26 hv
  obtain ⟨fuel,hf⟩:=h
  have hf':DataW.trod enc Tryz.prog w 0 (fun _=>true) true fuel 26 [.slice a0 len0 cap0] = some (d,ps):=hf
  obtain ⟨a,len,cap,e,hlc,hrow⟩:=openRowB Tryz.underlying26 hf' (by rw [cells3]; omega)
  obtain ⟨rfl,rfl,rfl⟩:a0 = a∧len0 = len∧cap0 = cap:=by simpa using e
  rcases hrow with rfl | ⟨m,elems,hlen,hbulk,b,o,rfl,hlt,hel⟩
  · exact ⟨[],⟨_,_,rfl,fun _=>rfl,.inl rfl⟩,by have:=bulk_pos d; simpa using this,fun z hz=>by cases hz⟩
  have:∀ i,i < len0→∃ c:Int,w.cell? ⟨b,o + i,none⟩ = some (.int .i64 c)∧-9223372036854775808≤c∧c≤9223372036854775807:=fun i hi=>by
    obtain ⟨cs,hcl,hc,ht⟩:=hel i (by omega)
    have h0:=hc 0 (by rw [cells3]; omega)
    rw [cells3] at h0 hcl
    obtain ⟨y,rfl⟩:=List.length_eq_one_iff.1 hcl
    obtain ⟨z,e0,_,wa⟩:=DataW.trod_int Tryz.underlying3 ht
    have hz:-9223372036854775808≤z∧z≤9223372036854775807:=by simpa [Lit.wf,IntKind.min,IntKind.max,IntKind.signed,IntKind.bits] using wa
    simp at e0
    subst e0
    refine ⟨z,?_,hz⟩
    simpa using h0
  have hinh:Inhabited Int:=⟨0⟩
  obtain ⟨f,hf⟩:=choose_lt this
  obtain ⟨l,rfl,hl⟩:=lists_of f len0
  refine ⟨l,⟨_,_,rfl,(fun h=>by cases h),.inr ⟨b,o,rfl,hlt,fun i hi=>?_⟩⟩,?_,fun z hz=>?_⟩
  · have:Bs.iz l i = f i:=by unfold Bs.iz; simp [List.getD,hl i hi]
    rw [this]; exact (hf i hi).1
  · have:=bulk_len (elems.map (·.1)); rw [List.length_map] at this; show _≤Rows.uptoBulk d; have:Rows.uptoBulk (d,ps).1 = Rows.uptoBulk d:=rfl; omega
  · obtain ⟨i,hi,rfl⟩:=List.getElem_of_mem hz
    have h1:=hl i hi
    rw [List.getElem?_eq_getElem hi] at h1
    rw [Option.some.inj h1]
    exact (hf i hi).2
theorem cells23:Tryz.prog.cellsOf 23 = 2:=by kernel_rfl
set_option maxRecDepth 100000 in
theorem openScale {base:Nat} {v:Value} {d:DataW H} {p:List MemPlace} (hv:Value.okWide Tryz.prog w .any base 23 v)
    (h:DataW.Trod enc Tryz.prog w 0 (fun _=>true) true 23 v d p):∃ a b:Int,v = Bs.sc a b∧-9223372036854775808≤a∧a≤9223372036854775807∧-9223372036854775808≤b∧b≤9223372036854775807:=by
  obtain ⟨c0,c1,y0,y1,m,rfl,rfl,rfl,hy0,hy1⟩:=open_agg2 Tryz.underlying23 (by kernel_rfl) cells23 hv h
  obtain ⟨a,e0, -,wa⟩:=DataW.trod_int Tryz.underlying3 hy0
  obtain ⟨b,e1, -,wb⟩:=DataW.trod_int Tryz.underlying3 hy1
  simp at e0 e1
  subst e0 e1
  have ha:-9223372036854775808≤a∧a≤9223372036854775807:=by simpa [Lit.wf,IntKind.min,IntKind.max,IntKind.signed,IntKind.bits] using wa
  have hb:-9223372036854775808≤b∧b≤9223372036854775807:=by simpa [Lit.wf,IntKind.min,IntKind.max,IntKind.signed,IntKind.bits] using wb
  exact ⟨a,b,rfl,ha.1,ha.2,hb.1,hb.2⟩
set_option maxRecDepth 100000 in
theorem openHashU {base:Nat} {v:Value} {d:DataW H} {p:List MemPlace} (hv:Value.okWide Tryz.prog w .any base 25 v)
    (h:DataW.Trod enc Tryz.prog w 0 (fun _=>true) true 25 v d p):∃ hb:List UInt8,v = .agg (bc hb)∧hb.length = 32:=by
  simp only [Value.okWide,Tryz.underlying25] at hv
  obtain ⟨cs,rfl,_⟩:=hv
  obtain ⟨fuel,hf⟩:=h
  obtain ⟨l5,b5⟩:=cellsHash (cs:=cs.toList) hf
  have e5:=bytes_of (cs:=cs.toList) (fun i hi=>b5 i (by rw [l5] at hi; exact hi))
  refine ⟨cs.toList.map asB,?_,by rw [List.length_map,l5]⟩
  unfold bc
  rw [← e5]
set_option maxRecDepth 100000 in
theorem cellsArr {t:TypeId} {n:Nat} (ht:Tryz.prog.underlying t = some (.array n 5)) (hc:Tryz.prog.cellsOf t = n) {fuel:Nat} {cs:List Value} {x:DataW H × List MemPlace}
    (hf:DataW.trod enc Tryz.prog w 0 (fun _=>true) true fuel t cs = some x):cs.length = n∧∀ i,i < n→∃ a:UInt8,cs[i]? = some (.int .u8 (a.toNat:Int)):=by
  obtain ⟨xs,m,_,_,hlen,hxs,hget⟩:=DataW.trod_array ht hf
  have c5:Tryz.prog.cellsOf 5 = 1:=by kernel_rfl
  rw [hc] at hlen
  refine ⟨hlen,fun i hi=>?_⟩
  have h1:=hget i hi
  rw [c5,Nat.mul_one,List.getElem?_eq_getElem (by omega)] at h1
  exact cellByte (by omega) h1
end
end Go.Proofs.YtfjjpbebnoghmaaGreatDoor
namespace Go.Proofs.YtfjjpbebnoghmaaGreatDoor
open Go.ChangeShapes Go.WideShapes Go.ChangeAt Go.RowKit Go.Joins Go.Deep
section
variable {H:Type} {enc:TypeId × Value→H} {w:World}
theorem cut63 (cs:List Value):cs = (cs.drop 0).take 1 ++ ((cs.drop 1).take 1 ++ ((cs.drop 2).take 1 ++ ((cs.drop 3).take 40 ++ cs.drop 43))):=by
  have h:∀ (a b:Nat),cs.drop a = (cs.drop a).take b ++ cs.drop (a + b):=fun a b=>by
    rw [← List.drop_drop,List.take_append_drop]
  have h0:=h 0 1
  rw [h 1 1,h 2 1,h 3 40,List.drop_zero] at h0
  rw [List.drop_zero]
  exact h0
set_option maxRecDepth 100000 in
theorem openOpC {fuel:Nat} {cs:List Value} {x:DataW H × List MemPlace} (hf:DataW.trod enc Tryz.prog w 0 (fun _=>true) true fuel 43 cs = some x) (hbk:Rows.uptoBulk x.1≤1048576) :
    ∃ u:Oo,cs = u.ls∧RU w u∧u.D.length≤Rows.uptoBulk x.1:=by
  obtain ⟨xs,n,_,hx,hl,hlen,hf⟩:=DataW.trod_struct Tryz.underlying43 hf
  have hL:xs.length = 5:=hlen
  have hd:x.1 = .agg (xs.map (·.1)):=congrArg Prod.fst hx
  have hcs:cs.length = 63:=hl.trans (by kernel_rfl)
  have f0:DataW.trod enc Tryz.prog w 0 (fun _=>true) true n 3 ((cs.drop 0).take (Tryz.prog.cellsOf 3)) = xs[0]?:=hf 0 _ rfl
  have f1:DataW.trod enc Tryz.prog w 0 (fun _=>true) true n 4 ((cs.drop 1).take (Tryz.prog.cellsOf 4)) = xs[1]?:=hf 1 _ rfl
  have f2:DataW.trod enc Tryz.prog w 0 (fun _=>true) true n 37 ((cs.drop 2).take (Tryz.prog.cellsOf 37)) = xs[2]?:=hf 2 _ rfl
  have f3:DataW.trod enc Tryz.prog w 0 (fun _=>true) true n 40 ((cs.drop 3).take (Tryz.prog.cellsOf 40)) = xs[3]?:=hf 3 _ rfl
  have f4:DataW.trod enc Tryz.prog w 0 (fun _=>true) true n 41 ((cs.drop 43).take (Tryz.prog.cellsOf 41)) = xs[4]?:=hf 4 _ rfl
  obtain ⟨y0,y1,y2,y3,y4,rfl⟩:∃ y0 y1 y2 y3 y4,xs = [y0,y1,y2,y3,y4]:=by
    match xs,hL with
    | [y0,y1,y2,y3,y4],_=>exact ⟨y0,y1,y2,y3,y4,rfl⟩
  clear hf
  replace f0:_ = some y0:=f0
  replace f1:_ = some y1:=f1
  replace f2:_ = some y2:=f2
  replace f3:_ = some y3:=f3
  replace f4:_ = some y4:=f4
  have k3:Tryz.prog.cellsOf 3 = 1:=by kernel_rfl
  have k4:Tryz.prog.cellsOf 4 = 1:=by kernel_rfl
  have kb:Tryz.prog.cellsOf 37 = 1:=by kernel_rfl
  have km:Tryz.prog.cellsOf 40 = 40:=by kernel_rfl
  have k20:Tryz.prog.cellsOf 41 = 20:=by kernel_rfl
  rw [k3] at f0
  rw [k4] at f1
  rw [kb] at f2
  rw [km] at f3
  rw [k20] at f4
  obtain ⟨a0,e0,_⟩:=DataW.trod_int Tryz.underlying3 f0
  obtain ⟨a1,e1,_⟩:=DataW.trod_bool Tryz.underlying4 f1
  obtain ⟨dv,e2⟩:=one_of (L:=cs) (k:=2) (by omega)
  rw [e2] at f2
  obtain ⟨D,rd,dl⟩:=openBytesB f2
  have hsum:Rows.uptoBulk x.1 = Rows.uptoBulkAll ([y0,y1,y2,y3,y4].map (·.1)) + 1∨Rows.uptoBulkAll ([y0,y1,y2,y3,y4].map (·.1))≤Rows.uptoBulk x.1:=by
    right
    rw [hd]
    simp only [Rows.uptoBulk]
    omega
  have hall:Rows.uptoBulkAll ([y0,y1,y2,y3,y4].map (·.1))≤Rows.uptoBulk x.1:=by rcases hsum with h | h <;> omega
  simp only [List.map_cons,List.map_nil,Rows.uptoBulkAll] at hall
  obtain ⟨y,em,mm,ml⟩:=openMsgC f3 (by omega)
  obtain ⟨l4,b4⟩:=cellsArr Tryz.underlying41 k20 f4
  have e4:=bytes_of (cs:=(cs.drop 43).take 20) (fun i hi=>b4 i (by rw [l4] at hi; exact hi))
  have e43:(cs.drop 43).take 20 = cs.drop 43:=List.take_of_length_le (by rw [List.length_drop]; omega)
  refine ⟨⟨a0,a1,dv,D,y,((cs.drop 43).take 20).map asB⟩,?_,⟨rd,mm,by show (List.map asB _).length = 20; rw [List.length_map,l4],by show D.length≤_; omega⟩,by show D.length≤_; omega⟩
  have e:=cut63 cs
  rw [e0,e1,e2,em, ← e43,e4] at e
  exact e.trans (by simp [Oo.ls])
theorem dsum_bulk:∀ (us:List Oo) (E:List (DataW H)),us.length = E.length→(∀ i (hi:i < E.length) u,us[i]? = some u→u.D.length≤Rows.uptoBulk E[i])→dsum us≤Rows.uptoBulkAll E
  | [],_,_,_=>by simp [dsum]
  | u :: us, [],h,_=>by simp at h
  | u :: us,e :: E,h,hb=>by
    have h1:=hb 0 (by simp) u rfl
    have h2:=dsum_bulk us E (by simpa using h) (fun i hi u' hu=>hb (i + 1) (by simp; omega) u' hu)
    simp only [Rows.uptoBulkAll]
    unfold dsum at h2 ⊢
    simp only [List.map_cons,List.sum_cons]
    simp only [List.getElem_cons_zero] at h1
    omega
set_option maxRecDepth 100000 in
theorem openScriptU {base:Nat} {v:Value} {d:DataW H} {ps:List MemPlace} (hv:Value.okWide Tryz.prog w .any base 27 v)
    (h:DataW.Trod enc Tryz.prog w 0 (fun _=>true) true 27 v d ps) (hbk:Rows.uptoBulk d≤1048576):∃ us,RSc w v us∧dsum us≤1048576∧us.length≤1048576:=by
  obtain ⟨a0,len0,cap0,rfl⟩:=okWide_slice Tryz.underlying27 hv
  obtain ⟨fuel,hf⟩:=h
  have hf':DataW.trod enc Tryz.prog w 0 (fun _=>true) true fuel 27 [.slice a0 len0 cap0] = some (d,ps):=hf
  have c63:Tryz.prog.cellsOf 43 = 63:=by kernel_rfl
  obtain ⟨a,len,cap,e,hlc,hrow⟩:=openRowB Tryz.underlying27 hf' (by rw [c63]; omega)
  obtain ⟨rfl,rfl,rfl⟩:a0 = a∧len0 = len∧cap0 = cap:=by simpa using e
  rcases hrow with rfl | ⟨m,elems,hlen,hbulk,b,o,rfl,hlt,hel⟩
  · exact ⟨[],⟨⟨_,_,rfl,Nat.zero_le _,.inl rfl⟩,fun r hr=>by cases hr⟩,by simp [dsum],by simp⟩
  have hsum:Rows.uptoBulkAll (elems.map (·.1)) + 1≤Rows.uptoBulk d:=hbulk
  have key:∀ i,i < len0→∃ u:Oo,w.rangeAt b (o + i * 63) u.ls∧RU w u∧∀ hi:i < elems.length,u.D.length≤Rows.uptoBulk elems[i].1:=by
    intro i hi
    obtain ⟨cs,h1,h2,h3⟩:=hel i (by omega)
    rw [c63] at h1 h2
    have hbi:Rows.uptoBulk elems[i].1≤Rows.uptoBulkAll (elems.map (·.1)):=bulk_mem (List.mem_map.2 ⟨elems[i],List.getElem_mem _,rfl⟩)
    obtain ⟨u,e1,e2,e3⟩:=openOpC h3 (by omega)
    refine ⟨u,fun j x hx=>?_,e2,fun _=>e3⟩
    have hj:j < 63:=by
      have:=(List.getElem?_eq_some_iff.1 hx).1
      rw [Oo.len e2.m.ok e2.me] at this; exact this
    rw [h2 j hj,e1]; exact hx
  have hinh:Inhabited Oo:=⟨⟨0,false,.nilFunc, [],⟨zm, [], []⟩, []⟩⟩
  obtain ⟨f,hf2⟩:=choose_lt key
  obtain ⟨us,hul,hus⟩:=lists_of f len0
  refine ⟨us,⟨⟨_,cap0,by rw [hul],by omega,.inr ⟨b,o,rfl,hlt,fun i x hx=>?_⟩⟩,fun x hx=>?_⟩,?_,?_⟩
  · have hi:i < len0:=by rw [← hul]; exact (List.getElem?_eq_some_iff.1 hx).1
    rw [hus i hi] at hx
    cases hx
    exact (hf2 i hi).1
  · obtain ⟨i,hi,rfl⟩:=List.getElem_of_mem hx
    have hi':i < len0:=by omega
    have:=hus i hi'
    rw [List.getElem?_eq_getElem hi] at this
    have e9:=Option.some.inj this
    rw [e9]
    exact (hf2 i hi').2.1
  · have h9:=dsum_bulk us (elems.map (·.1)) (by rw [List.length_map]; omega) (fun i hi u hu=>by
      rw [List.length_map] at hi
      rw [hus i (by omega)] at hu
      cases hu
      rw [List.getElem_map]
      exact (hf2 i (by omega)).2.2 hi)
    omega
  · have:=bulk_len (elems.map (·.1))
    rw [List.length_map] at this
    omega
end
end Go.Proofs.YtfjjpbebnoghmaaGreatDoor
namespace Go.Proofs.YtfjjpbebnoghmaaGreatDoor
open Go.ChangeShapes Go.WideShapes Go.ChangeAt Go.RowKit
def rowD (r:Kr):DataW Unit:=.agg [.lit (.int .i64 r.k),.lit (.int .i64 r.le),.lit (.int .i64 r.mo),.lit (.int .i64 r.st),Lib.tabData .i64 (r.fs.map fun (n:Nat)=>(n:Int))]
set_option maxRecDepth 100000 in
theorem row_cellsK {enc:TypeId × Value→Unit} {W:World} {base:Nat} {sp:Nat→Bool} {held:Bool} {fuel:Nat} {cs:List Value} {r:Kr} {p:List MemPlace}
    (h:DataW.trod enc Tryz.prog W base sp held fuel 141 cs = some (rowD r,p)):cs = r.ls:=by
  obtain ⟨xs,n,_,hx,hl,hlen,hf⟩:=DataW.trod_struct Tryz.underlying141 h
  have hL:xs.length = 5:=hlen
  have hd:rowD r = .agg (xs.map (·.1)):=congrArg Prod.fst hx
  have hc:cs.length = 11:=hl.trans (by kernel_rfl)
  have f0:DataW.trod enc Tryz.prog W base sp held n 3 ((cs.drop 0).take (Tryz.prog.cellsOf 3)) = xs[0]?:=hf 0 _ rfl
  have f1:DataW.trod enc Tryz.prog W base sp held n 3 ((cs.drop 1).take (Tryz.prog.cellsOf 3)) = xs[1]?:=hf 1 _ rfl
  have f2:DataW.trod enc Tryz.prog W base sp held n 3 ((cs.drop 2).take (Tryz.prog.cellsOf 3)) = xs[2]?:=hf 2 _ rfl
  have f3:DataW.trod enc Tryz.prog W base sp held n 3 ((cs.drop 3).take (Tryz.prog.cellsOf 3)) = xs[3]?:=hf 3 _ rfl
  have f4:DataW.trod enc Tryz.prog W base sp held n 139 ((cs.drop 4).take (Tryz.prog.cellsOf 139)) = xs[4]?:=hf 4 _ rfl
  obtain ⟨y0,y1,y2,y3,y4,rfl⟩:∃ y0 y1 y2 y3 y4,xs = [y0,y1,y2,y3,y4]:=by
    match xs,hL with
    | [y0,y1,y2,y3,y4],_=>exact ⟨y0,y1,y2,y3,y4,rfl⟩
  clear hf
  replace f0:_ = some y0:=f0
  replace f1:_ = some y1:=f1
  replace f2:_ = some y2:=f2
  replace f3:_ = some y3:=f3
  replace f4:_ = some y4:=f4
  have k3:Tryz.prog.cellsOf 3 = 1:=by kernel_rfl
  have k50:Tryz.prog.cellsOf 139 = 7:=by kernel_rfl
  rw [k3] at f0 f1 f2 f3
  rw [k50] at f4
  simp only [rowD,List.map_cons,List.map_nil,DataW.agg.injEq,List.cons.injEq,and_true] at hd
  obtain ⟨d0,d1,d2,d3,d4⟩:=hd
  obtain ⟨a0,e0,q0,_⟩:=DataW.trod_int Tryz.underlying3 f0
  obtain ⟨a1,e1,q1,_⟩:=DataW.trod_int Tryz.underlying3 f1
  obtain ⟨a2,e2,q2,_⟩:=DataW.trod_int Tryz.underlying3 f2
  obtain ⟨a3,e3,q3,_⟩:=DataW.trod_int Tryz.underlying3 f3
  rw [q0] at d0
  rw [q1] at d1
  rw [q2] at d2
  rw [q3] at d3
  simp only [DataW.lit.injEq,Lit.int.injEq,true_and] at d0 d1 d2 d3
  have e4:=Lib.cells_of_tab (zs:=r.fs.map fun (n:Nat)=>(n:Int)) (p:=y4.2) Tryz.underlying139 Tryz.underlying3 k3 k50 (by rw [f4,d4])
  have e11:cs.drop 11 = []:=List.drop_eq_nil_of_le (by omega)
  have h4:=dsplit cs 4 7
  rw [e11,List.append_nil] at h4
  have e:cs = (cs.drop 0).take 1 ++ ((cs.drop 1).take 1 ++ ((cs.drop 2).take 1 ++ ((cs.drop 3).take 1 ++ (cs.drop 4).take 7))):=by
    conv=>lhs; rw [← List.drop_zero (l:=cs),dsplit cs 0 1,dsplit cs (0 + 1) 1,dsplit cs (0 + 1 + 1) 1,dsplit cs (0 + 1 + 1 + 1) 1,show 0 + 1 + 1 + 1 + 1 = 4 from rfl,h4]
  rw [e,e0,e1,e2,e3,e4, ← d0, ← d1, ← d2, ← d3]
  simp [Kr.ls,rowL,fcs]
theorem slices_eq {L M:List Value} (hl:L.length = 154) (hm:M.length = 154) (h:∀ n,n < 14→(L.drop (n * 11)).take 11 = (M.drop (n * 11)).take 11):L = M:=by
  apply List.ext_getElem?
  intro j
  by_cases hj:j < 154
  · have key:∀ K:List Value,((K.drop (j / 11 * 11)).take 11)[j % 11]? = K[j]?:=by
      intro K
      rw [List.getElem?_take_of_lt (by omega),List.getElem?_drop,show j / 11 * 11 + j % 11 = j by omega]
    rw [← key L, ← key M,h (j / 11) (by omega)]
  · rw [List.getElem?_eq_none (by omega),List.getElem?_eq_none (by omega)]
theorem laid_rows:(Rows.laid_torrent_message_kinds:DataW Unit) = .agg (rws.map rowD):=rfl
theorem masks_of_laid {W : World} {a : String × DataW Unit} {r : List (String × DataW Unit)} (h0 : laidMet Tryz.prog (a :: ("torrent/bitset.masks", Rows.laid_torrent_bitset_masks) :: r) W) : Bs.MT W := by
  have h : laidMet Tryz.prog (("torrent/bitset.masks", Rows.laid_torrent_bitset_masks) :: r) W := by
    obtain ⟨ps,hv,hn,hc⟩:=h0
    obtain ⟨n,d⟩:=a
    obtain ⟨g,t,cs,fuel,p,q,_,_,_,_,hr,rfl⟩:=hv
    exact ⟨q,hr,(List.nodup_append.1 hn).2.1,fun b off hm=>hc b off (by simp [hm])⟩
  have ht : Lib.TabIs Tryz.prog W "torrent/bitset.masks" .u8 [128, 64, 32, 16, 8, 4, 2, 1] := Lib.tabIs_of_head (g := 1) (t := 95) (e := 5) (n := 8) (by kernel_rfl) (by kernel_rfl) (by kernel_rfl) (by kernel_rfl) (by kernel_rfl) (by kernel_rfl) h
  have hc:=fun i hi=>ht.cell (g:=1) (by kernel_rfl) i hi
  refine ⟨World.block_lt_of_cell? W _ (hc 0 (by decide)),fun j hj=>?_⟩
  rw [hc j hj]
  match j,hj with
  | 0,_ | 1,_ | 2,_ | 3,_ | 4,_ | 5,_ | 6,_ | 7,_=>rfl
  | j + 8,h=>omega
set_option maxRecDepth 100000 in
theorem kt_of_laid {W : World} {r : List (String × DataW Unit)} (h : laidMet Tryz.prog (("torrent/message.kinds", Rows.laid_torrent_message_kinds) :: r) W) : KT W := by
  obtain ⟨ps,⟨g,t,cs,fuel,p,q,hg,ht,hvar,hd,_,_⟩,_⟩:=h
  have hg0 : Tryz.prog.globalNamed "torrent/message.kinds" = some 0 := by kernel_rfl
  have ht0:(Tryz.prog.globals[0]?).map (·.type) = some 164:=by kernel_rfl
  obtain rfl:=Option.some.inj (hg0.symm.trans hg)
  obtain rfl:=Option.some.inj (ht0.symm.trans ht)
  rw [laid_rows] at hd
  obtain ⟨xs,m,_,hx,hlen,hxs,hget⟩:=DataW.trod_array Tryz.underlying164 hd
  have k52:Tryz.prog.cellsOf 141 = 11:=by kernel_rfl
  have k80:Tryz.prog.cellsOf 164 = 154:=by kernel_rfl
  rw [k80] at hlen
  have hxd:rws.map rowD = xs.map (·.1):=by
    have:=congrArg Prod.fst hx
    simpa using this
  have hcs:cs.toList = kindsL:=by
    refine slices_eq (M:=kindsL) hlen rfl fun n hn=>?_
    obtain ⟨r,hr⟩:∃ r,rws[n]? = some r:=⟨_,List.getElem?_eq_getElem hn⟩
    rw [(rws_row n r hr).1]
    have h1:=hget n hn
    rw [k52] at h1
    have h2:(xs.map (·.1))[n]? = some (rowD r):=by rw [← hxd,List.getElem?_map,hr]; rfl
    rw [List.getElem?_map] at h2
    obtain ⟨y,hy,hy2⟩:=Option.map_eq_some_iff.1 h2
    rw [hy] at h1
    obtain ⟨y1,y2⟩:=y
    simp only at hy2
    subst hy2
    exact row_cellsK h1
  intro j v hj
  have:=World.var?_cell hg0 hvar j
  rw [Nat.zero_add,this, ← Array.getElem?_toList,hcs]
  exact hj
end Go.Proofs.YtfjjpbebnoghmaaGreatDoor
