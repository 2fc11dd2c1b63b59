import Derived.Test.YtdlnnnlmlaploabGreatDoorK14
import Derived.Test.YtdlnnnlmlaploabGreatDoorK15
import Derived.Test.YtdlnnnlmlaploabGreatDoorK07
import Derived.Deep.AppendLies
namespace Go.Proofs.YtdlnnnlmlaploabGreatDoor
open Go.RowKit Go.Deep
def DUE (k:Nat) (us:List Value) (up nt:Int) (ky:ByteArray) (fi:Int):Prop:=
  (k = 0∧up = -1∧nt = 0∧ky = ByteArray.empty∧fi = 0) ∨
  ∃ m,k = m + 1∧k ≤ 1048577∧us[m * 12 + 7]? = some (.int .i64 up)∧us[m * 12 + 9]? = some (.int .i64 (nt + 1))∧us[m * 12 + 10]? = some (.string ky)∧us[m * 12 + 11]? = some (.int .i64 fi)∧0 ≤ nt∧nt ≤ 1048577
theorem results_cell47t {fn:Func} {p u:Tmp} (h:fn.results = #[.cell p 45,.tmp u]) (tmps:Array Value) (w:World) (g:Nat) (cs:Array Value)
    (hp:tmps.getD p undef = .pointer (some ⟨g,0,none⟩)) (hg:w.heap[g]? = some (.cells cs 45 (0,0))) (hs:cs.size = 9):(results fn tmps).run Tryz.prog w = .ok (.tuple #[.agg cs,tmps.getD u undef]) w:=by
  have hp':tmps[p]?.getD undef = .pointer (some ⟨g,0,none⟩):=by simpa using hp
  have hi:(Tryz.prog.info? 45).map (·.size) = some cs.size:=by rw [hs]; exact info47s
  simp [results,h,hp',asAddr,run_loadVar_row w g 45 45 cs (0,0) _ hg Tryz.underlying45 rfl hi]
theorem due54 {B rb:Nat} {w:World} {a:Option Addr} {c:Nat} {b:List UInt8} {i n:Nat} {ov:Value} {k:Nat} {us:List Value} (h:SR B rb w a c b i n ov k us) (hn:n ≤ 1048577) {up nt fi:Int} {ky:ByteArray} (hD:DUE k us up nt ky fi) :
    Calls Tryz.prog 64 #[.pointer (some ⟨rb,0,none⟩)] w fun e w'=>e = .returned (.agg (sv9 0 i 0 k up nt ky n fi))∧SR B rb w' a c b i (n + 1) ov k us∧Besides rb w w':=by
  rcases hD with ⟨rfl,rfl,rfl,rfl,rfl⟩ | ⟨m,hk,hkl,t7,t9,t10,t11,h0,h1⟩
  · exact due54z h hn
  · exact due54s h hn hk hkl t7 t9 t10 t11 h0 h1
set_option maxRecDepth 10000 in
set_option maxHeartbeats 1000000 in
theorem value40l {B rb:Nat} {w:World} {a:Option Addr} {c:Nat} {b:List UInt8} {i n:Nat} {ov:Value} {k:Nat} {us:List Value} (h:SR B rb w a c b i n ov k us) (hn:n ≤ 1048577) {up nt fi:Int} {ky:ByteArray} (hD:DUE k us up nt ky fi) (h1:byt b i ≠ 108) (h2:byt b i ≠ 100) :
    Calls Tryz.prog 47 #[.pointer (some ⟨rb,0,none⟩)] w fun e w'=>∃ t, ∃ j:Nat, ∃ er,e = .returned (.tuple #[.agg (sv9 t.k i ((i:Int) + (j:Int)) k up nt ky n fi),.int .i64 er])∧((er = 0∧leafO b i = .val t j) ∨ (er ≠ 0∧leafO b i = .bad j er))∧i + j ≤ b.length∧SR B rb w' a c b (i + j) (n + 1) ov k us∧Besides rb w w':=by
  have hb0:Below w.heap.size w (w.alloc zero9):=(Below.refl _ _).alloc (Nat.le_refl _) _
  have HX:=Lib.hid (And.intro h (And.intro hb0 (And.intro (h.keep hb0) (show blk (w.alloc zero9) w.heap.size 45 #[.int .i64 0,.int .i64 0,.int .i64 0,.int .i64 0,.int .i64 0,.int .i64 0,.string { data:=#[] },.int .i64 0,.int .i64 0] from heap_new w zero9))))
  have HD:=Lib.hid (due54 HX.out.2.2.1 hn hD)
  have z108:((byt b i).toNat:Int) ≠ 108:=u8_ne h1
  have z100:((byt b i).toNat:Int) ≠ 100:=u8_ne h2
  clear h hb0 hD
  go_enter Tryz.func47,Tryz.ntmps47
  go_wp2_with fail
  refine HD.out.mono ?_
  rintro e w1 ⟨rfl,s1,m1⟩
  have HW:Hid (SR B rb (w1.alloc (Obj.cells #[Value.int .i64 0,Value.int .i64 i,Value.int .i64 0,Value.int .i64 k,Value.int .i64 up,Value.int .i64 nt,Value.string ky,Value.int .i64 n,Value.int .i64 fi] 45)) a c b i (n + 1) ov k us∧blk (w1.alloc (Obj.cells #[Value.int .i64 0,Value.int .i64 i,Value.int .i64 0,Value.int .i64 k,Value.int .i64 up,Value.int .i64 nt,Value.string ky,Value.int .i64 n,Value.int .i64 fi] 45)) w.heap.size 45 #[.int .i64 0,.int .i64 0,.int .i64 0,.int .i64 0,.int .i64 0,.int .i64 0,.string { data:=#[] },.int .i64 0,.int .i64 0]∧blk (w1.alloc (Obj.cells #[Value.int .i64 0,Value.int .i64 i,Value.int .i64 0,Value.int .i64 k,Value.int .i64 up,Value.int .i64 nt,Value.string ky,Value.int .i64 n,Value.int .i64 fi] 45)) w1.heap.size 45 #[.int .i64 0,.int .i64 i,.int .i64 0,.int .i64 k,.int .i64 up,.int .i64 nt,.string ky,.int .i64 n,.int .i64 fi]∧Besides rb w (w1.alloc (Obj.cells #[Value.int .i64 0,Value.int .i64 i,Value.int .i64 0,Value.int .i64 k,Value.int .i64 up,Value.int .i64 nt,Value.string ky,Value.int .i64 n,Value.int .i64 fi] 45))∧w.heap.size < w1.heap.size):=by
    obtain ⟨q1,q2,q3,q4⟩:=HX.out
    have hv:Below w1.heap.size w1 (w1.alloc (Obj.cells #[Value.int .i64 0,Value.int .i64 i,Value.int .i64 0,Value.int .i64 k,Value.int .i64 up,Value.int .i64 nt,Value.string ky,Value.int .i64 n,Value.int .i64 fi] 45)):=(Below.refl _ _).alloc (Nat.le_refl _) _
    have hr:=q1.bk.lt
    have q5:blk w1 w.heap.size 45 _:=q4.keep (m1.block _ q4.lt (by show w.heap.size ≠ rb; omega))
    exact ⟨s1.keep hv,q5.keep (hv.block _ q5.lt),heap_new _ _,((Besides.of_below q2).trans m1).trans (Besides.of_below hv),q5.lt⟩
  clear s1 m1 HD
  go_wp2_with fail
  generalize hV:w1.heap.size = vb at *
  generalize (w1.alloc (Obj.cells #[Value.int .i64 0,Value.int .i64 i,Value.int .i64 0,Value.int .i64 k,Value.int .i64 up,Value.int .i64 nt,Value.string ky,Value.int .i64 n,Value.int .i64 fi] 45)) = W1 at *
  generalize hH:w.heap.size = H at *
  have HH:=Lib.hid hH
  refine (next41 HW.out.1).mono ?_
  rintro e w2 ⟨rfl,hb2⟩
  have H2:Hid (SR B rb w2 a c b i (n + 1) ov k us∧blk w2 H 45 #[.int .i64 0,.int .i64 0,.int .i64 0,.int .i64 0,.int .i64 0,.int .i64 0,.string { data:=#[] },.int .i64 0,.int .i64 0]∧blk w2 vb 45 #[.int .i64 0,.int .i64 i,.int .i64 0,.int .i64 k,.int .i64 up,.int .i64 nt,.string ky,.int .i64 n,.int .i64 fi]∧Besides rb w w2∧H < vb):=by
    obtain ⟨q1,q2,q3,q4,q5⟩:=HW.out
    exact ⟨q1.keep hb2,q2.keep (hb2.block _ q2.lt),q3.keep (hb2.block _ q3.lt),q4.trans (Besides.of_below hb2),q5⟩
  clear hb2 HW hH hV
  have HL:=Lib.hid (leaf55 H2.out.1 h1 h2)
  clear h1 h2
  generalize ((byt b i).toNat:Int) = zz at *
  go_wp2_with fail
  refine HL.out.mono ?_
  rintro e w3 ⟨t,xa,xn,xc,ya,yn,yc,j,er,rfl,hO,hij,hs3,hb3⟩
  have HA:Hid (SR B rb (w3.alloc (Obj.cells #[Value.int .i64 t.k,Value.int .i64 t.n,Value.string t.s,Value.slice xa xn xc,Value.slice ya yn yc] 55)) a c b (i + j) (n + 1) ov k us∧blk (w3.alloc (Obj.cells #[Value.int .i64 t.k,Value.int .i64 t.n,Value.string t.s,Value.slice xa xn xc,Value.slice ya yn yc] 55)) H 45 #[.int .i64 0,.int .i64 0,.int .i64 0,.int .i64 0,.int .i64 0,.int .i64 0,.string { data:=#[] },.int .i64 0,.int .i64 0]∧blk (w3.alloc (Obj.cells #[Value.int .i64 t.k,Value.int .i64 t.n,Value.string t.s,Value.slice xa xn xc,Value.slice ya yn yc] 55)) vb 45 #[.int .i64 0,.int .i64 i,.int .i64 0,.int .i64 k,.int .i64 up,.int .i64 nt,.string ky,.int .i64 n,.int .i64 fi]∧obj (w3.alloc (Obj.cells #[Value.int .i64 t.k,Value.int .i64 t.n,Value.string t.s,Value.slice xa xn xc,Value.slice ya yn yc] 55)) w3.heap.size (.int .i64 t.k) (.int .i64 t.n) (.string t.s) (.slice xa xn xc) (.slice ya yn yc)∧Besides rb w (w3.alloc (Obj.cells #[Value.int .i64 t.k,Value.int .i64 t.n,Value.string t.s,Value.slice xa xn xc,Value.slice ya yn yc] 55))∧H < vb∧vb < w3.heap.size∧rb < H):=by
    obtain ⟨q1,q2,q3,q4,q5⟩:=H2.out
    have hr:rb < H:=by have:=HX.out.1.bk.lt; have:=HH.out; omega
    have hv:Below w3.heap.size w3 (w3.alloc (Obj.cells #[Value.int .i64 t.k,Value.int .i64 t.n,Value.string t.s,Value.slice xa xn xc,Value.slice ya yn yc] 55)):=(Below.refl _ _).alloc (Nat.le_refl _) _
    have e2:blk w3 H 45 _:=q2.keep (hb3.block _ q2.lt (by omega))
    have e3:blk w3 vb 45 _:=q3.keep (hb3.block _ q3.lt (by omega))
    exact ⟨hs3.keep hv,e2.keep (hv.block _ e2.lt),e3.keep (hv.block _ e3.lt),heap_new _ _,(q4.trans hb3).trans (Besides.of_below hv),q5,e3.lt,hr⟩
  have HO:=Lib.hid hO
  clear hO hs3 hb3 HL H2
  unfold vv
  go_wp2_with fail
  generalize (w3.alloc (Obj.cells #[Value.int .i64 t.k,Value.int .i64 t.n,Value.string t.s,Value.slice xa xn xc,Value.slice ya yn yc] 55)) = A at *
  generalize w3.heap.size = lb at *
  obtain ⟨_,g1,_,_,u1,_,_⟩:=HA.out.1.cells
  obtain ⟨l0,l1,l2,l3,l4⟩:=HA.out.2.2.2.1.cells
  obtain ⟨b0,b1,b2,b3,b4,b5,b6,b7,b8⟩:=HA.out.2.2.1.cells9
  have x0:=HA.out.2.2.1.frozen 0
  have x2:=HA.out.2.2.1.frozen 2
  have nvr:vb ≠ rb:=by have:=HA.out.2.2.2.2.2; omega
  have nvl:vb ≠ lb:=by have:=HA.out.2.2.2.2.2; omega
  have hcast:((i + j:Nat):Int) = (i:Int) + (j:Int):=by omega
  rw [hcast] at g1
  go_region_held3 (fun w'=>w'.cell? ⟨lb,0,none⟩ = some (.int .i64 t.k)∧w'.cell? ⟨rb,1,none⟩ = some (.int .i64 ((i:Int) + (j:Int)))) (go_keep) (fail)
  have HU:Hid (SR B rb ((A.setCell ⟨vb,0,none⟩ (.int .i64 t.k)).setCell ⟨vb,2,none⟩ (.int .i64 ((i:Int) + (j:Int)))) a c b (i + j) (n + 1) ov k us∧blk ((A.setCell ⟨vb,0,none⟩ (.int .i64 t.k)).setCell ⟨vb,2,none⟩ (.int .i64 ((i:Int) + (j:Int)))) H 45 #[.int .i64 0,.int .i64 0,.int .i64 0,.int .i64 0,.int .i64 0,.int .i64 0,.string { data:=#[] },.int .i64 0,.int .i64 0]∧blk ((A.setCell ⟨vb,0,none⟩ (.int .i64 t.k)).setCell ⟨vb,2,none⟩ (.int .i64 ((i:Int) + (j:Int)))) vb 45 #[.int .i64 t.k,.int .i64 i,.int .i64 ((i:Int) + (j:Int)),.int .i64 k,.int .i64 up,.int .i64 nt,.string ky,.int .i64 n,.int .i64 fi]∧Besides rb w ((A.setCell ⟨vb,0,none⟩ (.int .i64 t.k)).setCell ⟨vb,2,none⟩ (.int .i64 ((i:Int) + (j:Int))))∧H < vb):=by
    obtain ⟨q1,q2,q3,_,q5,q6,_,_⟩:=HA.out
    have hz:w.heap.size ≤ vb:=by have:=HH.out; omega
    have hne:H ≠ vb:=by omega
    have s1:=HX.out.1.setFar q5 q1 hz 0 (.int .i64 t.k)
    have m1:=Besides.setOld (o:=0) (u:=.int .i64 t.k) hz q5
    have s2:=HX.out.1.setFar m1 s1 hz 2 (.int .i64 ((i:Int) + (j:Int)))
    have m2:=Besides.setOld (o:=2) (u:=.int .i64 ((i:Int) + (j:Int))) hz m1
    exact ⟨s2,(q2.keep (Below.heap_setCell _ _ _ _ hne)).keep (Below.heap_setCell _ _ _ _ hne),(q3.s0 _).s2 _,m2,q6⟩
  generalize (A.setCell ⟨vb,0,none⟩ (.int .i64 t.k)).setCell ⟨vb,2,none⟩ (.int .i64 ((i:Int) + (j:Int))) = U at *
  clear HA g1 u1 l0 l1 l2 l3 l4 b0 b1 b2 b3 b4 b5 b6 b7 b8 x0 x2
  obtain ⟨b0,b1,b2,b3,b4,b5,b6,b7,b8⟩:=HU.out.2.2.1.cells9
  obtain ⟨z0,z1,z2,z3,z4,z5,z6,z7,z8⟩:=HU.out.2.1.cells9
  obtain ⟨x0,x1,x2,x3,x4,x5,x6,x7,x8⟩:=HU.out.2.1.frozen9
  go_wp2
  obtain ⟨y1,y2,y3⟩:=HX.out.1.box9 HU.out.2.2.2.1 HU.out.1 (Nat.le_of_eq HH.out) HU.out.2.1 (.int .i64 t.k) (.int .i64 i) (.int .i64 ((i:Int) + (j:Int))) (.int .i64 k) (.int .i64 up) (.int .i64 nt) (.string ky) (.int .i64 n) (.int .i64 fi)
  generalize hX:set9 U H (.int .i64 t.k) (.int .i64 i) (.int .i64 ((i:Int) + (j:Int))) (.int .i64 k) (.int .i64 up) (.int .i64 nt) (.string ky) (.int .i64 n) (.int .i64 fi) = X at *
  unfold set9 at hX
  rw [hX]
  have y4:blk X.drew H 45 _:=y3.keep rfl
  refine bodyPost_ret (v:=.tuple #[.agg (sv9 t.k i ((i:Int) + (j:Int)) k up nt ky n fi),.int .i64 er]) (results_cell47t Tryz.results47 _ _ H _ rfl y4 rfl) rfl ?_
  exact ⟨t,j,er,rfl,HO.out,hij,y1.keep (below_drew _),y2.drew⟩
theorem info94:(Tryz.prog.info? 98).map (fun i=>(i.zero,i.size,i.bytes)) = some (some (.agg #[.int .i64 0,.int .i64 0,.int .i64 0,.int .i64 0,.int .i64 0,.int .i64 0,.string ByteArray.empty,.int .i64 0,.int .i64 0,.int .i64 0,.string ByteArray.empty,.int .i64 0]),12,112):=by kernel_rfl
theorem SR.remakeN {B rb:Nat} {w w':World} {a:Option Addr} {c:Nat} {b:List UInt8} {i n i' n':Nat} {ov ov':Value} {k k':Nat} {us us':List Value} (h:SR B rb w a c b i n ov k us) (hb:Near rb ov w w') (hbk:blk w' rb 78 #[.slice a b.length c,.int .i64 i',.int .i64 n',ov']) (hown:w'.ownsRow B 98 12 ov' k' us') (hne:ov'.ownBlock ≠ some rb) (hi:i' ≤ b.length):SR B rb w' a c b i' n' ov' k' us' where
  bk:=hbk
  own:=hown
  low:=h.low
  ne:=hne
  le:=hi
  lim:=h.lim
  cap:=h.cap
  tx:=by
    rcases h.tx with e | ⟨g,o,h1,h2,h3⟩
    · exact .inl e
    · exact .inr ⟨g,o,h1,h2,fun j hj=>(World.cell?_of_block (w:=w) (hb.block g (World.block_lt_of_cell? w _ (h3 j hj)) (by have:=h.low; omega) (fun e=>by have:=(own_lt h.own e).1; omega))).trans (h3 j hj)⟩
  ev:=by
    obtain ⟨⟨t,p,h1⟩,⟨t',p',h2⟩⟩:=h.ev
    have:=h.low; have:=h.evB
    exact ⟨⟨t,p,(World.cell?_of_block (w:=w) (hb.block 3 (World.block_lt_of_cell? w _ h1) (by omega) (fun e=>by have:=(own_lt h.own e).1; omega))).trans h1⟩,⟨t',p',(World.cell?_of_block (w:=w) (hb.block 4 (World.block_lt_of_cell? w _ h2) (by omega) (fun e=>by have:=(own_lt h.own e).1; omega))).trans h2⟩⟩
  evB:=h.evB
theorem Near.setOld {rb H o:Nat} {ov:Value} {w w1:World} {u:Value} (hH:w.heap.size ≤ H) (h:Near rb ov w w1):Near rb ov w (w1.setCell ⟨H,o,none⟩ u):=
  ⟨h.os,h.tape,h.output,by rw [setCell_size]; exact h.size,fun k hk hn ho=>by rw [Below.heap_setCell _ _ _ _ (show k ≠ H by omega)]; exact h.block k hk hn ho⟩
theorem own_far {B e s k:Nat} {w:World} {v:Value} {us:List Value} {H o:Nat} {u:Value} (h:w.ownsRow B e s v k us) (hne:v.ownBlock ≠ some H):(w.setCell ⟨H,o,none⟩ u).ownsRow B e s v k us:=by
  refine ⟨h.1,?_⟩
  rcases h.2 with e | ⟨g',cap,cur,q1,q2,q3,q4⟩
  · exact .inl e
  · exact .inr ⟨g',cap,cur,q1,q2,(Below.heap_setCell _ _ _ _ (show g' ≠ H from fun e=>hne (by rw [q1]; show some g' = some H; rw [e]))).trans q3,q4⟩
theorem box9c {rb g:Nat} {ov ov':Value} {B k:Nat} {us:List Value} {w w1:World} (hb:Near rb ov w w1) (hg:w.heap.size ≤ g) (hown:w1.ownsRow B 98 12 ov' k us) (hne:ov'.ownBlock ≠ some g) {c0 c1 c2 c3 c4 c5 c6 c7 c8:Value} (hk:blk w1 g 45 #[c0,c1,c2,c3,c4,c5,c6,c7,c8]) (v0 v1 v2 v3 v4 v5 v6 v7 v8:Value) :
    Near rb ov w (set9 w1 g v0 v1 v2 v3 v4 v5 v6 v7 v8)∧blk (set9 w1 g v0 v1 v2 v3 v4 v5 v6 v7 v8) g 45 #[v0,v1,v2,v3,v4,v5,v6,v7,v8]∧(set9 w1 g v0 v1 v2 v3 v4 v5 v6 v7 v8).ownsRow B 98 12 ov' k us∧∀ r ty cs,r ≠ g → blk w1 r ty cs → blk (set9 w1 g v0 v1 v2 v3 v4 v5 v6 v7 v8) r ty cs:=by
  have m0:=Near.setOld (o:=0) (u:=v0) hg hb
  have m1:=Near.setOld (o:=1) (u:=v1) hg m0
  have m2:=Near.setOld (o:=2) (u:=v2) hg m1
  have m3:=Near.setOld (o:=3) (u:=v3) hg m2
  have m4:=Near.setOld (o:=4) (u:=v4) hg m3
  have m5:=Near.setOld (o:=5) (u:=v5) hg m4
  have m6:=Near.setOld (o:=6) (u:=v6) hg m5
  have m7:=Near.setOld (o:=7) (u:=v7) hg m6
  have m8:=Near.setOld (o:=8) (u:=v8) hg m7
  have o0:=own_far (o:=0) (u:=v0) hown hne
  have o1:=own_far (o:=1) (u:=v1) o0 hne
  have o2:=own_far (o:=2) (u:=v2) o1 hne
  have o3:=own_far (o:=3) (u:=v3) o2 hne
  have o4:=own_far (o:=4) (u:=v4) o3 hne
  have o5:=own_far (o:=5) (u:=v5) o4 hne
  have o6:=own_far (o:=6) (u:=v6) o5 hne
  have o7:=own_far (o:=7) (u:=v7) o6 hne
  have o8:=own_far (o:=8) (u:=v8) o7 hne
  have k0:=hk.s0 v0
  have k1:=k0.s1 v1
  have k2:=k1.s2 v2
  have k3:=k2.s3 v3
  have k4:=k3.s4 v4
  have k5:=k4.s5 v5
  have k6:=k5.s6 v6
  have k7:=k6.s7 v7
  have k8:=k7.s8 v8
  refine ⟨m8,k8,o8,fun r ty cs hr h=>h.keep ?_⟩
  rw [Below.heap_setCell _ _ _ _ hr,Below.heap_setCell _ _ _ _ hr,Below.heap_setCell _ _ _ _ hr,Below.heap_setCell _ _ _ _ hr,Below.heap_setCell _ _ _ _ hr,Below.heap_setCell _ _ _ _ hr,Below.heap_setCell _ _ _ _ hr,Below.heap_setCell _ _ _ _ hr,Below.heap_setCell _ _ _ _ hr]
set_option maxRecDepth 10000 in
set_option maxHeartbeats 1000000 in
theorem value40xL {B rb:Nat} {w:World} {a:Option Addr} {c:Nat} {b:List UInt8} {i n:Nat} {ov:Value} {k:Nat} {us:List Value} (h:SR B rb w a c b i n ov k us) (hn:n ≤ 1048577) {up nt fi:Int} {ky:ByteArray} (hD:DUE k us up nt ky fi) (_hi:i < b.length) (h1:byt b i = 108) (hk:32 ≤ k) :
    Calls Tryz.prog 47 #[.pointer (some ⟨rb,0,none⟩)] w fun e w'=>e = .returned (.tuple #[.agg (sv9 3 i 0 k up nt ky n fi),.int .i64 24])∧SR B rb w' a c b i (n + 1) ov k us∧Besides rb w w':=by
  have hb0:Below w.heap.size w (w.alloc zero9):=(Below.refl _ _).alloc (Nat.le_refl _) _
  have HX:=Lib.hid (And.intro h (And.intro hb0 (And.intro (h.keep hb0) (show blk (w.alloc zero9) w.heap.size 45 #[.int .i64 0,.int .i64 0,.int .i64 0,.int .i64 0,.int .i64 0,.int .i64 0,.string { data:=#[] },.int .i64 0,.int .i64 0] from heap_new w zero9))))
  have HD:=Lib.hid (due54 HX.out.2.2.1 hn hD)
  clear h hb0 hD
  go_enter Tryz.func47,Tryz.ntmps47
  go_wp2_with fail
  refine HD.out.mono ?_
  rintro e w1 ⟨rfl,s1,m1⟩
  have HW:Hid (SR B rb (w1.alloc (Obj.cells #[Value.int .i64 0,Value.int .i64 i,Value.int .i64 0,Value.int .i64 k,Value.int .i64 up,Value.int .i64 nt,Value.string ky,Value.int .i64 n,Value.int .i64 fi] 45)) a c b i (n + 1) ov k us∧blk (w1.alloc (Obj.cells #[Value.int .i64 0,Value.int .i64 i,Value.int .i64 0,Value.int .i64 k,Value.int .i64 up,Value.int .i64 nt,Value.string ky,Value.int .i64 n,Value.int .i64 fi] 45)) w.heap.size 45 #[.int .i64 0,.int .i64 0,.int .i64 0,.int .i64 0,.int .i64 0,.int .i64 0,.string { data:=#[] },.int .i64 0,.int .i64 0]∧blk (w1.alloc (Obj.cells #[Value.int .i64 0,Value.int .i64 i,Value.int .i64 0,Value.int .i64 k,Value.int .i64 up,Value.int .i64 nt,Value.string ky,Value.int .i64 n,Value.int .i64 fi] 45)) w1.heap.size 45 #[.int .i64 0,.int .i64 i,.int .i64 0,.int .i64 k,.int .i64 up,.int .i64 nt,.string ky,.int .i64 n,.int .i64 fi]∧Besides rb w (w1.alloc (Obj.cells #[Value.int .i64 0,Value.int .i64 i,Value.int .i64 0,Value.int .i64 k,Value.int .i64 up,Value.int .i64 nt,Value.string ky,Value.int .i64 n,Value.int .i64 fi] 45))∧w.heap.size < w1.heap.size):=by
    obtain ⟨q1,q2,q3,q4⟩:=HX.out
    have hv:Below w1.heap.size w1 (w1.alloc (Obj.cells #[Value.int .i64 0,Value.int .i64 i,Value.int .i64 0,Value.int .i64 k,Value.int .i64 up,Value.int .i64 nt,Value.string ky,Value.int .i64 n,Value.int .i64 fi] 45)):=(Below.refl _ _).alloc (Nat.le_refl _) _
    have hr:=q1.bk.lt
    have q5:blk w1 w.heap.size 45 _:=q4.keep (m1.block _ q4.lt (by show w.heap.size ≠ rb; omega))
    exact ⟨s1.keep hv,q5.keep (hv.block _ q5.lt),heap_new _ _,((Besides.of_below q2).trans m1).trans (Besides.of_below hv),q5.lt⟩
  clear s1 m1 HD
  go_wp2_with fail
  generalize hV:w1.heap.size = vb at *
  generalize (w1.alloc (Obj.cells #[Value.int .i64 0,Value.int .i64 i,Value.int .i64 0,Value.int .i64 k,Value.int .i64 up,Value.int .i64 nt,Value.string ky,Value.int .i64 n,Value.int .i64 fi] 45)) = W1 at *
  generalize hH:w.heap.size = H at *
  have HH:=Lib.hid hH
  refine (next41 HW.out.1).mono ?_
  rintro e w2 ⟨rfl,hb2⟩
  have H2:Hid (SR B rb w2 a c b i (n + 1) ov k us∧blk w2 H 45 #[.int .i64 0,.int .i64 0,.int .i64 0,.int .i64 0,.int .i64 0,.int .i64 0,.string { data:=#[] },.int .i64 0,.int .i64 0]∧blk w2 vb 45 #[.int .i64 0,.int .i64 i,.int .i64 0,.int .i64 k,.int .i64 up,.int .i64 nt,.string ky,.int .i64 n,.int .i64 fi]∧Besides rb w w2∧H < vb):=by
    obtain ⟨q1,q2,q3,q4,q5⟩:=HW.out
    exact ⟨q1.keep hb2,q2.keep (hb2.block _ q2.lt),q3.keep (hb2.block _ q3.lt),q4.trans (Besides.of_below hb2),q5⟩
  clear hb2 HW hH hV
  rw [h1]
  have hB:=Lib.hid h1
  obtain ⟨b0,b1,b2,b3,b4,b5,b6,b7,b8⟩:=H2.out.2.2.1.cells9
  have x0:=H2.out.2.2.1.frozen 0
  obtain ⟨_,g1,g2,g3,u1,u2,u3⟩:=H2.out.1.cells
  have nvr:vb ≠ rb:=by have:=H2.out.2.2.2.2; have:=HX.out.1.bk.lt; have:=HH.out; omega
  have nrv:rb ≠ vb:=fun e=>nvr e.symm
  have hk32:(32:Int) ≤ (k:Int):=by omega
  have hrH:rb ≠ H:=by have:=HX.out.1.bk.lt; have:=HH.out; omega
  have hHv:H ≠ vb:=by have:=H2.out.2.2.2.2; omega
  obtain ⟨z0,z1,z2,z3,z4,z5,z6,z7,z8⟩:=H2.out.2.1.cells9
  obtain ⟨y0,y1,y2,y3,y4,y5,y6,y7,y8⟩:=H2.out.2.1.frozen9
  go_wp2
  obtain ⟨q1,q2,q3,q4,q5⟩:=H2.out
  have hz:w.heap.size ≤ vb:=by have:=HH.out; omega
  have s1:=HX.out.1.setFar q4 q1 hz 0 (.int .i64 3)
  have m1:=Besides.setOld (o:=0) (u:=.int .i64 3) hz q4
  have p2:blk (w2.setCell ⟨vb,0,none⟩ (.int .i64 3)) H 45 _:=q2.keep (Below.heap_setCell _ _ _ _ hHv)
  generalize w2.setCell ⟨vb,0,none⟩ (.int .i64 3) = Y at *
  obtain ⟨e1,e2,e3⟩:=HX.out.1.box9 m1 s1 (Nat.le_of_eq HH.out) p2 (.int .i64 3) (.int .i64 i) (.int .i64 0) (.int .i64 k) (.int .i64 up) (.int .i64 nt) (.string ky) (.int .i64 n) (.int .i64 fi)
  generalize hX:set9 Y H (.int .i64 3) (.int .i64 i) (.int .i64 0) (.int .i64 k) (.int .i64 up) (.int .i64 nt) (.string ky) (.int .i64 n) (.int .i64 fi) = X at *
  unfold set9 at hX
  rw [hX]
  refine bodyPost_ret (v:=.tuple #[.agg (sv9 3 i 0 k up nt ky n fi),.int .i64 24]) (results_cell47t Tryz.results47 _ _ H _ rfl e3 rfl) rfl ?_
  exact ⟨rfl,e1,e2⟩
set_option maxRecDepth 10000 in
set_option maxHeartbeats 1000000 in
theorem value40xD {B rb:Nat} {w:World} {a:Option Addr} {c:Nat} {b:List UInt8} {i n:Nat} {ov:Value} {k:Nat} {us:List Value} (h:SR B rb w a c b i n ov k us) (hn:n ≤ 1048577) {up nt fi:Int} {ky:ByteArray} (hD:DUE k us up nt ky fi) (_hi:i < b.length) (h1:byt b i = 100) (hk:32 ≤ k) :
    Calls Tryz.prog 47 #[.pointer (some ⟨rb,0,none⟩)] w fun e w'=>e = .returned (.tuple #[.agg (sv9 4 i 0 k up nt ky n fi),.int .i64 24])∧SR B rb w' a c b i (n + 1) ov k us∧Besides rb w w':=by
  have hb0:Below w.heap.size w (w.alloc zero9):=(Below.refl _ _).alloc (Nat.le_refl _) _
  have HX:=Lib.hid (And.intro h (And.intro hb0 (And.intro (h.keep hb0) (show blk (w.alloc zero9) w.heap.size 45 #[.int .i64 0,.int .i64 0,.int .i64 0,.int .i64 0,.int .i64 0,.int .i64 0,.string { data:=#[] },.int .i64 0,.int .i64 0] from heap_new w zero9))))
  have HD:=Lib.hid (due54 HX.out.2.2.1 hn hD)
  clear h hb0 hD
  go_enter Tryz.func47,Tryz.ntmps47
  go_wp2_with fail
  refine HD.out.mono ?_
  rintro e w1 ⟨rfl,s1,m1⟩
  have HW:Hid (SR B rb (w1.alloc (Obj.cells #[Value.int .i64 0,Value.int .i64 i,Value.int .i64 0,Value.int .i64 k,Value.int .i64 up,Value.int .i64 nt,Value.string ky,Value.int .i64 n,Value.int .i64 fi] 45)) a c b i (n + 1) ov k us∧blk (w1.alloc (Obj.cells #[Value.int .i64 0,Value.int .i64 i,Value.int .i64 0,Value.int .i64 k,Value.int .i64 up,Value.int .i64 nt,Value.string ky,Value.int .i64 n,Value.int .i64 fi] 45)) w.heap.size 45 #[.int .i64 0,.int .i64 0,.int .i64 0,.int .i64 0,.int .i64 0,.int .i64 0,.string { data:=#[] },.int .i64 0,.int .i64 0]∧blk (w1.alloc (Obj.cells #[Value.int .i64 0,Value.int .i64 i,Value.int .i64 0,Value.int .i64 k,Value.int .i64 up,Value.int .i64 nt,Value.string ky,Value.int .i64 n,Value.int .i64 fi] 45)) w1.heap.size 45 #[.int .i64 0,.int .i64 i,.int .i64 0,.int .i64 k,.int .i64 up,.int .i64 nt,.string ky,.int .i64 n,.int .i64 fi]∧Besides rb w (w1.alloc (Obj.cells #[Value.int .i64 0,Value.int .i64 i,Value.int .i64 0,Value.int .i64 k,Value.int .i64 up,Value.int .i64 nt,Value.string ky,Value.int .i64 n,Value.int .i64 fi] 45))∧w.heap.size < w1.heap.size):=by
    obtain ⟨q1,q2,q3,q4⟩:=HX.out
    have hv:Below w1.heap.size w1 (w1.alloc (Obj.cells #[Value.int .i64 0,Value.int .i64 i,Value.int .i64 0,Value.int .i64 k,Value.int .i64 up,Value.int .i64 nt,Value.string ky,Value.int .i64 n,Value.int .i64 fi] 45)):=(Below.refl _ _).alloc (Nat.le_refl _) _
    have hr:=q1.bk.lt
    have q5:blk w1 w.heap.size 45 _:=q4.keep (m1.block _ q4.lt (by show w.heap.size ≠ rb; omega))
    exact ⟨s1.keep hv,q5.keep (hv.block _ q5.lt),heap_new _ _,((Besides.of_below q2).trans m1).trans (Besides.of_below hv),q5.lt⟩
  clear s1 m1 HD
  go_wp2_with fail
  generalize hV:w1.heap.size = vb at *
  generalize (w1.alloc (Obj.cells #[Value.int .i64 0,Value.int .i64 i,Value.int .i64 0,Value.int .i64 k,Value.int .i64 up,Value.int .i64 nt,Value.string ky,Value.int .i64 n,Value.int .i64 fi] 45)) = W1 at *
  generalize hH:w.heap.size = H at *
  have HH:=Lib.hid hH
  refine (next41 HW.out.1).mono ?_
  rintro e w2 ⟨rfl,hb2⟩
  have H2:Hid (SR B rb w2 a c b i (n + 1) ov k us∧blk w2 H 45 #[.int .i64 0,.int .i64 0,.int .i64 0,.int .i64 0,.int .i64 0,.int .i64 0,.string { data:=#[] },.int .i64 0,.int .i64 0]∧blk w2 vb 45 #[.int .i64 0,.int .i64 i,.int .i64 0,.int .i64 k,.int .i64 up,.int .i64 nt,.string ky,.int .i64 n,.int .i64 fi]∧Besides rb w w2∧H < vb):=by
    obtain ⟨q1,q2,q3,q4,q5⟩:=HW.out
    exact ⟨q1.keep hb2,q2.keep (hb2.block _ q2.lt),q3.keep (hb2.block _ q3.lt),q4.trans (Besides.of_below hb2),q5⟩
  clear hb2 HW hH hV
  rw [h1]
  have hB:=Lib.hid h1
  obtain ⟨b0,b1,b2,b3,b4,b5,b6,b7,b8⟩:=H2.out.2.2.1.cells9
  have x0:=H2.out.2.2.1.frozen 0
  obtain ⟨_,g1,g2,g3,u1,u2,u3⟩:=H2.out.1.cells
  have nvr:vb ≠ rb:=by have:=H2.out.2.2.2.2; have:=HX.out.1.bk.lt; have:=HH.out; omega
  have nrv:rb ≠ vb:=fun e=>nvr e.symm
  have hk32:(32:Int) ≤ (k:Int):=by omega
  have hrH:rb ≠ H:=by have:=HX.out.1.bk.lt; have:=HH.out; omega
  have hHv:H ≠ vb:=by have:=H2.out.2.2.2.2; omega
  obtain ⟨z0,z1,z2,z3,z4,z5,z6,z7,z8⟩:=H2.out.2.1.cells9
  obtain ⟨y0,y1,y2,y3,y4,y5,y6,y7,y8⟩:=H2.out.2.1.frozen9
  go_wp2
  obtain ⟨q1,q2,q3,q4,q5⟩:=H2.out
  have hz:w.heap.size ≤ vb:=by have:=HH.out; omega
  have s1:=HX.out.1.setFar q4 q1 hz 0 (.int .i64 4)
  have m1:=Besides.setOld (o:=0) (u:=.int .i64 4) hz q4
  have p2:blk (w2.setCell ⟨vb,0,none⟩ (.int .i64 4)) H 45 _:=q2.keep (Below.heap_setCell _ _ _ _ hHv)
  generalize w2.setCell ⟨vb,0,none⟩ (.int .i64 4) = Y at *
  obtain ⟨e1,e2,e3⟩:=HX.out.1.box9 m1 s1 (Nat.le_of_eq HH.out) p2 (.int .i64 4) (.int .i64 i) (.int .i64 0) (.int .i64 k) (.int .i64 up) (.int .i64 nt) (.string ky) (.int .i64 n) (.int .i64 fi)
  generalize hX:set9 Y H (.int .i64 4) (.int .i64 i) (.int .i64 0) (.int .i64 k) (.int .i64 up) (.int .i64 nt) (.string ky) (.int .i64 n) (.int .i64 fi) = X at *
  unfold set9 at hX
  rw [hX]
  refine bodyPost_ret (v:=.tuple #[.agg (sv9 4 i 0 k up nt ky n fi),.int .i64 24]) (results_cell47t Tryz.results47 _ _ H _ rfl e3 rfl) rfl ?_
  exact ⟨rfl,e1,e2⟩
theorem built94SA (c0 c1 c2 c3 c4 c5:Int) (k:ByteArray) (c7 c8:Int):Tryz.prog.built 98 [(0,.agg #[.int .i64 c0,.int .i64 c1,.int .i64 c2,.int .i64 c3,.int .i64 c4,.int .i64 c5,.string k,.int .i64 c7,.int .i64 c8])] = some #[.int .i64 c0,.int .i64 c1,.int .i64 c2,.int .i64 c3,.int .i64 c4,.int .i64 c5,.string k,.int .i64 c7,.int .i64 c8,.int .i64 0,.string { data:=#[] },.int .i64 0]:=by kernel_rfl
theorem yieldsIf_buildSA {P:Program} {ops:Array Oper} {S:World → Prop} {o:Oper} {a:Act} (hw:Region.wanted o (yielded ops a.tmps) = true) (t:TypeId) (parts:Array (Nat × Operand)) (ho:o.op = .build t parts) (cells:Array Value)
    (hf:P.built t (parts.map fun (i,x)=>(i,a.eval x)).toList = some cells):YieldsIf P ops S o (.agg cells) a:=
  .inl ⟨hw,fun w _=>by unfold execOp; simp only [ho,Sem.run_bind,run_build w t _ cells hf,Result.andThen_ok,Sem.run_pure]⟩
set_option maxRecDepth 10000 in
set_option maxHeartbeats 2000000 in
theorem value40D {B rb:Nat} {w:World} {a:Option Addr} {c:Nat} {b:List UInt8} {i n:Nat} {ov:Value} {k:Nat} {us:List Value} (h:SR B rb w a c b i n ov k us) (hn:n ≤ 1048577) {up nt fi:Int} {ky:ByteArray} (hD:DUE k us up nt ky fi) (hi:i < b.length) (h1:byt b i = 100) (hk:k < 32) :
    Calls Tryz.prog 47 #[.pointer (some ⟨rb,0,none⟩)] w fun e w'=>∃ ov',e = .returned (.tuple #[.agg (sv9 4 i 0 k up nt ky n fi),.int .i64 0])∧SR B rb w' a c b (i + 1) (n + 1) ov' (k + 1) (us ++ [.int .i64 4,.int .i64 i,.int .i64 0,.int .i64 k,.int .i64 up,.int .i64 nt,.string ky,.int .i64 n,.int .i64 fi,.int .i64 0,.string ByteArray.empty,.int .i64 0])∧Near rb ov w w':=by
  have hb0:Below w.heap.size w (w.alloc zero9):=(Below.refl _ _).alloc (Nat.le_refl _) _
  have HX:=Lib.hid (And.intro h (And.intro hb0 (And.intro (h.keep hb0) (show blk (w.alloc zero9) w.heap.size 45 #[.int .i64 0,.int .i64 0,.int .i64 0,.int .i64 0,.int .i64 0,.int .i64 0,.string { data:=#[] },.int .i64 0,.int .i64 0] from heap_new w zero9))))
  have HD:=Lib.hid (due54 HX.out.2.2.1 hn hD)
  clear h hb0 hD
  go_enter Tryz.func47,Tryz.ntmps47
  go_wp2_with fail
  refine HD.out.mono ?_
  rintro e w1 ⟨rfl,s1,m1⟩
  have HW:Hid (SR B rb (w1.alloc (Obj.cells #[Value.int .i64 0,Value.int .i64 i,Value.int .i64 0,Value.int .i64 k,Value.int .i64 up,Value.int .i64 nt,Value.string ky,Value.int .i64 n,Value.int .i64 fi] 45)) a c b i (n + 1) ov k us∧blk (w1.alloc (Obj.cells #[Value.int .i64 0,Value.int .i64 i,Value.int .i64 0,Value.int .i64 k,Value.int .i64 up,Value.int .i64 nt,Value.string ky,Value.int .i64 n,Value.int .i64 fi] 45)) w.heap.size 45 #[.int .i64 0,.int .i64 0,.int .i64 0,.int .i64 0,.int .i64 0,.int .i64 0,.string { data:=#[] },.int .i64 0,.int .i64 0]∧blk (w1.alloc (Obj.cells #[Value.int .i64 0,Value.int .i64 i,Value.int .i64 0,Value.int .i64 k,Value.int .i64 up,Value.int .i64 nt,Value.string ky,Value.int .i64 n,Value.int .i64 fi] 45)) w1.heap.size 45 #[.int .i64 0,.int .i64 i,.int .i64 0,.int .i64 k,.int .i64 up,.int .i64 nt,.string ky,.int .i64 n,.int .i64 fi]∧Besides rb w (w1.alloc (Obj.cells #[Value.int .i64 0,Value.int .i64 i,Value.int .i64 0,Value.int .i64 k,Value.int .i64 up,Value.int .i64 nt,Value.string ky,Value.int .i64 n,Value.int .i64 fi] 45))∧w.heap.size < w1.heap.size):=by
    obtain ⟨q1,q2,q3,q4⟩:=HX.out
    have hv:Below w1.heap.size w1 (w1.alloc (Obj.cells #[Value.int .i64 0,Value.int .i64 i,Value.int .i64 0,Value.int .i64 k,Value.int .i64 up,Value.int .i64 nt,Value.string ky,Value.int .i64 n,Value.int .i64 fi] 45)):=(Below.refl _ _).alloc (Nat.le_refl _) _
    have hr:=q1.bk.lt
    have q5:blk w1 w.heap.size 45 _:=q4.keep (m1.block _ q4.lt (by show w.heap.size ≠ rb; omega))
    exact ⟨s1.keep hv,q5.keep (hv.block _ q5.lt),heap_new _ _,((Besides.of_below q2).trans m1).trans (Besides.of_below hv),q5.lt⟩
  clear s1 m1 HD
  go_wp2_with fail
  generalize hV:w1.heap.size = vb at *
  generalize (w1.alloc (Obj.cells #[Value.int .i64 0,Value.int .i64 i,Value.int .i64 0,Value.int .i64 k,Value.int .i64 up,Value.int .i64 nt,Value.string ky,Value.int .i64 n,Value.int .i64 fi] 45)) = W1 at *
  generalize hH:w.heap.size = H at *
  have HH:=Lib.hid hH
  refine (next41 HW.out.1).mono ?_
  rintro e w2 ⟨rfl,hb2⟩
  have H2:Hid (SR B rb w2 a c b i (n + 1) ov k us∧blk w2 H 45 #[.int .i64 0,.int .i64 0,.int .i64 0,.int .i64 0,.int .i64 0,.int .i64 0,.string { data:=#[] },.int .i64 0,.int .i64 0]∧blk w2 vb 45 #[.int .i64 0,.int .i64 i,.int .i64 0,.int .i64 k,.int .i64 up,.int .i64 nt,.string ky,.int .i64 n,.int .i64 fi]∧Besides rb w w2∧H < vb):=by
    obtain ⟨q1,q2,q3,q4,q5⟩:=HW.out
    exact ⟨q1.keep hb2,q2.keep (hb2.block _ q2.lt),q3.keep (hb2.block _ q3.lt),q4.trans (Besides.of_below hb2),q5⟩
  clear hb2 HW hH hV
  rw [h1]
  have hB:=Lib.hid h1
  obtain ⟨b0,b1,b2,b3,b4,b5,b6,b7,b8⟩:=H2.out.2.2.1.cells9
  have x0:=H2.out.2.2.1.frozen 0
  obtain ⟨_,g1,g2,g3,u1,u2,u3⟩:=H2.out.1.cells
  have nvr:vb ≠ rb:=by have:=H2.out.2.2.2.2; have:=HX.out.1.bk.lt; have:=HH.out; omega
  have nrv:rb ≠ vb:=fun e=>nvr e.symm
  have hk32:¬ (32:Int) ≤ (k:Int):=by omega
  have hk33:(k:Int) < 32:=by omega
  have hil:(i:Int) ≤ 1048575:=by have:=H2.out.1.lim; omega
  go_wp2_with fail
  have H3:Hid (SR B rb ((w2.setCell ⟨vb,0,none⟩ (.int .i64 4)).setCell ⟨rb,1,none⟩ (.int .i64 ((i:Int) + 1))) a c b (i + 1) (n + 1) ov k us∧blk ((w2.setCell ⟨vb,0,none⟩ (.int .i64 4)).setCell ⟨rb,1,none⟩ (.int .i64 ((i:Int) + 1))) H 45 #[.int .i64 0,.int .i64 0,.int .i64 0,.int .i64 0,.int .i64 0,.int .i64 0,.string { data:=#[] },.int .i64 0,.int .i64 0]∧blk ((w2.setCell ⟨vb,0,none⟩ (.int .i64 4)).setCell ⟨rb,1,none⟩ (.int .i64 ((i:Int) + 1))) vb 45 #[.int .i64 4,.int .i64 i,.int .i64 0,.int .i64 k,.int .i64 up,.int .i64 nt,.string ky,.int .i64 n,.int .i64 fi]∧Besides rb w ((w2.setCell ⟨vb,0,none⟩ (.int .i64 4)).setCell ⟨rb,1,none⟩ (.int .i64 ((i:Int) + 1)))∧H < vb):=by
    obtain ⟨q1,q2,q3,q4,q5⟩:=H2.out
    have hz:w.heap.size ≤ vb:=by have:=HH.out; omega
    have hrH:H ≠ rb:=by have:=HX.out.1.bk.lt; have:=HH.out; omega
    have s1:=HX.out.1.setFar q4 q1 hz 0 (.int .i64 4)
    have m1:=Besides.setOld (o:=0) (u:=.int .i64 4) hz q4
    exact ⟨s1.set (o:=1) (i':=i + 1) (n':=n + 1) hi rfl,(q2.keep (Below.heap_setCell _ _ _ _ (by show H ≠ vb; omega))).keep (Below.heap_setCell _ _ _ _ hrH),(q3.s0 _).keep (Below.heap_setCell _ _ _ _ nvr),m1.set1,q5⟩
  generalize ((w2.setCell ⟨vb,0,none⟩ (.int .i64 4)).setCell ⟨rb,1,none⟩ (.int .i64 ((i:Int) + 1))) = W at *
  clear b0 b1 b2 b3 b4 b5 b6 b7 b8 x0 g1 g2 g3 u1 u2 u3 H2
  obtain ⟨b0,b1,b2,b3,b4,b5,b6,b7,b8⟩:=H3.out.2.2.1.cells9
  obtain ⟨_,g1,g2,g3,u1,u2,u3⟩:=H3.out.1.cells
  have hov:∃ oa oc,ov = .slice oa k oc:=by
    rcases H3.out.1.own.2 with ⟨rfl,e⟩ | ⟨g,cap,cur,q1,_⟩
    · obtain rfl:k = 0:=by omega
      exact ⟨_,_,rfl⟩
    · exact ⟨_,_,q1⟩
  obtain ⟨oa,oc,rfl⟩:=hov
  have hsz:B ≤ W.heap.size:=Nat.le_trans H3.out.1.low (Nat.le_of_lt H3.out.1.bk.lt)
  have hbO:Below W.heap.size W (W.alloc (Obj.cells #[.int .i64 4,.int .i64 i,.int .i64 0,.int .i64 k,.int .i64 up,.int .i64 nt,.string ky,.int .i64 n,.int .i64 fi,.int .i64 0,.string { data:=#[] },.int .i64 0] 98)):=(Below.refl _ _).alloc (Nat.le_refl _) _
  have hown5:(W.alloc (Obj.cells #[.int .i64 4,.int .i64 i,.int .i64 0,.int .i64 k,.int .i64 up,.int .i64 nt,.string ky,.int .i64 n,.int .i64 fi,.int .i64 0,.string { data:=#[] },.int .i64 0] 98)).drew.ownsRow B 98 12 (.slice oa k oc) k us:=own_keep (H3.out.1.keep hbO).own (fun x _ hx=>rfl)
  have HOW:=Lib.hid hown5
  have HNE:Hid ((Value.slice oa k oc).ownBlock ≠ some rb∧(Value.slice oa k oc).ownBlock ≠ some vb):=⟨H3.out.1.ne,fun e=>by
    have:=(own_lt HX.out.1.own e).2
    have:=H3.out.2.2.2.2
    have:=HH.out
    omega⟩
  obtain ⟨i0,hi0,hz0,hz1,hz2⟩:=info_parts info94
  have hBs:B ≤ (W.alloc (Obj.cells #[.int .i64 4,.int .i64 i,.int .i64 0,.int .i64 k,.int .i64 up,.int .i64 nt,.string ky,.int .i64 n,.int .i64 fi,.int .i64 0,.string { data:=#[] },.int .i64 0] 98)).drew.heap.size:=Nat.le_trans hsz hbO.size
  clear hown5
  have g3a:(W.alloc (Obj.cells #[.int .i64 4,.int .i64 i,.int .i64 0,.int .i64 k,.int .i64 up,.int .i64 nt,.string ky,.int .i64 n,.int .i64 fi,.int .i64 0,.string { data:=#[] },.int .i64 0] 98)).cell? ⟨rb,3,none⟩ = some (.slice oa k oc):=cell_alloc_old g3
  refine wp_region_held_drew (S:=fun w'=>w'.cell? ⟨vb,0,none⟩ = some (.int .i64 4)∧w'.cell? ⟨vb,1,none⟩ = some (.int .i64 i)∧w'.cell? ⟨vb,2,none⟩ = some (.int .i64 0)∧w'.cell? ⟨vb,3,none⟩ = some (.int .i64 k)∧w'.cell? ⟨vb,4,none⟩ = some (.int .i64 up)∧w'.cell? ⟨vb,5,none⟩ = some (.int .i64 nt)∧w'.cell? ⟨vb,6,none⟩ = some (.string ky)∧w'.cell? ⟨vb,7,none⟩ = some (.int .i64 n)∧w'.cell? ⟨vb,8,none⟩ = some (.int .i64 fi)) (by kernel_rfl) (⟨b0,b1,b2,b3,b4,b5,b6,b7,b8⟩) (fun hHeld=>?_)
  refine wpAnyH_take (i:=0) (v:=.pointer (some ⟨rb,0,none⟩)) rfl (by kernel_rfl) (by kernel_rfl) (by kernel_rfl) (fun _ _ _ h=>h) (Or.inl ⟨by rfl,fun w hw=>by go_simp⟩) hHeld ?_
  simp only [Act.put,List.getElem_toArray,List.getElem_cons_zero,List.setIfInBounds_toArray,List.set_cons_zero,List.set_cons_succ]
  refine wpAnyH_take (i:=1) (v:=.pointer (some ⟨rb,0,none⟩)) rfl (by kernel_rfl) (by kernel_rfl) (by kernel_rfl) (fun _ _ _ h=>h) (Or.inl ⟨by rfl,fun w hw=>by go_simp⟩) hHeld ?_
  simp only [Act.put,List.getElem_toArray,List.getElem_cons_zero,List.getElem_cons_succ,List.setIfInBounds_toArray,List.set_cons_zero,List.set_cons_succ]
  refine wpAnyH_take (i:=2) (v:=.pointer (some ⟨rb,0,none⟩)) rfl (by kernel_rfl) (by kernel_rfl) (by kernel_rfl) (fun _ _ _ h=>h) (Or.inl ⟨by rfl,fun w hw=>by go_simp⟩) hHeld ?_
  simp only [Act.put,List.getElem_toArray,List.getElem_cons_zero,List.getElem_cons_succ,List.setIfInBounds_toArray,List.set_cons_zero,List.set_cons_succ]
  refine wpAnyH_take (i:=3) (v:=.pointer (some ⟨rb,3,none⟩)) rfl (by kernel_rfl) (by kernel_rfl) (by kernel_rfl) (fun _ _ _ h=>h) (Or.inl ⟨by rfl,fun w hw=>by go_simp⟩) hHeld ?_
  simp only [Act.put,List.getElem_toArray,List.getElem_cons_zero,List.getElem_cons_succ,List.setIfInBounds_toArray,List.set_cons_zero,List.set_cons_succ]
  refine wpAnyH_take (i:=5) (v:=.agg #[.int .i64 4,.int .i64 i,.int .i64 0,.int .i64 k,.int .i64 up,.int .i64 nt,.string ky,.int .i64 n,.int .i64 fi]) rfl (by kernel_rfl) (by kernel_rfl) (by kernel_rfl) (fun _ _ _ h=>h) (Or.inl ⟨by rfl,fun w hw=>by obtain ⟨c0,c1,c2,c3,c4,c5,c6,c7,c8⟩:=hw; go_simp⟩) hHeld ?_
  simp only [Act.put,List.getElem_toArray,List.getElem_cons_zero,List.getElem_cons_succ,List.setIfInBounds_toArray,List.set_cons_zero,List.set_cons_succ]
  refine wpAnyH_take (i:=6) (v:=.agg #[.int .i64 4,.int .i64 i,.int .i64 0,.int .i64 k,.int .i64 up,.int .i64 nt,.string ky,.int .i64 n,.int .i64 fi,.int .i64 0,.string { data:=#[] },.int .i64 0]) rfl (by kernel_rfl) (by kernel_rfl) (by kernel_rfl) (fun _ _ _ h=>h) (yieldsIf_buildSA (by rfl) 98 _ rfl _ (by rw [Array.toList_map]; exact built94SA _ _ _ _ _ _ _ _ _)) hHeld ?_
  simp only [Act.put,List.getElem_toArray,List.getElem_cons_zero,List.getElem_cons_succ,List.setIfInBounds_toArray,List.set_cons_zero,List.set_cons_succ]
  refine wpAnyH_ready (rs:=[4,7]) (by kernel_rfl) (by simp) ?_
  refine AllReadyH.cons (o:=_) rfl (fun K hK=>?_) (AllReadyH.cons (o:=_) rfl (fun K hK=>?_) AllReadyH.nil)
  · go_simp
    refine hK.out _ _ hHeld (fun hHeld=>?_)
    clear hK K
    refine wpAnyH_ready (rs:=[7]) (by kernel_rfl) (by simp) ?_
    refine AllReadyH.cons (o:=_) rfl (fun K hK=>?_) AllReadyH.nil
    go_simp
    refine hK.out _ _ (⟨cell_alloc_old b0,cell_alloc_old b1,cell_alloc_old b2,cell_alloc_old b3,cell_alloc_old b4,cell_alloc_old b5,cell_alloc_old b6,cell_alloc_old b7,cell_alloc_old b8⟩) (fun hHeld=>?_)
    clear hK K
    refine wpAnyH_ready (rs:=[8]) (by kernel_rfl) (by simp) ?_
    refine AllReadyH.cons (o:=_) rfl (fun K hK=>?_) AllReadyH.nil
    refine step_append_lies _ (by rfl) (.tmp 52) (.tmp 55) 76 (by rfl) B 98 i0 _ 12 112 Tryz.underlying76 hi0 hz0 hz1 hz2 rfl (by omega) (.slice oa k oc) k us (by simp [Act.eval]) (by exact HOW.out) ⟨W.heap.size,0,none⟩ 1 1 [.int .i64 4,.int .i64 i,.int .i64 0,.int .i64 k,.int .i64 up,.int .i64 nt,.string ky,.int .i64 n,.int .i64 fi,.int .i64 0,.string { data:=#[] },.int .i64 0] (by simp [Act.eval]) rfl (by exact World.news_of_block (B:=W.heap.size) (heap_new W _)) (by intro u hu; simp at hu; rcases hu with rfl | rfl | rfl | rfl | rfl | rfl | rfl | rfl | rfl | rfl | rfl | rfl <;> rfl) (by omega) (by unfold maxLen; omega) (by omega) (by exact hBs) (W.heap.size + 1) (by simp) ?_
    intro g cap w5 hown5 hgrow hat hlt5
    have m3:=grown_cell hgrow (p:=⟨rb,3,none⟩) (cell_alloc_old g3) HNE.out.1.symm
    have mf:=grown_frozen hgrow (p:=⟨rb,3,none⟩) (cell_alloc_old g3) ((frozen_alloc_old g3).trans u3) HNE.out.1.symm
    have v0:=grown_cell hgrow (p:=⟨vb,0,none⟩) (cell_alloc_old b0) HNE.out.2.symm
    have v1:=grown_cell hgrow (p:=⟨vb,1,none⟩) (cell_alloc_old b1) HNE.out.2.symm
    have v2:=grown_cell hgrow (p:=⟨vb,2,none⟩) (cell_alloc_old b2) HNE.out.2.symm
    have v3:=grown_cell hgrow (p:=⟨vb,3,none⟩) (cell_alloc_old b3) HNE.out.2.symm
    have v4:=grown_cell hgrow (p:=⟨vb,4,none⟩) (cell_alloc_old b4) HNE.out.2.symm
    have v5:=grown_cell hgrow (p:=⟨vb,5,none⟩) (cell_alloc_old b5) HNE.out.2.symm
    have v6:=grown_cell hgrow (p:=⟨vb,6,none⟩) (cell_alloc_old b6) HNE.out.2.symm
    have v7:=grown_cell hgrow (p:=⟨vb,7,none⟩) (cell_alloc_old b7) HNE.out.2.symm
    have v8:=grown_cell hgrow (p:=⟨vb,8,none⟩) (cell_alloc_old b8) HNE.out.2.symm
    refine hK.out _ _ ⟨v0,v1,v2,v3,v4,v5,v6,v7,v8⟩ (fun hHeld=>?_)
    clear hK K
    refine wpAnyH_take (i:=9) (v:=.pointer (some ⟨rb,0,none⟩)) rfl (by kernel_rfl) (by kernel_rfl) (by kernel_rfl) (fun _ _ _ h=>h) (Or.inl ⟨by rfl,fun w hw=>by go_simp⟩) hHeld ?_
    simp only [Act.put,List.getElem_toArray,List.getElem_cons_zero,List.getElem_cons_succ,List.setIfInBounds_toArray,List.set_cons_zero,List.set_cons_succ]
    refine wpAnyH_take (i:=10) (v:=.pointer (some ⟨rb,3,none⟩)) rfl (by kernel_rfl) (by kernel_rfl) (by kernel_rfl) (fun _ _ _ h=>h) (Or.inl ⟨by rfl,fun w hw=>by go_simp⟩) hHeld ?_
    simp only [Act.put,List.getElem_toArray,List.getElem_cons_zero,List.getElem_cons_succ,List.setIfInBounds_toArray,List.set_cons_zero,List.set_cons_succ]
    refine wpAnyH_ready (rs:=[11]) (by kernel_rfl) (by simp) ?_
    refine AllReadyH.cons (o:=_) rfl (fun K hK=>?_) AllReadyH.nil
    go_simp
    refine hK.out _ _ ⟨(World.cell?_of_block (w:=w5) (Below.heap_setCell _ _ _ _ nvr)).trans v0,(World.cell?_of_block (w:=w5) (Below.heap_setCell _ _ _ _ nvr)).trans v1,(World.cell?_of_block (w:=w5) (Below.heap_setCell _ _ _ _ nvr)).trans v2,(World.cell?_of_block (w:=w5) (Below.heap_setCell _ _ _ _ nvr)).trans v3,(World.cell?_of_block (w:=w5) (Below.heap_setCell _ _ _ _ nvr)).trans v4,(World.cell?_of_block (w:=w5) (Below.heap_setCell _ _ _ _ nvr)).trans v5,(World.cell?_of_block (w:=w5) (Below.heap_setCell _ _ _ _ nvr)).trans v6,(World.cell?_of_block (w:=w5) (Below.heap_setCell _ _ _ _ nvr)).trans v7,(World.cell?_of_block (w:=w5) (Below.heap_setCell _ _ _ _ nvr)).trans v8⟩ (fun hHeld=>?_)
    clear hK K hHeld
    refine wpAnyH_done (by kernel_rfl) ?_ _
    have HF:Hid (blk (w5.setCell ⟨rb,3,none⟩ (.slice (some ⟨g,0,none⟩) (k + 1) cap)) H 45 #[.int .i64 0,.int .i64 0,.int .i64 0,.int .i64 0,.int .i64 0,.int .i64 0,.string { data:=#[] },.int .i64 0,.int .i64 0]∧blk (w5.setCell ⟨rb,3,none⟩ (.slice (some ⟨g,0,none⟩) (k + 1) cap)) vb 45 #[.int .i64 4,.int .i64 i,.int .i64 0,.int .i64 k,.int .i64 up,.int .i64 nt,.string ky,.int .i64 n,.int .i64 fi]∧blk (w5.setCell ⟨rb,3,none⟩ (.slice (some ⟨g,0,none⟩) (k + 1) cap)) rb 78 #[.slice a b.length c,.int .i64 ((i + 1:Nat):Int),.int .i64 ((n + 1:Nat):Int),.slice (some ⟨g,0,none⟩) (k + 1) cap]∧Near rb (.slice oa k oc) w (w5.setCell ⟨rb,3,none⟩ (.slice (some ⟨g,0,none⟩) (k + 1) cap))∧(w5.setCell ⟨rb,3,none⟩ (.slice (some ⟨g,0,none⟩) (k + 1) cap)).ownsRow B 98 12 (.slice (some ⟨g,0,none⟩) (k + 1) cap) (k + 1) (us ++ [.int .i64 4,.int .i64 i,.int .i64 0,.int .i64 k,.int .i64 up,.int .i64 nt,.string ky,.int .i64 n,.int .i64 fi,.int .i64 0,.string { data:=#[] },.int .i64 0])∧g ≠ rb∧g ≠ H∧rb ≠ H):=by
      obtain ⟨q1,q2,q3,q4,q5⟩:=H3.out
      have hrH:rb < H:=by have:=HX.out.1.bk.lt; have:=HH.out; omega
      have hgb:∀ x,x < W.heap.size → some x ≠ (Value.slice oa k oc).ownBlock → w5.heap[x]? = W.heap[x]?:=fun x hx hn=>(hgrow.block x (Nat.lt_of_lt_of_le hx hbO.size) hn).trans (hbO.block x hx)
      have hHo:some H ≠ (Value.slice oa k oc).ownBlock:=fun e=>by have:=(own_lt HX.out.1.own e.symm).2; have:=HH.out; omega
      have hgrb:g ≠ rb:=by
        rcases hat with e | e
        · exact fun e'=>HNE.out.1 (by rw [e,e'])
        · have:=q1.bk.lt; omega
      have hgH:g ≠ H:=by
        rcases hat with e | e
        · exact fun e'=>hHo (by rw [e,e'])
        · have:=q2.lt; omega
      have r1:blk w5 rb 78 _:=q1.bk.keep (hgb _ q1.bk.lt HNE.out.1.symm)
      have r2:blk w5 H 45 _:=q2.keep (hgb _ q2.lt hHo)
      have r3:blk w5 vb 45 _:=q3.keep (hgb _ q3.lt HNE.out.2.symm)
      have hN5:Near rb (.slice oa k oc) w w5:=⟨hgrow.os.trans q4.os,hgrow.tape.trans q4.tape,hgrow.output.trans q4.output,Nat.le_trans q4.size (Nat.le_trans hbO.size hgrow.size),fun x hx hn ho=>(hgb x (Nat.lt_of_lt_of_le hx q4.size) (fun e=>ho e.symm)).trans (q4.block x hx hn)⟩
      exact ⟨r2.keep (Below.heap_setCell _ _ _ _ (by show H ≠ rb; omega)),r3.keep (Below.heap_setCell _ _ _ _ nvr),r1.set 3 _,hN5.trans (Near.of ((Besides.refl rb w5).set1)),own_far hown5 (fun e=>hgrb (Option.some.inj e)),hgrb,hgH,by omega⟩
    generalize (w5.setCell ⟨rb,3,none⟩ (.slice (some ⟨g,0,none⟩) (k + 1) cap)) = Y at *
    clear b0 b1 b2 b3 b4 b5 b6 b7 b8 m3 mf v0 v1 v2 v3 v4 v5 v6 v7 v8 g1 g2 g3 u1 u2 u3 g3a hgrow hown5
    obtain ⟨b0,b1,b2,b3,b4,b5,b6,b7,b8⟩:=HF.out.2.1.cells9
    obtain ⟨z0,z1,z2,z3,z4,z5,z6,z7,z8⟩:=HF.out.1.cells9
    obtain ⟨x0,x1,x2,x3,x4,x5,x6,x7,x8⟩:=HF.out.1.frozen9
    go_wp2
    obtain ⟨y1,y2,y3,y4⟩:=box9c HF.out.2.2.2.1 (Nat.le_of_eq HH.out) HF.out.2.2.2.2.1 (fun e=>HF.out.2.2.2.2.2.2.1 (Option.some.inj e)) HF.out.1 (.int .i64 4) (.int .i64 i) (.int .i64 0) (.int .i64 k) (.int .i64 up) (.int .i64 nt) (.string ky) (.int .i64 n) (.int .i64 fi)
    generalize hX:set9 Y H (.int .i64 4) (.int .i64 i) (.int .i64 0) (.int .i64 k) (.int .i64 up) (.int .i64 nt) (.string ky) (.int .i64 n) (.int .i64 fi) = X at *
    unfold set9 at hX
    rw [hX]
    refine bodyPost_ret (v:=.tuple #[.agg (sv9 4 i 0 k up nt ky n fi),.int .i64 0]) (results_cell47t Tryz.results47 _ _ H _ rfl y2 rfl) rfl ?_
    exact ⟨_,rfl,HX.out.1.remakeN y1 (y4 rb _ _ HF.out.2.2.2.2.2.2.2 HF.out.2.2.1) y3 (fun e=>HF.out.2.2.2.2.2.1 (Option.some.inj e)) hi,y1⟩
  · go_simp
    refine hK.out _ _ (⟨cell_alloc_old b0,cell_alloc_old b1,cell_alloc_old b2,cell_alloc_old b3,cell_alloc_old b4,cell_alloc_old b5,cell_alloc_old b6,cell_alloc_old b7,cell_alloc_old b8⟩) (fun hHeld=>?_)
    clear hK K
    refine wpAnyH_ready (rs:=[4]) (by kernel_rfl) (by simp) ?_
    refine AllReadyH.cons (o:=_) rfl (fun K hK=>?_) AllReadyH.nil
    go_simp
    refine hK.out _ _ (hHeld) (fun hHeld=>?_)
    clear hK K
    refine wpAnyH_ready (rs:=[8]) (by kernel_rfl) (by simp) ?_
    refine AllReadyH.cons (o:=_) rfl (fun K hK=>?_) AllReadyH.nil
    refine step_append_lies _ (by rfl) (.tmp 52) (.tmp 55) 76 (by rfl) B 98 i0 _ 12 112 Tryz.underlying76 hi0 hz0 hz1 hz2 rfl (by omega) (.slice oa k oc) k us (by simp [Act.eval]) (by exact HOW.out) ⟨W.heap.size,0,none⟩ 1 1 [.int .i64 4,.int .i64 i,.int .i64 0,.int .i64 k,.int .i64 up,.int .i64 nt,.string ky,.int .i64 n,.int .i64 fi,.int .i64 0,.string { data:=#[] },.int .i64 0] (by simp [Act.eval]) rfl (by exact World.news_of_block (B:=W.heap.size) (heap_new W _)) (by intro u hu; simp at hu; rcases hu with rfl | rfl | rfl | rfl | rfl | rfl | rfl | rfl | rfl | rfl | rfl | rfl <;> rfl) (by omega) (by unfold maxLen; omega) (by omega) (by exact hBs) (W.heap.size + 1) (by simp) ?_
    intro g cap w5 hown5 hgrow hat hlt5
    have m3:=grown_cell hgrow (p:=⟨rb,3,none⟩) (cell_alloc_old g3) HNE.out.1.symm
    have mf:=grown_frozen hgrow (p:=⟨rb,3,none⟩) (cell_alloc_old g3) ((frozen_alloc_old g3).trans u3) HNE.out.1.symm
    have v0:=grown_cell hgrow (p:=⟨vb,0,none⟩) (cell_alloc_old b0) HNE.out.2.symm
    have v1:=grown_cell hgrow (p:=⟨vb,1,none⟩) (cell_alloc_old b1) HNE.out.2.symm
    have v2:=grown_cell hgrow (p:=⟨vb,2,none⟩) (cell_alloc_old b2) HNE.out.2.symm
    have v3:=grown_cell hgrow (p:=⟨vb,3,none⟩) (cell_alloc_old b3) HNE.out.2.symm
    have v4:=grown_cell hgrow (p:=⟨vb,4,none⟩) (cell_alloc_old b4) HNE.out.2.symm
    have v5:=grown_cell hgrow (p:=⟨vb,5,none⟩) (cell_alloc_old b5) HNE.out.2.symm
    have v6:=grown_cell hgrow (p:=⟨vb,6,none⟩) (cell_alloc_old b6) HNE.out.2.symm
    have v7:=grown_cell hgrow (p:=⟨vb,7,none⟩) (cell_alloc_old b7) HNE.out.2.symm
    have v8:=grown_cell hgrow (p:=⟨vb,8,none⟩) (cell_alloc_old b8) HNE.out.2.symm
    refine hK.out _ _ ⟨v0,v1,v2,v3,v4,v5,v6,v7,v8⟩ (fun hHeld=>?_)
    clear hK K
    refine wpAnyH_take (i:=9) (v:=.pointer (some ⟨rb,0,none⟩)) rfl (by kernel_rfl) (by kernel_rfl) (by kernel_rfl) (fun _ _ _ h=>h) (Or.inl ⟨by rfl,fun w hw=>by go_simp⟩) hHeld ?_
    simp only [Act.put,List.getElem_toArray,List.getElem_cons_zero,List.getElem_cons_succ,List.setIfInBounds_toArray,List.set_cons_zero,List.set_cons_succ]
    refine wpAnyH_take (i:=10) (v:=.pointer (some ⟨rb,3,none⟩)) rfl (by kernel_rfl) (by kernel_rfl) (by kernel_rfl) (fun _ _ _ h=>h) (Or.inl ⟨by rfl,fun w hw=>by go_simp⟩) hHeld ?_
    simp only [Act.put,List.getElem_toArray,List.getElem_cons_zero,List.getElem_cons_succ,List.setIfInBounds_toArray,List.set_cons_zero,List.set_cons_succ]
    refine wpAnyH_ready (rs:=[11]) (by kernel_rfl) (by simp) ?_
    refine AllReadyH.cons (o:=_) rfl (fun K hK=>?_) AllReadyH.nil
    go_simp
    refine hK.out _ _ ⟨(World.cell?_of_block (w:=w5) (Below.heap_setCell _ _ _ _ nvr)).trans v0,(World.cell?_of_block (w:=w5) (Below.heap_setCell _ _ _ _ nvr)).trans v1,(World.cell?_of_block (w:=w5) (Below.heap_setCell _ _ _ _ nvr)).trans v2,(World.cell?_of_block (w:=w5) (Below.heap_setCell _ _ _ _ nvr)).trans v3,(World.cell?_of_block (w:=w5) (Below.heap_setCell _ _ _ _ nvr)).trans v4,(World.cell?_of_block (w:=w5) (Below.heap_setCell _ _ _ _ nvr)).trans v5,(World.cell?_of_block (w:=w5) (Below.heap_setCell _ _ _ _ nvr)).trans v6,(World.cell?_of_block (w:=w5) (Below.heap_setCell _ _ _ _ nvr)).trans v7,(World.cell?_of_block (w:=w5) (Below.heap_setCell _ _ _ _ nvr)).trans v8⟩ (fun hHeld=>?_)
    clear hK K hHeld
    refine wpAnyH_done (by kernel_rfl) ?_ _
    have HF:Hid (blk (w5.setCell ⟨rb,3,none⟩ (.slice (some ⟨g,0,none⟩) (k + 1) cap)) H 45 #[.int .i64 0,.int .i64 0,.int .i64 0,.int .i64 0,.int .i64 0,.int .i64 0,.string { data:=#[] },.int .i64 0,.int .i64 0]∧blk (w5.setCell ⟨rb,3,none⟩ (.slice (some ⟨g,0,none⟩) (k + 1) cap)) vb 45 #[.int .i64 4,.int .i64 i,.int .i64 0,.int .i64 k,.int .i64 up,.int .i64 nt,.string ky,.int .i64 n,.int .i64 fi]∧blk (w5.setCell ⟨rb,3,none⟩ (.slice (some ⟨g,0,none⟩) (k + 1) cap)) rb 78 #[.slice a b.length c,.int .i64 ((i + 1:Nat):Int),.int .i64 ((n + 1:Nat):Int),.slice (some ⟨g,0,none⟩) (k + 1) cap]∧Near rb (.slice oa k oc) w (w5.setCell ⟨rb,3,none⟩ (.slice (some ⟨g,0,none⟩) (k + 1) cap))∧(w5.setCell ⟨rb,3,none⟩ (.slice (some ⟨g,0,none⟩) (k + 1) cap)).ownsRow B 98 12 (.slice (some ⟨g,0,none⟩) (k + 1) cap) (k + 1) (us ++ [.int .i64 4,.int .i64 i,.int .i64 0,.int .i64 k,.int .i64 up,.int .i64 nt,.string ky,.int .i64 n,.int .i64 fi,.int .i64 0,.string { data:=#[] },.int .i64 0])∧g ≠ rb∧g ≠ H∧rb ≠ H):=by
      obtain ⟨q1,q2,q3,q4,q5⟩:=H3.out
      have hrH:rb < H:=by have:=HX.out.1.bk.lt; have:=HH.out; omega
      have hgb:∀ x,x < W.heap.size → some x ≠ (Value.slice oa k oc).ownBlock → w5.heap[x]? = W.heap[x]?:=fun x hx hn=>(hgrow.block x (Nat.lt_of_lt_of_le hx hbO.size) hn).trans (hbO.block x hx)
      have hHo:some H ≠ (Value.slice oa k oc).ownBlock:=fun e=>by have:=(own_lt HX.out.1.own e.symm).2; have:=HH.out; omega
      have hgrb:g ≠ rb:=by
        rcases hat with e | e
        · exact fun e'=>HNE.out.1 (by rw [e,e'])
        · have:=q1.bk.lt; omega
      have hgH:g ≠ H:=by
        rcases hat with e | e
        · exact fun e'=>hHo (by rw [e,e'])
        · have:=q2.lt; omega
      have r1:blk w5 rb 78 _:=q1.bk.keep (hgb _ q1.bk.lt HNE.out.1.symm)
      have r2:blk w5 H 45 _:=q2.keep (hgb _ q2.lt hHo)
      have r3:blk w5 vb 45 _:=q3.keep (hgb _ q3.lt HNE.out.2.symm)
      have hN5:Near rb (.slice oa k oc) w w5:=⟨hgrow.os.trans q4.os,hgrow.tape.trans q4.tape,hgrow.output.trans q4.output,Nat.le_trans q4.size (Nat.le_trans hbO.size hgrow.size),fun x hx hn ho=>(hgb x (Nat.lt_of_lt_of_le hx q4.size) (fun e=>ho e.symm)).trans (q4.block x hx hn)⟩
      exact ⟨r2.keep (Below.heap_setCell _ _ _ _ (by show H ≠ rb; omega)),r3.keep (Below.heap_setCell _ _ _ _ nvr),r1.set 3 _,hN5.trans (Near.of ((Besides.refl rb w5).set1)),own_far hown5 (fun e=>hgrb (Option.some.inj e)),hgrb,hgH,by omega⟩
    generalize (w5.setCell ⟨rb,3,none⟩ (.slice (some ⟨g,0,none⟩) (k + 1) cap)) = Y at *
    clear b0 b1 b2 b3 b4 b5 b6 b7 b8 m3 mf v0 v1 v2 v3 v4 v5 v6 v7 v8 g1 g2 g3 u1 u2 u3 g3a hgrow hown5
    obtain ⟨b0,b1,b2,b3,b4,b5,b6,b7,b8⟩:=HF.out.2.1.cells9
    obtain ⟨z0,z1,z2,z3,z4,z5,z6,z7,z8⟩:=HF.out.1.cells9
    obtain ⟨x0,x1,x2,x3,x4,x5,x6,x7,x8⟩:=HF.out.1.frozen9
    go_wp2
    obtain ⟨y1,y2,y3,y4⟩:=box9c HF.out.2.2.2.1 (Nat.le_of_eq HH.out) HF.out.2.2.2.2.1 (fun e=>HF.out.2.2.2.2.2.2.1 (Option.some.inj e)) HF.out.1 (.int .i64 4) (.int .i64 i) (.int .i64 0) (.int .i64 k) (.int .i64 up) (.int .i64 nt) (.string ky) (.int .i64 n) (.int .i64 fi)
    generalize hX:set9 Y H (.int .i64 4) (.int .i64 i) (.int .i64 0) (.int .i64 k) (.int .i64 up) (.int .i64 nt) (.string ky) (.int .i64 n) (.int .i64 fi) = X at *
    unfold set9 at hX
    rw [hX]
    refine bodyPost_ret (v:=.tuple #[.agg (sv9 4 i 0 k up nt ky n fi),.int .i64 0]) (results_cell47t Tryz.results47 _ _ H _ rfl y2 rfl) rfl ?_
    exact ⟨_,rfl,HX.out.1.remakeN y1 (y4 rb _ _ HF.out.2.2.2.2.2.2.2 HF.out.2.2.1) y3 (fun e=>HF.out.2.2.2.2.2.1 (Option.some.inj e)) hi,y1⟩
end Go.Proofs.YtdlnnnlmlaploabGreatDoor
