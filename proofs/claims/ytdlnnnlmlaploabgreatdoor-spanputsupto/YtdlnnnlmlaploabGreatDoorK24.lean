import Derived.Test.YtdlnnnlmlaploabGreatDoorK23
import Derived.Test.YtdlnnnlmlaploabGreatDoorK22
namespace Go.Proofs.YtdlnnnlmlaploabGreatDoor
open Go.RowKit Go.Deep
def gtr (key:ByteArray) (v:Vi):Bool:=decide (v.dp = 1) && !decide (v.to = 0) && Op.bytesLess key.toList v.ky.toList
abbrev goR (key:ByteArray) (h:List Vi):Bool:=!(kyF h).any (fun k=>Op.bytesLess key.toList k.toList)
theorem goR_snoc (key:ByteArray) (h:List Vi) (v:Vi):goR key (h ++ [v]) = (goR key h && !gtr key v):=by
  unfold goR gtr
  rw [kyF_snoc]
  by_cases hc:v.dp = 1∧v.to ≠ 0
  · rw [if_pos hc,List.any_append,decide_eq_true hc.1,decide_eq_false hc.2]
    simp
  · rw [if_neg hc]
    by_cases h1:v.dp = 1
    · have h2:v.to = 0:=Classical.byContradiction fun e=>hc ⟨h1,e⟩
      rw [decide_eq_true h2]; simp
    · rw [decide_eq_false h1]; simp
theorem Nx.went {b:List UInt8} {key:ByteArray} {h:List Vi} {v:Vi} (H:Nx b (goR key) h v):goR key h = true:=by
  have key':∀ {s:RS},Rch b (goR key) h s → goR key h = true:=fun {s} hr=>by
    cases h with
    | nil=>rfl
    | cons a r =>
      have:=hr.went (a :: r).length (by simp) (Nat.le_refl _)
      rwa [List.take_length] at this
  rcases H with ⟨ls,i,n,ls',i',hr,_⟩ | ⟨l,r,i,n,hr,_⟩
  · exact key' hr
  · exact key' hr
structure NearR (Lb Nb:Nat) (w w':World):Prop where
  os:w'.os = w.os
  tape:w'.tape = w.tape
  output:w'.output = w.output
  size:w.heap.size ≤ w'.heap.size
  block:∀ k,k < w.heap.size → k ≠ Lb → k ≠ Nb → w'.heap[k]? = w.heap[k]?
structure RBx (Sb Ab Lb Nb:Nat) (at':Int) (key:ByteArray) (q:Vi) (pl n:Int) (w:World):Prop where
  s:blk w Sb 51 #[.int .i64 at',.string key]
  a:blk w Ab 45 (Vi.cs q)
  l:blk w Lb 3 #[.int .i64 pl]
  n:blk w Nb 3 #[.int .i64 n]
structure RNe (Sb Ab Lb Nb Pb:Nat):Prop where
  ls:Lb ≠ Sb
  la:Lb ≠ Ab
  ln:Lb ≠ Nb
  lp:Lb ≠ Pb
  ns:Nb ≠ Sb
  na:Nb ≠ Ab
  np:Nb ≠ Pb
theorem RBx.keep {Sb Ab Lb Nb:Nat} {at':Int} {key:ByteArray} {q:Vi} {pl n:Int} {w w':World} (h:RBx Sb Ab Lb Nb at' key q pl n w) (hk:∀ k,k = Sb ∨ k = Ab ∨ k = Lb ∨ k = Nb → w'.heap[k]? = w.heap[k]?):RBx Sb Ab Lb Nb at' key q pl n w':=
  ⟨h.s.keep (hk _ (.inl rfl)),h.a.keep (hk _ (.inr (.inl rfl))),h.l.keep (hk _ (.inr (.inr (.inl rfl)))),h.n.keep (hk _ (.inr (.inr (.inr rfl))))⟩
theorem RBx.setL {Sb Ab Lb Nb Pb:Nat} {at':Int} {key:ByteArray} {q:Vi} {pl n:Int} {w:World} (h:RBx Sb Ab Lb Nb at' key q pl n w) (hne:RNe Sb Ab Lb Nb Pb) (u:Int):RBx Sb Ab Lb Nb at' key q u n (w.setCell ⟨Lb,0,none⟩ (.int .i64 u))∧NearR Lb Nb w (w.setCell ⟨Lb,0,none⟩ (.int .i64 u)):=by
  have hk:∀ k,k ≠ Lb → (w.setCell ⟨Lb,0,none⟩ (.int .i64 u)).heap[k]? = w.heap[k]?:=fun k hk=>Below.heap_setCell _ _ _ _ hk
  exact ⟨⟨h.s.keep (hk _ hne.ls.symm),h.a.keep (hk _ hne.la.symm),h.l.set 0 _,h.n.keep (hk _ hne.ln.symm)⟩,⟨rfl,rfl,rfl,by rw [setCell_size]; exact Nat.le_refl _,fun k _ h1 _=>hk k h1⟩⟩
theorem RBx.setN {Sb Ab Lb Nb Pb:Nat} {at':Int} {key:ByteArray} {q:Vi} {pl n:Int} {w:World} (h:RBx Sb Ab Lb Nb at' key q pl n w) (hne:RNe Sb Ab Lb Nb Pb) (u:Int):RBx Sb Ab Lb Nb at' key q pl u (w.setCell ⟨Nb,0,none⟩ (.int .i64 u))∧NearR Lb Nb w (w.setCell ⟨Nb,0,none⟩ (.int .i64 u)):=by
  have hk:∀ k,k ≠ Nb → (w.setCell ⟨Nb,0,none⟩ (.int .i64 u)).heap[k]? = w.heap[k]?:=fun k hk=>Below.heap_setCell _ _ _ _ hk
  exact ⟨⟨h.s.keep (hk _ hne.ns.symm),h.a.keep (hk _ hne.na.symm),h.l.keep (hk _ hne.ln),h.n.set 0 _⟩,⟨rfl,rfl,rfl,by rw [setCell_size]; exact Nat.le_refl _,fun k _ _ h2=>hk k h2⟩⟩
theorem NearR.of_below {Lb Nb:Nat} {w w1 w2:World} (h:Below w.heap.size w w1) (k:NearR Lb Nb w1 w2):NearR Lb Nb w w2:=
  ⟨k.os.trans h.os,k.tape.trans h.tape,k.output.trans h.output,Nat.le_trans h.size k.size,fun q hq h1 h2=>(k.block q (Nat.lt_of_lt_of_le hq h.size) h1 h2).trans (h.block q hq)⟩
theorem near_below {Lb Nb:Nat} {w w1:World} (h:Below w.heap.size w w1):NearR Lb Nb w w1:=⟨h.os,h.tape,h.output,h.size,fun q hq _ _=>h.block q hq⟩
theorem gr_of {x y:List UInt8} (h:Op.bytesLess x y = true):Op.bytesLess y x = false∧(y == x) = false:=by
  have h2:=bytes_tri y x
  rw [h] at h2
  exact (Bool.or_eq_false_iff).1 h2.symm
theorem gr_no {x y:List UInt8} (h:Op.bytesLess x y = false):Op.bytesLess y x = true ∨ (Op.bytesLess y x = false∧(y == x) = true):=by
  have h2:=bytes_tri y x
  rw [h] at h2
  cases hq:Op.bytesLess y x with
  | true=>exact .inl rfl
  | false=>rw [hq] at h2; exact .inr ⟨rfl,h2.symm⟩
set_option maxRecDepth 10000 in
set_option maxHeartbeats 1000000 in
theorem room52 {w:World} {Sb Ab Lb Nb Pb:Nat} (hne:RNe Sb Ab Lb Nb Pb) (v q:Vi) (at':Int) (key:ByteArray) (pl n:Int) (hx:RBx Sb Ab Lb Nb at' key q pl n w) (hn0:0 ≤ n) (hn1:n ≤ 1048577) (hf0:0 ≤ q.fr) (hf1:q.fr ≤ 1048576) (hv:Op.bytesLess key.toList v.ky.toList = true → 0 ≤ v.fi∧v.fi ≤ 1048576) :
    Calls Tryz.prog 52 #[.agg (Vi.cs v),.pointer (some ⟨Sb,0,none⟩),.pointer (some ⟨Ab,0,none⟩),.pointer (some ⟨Lb,0,none⟩),.pointer (some ⟨Nb,0,none⟩)] w fun e w'=>e = .returned (.bool (!Op.bytesLess key.toList v.ky.toList))∧RBx Sb Ab Lb Nb at' key q (if Op.bytesLess key.toList v.ky.toList = true then q.fr + v.fi else pl) (if Op.bytesLess key.toList v.ky.toList = true then n else n + 1) w'∧NearR Lb Nb w w':=by
  obtain ⟨kd,fr,to,dp,up,nt,ky,pl0,fi⟩:=v
  obtain ⟨qkd,qfr,qto,qdp,qup,qnt,qky,qpl,qfi⟩:=q
  have b0:Below w.heap.size w (w.alloc (Obj.cells (Vi.cs ⟨kd,fr,to,dp,up,nt,ky,pl0,fi⟩) 45)):=(Below.refl _ _).alloc (Nat.le_refl _) _
  have hx1:RBx Sb Ab Lb Nb at' key ⟨qkd,qfr,qto,qdp,qup,qnt,qky,qpl,qfi⟩ pl n (w.alloc (Obj.cells (Vi.cs ⟨kd,fr,to,dp,up,nt,ky,pl0,fi⟩) 45)):=hx.keep (fun k hk=>b0.block k (by rcases hk with rfl | rfl | rfl | rfl; exact hx.s.lt; exact hx.a.lt; exact hx.l.lt; exact hx.n.lt))
  have HX:=Lib.hid (And.intro hx1 b0)
  have s1:(w.alloc (Obj.cells (Vi.cs ⟨kd,fr,to,dp,up,nt,ky,pl0,fi⟩) 45)).cell? ⟨Sb,1,none⟩ = some (.string key):=hx1.s.cell 1
  have a1:(w.alloc (Obj.cells (Vi.cs ⟨kd,fr,to,dp,up,nt,ky,pl0,fi⟩) 45)).cell? ⟨Ab,1,none⟩ = some (.int .i64 qfr):=hx1.a.cell 1
  have l0:(w.alloc (Obj.cells (Vi.cs ⟨kd,fr,to,dp,up,nt,ky,pl0,fi⟩) 45)).cell? ⟨Lb,0,none⟩ = some (.int .i64 pl):=hx1.l.cell 0
  have n0:(w.alloc (Obj.cells (Vi.cs ⟨kd,fr,to,dp,up,nt,ky,pl0,fi⟩) 45)).cell? ⟨Nb,0,none⟩ = some (.int .i64 n):=hx1.n.cell 0
  have lf:=hx1.l.frozen 0
  have nf:=hx1.n.frozen 0
  have hf0':0 ≤ qfr:=hf0
  have hf1':qfr ≤ 1048576:=hf1
  have hv':Op.bytesLess key.toList ky.toList = true → 0 ≤ fi∧fi ≤ 1048576:=hv
  show Calls Tryz.prog 52 #[.agg (Vi.cs ⟨kd,fr,to,dp,up,nt,ky,pl0,fi⟩),.pointer (some ⟨Sb,0,none⟩),.pointer (some ⟨Ab,0,none⟩),.pointer (some ⟨Lb,0,none⟩),.pointer (some ⟨Nb,0,none⟩)] w fun e w'=>e = .returned (.bool (!Op.bytesLess key.toList ky.toList))∧RBx Sb Ab Lb Nb at' key ⟨qkd,qfr,qto,qdp,qup,qnt,qky,qpl,qfi⟩ (if Op.bytesLess key.toList ky.toList = true then qfr + fi else pl) (if Op.bytesLess key.toList ky.toList = true then n else n + 1) w'∧NearR Lb Nb w w'
  clear hx hx1 b0 hf0 hf1 hv
  by_cases hl:Op.bytesLess key.toList ky.toList = true
  · obtain ⟨v0,v1⟩:=hv' hl
    obtain ⟨g1,g2⟩:=gr_of hl
    rw [hl]
    clear hv'
    go_enter Tryz.func52,Tryz.ntmps52
    go_wp2
    go_ret
    obtain ⟨z1,z2⟩:=HX.out.1.setL hne (qfr + fi)
    exact ⟨rfl,z1,.of_below HX.out.2 z2⟩
  · have hl':Op.bytesLess key.toList ky.toList = false:=by simpa using hl
    have HG:=Lib.hid (gr_no hl')
    rw [hl']
    clear hv'
    have fin:∀ {w':World},w' = ((w.alloc (Obj.cells (Vi.cs ⟨kd,fr,to,dp,up,nt,ky,pl0,fi⟩) 45)).setCell ⟨Nb,0,none⟩ (.int .i64 (n + 1))) → Ending.returned (Value.bool true) = .returned (.bool (!false))∧RBx Sb Ab Lb Nb at' key ⟨qkd,qfr,qto,qdp,qup,qnt,qky,qpl,qfi⟩ (if false = true then qfr + fi else pl) (if false = true then n else n + 1) w'∧NearR Lb Nb w w':=by
      rintro w' rfl
      obtain ⟨z1,z2⟩:=HX.out.1.setN hne (n + 1)
      exact ⟨rfl,z1,.of_below HX.out.2 z2⟩
    rcases HG.out with g1 | ⟨g1,g2⟩
    · go_enter Tryz.func52,Tryz.ntmps52
      go_wp2
      go_ret
      exact fin rfl
    · go_enter Tryz.func52,Tryz.ntmps52
      go_wp2
      go_ret
      exact fin rfl
abbrev roomC (Sb Ab Lb Nb:Nat):Value:=.func (.func 52) #[] #[.pointer (some ⟨Sb,0,none⟩),.pointer (some ⟨Ab,0,none⟩),.pointer (some ⟨Lb,0,none⟩),.pointer (some ⟨Nb,0,none⟩)]
def nxN (key:ByteArray) (v:Vi) (n:Int):Int:=if v.dp = 1∧v.to ≠ 0 then (if Op.bytesLess key.toList v.ky.toList = true then n else n + 1) else n
set_option maxRecDepth 10000 in
set_option maxHeartbeats 1000000 in
theorem parts46R {w:World} {Sb Ab Lb Nb Pb:Nat} (hne:RNe Sb Ab Lb Nb Pb) (v q:Vi) (at':Int) (key:ByteArray) (pl n:Int) (hx:RBx Sb Ab Lb Nb at' key q pl n w) (hn0:0 ≤ n) (hn1:n ≤ 1048577) (hf0:0 ≤ q.fr) (hf1:q.fr ≤ 1048576) (hv:gtr key v = true → 0 ≤ v.fi∧v.fi ≤ 1048576) (hP:blk w Pb 75 #[roomC Sb Ab Lb Nb]) :
    Calls Tryz.prog 46 #[.agg (Vi.cs v),.pointer (some ⟨Pb,0,none⟩)] w fun e w'=>e = .returned (.bool (!gtr key v))∧RBx Sb Ab Lb Nb at' key q (if gtr key v = true then q.fr + v.fi else pl) (nxN key v n) w'∧NearR Lb Nb w w':=by
  obtain ⟨kd,fr,to,dp,up,nt,ky,pl0,fi⟩:=v
  have b0:Below w.heap.size w (w.alloc (Obj.cells (Vi.cs ⟨kd,fr,to,dp,up,nt,ky,pl0,fi⟩) 45)):=(Below.refl _ _).alloc (Nat.le_refl _) _
  have hP1:=hP.keep (b0.block _ hP.lt)
  have p0:(w.alloc (Obj.cells (Vi.cs ⟨kd,fr,to,dp,up,nt,ky,pl0,fi⟩) 45)).cell? ⟨Pb,0,none⟩ = some (roomC Sb Ab Lb Nb):=hP1.cell 0
  have hx1:RBx Sb Ab Lb Nb at' key q pl n (w.alloc (Obj.cells (Vi.cs ⟨kd,fr,to,dp,up,nt,ky,pl0,fi⟩) 45)):=hx.keep (fun k hk=>b0.block k (by rcases hk with rfl | rfl | rfl | rfl; exact hx.s.lt; exact hx.a.lt; exact hx.l.lt; exact hx.n.lt))
  have HO:Hid (RBx Sb Ab Lb Nb at' key q pl n (w.alloc (Obj.cells (Vi.cs ⟨kd,fr,to,dp,up,nt,ky,pl0,fi⟩) 45))∧Below w.heap.size w (w.alloc (Obj.cells (Vi.cs ⟨kd,fr,to,dp,up,nt,ky,pl0,fi⟩) 45))):=⟨hx1,b0⟩
  have no:∀ {w':World},w' = (w.alloc (Obj.cells (Vi.cs ⟨kd,fr,to,dp,up,nt,ky,pl0,fi⟩) 45)) → ¬ (dp = 1∧to ≠ 0) → Ending.returned (.bool true) = .returned (.bool (!gtr key ⟨kd,fr,to,dp,up,nt,ky,pl0,fi⟩))∧RBx Sb Ab Lb Nb at' key q (if gtr key ⟨kd,fr,to,dp,up,nt,ky,pl0,fi⟩ = true then q.fr + fi else pl) (nxN key ⟨kd,fr,to,dp,up,nt,ky,pl0,fi⟩ n) w'∧NearR Lb Nb w w':=by
    rintro w' rfl hn
    have hg:gtr key ⟨kd,fr,to,dp,up,nt,ky,pl0,fi⟩ = false:=by
      unfold gtr
      by_cases h1:dp = 1
      · have h2:to = 0:=Classical.byContradiction fun e=>hn ⟨h1,e⟩
        simp [h2]
      · simp [h1]
    have hz:nxN key ⟨kd,fr,to,dp,up,nt,ky,pl0,fi⟩ n = n:=if_neg hn
    rw [hg,hz]
    exact ⟨rfl,HO.out.1,near_below HO.out.2⟩
  clear hx hx1 hP hP1 b0
  by_cases hd:dp = 1
  · subst hd
    by_cases ht:to = 0
    · subst ht
      go_enter Tryz.func46,Tryz.ntmps46
      go_wp2
      go_ret
      exact no rfl (fun h=>h.2 rfl)
    · have ht':(to == 0) = false:=beq_eq_false_iff_ne.2 ht
      have hg:gtr key ⟨kd,fr,to,1,up,nt,ky,pl0,fi⟩ = Op.bytesLess key.toList ky.toList:=by unfold gtr; simp [ht]
      have HK:=Lib.hid (room52 hne ⟨kd,fr,to,1,up,nt,ky,pl0,fi⟩ q at' key pl n HO.out.1 hn0 hn1 hf0 hf1 (fun h=>hv (hg.trans h)))
      have HG:=Lib.hid hg
      have hz:nxN key ⟨kd,fr,to,1,up,nt,ky,pl0,fi⟩ n = (if Op.bytesLess key.toList ky.toList = true then n else n + 1):=if_pos ⟨rfl,ht⟩
      simp only [hg,hz]
      clear no hv hg hz HG
      have HF:Hid (∀ (w1:World),RBx Sb Ab Lb Nb at' key q (if Op.bytesLess key.toList ky.toList = true then q.fr + fi else pl) (if Op.bytesLess key.toList ky.toList = true then n else n + 1) w1∧NearR Lb Nb (w.alloc (Obj.cells (Vi.cs ⟨kd,fr,to,1,up,nt,ky,pl0,fi⟩) 45)) w1 → RBx Sb Ab Lb Nb at' key q (if Op.bytesLess key.toList ky.toList = true then q.fr + fi else pl) (if Op.bytesLess key.toList ky.toList = true then n else n + 1) w1∧NearR Lb Nb w w1):=fun w1 h=>⟨h.1,.of_below HO.out.2 h.2⟩
      clear HO
      generalize Op.bytesLess key.toList ky.toList = B at *
      generalize (if B = true then q.fr + fi else pl) = X at *
      generalize (if B = true then n else n + 1) = Y at *
      go_enter Tryz.func46,Tryz.ntmps46
      go_wp2_with fail
      refine HK.out.mono ?_
      rintro e w1 ⟨rfl,k1,k2⟩
      have HX:=Lib.hid (HF.out w1 ⟨k1,k2⟩)
      clear k1 k2 HK HF
      cases B
      all_goals
        go_wp2
        go_ret
        exact ⟨rfl,HX.out.1,HX.out.2⟩
  · have hd':(dp != 1) = true:=by simpa using hd
    have hg:gtr key ⟨kd,fr,to,dp,up,nt,ky,pl0,fi⟩ = false:=by unfold gtr; simp [hd]
    have hz:nxN key ⟨kd,fr,to,dp,up,nt,ky,pl0,fi⟩ n = n:=if_neg (fun h=>hd h.1)
    simp only [hg,hz]
    clear no hv hg hz
    go_enter Tryz.func46,Tryz.ntmps46
    go_wp2
    go_ret
    exact ⟨rfl,HO.out.1,near_below HO.out.2⟩
def RMP (key:ByteArray) (F U1:Int) (h:List Vi) (pl n:Int):Prop:=
  (goR key h = true → pl = U1∧n = ((kyF h).length:Int))∧(goR key h = false → ∃ h0 v,h = h0 ++ [v]∧goR key h0 = true∧v.dp = 1∧v.to ≠ 0∧Op.bytesLess key.toList v.ky.toList = true∧pl = F + v.fi)
def JR (Sb Ab Lb Nb Pb A:Nat) (at':Int) (key:ByteArray) (q:Vi) (U1:Int) (h:List Vi) (w:World) (S:Nat → Prop):Prop:=
  RNe Sb Ab Lb Nb Pb∧(A ≤ Sb∧A ≤ Ab∧A ≤ Lb∧A ≤ Nb∧A ≤ Pb)∧blk w Pb 75 #[roomC Sb Ab Lb Nb]∧(∃ pl n,RBx Sb Ab Lb Nb at' key q pl n w∧RMP key q.fr U1 h pl n)∧∀ k,S k ↔ (k = Sb ∨ k = Ab ∨ k = Lb ∨ k = Nb ∨ k = Pb)
theorem empty_less (x:List UInt8):Op.bytesLess x ByteArray.empty.toList = false:=by rw [empty_nil]; cases x <;> rfl
theorem begins_le {b:List UInt8} (hlim:b.length ≤ 1048576) {go:List Vi → Bool} {h:List Vi} {v:Vi} (H:Nx b go h v) {k n:Int} {s:ByteArray} {ln:Nat} {l:Nat → T} {dn:Nat} {ky:Nat → ByteArray} {dv:Nat → T} {kk:Nat} (hd:DOUT b (.mk k n s ln l dn ky dv) kk 0) (hv:VT (.mk k n s ln l dn ky dv)) {key:ByteArray} (hg:gtr key v = true):v.dp = 1∧v.to ≠ 0∧Op.bytesLess key.toList v.ky.toList = true∧k = 4∧0 ≤ v.fi∧v.fi ≤ 1048576:=by
  unfold gtr at hg
  simp only [Bool.and_eq_true,decide_eq_true_eq,Bool.not_eq_true',decide_eq_false_iff_not] at hg
  obtain ⟨⟨h1,h2⟩,h3⟩:=hg
  refine ⟨h1,h2,h3,?_⟩
  rcases H.begins hlim hd hv h1 with ⟨_,e⟩ | ⟨rfl,i,i1,_,e⟩
  · rw [e,empty_less] at h3; cases h3
  · have h4:=catN_lt (c:=fun i=>wtx (ky i) ++ txt (dv i)) i1
    have h5:=txt_ge hv
    have h6:b.length = _:=congrArg List.length (dout_txt hd).1
    refine ⟨rfl,?_,?_⟩ <;> rw [e] <;> omega
theorem visR {b:List UInt8} (hlim:b.length ≤ 1048576) {k n:Int} {s:ByteArray} {ln:Nat} {l:Nat → T} {dn:Nat} {ky:Nat → ByteArray} {dv:Nat → T} {kk:Nat} (hd:DOUT b (.mk k n s ln l dn ky dv) kk 0) (hvt:VT (.mk k n s ln l dn ky dv)) {Sb Ab Lb Nb Pb A:Nat} {at':Int} {key:ByteArray} {q:Vi} {U1:Int} (hf0:0 ≤ q.fr) (hf1:q.fr ≤ 1048576):Vis b 46 #[.pointer (some ⟨Pb,0,none⟩)] (goR key) (JR Sb Ab Lb Nb Pb A at' key q U1) A where
  keep:=fun h w w' S ⟨h1,h2,h3,⟨pl,n,h4,h5⟩,h6⟩ hs hk=>by
    have hb:∀ k,k = Sb ∨ k = Ab ∨ k = Lb ∨ k = Nb → w'.heap[k]? = w.heap[k]?:=fun k hk'=>hk k (.inl ((h6 k).2 (by
      rcases hk' with e | e | e | e
      · exact .inl e
      · exact .inr (.inl e)
      · exact .inr (.inr (.inl e))
      · exact .inr (.inr (.inr (.inl e))))))
    exact ⟨h1,h2,h3.keep (hk Pb (.inl ((h6 Pb).2 (.inr (.inr (.inr (.inr rfl))))))),⟨pl,n,h4.keep hb,h5⟩,h6⟩
  own:=fun h w S ⟨h1,⟨a1,a2,a3,a4,a5⟩,h3,⟨pl,n,h4,h5⟩,h6⟩ k hk=>by
    rcases (h6 k).1 hk with rfl | rfl | rfl | rfl | rfl
    · exact ⟨a1,_,_,_,h4.s,by decide,by decide⟩
    · exact ⟨a2,_,_,_,h4.a,by decide,by decide⟩
    · exact ⟨a3,_,_,_,h4.l,by decide,by decide⟩
    · exact ⟨a4,_,_,_,h4.n,by decide,by decide⟩
    · exact ⟨a5,_,_,_,h3,by decide,by decide⟩
  enter:=fun args w=>by
    show (callFunc 46 args).run Tryz.prog w = .ok (.enter 46 args) w
    kernel_rfl
  call:=fun h w S v ⟨h1,h2,h3,⟨pl,m,h4,h5⟩,h6⟩ hx=>by
    have hgo:=hx.went
    obtain ⟨e1,e2⟩:=h5.1 hgo
    have hlen:(kyF h).length ≤ 1048577:=by
      have hk:=kyF_len h
      rcases hx with ⟨ls,i,n,ls',i',hr,hv⟩ | ⟨l,r,i,n,hr,hi,_,rfl⟩
      · have a1:h.length ≤ i:=hr.hlen hlim
        have a2:i ≤ b.length:=(hr.ok hlim).1
        omega
      · have a1:h.length ≤ i:=hr.hlen hlim
        omega
    refine (parts46R h1 v q at' key pl m h4 (by omega) (by omega) hf0 hf1 (fun hg=>(begins_le hlim hx hd hvt hg).2.2.2.2) h3).mono ?_
    rintro e w' ⟨rfl,k1,k2⟩
    have hgo2:goR key (h ++ [v]) = !gtr key v:=by rw [goR_snoc,hgo,Bool.true_and]
    refine ⟨by rw [hgo2],S,⟨h1,h2,h3.keep (k2.block Pb h3.lt h1.lp.symm h1.np.symm),⟨_,_,k1,?_⟩,h6⟩,⟨k2.os,k2.tape,k2.output,k2.size,fun k hk hn=>k2.block k hk (fun e=>hn ((h6 k).2 (.inr (.inr (.inl e))))) (fun e=>hn ((h6 k).2 (.inr (.inr (.inr (.inl e)))))),fun k hk=>.inl hk⟩⟩
    refine ⟨fun hg=>?_,fun hg=>?_⟩
    · rw [hgo2] at hg
      have hg':gtr key v = false:=by simpa using hg
      rw [hg',if_neg (by decide)]
      refine ⟨e1,?_⟩
      rw [kyF_snoc]
      unfold nxN
      by_cases hc:v.dp = 1∧v.to ≠ 0
      · rw [if_pos hc,if_pos hc]
        have hl:Op.bytesLess key.toList v.ky.toList = false:=by
          unfold gtr at hg'
          rw [decide_eq_true hc.1,decide_eq_false hc.2] at hg'
          simpa using hg'
        rw [if_neg (by rw [hl]; decide),List.length_append,List.length_singleton,e2]
        omega
      · rw [if_neg hc,if_neg hc]; exact e2
    · rw [hgo2] at hg
      have hg':gtr key v = true:=by simpa using hg
      obtain ⟨b1,b2,b3,_⟩:=begins_le hlim hx hd hvt hg'
      exact ⟨h,v,rfl,hgo,b1,b2,b3,if_pos hg'⟩
set_option maxRecDepth 10000 in
set_option maxHeartbeats 2000000 in
theorem parts28R {w:World} {Sb Ab Lb Nb A:Nat} (g o c:Nat) (b:List UInt8) (q:Vi) (F U:Nat) (hF:q.fr = (F:Int)) (hU:q.to = (U:Int)) (hFU:F < U) (hUb:U ≤ b.length) (hlim:b.length ≤ 1048576) (hr:RB w (.slice (some ⟨g,o,none⟩) b.length c) b) (hev:EVw w) {k n:Int} {s:ByteArray} {ln:Nat} {l:Nat → T} {dn:Nat} {ky:Nat → ByteArray} {dv:Nat → T} {kk:Nat} (hd:DOUT ((b.drop F).take (U - F)) (.mk k n s ln l dn ky dv) kk 0) (hvt:VT (.mk k n s ln l dn ky dv)) {at':Int} {key:ByteArray} {q0:Vi} (hq0:q0.fr = (F:Int)) {U1:Int} (hx:RBx Sb Ab Lb Nb at' key q0 U1 0 w) (hne:Lb ≠ Sb∧Lb ≠ Ab∧Lb ≠ Nb∧Nb ≠ Sb∧Nb ≠ Ab) (hA:A ≤ Sb∧A ≤ Ab∧A ≤ Lb∧A ≤ Nb) (hAw:A ≤ w.heap.size) (hgA:g < A) (h4:4 < A) :
    Calls Tryz.prog 28 #[.slice (some ⟨g,o,none⟩) b.length c,.agg (Vi.cs q),roomC Sb Ab Lb Nb] w fun e w'=>e = .returned (.tuple #[])∧∃ h pp er pl m,Fin ((b.drop F).take (U - F)) (goR key) h pp er∧RBx Sb Ab Lb Nb at' key q0 pl m w'∧RMP key F U1 h pl m∧Below A w w':=by
  obtain ⟨kd,fr,to,dp,up,nt,ky0,pl,fi⟩:=q
  obtain rfl:fr = (F:Int):=hF
  obtain rfl:to = (U:Int):=hU
  have HR:=Lib.hid (And.intro hr (And.intro hev (And.intro hx (And.intro hd hvt))))
  clear hr hev hx
  have f0:(0:Int) ≤ (F:Int):=by omega
  have f1:(F:Int) ≤ (U:Int):=by omega
  obtain ⟨a',c',e',hcc,_⟩:=HR.out.1
  cases e'
  have f2:(U:Int) ≤ (c:Int):=by omega
  have f3:F ≤ U:=by omega
  have f4:U ≤ c:=by omega
  have f5:F < c:=by omega
  have f6:F ≠ c:=by omega
  have f7:¬ c - F = 0:=by omega
  have hl:((b.drop F).take (U - F)).length = U - F:=by rw [List.length_take,List.length_drop]; omega
  have b1:Below w.heap.size w ((w.alloc (Obj.cells (Vi.cs ⟨kd,F,U,dp,up,nt,ky0,pl,fi⟩) 45)).alloc (Obj.cells #[roomC Sb Ab Lb Nb] 75)):=((Below.refl _ _).alloc (Nat.le_refl _) _).alloc (by simp) _
  have hs1:(w.alloc (Obj.cells (Vi.cs ⟨kd,F,U,dp,up,nt,ky0,pl,fi⟩) 45)).heap.size = w.heap.size + 1:=by simp
  have hs2:((w.alloc (Obj.cells (Vi.cs ⟨kd,F,U,dp,up,nt,ky0,pl,fi⟩) 45)).alloc (Obj.cells #[roomC Sb Ab Lb Nb] 75)).heap.size = w.heap.size + 2:=by simp
  have hPb:blk ((w.alloc (Obj.cells (Vi.cs ⟨kd,F,U,dp,up,nt,ky0,pl,fi⟩) 45)).alloc (Obj.cells #[roomC Sb Ab Lb Nb] 75)) (w.heap.size + 1) 75 #[roomC Sb Ab Lb Nb]:=by
    have:=heap_new (w.alloc (Obj.cells (Vi.cs ⟨kd,F,U,dp,up,nt,ky0,pl,fi⟩) 45)) (Obj.cells #[roomC Sb Ab Lb Nb] 75)
    rw [hs1] at this
    exact this
  have hxx:=HR.out.2.2.1
  have l1:=hxx.s.lt
  have l2:=hxx.a.lt
  have l3:=hxx.l.lt
  have l4:=hxx.n.lt
  have hJ:JR Sb Ab Lb Nb (w.heap.size + 1) A at' key q0 U1 [] ((w.alloc (Obj.cells (Vi.cs ⟨kd,F,U,dp,up,nt,ky0,pl,fi⟩) 45)).alloc (Obj.cells #[roomC Sb Ab Lb Nb] 75)) (fun k=>k = Sb ∨ k = Ab ∨ k = Lb ∨ k = Nb ∨ k = w.heap.size + 1):=
    ⟨⟨hne.1,hne.2.1,hne.2.2.1,by omega,hne.2.2.2.1,hne.2.2.2.2,by omega⟩,⟨hA.1,hA.2.1,hA.2.2.1,hA.2.2.2,by omega⟩,hPb,⟨U1,0,hxx.keep (fun k hk=>b1.block k (by rcases hk with rfl | rfl | rfl | rfl <;> assumption)),⟨fun _=>⟨rfl,rfl⟩,fun h=>by cases h⟩⟩,fun k=>Iff.rfl⟩
  obtain ⟨a1,c1,e1,hcc1,hcell⟩:=HR.out.1.keep b1
  cases e1
  have hRB:RB ((w.alloc (Obj.cells (Vi.cs ⟨kd,F,U,dp,up,nt,ky0,pl,fi⟩) 45)).alloc (Obj.cells #[roomC Sb Ab Lb Nb] 75)) (.slice (some ⟨g,o + F,none⟩) (U - F) (c - F)) ((b.drop F).take (U - F)):=by
    rcases hcell with h0 | ⟨g',o',e',hg,hc⟩
    · rw [h0] at hUb; simp at hUb; omega
    · cases e'
      exact rb_cut hcc hFU hUb hg hc
  obtain ⟨a2,c2,e2,hcc2,htx⟩:=hRB
  have HCL:Hid (Calls Tryz.prog 30 #[.slice (some ⟨g,o + F,none⟩) (U - F) (c - F),.func (.func 46) #[] #[.pointer (some ⟨w.heap.size + 1,0,none⟩)]] ((w.alloc (Obj.cells (Vi.cs ⟨kd,F,U,dp,up,nt,ky0,pl,fi⟩) 45)).alloc (Obj.cells #[roomC Sb Ab Lb Nb] 75)) fun e w'=>∃ h p er S,e = .returned (.tuple #[.int .i64 p,.int .i64 er])∧Fin ((b.drop F).take (U - F)) (goR key) h p er∧JR Sb Ab Lb Nb (w.heap.size + 1) A at' key q0 U1 h w' S∧FV ((w.alloc (Obj.cells (Vi.cs ⟨kd,F,U,dp,up,nt,ky0,pl,fi⟩) 45)).alloc (Obj.cells #[roomC Sb Ab Lb Nb] 75)) w' (fun k=>k = Sb ∨ k = Ab ∨ k = Lb ∨ k = Nb ∨ k = w.heap.size + 1) S):=by
    have hlim2:((b.drop F).take (U - F)).length ≤ 1048576:=by rw [hl]; omega
    have:=read26 (a:=some ⟨g,o + F,none⟩) (c:=c - F) (b:=(b.drop F).take (U - F)) (visR hlim2 HR.out.2.2.2.1 HR.out.2.2.2.2 (A:=A) (Sb:=Sb) (Ab:=Ab) (Lb:=Lb) (Nb:=Nb) (Pb:=w.heap.size + 1) (at':=at') (key:=key) (q:=q0) (U1:=U1) (by omega) (by omega)) hlim2 (by rw [hl]; omega) (.inr (fun g' o' e=>by injection e with e; injection e with e; omega)) h4 (by rw [hs2]; omega) (HR.out.2.1.keep b1) (by
      rcases htx with h | ⟨g',o',e,h2,h3⟩
      · exact .inl h
      · exact .inr ⟨g',o',(by injection e2 with e3; rw [e3]; exact e),h2,h3⟩) hJ
    rw [hl] at this
    exact this
  have HB1:Hid (Below w.heap.size w ((w.alloc (Obj.cells (Vi.cs ⟨kd,F,U,dp,up,nt,ky0,pl,fi⟩) 45)).alloc (Obj.cells #[roomC Sb Ab Lb Nb] 75))∧A ≤ w.heap.size∧(A ≤ Sb∧A ≤ Ab∧A ≤ Lb∧A ≤ Nb)):=⟨b1,hAw,hA⟩
  have HQ:=Lib.hid hq0
  clear hJ hPb b1 hs1 hs2 hcell hcc1 htx hcc2 e2 HR hl hcc hxx l1 l2 l3 l4 hd hvt hA hne hq0
  go_enter Tryz.func28,Tryz.ntmps28
  go_wp2_with fail
  refine HCL.out.mono ?_
  rintro e w2 ⟨h,pp,er,S,rfl,hFin,⟨_,_,_,⟨pl2,m2,k1,k2⟩,_⟩,hfv⟩
  have HX:Hid (∃ h pp er pl m,Fin ((b.drop F).take (U - F)) (goR key) h pp er∧RBx Sb Ab Lb Nb at' key q0 pl m w2∧RMP key F U1 h pl m∧Below A w w2):=by
    refine ⟨h,pp,er,pl2,m2,hFin,k1,by rw [HQ.out] at k2; exact k2,?_⟩
    obtain ⟨q1,q2,q3⟩:=HB1.out
    exact ⟨hfv.os.trans q1.os,hfv.tape.trans q1.tape,hfv.output.trans q1.output,Nat.le_trans q1.size hfv.size,fun k hk=>(hfv.block k (Nat.lt_of_lt_of_le (Nat.lt_of_lt_of_le hk q2) q1.size) (by show ¬ (k = Sb ∨ k = Ab ∨ k = Lb ∨ k = Nb ∨ k = w.heap.size + 1); omega)).trans (q1.block k (Nat.lt_of_lt_of_le hk q2))⟩
  clear hFin k1 k2 hfv HCL
  go_wp2
  refine bodyPost_end (v:=.tuple #[]) ?_ rfl ?_
  · show (results Tryz.f28 _).run Tryz.prog _ = _
    simp [results,Tryz.results28]
  · exact ⟨rfl,HX.out⟩
def RMR (s:List UInt8) (key:ByteArray) (F U:Nat) (kd at' r er:Int):Prop:=∃ h pp e0 pl m,Fin s (goR key) h pp e0∧RMP key F ((U:Int) - 1) h pl m∧r = (if kd = 3∧at' ≠ m then 0 else pl)∧er = (if kd = 3∧at' ≠ m then 30 else 0)
set_option maxRecDepth 10000 in
set_option maxHeartbeats 2000000 in
theorem room36 {w:World} (g o c:Nat) (b:List UInt8) (q:Vi) (F U:Nat) (hF:q.fr = (F:Int)) (hU:q.to = (U:Int)) (hFU:F < U) (hUb:U ≤ b.length) (hlim:b.length ≤ 1048576) (hr:RB w (.slice (some ⟨g,o,none⟩) b.length c) b) (hev:EVw w) {k n:Int} {s:ByteArray} {ln:Nat} {l:Nat → T} {dn:Nat} {ky:Nat → ByteArray} {dv:Nat → T} {kk:Nat} (hd:DOUT ((b.drop F).take (U - F)) (.mk k n s ln l dn ky dv) kk 0) (hvt:VT (.mk k n s ln l dn ky dv)) (at':Int) (key:ByteArray) :
    Calls Tryz.prog 36 #[.slice (some ⟨g,o,none⟩) b.length c,.agg (Vi.cs q),.agg #[.int .i64 at',.string key]] w fun e w'=>∃ r er,e = .returned (.tuple #[.int .i64 r,.int .i64 er])∧RMR ((b.drop F).take (U - F)) key F U q.kd at' r er∧Below w.heap.size w w':=by
  obtain ⟨kd,fr,to,dp,up,nt,ky0,pl,fi⟩:=q
  obtain rfl:fr = (F:Int):=hF
  obtain rfl:to = (U:Int):=hU
  have hg4:4 < w.heap.size:=by obtain ⟨_,⟨t,p,h2⟩⟩:=id hev; exact World.block_lt_of_cell? w _ h2
  obtain ⟨a',c',e',hcc,hcell⟩:=id hr
  cases e'
  rcases hcell with h0 | ⟨g',o',eg,hg,hc⟩
  · rw [h0] at hUb; simp at hUb; omega
  cases eg
  have s1:(w.alloc (Obj.cells (Vi.cs ⟨kd,F,U,dp,up,nt,ky0,pl,fi⟩) 45)).heap.size = w.heap.size + 1:=by simp
  have s2:((w.alloc (Obj.cells (Vi.cs ⟨kd,F,U,dp,up,nt,ky0,pl,fi⟩) 45)).alloc (Obj.cells #[.int .i64 at',.string key] 51)).heap.size = w.heap.size + 1 + 1:=by simp
  have s3:(((w.alloc (Obj.cells (Vi.cs ⟨kd,F,U,dp,up,nt,ky0,pl,fi⟩) 45)).alloc (Obj.cells #[.int .i64 at',.string key] 51)).alloc (Obj.cells #[.int .i64 ((U:Int) - 1)] 3)).heap.size = w.heap.size + 1 + 1 + 1:=by simp
  have b4:Below w.heap.size w ((((w.alloc (Obj.cells (Vi.cs ⟨kd,F,U,dp,up,nt,ky0,pl,fi⟩) 45)).alloc (Obj.cells #[.int .i64 at',.string key] 51)).alloc (Obj.cells #[.int .i64 ((U:Int) - 1)] 3)).alloc (Obj.cells #[.int .i64 0] 3)):=((((Below.refl _ _).alloc (Nat.le_refl _) _).alloc (by rw [s1]; omega) _).alloc (by rw [s2]; omega) _).alloc (by rw [s3]; omega) _
  have hx:RBx (w.heap.size + 1) w.heap.size (w.heap.size + 1 + 1) (w.heap.size + 1 + 1 + 1) at' key ⟨kd,F,U,dp,up,nt,ky0,pl,fi⟩ ((U:Int) - 1) 0 ((((w.alloc (Obj.cells (Vi.cs ⟨kd,F,U,dp,up,nt,ky0,pl,fi⟩) 45)).alloc (Obj.cells #[.int .i64 at',.string key] 51)).alloc (Obj.cells #[.int .i64 ((U:Int) - 1)] 3)).alloc (Obj.cells #[.int .i64 0] 3)):=by
    refine ⟨?_,?_,?_,?_⟩
    · have h:=heap_new (w.alloc (Obj.cells (Vi.cs ⟨kd,F,U,dp,up,nt,ky0,pl,fi⟩) 45)) (Obj.cells #[.int .i64 at',.string key] 51)
      rw [s1] at h
      exact (Below.heap_alloc _ _ _ (by rw [s3]; omega)).trans ((Below.heap_alloc _ _ _ (by rw [s2]; omega)).trans h)
    · exact (Below.heap_alloc _ _ _ (by rw [s3]; omega)).trans ((Below.heap_alloc _ _ _ (by rw [s2]; omega)).trans ((Below.heap_alloc _ _ _ (by rw [s1]; omega)).trans (heap_new _ _)))
    · have h:=heap_new ((w.alloc (Obj.cells (Vi.cs ⟨kd,F,U,dp,up,nt,ky0,pl,fi⟩) 45)).alloc (Obj.cells #[.int .i64 at',.string key] 51)) (Obj.cells #[.int .i64 ((U:Int) - 1)] 3)
      rw [s2] at h
      exact (Below.heap_alloc _ _ _ (by rw [s3]; omega)).trans h
    · have h:=heap_new (((w.alloc (Obj.cells (Vi.cs ⟨kd,F,U,dp,up,nt,ky0,pl,fi⟩) 45)).alloc (Obj.cells #[.int .i64 at',.string key] 51)).alloc (Obj.cells #[.int .i64 ((U:Int) - 1)] 3)) (Obj.cells #[.int .i64 0] 3)
      rw [s3] at h
      exact h
  have HP:=Lib.hid (parts28R (w:=((((w.alloc (Obj.cells (Vi.cs ⟨kd,F,U,dp,up,nt,ky0,pl,fi⟩) 45)).alloc (Obj.cells #[.int .i64 at',.string key] 51)).alloc (Obj.cells #[.int .i64 ((U:Int) - 1)] 3)).alloc (Obj.cells #[.int .i64 0] 3))) (Sb:=w.heap.size + 1) (Ab:=w.heap.size) (Lb:=w.heap.size + 1 + 1) (Nb:=w.heap.size + 1 + 1 + 1) (A:=w.heap.size) g o c b ⟨kd,F,U,dp,up,nt,ky0,pl,fi⟩ F U rfl rfl hFU hUb hlim (hr.keep b4) (hev.keep b4) hd hvt rfl hx ⟨by omega,by omega,by omega,by omega,by omega⟩ ⟨by omega,by omega,by omega,by omega⟩ b4.size hg hg4)
  have HB:=Lib.hid b4
  clear hx b4 hr hev hd hvt hc hg s1 s2 s3 hcc
  go_enter Tryz.func36,Tryz.ntmps36
  go_wp2_with fail
  refine HP.out.mono ?_
  rintro e w2 ⟨rfl,h,pp,er,pl2,m2,hFin,k1,k2,hb2⟩
  have c1:w2.cell? ⟨w.heap.size,0,none⟩ = some (.int .i64 kd):=k1.a.cell 0
  have c2:w2.cell? ⟨w.heap.size + 1,0,none⟩ = some (.int .i64 at'):=k1.s.cell 0
  have c3:w2.cell? ⟨w.heap.size + 1 + 1,0,none⟩ = some (.int .i64 pl2):=k1.l.cell 0
  have c4:w2.cell? ⟨w.heap.size + 1 + 1 + 1,0,none⟩ = some (.int .i64 m2):=k1.n.cell 0
  have HX:Hid (Fin ((b.drop F).take (U - F)) (goR key) h pp er∧RMP key F ((U:Int) - 1) h pl2 m2∧Below w.heap.size w w2):=⟨hFin,k2,HB.out.trans hb2⟩
  clear hFin k1 k2 hb2 HP HB
  by_cases hk:kd = 3
  · by_cases ha:at' = m2
    · have HE:Hid (¬ (kd = 3∧at' ≠ m2)):=fun h=>h.2 ha
      have HR:Hid (RMR ((b.drop F).take (U - F)) key F U kd at' pl2 0):=⟨h,pp,er,pl2,m2,HX.out.1,HX.out.2.1,(if_neg HE.out).symm,(if_neg HE.out).symm⟩
      clear HE
      subst hk
      subst ha
      go_wp2
      go_ret2
      exact ⟨_,_,rfl,HR.out,HX.out.2.2⟩
    · have HE:Hid (kd = 3∧at' ≠ m2):=⟨hk,ha⟩
      have HR:Hid (RMR ((b.drop F).take (U - F)) key F U kd at' 0 30):=⟨h,pp,er,pl2,m2,HX.out.1,HX.out.2.1,(if_pos HE.out).symm,(if_pos HE.out).symm⟩
      clear HE
      subst hk
      have ha':(at' != m2) = true:=by simpa using ha
      go_wp2
      go_ret2
      exact ⟨_,_,rfl,HR.out,HX.out.2.2⟩
  · have HE:Hid (¬ (kd = 3∧at' ≠ m2)):=fun h=>hk h.1
    have HR:Hid (RMR ((b.drop F).take (U - F)) key F U kd at' pl2 0):=⟨h,pp,er,pl2,m2,HX.out.1,HX.out.2.1,(if_neg HE.out).symm,(if_neg HE.out).symm⟩
    clear HE
    have hk':(kd == 3) = false:=beq_eq_false_iff_ne.2 hk
    go_wp2
    go_ret2
    exact ⟨_,_,rfl,HR.out,HX.out.2.2⟩
theorem wiT_leaf {x:T} {q:Int × ByteArray} {p:List (Int × ByteArray)} {k n:Int} {s:ByteArray} {ln:Nat} {l:Nat → T} {dn:Nat} {ky:Nat → ByteArray} {dv:Nat → T} (h3:k ≠ 3) (h4:k ≠ 4):wiT x (q :: p) (.mk k n s ln l dn ky dv) = (t0,31):=(if_neg h3).trans (if_neg h4)
theorem wiT_list_no {x:T} {q:Int × ByteArray} {p:List (Int × ByteArray)} {n:Int} {s:ByteArray} {ln:Nat} {l:Nat → T} {dn:Nat} {ky:Nat → ByteArray} {dv:Nat → T} (h:∀ i:Nat,i < ln → (i:Int) ≠ q.1) (h2:q.1 ≠ (ln:Int) ∨ p.isEmpty = false):wiT x (q :: p) (.mk 3 n s ln l dn ky dv) = (t0,30):=by
  rw [wiT_list,if_pos]
  by_cases h0:q.1 < 0
  · exact .inl h0
  · by_cases h1:(ln:Int) < q.1
    · exact .inr (.inl h1)
    · have e:q.1 = (ln:Int):=by
        by_cases hlt:q.1 < (ln:Int)
        · exact absurd (show ((q.1.toNat:Nat):Int) = q.1 by omega) (h q.1.toNat (by omega))
        · omega
      rcases h2 with h2 | h2
      · exact absurd e h2
      · exact .inr (.inr ⟨e,h2⟩)
theorem outL_none {nm:Int} {l:Nat → T}:∀ n,(∀ j:Nat,j < n → (j:Int) ≠ nm) → (outL nm (fun _=>none) l n).flatMap txt = catN (fun j=>txt (l j)) n
  | 0,_=>rfl
  | n + 1,h=>by
    show (outL nm (fun _=>none) l n ++ _).flatMap txt = catN _ n ++ _
    rw [List.flatMap_append,outL_none n (fun j hj=>h j (by omega)),if_neg (h n (by omega))]
    simp
theorem wiT_list_end {x:T} {q:Int × ByteArray} {n:Int} {s:ByteArray} {ln:Nat} {l:Nat → T} {dn:Nat} {ky:Nat → ByteArray} {dv:Nat → T} (hq:q.1 = (ln:Int)):∃ u',wiT x [q] (.mk 3 n s ln l dn ky dv) = (u',0)∧txt u' = 108 :: (catN (fun i=>txt (l i)) ln ++ (txt x ++ [101]))∧(Pd (.mk 3 n s ln l dn ky dv) → Pd x → ln < 2147483647 → Pd u'):=by
  have hne:∀ j:Nat,j < ln → (j:Int) ≠ q.1:=fun j hj=>by omega
  refine ⟨tList (outL q.1 (fun _=>none) l ln ++ [x]),?_,?_,fun hp hx hl=>?_⟩
  · rw [wiT_list,if_neg,lG_all ln hne]
    · dsimp only
      rw [if_pos hq]
    · rintro (h | h | ⟨_,h⟩)
      · omega
      · omega
      · cases h
  · rw [txt_listF,List.flatMap_append,outL_none ln hne]
    simp
  · refine pd_list ?_ fun y hy=>?_
    · rw [List.length_append,List.length_singleton]
      have:=outL_len (nm:=q.1) (o:=fun _=>none) (l:=l) ln
      omega
    · rcases List.mem_append.1 hy with hy | hy
      · rcases outL_mem hy with ⟨j,j1,rfl⟩ | ⟨j,j1,_,j3⟩
        · exact hp.kid j1
        · cases j3
      · rw [List.mem_singleton.1 hy]; exact hx
theorem dG_none {key:ByteArray} {f:T → T × Int} {x:T} {ky:Nat → ByteArray} {dv:Nat → T}:∀ n,(∀ j,j < n → ky j ≠ key) → dG key false f x ky dv n = .inr 30 ∨ ∃ L,dG key false f x ky dv n = .inl (L,false)
  | 0,_=>.inr ⟨[],rfl⟩
  | n + 1,h=>by
    rcases dG_none (f:=f) (x:=x) (dv:=dv) n (fun j hj=>h j (by omega)) with e | ⟨L,e⟩
    · left; unfold dG; rw [e]
    · unfold dG
      rw [e]
      dsimp only
      rw [if_neg (h n (by omega))]
      by_cases hl:Op.bytesLess key.toList (ky n).toList = true
      · rw [if_pos ⟨hl,rfl⟩,if_neg (by decide)]; exact .inl rfl
      · rw [if_neg (fun h=>hl h.1)]; exact .inr ⟨_,rfl⟩
theorem wiT_dict_no {x:T} {q:Int × ByteArray} {p:List (Int × ByteArray)} {n:Int} {s:ByteArray} {ln:Nat} {l:Nat → T} {dn:Nat} {ky:Nat → ByteArray} {dv:Nat → T} (h:∀ i,i < dn → ky i ≠ q.2) (h2:p.isEmpty = false):wiT x (q :: p) (.mk 4 n s ln l dn ky dv) = (t0,30):=by
  rw [wiT_dict,h2]
  rcases dG_none (f:=wiT x p) (x:=x) (dv:=dv) dn h with e | ⟨L,e⟩
  · rw [e]
  · rw [e]
    dsimp only
    rw [if_neg (by decide),if_neg (by decide)]
theorem ba_list {x y:ByteArray} (h:x.toList = y.toList):x = y:=ba_ext (by rw [← ByteArray.toList_eq, ← ByteArray.toList_eq]; exact h)
theorem less_of_not {x y:ByteArray} (h:Op.bytesLess y.toList x.toList = false) (hne:x ≠ y):Op.bytesLess x.toList y.toList = true:=by
  have h2:=bytes_tri x.toList y.toList
  rw [h] at h2
  have hq:(x.toList == y.toList) = false:=beq_eq_false_iff_ne.2 fun e=>hne (ba_list e)
  rw [hq,Bool.or_false] at h2
  exact h2.symm
structure InsD (key:ByteArray) (x:T) (ky:Nat → ByteArray) (dv:Nat → T) (j0 n:Nat) (L:List (ByteArray × T)) (z:List UInt8):Prop where
  lo:n ≤ j0 → L.flatMap pt = catN (fun i=>wtx (ky i) ++ txt (dv i)) n
  hi:j0 < n → catN (fun i=>wtx (ky i) ++ txt (dv i)) n = catN (fun i=>wtx (ky i) ++ txt (dv i)) j0 ++ z∧L.flatMap pt = catN (fun i=>wtx (ky i) ++ txt (dv i)) j0 ++ (pt (key,x) ++ z)
  mem:∀ y ∈ L,(j0 < n∧y = (key,x)) ∨ ∃ j,j < n∧y = (ky j,dv j)
  len:L.length ≤ n + 1∧(n ≤ j0 → L.length ≤ n)
  rise:L.Pairwise (fun a b=>Op.bytesLess a.1.toList b.1.toList = true)
theorem dG_ins {key:ByteArray} {f:T → T × Int} {x:T} {ky:Nat → ByteArray} {dv:Nat → T} {dn j0:Nat} (hr:∀ q p,p < q → q < dn → Op.bytesLess (ky p).toList (ky q).toList = true) (hne:∀ j,j < dn → ky j ≠ key) (hlo:∀ j,j < j0 → Op.bytesLess key.toList (ky j).toList = false) (hat:j0 < dn → Op.bytesLess key.toList (ky j0).toList = true) :
    ∀ n,n ≤ dn → ∃ L z,dG key true f x ky dv n = .inl (L,decide (j0 < n))∧InsD key x ky dv j0 n L z
  | 0,_=>⟨[], [],by rw [decide_eq_false (Nat.not_lt_zero _)]; rfl,⟨fun _=>rfl,fun h=>absurd h (Nat.not_lt_zero _),fun y hy=>(by cases hy),⟨Nat.zero_le _,fun _=>Nat.le_refl _⟩,List.Pairwise.nil⟩⟩
  | n + 1,hn=>by
    obtain ⟨L,z,e,hI⟩:=dG_ins (f:=f) (x:=x) (dv:=dv) hr hne hlo hat n (by omega)
    have ec:catN (fun i=>wtx (ky i) ++ txt (dv i)) (n + 1) = catN (fun i=>wtx (ky i) ++ txt (dv i)) n ++ (wtx (ky n) ++ txt (dv n)):=rfl
    unfold dG
    rw [e]
    dsimp only
    rw [if_neg (hne n (by omega))]
    have rises:∀ a ∈ L,Op.bytesLess a.1.toList (ky n).toList = true:=fun a ha=>by
      rcases hI.mem a ha with ⟨h1,rfl⟩ | ⟨j,j1,rfl⟩
      · exact less_trans _ _ _ (hat (by omega)) (hr n j0 h1 (by omega))
      · exact hr n j j1 (by omega)
    by_cases h1:n < j0
    · rw [if_neg (fun h=>by rw [hlo n h1] at h; cases h.1),decide_eq_false (by omega),decide_eq_false (by omega)]
      refine ⟨_, [],rfl,⟨fun _=>?_,fun h=>by omega,fun y hy=>?_,⟨?_,fun _=>?_⟩,?_⟩⟩
      · rw [List.flatMap_append,hI.lo (by omega),ec]; simp [pt]
      · rcases List.mem_append.1 hy with hy | hy
        · rcases hI.mem y hy with ⟨h,_⟩ | ⟨j,j1,j2⟩
          · omega
          · exact .inr ⟨j,by omega,j2⟩
        · exact .inr ⟨n,by omega,List.mem_singleton.1 hy⟩
      · rw [List.length_append,List.length_singleton]; have:=hI.len.1; omega
      · rw [List.length_append,List.length_singleton]; have:=hI.len.2 (by omega); omega
      · rw [List.pairwise_append]
        exact ⟨hI.rise,by simp,fun a ha b hb=>by rw [List.mem_singleton.1 hb]; exact rises a ha⟩
    · by_cases h2:n = j0
      · subst h2
        rw [if_pos ⟨hat (by omega),decide_eq_false (Nat.lt_irrefl _)⟩,if_pos rfl,decide_eq_true (Nat.lt_succ_self n)]
        refine ⟨_,wtx (ky n) ++ txt (dv n),rfl,⟨fun h=>by omega,fun _=>⟨ec,?_⟩,fun y hy=>?_,⟨?_,fun h=>by omega⟩,?_⟩⟩
        · rw [List.append_assoc,List.flatMap_append,hI.lo (Nat.le_refl _)]; simp [pt]
        · rcases List.mem_append.1 hy with hy | hy
          · rcases List.mem_append.1 hy with hy | hy
            · rcases hI.mem y hy with ⟨h,_⟩ | ⟨j,j1,j2⟩
              · omega
              · exact .inr ⟨j,by omega,j2⟩
            · exact .inl ⟨by omega,List.mem_singleton.1 hy⟩
          · exact .inr ⟨n,by omega,List.mem_singleton.1 hy⟩
        · rw [List.length_append,List.length_append,List.length_singleton,List.length_singleton]; have:=hI.len.2 (Nat.le_refl _); omega
        · rw [List.pairwise_append,List.pairwise_append]
          refine ⟨⟨hI.rise,by simp,fun a ha b hb=>?_⟩,by simp,fun a ha b hb=>?_⟩
          · rw [List.mem_singleton.1 hb]
            rcases hI.mem a ha with ⟨h,_⟩ | ⟨j,j1,rfl⟩
            · omega
            · exact less_of_not (hlo j j1) (hne j (by omega))
          · rw [List.mem_singleton.1 hb]
            rcases List.mem_append.1 ha with ha | ha
            · exact rises a ha
            · rw [List.mem_singleton.1 ha]; exact hat (by omega)
      · rw [if_neg (fun h=>by have:=of_decide_eq_false h.2; omega),decide_eq_true (show j0 < n by omega),decide_eq_true (show j0 < n + 1 by omega)]
        obtain ⟨g1,g2⟩:=hI.hi (by omega)
        refine ⟨_,z ++ (wtx (ky n) ++ txt (dv n)),rfl,⟨fun h=>by omega,fun _=>⟨?_,?_⟩,fun y hy=>?_,⟨?_,fun h=>by omega⟩,?_⟩⟩
        · rw [ec,g1]; simp
        · rw [List.flatMap_append,g2]; simp [pt]
        · rcases List.mem_append.1 hy with hy | hy
          · rcases hI.mem y hy with ⟨h,h'⟩ | ⟨j,j1,j2⟩
            · exact .inl ⟨by omega,h'⟩
            · exact .inr ⟨j,by omega,j2⟩
          · exact .inr ⟨n,by omega,List.mem_singleton.1 hy⟩
        · rw [List.length_append,List.length_singleton]; have:=hI.len.1; omega
        · rw [List.pairwise_append]
          exact ⟨hI.rise,by simp,fun a ha b hb=>by rw [List.mem_singleton.1 hb]; exact rises a ha⟩
theorem wiT_dict_ins {x:T} {q:Int × ByteArray} {n:Int} {s:ByteArray} {ln:Nat} {l:Nat → T} {dn:Nat} {ky:Nat → ByteArray} {dv:Nat → T} {j0:Nat} (hv:VT (.mk 4 n s ln l dn ky dv)) (hne:∀ j,j < dn → ky j ≠ q.2) (hj:j0 ≤ dn) (hlo:∀ j,j < j0 → Op.bytesLess q.2.toList (ky j).toList = false) (hat:j0 < dn → Op.bytesLess q.2.toList (ky j0).toList = true) :
    ∃ u' z,wiT x [q] (.mk 4 n s ln l dn ky dv) = (u',0)∧catN (fun i=>wtx (ky i) ++ txt (dv i)) dn = catN (fun i=>wtx (ky i) ++ txt (dv i)) j0 ++ z∧txt u' = 100 :: (catN (fun i=>wtx (ky i) ++ txt (dv i)) j0 ++ (wtx q.2 ++ (txt x ++ (z ++ [101]))))∧(Pd (.mk 4 n s ln l dn ky dv) → Pd x → q.2.size ≤ 140737488351232 → dn < 2147483647 → Pd u'):=by
  have hr:=rise_of (fun i hi=>(hv.2.2 i hi).1)
  obtain ⟨L,z,e,hI⟩:=dG_ins (f:=wiT x []) (x:=x) (dv:=dv) hr hne hlo hat dn (Nat.le_refl _)
  have hE:([]:List (Int × ByteArray)).isEmpty = true:=rfl
  rw [wiT_dict,hE,e]
  dsimp only
  by_cases h1:j0 < dn
  · obtain ⟨g1,g2⟩:=hI.hi h1
    rw [if_pos (decide_eq_true h1)]
    refine ⟨_,z,rfl,g1,by rw [txt_dictF,g2]; simp [pt],fun hp hx hs hl=>pd_dict (by have:=hI.len.1; omega) (fun y hy=>?_) hI.rise⟩
    rcases hI.mem y hy with ⟨_,rfl⟩ | ⟨j,j1,rfl⟩
    · exact ⟨hx,hs⟩
    · exact hp.pair j1
  · obtain rfl:j0 = dn:=by omega
    rw [if_neg (by simp),if_pos rfl]
    refine ⟨_, [],rfl,by simp,by rw [txt_dictF,List.flatMap_append,hI.lo (Nat.le_refl _)]; simp [pt],fun hp hx hs hl=>pd_dict (by rw [List.length_append,List.length_singleton]; have:=hI.len.2 (Nat.le_refl _); omega) (fun y hy=>?_) ?_⟩
    · rcases List.mem_append.1 hy with hy | hy
      · rcases hI.mem y hy with ⟨h,_⟩ | ⟨j,j1,rfl⟩
        · omega
        · exact hp.pair j1
      · rw [List.mem_singleton.1 hy]; exact ⟨hx,hs⟩
    · rw [List.pairwise_append]
      refine ⟨hI.rise,by simp,fun a ha b hb=>?_⟩
      rw [List.mem_singleton.1 hb]
      rcases hI.mem a ha with ⟨h,_⟩ | ⟨j,j1,rfl⟩
      · omega
      · exact less_of_not (hlo j j1) (hne j j1)
theorem goR_all {key:ByteArray} {h:List Vi} (hg:goR key h = true):∀ k ∈ kyF h,Op.bytesLess key.toList k.toList = false:=by
  intro k hk
  unfold goR at hg
  rw [Bool.not_eq_true',List.any_eq_false] at hg
  have:=hg k hk
  simpa using this
structure FOL (p:List (Int × ByteArray)) (t:T) (q:Vi) (d:Nat) (k2 n2:Int) (s2:ByteArray) (ln:Nat) (l:Nat → T) (dn:Nat) (ky:Nat → ByteArray) (dv:Nat → T) (F fi:Nat):Prop where
  desc:Desc t 0 0 (p.take d) (.mk k2 n2 s2 ln l dn ky dv) F fi
  dle:d ≤ p.length
  dp:q.dp = (d:Int)
  kd:q.kd = k2
  fr:q.fr = (F:Int)
  to:q.to = ((F + (txt (.mk k2 n2 s2 ln l dn ky dv)).length:Nat):Int)
  vt:VT (.mk k2 n2 s2 ln l dn ky dv)
  nl:k2 = 3 → ∀ n k,p[d]? = some (n,k) → ∀ i:Nat,i < ln → (i:Int) ≠ n
  nd:k2 = 4 → ∀ n k,p[d]? = some (n,k) → ∀ i,i < dn → ky i ≠ k
theorem follow_led {b:List UInt8} (hlim:b.length ≤ 1048576) {p:List (Int × ByteArray)} {h:List Vi} {pp e0:Int} (H:Fin b (goF p) h pp e0) {t:T} {k:Nat} (hd:DOUT b t k 0):∃ d k2 n2 s2 ln l dn ky dv F fi,FOL p t (fwF p h).1 d k2 n2 s2 ln l dn ky dv F fi:=by
  obtain ⟨d,r,x,hF⟩:=H.led hlim hd
  obtain ⟨_,hP⟩:=dout_nrm hd
  obtain ⟨u,sp,fi,hs,hD,hv,hfu⟩:=hF.led.desc rfl hP.vt (dout_full hd)
  cases u with
  | no=>exact hfu.elim
  | mk k2 n2 s2 ln l dn ky dv =>
    have hx:=hF.at'
    rw [List.getElem?_map,seg_at hs] at hx
    simp only [Option.map_some,Option.some.injEq] at hx
    have hk2:(fwF p h).1.kd = k2:=by rw [← hF.eq.kd, ← hx]; rfl
    refine ⟨d,k2,n2,s2,ln,l,dn,ky,dv,sp.fr,fi,⟨hD,hF.led.le,hF.dp,hk2,by rw [← hF.eq.fr, ← hx]; rfl,by rw [← hF.to, ← hx]; rfl,hv,fun h3 n k hp i hi e=>?_,fun h4 n k hp i hi e=>?_⟩⟩
    · have hs2:=seg_list hs hi
      cases hl:l i with
      | no=>exact absurd (show (T.no).full from hl ▸ hfu.1 i hi) (fun h=>h.elim)
      | mk k3 n3 s3 ln3 l3 dn3 ky3 dv3 =>
        rw [hl] at hs2
        have h5:=seg_at hs2
        refine hF.no (.inl (hk2.trans h3)) n k hp (r + 1 + (kids (gL l r sp) i).length) _ (by omega) (by rw [List.getElem?_map,h5]; rfl) ⟨rfl,.inl ⟨hk2.trans h3,?_⟩⟩
        exact e
    · have hs2:=seg_dict hs hi
      cases hl:dv i with
      | no=>exact absurd (show (T.no).full from hl ▸ hfu.2 i hi) (fun h=>h.elim)
      | mk k3 n3 s3 ln3 l3 dn3 ky3 dv3 =>
        rw [hl] at hs2
        have h5:=seg_at hs2
        refine hF.no (.inr (hk2.trans h4)) n k hp (r + 1 + (kids (gL l r sp) ln).length + (kids (gD l ln ky dv r sp) i).length) _ (by omega) (by rw [List.getElem?_map,h5]; rfl) ⟨rfl,.inr ⟨hk2.trans h4,?_⟩⟩
        exact e
theorem room_end {b:List UInt8} (hlim:b.length ≤ 1048576) {key:ByteArray} {h:List Vi} {pp er:Int} (H:Fin b (goR key) h pp er) {k n:Int} {s:ByteArray} {ln:Nat} {l:Nat → T} {dn:Nat} {ky:Nat → ByteArray} {dv:Nat → T} {kk:Nat} (hd:DOUT b (.mk k n s ln l dn ky dv) kk 0) (_hv:VT (.mk k n s ln l dn ky dv)) :
    (goR key h = true∧(k = 3 → ln = (kyF h).length)∧(k = 4 → lsN ky dn = kyF h)) ∨ (goR key h = false∧∃ h0 v,h = h0 ++ [v]∧goR key h0 = true∧Nx b (goR key) h0 v∧gtr key v = true):=by
  have bad:∀ {h:List Vi} {pp er:Int},Fin b gT h pp er → er = 0:=fun hF=>by
    obtain ⟨t',k',_,hd',_⟩:=hF.out hlim
    exact (DOUT.unique hd hd').2.2.symm
  have stop:∀ {h0:List Vi} {v:Vi},Nx b (goR key) h0 v → goR key (h0 ++ [v]) = false → goR key (h0 ++ [v]) = false∧∃ h1 v1,h0 ++ [v] = h1 ++ [v1]∧goR key h1 = true∧Nx b (goR key) h1 v1∧gtr key v1 = true:=fun {h0 v} hn hg=>by
    refine ⟨hg,h0,v,rfl,hn.went,hn,?_⟩
    rw [goR_snoc,hn.went,Bool.true_and] at hg
    simpa using hg
  cases H with
  | vstop hr hv hg=>exact .inr (stop (.inl ⟨_,_,_,_,_,hr,hv⟩) hg)
  | estop hr hi hb hg=>exact .inr (stop (.inr ⟨_,_,_,_,hr,hi,hb,rfl⟩) hg)
  | vbad hr hz hv=>exact absurd (bad (.vbad hr.free hz hv)) hz
  | pbad hr hb hp =>
    have e:=bad (.pbad hr.free hb hp)
    subst e
    rcases hp.2 with ⟨_,e,_⟩ | ⟨_,⟨_,_,e,_⟩ | ⟨_,_,_,_,_,e,_⟩⟩
    · cases e
    · exact absurd rfl e
    · cases e
  | trail hr hi=>exact absurd (bad (.trail hr.free hi)) (by decide)
  | done hr hi =>
    have hgo:goR key h = true:=by
      cases h with
      | nil=>rfl
      | cons a r =>
        have:=hr.went (a :: r).length (by simp) (Nat.le_refl _)
        rwa [List.take_length] at this
    obtain ⟨t,h1,_,hk⟩:=hr.free.counted hlim
    obtain ⟨m,h2⟩:=dout_run hd
    have:=Run.unique h1 h2 trivial trivial
    injection this with e1
    subst e1
    exact .inl ⟨hgo,fun h3=>hk.2 h3,fun h4=>hk.1 h4⟩
theorem room_list {b:List UInt8} (hlim:b.length ≤ 1048576) {key:ByteArray} {h:List Vi} {pp er:Int} (H:Fin b (goR key) h pp er) {n:Int} {s:ByteArray} {ln:Nat} {l:Nat → T} {dn:Nat} {ky:Nat → ByteArray} {dv:Nat → T} {kk:Nat} (hd:DOUT b (.mk 3 n s ln l dn ky dv) kk 0) (hv:VT (.mk 3 n s ln l dn ky dv)) {F U1 pl m:Int} (hm:RMP key F U1 h pl m):pl = U1∧m = (ln:Int):=by
  rcases room_end hlim H hd hv with ⟨h1,h2,_⟩ | ⟨_,h0,v,_,_,hn,hg⟩
  · obtain ⟨e1,e2⟩:=hm.1 h1
    exact ⟨e1,by rw [e2, ← h2 rfl]⟩
  · have:=(begins_le hlim hn hd hv hg).2.2.2.1
    cases this
theorem room_dict {b:List UInt8} (hlim:b.length ≤ 1048576) {key:ByteArray} {h:List Vi} {pp er:Int} (H:Fin b (goR key) h pp er) {n:Int} {s:ByteArray} {ln:Nat} {l:Nat → T} {dn:Nat} {ky:Nat → ByteArray} {dv:Nat → T} {kk:Nat} (hd:DOUT b (.mk 4 n s ln l dn ky dv) kk 0) (hv:VT (.mk 4 n s ln l dn ky dv)) {F U1 pl m:Int} (hm:RMP key F U1 h pl m) :
    ∃ j0,j0 ≤ dn∧(∀ j,j < j0 → Op.bytesLess key.toList (ky j).toList = false)∧(j0 < dn → Op.bytesLess key.toList (ky j0).toList = true)∧((j0 = dn∧pl = U1) ∨ (j0 < dn∧pl = F + ((1 + (catN (fun i=>wtx (ky i) ++ txt (dv i)) j0).length:Nat):Int))):=by
  rcases room_end hlim H hd hv with ⟨h1,_,h2⟩ | ⟨h1,h0,v,rfl,hg0,hn,hg⟩
  · obtain ⟨e1,_⟩:=hm.1 h1
    refine ⟨dn,Nat.le_refl _,fun j hj=>goR_all h1 _ ?_,fun h=>absurd h (Nat.lt_irrefl _),.inl ⟨rfl,e1⟩⟩
    rw [← h2 rfl, ← lsN_get ky ByteArray.empty hj]
    exact getD_mem (by rw [lsN_len]; exact hj)
  · obtain ⟨h0',v',e,_,b1,b2,b3,hpl⟩:=hm.2 h1
    obtain ⟨rfl,e2⟩:=List.append_inj' e rfl
    obtain rfl:v = v':=by simpa using e2
    rcases hn.begins hlim hd hv b1 with ⟨e,_⟩ | ⟨_,i,i1,i2,i3⟩
    · cases e
    obtain ⟨_,_,_,_,st,hst⟩:=hn.whole hlim hd
    have hpre:=hst.prefix hlim hd rfl
    rw [kyF_snoc,if_pos ⟨b1,b2⟩] at hpre
    have hkt:keysT (.mk 4 n s ln l dn ky dv) = lsN ky dn:=rfl
    rw [hkt] at hpre
    obtain ⟨rest,hrest⟩:=hpre
    have hlen:=congrArg List.length hrest
    rw [List.length_append,List.length_append,List.length_singleton,lsN_len] at hlen
    have hat:∀ j,j < dn → ky j = ((kyF h0 ++ [v.ky]) ++ rest).getD j ByteArray.empty:=fun j hj=>by rw [hrest,lsN_get ky _ hj]
    have hm0:(kyF h0).length < dn:=by omega
    have hkm:ky (kyF h0).length = v.ky:=by
      rw [hat _ hm0]
      simp [List.getD]
    have him:i = (kyF h0).length:=rise_ne (fun i hi=>(hv.2.2 i hi).1) hm0 i1 (i2.symm.trans hkm.symm)
    subst him
    refine ⟨(kyF h0).length,by omega,fun j hj=>goR_all hg0 _ ?_,fun _=>by rw [hkm]; exact b3,.inr ⟨hm0,by rw [hpl,i3]⟩⟩
    rw [hat j (by omega)]
    have e:((kyF h0 ++ [v.ky]) ++ rest).getD j ByteArray.empty = (kyF h0).getD j ByteArray.empty:=by
      simp [List.getD,List.getElem?_append_left hj,List.append_assoc]
    rw [e]
    exact getD_mem hj
end Go.Proofs.YtdlnnnlmlaploabGreatDoor
