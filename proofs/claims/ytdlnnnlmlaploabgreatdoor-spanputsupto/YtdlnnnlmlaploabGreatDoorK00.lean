import Derived.Test.YtdlnnnlmlaploabGreatDoorRows
import Derived.WalkKit
import Derived.BigQuiet
import Derived.Deep.QuietTactic
import Derived.WalkLawsBesides
import Derived.Deep.Slices
import Derived.Deep.RegionHeld3
namespace Go.Proofs.YtdlnnnlmlaploabGreatDoor
open Go.RowKit Go.Deep
inductive T where
  | no
  | mk (k n:Int) (s:ByteArray) (ln:Nat) (l:Nat → T) (dn:Nat) (ky:Nat → ByteArray) (dv:Nat → T)
def T.k:T → Int | .mk k _ _ _ _ _ _ _=>k | .no=>0
def T.n:T → Int | .mk _ n _ _ _ _ _ _=>n | .no=>0
def T.s:T → ByteArray | .mk _ _ s _ _ _ _ _=>s | .no=>ByteArray.empty
def vv (t:T) (x y:Value):Value:=.agg #[.int .i64 t.k,.int .i64 t.n,.string t.s,x,y]
def five (w:World) (b o:Nat) (t:T) (x y:Value):Prop:=
  w.cell? ⟨b,o,none⟩ = some (.int .i64 t.k)∧w.cell? ⟨b,o + 1,none⟩ = some (.int .i64 t.n)∧w.cell? ⟨b,o + 2,none⟩ = some (.string t.s) ∧
  w.cell? ⟨b,o + 3,none⟩ = some x∧w.cell? ⟨b,o + 4,none⟩ = some y
def RV (S:Nat → Prop) (w:World):T → Value → Value → Prop
  | .no=>fun _ _=>False
  | .mk _ _ _ ln l dn ky dv=>fun x y =>
    (∃ a ca,x = .slice a ln ca∧(ln = 0 ∨ ∃ b o,a = some ⟨b,o,none⟩∧S b∧b < w.heap.size∧∀ i,i < ln → ∃ x' y',RV S w (l i) x' y'∧five w b (o + i * 5) (l i) x' y')) ∧
    (∃ a ca,y = .slice a dn ca∧(dn = 0 ∨ ∃ b o,a = some ⟨b,o,none⟩∧S b∧b < w.heap.size∧∀ i,i < dn → ∃ x' y',RV S w (dv i) x' y'∧w.cell? ⟨b,o + i * 6,none⟩ = some (.string (ky i))∧five w b (o + i * 6 + 1) (dv i) x' y'))
def RL (S:Nat → Prop) (w:World) (ln:Nat) (l:Nat → T) (x:Value):Prop:=
  ∃ a ca,x = .slice a ln ca∧(ln = 0 ∨ ∃ b o,a = some ⟨b,o,none⟩∧S b∧b < w.heap.size∧∀ i,i < ln → ∃ x' y',RV S w (l i) x' y'∧five w b (o + i * 5) (l i) x' y')
def RD (S:Nat → Prop) (w:World) (dn:Nat) (ky:Nat → ByteArray) (dv:Nat → T) (y:Value):Prop:=
  ∃ a ca,y = .slice a dn ca∧(dn = 0 ∨ ∃ b o,a = some ⟨b,o,none⟩∧S b∧b < w.heap.size∧∀ i,i < dn → ∃ x' y',RV S w (dv i) x' y'∧w.cell? ⟨b,o + i * 6,none⟩ = some (.string (ky i))∧five w b (o + i * 6 + 1) (dv i) x' y')
theorem five.keep {w w':World} {b o:Nat} {t:T} {x y:Value} (h:five w b o t x y) (hb:w'.heap[b]? = w.heap[b]?):five w' b o t x y:=by
  have c:∀ j,w'.cell? ⟨b,j,none⟩ = w.cell? ⟨b,j,none⟩:=fun j=>World.cell?_of_block (w:=w) (a:=⟨b,j,none⟩) hb
  unfold five at h ⊢
  simp only [c]
  exact h
theorem RV.keep {S S':Nat → Prop} {w w':World} (hS:∀ b,S b → S' b) (hs:w.heap.size ≤ w'.heap.size) (hb:∀ b,S b → b < w.heap.size → w'.heap[b]? = w.heap[b]?) :
    ∀ (t:T) (x y:Value),RV S w t x y → RV S' w' t x y:=by
  intro t
  induction t with
  | no=>intro x y h; exact h
  | mk k n s ln l dn ky dv il id =>
    rintro x y ⟨⟨a,ca,rfl,h1⟩,⟨a',ca',rfl,h2⟩⟩
    refine ⟨⟨a,ca,rfl,?_⟩,⟨a',ca',rfl,?_⟩⟩
    · rcases h1 with h | ⟨b,o,rfl,hSb,hlt,h⟩
      · exact .inl h
      · refine .inr ⟨b,o,rfl,hS b hSb,Nat.lt_of_lt_of_le hlt hs,fun i hi=>?_⟩
        obtain ⟨x',y',g1,g2⟩:=h i hi
        exact ⟨x',y',il i _ _ g1,g2.keep (hb b hSb hlt)⟩
    · rcases h2 with h | ⟨b,o,rfl,hSb,hlt,h⟩
      · exact .inl h
      · refine .inr ⟨b,o,rfl,hS b hSb,Nat.lt_of_lt_of_le hlt hs,fun i hi=>?_⟩
        obtain ⟨x',y',g1,g2,g3⟩:=h i hi
        exact ⟨x',y',id i _ _ g1,(World.cell?_of_block (w:=w) (hb b hSb hlt)).trans g2,g3.keep (hb b hSb hlt)⟩
theorem RV.move {S S':Nat → Prop} {w w':World} (hS:∀ b,S b → b < w.heap.size → S' b) (hs:w.heap.size ≤ w'.heap.size) (hb:∀ b,S b → b < w.heap.size → w'.heap[b]? = w.heap[b]?) :
    ∀ (t:T) (x y:Value),RV S w t x y → RV S' w' t x y:=by
  intro t
  induction t with
  | no=>intro x y h; exact h
  | mk k n s ln l dn ky dv il id =>
    rintro x y ⟨⟨a,ca,rfl,h1⟩,⟨a',ca',rfl,h2⟩⟩
    refine ⟨⟨a,ca,rfl,?_⟩,⟨a',ca',rfl,?_⟩⟩
    · rcases h1 with h | ⟨b,o,rfl,hSb,hlt,h⟩
      · exact .inl h
      · refine .inr ⟨b,o,rfl,hS b hSb hlt,Nat.lt_of_lt_of_le hlt hs,fun i hi=>?_⟩
        obtain ⟨x',y',g1,g2⟩:=h i hi
        exact ⟨x',y',il i _ _ g1,g2.keep (hb b hSb hlt)⟩
    · rcases h2 with h | ⟨b,o,rfl,hSb,hlt,h⟩
      · exact .inl h
      · refine .inr ⟨b,o,rfl,hS b hSb hlt,Nat.lt_of_lt_of_le hlt hs,fun i hi=>?_⟩
        obtain ⟨x',y',g1,g2,g3⟩:=h i hi
        exact ⟨x',y',id i _ _ g1,(World.cell?_of_block (w:=w) (hb b hSb hlt)).trans g2,g3.keep (hb b hSb hlt)⟩
theorem RV.slices {S:Nat → Prop} {w:World} {t:T} {x y:Value} (h:RV S w t x y):(∃ a n c,x = .slice a n c)∧∃ a n c,y = .slice a n c:=by
  cases t with
  | no=>exact h.elim
  | mk k n s ln l dn ky dv =>
    obtain ⟨⟨a,ca,rfl,_⟩,⟨a',ca',rfl,_⟩⟩:=h
    exact ⟨⟨_,_,_,rfl⟩,⟨_,_,_,rfl⟩⟩
theorem RV.lift {S S':Nat → Prop} {w w':World} (hs:w.heap.size ≤ w'.heap.size) (hb:∀ b,b < w.heap.size → w'.heap[b]? = w.heap[b]?) (hS:∀ b,b < w.heap.size → S' b) :
    ∀ (t:T) (x y:Value),RV S w t x y → RV S' w' t x y:=by
  intro t
  induction t with
  | no=>intro x y h; exact h
  | mk k n s ln l dn ky dv il id =>
    rintro x y ⟨⟨a,ca,rfl,h1⟩,⟨a',ca',rfl,h2⟩⟩
    refine ⟨⟨a,ca,rfl,?_⟩,⟨a',ca',rfl,?_⟩⟩
    · rcases h1 with h | ⟨b,o,rfl,hSb,hlt,h⟩
      · exact .inl h
      · refine .inr ⟨b,o,rfl,hS b hlt,Nat.lt_of_lt_of_le hlt hs,fun i hi=>?_⟩
        obtain ⟨x',y',g1,g2⟩:=h i hi
        exact ⟨x',y',il i _ _ g1,g2.keep (hb b hlt)⟩
    · rcases h2 with h | ⟨b,o,rfl,hSb,hlt,h⟩
      · exact .inl h
      · refine .inr ⟨b,o,rfl,hS b hlt,Nat.lt_of_lt_of_le hlt hs,fun i hi=>?_⟩
        obtain ⟨x',y',g1,g2,g3⟩:=h i hi
        exact ⟨x',y',id i _ _ g1,(World.cell?_of_block (w:=w) (hb b hlt)).trans g2,g3.keep (hb b hlt)⟩
theorem RL.keep {S S':Nat → Prop} {w w':World} (hS:∀ b,S b → S' b) (hs:w.heap.size ≤ w'.heap.size) (hb:∀ b,S b → b < w.heap.size → w'.heap[b]? = w.heap[b]?) {ln:Nat} {l:Nat → T} {x:Value} (h:RL S w ln l x):RL S' w' ln l x:=by
  have h0:RV S w (.mk 0 0 ByteArray.empty ln l 0 (fun _=>ByteArray.empty) (fun _=>.no)) x (.slice none 0 0):=⟨h,none,0,rfl,.inl rfl⟩
  exact (RV.keep hS hs hb _ _ _ h0).1
theorem RD.keep {S S':Nat → Prop} {w w':World} (hS:∀ b,S b → S' b) (hs:w.heap.size ≤ w'.heap.size) (hb:∀ b,S b → b < w.heap.size → w'.heap[b]? = w.heap[b]?) {dn:Nat} {ky:Nat → ByteArray} {dv:Nat → T} {y:Value} (h:RD S w dn ky dv y):RD S' w' dn ky dv y:=by
  have h0:RV S w (.mk 0 0 ByteArray.empty 0 (fun _=>.no) dn ky dv) (.slice none 0 0) y:=⟨⟨none,0,rfl,.inl rfl⟩,h⟩
  exact (RV.keep hS hs hb _ _ _ h0).2
def T.ok:T → Prop
  | .no=>True
  | .mk _ _ s ln l dn ky dv=>s.size ≤ 140737488351232∧ln ≤ 140737488351232∧dn ≤ 140737488351232∧(∀ i,i < ln → (l i).ok)∧(∀ i,i < dn → (ky i).size ≤ 140737488351232∧(dv i).ok)
def T.small:T → Prop
  | .no=>True
  | .mk _ _ _ ln l dn _ dv=>ln ≤ 2147483647∧dn ≤ 2147483647∧(∀ i,i < ln → (l i).small)∧(∀ i,i < dn → (dv i).small)
theorem cells9:Tryz.prog.cellsOf 9 = 1:=by kernel_rfl
theorem len2 {α:Type} {l:List α} (h:l.length = 2):∃ a b,l = [a,b]:=by
  match l,h with
  | [a,b],_=>exact ⟨a,b,rfl⟩
section
variable {H:Type} {enc:TypeId × Value → H} {w:World}
theorem weightsAll_mem {e:TypeId} {l:List (DataW H)} {d:DataW H} (h:d ∈ l) {q:Nat} (hq:q ∈ d.weights Tryz.prog e):q ∈ DataW.weightsAll Tryz.prog e l:=by
  induction l with
  | nil=>cases h
  | cons a r ih =>
    rw [DataW.weightsAll,List.mem_append]
    rcases List.mem_cons.1 h with rfl | h
    · exact .inl hq
    · exact .inr (ih h)
theorem openRow {t e:TypeId} (ht:Tryz.prog.underlying t = some (.slice e)) {fuel:Nat} {v:Value} {x:DataW H × List MemPlace} (h:DataW.trod enc Tryz.prog w 0 (fun _=>true) true fuel t [v] = some x)
    (hw:∀ q ∈ DataW.weights Tryz.prog t x.1,q ≤ reachBytes) (hc:0 < Tryz.prog.cellsOf e) :
    ∃ (a:Option Addr) (len cap:Nat),v = .slice a len cap∧len * Tryz.prog.bytesOf e ≤ reachBytes∧(len = 0 ∨ ∃ m,fuel = m + 1∧∃ b o,a = some ⟨b,o,none⟩∧b < w.heap.size ∧
      ∀ i,i < len → ∃ cs y,cs.length = Tryz.prog.cellsOf e∧(∀ j,j < Tryz.prog.cellsOf e → w.cell? ⟨b,o + i * Tryz.prog.cellsOf e + j,none⟩ = cs[j]?)∧DataW.trod enc Tryz.prog w 0 (fun _=>true) true m e cs = some y∧∀ q ∈ DataW.weights Tryz.prog e y.1,q ≤ reachBytes):=by
  rcases DataW.trod_slice ht h with ⟨h0,rfl⟩ | ⟨a,len,cap,elems,rest,m,rfl,h0,rfl,_,_,_,hlen,hel,_,_⟩
  · simp at h0
    exact ⟨none,0,0,h0,by simp,.inl rfl⟩
  simp at h0
  subst h0
  simp only [DataW.weights,ht] at hw
  refine ⟨some a,len,cap,rfl,?_,?_⟩
  · have:=hw _ (List.mem_cons_self ..)
    simp only [List.length_map,hlen] at this
    exact Nat.le_trans (Nat.mul_le_mul_right _ (by omega)) this
  by_cases h00:len = 0
  · exact .inl h00
  have key:∀ i,i < len → ∃ cs y,w.cells? 0 (a.add (i * Tryz.prog.cellsOf e)) (Tryz.prog.cellsOf e) = some cs∧DataW.trod enc Tryz.prog w 0 (fun _=>true) true m e cs = some y∧y ∈ elems:=by
    intro i hi
    have:=hel i hi
    rw [List.getElem?_eq_getElem (by omega)] at this
    obtain ⟨cs',h1,h2⟩:=Option.bind_eq_some_iff.1 this
    exact ⟨cs',_,h1,h2,List.getElem_mem _⟩
  have cellof:∀ {a':Addr} {c:Nat} {cs:List Value},w.cells? 0 a' c = some cs → cs.length = c∧∀ j,j < c → w.cell? (a'.add j) = cs[j]?:=fun h=>⟨(World.cells?_some h).2.1,(World.cells?_some h).2.2⟩
  obtain ⟨b,o,spot⟩:=a
  have hspot:spot = none∧b < w.heap.size:=by
    obtain ⟨cs,y,h1,_,_⟩:=key 0 (by omega)
    obtain ⟨hl,hj⟩:=cellof h1
    have:=hj 0 hc
    rw [List.getElem?_eq_getElem (by omega)] at this
    have h2:=World.cell?_spot this
    have h3:=World.block_lt_of_cell? w _ this
    simp [Addr.add] at h2 h3
    exact ⟨h2,h3⟩
  obtain ⟨rfl,hb⟩:=hspot
  have hadd:∀ o i:Nat,(⟨b,o,none⟩:Addr).add i = ⟨b,o + i,none⟩:=by intro o i; unfold Addr.add; split <;> simp_all
  refine .inr ⟨m,rfl,b,o,rfl,hb,fun i hi=>?_⟩
  obtain ⟨cs,y,h1,h2,h3⟩:=key i hi
  obtain ⟨hl,hj⟩:=cellof h1
  refine ⟨cs,y,hl,fun j hj'=>?_,h2,fun q hq=>hw q ?_⟩
  · have:=hj j hj'
    rw [hadd,hadd] at this
    exact this
  · refine List.mem_cons_of_mem _ (List.mem_append.2 (.inl (weightsAll_mem (List.mem_map_of_mem h3) hq)))
end
structure Besides (cb:Nat) (w w':World):Prop where
  os:w'.os = w.os
  tape:w'.tape = w.tape
  output:w'.output = w.output
  size:w.heap.size ≤ w'.heap.size
  block:∀ k,k < w.heap.size → k ≠ cb → w'.heap[k]? = w.heap[k]?
theorem Besides.refl (cb:Nat) (w:World):Besides cb w w:=⟨rfl,rfl,rfl,Nat.le_refl _,fun _ _ _=>rfl⟩
theorem Besides.trans {cb:Nat} {a b c:World} (h:Besides cb a b) (g:Besides cb b c):Besides cb a c:=
  ⟨g.os.trans h.os,g.tape.trans h.tape,g.output.trans h.output,Nat.le_trans h.size g.size,fun k hk hn=>(g.block k (Nat.lt_of_lt_of_le hk h.size) hn).trans (h.block k hk hn)⟩
theorem Besides.alloc (cb:Nat) (w:World) (o:Obj):Besides cb w (w.alloc o):=
  ⟨rfl,rfl,rfl,by simp,fun k hk _=>Below.heap_alloc _ _ _ hk⟩
theorem Besides.setCell (w:World) (a:Addr) (u:Value):Besides a.block w (w.setCell a u):=
  ⟨rfl,rfl,rfl,by simp [World.setCell],fun k _ hn=>Below.heap_setCell _ _ _ _ hn⟩
theorem Besides.cell {cb:Nat} {w w':World} (h:Besides cb w w') {p:Addr} {v:Value} (hp:p.block ≠ cb) (hc:w.cell? p = some v):w'.cell? p = some v:=
  (World.cell?_of_block (w:=w) (h.block p.block (World.block_lt_of_cell? w p hc) hp)).trans hc
def sumN (f:Nat → Nat):Nat → Nat
  | 0=>0
  | n + 1=>sumN f n + f n
def wt:T → Nat
  | .no=>1
  | .mk _ _ s ln l dn ky dv=>1 + s.size + sumN (fun i=>wt (l i)) ln + sumN (fun i=>1 + (ky i).size + wt (dv i)) dn
theorem cell_alloc_old {w:World} {o:Obj} {p:Addr} {v:Value} (h:w.cell? p = some v):(w.alloc o).cell? p = some v:=
  (World.cell?_of_block (w:=w) (Below.heap_alloc w o p.block (World.block_lt_of_cell? w p h))).trans h
theorem frozen_alloc_old {w:World} {o:Obj} {p:Addr} {v:Value} (h:w.cell? p = some v):(w.alloc o).frozen? p = w.frozen? p:=
  World.frozen?_of_block (w:=w) (Below.heap_alloc w o p.block (World.block_lt_of_cell? w p h))
theorem Below.cellS {B:Nat} {w w':World} (h:Below B w w') {p:Addr} {v:Value} (hB:w.heap.size ≤ B) (hc:w.cell? p = some v):w'.cell? p = some v:=
  (h.cell (Nat.lt_of_lt_of_le (World.block_lt_of_cell? w p hc) hB)).trans hc
theorem Below.rv {B:Nat} {w w':World} (h:Below B w w') (hB:w.heap.size ≤ B) {S:Nat → Prop} {t:T} {x y:Value} (g:RV S w t x y):RV (fun _=>True) w' t x y:=
  RV.lift h.size (fun b hb=>h.block b (Nat.lt_of_lt_of_le hb hB)) (fun _ _=>trivial) _ _ _ g
def Own (k n:Int) (s:ByteArray) (ln dn:Nat):Prop:=(k = 1 ∨ n = 0)∧(k = 2 ∨ s.toList = [])∧(k = 3 ∨ ln = 0)∧(k = 4 ∨ dn = 0)
def BP (p:Bool → Prop) (w:World) (e:Ending) (w':World):Prop:=∃ r,e = .returned (.bool r)∧p r∧Below w.heap.size w w'
set_option maxHeartbeats 2000000 in
theorem pure32 (k n:Int) (s:ByteArray) (ln dn:Nat) (a a':Option Addr) (c c':Nat) (w:World) :
    Calls Tryz.prog 82 #[.agg #[.int .i64 k,.int .i64 n,.string s,.slice a ln c,.slice a' dn c']] w (BP (fun r=>r = true ↔ 1 ≤ k∧k ≤ 4∧Own k n s ln dn) w):=by
  go_enter Tryz.func82,Tryz.ntmps82
  go_wp2
  all_goals
    go_ret
    refine ⟨_,rfl,?_,(Below.refl _ _).alloc (Nat.le_refl _) _⟩
    unfold Own
    first
      | (simp_all; done)
      | (simp_all; omega)
end Go.Proofs.YtdlnnnlmlaploabGreatDoor
