import Derived.Test.YtdlnnnlmlaploaaDoorCo
namespace Go.Proofs.YtdlnnnlmlaploaaDoor
/-! ### The spans of a tree, and of a stack that is not yet closed, in plain lists -/
structure Sp where
  kind : Int := 0
  fr : Nat := 0
  to : Nat := 0
  dep : Nat := 0
  up : Int := -1
  nth : Nat := 0
  key : ByteArray := ByteArray.empty
/-- what children give, one behind the other: each is told how many came ahead -/
def kids (g : Nat → Nat → List Sp) : Nat → List Sp
  | 0 => []
  | n + 1 => kids g n ++ g n (kids g n).length
theorem kids_congr {g h : Nat → Nat → List Sp} : ∀ {n : Nat}, (∀ i m, i < n → g i m = h i m) → kids g n = kids h n
  | 0, _ => rfl
  | n + 1, e => by unfold kids; rw [kids_congr (fun i m hi => e i m (by omega)), e n _ (by omega)]
/-- the spans of a tree: 'here' of them came ahead, sp is its own but for kind and end -/
def walkT : T → Nat → Sp → List Sp
  | .no => fun _ _ => []
  | .mk k n s ln l dn ky dv => fun here sp =>
    { sp with kind := k, to := sp.fr + (txt (.mk k n s ln l dn ky dv)).length } ::
      (kids (fun i m => walkT (l i) (here + 1 + m) { fr := sp.fr + 1 + (catN (fun i => txt (l i)) i).length, dep := sp.dep + 1, up := here, nth := i }) ln ++
       kids (fun i m => walkT (dv i) (here + 1 + (kids (fun i m => walkT (l i) (here + 1 + m) { fr := sp.fr + 1 + (catN (fun i => txt (l i)) i).length, dep := sp.dep + 1, up := here, nth := i }) ln).length + m)
         { fr := sp.fr + 1 + (catN (fun i => txt (l i)) ln).length + (catN (fun i => wtx (ky i) ++ txt (dv i)) i).length + (wtx (ky i)).length, dep := sp.dep + 1, up := here, nth := i, key := ky i }) dn)
/-- the children of a frame so far -/
def Fr.kidsP (ps : List (ByteArray × T)) (here : Nat) (sp : Sp) : List Sp :=
  kids (fun i m => walkT (ps.getD i (ByteArray.empty, .no)).2 (here + 1 + m)
    { fr := sp.fr + 1 + (catN (fun i => wtx (ps.getD i (ByteArray.empty, .no)).1 ++ txt (ps.getD i (ByteArray.empty, .no)).2) i).length + (wtx (ps.getD i (ByteArray.empty, .no)).1).length, dep := sp.dep + 1, up := here, nth := i, key := (ps.getD i (ByteArray.empty, .no)).1 }) ps.length
def Fr.kidsL (ls : List T) (here : Nat) (sp : Sp) : List Sp :=
  kids (fun i m => walkT (ls.getD i .no) (here + 1 + m) { fr := sp.fr + 1 + (catN (fun i => txt (ls.getD i .no)) i).length, dep := sp.dep + 1, up := here, nth := i }) ls.length
def Fr.kd (f : Fr) : Int := if f.d = true then 4 else 3
def Fr.num (f : Fr) : Nat := if f.d = true then f.ps.length else f.ls.length
def Fr.ky (f : Fr) : ByteArray := if f.d = true then f.key else ByteArray.empty
def Fr.rest (f : Fr) (here : Nat) (sp : Sp) : List Sp := if f.d = true then Fr.kidsP f.ps here sp else Fr.kidsL f.ls here sp
/-- the spans of a frame that has not ended: its own has the end 0 -/
def Fr.sps (f : Fr) (here : Nat) (sp : Sp) : List Sp := { sp with kind := f.kd, to := 0 } :: f.rest here sp
/-- what is known of the value that begins at i in the stack; up: the place of its top -/
def due : List Fr → Int → Nat → Sp
  | [], _, i => { fr := i }
  | f :: r, up, i => { fr := i, dep := r.length + 1, up := up, nth := f.num, key := f.ky }
/-- the spans of a stack, and the place of its top -/
def stS : List Fr → List Sp × Int
  | [] => ([], -1)
  | f :: r => ((stS r).1 ++ f.sps (stS r).1.length (due r (stS r).2 (stx r).length), (stS r).1.length)
/-- the span of the value that begins in this stack -/
def dueS (st : List Fr) : Sp := due st (stS st).2 (stx st).length
theorem walkT_list (l : List T) (here : Nat) (sp : Sp) : walkT (tList l) here sp = { sp with kind := 3, to := sp.fr + (txt (tList l)).length } :: Fr.kidsL l here sp := by
  show _ :: (_ ++ []) = _
  rw [List.append_nil]; rfl
theorem walkT_dict (l : List (ByteArray × T)) (here : Nat) (sp : Sp) : walkT (tDict l) here sp = { sp with kind := 4, to := sp.fr + (txt (tDict l)).length } :: Fr.kidsP l here sp := by
  show _ :: ([] ++ kids _ _) = _
  rw [List.nil_append]; rfl
/-- a frame that ends: its own end is set, and these are the spans of its tree -/
theorem close_sps (f : Fr) (here : Nat) (sp : Sp) : walkT f.close here sp = { sp with kind := f.kd, to := sp.fr + (txt f.close).length } :: f.rest here sp := by
  unfold Fr.close Fr.kd Fr.rest
  by_cases hd : f.d = true
  · simp only [if_pos hd]; exact walkT_dict ..
  · simp only [if_neg hd]; exact walkT_list ..
/-- a value joins a frame: its spans stand behind those so far -/
theorem join_sps {f : Fr} {t : T} (h : f.d = true → f.has = true) (here i dep : Nat) (sp : Sp) (hi : i = sp.fr + f.tx.length) (hdep : sp.dep = dep) :
    (f.join t).sps here sp = f.sps here sp ++ walkT t (here + (f.sps here sp).length) { fr := i, dep := dep + 1, up := here, nth := f.num, key := f.ky } := by
  unfold Fr.sps Fr.join Fr.kd Fr.rest Fr.num Fr.ky Fr.tx at *
  subst hdep
  by_cases hd : f.d = true
  · simp only [if_pos hd, if_pos (h hd), ↓reduceIte] at hi ⊢
    rw [List.cons_append]
    congr 1
    unfold Fr.kidsP
    rw [List.length_append, List.length_singleton, kids, getD_at]
    rw [kids_congr (h := fun i m => walkT (f.ps.getD i (ByteArray.empty, .no)).2 (here + 1 + m)
      { fr := sp.fr + 1 + (catN (fun i => wtx (f.ps.getD i (ByteArray.empty, .no)).1 ++ txt (f.ps.getD i (ByteArray.empty, .no)).2) i).length + (wtx (f.ps.getD i (ByteArray.empty, .no)).1).length, dep := sp.dep + 1, up := here, nth := i, key := (f.ps.getD i (ByteArray.empty, .no)).1 })
      (fun i m hi => by
        rw [getD_lt hi, catN_congr (f := fun i => wtx ((f.ps ++ [(f.key, t)]).getD i (ByteArray.empty, .no)).1 ++ txt ((f.ps ++ [(f.key, t)]).getD i (ByteArray.empty, .no)).2) (g := fun i => wtx (f.ps.getD i (ByteArray.empty, .no)).1 ++ txt (f.ps.getD i (ByteArray.empty, .no)).2) (fun j hj => by rw [getD_lt (by omega)])])]
    congr 1
    rw [catN_congr (f := fun i => wtx ((f.ps ++ [(f.key, t)]).getD i (ByteArray.empty, .no)).1 ++ txt ((f.ps ++ [(f.key, t)]).getD i (ByteArray.empty, .no)).2) (g := fun i => wtx (f.ps.getD i (ByteArray.empty, .no)).1 ++ txt (f.ps.getD i (ByteArray.empty, .no)).2) (fun j hj => by rw [getD_lt (by omega)])]
    rw [List.length_cons]
    congr 1
    · omega
    · congr 1
      rw [hi, List.length_cons, List.length_append]; dsimp only; omega
  · simp only [if_neg hd, Bool.false_eq_true, ↓reduceIte] at hi ⊢
    rw [List.cons_append]
    congr 1
    unfold Fr.kidsL
    rw [List.length_append, List.length_singleton, kids, getD_at]
    rw [kids_congr (h := fun i m => walkT (f.ls.getD i .no) (here + 1 + m) { fr := sp.fr + 1 + (catN (fun i => txt (f.ls.getD i .no)) i).length, dep := sp.dep + 1, up := here, nth := i })
      (fun i m hi => by
        rw [getD_lt hi, catN_congr (f := fun i => txt ((f.ls ++ [t]).getD i .no)) (g := fun i => txt (f.ls.getD i .no)) (fun j hj => by rw [getD_lt (by omega)])])]
    congr 1
    rw [catN_congr (f := fun i => txt ((f.ls ++ [t]).getD i .no)) (g := fun i => txt (f.ls.getD i .no)) (fun j hj => by rw [getD_lt (by omega)])]
    rw [List.length_cons]
    congr 1
    · omega
    · congr 1
      rw [hi, List.length_cons]; omega
theorem due_dep (st : List Fr) (u : Int) (i : Nat) : (due st u i).dep = st.length := by cases st <;> rfl
theorem due_fr (st : List Fr) (u : Int) (i : Nat) : (due st u i).fr = i := by cases st <;> rfl
/-- a value is delivered to a stack that waits for it: the spans of the tree stand behind those of the stack -/
theorem stS_join {f : Fr} {r : List Fr} {t : T} (h : f.d = true → f.has = true) :
    (stS (f.join t :: r)).1 = (stS (f :: r)).1 ++ walkT t (stS (f :: r)).1.length (dueS (f :: r)) := by
  show (stS r).1 ++ (f.join t).sps _ _ = ((stS r).1 ++ f.sps _ _) ++ walkT t ((stS r).1 ++ f.sps _ _).length _
  rw [join_sps h _ (stx (f :: r)).length r.length _ (by rw [due_fr]; show (stx r ++ f.tx).length = _; rw [List.length_append]) (due_dep ..), List.append_assoc, List.length_append]
  rfl
/-- the span of a frame that ends -/
def endS (f : Fr) (r : List Fr) : Sp := { dueS r with kind := f.kd, to := (stx r).length + (txt f.close).length }
/-- a frame ends: its span's end is set in the list so far -/
theorem stS_close {f : Fr} {r : List Fr} : (stS r).1 ++ walkT f.close (stS r).1.length (dueS r) = (stS r).1 ++ endS f r :: f.rest (stS r).1.length (dueS r) := by
  rw [close_sps]
  congr 2
  simp only [endS, dueS, due_fr]
theorem stS_top {f : Fr} {r : List Fr} : (stS (f :: r)).1 = (stS r).1 ++ { dueS r with kind := f.kd, to := 0 } :: f.rest (stS r).1.length (dueS r) := rfl
theorem stS_open {d : Bool} {r : List Fr} : (stS ({ d := d } :: r)).1 = (stS r).1 ++ [{ dueS r with kind := (if d = true then 4 else 3), to := 0 }] := by
  rw [stS_top]
  cases d <;> rfl
/-- a leaf's spans: its own alone -/
theorem walkT_num (n : Int) (here : Nat) (sp : Sp) : walkT (tNum n) here sp = [{ sp with kind := 1, to := sp.fr + (txt (tNum n)).length }] := rfl
theorem walkT_str (s : ByteArray) (here : Nat) (sp : Sp) : walkT (tStr s) here sp = [{ sp with kind := 2, to := sp.fr + (txt (tStr s)).length }] := rfl
end Go.Proofs.YtdlnnnlmlaploaaDoor
