import Derived.Test.YtdlnnnlmlaploaaDoorNode
import Derived.Lib.ParseIntBTie
namespace Go.Proofs.YtdlnnnlmlaploaaDoor
/-! ### Reading a text, in plain lists: a machine that goes step by step, as the document tells it -/
/-- what reading a piece gives: the piece and the place behind it, or the place of the fault and the error -/
inductive Pc (α : Type) where
  | ok (a : α) (j : Nat)
  | bad (p : Nat) (e : Int)
/-- the byte at a place -/
def byt (b : List UInt8) (i : Nat) : UInt8 := b.getD i 0
def dig (c : UInt8) : Bool := 48 ≤ c && c ≤ 57
/-- how many digits stand from i on -/
def run (b : List UInt8) (i : Nat) : Nat := ((b.drop i).takeWhile dig).length
/-- the bytes from i on, ahead of j -/
def cut (b : List UInt8) (i j : Nat) : List UInt8 := (b.drop i).take (j - i)
/-- digits, and the byte that ends them -/
def digs (b : List UInt8) (en : UInt8) (i : Nat) : Pc (List UInt8) :=
  if b.length ≤ i + run b i then .bad b.length 21
  else if run b i = 0 ∨ byt b (i + run b i) ≠ en then .bad (i + run b i) 22
  else .ok (cut b i (i + run b i)) (i + run b i + 1)
def padd (l : List UInt8) : Bool := decide (1 < l.length) && byt l 0 == 48
/-- a string -/
def strg (b : List UInt8) (i : Nat) : Pc ByteArray :=
  match digs b 58 i with
  | .bad p e => .bad p e
  | .ok d j => if padd d = true then .bad i 23 else
    match Lib.atoiAll d with
    | .ok n => if (b.length : Int) - j < n then .bad b.length 21 else .ok ⟨(cut b j (j + n.toNat)).toArray⟩ (j + n.toNat)
    | _ => .bad b.length 21
/-- a number; at i stands the letter i -/
def numb (b : List UInt8) (i : Nat) : Pc Int :=
  if b.length ≤ i + 1 then .bad b.length 21 else
  let sg : List UInt8 := if byt b (i + 1) = 45 then [45] else []
  match digs b 101 (i + 1 + sg.length) with
  | .bad p e => .bad p e
  | .ok d j => match Lib.atoiAll (sg ++ d) with
    | .ok n => if padd d = true ∨ sg ++ d = [45, 48] then .bad i 23 else .ok n j
    | _ => .bad i 23
/-- a list or a dictionary that has begun and not ended -/
structure Fr where
  d : Bool
  ls : List T := []
  ps : List (ByteArray × T) := []
  key : ByteArray := ByteArray.empty
  has : Bool := false
def tNum (n : Int) : T := .mk 1 n ByteArray.empty 0 (fun _ => .no) 0 (fun _ => ByteArray.empty) (fun _ => .no)
def tStr (s : ByteArray) : T := .mk 2 0 s 0 (fun _ => .no) 0 (fun _ => ByteArray.empty) (fun _ => .no)
def tList (l : List T) : T := .mk 3 0 ByteArray.empty l.length (fun i => l.getD i .no) 0 (fun _ => ByteArray.empty) (fun _ => .no)
def tDict (l : List (ByteArray × T)) : T := .mk 4 0 ByteArray.empty 0 (fun _ => .no) l.length (fun i => (l.getD i (ByteArray.empty, .no)).1) (fun i => (l.getD i (ByteArray.empty, .no)).2)
def Fr.close (f : Fr) : T := if f.d = true then tDict f.ps else tList f.ls
def Fr.join (f : Fr) (t : T) : Fr := if f.d = true then { d := true, ps := f.ps ++ [(f.key, t)] } else { d := false, ls := f.ls ++ [t] }
/-- where the machine stands -/
inductive Out where
  | go (st : List Fr) (i : Nat)
  | val (t : T) (i : Nat)
  | bad (p : Nat) (e : Int)
def deliver : List Fr → T → Nat → Out
  | [], t, i => .val t i
  | f :: r, t, i => .go (f.join t :: r) i
def scal (b : List UInt8) (st : List Fr) (i : Nat) : Out :=
  if byt b i = 105 then (match numb b i with | .bad p e => .bad p e | .ok n j => deliver st (tNum n) j)
  else if dig (byt b i) = true then (match strg b i with | .bad p e => .bad p e | .ok s j => deliver st (tStr s) j)
  else .bad i 22
/-- a value begins -/
def opn (b : List UInt8) (st : List Fr) (i : Nat) : Out :=
  if byt b i = 108 then (if 32 ≤ st.length then .bad i 24 else .go ({ d := false } :: st) (i + 1))
  else if byt b i = 100 then (if 32 ≤ st.length then .bad i 24 else .go ({ d := true } :: st) (i + 1))
  else scal b st i
def leB (s p : ByteArray) : Bool := Op.bytesLess s.toList p.toList || s.toList == p.toList
/-- a key begins -/
def keyy (b : List UInt8) (f : Fr) (r : List Fr) (i : Nat) : Out :=
  if dig (byt b i) = false then .bad i 22 else
  match strg b i with
  | .bad p e => .bad p e
  | .ok s j => if f.ps ≠ [] ∧ leB s (f.ps.getLastD (ByteArray.empty, .no)).1 = true then .bad i 25 else .go ({ f with key := s, has := true } :: r) j
def step (b : List UInt8) (st : List Fr) (i : Nat) : Out :=
  if b.length ≤ i then .bad b.length 21 else
  match st with
  | [] => opn b [] i
  | f :: r =>
    if f.d = true ∧ f.has = false then (if byt b i = 101 then deliver r f.close (i + 1) else keyy b f r i)
    else if f.d = false ∧ byt b i = 101 then deliver r f.close (i + 1)
    else opn b (f :: r) i
inductive Run (b : List UInt8) : Out → Out → Prop where
  | refl (o : Out) : Run b o o
  | more {st : List Fr} {i : Nat} {o : Out} : Run b (step b st i) o → Run b (.go st i) o
theorem Run.trans {b : List UInt8} {o p q : Out} (h : Run b o p) (k : Run b p q) : Run b o q := by
  induction h with
  | refl => exact k
  | more _ ih => exact .more (ih k)
theorem Run.one {b : List UInt8} {st : List Fr} {i : Nat} {o : Out} (h : step b st i = o) : Run b (.go st i) o := .more (h ▸ .refl _)
def Out.fin : Out → Prop
  | .go _ _ => False
  | _ => True
theorem Run.unique {b : List UInt8} {o p q : Out} (h : Run b o p) (k : Run b o q) (hp : p.fin) (hq : q.fin) : p = q := by
  induction h with
  | refl o => cases k with
    | refl => rfl
    | more _ => exact hp.elim
  | more h ih => cases k with
    | refl => exact hq.elim
    | more k => exact ih k hp
end Go.Proofs.YtdlnnnlmlaploaaDoor
