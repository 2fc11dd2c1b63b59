import Derived.Test.YtegdlkbilgkfoaaDoorM02
import Derived.Lib.ParseIntBTie
import Derived.Test.YtegdlkbilgkfoaaDoorM00
import Derived.Test.YtegdlkbilgkfoaaDoorM03
import Derived.Lib.Hide
import Derived.Laws.BytesString
import Derived.Laws.IdiomStrings
import Derived.Shelf.Strconv.AtoiAll
import Derived.Shelf.Strconv.ParseIntPublic10
import Derived.Shelf.Lay
import Derived.Ground.NamesProg
import Derived.Lib.AtoiErrMem
import Derived.Shelf.Strconv.AppendIntPublic10
import Derived.Shelf.Strconv.Itoa3
import Derived.Lib.ItoaLen
import Derived.Lib.OwnKind
import Derived.Lib.AppendStr
namespace Go.Proofs.YtegdlkbilgkfoaaDoor
/-! ### Reading a text, in plain lists: a machine that goes step by step, as the document tells it -/
/-- what reading a piece gives: the piece and the place behind it, or the place of the fault and the error -/
inductive Pc (α : Type) where
  | ok (a : α) (j : Nat)
  | bad (p : Nat) (e : Int)
/-- the byte at a place -/
def byt (b : List UInt8) (i : Nat) : UInt8 := b.getD i 0
def dig (c : UInt8) : Bool := 48 ≤ c && c ≤ 57
/-- how many digits stand from i on -/
def run (b : List UInt8) (i : Nat) : Nat := ((b.drop i).takeWhile dig).length
/-- the bytes from i on, ahead of j -/
def cut (b : List UInt8) (i j : Nat) : List UInt8 := (b.drop i).take (j - i)
/-- digits, and the byte that ends them -/
def digs (b : List UInt8) (en : UInt8) (i : Nat) : Pc (List UInt8) :=
  if b.length ≤ i + run b i then .bad b.length 21
  else if run b i = 0 ∨ byt b (i + run b i) ≠ en then .bad (i + run b i) 22
  else .ok (cut b i (i + run b i)) (i + run b i + 1)
def padd (l : List UInt8) : Bool := decide (1 < l.length) && byt l 0 == 48
/-- a string -/
def strg (b : List UInt8) (i : Nat) : Pc ByteArray :=
  match digs b 58 i with
  | .bad p e => .bad p e
  | .ok d j => if padd d = true then .bad i 23 else
    match Lib.atoiAll d with
    | .ok n => if (b.length : Int) - j < n then .bad b.length 21 else .ok ⟨(cut b j (j + n.toNat)).toArray⟩ (j + n.toNat)
    | _ => .bad b.length 21
/-- a number; at i stands the letter i -/
def numb (b : List UInt8) (i : Nat) : Pc Int :=
  if b.length ≤ i + 1 then .bad b.length 21 else
  let sg : List UInt8 := if byt b (i + 1) = 45 then [45] else []
  match digs b 101 (i + 1 + sg.length) with
  | .bad p e => .bad p e
  | .ok d j => match Lib.atoiAll (sg ++ d) with
    | .ok n => if padd d = true ∨ sg ++ d = [45, 48] then .bad i 23 else .ok n j
    | _ => .bad i 23
/-- a list or a dictionary that has begun and not ended -/
structure Fr where
  d : Bool
  ls : List T := []
  ps : List (ByteArray × T) := []
  key : ByteArray := ByteArray.empty
  has : Bool := false
def tNum (n : Int) : T := .mk 1 n ByteArray.empty 0 (fun _ => .no) 0 (fun _ => ByteArray.empty) (fun _ => .no)
def tStr (s : ByteArray) : T := .mk 2 0 s 0 (fun _ => .no) 0 (fun _ => ByteArray.empty) (fun _ => .no)
def tList (l : List T) : T := .mk 3 0 ByteArray.empty l.length (fun i => l.getD i .no) 0 (fun _ => ByteArray.empty) (fun _ => .no)
def tDict (l : List (ByteArray × T)) : T := .mk 4 0 ByteArray.empty 0 (fun _ => .no) l.length (fun i => (l.getD i (ByteArray.empty, .no)).1) (fun i => (l.getD i (ByteArray.empty, .no)).2)
def Fr.close (f : Fr) : T := if f.d = true then tDict f.ps else tList f.ls
def Fr.join (f : Fr) (t : T) : Fr := if f.d = true then { d := true, ps := f.ps ++ [(f.key, t)] } else { d := false, ls := f.ls ++ [t] }
/-- where the machine stands -/
inductive Out where
  | go (st : List Fr) (i : Nat)
  | val (t : T) (i : Nat)
  | bad (p : Nat) (e : Int)
def deliver : List Fr → T → Nat → Out
  | [], t, i => .val t i
  | f :: r, t, i => .go (f.join t :: r) i
def scal (b : List UInt8) (st : List Fr) (i : Nat) : Out :=
  if byt b i = 105 then (match numb b i with | .bad p e => .bad p e | .ok n j => deliver st (tNum n) j)
  else if dig (byt b i) = true then (match strg b i with | .bad p e => .bad p e | .ok s j => deliver st (tStr s) j)
  else .bad i 22
/-- a value begins -/
def opn (b : List UInt8) (st : List Fr) (i : Nat) : Out :=
  if byt b i = 108 then (if 32 ≤ st.length then .bad i 24 else .go ({ d := false } :: st) (i + 1))
  else if byt b i = 100 then (if 32 ≤ st.length then .bad i 24 else .go ({ d := true } :: st) (i + 1))
  else scal b st i
def leB (s p : ByteArray) : Bool := Op.bytesLess s.toList p.toList || s.toList == p.toList
/-- a key begins -/
def keyy (b : List UInt8) (f : Fr) (r : List Fr) (i : Nat) : Out :=
  if dig (byt b i) = false then .bad i 22 else
  match strg b i with
  | .bad p e => .bad p e
  | .ok s j => if f.ps ≠ [] ∧ leB s (f.ps.getLastD (ByteArray.empty, .no)).1 = true then .bad i 25 else .go ({ f with key := s, has := true } :: r) j
def step (b : List UInt8) (st : List Fr) (i : Nat) : Out :=
  if b.length ≤ i then .bad b.length 21 else
  match st with
  | [] => opn b [] i
  | f :: r =>
    if f.d = true ∧ f.has = false then (if byt b i = 101 then deliver r f.close (i + 1) else keyy b f r i)
    else if f.d = false ∧ byt b i = 101 then deliver r f.close (i + 1)
    else opn b (f :: r) i
inductive Run (b : List UInt8) : Out → Out → Prop where
  | refl (o : Out) : Run b o o
  | more {st : List Fr} {i : Nat} {o : Out} : Run b (step b st i) o → Run b (.go st i) o
theorem Run.trans {b : List UInt8} {o p q : Out} (h : Run b o p) (k : Run b p q) : Run b o q := by
  induction h with
  | refl => exact k
  | more _ ih => exact .more (ih k)
theorem Run.one {b : List UInt8} {st : List Fr} {i : Nat} {o : Out} (h : step b st i = o) : Run b (.go st i) o := .more (h ▸ .refl _)
def Out.fin : Out → Prop
  | .go _ _ => False
  | _ => True
theorem Run.unique {b : List UInt8} {o p q : Out} (h : Run b o p) (k : Run b o q) (hp : p.fin) (hq : q.fin) : p = q := by
  induction h with
  | refl o => cases k with
    | refl => rfl
    | more _ => exact hp.elim
  | more h ih => cases k with
    | refl => exact hq.elim
    | more k => exact ih k hp
end Go.Proofs.YtegdlkbilgkfoaaDoor
namespace Go.Proofs.YtegdlkbilgkfoaaDoor
open Go.RowKit Go.Deep
theorem byt_drop (b : List UInt8) (i k : Nat) : byt b (i + k) = byt (b.drop i) k := by
  simp [byt, List.getD, List.getElem?_drop]
theorem takeWhile_dig (l : List UInt8) : ∀ k, k < (l.takeWhile dig).length → k < l.length ∧ dig (byt l k) = true := by
  induction l with
  | nil => intro k hk; simp at hk
  | cons x l ih =>
    intro k hk
    by_cases hx : dig x = true
    · rw [List.takeWhile_cons_of_pos hx] at hk
      cases k with
      | zero => exact ⟨by simp, by simpa [byt] using hx⟩
      | succ k =>
        obtain ⟨h1, h2⟩ := ih k (by simpa using hk)
        exact ⟨by simpa using h1, by simpa [byt] using h2⟩
    · rw [List.takeWhile_cons_of_neg hx] at hk; simp at hk
theorem takeWhile_end (l : List UInt8) : (l.takeWhile dig).length < l.length → dig (byt l (l.takeWhile dig).length) = false := by
  induction l with
  | nil => intro h; simp at h
  | cons x l ih =>
    intro h
    by_cases hx : dig x = true
    · rw [List.takeWhile_cons_of_pos hx] at h ⊢
      have := ih (by simpa using h)
      simpa [byt] using this
    · rw [List.takeWhile_cons_of_neg hx]
      simpa [byt] using hx
theorem takeWhile_le (l : List UInt8) : (l.takeWhile dig).length ≤ l.length := by
  induction l with
  | nil => simp
  | cons x l ih =>
    by_cases hx : dig x = true
    · rw [List.takeWhile_cons_of_pos hx]; simpa using ih
    · rw [List.takeWhile_cons_of_neg hx]; simp
theorem run_lt {b : List UInt8} {i k : Nat} (h : k < run b i) : i + k < b.length ∧ dig (byt b (i + k)) = true := by
  obtain ⟨h1, h2⟩ := takeWhile_dig (b.drop i) k h
  rw [← byt_drop] at h2
  exact ⟨by rw [List.length_drop] at h1; omega, h2⟩
theorem run_end {b : List UInt8} {i : Nat} (h : i + run b i < b.length) : dig (byt b (i + run b i)) = false := by
  rw [byt_drop]
  exact takeWhile_end (b.drop i) (by rw [List.length_drop]; unfold run at h; omega)
theorem run_le {b : List UInt8} {i : Nat} (h : i ≤ b.length) : i + run b i ≤ b.length := by
  have := takeWhile_le (b.drop i)
  rw [List.length_drop] at this
  unfold run; omega
theorem cut_length {b : List UInt8} {i j : Nat} (h : j ≤ b.length) : (cut b i j).length = j - i := by
  unfold cut; rw [List.length_take, List.length_drop]; omega
theorem byt_cut {b : List UInt8} {i j k : Nat} (h : k < j - i) : byt (cut b i j) k = byt b (i + k) := by
  simp [byt, cut, List.getD, h, List.getElem?_drop]
/-- the ending of a reader that gives up -/
def pnc (p e : Int) : Ending := .panicked [{ v := .iface 69 (.agg #[.int .i64 p, .int .i64 e]), recovered := false }]
/-- the slice holds the text; its block is not rb -/
def TXn (rb : Nat) (w : World) (a : Option Addr) (c : Nat) (b : List UInt8) : Prop :=
  b.length ≤ c ∧ b.length ≤ 1048576 ∧ (b = [] ∨ ∃ g o, a = some ⟨g, o, none⟩ ∧ g ≠ rb ∧ g < w.heap.size ∧ ∀ i, i < b.length → w.cell? ⟨g, o + i, none⟩ = some (.int .u8 ((byt b i).toNat : Int)))
/-- the two errors of strconv hold something; rb is another block -/
def EVn (rb : Nat) (w : World) : Prop := 2 ≠ rb ∧ 3 ≠ rb ∧ (∃ t p, w.cell? ⟨2, 0, none⟩ = some (.iface t p)) ∧ ∃ t p, w.cell? ⟨3, 0, none⟩ = some (.iface t p)
/-- the reader in block rb stands at i -/
def RR (rb : Nat) (w : World) (a : Option Addr) (c : Nat) (b : List UInt8) (i : Nat) : Prop := (blk w rb 72 #[.slice a b.length c, .int .i64 i] ∧ EVn rb w) ∧ i ≤ b.length ∧ TXn rb w a c b
theorem EVn.keep {rb : Nat} {w w' : World} (h : EVn rb w) (hb : Besides rb w w') : EVn rb w' := by
  obtain ⟨h1, h2, ⟨t, p, h3⟩, ⟨t', p', h4⟩⟩ := h
  exact ⟨h1, h2, ⟨t, p, hb.cell h1 h3⟩, ⟨t', p', hb.cell h2 h4⟩⟩
theorem TXn.keep {rb : Nat} {w w' : World} {a : Option Addr} {c : Nat} {b : List UInt8} (h : TXn rb w a c b) (hb : Besides rb w w') : TXn rb w' a c b := by
  refine ⟨h.1, h.2.1, ?_⟩
  rcases h.2.2 with h | ⟨g, o, h1, h2, h3, h4⟩
  · exact .inl h
  · exact .inr ⟨g, o, h1, h2, Nat.lt_of_lt_of_le h3 hb.size, fun i hi => (World.cell?_of_block (w := w) (hb.block g h3 h2)).trans (h4 i hi)⟩
theorem RR.heap {rb : Nat} {w w' : World} {a : Option Addr} {c : Nat} {b : List UInt8} {i : Nat} (h : RR rb w a c b i) (hb : Below w.heap.size w w') : RR rb w' a c b i :=
  ⟨⟨h.1.1.keep (hb.block _ h.1.1.lt), h.1.2.keep ⟨hb.os, hb.tape, hb.output, hb.size, fun k hk _ => hb.block k hk⟩⟩, h.2.1, h.2.2.keep ⟨hb.os, hb.tape, hb.output, hb.size, fun k hk _ => hb.block k hk⟩⟩
theorem Besides.of_below {rb : Nat} {w w' : World} (hb : Below w.heap.size w w') : Besides rb w w' := ⟨hb.os, hb.tape, hb.output, hb.size, fun k hk _ => hb.block k hk⟩
theorem Besides.set1 {rb i : Nat} {v : Value} {w w' : World} (h : Besides rb w w') : Besides rb w (w'.setCell ⟨rb, i, none⟩ v) :=
  ⟨h.os, h.tape, h.output, by simpa [World.setCell] using h.size, fun k hk hn => by rw [Below.heap_setCell _ _ _ _ hn]; exact h.block k hk hn⟩
theorem RR.set {rb : Nat} {w : World} {a : Option Addr} {c : Nat} {b : List UInt8} {i : Nat} (h : RR rb w a c b i) (j : Nat) (hj : j ≤ b.length) : RR rb (w.setCell ⟨rb, 1, none⟩ (.int .i64 j)) a c b j :=
  ⟨⟨h.1.1.set 1 _, h.1.2.keep (Besides.refl rb w).set1⟩, hj, h.2.2.keep (Besides.refl rb w).set1⟩
theorem RR.cells {rb : Nat} {w : World} {a : Option Addr} {c : Nat} {b : List UInt8} {i : Nat} (h : RR rb w a c b i) : w.cell? ⟨rb, 0, none⟩ = some (.slice a b.length c) ∧ w.cell? ⟨rb, 1, none⟩ = some (.int .i64 i) ∧ w.frozen? ⟨rb, 1, none⟩ = false := ⟨h.1.1.cell 0, h.1.1.cell 1, h.1.1.frozen 1⟩
theorem RR.byte {rb : Nat} {w : World} {a : Option Addr} {c : Nat} {b : List UInt8} {i k : Nat} (h : RR rb w a c b i) (hk : k < b.length) : ∃ g o, a = some ⟨g, o, none⟩ ∧ g ≠ rb ∧ w.cell? ⟨g, o + k, none⟩ = some (.int .u8 ((byt b k).toNat : Int)) := by
  rcases h.2.2.2.2 with rfl | ⟨g, o, h1, h2, _, h4⟩
  · simp at hk
  · exact ⟨g, o, h1, h2, h4 k hk⟩
/-- how a reading function ends -/
def pcEnd {α : Type} (r : Pc α) (rb : Nat) (w w' : World) (a : Option Addr) (c : Nat) (b : List UInt8) (val : α → Value) (e : Ending) : Prop :=
  Besides rb w w' ∧ match r with
    | .ok x j => e = .returned (val x) ∧ RR rb w' a c b j
    | .bad p er => e = pnc p er
theorem pcEnd.ok {α : Type} {r : Pc α} {rb : Nat} {w w' : World} {a : Option Addr} {c : Nat} {b : List UInt8} {val : α → Value} {x : α} {j : Nat} (h : r = .ok x j) (h1 : Besides rb w w') (h2 : RR rb w' a c b j) : pcEnd r rb w w' a c b val (.returned (val x)) := by
  subst h; exact ⟨h1, rfl, h2⟩
theorem pcEnd.bad {α : Type} {r : Pc α} {rb : Nat} {w w' : World} {a : Option Addr} {c : Nat} {b : List UInt8} {val : α → Value} {p : Nat} {er : Int} (h : r = .bad p er) (h1 : Besides rb w w') : pcEnd r rb w w' a c b val (pnc p er) := by
  subst h; exact ⟨h1, rfl⟩
theorem pcEnd.cases {α : Type} {r : Pc α} {rb : Nat} {w w' : World} {a : Option Addr} {c : Nat} {b : List UInt8} {val : α → Value} {e : Ending} (h : pcEnd r rb w w' a c b val e) :
    Besides rb w w' ∧ ((∃ x j, r = .ok x j ∧ e = .returned (val x) ∧ RR rb w' a c b j) ∨ ∃ p er, r = .bad p er ∧ e = pnc p er) := by
  refine ⟨h.1, ?_⟩
  have h2 := h.2
  cases r with
  | ok x j => exact .inl ⟨x, j, rfl, h2⟩
  | bad p er => exact .inr ⟨p, er, rfl, h2⟩
theorem digs_ok {b : List UInt8} {en : UInt8} {i j : Nat} {d : List UInt8} (h : digs b en i = .ok d j) : d = cut b i (i + run b i) ∧ j = i + run b i + 1 ∧ 0 < run b i ∧ i + run b i < b.length ∧ byt b (i + run b i) = en := by
  unfold digs at h
  split at h
  · cases h
  · split at h
    · cases h
    · rename_i h1 h2
      cases h
      refine ⟨rfl, rfl, ?_, by omega, ?_⟩
      · rcases Nat.eq_zero_or_pos (run b i) with h0 | h0
        · exact absurd (.inl h0) h2
        · exact h0
      · by_cases e : byt b (i + run b i) = en
        · exact e
        · exact absurd (.inr e) h2
theorem digs_len {b : List UInt8} {en : UInt8} {i j : Nat} {d : List UInt8} (h : digs b en i = .ok d j) : d.length = run b i ∧ ∀ k, k < d.length → dig (byt d k) = true := by
  obtain ⟨rfl, _, h1, h2, _⟩ := digs_ok h
  have hl : (cut b i (i + run b i)).length = run b i := by rw [cut_length (by omega)]; omega
  refine ⟨hl, fun k hk => ?_⟩
  rw [byt_cut (by omega)]
  exact (run_lt (by omega)).2
theorem dig_iff (c : UInt8) : dig c = true ↔ 48 ≤ c.toNat ∧ c.toNat ≤ 57 := by
  unfold dig
  simp [UInt8.le_iff_toNat_le]
theorem atoi_nonneg {d : List UInt8} {v : Int} (hd : dig (byt d 0) = true) (h : Lib.atoiAll d = .ok v) : 0 ≤ v := by
  cases d with
  | nil => cases h
  | cons x l =>
    have hx : dig x = true := hd
    rw [dig_iff] at hx
    unfold Lib.atoiAll at h
    dsimp only at h
    rw [if_neg (by omega)] at h
    split at h
    · cases h
    · cases h
    · rename_i u _
      have h45 : ¬ x.toNat = 45 := by omega
      simp only [h45, not_false_eq_true, true_and, false_and, if_false] at h
      split at h
      · cases h
      · cases h; omega
end Go.Proofs.YtegdlkbilgkfoaaDoor
namespace Go.Proofs.YtegdlkbilgkfoaaDoor
open Go.RowKit Go.Deep
theorem giveUp44 (rb : Nat) (p er : Int) (w : World) : Calls Tryd.prog 48 #[.pointer (some ⟨rb, 0, none⟩), .int .i64 p, .int .i64 er] w fun e w' => e = pnc p er ∧ w' = w := by
  go_enter Tryd.func48, Tryd.ntmps48
  go_wp2
  exact ⟨rfl, rfl, rfl⟩
set_option maxHeartbeats 1000000 in
theorem next43 (rb : Nat) (a : Option Addr) (c : Nat) (b : List UInt8) (i : Nat) (w : World) (h : RR rb w a c b i) :
    Calls Tryd.prog 47 #[.pointer (some ⟨rb, 0, none⟩)] w fun e w' => Below w.heap.size w w' ∧ ((i < b.length ∧ e = .returned (.int .u8 ((byt b i).toNat : Int))) ∨ (i = b.length ∧ e = pnc i 21)) := by
  obtain ⟨c0, c1, _⟩ := h.cells
  have hn := h.2.1
  have hl := h.2.2.2.1
  by_cases hlt : i < b.length
  · obtain ⟨g, o, rfl, hg, k0⟩ := h.byte hlt
    have i0 : (0 : Int) ≤ (i : Int) := by omega
    have i1 : (i : Int) < (b.length : Int) := by omega
    have i2 : ((i : Int) == (b.length : Int)) = false := by simp; omega
    generalize ((byt b i).toNat : Int) = z at *
    clear h
    go_enter Tryd.func47, Tryd.ntmps47
    go_wp2
    go_quiet (fail)
    go_wp2
    go_quiet (fail)
    go_wp2
    go_ret
    exact ⟨⟨rfl, rfl, rfl, Nat.le_refl _, fun _ _ => rfl⟩, .inl ⟨hlt, rfl⟩⟩
  · obtain rfl : i = b.length := by omega
    clear h
    go_enter Tryd.func47, Tryd.ntmps47
    go_wp2
    go_quiet (fail)
    go_wp2_with fail
    refine (giveUp44 rb _ _ _).mono ?_
    rintro e w' ⟨rfl, rfl⟩
    exact ⟨rfl, ⟨rfl, rfl, rfl, Nat.le_refl _, fun _ _ => rfl⟩, .inr ⟨trivial, rfl⟩⟩
theorem isDigit46 (c : UInt8) (w : World) : Calls Tryd.prog 50 #[.int .u8 (c.toNat : Int)] w fun e w' => e = .returned (.bool (dig c)) ∧ w' = w := by
  have e : dig c = (decide ((48 : Int) ≤ (c.toNat : Int)) && decide ((c.toNat : Int) ≤ 57)) := by
    unfold dig
    rw [show decide (48 ≤ c) = decide ((48 : Int) ≤ (c.toNat : Int)) from by simp [UInt8.le_iff_toNat_le]; omega, show decide (c ≤ 57) = decide ((c.toNat : Int) ≤ 57) from by simp [UInt8.le_iff_toNat_le]; omega]
  rw [e]
  generalize (c.toNat : Int) = z
  by_cases h1 : 48 ≤ z
  · go_enter Tryd.func50, Tryd.ntmps50
    go_wp2
    go_ret
    exact ⟨by simp [h1], rfl⟩
  · have h2 : ¬ (z ≥ 48) := h1
    go_enter Tryd.func50, Tryd.ntmps50
    go_wp2
    go_ret
    exact ⟨by simp; omega, rfl⟩
theorem conv_cut {g o i j cap : Nat} {b : List UInt8} {w : World} (hj : j ≤ b.length) (hc : ∀ k, k < b.length → w.cell? ⟨g, o + k, none⟩ = some (.int .u8 ((byt b k).toNat : Int))) (ty : TypeId) (hty : Tryd.prog.underlying ty = some .string) :
    (convert 22 ty (.slice (some ⟨g, o + i, none⟩) (j - i) cap)).run Tryd.prog w = .ok (.string ⟨(cut b i j).toArray⟩) w := by
  have hl := cut_length (b := b) (i := i) (j := j) hj
  have h := run_convert_bytes_back (P := Tryd.prog) w 22 ty 5 ⟨g, o + i, none⟩ cap (cut b i j) Tryd.underlying22 Tryd.underlying5 hty (fun k hk => by
    have hadd : (⟨g, o + i, none⟩ : Addr).add k = ⟨g, o + (i + k), none⟩ := by unfold Addr.add; split <;> simp_all <;> omega
    rw [hadd, hc (i + k) (by omega), ← byt_cut (b := b) (j := j) (i := i) (k := k) (by omega)]
    simp [byt, List.getD, List.getElem?_eq_getElem hk])
  rw [hl] at h
  exact h
theorem u8_ne {x y : UInt8} (h : x ≠ y) : (x.toNat : Int) ≠ (y.toNat : Int) := fun e => h (UInt8.toNat_inj.1 (by omega))
/-- where the reader in block rb stands -/
def atOf (w : World) (rb : Nat) : Nat := (intOf ((w.cell? ⟨rb, 1, none⟩).getD .nilIface)).toNat
theorem RR.atOf {rb : Nat} {w : World} {a : Option Addr} {c : Nat} {b : List UInt8} {i : Nat} (h : RR rb w a c b i) : atOf w rb = i := by
  unfold Go.Proofs.YtegdlkbilgkfoaaDoor.atOf
  rw [h.cells.2.1]; simp [intOf]
set_option maxHeartbeats 1000000 in
theorem digits52 (rb : Nat) (a : Option Addr) (c : Nat) (b : List UInt8) (en : UInt8) (i : Nat) (w : World) (h : RR rb w a c b i) :
    Calls Tryd.prog 62 #[.pointer (some ⟨rb, 0, none⟩), .int .u8 (en.toNat : Int)] w fun e w' => pcEnd (digs b en i) rb w w' a c b (fun d => .string ⟨d.toArray⟩) e := by
  obtain ⟨c0, c1, f1⟩ := h.cells
  have HR := Lib.hid h
  have hn := h.2.1
  have hl := h.2.2.2.1
  have hrl := run_le h.2.1
  clear h
  go_enter Tryd.func62, Tryd.ntmps62
  go_wp2
  go_loopw [] (fun wr => ∃ k, k ≤ run b i ∧ Hid (RR rb wr a c b (i + k) ∧ Besides rb w wr)) (fun wr => b.length - atOf wr rb)
  case atStart => exact ⟨0, Nat.zero_le _, HR.out, Besides.refl _ _⟩
  case round =>
    clear c0 c1 f1
    obtain ⟨k, hk, HO⟩ := hrel
    have hk2 : i + k ≤ b.length := by omega
    have hmer := HO.out.1.atOf
    go_wp2_with fail
    refine (next43 rb a c b (i + k) wr HO.out.1).mono ?_
    rintro e w1 ⟨hb1, ⟨hlt, rfl⟩ | ⟨heq, rfl⟩⟩
    case inr =>
      rw [heq]
      exact ⟨rfl, pcEnd.bad (by rw [digs, if_pos (by omega)]) (HO.out.2.trans (Besides.of_below hb1))⟩
    have HO1 : Hid (RR rb w1 a c b (i + k) ∧ Besides rb w w1) := ⟨HO.out.1.heap hb1, HO.out.2.trans (Besides.of_below hb1)⟩
    clear HO hb1
    go_wp2_with fail
    refine (isDigit46 _ _).mono ?_
    rintro e w2 ⟨rfl, rfl⟩
    by_cases hd : dig (byt b (i + k)) = true
    · have hkr : k < run b i := by
        rcases Nat.lt_or_ge k (run b i) with h | h
        · exact h
        · have : run b i = k := by omega
          rw [← this] at hd hlt
          rw [run_end hlt] at hd; cases hd
      obtain ⟨c0, c1, f1⟩ := HO1.out.1.cells
      rw [hd]
      have HN : Hid (RR rb (w2.setCell ⟨rb, 1, none⟩ (.int .i64 ((i : Int) + (k : Int) + 1))) a c b (i + (k + 1)) ∧ Besides rb w (w2.setCell ⟨rb, 1, none⟩ (.int .i64 ((i : Int) + (k : Int) + 1)))) := by
        have h := HO1.out.1.set (i + (k + 1)) (by omega)
        have e : ((i + (k + 1) : Nat) : Int) = (i : Int) + (k : Int) + 1 := by omega
        rw [e] at h
        exact ⟨h, HO1.out.2.set1⟩
      have hme2 := HN.out.1.atOf
      have hm3 : b.length - (i + (k + 1)) < b.length - (i + k) := by omega
      clear HO1
      go_wp2
      go_roundw
      case rel => exact ⟨k + 1, by omega, HN⟩
      case measure => rw [hmer, hme2]; omega
    · have hkr : i + k = i + run b i := by
        rcases Nat.lt_or_ge k (run b i) with h | h
        · exact absurd (run_lt h).2 hd
        · omega
      have hd' : dig (byt b (i + k)) = false := by simpa using hd
      rw [hd']
      have hij : i ≤ i + k := by omega
      clear hd hd' hk2 hmer
      generalize i + k = j at *
      have HD : Hid (digs b en i = if j = i ∨ byt b j ≠ en then .bad j 22 else .ok (cut b i j) (j + 1)) := by
        refine Lib.hid ?_
        rw [digs, if_neg (by omega), ← hkr]
        by_cases h0 : run b i = 0
        · rw [if_pos (.inl h0), if_pos (.inl (by omega))]
        · by_cases h1 : byt b j ≠ en
          · rw [if_pos (.inr h1), if_pos (.inr h1)]
          · rw [if_neg (by simp [h0, h1]), if_neg (by intro h; rcases h with h | h; exact h0 (by omega); exact h1 h)]
      clear hkr hrl HR hk
      obtain ⟨c0, c1, f1⟩ := HO1.out.1.cells
      by_cases hr0 : j = i
      · have HE : Hid (digs b en i = .bad j 22) := Lib.hid (by rw [HD.out, if_pos (.inl hr0)])
        have hz : ((j : Int) == (i : Int)) = true := by simp; omega
        clear hr0
        go_wp2_with fail
        refine (giveUp44 rb _ _ _).mono ?_
        rintro e w' ⟨rfl, rfl⟩
        exact ⟨rfl, pcEnd.bad HE.out HO1.out.2⟩
      · have hz : ((j : Int) == (i : Int)) = false := by simp; omega
        go_wp2_with fail
        refine (next43 rb a c b j w2 HO1.out.1).mono ?_
        rintro e w3 ⟨hb3, ⟨_, rfl⟩ | ⟨heq, rfl⟩⟩
        case inr => omega
        have HO3 : Hid (RR rb w3 a c b j ∧ Besides rb w w3) := ⟨HO1.out.1.heap hb3, HO1.out.2.trans (Besides.of_below hb3)⟩
        clear HO1 hb3 c0 c1 f1
        obtain ⟨c0, c1, f1⟩ := HO3.out.1.cells
        by_cases he : byt b j = en
        · have HE : Hid (digs b en i = .ok (cut b i j) (j + 1)) := Lib.hid (by rw [HD.out, if_neg (by simp [hr0, he])])
          subst he
          obtain ⟨g, o, rfl, hg, _⟩ := HO3.out.1.byte hlt
          have HT : Hid (∀ k, k < b.length → w3.cell? ⟨g, o + k, none⟩ = some (.int .u8 ((byt b k).toNat : Int))) := by
            rcases HO3.out.1.2.2.2.2 with rfl | ⟨g', o', h1, _, _, h4⟩
            · simp at hlt
            · cases h1; exact h4
          have HN : Hid (RR rb (w3.setCell ⟨rb, 1, none⟩ (.int .i64 ((j : Int) + 1))) (some ⟨g, o, none⟩) c b (j + 1) ∧ Besides rb w (w3.setCell ⟨rb, 1, none⟩ (.int .i64 ((j : Int) + 1)))) := by
            have h := HO3.out.1.set (j + 1) (by omega)
            exact ⟨h, HO3.out.2.set1⟩
          have hcap : b.length ≤ c := HO3.out.1.2.2.1
          have HV : Hid (∀ k, k < b.length → (w3.setCell ⟨rb, 1, none⟩ (.int .i64 ((j : Int) + 1))).cell? ⟨g, o + k, none⟩ = some (.int .u8 ((byt b k).toNat : Int))) := Lib.hid fun k hk => (World.cell?_setCell_far _ _ _ _ (Ne.symm hg)).trans (HT.out k hk)
          clear HD HO3
          go_wp2
          obtain ⟨k0, k1, _⟩ := HN.out.1.cells
          rw [show ((j + 1 : Nat) : Int) = (j : Int) + 1 from rfl] at k1
          generalize w3.setCell ⟨rb, 1, none⟩ (.int .i64 ((j : Int) + 1)) = w4 at *
          have hconv : ∀ n, (convert 22 9 (.slice (some ⟨g, o + i, none⟩) (j - i) (c - i))).run Tryd.prog (w4.drewN n) = .ok (.string ⟨(cut b i j).toArray⟩) (w4.drewN n) := fun n => conv_cut (w := w4.drewN n) (by omega) (fun k hk => HV.out k hk) 9 Tryd.underlying9
          have b0 : (0 : Int) ≤ (i : Int) := by omega
          have b1 : (i : Int) ≤ (j : Int) := by omega
          have b2 : (j : Int) ≤ (c : Int) := by omega
          have b3 : (j : Int) + 1 - 1 = (j : Int) := by omega
          have b4 : i ≤ j := hij
          have b5 : j ≤ c := by omega
          clear HT c0 c1 f1 hz hlt hr0
          go_quiet (fail)
          have hB : Below w4.heap.size w4 (w4.drewN nq) := ⟨rfl, rfl, rfl, Nat.le_refl _, fun _ _ => rfl⟩
          have HZ : Hid (Besides rb w (w4.drewN nq) ∧ RR rb (w4.drewN nq) (some ⟨g, o, none⟩) c b (j + 1)) := ⟨HN.out.2.trans (Besides.of_below hB), HN.out.1.heap hB⟩
          clear HN HV k0 k1 hconv hB
          go_wp2
          go_ret
          exact pcEnd.ok HE.out HZ.out.1 HZ.out.2
        · have HE : Hid (digs b en i = .bad j 22) := Lib.hid (by rw [HD.out, if_pos (.inr he)])
          have hz2 := u8_ne he
          clear HD he
          go_wp2_with fail
          refine (giveUp44 rb _ _ _).mono ?_
          rintro e w' ⟨rfl, rfl⟩
          exact ⟨rfl, pcEnd.bad HE.out HO3.out.2⟩
end Go.Proofs.YtegdlkbilgkfoaaDoor
namespace Go.Proofs.YtegdlkbilgkfoaaDoor
open Go.Shelf Go.RowKit Go.Deep
shelf_lay LaysC.n172 Nm 172 at Tryd as lays172
shelf_lay LaysC.n174 Nm 174 at Tryd as lays174
/-- strconv.Atoi -/
theorem atoi55 (s : ByteArray) (rb : Nat) (w : World) (hs : s.size ≤ 1048577) (hv : EVn rb w) :
    Calls Tryd.prog 65 #[.string s] w fun e w' => Below w.heap.size w w' ∧ ((∃ v, Lib.atoiAll s.data.toList = .ok v ∧ e = .returned (.tuple #[.int .i64 v, .nilIface])) ∨ ((∀ v, Lib.atoiAll s.data.toList ≠ .ok v) ∧ ∃ n t N, e = .returned (.tuple #[.int .i64 n, .iface t (.pointer (some ⟨N, 0, none⟩))]))) := by
  obtain ⟨_, _, ⟨t1, p1, h1⟩, ⟨t2, p2, h2⟩⟩ := hv
  cases h : Lib.atoiAll s.data.toList with
  | ok v =>
    refine (Any.strconv_Atoi_ok lays172 s (by omega) v h w).mono ?_
    rintro e w' ⟨rfl, hw⟩
    refine ⟨?_, .inl ⟨v, rfl, rfl⟩⟩
    rcases hw with rfl | ⟨t, rfl⟩
    · exact Below.refl _ _
    · exact Lib.bytesWorld_below _ _ _
  | «syntax» =>
    refine (Any.strconv_Atoi_syntax lays172 s (by omega) h _ w h1 (.inr ⟨_, _, rfl⟩)).mono ?_
    rintro e w' ⟨N, rfl, _, _, hb⟩
    exact ⟨hb, .inr ⟨(fun v hv => by cases hv), _, _, _, rfl⟩⟩
  | range =>
    refine (Any.strconv_Atoi_range lays172 s (by omega) h _ w h2 (.inr ⟨_, _, rfl⟩)).mono ?_
    rintro e w' ⟨N, rfl, _, _, hb⟩
    exact ⟨hb, .inr ⟨(fun v hv => by cases hv), _, _, _, rfl⟩⟩
/-- strconv.ParseInt(s, 10, 64) -/
theorem parseInt53 (s : ByteArray) (rb : Nat) (w : World) (hs : s.size ≤ 1048577) (hv : EVn rb w) :
    Calls Tryd.prog 63 #[.string s, .int .i64 10, .int .i64 64] w fun e w' => Below w.heap.size w w' ∧ ((∃ v, Lib.atoiAll s.data.toList = .ok v ∧ e = .returned (.tuple #[.int .i64 v, .nilIface])) ∨ ((∀ v, Lib.atoiAll s.data.toList ≠ .ok v) ∧ ∃ n t N, e = .returned (.tuple #[.int .i64 n, .iface t (.pointer (some ⟨N, 0, none⟩))]))) := by
  obtain ⟨_, _, ⟨t1, p1, h1⟩, ⟨t2, p2, h2⟩⟩ := hv
  cases h : Lib.atoiAll s.data.toList with
  | ok v =>
    refine (Any.strconv_ParseInt_10_at64_ok lays174 s (by omega) v (by rw [Lib.parseIntB_64]; exact h) w).mono ?_
    rintro e w' ⟨rfl, hw⟩
    refine ⟨?_, .inl ⟨v, rfl, rfl⟩⟩
    first
    | exact hw
    | (rcases hw with rfl | ⟨t, rfl⟩
       · exact Below.refl _ _
       · exact Lib.bytesWorld_below _ _ _)
  | «syntax» =>
    refine (Any.strconv_ParseInt_10_at64_syntax lays174 s (by omega) (by rw [Lib.parseIntB_64]; exact h) _ w h1 (.inr ⟨_, _, rfl⟩)).mono ?_
    rintro e w' ⟨N, rfl, _, _, hb⟩
    exact ⟨hb, .inr ⟨(fun v hv => by cases hv), _, _, _, rfl⟩⟩
  | range =>
    refine (Any.strconv_ParseInt_10_at64_range lays174 s (by omega) (by rw [Lib.parseIntB_64]; exact h) _ w h2 (.inr ⟨_, _, rfl⟩)).mono ?_
    rintro e w' ⟨N, rfl, _, _, hb⟩
    exact ⟨hb, .inr ⟨(fun v hv => by cases hv), _, _, _, rfl⟩⟩
theorem ba_size (l : List UInt8) : (⟨l.toArray⟩ : ByteArray).size = l.length := List.size_toArray
theorem ba_zero (l : List UInt8) (h : 0 < (⟨l.toArray⟩ : ByteArray).size) : (⟨l.toArray⟩ : ByteArray)[0] = byt l 0 := by
  cases l with
  | nil => exact absurd h (by decide)
  | cons x l => rfl
theorem u8_beq (x y : UInt8) : ((x.toNat : Int) == (y.toNat : Int)) = (x == y) := by
  by_cases h : x = y
  · subst h; simp
  · have h2 := u8_ne h
    rw [beq_eq_false_iff_ne.2 h2, beq_eq_false_iff_ne.2 h]
set_option maxHeartbeats 400000 in
theorem padded54 (l : List UInt8) (w : World) (hl : l.length ≤ 1048577) : Calls Tryd.prog 64 #[.string ⟨l.toArray⟩] w fun e w' => e = .returned (.bool (padd l)) ∧ w' = w := by
  have hs := ba_size l
  by_cases h1 : 1 < l.length
  · have e : padd l = ((((⟨l.toArray⟩ : ByteArray)[0]'(by rw [hs]; omega)).toNat : Int) == 48) := by
      rw [ba_zero l (by rw [hs]; omega)]
      have := u8_beq (byt l 0) 48
      simp only [padd, h1, decide_true, Bool.true_and]
      exact this.symm
    have h2 : (1 : Int) < (l.length : Int) := by omega
    rw [e]
    clear e
    go_enter Tryd.func64, Tryd.ntmps64
    go_wp2
    go_ret
    exact ⟨rfl, rfl⟩
  · have e : padd l = false := by simp [padd, h1]
    have h2 : ¬ (1 : Int) < (l.length : Int) := by omega
    rw [e]
    go_enter Tryd.func64, Tryd.ntmps64
    go_wp2
    go_ret
    exact ⟨rfl, rfl⟩
theorem strg_no {b : List UInt8} {i j : Nat} {d : List UInt8} (h : digs b 58 i = .ok d j) (hp : padd d = false) (hno : ∀ v, Lib.atoiAll d ≠ .ok v) : strg b i = .bad b.length 21 := by
  cases e : Lib.atoiAll d with
  | ok v => exact absurd e (hno v)
  | «syntax» => simp [strg, h, hp, e]
  | range => simp [strg, h, hp, e]
theorem strg_far {b : List UInt8} {i j m : Nat} {d : List UInt8} (h : digs b 58 i = .ok d j) (hp : padd d = false) (hv : Lib.atoiAll d = .ok (m : Int)) (hm : (b.length : Int) - j < m) : strg b i = .bad b.length 21 := by
  unfold strg
  rw [h]
  simp only [hp, Bool.false_eq_true, if_false, hv, if_pos hm]
theorem strg_ok {b : List UInt8} {i j m : Nat} {d : List UInt8} (h : digs b 58 i = .ok d j) (hp : padd d = false) (hv : Lib.atoiAll d = .ok (m : Int)) (hm : ¬ (b.length : Int) - j < m) : strg b i = .ok ⟨(cut b j (j + m)).toArray⟩ (j + m) := by
  unfold strg
  rw [h]
  simp only [hp, Bool.false_eq_true, if_false, hv, if_neg hm, Int.toNat_natCast]
theorem RR.text {rb g o c i : Nat} {w : World} {b : List UInt8} (h : RR rb w (some ⟨g, o, none⟩) c b i) : ∀ k, k < b.length → w.cell? ⟨g, o + k, none⟩ = some (.int .u8 ((byt b k).toNat : Int)) := by
  rcases h.2.2.2.2 with rfl | ⟨g', o', h1, _, _, h4⟩
  · intro k hk; simp at hk
  · cases h1; exact h4
theorem conv_far {rb g o c i j m cap : Nat} {w : World} {b : List UInt8} (h : RR rb w (some ⟨g, o, none⟩) c b i) (hm : j + m ≤ b.length) (_ : ¬ c = j) (ty : TypeId) (hty : Tryd.prog.underlying ty = some .string) :
    (convert 22 ty (.slice (some ⟨g, o + j, none⟩) m cap)).run Tryd.prog w = .ok (.string ⟨(cut b j (j + m)).toArray⟩) w := by
  have := conv_cut (g := g) (o := o) (i := j) (j := j + m) (cap := cap) hm h.text ty hty
  rwa [show j + m - j = m from by omega] at this
theorem conv_end {rb g o c i j m cap : Nat} {w : World} {b : List UInt8} (h : RR rb w (some ⟨g, o, none⟩) c b i) (hm : j + m ≤ b.length) (hc : c = j) (ty : TypeId) (hty : Tryd.prog.underlying ty = some .string) :
    (convert 22 ty (.slice (some ⟨g, o, none⟩) m cap)).run Tryd.prog w = .ok (.string ⟨(cut b j (j + m)).toArray⟩) w := by
  have hcap := h.2.2.1
  obtain rfl : m = 0 := by omega
  have := conv_cut (g := g) (o := o) (i := 0) (j := 0) (cap := cap) (b := b) (w := w) (by omega) h.text ty hty
  simpa [cut] using this
set_option maxRecDepth 10000 in
set_option maxHeartbeats 1000000 in
theorem word47 (rb : Nat) (a : Option Addr) (c : Nat) (b : List UInt8) (i : Nat) (w : World) (h : RR rb w a c b i) :
    Calls Tryd.prog 51 #[.pointer (some ⟨rb, 0, none⟩)] w fun e w' => pcEnd (strg b i) rb w w' a c b (fun s => .string s) e := by
  obtain ⟨c0, c1, f1⟩ := h.cells
  have HR := Lib.hid h
  clear h
  go_enter Tryd.func51, Tryd.ntmps51
  go_wp2_with fail
  refine (digits52 rb a c b 58 i w HR.out).mono ?_
  intro e w1 hp
  obtain ⟨hb1, ⟨d, j, hd, rfl, hr1⟩ | ⟨p, er, hd, rfl⟩⟩ := hp.cases
  case inr => exact ⟨rfl, pcEnd.bad (by rw [strg, hd]) hb1⟩
  have hn := hr1.2.1
  have hl := hr1.2.2.2.1
  have hcap := hr1.2.2.1
  have HD : Hid (digs b 58 i = .ok d j) := hd
  have hdl : d.length ≤ 1048576 := by have := digs_len hd; have := digs_ok hd; omega
  have hjl : 0 < b.length := by have := digs_ok hd; omega
  have H1 : Hid (RR rb w1 a c b j ∧ Besides rb w w1) := ⟨hr1, hb1⟩
  clear hp hd hr1 hb1 c0 c1 f1
  go_wp2_with fail
  refine (padded54 d w1 (by omega)).mono ?_
  rintro e w2 ⟨rfl, rfl⟩
  by_cases hp : padd d = true
  · rw [hp]
    go_wp2_with fail
    refine (giveUp44 rb _ _ _).mono ?_
    rintro e w' ⟨rfl, rfl⟩
    exact ⟨rfl, pcEnd.bad (by rw [strg, HD.out]; simp [hp]) H1.out.2⟩
  have hp' : padd d = false := by simpa using hp
  have HP := Lib.hid hp'
  rw [hp']
  clear hp hp'
  obtain ⟨g, o, rfl, hg, _⟩ := H1.out.1.byte hjl
  obtain ⟨c0, c1, f1⟩ := H1.out.1.cells
  have b0 : (0 : Int) ≤ (j : Int) := by omega
  have b1 : (j : Int) ≤ (b.length : Int) := by omega
  have b2 : (b.length : Int) ≤ (c : Int) := by omega
  by_cases hcj : c = j
  · go_wp2
    go_quiet (fail)
    have hB : Below w2.heap.size w2 (w2.drewN nq) := ⟨rfl, rfl, rfl, Nat.le_refl _, fun _ _ => rfl⟩
    have H2 : Hid (RR rb (w2.drewN nq) (some ⟨g, o, none⟩) c b j ∧ Besides rb w (w2.drewN nq)) := ⟨H1.out.1.heap hB, H1.out.2.trans (Besides.of_below hB)⟩
    clear c0 c1 f1 H1 hB
    generalize w2.drewN nq = w3 at *
    go_wp2_with fail
    refine (atoi55 ⟨d.toArray⟩ rb w3 (by rw [ba_size]; omega) H2.out.1.1.2).mono ?_
    rintro e w4 ⟨hb4, ⟨v, hv, rfl⟩ | ⟨hno, n, ty, N, rfl⟩⟩
    case inr =>
      have H4 : Hid (RR rb w4 (some ⟨g, o, none⟩) c b j ∧ Besides rb w w4) := ⟨H2.out.1.heap hb4, H2.out.2.trans (Besides.of_below hb4)⟩
      have HE : Hid (strg b i = .bad b.length 21) := Lib.hid (strg_no HD.out HP.out hno)
      clear H2 hb4 hno
      obtain ⟨c0, c1, f1⟩ := H4.out.1.cells
      go_wp2_with fail
      refine (giveUp44 rb _ _ _).mono ?_
      rintro e w' ⟨rfl, rfl⟩
      exact ⟨rfl, pcEnd.bad HE.out H4.out.2⟩
    have hv0 : 0 ≤ v := atoi_nonneg ((digs_len HD.out).2 0 (by have := digs_len HD.out; have := digs_ok HD.out; omega)) hv
    obtain ⟨m, rfl⟩ : ∃ m : Nat, v = m := ⟨v.toNat, by omega⟩
    have H4 : Hid (RR rb w4 (some ⟨g, o, none⟩) c b j ∧ Besides rb w w4) := ⟨H2.out.1.heap hb4, H2.out.2.trans (Besides.of_below hb4)⟩
    have HV : Hid (Lib.atoiAll d = .ok (m : Int)) := hv
    clear H2 hb4 hv hv0
    obtain ⟨c0, c1, f1⟩ := H4.out.1.cells
    have hm0 : m ≤ 9223372036854775807 := by have := Lib.atoiAll_bounds HV.out; omega
    by_cases hm : b.length - j < m
    · have hm2 : ((b.length - j : Nat) : Int) < (m : Int) := by omega
      have HE : Hid (strg b i = .bad b.length 21) := Lib.hid (strg_far HD.out HP.out HV.out (by omega))
      clear hm
      go_wp2_with fail
      refine (giveUp44 rb _ _ _).mono ?_
      rintro e w' ⟨rfl, rfl⟩
      exact ⟨rfl, pcEnd.bad HE.out H4.out.2⟩
    · obtain rfl : m = 0 := by omega
      have HE : Hid (strg b i = .ok ⟨(cut b j (j + 0)).toArray⟩ j) := Lib.hid (strg_ok HD.out HP.out HV.out (by omega))
      have HN : Hid (RR rb (w4.setCell ⟨rb, 1, none⟩ (.int .i64 (j : Int))) (some ⟨g, o, none⟩) c b j ∧ Besides rb w (w4.setCell ⟨rb, 1, none⟩ (.int .i64 (j : Int)))) := ⟨H4.out.1.set j (by omega), H4.out.2.set1⟩
      have hconv := conv_end (m := 0) (cap := 0) HN.out.1 (show j + 0 ≤ b.length by omega) hcj 64 Tryd.underlying64
      have hz : ¬ ((b.length - j : Nat) : Int) < 0 := by omega
      have m3 : (j : Int) ≤ 1048576 := by omega
      clear H4 hm0 HV hm
      go_wp2
      go_ret
      exact pcEnd.ok HE.out HN.out.2 HN.out.1
  · go_wp2
    go_quiet (fail)
    have hB : Below w2.heap.size w2 (w2.drewN nq) := ⟨rfl, rfl, rfl, Nat.le_refl _, fun _ _ => rfl⟩
    have H2 : Hid (RR rb (w2.drewN nq) (some ⟨g, o, none⟩) c b j ∧ Besides rb w (w2.drewN nq)) := ⟨H1.out.1.heap hB, H1.out.2.trans (Besides.of_below hB)⟩
    clear c0 c1 f1 H1 hB
    generalize w2.drewN nq = w3 at *
    go_wp2_with fail
    refine (atoi55 ⟨d.toArray⟩ rb w3 (by rw [ba_size]; omega) H2.out.1.1.2).mono ?_
    rintro e w4 ⟨hb4, ⟨v, hv, rfl⟩ | ⟨hno, n, ty, N, rfl⟩⟩
    case inr =>
      have H4 : Hid (RR rb w4 (some ⟨g, o, none⟩) c b j ∧ Besides rb w w4) := ⟨H2.out.1.heap hb4, H2.out.2.trans (Besides.of_below hb4)⟩
      have HE : Hid (strg b i = .bad b.length 21) := Lib.hid (strg_no HD.out HP.out hno)
      clear H2 hb4 hno
      obtain ⟨c0, c1, f1⟩ := H4.out.1.cells
      go_wp2_with fail
      refine (giveUp44 rb _ _ _).mono ?_
      rintro e w' ⟨rfl, rfl⟩
      exact ⟨rfl, pcEnd.bad HE.out H4.out.2⟩
    have hv0 : 0 ≤ v := atoi_nonneg ((digs_len HD.out).2 0 (by have := digs_len HD.out; have := digs_ok HD.out; omega)) hv
    obtain ⟨m, rfl⟩ : ∃ m : Nat, v = m := ⟨v.toNat, by omega⟩
    have H4 : Hid (RR rb w4 (some ⟨g, o, none⟩) c b j ∧ Besides rb w w4) := ⟨H2.out.1.heap hb4, H2.out.2.trans (Besides.of_below hb4)⟩
    have HV : Hid (Lib.atoiAll d = .ok (m : Int)) := hv
    clear H2 hb4 hv hv0
    obtain ⟨c0, c1, f1⟩ := H4.out.1.cells
    have hm0 : m ≤ 9223372036854775807 := by have := Lib.atoiAll_bounds HV.out; omega
    by_cases hm : b.length - j < m
    · have hm2 : ((b.length - j : Nat) : Int) < (m : Int) := by omega
      have HE : Hid (strg b i = .bad b.length 21) := Lib.hid (strg_far HD.out HP.out HV.out (by omega))
      clear hm
      go_wp2_with fail
      refine (giveUp44 rb _ _ _).mono ?_
      rintro e w' ⟨rfl, rfl⟩
      exact ⟨rfl, pcEnd.bad HE.out H4.out.2⟩
    · have hm2 : ¬ ((b.length - j : Nat) : Int) < (m : Int) := by omega
      have HE : Hid (strg b i = .ok ⟨(cut b j (j + m)).toArray⟩ (j + m)) := Lib.hid (strg_ok HD.out HP.out HV.out (by omega))
      have HN : Hid (RR rb (w4.setCell ⟨rb, 1, none⟩ (.int .i64 ((j : Int) + (m : Int)))) (some ⟨g, o, none⟩) c b (j + m) ∧ Besides rb w (w4.setCell ⟨rb, 1, none⟩ (.int .i64 ((j : Int) + (m : Int))))) := by
        have h := H4.out.1.set (j + m) (by omega)
        rw [show ((j + m : Nat) : Int) = (j : Int) + (m : Int) from by omega] at h
        exact ⟨h, H4.out.2.set1⟩
      have hconv := conv_far (cap := (c - j)) HN.out.1 (show j + m ≤ b.length by omega) hcj 64 Tryd.underlying64
      have m0 : (0 : Int) ≤ (m : Int) := by omega
      have m1 : (m : Int) ≤ (((c - j) : Nat) : Int) := by omega
      have m2 : m ≤ (c - j) := by omega
      have m3 : ((j : Int) + (m : Int)) ≤ 1048576 := by omega
      clear H4
      go_wp2
      go_ret
      exact pcEnd.ok HE.out HN.out.2 HN.out.1
end Go.Proofs.YtegdlkbilgkfoaaDoor
namespace Go.Proofs.YtegdlkbilgkfoaaDoor
open Go.RowKit Go.Deep
theorem ba_ext {x y : ByteArray} (h : x.data.toList = y.data.toList) : x = y := ByteArray.ext (Array.toList_inj.1 h)
theorem numb_sg {b : List UInt8} {i : Nat} (hl : i + 1 < b.length) : numb b i = (match digs b 101 (i + 1 + (if byt b (i + 1) = 45 then [45] else [] : List UInt8).length) with
  | .bad p e => .bad p e
  | .ok d j => match Lib.atoiAll ((if byt b (i + 1) = 45 then [45] else []) ++ d) with
    | .ok n => if padd d = true ∨ (if byt b (i + 1) = 45 then [45] else []) ++ d = [45, 48] then .bad i 23 else .ok n j
    | _ => .bad i 23) := by
  rw [numb, if_neg (by omega)]
  all_goals rfl
theorem numb_no {b : List UInt8} {i j : Nat} {sg d : List UInt8} (hl : i + 1 < b.length) (hs : (if byt b (i + 1) = 45 then [45] else [] : List UInt8) = sg) (hd : digs b 101 (i + 1 + sg.length) = .ok d j) (hno : ∀ v, Lib.atoiAll (sg ++ d) ≠ .ok v) : numb b i = .bad i 23 := by
  rw [numb_sg hl, hs, hd]
  dsimp only
  cases e : Lib.atoiAll (sg ++ d) with
  | ok v => exact absurd e (hno v)
  | «syntax» => rfl
  | range => rfl
theorem numb_bad {b : List UInt8} {i j : Nat} {v : Int} {sg d : List UInt8} (hl : i + 1 < b.length) (hs : (if byt b (i + 1) = 45 then [45] else [] : List UInt8) = sg) (hd : digs b 101 (i + 1 + sg.length) = .ok d j) (hv : Lib.atoiAll (sg ++ d) = .ok v) (h : padd d = true ∨ sg ++ d = [45, 48]) : numb b i = .bad i 23 := by
  rw [numb_sg hl, hs, hd]
  dsimp only
  rw [hv]
  dsimp only
  rw [if_pos h]
theorem numb_ok {b : List UInt8} {i j : Nat} {v : Int} {sg d : List UInt8} (hl : i + 1 < b.length) (hs : (if byt b (i + 1) = 45 then [45] else [] : List UInt8) = sg) (hd : digs b 101 (i + 1 + sg.length) = .ok d j) (hv : Lib.atoiAll (sg ++ d) = .ok v) (h : padd d = false) (h' : ¬ sg ++ d = [45, 48]) : numb b i = .ok v j := by
  rw [numb_sg hl, hs, hd]
  dsimp only
  rw [hv]
  dsimp only
  rw [if_neg (by rintro (h1 | h1); rw [h] at h1; cases h1; exact h' h1)]
set_option maxRecDepth 10000 in
set_option maxHeartbeats 1000000 in
theorem number45 (rb : Nat) (a : Option Addr) (c : Nat) (b : List UInt8) (i : Nat) (w : World) (h : RR rb w a c b i) (hi : i < b.length) :
    Calls Tryd.prog 49 #[.pointer (some ⟨rb, 0, none⟩)] w fun e w' => pcEnd (numb b i) rb w w' a c b (fun n => .iface 76 (.int .i64 n)) e := by
  obtain ⟨c0, c1, f1⟩ := h.cells
  have hl := h.2.2.2.1
  have HN : Hid (RR rb (w.setCell ⟨rb, 1, none⟩ (.int .i64 ((i : Int) + 1))) a c b (i + 1) ∧ Besides rb w (w.setCell ⟨rb, 1, none⟩ (.int .i64 ((i : Int) + 1)))) := ⟨h.set (i + 1) (by omega), (Besides.refl _ _).set1⟩
  clear h
  go_enter Tryd.func49, Tryd.ntmps49
  go_wp2_with fail
  clear c0 c1 f1
  generalize w.setCell ⟨rb, 1, none⟩ (.int .i64 ((i : Int) + 1)) = w1 at *
  refine (next43 rb a c b (i + 1) w1 HN.out.1).mono ?_
  rintro e w2 ⟨hb1, ⟨hlt, rfl⟩ | ⟨heq, rfl⟩⟩
  case inr =>
    rw [heq]
    exact ⟨rfl, pcEnd.bad (by rw [numb, if_pos (by omega)]) (HN.out.2.trans (Besides.of_below hb1))⟩
  have H1 : Hid (RR rb w2 a c b (i + 1) ∧ Besides rb w w2) := ⟨HN.out.1.heap hb1, HN.out.2.trans (Besides.of_below hb1)⟩
  clear HN hb1
  obtain ⟨c0, c1, f1⟩ := H1.out.1.cells
  by_cases hs : byt b (i + 1) = 45
  · rw [hs]
    have H2 : Hid (RR rb (w2.setCell ⟨rb, 1, none⟩ (.int .i64 ((i : Int) + 1 + 1))) a c b (i + 1 + 1) ∧ Besides rb w (w2.setCell ⟨rb, 1, none⟩ (.int .i64 ((i : Int) + 1 + 1)))) := ⟨H1.out.1.set (i + 1 + 1) (by omega), H1.out.2.set1⟩
    go_wp2_with fail
    clear c0 c1 f1 H1
    generalize w2.setCell ⟨rb, 1, none⟩ (.int .i64 ((i : Int) + 1 + 1)) = w3 at *
    refine (digits52 rb a c b 101 (i + 1 + 1) w3 H2.out.1).mono ?_
    intro e w4 hp
    obtain ⟨hb1, ⟨d, j, hd, rfl, hr1⟩ | ⟨p, er, hd, rfl⟩⟩ := hp.cases
    case inr => exact ⟨rfl, pcEnd.bad (by simp [numb, hs, hd]; omega) (H2.out.2.trans hb1)⟩
    have hdl : d.length ≤ 1048576 := by have := digs_len hd; have := digs_ok hd; omega
    have hq : ¬ 9223372036854775807 < 1 + d.length := by omega
    have H4 : Hid (RR rb w4 a c b j ∧ Besides rb w w4) := ⟨hr1, H2.out.2.trans hb1⟩
    have HD : Hid (digs b 101 (i + 1 + 1) = .ok d j) := hd
    have hss : (({ data := #[45] } : ByteArray) ++ { data := d.toArray }).data.toList = [45] ++ d := by simp
    have hsz : (({ data := #[45] } : ByteArray) ++ { data := d.toArray }).size = 1 + d.length := by simp [ByteArray.size]; omega
    clear hp hb1 hd hr1 H2
    go_wp2_with fail
    refine (parseInt53 _ rb w4 (by rw [hsz]; omega) H4.out.1.1.2).mono ?_
    rw [hss]
    rintro e w5 ⟨hb5, ⟨v, hv, rfl⟩ | ⟨hno, n, ty, N, rfl⟩⟩
    case inr =>
      have H5 : Hid (RR rb w5 a c b j ∧ Besides rb w w5) := ⟨H4.out.1.heap hb5, H4.out.2.trans (Besides.of_below hb5)⟩
      have HE : Hid (numb b i = .bad i 23) := Lib.hid (numb_no (sg := [45]) (by omega) (if_pos hs) HD.out hno)
      clear H4 hb5 hno
      go_wp2_with fail
      refine (giveUp44 rb _ _ _).mono ?_
      rintro e w' ⟨rfl, rfl⟩
      exact ⟨rfl, pcEnd.bad HE.out H5.out.2⟩
    have H5 : Hid (RR rb w5 a c b j ∧ Besides rb w w5) := ⟨H4.out.1.heap hb5, H4.out.2.trans (Besides.of_below hb5)⟩
    have HV : Hid (Lib.atoiAll ([45] ++ d) = .ok v) := hv
    clear H4 hb5 hv
    go_wp2_with fail
    refine (padded54 d w5 (by omega)).mono ?_
    rintro e w6 ⟨rfl, rfl⟩
    by_cases hp : padd d = true
    · rw [hp]
      have HE : Hid (numb b i = .bad i 23) := Lib.hid (numb_bad (sg := [45]) (by omega) (if_pos hs) HD.out HV.out (.inl hp))
      go_wp2_with fail
      refine (giveUp44 rb _ _ _).mono ?_
      rintro e w' ⟨rfl, rfl⟩
      exact ⟨rfl, pcEnd.bad HE.out H5.out.2⟩
    have hp' : padd d = false := by simpa using hp
    rw [hp']
    by_cases hm : [45] ++ d = [45, 48]
    · have HE : Hid (numb b i = .bad i 23) := Lib.hid (numb_bad (sg := [45]) (by omega) (if_pos hs) HD.out HV.out (.inr hm))
      have hst : ((({ data := #[45] } : ByteArray) ++ { data := d.toArray }).toList == [45, 48]) = true := by rw [ByteArray.toList_eq, hss, hm]; rfl
      clear hss hsz hm
      go_wp2_with fail
      refine (giveUp44 rb _ _ _).mono ?_
      rintro e w' ⟨rfl, rfl⟩
      exact ⟨rfl, pcEnd.bad HE.out H5.out.2⟩
    · have HE : Hid (numb b i = .ok v j) := Lib.hid (numb_ok (sg := [45]) (by omega) (if_pos hs) HD.out HV.out hp' hm)
      have hst : ((({ data := #[45] } : ByteArray) ++ { data := d.toArray }).toList == [45, 48]) = false := by rw [ByteArray.toList_eq, hss]; exact beq_eq_false_iff_ne.2 hm
      clear hss hsz hm
      go_wp2
      go_ret
      exact pcEnd.ok HE.out H5.out.2 H5.out.1
  · have hz : ((byt b (i + 1)).toNat : Int) ≠ 45 := u8_ne hs
    go_wp2_with fail
    clear c0 c1 f1
    refine (digits52 rb a c b 101 (i + 1) w2 H1.out.1).mono ?_
    intro e w4 hp
    obtain ⟨hb1, ⟨d, j, hd, rfl, hr1⟩ | ⟨p, er, hd, rfl⟩⟩ := hp.cases
    case inr => exact ⟨rfl, pcEnd.bad (by simp [numb, hs, hd]; omega) (H1.out.2.trans hb1)⟩
    have hdl : d.length ≤ 1048576 := by have := digs_len hd; have := digs_ok hd; omega
    have hq : ¬ 9223372036854775807 < d.length := by omega
    have H4 : Hid (RR rb w4 a c b j ∧ Besides rb w w4) := ⟨hr1, H1.out.2.trans hb1⟩
    have HD : Hid (digs b 101 (i + 1) = .ok d j) := hd
    have hss : (({ data := #[] } : ByteArray) ++ { data := d.toArray }).data.toList = [] ++ d := by simp
    have hsz : (({ data := #[] } : ByteArray) ++ { data := d.toArray }).size = d.length := by simp [ByteArray.size]
    clear hp hb1 hd hr1 H1
    go_wp2_with fail
    refine (parseInt53 _ rb w4 (by rw [hsz]; omega) H4.out.1.1.2).mono ?_
    rw [hss]
    rintro e w5 ⟨hb5, ⟨v, hv, rfl⟩ | ⟨hno, n, ty, N, rfl⟩⟩
    case inr =>
      have H5 : Hid (RR rb w5 a c b j ∧ Besides rb w w5) := ⟨H4.out.1.heap hb5, H4.out.2.trans (Besides.of_below hb5)⟩
      have HE : Hid (numb b i = .bad i 23) := Lib.hid (numb_no (sg := []) (by omega) (if_neg hs) HD.out hno)
      clear H4 hb5 hno
      go_wp2_with fail
      refine (giveUp44 rb _ _ _).mono ?_
      rintro e w' ⟨rfl, rfl⟩
      exact ⟨rfl, pcEnd.bad HE.out H5.out.2⟩
    have H5 : Hid (RR rb w5 a c b j ∧ Besides rb w w5) := ⟨H4.out.1.heap hb5, H4.out.2.trans (Besides.of_below hb5)⟩
    have HV : Hid (Lib.atoiAll ([] ++ d) = .ok v) := hv
    clear H4 hb5 hv
    go_wp2_with fail
    refine (padded54 d w5 (by omega)).mono ?_
    rintro e w6 ⟨rfl, rfl⟩
    by_cases hp : padd d = true
    · rw [hp]
      have HE : Hid (numb b i = .bad i 23) := Lib.hid (numb_bad (sg := []) (by omega) (if_neg hs) HD.out HV.out (.inl hp))
      go_wp2_with fail
      refine (giveUp44 rb _ _ _).mono ?_
      rintro e w' ⟨rfl, rfl⟩
      exact ⟨rfl, pcEnd.bad HE.out H5.out.2⟩
    have hp' : padd d = false := by simpa using hp
    rw [hp']
    by_cases hm : [] ++ d = [45, 48]
    · have HE : Hid (numb b i = .bad i 23) := Lib.hid (numb_bad (sg := []) (by omega) (if_neg hs) HD.out HV.out (.inr hm))
      have hst : ((({ data := #[] } : ByteArray) ++ { data := d.toArray }).toList == [45, 48]) = true := by rw [ByteArray.toList_eq, hss, hm]; rfl
      clear hss hsz hm
      go_wp2_with fail
      refine (giveUp44 rb _ _ _).mono ?_
      rintro e w' ⟨rfl, rfl⟩
      exact ⟨rfl, pcEnd.bad HE.out H5.out.2⟩
    · have HE : Hid (numb b i = .ok v j) := Lib.hid (numb_ok (sg := []) (by omega) (if_neg hs) HD.out HV.out hp' hm)
      have hst : ((({ data := #[] } : ByteArray) ++ { data := d.toArray }).toList == [45, 48]) = false := by rw [ByteArray.toList_eq, hss]; exact beq_eq_false_iff_ne.2 hm
      clear hss hsz hm
      go_wp2
      go_ret
      exact pcEnd.ok HE.out H5.out.2 H5.out.1
end Go.Proofs.YtegdlkbilgkfoaaDoor
namespace Go.Proofs.YtegdlkbilgkfoaaDoor
open Go.Shelf Go.RowKit Go.Deep
shelf_lay LaysM.n176 Nm 176 at Tryd as lays176
shelf_lay LaysM.n171 Nm 171 at Tryd as lays171
/-- the frame of what adds to a text: all below B, and all that is no row of bytes -/
def BW (B : Nat) (w w' : World) : Prop := Below B w w' ∧ Lib.OthersKept 5 none w w'
theorem BW.refl (B : Nat) (w : World) : BW B w w := ⟨Below.refl _ _, Lib.OthersKept.refl _ _ _⟩
theorem BW.trans {B : Nat} {a b c : World} (h : BW B a b) (k : BW B b c) : BW B a c := ⟨h.1.trans k.1, h.2.trans k.2⟩
theorem BW.alloc {B : Nat} {a w : World} (h : BW B a w) (hB : B ≤ w.heap.size) (o : Obj) : BW B a (w.alloc o) := ⟨h.1.alloc hB o, h.2.alloc o⟩
theorem BW.below {B : Nat} {a w w' : World} (h : BW B a w) (hB : B ≤ w.heap.size) (hb : Below w.heap.size w w') : BW B a w' := ⟨h.1.trans (hb.mono hB), fun k o hk hn hx => by
  have h1 := h.2 k o hk hn hx
  rw [hb.block k (Array.getElem?_eq_some_iff.1 h1).1]; exact h1⟩
/-- a text that the call owns -/
def OW (B : Nat) (w : World) (v : Value) (l : List UInt8) : Prop := w.ownsRow B 5 1 v l.length (Lib.byteCells l)
theorem info5 : (Tryd.prog.info? 5).map (fun i => (i.zero, i.size, i.bytes)) = some (some (.int .u8 0), 1, 1) := by kernel_rfl
theorem bc_append (a b : List UInt8) : Lib.byteCells a ++ Lib.byteCells b = Lib.byteCells (a ++ b) := by simp [Lib.byteCells]
theorem append_byte {ops : Array Oper} {rest : List Oper} {o : Oper} {a : Act} {Q : Exit → Act → World → Prop} {w : World} {B : Nat} {sv : Value} {l : List UInt8} (hgd : o.guard = none) (s x : Operand)
    (ho : o.op = .call { callee := .builtin .append, args := #[s, x], argTypes := #[22, 22] }) (hs : a.eval s = sv) (hown : OW B w sv l) (b : Nat) (c : UInt8) (hx : a.eval x = .slice (some ⟨b, 0, none⟩) 1 1)
    (hc : w.cell? ⟨b, 0, none⟩ = some (.int .u8 c.toNat)) (hB : B ≤ w.heap.size) (hlim : l.length ≤ 140000000000000)
    (h : ∀ v' w', OW B w' v' (l ++ [c]) → BW B w w' → wpList Tryd.prog ops Q rest (a.put o.dst v') w') : wpList Tryd.prog ops Q (o :: rest) a w := by
  obtain ⟨i0, hi, hz0, hz1, hz2⟩ := info_parts info5
  refine wpList_append_own w hgd s x 22 ho B 5 i0 _ 1 1 Tryd.underlying22 hi hz0 hz1 hz2 rfl (by omega) sv l.length (Lib.byteCells l) hs hown ⟨b, 0, none⟩ 1 1 [.int .u8 c.toNat] hx rfl (fun j u hu => ?_) (fun u hu => ?_) (by unfold maxLen; omega) (by omega) hB (fun v' w' h1 h2 _ => ?_)
  · match j, hu with
    | 0, hu => simp at hu; subst hu; simpa [Addr.add] using hc
  · simp at hu; subst hu; rfl
  · refine h v' w' ?_ ⟨(Below.refl B w).grown h2 hB (fun k hk => (World.ownsRow.lt hown k hk).1), (Lib.OthersKept.refl _ _ _).grown h2 (Lib.ownsRow_kind hown)⟩
    have e : Lib.byteCells l ++ [Value.int .u8 c.toNat] = Lib.byteCells (l ++ [c]) := by simp [Lib.byteCells]
    rw [e] at h1
    simpa [OW] using h1
theorem append_str {ops : Array Oper} {rest : List Oper} {o : Oper} {a : Act} {Q : Exit → Act → World → Prop} {w : World} {B : Nat} {sv : Value} {l : List UInt8} (hgd : o.guard = none) (s x : Operand)
    (ho : o.op = .call { callee := .builtin .append, args := #[s, x], argTypes := #[22, 64] }) (hs : a.eval s = sv) (hown : OW B w sv l) (c : ByteArray) (hx : a.eval x = .string c)
    (hB : B ≤ w.heap.size) (hlim : l.length + c.size ≤ 140000000000000)
    (h : ∀ v' w', OW B w' v' (l ++ c.data.toList) → BW B w w' → wpList Tryd.prog ops Q rest (a.put o.dst v') w') : wpList Tryd.prog ops Q (o :: rest) a w := by
  obtain ⟨i0, hi, hz0, hz1, hz2⟩ := info_parts info5
  refine Lib.wpList_append_own_string w hgd s x 22 64 ho B 5 i0 Tryd.underlying22 Tryd.underlying64 hi hz0 hz1 hz2 sv l.length (Lib.byteCells l) hs hown c hx (by unfold maxLen; omega) (by omega) hB (fun v' w' h1 h2 _ => ?_)
  refine h v' w' ?_ ⟨(Below.refl B w).grown h2 hB (fun k hk => (World.ownsRow.lt hown k hk).1), (Lib.OthersKept.refl _ _ _).grown h2 (Lib.ownsRow_kind hown)⟩
  have e : Lib.strCells c = Lib.byteCells c.data.toList := by simp [Lib.strCells, Lib.byteCells]
  rw [e, bc_append] at h1
  have e2 : l.length + c.size = (l ++ c.data.toList).length := by rw [List.length_append, Array.length_toList]; rfl
  rw [e2] at h1
  exact h1
def TB (B : Nat) (w : World) : Prop := Lib.TabBelow Tryd.prog B w "internal/strconv.uint64pow10" .u64 Lib.pow10Tab
theorem appendInt97 (B : Nat) (i : Int) (h0 : -9223372036854775808 ≤ i) (h1 : i ≤ 9223372036854775807) (sv : Value) (l : List UInt8) (w : World) (hown : OW B w sv l) (hBw : B ≤ w.heap.size) (hlim : l.length ≤ 140000000000000) (htab : TB B w) :
    Calls Tryd.prog 112 #[sv, .int .i64 i, .int .i64 10] w fun e w' => ∃ v', e = .returned v' ∧ OW B w' v' (l ++ Lib.itoa i) ∧ BW B w w' := by
  refine (Any.strconv_AppendInt_10 lays176 B l.length i h0 h1 sv (Lib.byteCells l) w hown hBw (by omega) htab).mono ?_
  rintro e w' ⟨v', rfl, h2, h3, h4⟩
  refine ⟨v', rfl, ?_, h3, h4⟩
  rw [bc_append, ← List.length_append] at h2
  exact h2
theorem itoa25 (n : Int) (h0 : -9223372036854775808 ≤ n) (h1 : n ≤ 9223372036854775807) (w : World) (htab : TB w.heap.size w) :
    Calls Tryd.prog 37 #[.int .i64 n] w fun e w' => e = .returned (.string ⟨(Lib.itoa n).toArray⟩) ∧ Below w.heap.size w w' := by
  refine (Any.strconv_Itoa lays171 n h0 h1 w htab.here).mono ?_
  rintro e w' ⟨rfl, k, os, rfl⟩
  refine ⟨rfl, rfl, rfl, rfl, ?_, fun j hj => ?_⟩
  · show w.heap.size ≤ (w.heap ++ os).size
    simp
  · show (w.heap ++ os)[j]? = w.heap[j]?
    rw [Array.getElem?_append_left hj]
end Go.Proofs.YtegdlkbilgkfoaaDoor
