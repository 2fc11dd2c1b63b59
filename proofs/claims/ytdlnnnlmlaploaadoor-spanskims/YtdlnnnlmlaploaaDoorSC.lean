import Derived.Test.YtdlnnnlmlaploaaDoorSB
import Derived.Test.YtdlnnnlmlaploaaDoorSA
import Derived.Test.YtdlnnnlmlaploaaDoorS8
import Derived.Test.YtdlnnnlmlaploaaDoorS6
namespace Go.Proofs.YtdlnnnlmlaploaaDoor
open Go.RowKit Go.Deep
/-! ### span's reader as a machine: what is shown to a visitor, one value after the other -/
/-- a value as it is shown -/
structure Vi where
  kd : Int
  fr : Int
  to : Int
  dp : Int
  up : Int
  nt : Int
  ky : ByteArray
  pl : Int
  fi : Int
abbrev Vi.cs (v : Vi) : Array Value := sv9 v.kd v.fr v.to v.dp v.up v.nt v.ky v.pl v.fi
/-- a level that is open -/
structure Lv where
  kd : Int
  fr : Int
  dp : Int
  up : Int
  nt : Int
  ky : ByteArray
  pl : Int
  fi : Int
  pa : Int
  kk : ByteArray
  be : Int
def Lv.W (l : Lv) : List Value := [.int .i64 l.kd, .int .i64 l.fr, .int .i64 0, .int .i64 l.dp, .int .i64 l.up, .int .i64 l.nt, .string l.ky, .int .i64 l.pl, .int .i64 l.fi, .int .i64 l.pa, .string l.kk, .int .i64 l.be]
def usW : List Lv → List Value
  | [] => []
  | l :: r => usW r ++ l.W
theorem usW_len : ∀ ls, (usW ls).length = ls.length * 12
  | [] => rfl
  | l :: r => by show (usW r ++ l.W).length = _; rw [List.length_append, usW_len r, List.length_cons]; show _ + 12 = _; omega
theorem usW_at (l : Lv) (r : List Lv) (j : Nat) : (usW (l :: r))[r.length * 12 + j]? = l.W[j]? := by
  show (usW r ++ l.W)[r.length * 12 + j]? = _
  rw [List.getElem?_append_right (by rw [usW_len]; omega), usW_len]
  congr 1
  omega
theorem usW_at0 (l : Lv) (r : List Lv) : (usW (l :: r))[r.length * 12]? = l.W[0]? := usW_at l r 0
theorem usW_set (l : Lv) (r : List Lv) (j : Nat) (u : Value) : (usW (l :: r)).set (r.length * 12 + j) u = usW r ++ l.W.set j u := by
  show (usW r ++ l.W).set (r.length * 12 + j) u = _
  rw [List.set_append_right _ _ (by rw [usW_len]; omega), usW_len]
  congr 2
  omega
theorem usW_take (l : Lv) (r : List Lv) : (usW (l :: r)).take (r.length * 12) = usW r := by
  show (usW r ++ l.W).take (r.length * 12) = _
  rw [← usW_len, List.take_left]
/-- what is known of the value that begins -/
def dueV (ls : List Lv) (i n : Nat) : Vi :=
  match ls with
  | [] => ⟨0, i, 0, 0, -1, 0, ByteArray.empty, n, 0⟩
  | l :: r => ⟨0, i, 0, (r.length + 1 : Nat), l.pl, l.pa - 1, l.kk, n, l.be⟩
def newL (v : Vi) : Lv := ⟨v.kd, v.fr, v.dp, v.up, v.nt, v.ky, v.pl, v.fi, 0, ByteArray.empty, 0⟩
/-- a value begins, and is shown -/
def VG (b : List UInt8) (ls : List Lv) (i n : Nat) (v : Vi) (ls' : List Lv) (i' : Nat) : Prop :=
  (∃ t j, byt b i ≠ 108 ∧ byt b i ≠ 100 ∧ leafO b i = .val t j ∧ v = { dueV ls i n with kd := t.k, to := (i : Int) + (j : Int) } ∧ ls' = ls ∧ i' = i + j) ∨
  (i < b.length ∧ ls.length < 32 ∧ ((byt b i = 108 ∧ v = { dueV ls i n with kd := 3 }) ∨ (byt b i = 100 ∧ v = { dueV ls i n with kd := 4 })) ∧ ls' = newL v :: ls ∧ i' = i + 1)
/-- a value that has a fault -/
def VBd (b : List UInt8) (ls : List Lv) (i : Nat) (er : Int) (i' : Nat) : Prop :=
  (byt b i ≠ 108 ∧ byt b i ≠ 100 ∧ ∃ j, leafO b i = .bad j er ∧ i' = i + j) ∨ (i < b.length ∧ 32 ≤ ls.length ∧ (byt b i = 108 ∨ byt b i = 100) ∧ er = 24 ∧ i' = i)
/-- an element or a pair begins -/
def PGd (b : List UInt8) (l : Lv) (i : Nat) (l' : Lv) (i' : Nat) : Prop :=
  (l.kd = 3 ∧ l' = { l with be := i, pa := l.pa + 1 } ∧ i' = i) ∨
  (l.kd = 4 ∧ ¬ (byt b i = 105 ∨ byt b i = 108 ∨ byt b i = 100) ∧ ∃ t j, leafO b i = .val t j ∧ ¬ (1 ≤ l.pa ∧ leB t.s l.kk = true) ∧ l' = { l with be := i, pa := l.pa + 1, kk := t.s } ∧ i' = i + j)
def PBd (b : List UInt8) (l : Lv) (i : Nat) (er : Int) (i' : Nat) : Prop :=
  l.kd = 4 ∧ (((byt b i = 105 ∨ byt b i = 108 ∨ byt b i = 100) ∧ er = 22 ∧ i' = i) ∨
  (¬ (byt b i = 105 ∨ byt b i = 108 ∨ byt b i = 100) ∧ ((∃ j, leafO b i = .bad j er ∧ er ≠ 0 ∧ i' = i + j) ∨ ∃ t j, leafO b i = .val t j ∧ 1 ≤ l.pa ∧ leB t.s l.kk = true ∧ er = 25 ∧ i' = i)))
def endV (l : Lv) (i : Nat) : Vi := ⟨l.kd, l.fr, (i : Int) + 1, l.dp, l.up, l.nt, l.ky, l.pl, l.fi⟩
/-- where the reader stands: a value begins, or something has ended -/
inductive RS where
  | val (ls : List Lv) (i n : Nat)
  | mid (ls : List Lv) (i n : Nat)
/-- the reader can stand there, having shown this -/
inductive Rch (b : List UInt8) (go : List Vi → Bool) : List Vi → RS → Prop where
  | start : Rch b go [] (.val [] 0 0)
  | value {h ls i n v ls' i'} : Rch b go h (.val ls i n) → VG b ls i n v ls' i' → go (h ++ [v]) = true → Rch b go (h ++ [v]) (.mid ls' i' (n + 1))
  | part {h l r i n l' i'} : Rch b go h (.mid (l :: r) i n) → byt b i ≠ 101 → PGd b l i l' i' → Rch b go h (.val (l' :: r) i' n)
  | close {h l r i n} : Rch b go h (.mid (l :: r) i n) → i < b.length → byt b i = 101 → go (h ++ [endV l i]) = true → Rch b go (h ++ [endV l i]) (.mid r (i + 1) n)
/-- how it ends: what was shown, the place and the fault -/
inductive Fin (b : List UInt8) (go : List Vi → Bool) : List Vi → Int → Int → Prop where
  | vstop {h ls i n v ls' i'} : Rch b go h (.val ls i n) → VG b ls i n v ls' i' → go (h ++ [v]) = false → Fin b go (h ++ [v]) 0 0
  | estop {h l r i n} : Rch b go h (.mid (l :: r) i n) → i < b.length → byt b i = 101 → go (h ++ [endV l i]) = false → Fin b go (h ++ [endV l i]) 0 0
  | vbad {h ls i n er i'} : Rch b go h (.val ls i n) → er ≠ 0 → VBd b ls i er i' → Fin b go h (i' : Nat) er
  | pbad {h l r i n er i'} : Rch b go h (.mid (l :: r) i n) → byt b i ≠ 101 → PBd b l i er i' → Fin b go h (i' : Nat) er
  | trail {h i n} : Rch b go h (.mid [] i n) → i < b.length → Fin b go h (i : Nat) 26
  | done {h i n} : Rch b go h (.mid [] i n) → b.length ≤ i → Fin b go h 0 0
theorem leaf_pos {b : List UInt8} {i k : Nat} {t : T} (hi : i ≤ b.length) (hlim : b.length ≤ 1048576) (h1 : byt b i ≠ 108) (h2 : byt b i ≠ 100) (h : leafO b i = .val t k) : 1 ≤ k := by
  obtain ⟨_, h3, h4⟩ := leaf_val hi hlim h1 h2 h
  rw [← h3]
  rcases h4 with e | e
  · rw [e]; show 1 ≤ (_ :: _ : List UInt8).length; simp
  · rw [e]
    show 1 ≤ (wtx t.s).length
    unfold wtx
    rw [List.length_append, List.length_cons]
    omega
/-- what always holds -/
def okL (i : Nat) (ls : List Lv) : Prop := ls.length ≤ 32 ∧ ∀ l ∈ ls, (l.kd = 3 ∨ l.kd = 4) ∧ 0 ≤ l.pa ∧ l.pa ≤ i
theorem okL.mono {i j : Nat} {ls : List Lv} (h : okL i ls) (hij : i ≤ j) : okL j ls := ⟨h.1, fun l hl => by have := h.2 l hl; omega⟩
def okS (b : List UInt8) : RS → Prop
  | .val ls i n => i ≤ b.length ∧ n ≤ i ∧ okL (i + 1) ls ∧ (∀ l r, ls = l :: r → 1 ≤ l.pa ∧ okL i r)
  | .mid ls i n => i ≤ b.length ∧ n ≤ i ∧ okL i ls
theorem Rch.ok {b : List UInt8} (hlim : b.length ≤ 1048576) {go : List Vi → Bool} {h : List Vi} {s : RS} (H : Rch b go h s) : okS b s := by
  induction H with
  | start => exact ⟨by omega, by omega, ⟨by simp, fun l hl => by cases hl⟩, fun l r e => by cases e⟩
  | @value h ls i n v ls' i' _ hv _ ih =>
    obtain ⟨a1, a2, a3, a4⟩ := ih
    rcases hv with ⟨t, j, c1, c2, c3, _, rfl, rfl⟩ | ⟨c1, c2, c3, rfl, rfl⟩
    · have hp := leaf_pos a1 hlim c1 c2 c3
      have hl := (leaf_val a1 hlim c1 c2 c3).1
      exact ⟨hl, by omega, a3.mono (by omega)⟩
    · refine ⟨by omega, by omega, by rw [List.length_cons]; omega, fun l hl => ?_⟩
      rcases List.mem_cons.1 hl with rfl | hl
      · refine ⟨?_, by show (0 : Int) ≤ 0; omega, by show (0 : Int) ≤ _; omega⟩
        rcases c3 with ⟨_, rfl⟩ | ⟨_, rfl⟩
        · exact .inl rfl
        · exact .inr rfl
      · have := a3.2 l hl; omega
  | @part h l r i n l' i' _ _ hp ih =>
    obtain ⟨a1, a2, a3⟩ := ih
    have hl := a3.2 l (by simp)
    have hlen : r.length + 1 ≤ 32 := a3.1
    rcases hp with ⟨c1, rfl, rfl⟩ | ⟨c1, c2, t, j, c3, _, rfl, rfl⟩
    · refine ⟨a1, a2, ⟨hlen, fun x hx => ?_⟩, fun x y e => ?_⟩
      · rcases List.mem_cons.1 hx with rfl | hx
        · exact ⟨hl.1, by show 0 ≤ l.pa + 1; omega, by show l.pa + 1 ≤ _; omega⟩
        · have := a3.2 x (by simp [hx]); omega
      · injection e with e1 e2; subst e1 e2
        exact ⟨by show 1 ≤ l.pa + 1; omega, by omega, fun x hx => a3.2 x (by simp [hx])⟩
    · have d1 : byt b i ≠ 108 := fun e => c2 (.inr (.inl e))
      have d2 : byt b i ≠ 100 := fun e => c2 (.inr (.inr e))
      have hl2 := (leaf_val a1 hlim d1 d2 c3).1
      refine ⟨hl2, by omega, ⟨hlen, fun x hx => ?_⟩, fun x y e => ?_⟩
      · rcases List.mem_cons.1 hx with rfl | hx
        · exact ⟨hl.1, by show 0 ≤ l.pa + 1; omega, by show l.pa + 1 ≤ _; omega⟩
        · have := a3.2 x (by simp [hx]); omega
      · injection e with e1 e2; subst e1 e2
        exact ⟨by show 1 ≤ l.pa + 1; omega, by omega, fun x hx => by have := a3.2 x (by simp [hx]); omega⟩
  | @close h l r i n _ hi _ _ ih =>
    obtain ⟨a1, a2, a3⟩ := ih
    have : r.length + 1 ≤ 32 := a3.1
    exact ⟨by omega, by omega, by omega, fun x hx => by have := a3.2 x (by simp [hx]); omega⟩
end Go.Proofs.YtdlnnnlmlaploaaDoor
