import Derived.Test.YtglknmelcianjaaBase
namespace Go.Proofs.Ytglknmelcianjaa
open Go.RowKit
/-- an unsynced write -/
structure Wt where
  at_ : Nat
  data : List UInt8
  dead : Bool
/-- a disk: what lasts, the unsynced writes, the fuse -/
structure Dk where
  last : List UInt8
  ws : List Wt
  fu : Option Nat
/-- the newest bytes of a sector -/
def nw (s : Nat) : List Wt → Option (List UInt8)
  | [] => none
  | x :: r => match nw s r with
    | some d => some d
    | none => if x.at_ = s then some x.data else none
/-- the writes to a sector that are not dead, with their places -/
def lv (s : Nat) : Nat → List Wt → List (Nat × List UInt8)
  | _, [] => []
  | k, x :: r => (if x.at_ = s ∧ x.dead = false then [(k, x.data)] else []) ++ lv s (k + 1) r
theorem nw_snoc (s : Nat) (ws : List Wt) (x : Wt) : nw s (ws ++ [x]) = if x.at_ = s then some x.data else nw s ws := by
  induction ws with
  | nil => simp [nw]
  | cons y r ih =>
    simp only [List.cons_append, nw, ih]
    by_cases h : x.at_ = s <;> simp [h]
theorem lv_snoc (s : Nat) (ws : List Wt) (x : Wt) : ∀ k, lv s k (ws ++ [x]) = lv s k ws ++ (if x.at_ = s ∧ x.dead = false then [(k + ws.length, x.data)] else []) := by
  induction ws with
  | nil => intro k; simp [lv]
  | cons y r ih =>
    intro k
    simp only [List.cons_append, lv, ih, List.append_assoc]
    congr 2
    simp only [List.length_cons]
    rw [show k + 1 + r.length = k + (r.length + 1) by omega]
theorem lv_len (s : Nat) (ws : List Wt) : ∀ k, (lv s k ws).length ≤ ws.length := by
  induction ws with
  | nil => intro k; simp [lv]
  | cons y r ih =>
    intro k
    have := ih (k + 1)
    simp only [lv, List.length_append, List.length_cons]
    split <;> simp <;> omega
theorem nw_mem {s : Nat} {ws : List Wt} {d : List UInt8} (h : nw s ws = some d) : ∃ x ∈ ws, x.at_ = s ∧ x.data = d := by
  induction ws with
  | nil => simp [nw] at h
  | cons y r ih =>
    simp only [nw] at h
    split at h
    · rename_i d' hd
      injection h with h
      subst h
      obtain ⟨x, hx, h1⟩ := ih hd
      exact ⟨x, List.mem_cons_of_mem _ hx, h1⟩
    · split at h
      · injection h with h
        exact ⟨y, List.mem_cons_self, ‹_›, h⟩
      · cases h
theorem nw_none {s : Nat} {ws : List Wt} (h : nw s ws = none) : ∀ x ∈ ws, x.at_ ≠ s := by
  induction ws with
  | nil => intro x hx; cases hx
  | cons y r ih =>
    simp only [nw] at h
    split at h
    · cases h
    · rename_i hn
      split at h
      · cases h
      · intro x hx
        rcases List.mem_cons.1 hx with rfl | hx
        · assumption
        · exact ih hn x hx
theorem lv_mem {s : Nat} {ws : List Wt} : ∀ {k : Nat} {y : Nat × List UInt8}, y ∈ lv s k ws → ∃ i x, y.1 = k + i ∧ ws[i]? = some x ∧ x.at_ = s ∧ x.dead = false ∧ x.data = y.2 := by
  induction ws with
  | nil => intro k y h; simp [lv] at h
  | cons x r ih =>
    intro k y h
    simp only [lv, List.mem_append] at h
    rcases h with h | h
    · split at h
      · rename_i hc
        simp at h
        subst h
        exact ⟨0, x, by simp, rfl, hc.1, hc.2, rfl⟩
      · cases h
    · obtain ⟨i, x', h1, h2, h3⟩ := ih h
      exact ⟨i + 1, x', by omega, by simpa using h2, h3⟩
theorem lv_nil {s : Nat} {ws : List Wt} (h : nw s ws = none) (k : Nat) : lv s k ws = [] := by
  rw [List.eq_nil_iff_forall_not_mem]
  intro y hy
  obtain ⟨i, x, _, h2, h3, _⟩ := lv_mem hy
  exact nw_none h x (List.mem_of_getElem? h2) h3
/-- two lists of one length with the same bytes -/
theorem byt_ext {a b : List UInt8} (hl : a.length = b.length) (h : ∀ i, i < a.length → byt a i = byt b i) : a = b := by
  apply List.ext_getElem hl
  intro i h1 h2
  have := h i h1
  rwa [getD_byt a i h1, getD_byt b i h2] at this
/-- the list of so many bytes that a function tells -/
def lf (n : Nat) (f : Nat → UInt8) : List UInt8 := (List.range n).map f
theorem lf_len (n : Nat) (f : Nat → UInt8) : (lf n f).length = n := by simp [lf]
theorem lf_byt (n : Nat) (f : Nat → UInt8) (i : Nat) (h : i < n) : byt (lf n f) i = f i := by
  rw [getD_byt _ _ (by rw [lf_len]; exact h)]
  simp [lf]
theorem lf_self (l : List UInt8) : lf l.length (byt l) = l := byt_ext (lf_len _ _) fun i hi => lf_byt _ _ i (by rwa [lf_len] at hi)
theorem lf_congr {n : Nat} {f g : Nat → UInt8} (h : ∀ i, i < n → f i = g i) : lf n f = lf n g := by
  apply byt_ext (by rw [lf_len, lf_len])
  intro i hi
  rw [lf_len] at hi
  rw [lf_byt _ _ _ hi, lf_byt _ _ _ hi, h i hi]
/-- a byte of what is read -/
def imB (last : List UInt8) (ws : List Wt) (i : Nat) : UInt8 := match nw (i / 64) ws with
  | some d => byt d (i % 64)
  | none => byt last i
/-- what is read -/
def img (last : List UInt8) (ws : List Wt) : List UInt8 := lf last.length (imB last ws)
theorem img_len (last : List UInt8) (ws : List Wt) : (img last ws).length = last.length := lf_len _ _
theorem img_nil (last : List UInt8) : img last [] = last := by
  unfold img
  conv => rhs; rw [← lf_self last]
  rfl
/-- a part put in -/
def sp (l : List UInt8) (o : Nat) (s : List UInt8) : List UInt8 := l.take o ++ s ++ l.drop (o + s.length)
theorem sp_len (l : List UInt8) (o : Nat) (s : List UInt8) (h : o + s.length ≤ l.length) : (sp l o s).length = l.length := by
  simp only [sp, List.length_append, List.length_take, List.length_drop]; omega
theorem sp_byt (l : List UInt8) (o : Nat) (s : List UInt8) (h : o + s.length ≤ l.length) (i : Nat) : byt (sp l o s) i = if o ≤ i ∧ i < o + s.length then byt s (i - o) else byt l i := by
  have e : (l.take o ++ s).length = o + s.length := by rw [List.length_append, List.length_take]; omega
  unfold sp byt
  simp only [List.getD_eq_getElem?_getD]
  by_cases h1 : i < o
  · rw [List.getElem?_append_left (by omega), List.getElem?_append_left (by rw [List.length_take]; omega), List.getElem?_take_of_lt h1, if_neg (by omega)]
  · by_cases h2 : i < o + s.length
    · rw [List.getElem?_append_left (by omega), List.getElem?_append_right (by rw [List.length_take]; omega), if_pos ⟨by omega, h2⟩, List.length_take, Nat.min_eq_left (by omega)]
    · rw [List.getElem?_append_right (by omega), List.getElem?_drop, if_neg (by omega), e]
      congr 2
      omega
theorem sp_lf (n : Nat) (f : Nat → UInt8) (o : Nat) (s : List UInt8) (h : o + s.length ≤ n) : sp (lf n f) o s = lf n (fun i => if o ≤ i ∧ i < o + s.length then byt s (i - o) else f i) := by
  apply byt_ext
  · rw [sp_len _ _ _ (by rw [lf_len]; exact h), lf_len, lf_len]
  · intro i hi
    rw [sp_len _ _ _ (by rw [lf_len]; exact h), lf_len] at hi
    rw [sp_byt _ _ _ (by rw [lf_len]; exact h), lf_byt n f i hi, lf_byt _ _ _ hi]
/-- what a list is once those sectors are laid that are not left -/
def ly (base : List UInt8) (ws : List Wt) (left : Nat → Bool) : List UInt8 := lf base.length fun i => if left (i / 64) then byt base i else imB base ws i
theorem ly_len (base : List UInt8) (ws : List Wt) (left : Nat → Bool) : (ly base ws left).length = base.length := lf_len _ _
theorem ly_start (base : List UInt8) (ws : List Wt) (left : Nat → Bool) (h : ∀ s, (nw s ws).isSome = true → left s = true) : ly base ws left = base := by
  unfold ly
  conv => rhs; rw [← lf_self base]
  apply lf_congr
  intro i hi
  by_cases hl : left (i / 64) = true
  · simp [hl]
  · simp only [hl, imB]
    cases hn : nw (i / 64) ws with
    | none => simp
    | some d => exact absurd (h _ (by rw [hn]; rfl)) hl
theorem ly_end (base : List UInt8) (ws : List Wt) (left : Nat → Bool) (h : ∀ s, left s = false) : ly base ws left = img base ws := by
  unfold ly img
  apply lf_congr
  intro i _
  simp [h]
theorem ly_step (base : List UInt8) (ws : List Wt) (left left' : Nat → Bool) (s : Nat) (d : List UInt8) (hn : nw s ws = some d) (hd : d.length = 64) (hs : 64 * s + 64 ≤ base.length) (h1 : left' s = false) (h2 : ∀ t, t ≠ s → left' t = left t) :
    sp (ly base ws left) (64 * s) d = ly base ws left' := by
  unfold ly
  rw [sp_lf _ _ _ _ (by omega)]
  apply lf_congr
  intro i hi
  by_cases hc : i / 64 = s
  · have : 64 * s ≤ i ∧ i < 64 * s + d.length := by omega
    rw [if_pos this, hc, h1]
    simp only [imB, hc, hn, Bool.false_eq_true, if_false]
    congr 1
    omega
  · have : ¬ (64 * s ≤ i ∧ i < 64 * s + d.length) := by omega
    rw [if_neg this, h2 _ hc]
/-- the bytes of a sector -/
def sec (l : List UInt8) (s : Nat) : List UInt8 := (l.drop (64 * s)).take 64
theorem sec_len (l : List UInt8) (s : Nat) (h : 64 * s + 64 ≤ l.length) : (sec l s).length = 64 := by
  simp only [sec, List.length_take, List.length_drop]; omega
theorem sec_byt (l : List UInt8) (s i : Nat) (h : i < 64) : byt (sec l s) i = byt l (64 * s + i) := by
  unfold sec; rw [byt_take _ _ _ h, byt_drop]
/-- what is read of a sector -/
def seen (D : Dk) (s : Nat) : List UInt8 := (nw s D.ws).getD (sec D.last s)
/-- a fuse one act on -/
def burnt : Option Nat → Option Nat
  | some (k + 1) => some k
  | f => f
/-- a fuse that is blown -/
def blownF : Option Nat → Bool
  | some 0 => true
  | _ => false
/-- one write of a sector behind a crash -/
def crX (keep : List Bool) (torn : Int) (cut : Nat) (c : List UInt8) (x : Nat × List UInt8) : List UInt8 :=
  if (x.1 : Int) = torn then x.2.take cut ++ c.drop cut else if keep.getD x.1 false then x.2 else c
/-- a sector behind a crash -/
def crS (keep : List Bool) (torn : Int) (cut : Nat) (xs : List (Nat × List UInt8)) (c : List UInt8) : List UInt8 := xs.foldl (crX keep torn cut) c
/-- what lasts behind a crash -/
def crD (keep : List Bool) (torn : Int) (cut : Nat) (last : List UInt8) (ws : List Wt) : List UInt8 :=
  lf last.length fun i => byt (crS keep torn cut (lv (i / 64) 0 ws) (sec last (i / 64))) (i % 64)
theorem crD_len (keep : List Bool) (torn : Int) (cut : Nat) (last : List UInt8) (ws : List Wt) : (crD keep torn cut last ws).length = last.length := lf_len _ _
theorem crX_len {keep : List Bool} {torn : Int} {cut : Nat} {c : List UInt8} {x : Nat × List UInt8} (hc : c.length = 64) (hx : x.2.length = 64) (h : cut ≤ 64) : (crX keep torn cut c x).length = 64 := by
  unfold crX
  split
  · rw [List.length_append, List.length_take, List.length_drop]; omega
  · split <;> assumption
/-- a disk that may be -/
structure Gd (D : Dk) : Prop where
  mul : D.last.length % 64 = 0
  pos : 64 ≤ D.last.length
  max : D.last.length ≤ 4194304
  ws : ∀ x ∈ D.ws, 64 * x.at_ + 64 ≤ D.last.length ∧ x.data.length = 64
  fu : ∀ k, D.fu = some k → k ≤ 9223372036854775807
theorem Gd.nw {D : Dk} (h : Gd D) {s : Nat} {d : List UInt8} (hn : nw s D.ws = some d) : 64 * s + 64 ≤ D.last.length ∧ d.length = 64 := by
  obtain ⟨x, hx, rfl, rfl⟩ := nw_mem hn
  exact h.ws x hx
theorem Gd.lv {D : Dk} (h : Gd D) {s : Nat} {y : Nat × List UInt8} (hy : y ∈ lv s 0 D.ws) : y.1 < D.ws.length ∧ y.2.length = 64 := by
  obtain ⟨i, x, h1, h2, _, _, h3⟩ := lv_mem hy
  have := (List.getElem?_eq_some_iff.1 h2).1
  exact ⟨by omega, by rw [← h3]; exact (h.ws x (List.mem_of_getElem? h2)).2⟩
end Go.Proofs.Ytglknmelcianjaa
