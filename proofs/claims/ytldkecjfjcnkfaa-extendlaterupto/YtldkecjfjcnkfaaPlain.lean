import Derived.Test.YtldkecjfjcnkfaaNodeD
namespace Go.Proofs.Ytldkecjfjcnkfaa
open Go.RowKit Go.Deep
theorem empty_of {s : ByteArray} (h : s.toList = []) : s = { data := #[] } := by
  rw [ByteArray.toList_eq] at h
  obtain ⟨d⟩ := s
  have : d = #[] := by simpa using h
  rw [this]
/-- a slice that lies within its capacity -/
def capd (v : Value) : Prop := ∀ a n c, v = .slice a n c → n ≤ c ∧ (a = none → c = 0)
theorem capd_nil : capd (.slice none 0 0) := fun a n c e => by cases e; exact ⟨Nat.le_refl _, fun _ => rfl⟩
theorem capd_own (p : Addr) (n : Nat) : capd (.slice (some p) n n) := fun a m c e => by cases e; exact ⟨Nat.le_refl _, fun h => by cases h⟩
def PC (t : T) : Prop := ∀ (u : Value) (S : Nat → Prop) (w : World), t.small → VT t → RN S w t u →
  Calls Try.prog 61 #[u] w fun e w' => ∃ x' y', e = .returned (vv t x' y') ∧ RV (fun b => w.heap.size ≤ b) w' t x' y' ∧ Below w.heap.size w w' ∧ capd x' ∧ capd y'
/-- the two blocks of plain -/
def PB (H : Nat) (w wr : World) (c0 c1 c2 c3 c4 : Value) : Prop := Below H w wr ∧ obj wr H (.int .i64 0) (.int .i64 0) (.string { data := #[] }) (.slice .none 0 0) (.slice .none 0 0) ∧ obj wr (H + 1) c0 c1 c2 c3 c4
theorem set5_get (cs : Array Value) (o : Nat) (c0 c1 c2 c3 c4 : Value) (h : o + 4 < cs.size) :
    let cs' := ((((cs.setIfInBounds o c0).setIfInBounds (o + 1) c1).setIfInBounds (o + 2) c2).setIfInBounds (o + 3) c3).setIfInBounds (o + 4) c4
    cs'.size = cs.size ∧ (∀ r, r < 5 → cs'[o + r]? = [c0, c1, c2, c3, c4][r]?) ∧ ∀ q, q < o → cs'[q]? = cs[q]? := by
  intro cs'
  refine ⟨by simp [cs'], fun r hr => ?_, fun q hq => ?_⟩
  · match r, hr with
    | 0, _ => simp [cs', Array.getElem?_setIfInBounds]; omega
    | 1, _ => simp [cs', Array.getElem?_setIfInBounds]; omega
    | 2, _ => simp [cs', Array.getElem?_setIfInBounds]; omega
    | 3, _ => simp [cs', Array.getElem?_setIfInBounds]; omega
    | 4, _ => simp [cs', Array.getElem?_setIfInBounds]; omega
  · simp only [cs', Array.getElem?_setIfInBounds]
    rw [if_neg (by omega), if_neg (by omega), if_neg (by omega), if_neg (by omega), if_neg (by omega)]
theorem set6_get (cs : Array Value) (o : Nat) (c0 c1 c2 c3 c4 c5 : Value) (h : o + 5 < cs.size) :
    let cs' := (((((cs.setIfInBounds o c0).setIfInBounds (o + 1) c1).setIfInBounds (o + 2) c2).setIfInBounds (o + 3) c3).setIfInBounds (o + 4) c4).setIfInBounds (o + 5) c5
    cs'.size = cs.size ∧ (∀ r, r < 6 → cs'[o + r]? = [c0, c1, c2, c3, c4, c5][r]?) ∧ ∀ q, q < o → cs'[q]? = cs[q]? := by
  intro cs'
  refine ⟨by simp [cs'], fun r hr => ?_, fun q hq => ?_⟩
  · match r, hr with
    | 0, _ => simp [cs', Array.getElem?_setIfInBounds]; omega
    | 1, _ => simp [cs', Array.getElem?_setIfInBounds]; omega
    | 2, _ => simp [cs', Array.getElem?_setIfInBounds]; omega
    | 3, _ => simp [cs', Array.getElem?_setIfInBounds]; omega
    | 4, _ => simp [cs', Array.getElem?_setIfInBounds]; omega
    | 5, _ => simp [cs', Array.getElem?_setIfInBounds]; omega
  · simp only [cs', Array.getElem?_setIfInBounds]
    rw [if_neg (by omega), if_neg (by omega), if_neg (by omega), if_neg (by omega), if_neg (by omega), if_neg (by omega)]
theorem as68_68 (v : Value) (w : World) : (Instr.typeAssert (.iface 103 v) 93 103 true).run Try.prog w = .ok (.tuple #[v, .bool true]) w := by kernel_rfl
theorem as53_68 (v : Value) (w : World) : (Instr.typeAssert (.iface 104 v) 93 103 true).run Try.prog w = .ok (.tuple #[.int .i64 0, .bool false]) w := by kernel_rfl
theorem as53_53 (v : Value) (w : World) : (Instr.typeAssert (.iface 104 v) 93 104 true).run Try.prog w = .ok (.tuple #[v, .bool true]) w := by kernel_rfl
theorem as70_68 (v : Value) (w : World) : (Instr.typeAssert (.iface 106 v) 93 103 true).run Try.prog w = .ok (.tuple #[.int .i64 0, .bool false]) w := by kernel_rfl
theorem as70_53 (v : Value) (w : World) : (Instr.typeAssert (.iface 106 v) 93 104 true).run Try.prog w = .ok (.tuple #[.string ByteArray.empty, .bool false]) w := by kernel_rfl
theorem as70_70 (v : Value) (w : World) : (Instr.typeAssert (.iface 106 v) 93 106 true).run Try.prog w = .ok (.tuple #[v, .bool true]) w := by kernel_rfl
theorem as48_68 (v : Value) (w : World) : (Instr.typeAssert (.iface 108 v) 93 103 true).run Try.prog w = .ok (.tuple #[.int .i64 0, .bool false]) w := by kernel_rfl
theorem as48_53 (v : Value) (w : World) : (Instr.typeAssert (.iface 108 v) 93 104 true).run Try.prog w = .ok (.tuple #[.string ByteArray.empty, .bool false]) w := by kernel_rfl
theorem as48_70 (v : Value) (w : World) : (Instr.typeAssert (.iface 108 v) 93 106 true).run Try.prog w = .ok (.tuple #[.slice none 0 0, .bool false]) w := by kernel_rfl
theorem as48_48 (v : Value) (w : World) : (Instr.typeAssert (.iface 108 v) 93 108 true).run Try.prog w = .ok (.tuple #[v, .bool true]) w := by kernel_rfl
/-- five cells stored -/
def set5 (w : World) (g o : Nat) (c0 c1 c2 c3 c4 : Value) : World := ((((w.setCell ⟨g, o, none⟩ c0).setCell ⟨g, o + 1, none⟩ c1).setCell ⟨g, o + 2, none⟩ c2).setCell ⟨g, o + 3, none⟩ c3).setCell ⟨g, o + 4, none⟩ c4
theorem set5_besides (w : World) (g o : Nat) (c0 c1 c2 c3 c4 : Value) : Besides g w (set5 w g o c0 c1 c2 c3 c4) :=
  ((((Besides.setCell w ⟨g, o, none⟩ c0).trans (Besides.setCell _ ⟨g, o + 1, none⟩ c1)).trans (Besides.setCell _ ⟨g, o + 2, none⟩ c2)).trans (Besides.setCell _ ⟨g, o + 3, none⟩ c3)).trans (Besides.setCell _ ⟨g, o + 4, none⟩ c4)
theorem set5_block (w : World) (g o : Nat) (c0 c1 c2 c3 c4 : Value) (b : Nat) (hb : b ≠ g) : (set5 w g o c0 c1 c2 c3 c4).heap[b]? = w.heap[b]? := by
  unfold set5
  rw [Below.heap_setCell _ _ _ _ hb, Below.heap_setCell _ _ _ _ hb, Below.heap_setCell _ _ _ _ hb, Below.heap_setCell _ _ _ _ hb, Below.heap_setCell _ _ _ _ hb]
theorem set5_size (w : World) (g o : Nat) (c0 c1 c2 c3 c4 : Value) : (set5 w g o c0 c1 c2 c3 c4).heap.size = w.heap.size := by simp [set5, World.setCell]
theorem set5_below {H g : Nat} {w wr : World} (h : Below H w wr) (hg : H ≤ g) (o : Nat) (c0 c1 c2 c3 c4 : Value) : Below H w (set5 wr g o c0 c1 c2 c3 c4) :=
  ((((h.setCell hg _).setCell hg _).setCell hg _).setCell hg _).setCell hg _
theorem set5_blk {w : World} {g : Nat} {ty : TypeId} {cs : Array Value} (h : blk w g ty cs) (o : Nat) (c0 c1 c2 c3 c4 : Value) : blk (set5 w g o c0 c1 c2 c3 c4) g ty (((((cs.setIfInBounds o c0).setIfInBounds (o + 1) c1).setIfInBounds (o + 2) c2).setIfInBounds (o + 3) c3).setIfInBounds (o + 4) c4) :=
  ((((h.set o _).set (o + 1) _).set (o + 2) _).set (o + 3) _).set (o + 4) _
/-- the list that plain lays, so far -/
def PL (g : Nat) (w : World) (l : Nat → T) (ln j : Nat) (cs : Array Value) : Prop := blk w g 56 cs ∧ cs.size = ln * 5 ∧ ∀ i, i < j → ∃ X Y, (∀ r, r < 5 → cs[i * 5 + r]? = (cv (l i) X Y)[r]?) ∧ RV (fun b => g < b) w (l i) X Y
theorem PL.step {g : Nat} {wr w2 : World} {l : Nat → T} {ln j : Nat} {cs : Array Value} {X Y : Value} {B : Nat} (hj : j < ln) (he : PL g wr l ln j cs) (hb3 : Below wr.heap.size wr w2) (hrv : RV (fun b => B ≤ b) w2 (l j) X Y) (hB : g < B) :
    ∃ cs', PL g (set5 w2 g (j * 5) (.int .i64 (l j).k) (.int .i64 (l j).n) (.string (l j).s) X Y) l ln (j + 1) cs' := by
  obtain ⟨hblk, hsz, hel⟩ := he
  have hblk2 := hblk.keep (hb3.block _ hblk.lt)
  obtain ⟨q1, q2, q3⟩ := set5_get cs (j * 5) (.int .i64 (l j).k) (.int .i64 (l j).n) (.string (l j).s) X Y (by omega)
  refine ⟨_, set5_blk hblk2 _ _ _ _ _ _, q1.trans hsz, fun i hi => ?_⟩
  rcases Nat.lt_succ_iff_lt_or_eq.1 hi with h | rfl
  · obtain ⟨X', Y', e1, e2⟩ := hel i h
    refine ⟨X', Y', fun r hr => by rw [q3 _ (by omega)]; exact e1 r hr, RV.move (fun b hb _ => hb) (by rw [set5_size]; exact hb3.size) (fun b hb hl => ?_) _ _ _ e2⟩
    rw [set5_block _ _ _ _ _ _ _ _ _ (by omega), hb3.block b hl]
  · exact ⟨X, Y, q2, RV.move (fun b hb _ => by omega) (by rw [set5_size]; exact Nat.le_refl _) (fun b hb hl => set5_block _ _ _ _ _ _ _ _ _ (by omega)) _ _ _ hrv⟩
theorem PL.rl {g : Nat} {w w' : World} {l : Nat → T} {ln c : Nat} {cs : Array Value} {S : Nat → Prop} (h : PL g w l ln ln cs) (hs : w.heap.size ≤ w'.heap.size) (hb : ∀ b, g ≤ b → b < w.heap.size → w'.heap[b]? = w.heap[b]?) (hS : ∀ b, g ≤ b → S b) : RL S w' ln l (.slice (some ⟨g, 0, none⟩) ln c) := by
  obtain ⟨hblk, hsz, hel⟩ := h
  have hglt := hblk.lt
  refine ⟨_, _, rfl, .inr ⟨g, 0, rfl, hS g (Nat.le_refl _), Nat.lt_of_lt_of_le hglt hs, fun i hi => ?_⟩⟩
  obtain ⟨X, Y, e1, e2⟩ := hel i hi
  refine ⟨X, Y, RV.move (fun b hb' _ => hS b (Nat.le_of_lt hb')) hs (fun b hb' hl => hb b (Nat.le_of_lt hb') hl) _ _ _ e2, ?_⟩
  have c : ∀ r, r < 5 → w'.cell? ⟨g, i * 5 + r, none⟩ = (cv (l i) X Y)[r]? := fun r hr => by
    rw [World.cell?_of_block (w := w) (a := ⟨g, i * 5 + r, none⟩) (hb g (Nat.le_refl _) hglt), hblk.cell, e1 r hr]
  have c0 := c 0 (by omega)
  have c1 := c 1 (by omega)
  have c2 := c 2 (by omega)
  have c3 := c 3 (by omega)
  have c4 := c 4 (by omega)
  simp only [cv, Nat.add_zero] at c0 c1 c2 c3 c4
  simp only [Nat.zero_add]
  exact ⟨c0, c1, c2, c3, c4⟩
/-- six cells stored -/
def set6 (w : World) (g o : Nat) (c0 c1 c2 c3 c4 c5 : Value) : World := (((((w.setCell ⟨g, o, none⟩ c0).setCell ⟨g, o + 1, none⟩ c1).setCell ⟨g, o + 2, none⟩ c2).setCell ⟨g, o + 3, none⟩ c3).setCell ⟨g, o + 4, none⟩ c4).setCell ⟨g, o + 5, none⟩ c5
theorem set6_block (w : World) (g o : Nat) (c0 c1 c2 c3 c4 c5 : Value) (b : Nat) (hb : b ≠ g) : (set6 w g o c0 c1 c2 c3 c4 c5).heap[b]? = w.heap[b]? := by
  unfold set6
  rw [Below.heap_setCell _ _ _ _ hb, Below.heap_setCell _ _ _ _ hb, Below.heap_setCell _ _ _ _ hb, Below.heap_setCell _ _ _ _ hb, Below.heap_setCell _ _ _ _ hb, Below.heap_setCell _ _ _ _ hb]
theorem set6_size (w : World) (g o : Nat) (c0 c1 c2 c3 c4 c5 : Value) : (set6 w g o c0 c1 c2 c3 c4 c5).heap.size = w.heap.size := by simp [set6, World.setCell]
theorem set6_below {H g : Nat} {w wr : World} (h : Below H w wr) (hg : H ≤ g) (o : Nat) (c0 c1 c2 c3 c4 c5 : Value) : Below H w (set6 wr g o c0 c1 c2 c3 c4 c5) :=
  (((((h.setCell hg _).setCell hg _).setCell hg _).setCell hg _).setCell hg _).setCell hg _
theorem set6_blk {w : World} {g : Nat} {ty : TypeId} {cs : Array Value} (h : blk w g ty cs) (o : Nat) (c0 c1 c2 c3 c4 c5 : Value) : blk (set6 w g o c0 c1 c2 c3 c4 c5) g ty ((((((cs.setIfInBounds o c0).setIfInBounds (o + 1) c1).setIfInBounds (o + 2) c2).setIfInBounds (o + 3) c3).setIfInBounds (o + 4) c4).setIfInBounds (o + 5) c5) :=
  (((((h.set o _).set (o + 1) _).set (o + 2) _).set (o + 3) _).set (o + 4) _).set (o + 5) _
/-- the pairs that plain lays, so far -/
def PD (g : Nat) (w : World) (ky : Nat → ByteArray) (l : Nat → T) (ln j : Nat) (cs : Array Value) : Prop := blk w g 59 cs ∧ cs.size = ln * 6 ∧ ∀ i, i < j → ∃ X Y, (∀ r, r < 6 → cs[i * 6 + r]? = (.string (ky i) :: cv (l i) X Y)[r]?) ∧ RV (fun b => g < b) w (l i) X Y
theorem PD.step {g : Nat} {wr w2 : World} {ky : Nat → ByteArray} {l : Nat → T} {ln j : Nat} {cs : Array Value} {X Y : Value} {B : Nat} (hj : j < ln) (he : PD g wr ky l ln j cs) (hb3 : Below wr.heap.size wr w2) (hrv : RV (fun b => B ≤ b) w2 (l j) X Y) (hB : g < B) :
    ∃ cs', PD g (set6 w2 g (j * 6) (.string (ky j)) (.int .i64 (l j).k) (.int .i64 (l j).n) (.string (l j).s) X Y) ky l ln (j + 1) cs' := by
  obtain ⟨hblk, hsz, hel⟩ := he
  have hblk2 := hblk.keep (hb3.block _ hblk.lt)
  obtain ⟨q1, q2, q3⟩ := set6_get cs (j * 6) (.string (ky j)) (.int .i64 (l j).k) (.int .i64 (l j).n) (.string (l j).s) X Y (by omega)
  refine ⟨_, set6_blk hblk2 _ _ _ _ _ _ _, q1.trans hsz, fun i hi => ?_⟩
  rcases Nat.lt_succ_iff_lt_or_eq.1 hi with h | rfl
  · obtain ⟨X', Y', e1, e2⟩ := hel i h
    refine ⟨X', Y', fun r hr => by rw [q3 _ (by omega)]; exact e1 r hr, RV.move (fun b hb _ => hb) (by rw [set6_size]; exact hb3.size) (fun b hb hl => ?_) _ _ _ e2⟩
    rw [set6_block _ _ _ _ _ _ _ _ _ _ (by omega), hb3.block b hl]
  · exact ⟨X, Y, q2, RV.move (fun b hb _ => by omega) (by rw [set6_size]; exact Nat.le_refl _) (fun b hb hl => set6_block _ _ _ _ _ _ _ _ _ _ (by omega)) _ _ _ hrv⟩
theorem PD.rd {g : Nat} {w w' : World} {ky : Nat → ByteArray} {l : Nat → T} {ln c : Nat} {cs : Array Value} {S : Nat → Prop} (h : PD g w ky l ln ln cs) (hs : w.heap.size ≤ w'.heap.size) (hb : ∀ b, g ≤ b → b < w.heap.size → w'.heap[b]? = w.heap[b]?) (hS : ∀ b, g ≤ b → S b) : RD S w' ln ky l (.slice (some ⟨g, 0, none⟩) ln c) := by
  obtain ⟨hblk, hsz, hel⟩ := h
  have hglt := hblk.lt
  refine ⟨_, _, rfl, .inr ⟨g, 0, rfl, hS g (Nat.le_refl _), Nat.lt_of_lt_of_le hglt hs, fun i hi => ?_⟩⟩
  obtain ⟨X, Y, e1, e2⟩ := hel i hi
  refine ⟨X, Y, RV.move (fun b hb' _ => hS b (Nat.le_of_lt hb')) hs (fun b hb' hl => hb b (Nat.le_of_lt hb') hl) _ _ _ e2, ?_⟩
  have c : ∀ r, r < 6 → w'.cell? ⟨g, i * 6 + r, none⟩ = (.string (ky i) :: cv (l i) X Y)[r]? := fun r hr => by
    rw [World.cell?_of_block (w := w) (a := ⟨g, i * 6 + r, none⟩) (hb g (Nat.le_refl _) hglt), hblk.cell, e1 r hr]
  have c0 := c 0 (by omega)
  have c1 := c 1 (by omega)
  have c2 := c 2 (by omega)
  have c3 := c 3 (by omega)
  have c4 := c 4 (by omega)
  have c5 := c 5 (by omega)
  simp only [cv, Nat.add_zero] at c0 c1 c2 c3 c4 c5
  simp only [Nat.zero_add]
  exact ⟨c0, c1, c2, c3, c4, c5⟩
set_option maxHeartbeats 6000000 in
theorem plain28 (t : T) : PC t := by
  induction t with
  | no => intro u S w _ _ h; exact h.elim
  | mk k n s ln l dn ky dv il id =>
    intro u S w hsm hvt hr
    obtain ⟨sm1, sm2, sm3, sm4⟩ := hsm
    obtain ⟨hown, v1, v2⟩ := hvt
    obtain ⟨k1, k4, o1, o2, o3, o4⟩ := (ownB_iff _ _ _ _ _).1 hown
    have HO : Hid ((∀ i, PC (l i)) ∧ (∀ i, PC (dv i)) ∧ (∀ i, i < ln → (l i).small ∧ VT (l i)) ∧ (∀ i, i < dn → (dv i).small ∧ VT (dv i))) := ⟨il, id, fun i hi => ⟨sm3 i hi, v1 i hi⟩, fun i hi => ⟨sm4 i hi, (v2 i hi).2⟩⟩
    clear il id sm3 sm4 v1 v2 hown
    rcases hr with ⟨rfl, rfl⟩ | ⟨rfl, rfl⟩ | ⟨rfl, b, c, rfl, h1, h2, h3⟩ | ⟨rfl, b, c, rfl, h1, h2, h3⟩
    · obtain rfl : ln = 0 := by omega
      obtain rfl : dn = 0 := by omega
      have hs0 : s = { data := #[] } := empty_of (o2.resolve_left (by omega))
      subst hs0
      clear o1 o2 o3 o4 k1 k4
      have ha := as68_68
      go_enter Try.func61, Try.ntmps61
      go_wp2
      exact bodyPost_ret (v := .agg #[.int .i64 1, .int .i64 n, .string { data := #[] }, .slice none 0 0, .slice none 0 0]) (results_cell_row Try.results61 _ _ w.heap.size 56 _ (0, 0) _ rfl ((Below.heap_alloc _ _ _ (by simp)).trans (heap_new _ _)) Try.underlying56 rfl info25s) rfl
        ⟨_, _, rfl, ⟨⟨_, _, rfl, .inl rfl⟩, ⟨_, _, rfl, .inl rfl⟩⟩, ((Below.refl _ _).alloc (Nat.le_refl _) _).alloc (by simp) _, capd_nil, capd_nil⟩
    · obtain rfl : n = 0 := o1.resolve_left (by omega)
      obtain rfl : ln = 0 := o3.resolve_left (by omega)
      obtain rfl : dn = 0 := o4.resolve_left (by omega)
      clear o1 o2 o3 o4 k1 k4
      have ha := as53_68
      have hb := as53_53
      go_enter Try.func61, Try.ntmps61
      go_wp2
      exact bodyPost_ret (v := .agg #[.int .i64 2, .int .i64 0, .string s, .slice none 0 0, .slice none 0 0]) (results_cell_row Try.results61 _ _ w.heap.size 56 _ (0, 0) _ rfl ((Below.heap_alloc _ _ _ (by simp)).trans (heap_new _ _)) Try.underlying56 rfl info25s) rfl
        ⟨_, _, rfl, ⟨⟨_, _, rfl, .inl rfl⟩, ⟨_, _, rfl, .inl rfl⟩⟩, ((Below.refl _ _).alloc (Nat.le_refl _) _).alloc (by simp) _, capd_nil, capd_nil⟩
    · obtain rfl : n = 0 := o1.resolve_left (by omega)
      obtain rfl : dn = 0 := o4.resolve_left (by omega)
      have hs0 : s = { data := #[] } := empty_of (o2.resolve_left (by omega))
      subst hs0
      clear o1 o2 o3 o4 k1 k4
      obtain ⟨i0, hi, hz0, hz1, hz2⟩ := info_parts info25
      have hmk : ∀ u : World, (Instr.makeSlice 54 (.int .i64 (ln : Int)) (.int .i64 (ln : Int))).run Try.prog u =
          .ok (.slice (some ⟨u.heap.size, 0, none⟩) ln ln) (u.alloc (.cells (madeCells #[.int .i64 0, .int .i64 0, .string ByteArray.empty, .slice none 0 0, .slice none 0 0] (ln * 5)) 56)) := fun u => by
        have h := run_make (P := Try.prog) u 54 56 i0 _ Try.underlying54 hi hz0 .i64 .i64 ln ln (by omega) (by omega) (by rw [hz2]; omega) (by omega)
        simpa [hz1, Value.cells] using h
      have HN : Hid (∀ i, i < ln → ∃ u, w.cell? ⟨b, i, none⟩ = some u ∧ RN S w (l i) u) := h3
      have HBL : Hid (b < w.heap.size) := h2
      clear h1 h2 h3 hi hz0 hz1 hz2
      have ha := as70_68
      have hb := as70_53
      have hc := as70_70
      go_enter Try.func61, Try.ntmps61
      go_wp2
      clear ha hb hc
      go_region
      go_wp2
      clear hmk
      have HB0 : Hid (PB w.heap.size w (((w.alloc (Obj.cells #[.int .i64 0, .int .i64 0, .string { data := #[] }, .slice .none 0 0, .slice .none 0 0] 56)).alloc (Obj.cells #[.int .i64 3, .int .i64 0, .string { data := #[] }, .slice (some ⟨w.heap.size + 1 + 1, 0, none⟩) ln ln, .slice .none 0 0] 56)).alloc (Obj.cells (madeCells #[.int .i64 0, .int .i64 0, .string ByteArray.empty, .slice .none 0 0, .slice .none 0 0] (ln * 5)) 56)).drew (.int .i64 3) (.int .i64 0) (.string { data := #[] }) (.slice (some ⟨w.heap.size + 1 + 1, 0, none⟩) ln ln) (.slice .none 0 0) ∧
          PL (w.heap.size + 1 + 1) (((w.alloc (Obj.cells #[.int .i64 0, .int .i64 0, .string { data := #[] }, .slice .none 0 0, .slice .none 0 0] 56)).alloc (Obj.cells #[.int .i64 3, .int .i64 0, .string { data := #[] }, .slice (some ⟨w.heap.size + 1 + 1, 0, none⟩) ln ln, .slice .none 0 0] 56)).alloc (Obj.cells (madeCells #[.int .i64 0, .int .i64 0, .string ByteArray.empty, .slice .none 0 0, .slice .none 0 0] (ln * 5)) 56)).drew l ln 0 (madeCells #[.int .i64 0, .int .i64 0, .string ByteArray.empty, .slice .none 0 0, .slice .none 0 0] (ln * 5))) := by
        refine ⟨⟨((((Below.refl _ _).alloc (Nat.le_refl _) _).alloc (by simp) _).alloc (by simp; omega) _).drew, ?_, ?_⟩, ?_, by rw [size_madeCells], fun i hi => absurd hi (Nat.not_lt_zero _)⟩
        · exact (Below.heap_alloc _ _ _ (by simp; omega)).trans ((Below.heap_alloc _ _ _ (by simp)).trans (heap_new _ _))
        · refine (Below.heap_alloc _ _ _ (by simp)).trans ?_
          have := heap_new (w.alloc (Obj.cells #[.int .i64 0, .int .i64 0, .string { data := #[] }, .slice .none 0 0, .slice .none 0 0] 56)) (Obj.cells #[.int .i64 3, .int .i64 0, .string { data := #[] }, .slice (some ⟨w.heap.size + 1 + 1, 0, none⟩) ln ln, .slice .none 0 0] 56)
          simpa using this
        · have := heap_new ((w.alloc (Obj.cells #[.int .i64 0, .int .i64 0, .string { data := #[] }, .slice .none 0 0, .slice .none 0 0] 56)).alloc (Obj.cells #[.int .i64 3, .int .i64 0, .string { data := #[] }, .slice (some ⟨w.heap.size + 1 + 1, 0, none⟩) ln ln, .slice .none 0 0] 56)) (Obj.cells (madeCells #[.int .i64 0, .int .i64 0, .string ByteArray.empty, .slice .none 0 0, .slice .none 0 0] (ln * 5)) 56)
          have e : ((w.alloc (Obj.cells #[.int .i64 0, .int .i64 0, .string { data := #[] }, .slice .none 0 0, .slice .none 0 0] 56)).alloc (Obj.cells #[.int .i64 3, .int .i64 0, .string { data := #[] }, .slice (some ⟨w.heap.size + 1 + 1, 0, none⟩) ln ln, .slice .none 0 0] 56)).heap.size = w.heap.size + 1 + 1 := by simp
          rw [e] at this
          exact this
      generalize (((w.alloc (Obj.cells #[.int .i64 0, .int .i64 0, .string { data := #[] }, .slice .none 0 0, .slice .none 0 0] 56)).alloc (Obj.cells #[.int .i64 3, .int .i64 0, .string { data := #[] }, .slice (some ⟨w.heap.size + 1 + 1, 0, none⟩) ln ln, .slice .none 0 0] 56)).alloc (Obj.cells (madeCells #[.int .i64 0, .int .i64 0, .string ByteArray.empty, .slice .none 0 0, .slice .none 0 0] (ln * 5)) 56)).drew = w0 at *
      generalize hg : w.heap.size = H at *
      have HG : Hid (w.heap.size = H) := hg
      clear hg
      go_loopw [36] (fun i wr => ∃ (j : Nat) (cs : Array Value), j ≤ ln ∧ i = .int .i64 j ∧ Hid (PB H w wr (.int .i64 3) (.int .i64 0) (.string { data := #[] }) (.slice (some ⟨H + 1 + 1, 0, none⟩) ln ln) (.slice .none 0 0) ∧ PL (H + 1 + 1) wr l ln j cs)) (fun i _ => ln - (intOf i).toNat)
      case atStart => exact ⟨0, _, Nat.zero_le _, rfl, HB0⟩
      case round =>
        clear HB0
        obtain ⟨j, cs, hj, rfl, hinv⟩ := hrel
        by_cases hlt : j < ln
        · obtain ⟨u, hu, hrn⟩ := HN.out j hlt
          have hw := hinv.out.1.1
          have hle : w.heap.size ≤ H := Nat.le_of_eq HG.out
          replace hu := Below.cellS hw hle hu
          obtain ⟨ty, uu, rfl⟩ := hrn.iface
          obtain ⟨_, _, _, c3, _⟩ := hinv.out.1.2.2.cells
          have hne : H + 1 ≠ H + 1 + 1 := by omega
          have j0 : (0 : Int) ≤ (j : Int) := by omega
          have j1 : (j : Int) < (ln : Int) := by omega
          have HC : Hid (∀ w', w'.heap = wr.heap → w'.os = wr.os → w'.tape = wr.tape → w'.output = wr.output → Calls Try.prog 61 #[.iface ty uu] w' fun e w'' => ∃ xa xn xc ya yn yc, e = .returned (.agg #[.int .i64 (l j).k, .int .i64 (l j).n, .string (l j).s, .slice xa xn xc, .slice ya yn yc]) ∧
              ((∃ z, w''.cell? ⟨H + 1 + 1, j * 5, none⟩ = some z) ∧ (∃ z, w''.cell? ⟨H + 1 + 1, j * 5 + 1, none⟩ = some z) ∧ (∃ z, w''.cell? ⟨H + 1 + 1, j * 5 + 2, none⟩ = some z) ∧ (∃ z, w''.cell? ⟨H + 1 + 1, j * 5 + 3, none⟩ = some z) ∧ (∃ z, w''.cell? ⟨H + 1 + 1, j * 5 + 4, none⟩ = some z)) ∧
              (w''.frozen? ⟨H + 1 + 1, j * 5, none⟩ = false ∧ w''.frozen? ⟨H + 1 + 1, j * 5 + 1, none⟩ = false ∧ w''.frozen? ⟨H + 1 + 1, j * 5 + 2, none⟩ = false ∧ w''.frozen? ⟨H + 1 + 1, j * 5 + 3, none⟩ = false ∧ w''.frozen? ⟨H + 1 + 1, j * 5 + 4, none⟩ = false) ∧
              Hid (Below wr.heap.size wr w'') ∧
              Hid (∃ cs', PB H w (set5 w'' (H + 1 + 1) (j * 5) (.int .i64 (l j).k) (.int .i64 (l j).n) (.string (l j).s) (.slice xa xn xc) (.slice ya yn yc)) (.int .i64 3) (.int .i64 0) (.string { data := #[] }) (.slice (some ⟨H + 1 + 1, 0, none⟩) ln ln) (.slice .none 0 0) ∧ PL (H + 1 + 1) (set5 w'' (H + 1 + 1) (j * 5) (.int .i64 (l j).k) (.int .i64 (l j).n) (.string (l j).s) (.slice xa xn xc) (.slice ya yn yc)) l ln (j + 1) cs')) := by
            intro w' hh h1 h2 h3
            have hbw : Below wr.heap.size wr w' := ⟨h1, h2, h3, by rw [hh]; exact Nat.le_refl _, fun q _ => by rw [hh]⟩
            have hww := hw.trans (hbw.mono (HG.out ▸ hw.size))
            refine (HO.out.1 j _ (fun _ => True) w' (HO.out.2.2.1 j hlt).1 (HO.out.2.2.1 j hlt).2 (RN.move (fun _ _ _ => trivial) hww.size (fun q _ hq => hww.block q (by omega)) _ _ hrn)).mono ?_
            rintro e w2 ⟨X, Y, rfl, hrv, hb2, -⟩
            obtain ⟨⟨xa, xn, xc, rfl⟩, ⟨ya, yn, yc, rfl⟩⟩ := hrv.slices
            obtain ⟨hP, hE⟩ := hinv.out
            have hb3 : Below wr.heap.size wr w2 := hbw.trans (hb2.mono hbw.size)
            have hsz := hE.2.1
            have hglt := hE.1.lt
            have hblk2 := hE.1.keep (hb3.block _ hglt)
            have ex : ∀ r, r < 5 → ∃ z, w2.cell? ⟨H + 1 + 1, j * 5 + r, none⟩ = some z := fun r hr => ⟨cs[j * 5 + r], by rw [hblk2.cell]; exact Array.getElem?_eq_getElem (by omega)⟩
            obtain ⟨cs', hst⟩ := PL.step hlt hE hb3 hrv (by have := hbw.size; omega)
            refine ⟨xa, xn, xc, ya, yn, yc, rfl, ⟨ex 0 (by omega), ex 1 (by omega), ex 2 (by omega), ex 3 (by omega), ex 4 (by omega)⟩, ⟨hblk2.frozen _, hblk2.frozen _, hblk2.frozen _, hblk2.frozen _, hblk2.frozen _⟩, hb3, cs', ⟨?_, ?_, ?_⟩, hst⟩
            · exact set5_below (hP.1.trans (hb3.mono (HG.out ▸ hP.1.size))) (by omega) _ _ _ _ _ _
            · exact (hP.2.1.keep (hb3.block _ hP.2.1.lt)).keep (set5_block _ _ _ _ _ _ _ _ _ (by omega))
            · exact (hP.2.2.keep (hb3.block _ hP.2.2.lt)).keep (set5_block _ _ _ _ _ _ _ _ _ (by omega))
          have c3d : wr.drew.cell? ⟨H + 1, 3, none⟩ = some (.slice (some ⟨H + 1 + 1, 0, none⟩) ln ln) := c3
          clear hw hle hrn hinv
          go_wp2
          go_region_held3 (fun w' => w'.cell? ⟨H + 1, 3, none⟩ = some (.slice (some ⟨H + 1 + 1, 0, none⟩) ln ln))
            (first | (with_reducible exact c3) | (with_reducible exact c3d) | (with_reducible exact Below.cellS hq.out (Nat.le_refl _) c3) | (exact cell_set_ne (cell_set_ne (cell_set_ne (cell_set_ne (cell_set_ne (Below.cellS hq.out (Nat.le_refl _) c3) hne) hne) hne) hne) hne))
            (first | (go_at_call 61; refine (HC.out wr.drew rfl rfl rfl rfl).mono ?_; rintro e wq ⟨xa, xn, xc, ya, yn, yc, rfl, ⟨⟨z0, e0⟩, ⟨z1, e1⟩, ⟨z2, e2⟩, ⟨z3, e3⟩, ⟨z4, e4⟩⟩, ⟨f0, f1, f2, f3, f4⟩, hq, HN2⟩))
          clear HC c3 c3d hq e0 e1 e2 e3 e4 f0 f1 f2 f3 f4 hu
          go_wp2
          go_roundw
          case rel => exact ⟨j + 1, _, by omega, by go_num, HN2.out.choose_spec⟩
          case measure => simp [intOf]; omega
        · obtain rfl : j = ln := by omega
          obtain ⟨q0, q1, q2, q3, q4⟩ := hinv.out.1.2.2.cells
          obtain ⟨r0, r1, r2, r3, r4⟩ := hinv.out.1.2.1.cells
          have z0 := hinv.out.1.2.1.frozen 0
          have z1 := hinv.out.1.2.1.frozen 1
          have z2 := hinv.out.1.2.1.frozen 2
          have z3 := hinv.out.1.2.1.frozen 3
          have z4 := hinv.out.1.2.1.frozen 4
          go_wp2
          refine bodyPost_ret (v := .agg #[.int .i64 3, .int .i64 0, .string { data := #[] }, .slice (some ⟨H + 1 + 1, 0, none⟩) j j, .slice .none 0 0]) (results_cell_row Try.results61 _ _ H 56 _ (0, 0) _ rfl (((((hinv.out.1.2.1.set0 _).set1 _).set2 _).set3 _).set4 _) Try.underlying56 rfl info25s) rfl ⟨_, _, rfl, ?_, ?_, capd_own _ _, capd_nil⟩
          · have hbs := besides5 wr H (.int .i64 3) (.int .i64 0) (.string { data := #[] }) (.slice (some ⟨H + 1 + 1, 0, none⟩) j j) (.slice .none 0 0)
            exact ⟨PL.rl hinv.out.2 hbs.size (fun q h1 h2 => hbs.block q h2 (by omega)) (fun q hq => by have := HG.out; omega), ⟨_, _, rfl, .inl rfl⟩⟩
          · have hbs := besides5 wr H (.int .i64 3) (.int .i64 0) (.string { data := #[] }) (.slice (some ⟨H + 1 + 1, 0, none⟩) j j) (.slice .none 0 0)
            have h0 := hinv.out.1.1
            rw [HG.out]
            exact ⟨hbs.os.trans h0.os, hbs.tape.trans h0.tape, hbs.output.trans h0.output, Nat.le_trans h0.size hbs.size, fun q hq => (hbs.block q (by have := h0.size; have := HG.out; omega) (by omega)).trans (h0.block q hq)⟩
    · obtain rfl : n = 0 := o1.resolve_left (by omega)
      obtain rfl : ln = 0 := o3.resolve_left (by omega)
      have hs0 : s = { data := #[] } := empty_of (o2.resolve_left (by omega))
      subst hs0
      clear o1 o2 o3 o4 k1 k4
      obtain ⟨i0, hi, hz0, hz1, hz2⟩ := info_parts info42
      have hmk : ∀ u : World, (Instr.makeSlice 33 (.int .i64 (dn : Int)) (.int .i64 (dn : Int))).run Try.prog u =
          .ok (.slice (some ⟨u.heap.size, 0, none⟩) dn dn) (u.alloc (.cells (madeCells #[.string ByteArray.empty, .int .i64 0, .int .i64 0, .string ByteArray.empty, .slice none 0 0, .slice none 0 0] (dn * 6)) 59)) := fun u => by
        have h := run_make (P := Try.prog) u 33 59 i0 _ Try.underlying33 hi hz0 .i64 .i64 dn dn (by omega) (by omega) (by rw [hz2]; omega) (by omega)
        simpa [hz1, Value.cells] using h
      have HN : Hid (∀ i, i < dn → ∃ u, w.cell? ⟨b, i * 2, none⟩ = some (.string (ky i)) ∧ w.cell? ⟨b, i * 2 + 1, none⟩ = some u ∧ RN S w (dv i) u) := h3
      have HBL : Hid (b < w.heap.size) := h2
      clear h1 h2 h3 hi hz0 hz1 hz2
      have ha := as48_68
      have hb := as48_53
      have hc := as48_70
      have hd := as48_48
      go_enter Try.func61, Try.ntmps61
      go_wp2
      clear ha hb hc hd
      go_region
      go_wp2
      clear hmk
      have HB0 : Hid (PB w.heap.size w (((w.alloc (Obj.cells #[.int .i64 0, .int .i64 0, .string { data := #[] }, .slice .none 0 0, .slice .none 0 0] 56)).alloc (Obj.cells #[.int .i64 4, .int .i64 0, .string { data := #[] }, .slice .none 0 0, .slice (some ⟨w.heap.size + 1 + 1, 0, none⟩) dn dn] 56)).alloc (Obj.cells (madeCells #[.string ByteArray.empty, .int .i64 0, .int .i64 0, .string ByteArray.empty, .slice .none 0 0, .slice .none 0 0] (dn * 6)) 59)).drew (.int .i64 4) (.int .i64 0) (.string { data := #[] }) (.slice .none 0 0) (.slice (some ⟨w.heap.size + 1 + 1, 0, none⟩) dn dn) ∧
          PD (w.heap.size + 1 + 1) (((w.alloc (Obj.cells #[.int .i64 0, .int .i64 0, .string { data := #[] }, .slice .none 0 0, .slice .none 0 0] 56)).alloc (Obj.cells #[.int .i64 4, .int .i64 0, .string { data := #[] }, .slice .none 0 0, .slice (some ⟨w.heap.size + 1 + 1, 0, none⟩) dn dn] 56)).alloc (Obj.cells (madeCells #[.string ByteArray.empty, .int .i64 0, .int .i64 0, .string ByteArray.empty, .slice .none 0 0, .slice .none 0 0] (dn * 6)) 59)).drew ky dv dn 0 (madeCells #[.string ByteArray.empty, .int .i64 0, .int .i64 0, .string ByteArray.empty, .slice .none 0 0, .slice .none 0 0] (dn * 6))) := by
        refine ⟨⟨((((Below.refl _ _).alloc (Nat.le_refl _) _).alloc (by simp) _).alloc (by simp; omega) _).drew, ?_, ?_⟩, ?_, by rw [size_madeCells], fun i hi => absurd hi (Nat.not_lt_zero _)⟩
        · exact (Below.heap_alloc _ _ _ (by simp; omega)).trans ((Below.heap_alloc _ _ _ (by simp)).trans (heap_new _ _))
        · refine (Below.heap_alloc _ _ _ (by simp)).trans ?_
          have := heap_new (w.alloc (Obj.cells #[.int .i64 0, .int .i64 0, .string { data := #[] }, .slice .none 0 0, .slice .none 0 0] 56)) (Obj.cells #[.int .i64 4, .int .i64 0, .string { data := #[] }, .slice .none 0 0, .slice (some ⟨w.heap.size + 1 + 1, 0, none⟩) dn dn] 56)
          simpa using this
        · have := heap_new ((w.alloc (Obj.cells #[.int .i64 0, .int .i64 0, .string { data := #[] }, .slice .none 0 0, .slice .none 0 0] 56)).alloc (Obj.cells #[.int .i64 4, .int .i64 0, .string { data := #[] }, .slice .none 0 0, .slice (some ⟨w.heap.size + 1 + 1, 0, none⟩) dn dn] 56)) (Obj.cells (madeCells #[.string ByteArray.empty, .int .i64 0, .int .i64 0, .string ByteArray.empty, .slice .none 0 0, .slice .none 0 0] (dn * 6)) 59)
          have e : ((w.alloc (Obj.cells #[.int .i64 0, .int .i64 0, .string { data := #[] }, .slice .none 0 0, .slice .none 0 0] 56)).alloc (Obj.cells #[.int .i64 4, .int .i64 0, .string { data := #[] }, .slice .none 0 0, .slice (some ⟨w.heap.size + 1 + 1, 0, none⟩) dn dn] 56)).heap.size = w.heap.size + 1 + 1 := by simp
          rw [e] at this
          exact this
      generalize (((w.alloc (Obj.cells #[.int .i64 0, .int .i64 0, .string { data := #[] }, .slice .none 0 0, .slice .none 0 0] 56)).alloc (Obj.cells #[.int .i64 4, .int .i64 0, .string { data := #[] }, .slice .none 0 0, .slice (some ⟨w.heap.size + 1 + 1, 0, none⟩) dn dn] 56)).alloc (Obj.cells (madeCells #[.string ByteArray.empty, .int .i64 0, .int .i64 0, .string ByteArray.empty, .slice .none 0 0, .slice .none 0 0] (dn * 6)) 59)).drew = w0 at *
      generalize hg : w.heap.size = H at *
      have HG : Hid (w.heap.size = H) := hg
      clear hg
      go_loopw [58] (fun i wr => ∃ (j : Nat) (cs : Array Value), j ≤ dn ∧ i = .int .i64 j ∧ Hid (PB H w wr (.int .i64 4) (.int .i64 0) (.string { data := #[] }) (.slice .none 0 0) (.slice (some ⟨H + 1 + 1, 0, none⟩) dn dn) ∧ PD (H + 1 + 1) wr ky dv dn j cs)) (fun i _ => dn - (intOf i).toNat)
      case atStart => exact ⟨0, _, Nat.zero_le _, rfl, HB0⟩
      case round =>
        clear HB0
        obtain ⟨j, cs, hj, rfl, hinv⟩ := hrel
        by_cases hlt : j < dn
        · obtain ⟨u, hky, hu, hrn⟩ := HN.out j hlt
          have hw := hinv.out.1.1
          have hle : w.heap.size ≤ H := Nat.le_of_eq HG.out
          replace hu := Below.cellS hw hle hu
          replace hky := Below.cellS hw hle hky
          obtain ⟨ty, uu, rfl⟩ := hrn.iface
          have hne : H + 1 ≠ H + 1 + 1 := by omega
          have j0 : (0 : Int) ≤ (j : Int) := by omega
          have j1 : (j : Int) < (dn : Int) := by omega
          have hX : blk (wr.alloc (Obj.cells #[.string (ky j), .iface ty uu] 110)) wr.heap.size 110 #[.string (ky j), .iface ty uu] := heap_new _ _
          have hA : Below wr.heap.size wr (wr.alloc (Obj.cells #[.string (ky j), .iface ty uu] 110)) := (Below.refl _ _).alloc (Nat.le_refl _) _
          have HP : Hid (PB H w (wr.alloc (Obj.cells #[.string (ky j), .iface ty uu] 110)) (.int .i64 4) (.int .i64 0) (.string { data := #[] }) (.slice .none 0 0) (.slice (some ⟨H + 1 + 1, 0, none⟩) dn dn) ∧ PD (H + 1 + 1) (wr.alloc (Obj.cells #[.string (ky j), .iface ty uu] 110)) ky dv dn j cs) := by
            obtain ⟨hP, hE⟩ := hinv.out
            refine ⟨⟨hP.1.trans (hA.mono (HG.out ▸ hP.1.size)), hP.2.1.keep (hA.block _ hP.2.1.lt), hP.2.2.keep (hA.block _ hP.2.2.lt)⟩, hE.1.keep (hA.block _ hE.1.lt), hE.2.1, fun i hi => ?_⟩
            obtain ⟨X, Y, e1, e2⟩ := hE.2.2 i hi
            exact ⟨X, Y, e1, RV.move (fun b hb _ => hb) hA.size (fun b _ hl => hA.block b hl) _ _ _ e2⟩
          have hxg : wr.heap.size ≠ H + 1 + 1 := by have := hinv.out.2.1.lt; omega
          clear hinv hw hA
          go_wp2
          generalize hxb : wr.heap.size = xb at *
          clear hxb
          generalize wr.alloc (Obj.cells #[.string (ky j), .iface ty uu] 110) = w3 at *
          have hw := HP.out.1.1
          obtain ⟨_, _, _, _, c4⟩ := HP.out.1.2.2.cells
          have k0 : w3.cell? ⟨xb, 0, none⟩ = some (.string (ky j)) := hX.cell 0
          have k1 : w3.cell? ⟨xb, 1, none⟩ = some (.iface ty uu) := hX.cell 1
          have HC : Hid (∀ w', w'.heap = w3.heap → w'.os = w3.os → w'.tape = w3.tape → w'.output = w3.output → Calls Try.prog 61 #[.iface ty uu] w' fun e w'' => ∃ xa xn xc ya yn yc, e = .returned (.agg #[.int .i64 (dv j).k, .int .i64 (dv j).n, .string (dv j).s, .slice xa xn xc, .slice ya yn yc]) ∧
              ((∃ z, w''.cell? ⟨H + 1 + 1, j * 6, none⟩ = some z) ∧ (∃ z, w''.cell? ⟨H + 1 + 1, j * 6 + 1, none⟩ = some z) ∧ (∃ z, w''.cell? ⟨H + 1 + 1, j * 6 + 2, none⟩ = some z) ∧ (∃ z, w''.cell? ⟨H + 1 + 1, j * 6 + 3, none⟩ = some z) ∧ (∃ z, w''.cell? ⟨H + 1 + 1, j * 6 + 4, none⟩ = some z) ∧ (∃ z, w''.cell? ⟨H + 1 + 1, j * 6 + 5, none⟩ = some z)) ∧
              (w''.frozen? ⟨H + 1 + 1, j * 6, none⟩ = false ∧ w''.frozen? ⟨H + 1 + 1, j * 6 + 1, none⟩ = false ∧ w''.frozen? ⟨H + 1 + 1, j * 6 + 2, none⟩ = false ∧ w''.frozen? ⟨H + 1 + 1, j * 6 + 3, none⟩ = false ∧ w''.frozen? ⟨H + 1 + 1, j * 6 + 4, none⟩ = false ∧ w''.frozen? ⟨H + 1 + 1, j * 6 + 5, none⟩ = false) ∧
              Hid (Below w3.heap.size w3 w'') ∧
              Hid (∃ cs', PB H w (set6 w'' (H + 1 + 1) (j * 6) (.string (ky j)) (.int .i64 (dv j).k) (.int .i64 (dv j).n) (.string (dv j).s) (.slice xa xn xc) (.slice ya yn yc)) (.int .i64 4) (.int .i64 0) (.string { data := #[] }) (.slice .none 0 0) (.slice (some ⟨H + 1 + 1, 0, none⟩) dn dn) ∧ PD (H + 1 + 1) (set6 w'' (H + 1 + 1) (j * 6) (.string (ky j)) (.int .i64 (dv j).k) (.int .i64 (dv j).n) (.string (dv j).s) (.slice xa xn xc) (.slice ya yn yc)) ky dv dn (j + 1) cs')) := by
            intro w' hh h1 h2 h3
            have hbw : Below w3.heap.size w3 w' := ⟨h1, h2, h3, by rw [hh]; exact Nat.le_refl _, fun q _ => by rw [hh]⟩
            have hww := hw.trans (hbw.mono (HG.out ▸ hw.size))
            refine (HO.out.2.1 j _ (fun _ => True) w' (HO.out.2.2.2 j hlt).1 (HO.out.2.2.2 j hlt).2 (RN.move (fun _ _ _ => trivial) hww.size (fun q _ hq => hww.block q (by omega)) _ _ hrn)).mono ?_
            rintro e w2 ⟨X, Y, rfl, hrv, hb2, -⟩
            obtain ⟨⟨xa, xn, xc, rfl⟩, ⟨ya, yn, yc, rfl⟩⟩ := hrv.slices
            obtain ⟨hP, hE⟩ := HP.out
            have hb3 : Below w3.heap.size w3 w2 := hbw.trans (hb2.mono hbw.size)
            have hsz := hE.2.1
            have hglt := hE.1.lt
            have hblk2 := hE.1.keep (hb3.block _ hglt)
            have ex : ∀ r, r < 6 → ∃ z, w2.cell? ⟨H + 1 + 1, j * 6 + r, none⟩ = some z := fun r hr => ⟨cs[j * 6 + r], by rw [hblk2.cell]; exact Array.getElem?_eq_getElem (by omega)⟩
            obtain ⟨cs', hst⟩ := PD.step hlt hE hb3 hrv (by have := hbw.size; omega)
            refine ⟨xa, xn, xc, ya, yn, yc, rfl, ⟨ex 0 (by omega), ex 1 (by omega), ex 2 (by omega), ex 3 (by omega), ex 4 (by omega), ex 5 (by omega)⟩, ⟨hblk2.frozen _, hblk2.frozen _, hblk2.frozen _, hblk2.frozen _, hblk2.frozen _, hblk2.frozen _⟩, hb3, cs', ⟨?_, ?_, ?_⟩, hst⟩
            · exact set6_below (hP.1.trans (hb3.mono (HG.out ▸ hP.1.size))) (by omega) _ _ _ _ _ _ _
            · exact (hP.2.1.keep (hb3.block _ hP.2.1.lt)).keep (set6_block _ _ _ _ _ _ _ _ _ _ (by omega))
            · exact (hP.2.2.keep (hb3.block _ hP.2.2.lt)).keep (set6_block _ _ _ _ _ _ _ _ _ _ (by omega))
          have c4d : w3.drew.cell? ⟨H + 1, 4, none⟩ = some (.slice (some ⟨H + 1 + 1, 0, none⟩) dn dn) := c4
          have k0d : w3.drew.cell? ⟨xb, 0, none⟩ = some (.string (ky j)) := k0
          have k1d : w3.drew.cell? ⟨xb, 1, none⟩ = some (.iface ty uu) := k1
          clear hw hle hrn HP hX hky hu
          go_region_held3 (fun w' => w'.cell? ⟨H + 1, 4, none⟩ = some (.slice (some ⟨H + 1 + 1, 0, none⟩) dn dn) ∧ w'.cell? ⟨xb, 0, none⟩ = some (.string (ky j)) ∧ w'.cell? ⟨xb, 1, none⟩ = some (.iface ty uu))
            (first | (with_reducible exact ⟨c4, k0, k1⟩) | (with_reducible exact ⟨c4d, k0d, k1d⟩) | (with_reducible exact ⟨Below.cellS hq.out (Nat.le_refl _) c4, Below.cellS hq.out (Nat.le_refl _) k0, Below.cellS hq.out (Nat.le_refl _) k1⟩) | (exact ⟨cell_set_ne (cell_set_ne (cell_set_ne (cell_set_ne (cell_set_ne (cell_set_ne (Below.cellS hq.out (Nat.le_refl _) c4) hne) hne) hne) hne) hne) hne, cell_set_ne (cell_set_ne (cell_set_ne (cell_set_ne (cell_set_ne (cell_set_ne (Below.cellS hq.out (Nat.le_refl _) k0) hxg) hxg) hxg) hxg) hxg) hxg, cell_set_ne (cell_set_ne (cell_set_ne (cell_set_ne (cell_set_ne (cell_set_ne (Below.cellS hq.out (Nat.le_refl _) k1) hxg) hxg) hxg) hxg) hxg) hxg⟩))
            (first | (go_at_call 61; refine (HC.out w3.drew rfl rfl rfl rfl).mono ?_; rintro e wq ⟨xa, xn, xc, ya, yn, yc, rfl, ⟨⟨z0, e0⟩, ⟨z1, e1⟩, ⟨z2, e2⟩, ⟨z3, e3⟩, ⟨z4, e4⟩, ⟨z5, e5⟩⟩, ⟨f0, f1, f2, f3, f4, f5⟩, hq, HN2⟩))
          clear HC c4 c4d k0 k1 k0d k1d hq e0 e1 e2 e3 e4 e5 f0 f1 f2 f3 f4 f5
          go_wp2
          go_roundw
          case rel => exact ⟨j + 1, _, by omega, by go_num, HN2.out.choose_spec⟩
          case measure => simp [intOf]; omega
        · obtain rfl : j = dn := by omega
          obtain ⟨q0, q1, q2, q3, q4⟩ := hinv.out.1.2.2.cells
          obtain ⟨r0, r1, r2, r3, r4⟩ := hinv.out.1.2.1.cells
          have z0 := hinv.out.1.2.1.frozen 0
          have z1 := hinv.out.1.2.1.frozen 1
          have z2 := hinv.out.1.2.1.frozen 2
          have z3 := hinv.out.1.2.1.frozen 3
          have z4 := hinv.out.1.2.1.frozen 4
          go_wp2
          refine bodyPost_ret (v := .agg #[.int .i64 4, .int .i64 0, .string { data := #[] }, .slice .none 0 0, .slice (some ⟨H + 1 + 1, 0, none⟩) j j]) (results_cell_row Try.results61 _ _ H 56 _ (0, 0) _ rfl (((((hinv.out.1.2.1.set0 _).set1 _).set2 _).set3 _).set4 _) Try.underlying56 rfl info25s) rfl ⟨_, _, rfl, ?_, ?_, capd_nil, capd_own _ _⟩
          · have hbs := besides5 wr H (.int .i64 4) (.int .i64 0) (.string { data := #[] }) (.slice .none 0 0) (.slice (some ⟨H + 1 + 1, 0, none⟩) j j)
            exact ⟨⟨_, _, rfl, .inl rfl⟩, PD.rd hinv.out.2 hbs.size (fun q h1 h2 => hbs.block q h2 (by omega)) (fun q hq => by have := HG.out; omega)⟩
          · have hbs := besides5 wr H (.int .i64 4) (.int .i64 0) (.string { data := #[] }) (.slice .none 0 0) (.slice (some ⟨H + 1 + 1, 0, none⟩) j j)
            have h0 := hinv.out.1.1
            rw [HG.out]
            exact ⟨hbs.os.trans h0.os, hbs.tape.trans h0.tape, hbs.output.trans h0.output, Nat.le_trans h0.size hbs.size, fun q hq => (hbs.block q (by have := h0.size; have := HG.out; omega) (by omega)).trans (h0.block q hq)⟩
end Go.Proofs.Ytldkecjfjcnkfaa
