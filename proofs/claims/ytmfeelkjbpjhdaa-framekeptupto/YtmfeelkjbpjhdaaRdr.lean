import Derived.Test.YtmfeelkjbpjhdaaRd
import Derived.Laws.BitsAllLaws
import Derived.Laws.IdiomCopy
namespace Go.Proofs.Ytmfeelkjbpjhdaa
open Go.RowKit
/-- the reader's block -/
def RK (w : World) (R : Nat) (p s : Nat) (hv : Value) (f : Int) : Prop := w.heap[R]? = some (.cells #[.int .i64 p, .int .i64 s, hv, .int .i64 f] 51 (0, 0))
theorem RK.lt {w : World} {R p s : Nat} {hv : Value} {f : Int} (h : RK w R p s hv f) : R < w.heap.size := (Array.getElem?_eq_some_iff.1 h).1
theorem RK.c0 {w : World} {R p s : Nat} {hv : Value} {f : Int} (h : RK w R p s hv f) : w.cell? ⟨R, 0, none⟩ = some (.int .i64 p) := by simp [World.cell?, (show w.heap[R]? = _ from h)]
theorem RK.c1 {w : World} {R p s : Nat} {hv : Value} {f : Int} (h : RK w R p s hv f) : w.cell? ⟨R, 1, none⟩ = some (.int .i64 s) := by simp [World.cell?, (show w.heap[R]? = _ from h)]
theorem RK.c2 {w : World} {R p s : Nat} {hv : Value} {f : Int} (h : RK w R p s hv f) : w.cell? ⟨R, 2, none⟩ = some hv := by simp [World.cell?, (show w.heap[R]? = _ from h)]
theorem RK.c3 {w : World} {R p s : Nat} {hv : Value} {f : Int} (h : RK w R p s hv f) : w.cell? ⟨R, 3, none⟩ = some (.int .i64 f) := by simp [World.cell?, (show w.heap[R]? = _ from h)]
theorem RK.fr {w : World} {R p s : Nat} {hv : Value} {f : Int} (h : RK w R p s hv f) (i : Nat) : w.frozen? ⟨R, i, none⟩ = false := by simp [World.frozen?, (show w.heap[R]? = _ from h)]
theorem RK.set {w : World} {R p s : Nat} {hv : Value} {f : Int} (h : RK w R p s hv f) : (∀ p' : Nat, RK (w.setCell ⟨R, 0, none⟩ (.int .i64 p')) R p' s hv f) ∧ (∀ s' : Nat, RK (w.setCell ⟨R, 1, none⟩ (.int .i64 s')) R p s' hv f) ∧ (∀ hv', RK (w.setCell ⟨R, 2, none⟩ hv') R p s hv' f) := by
  refine ⟨fun p' => ?_, fun s' => ?_, fun hv' => ?_⟩ <;> (rw [setCell_eq_setRow w R _ _ _ _ _ h]; exact heapSetRow _ _ _ _ _ h)
theorem setCell_other {w : World} {R i k : Nat} {v : Value} (h : k ≠ R) : (w.setCell ⟨R, i, none⟩ v).heap[k]? = w.heap[k]? := Below.heap_setCell _ _ _ _ (fun e => h e)
/-- nothing but some blocks has turned -/
structure Fr (S : Nat → Prop) (w w' : World) : Prop where
  os : w'.os = w.os
  tape : w'.tape = w.tape
  output : w'.output = w.output
  size : w.heap.size ≤ w'.heap.size
  block : ∀ k, k < w.heap.size → S k → w'.heap[k]? = w.heap[k]?
theorem Fr.refl (S : Nat → Prop) (w : World) : Fr S w w := ⟨rfl, rfl, rfl, Nat.le_refl _, fun _ _ _ => rfl⟩
theorem Fr.of_below {S : Nat → Prop} {w w' : World} (h : Below w.heap.size w w') : Fr S w w' := ⟨h.os, h.tape, h.output, h.size, fun k hk _ => h.block k hk⟩
theorem Fr.trans {S T : Nat → Prop} {w w' w'' : World} (a : Fr S w w') (b : Fr T w' w'') (h : ∀ k, k < w.heap.size → S k → T k) : Fr S w w'' :=
  ⟨b.os.trans a.os, b.tape.trans a.tape, b.output.trans a.output, Nat.le_trans a.size b.size, fun k hk hs => (b.block k (Nat.lt_of_lt_of_le hk a.size) (h k hk hs)).trans (a.block k hk hs)⟩
theorem Fr.mono {S T : Nat → Prop} {w w' : World} (a : Fr S w w') (h : ∀ k, k < w.heap.size → T k → S k) : Fr T w w' := ⟨a.os, a.tape, a.output, a.size, fun k hk ht => a.block k hk (h k hk ht)⟩
theorem Fr.setCell {S : Nat → Prop} {w w' : World} (a : Fr S w w') (R i : Nat) (v : Value) (h : ¬ S R) : Fr S w (w'.setCell ⟨R, i, none⟩ v) :=
  ⟨a.os, a.tape, a.output, by simpa using a.size, fun k hk hs => (setCell_other (fun e => by subst e; exact h hs)).trans (a.block k hk hs)⟩
theorem Fr.setRow {S : Nat → Prop} {w w' : World} (a : Fr S w w') (R : Nat) (cs : Array Value) (h : R < w.heap.size → ¬ S R) : Fr S w (w'.setRow R cs) :=
  ⟨a.os, a.tape, a.output, by simpa using a.size, fun k hk hs => (setRow_other _ _ _ _ (fun e => by subst e; exact h hk hs)).trans (a.block k hk hs)⟩
/-- a list that is read, its block among some -/
def RN (S : Nat → Prop) (w : World) (v : Value) (l : List UInt8) : Prop :=
  ∃ a c, v = .slice a l.length c ∧ l.length ≤ c ∧ (l = [] ∨ ∃ g o, a = some ⟨g, o, none⟩ ∧ S g ∧ g < w.heap.size ∧ ∀ i, i < l.length → w.cell? ⟨g, o + i, none⟩ = some (.int .u8 ((byt l i).toNat : Int)))
theorem RN.rb {S : Nat → Prop} {w : World} {v : Value} {l : List UInt8} (h : RN S w v l) : RB w v l := by
  obtain ⟨a, c, rfl, hle, h⟩ := h
  refine ⟨a, c, rfl, hle, ?_⟩
  rcases h with h | ⟨g, o, h1, _, h2⟩
  · exact .inl h
  · exact .inr ⟨g, o, h1, h2⟩
theorem RN.of_rb {w : World} {v : Value} {l : List UInt8} (h : RB w v l) : RN (fun g => g < w.heap.size) w v l := by
  obtain ⟨a, c, rfl, hle, h⟩ := h
  refine ⟨a, c, rfl, hle, ?_⟩
  rcases h with h | ⟨g, o, h1, h2, h3⟩
  · exact .inl h
  · exact .inr ⟨g, o, h1, h2, h2, h3⟩
theorem RN.move {S T : Nat → Prop} {w w' : World} {v : Value} {l : List UInt8} (h : RN S w v l) (hs : ∀ g, S g → T g) (hb : ∀ g, S g → g < w.heap.size → (∃ o x, w.cell? ⟨g, o, none⟩ = some (.int .u8 x)) → w'.heap[g]? = w.heap[g]?) : RN T w' v l := by
  obtain ⟨a, c, rfl, hle, h⟩ := h
  refine ⟨a, c, rfl, hle, ?_⟩
  rcases h with h | ⟨g, o, h1, h2, h3, h4⟩
  · exact .inl h
  · by_cases h0 : l = []
    · exact .inl h0
    have hpos : 0 < l.length := Nat.pos_of_ne_zero fun e => h0 (List.length_eq_zero_iff.1 e)
    have hg := hb g h2 h3 ⟨_, _, h4 0 hpos⟩
    refine .inr ⟨g, o, h1, hs g h2, ?_, fun i hi => (World.cell?_of_block (w := w) hg).trans (h4 i hi)⟩
    rcases Nat.lt_or_ge g w'.heap.size with h | h
    · exact h
    · rw [Array.getElem?_eq_none h] at hg
      rw [Array.getElem?_eq_getElem h3] at hg
      cases hg
/-- a block of bytes is no reader -/
theorem RK.not_bytes {w : World} {R p s g : Nat} {f : Int} {a : Option Addr} {n c : Nat} (h : RK w R p s (.slice a n c) f) (hg : ∃ o x, w.cell? ⟨g, o, none⟩ = some (.int .u8 x)) : g ≠ R := by
  rintro rfl
  obtain ⟨o, x, hc⟩ := hg
  simp only [World.cell?, (show w.heap[g]? = _ from h)] at hc
  match o, hc with
  | 0, hc | 1, hc | 2, hc | 3, hc => simp at hc
  | o + 4, hc => simp at hc
theorem RN.drop {S : Nat → Prop} {w : World} {a : Option Addr} {c m : Nat} {l : List UInt8} (h : RN S w (.slice a l.length c) l) (hm : m ≤ l.length) :
    RN S w (.slice (if c = m then a else a.map (·.add m)) (l.length - m) (c - m)) (l.drop m) := by
  obtain ⟨a', c', e, hle, h⟩ := h
  simp only [Value.slice.injEq] at e
  obtain ⟨rfl, _, rfl⟩ := e
  refine ⟨_, _, by rw [List.length_drop], by rw [List.length_drop]; omega, ?_⟩
  rcases h with rfl | ⟨g, o, rfl, h1, h2, h3⟩
  · exact .inl (by simp)
  · by_cases hcm : c = m
    · exact .inl (List.drop_eq_nil_of_le (by omega))
    · refine .inr ⟨g, o + m, ?_, h1, h2, fun i hi => ?_⟩
      · rw [if_neg hcm]
        simp [Addr.add]
      · rw [List.length_drop] at hi
        rw [byt_drop, Nat.add_assoc]
        exact h3 (m + i) (by omega)
set_option maxHeartbeats 1000000 in
theorem fills (w : World) (R p s : Nat) (f : Int) (ha : Option Addr) (hn hc ln bc' : Nat) (b : Option Addr) (hk : RK w R p s (.slice ha hn hc) f) (hp : p ≤ 2) (hs : p = 1 → s ≤ 32768) (hhn : hn ≤ 65536) (_hln : ln ≤ 140737488351232) :
    Calls Try.prog 18 #[.pointer (some ⟨R, 0, none⟩), .slice b ln bc'] w fun e w' => e = .returned (.bool (decide ((if p = 2 then 68 else if p = 1 then s else 4) ≤ hn + ln))) ∧ w = w' := by
  have c0 := hk.c0
  have c1 := hk.c1
  have c2 := hk.c2
  clear hk
  have hp3 : p = 0 ∨ p = 1 ∨ p = 2 := by omega
  rcases hp3 with rfl | rfl | rfl
  · clear hs
    go_enter Try.func18, Try.ntmps18
    go_wp2
    go_ret
    exact ⟨ret_bool (decide_eq_decide.2 (by first | omega | (simp; omega))), rfl⟩
  · have hs := hs rfl
    go_enter Try.func18, Try.ntmps18
    go_wp2
    go_ret
    exact ⟨ret_bool (decide_eq_decide.2 (by first | omega | (simp; omega))), rfl⟩
  · clear hs
    go_enter Try.func18, Try.ntmps18
    go_wp2
    go_ret
    exact ⟨ret_bool (decide_eq_decide.2 (by first | omega | (simp; omega))), rfl⟩
theorem fills_no (w : World) (R p s : Nat) (f : Int) (ha : Option Addr) (hn hc ln bc' : Nat) (b : Option Addr) (hk : RK w R p s (.slice ha hn hc) f) (hp : p ≤ 2) (hs : p = 1 → s ≤ 32768) (hhn : hn ≤ 65536) (hln : ln ≤ 140737488351232) (h : ¬ (if p = 2 then 68 else if p = 1 then s else 4) ≤ hn + ln) :
    Calls Try.prog 18 #[.pointer (some ⟨R, 0, none⟩), .slice b ln bc'] w fun e w' => e = .returned (.bool false) ∧ w = w' := by
  have := fills w R p s f ha hn hc ln bc' b hk hp hs hhn hln
  rwa [decide_eq_false h] at this
theorem fills_yes (w : World) (R p s : Nat) (f : Int) (ha : Option Addr) (hn hc ln bc' : Nat) (b : Option Addr) (hk : RK w R p s (.slice ha hn hc) f) (hp : p ≤ 2) (hs : p = 1 → s ≤ 32768) (hhn : hn ≤ 65536) (hln : ln ≤ 140737488351232) (h : (if p = 2 then 68 else if p = 1 then s else 4) ≤ hn + ln) :
    Calls Try.prog 18 #[.pointer (some ⟨R, 0, none⟩), .slice b ln bc'] w fun e w' => e = .returned (.bool true) ∧ w = w' := by
  have := fills w R p s f ha hn hc ln bc' b hk hp hs hhn hln
  rwa [decide_eq_true h] at this
theorem info_reader : (Try.prog.info? 51).map (·.size) = some 4 := by kernel_rfl
set_option maxHeartbeats 1000000 in
theorem breakOff (w : World) (R p s : Nat) (hv : Value) (f why : Int) (hk : RK w R p s hv f) :
    Calls Try.prog 17 #[.pointer (some ⟨R, 0, none⟩), .int .i64 why] w fun e w' => e = .returned (.tuple #[]) ∧ RK w' R 0 0 (.slice none 0 0) why ∧ Fr (fun k => k ≠ R) w w' := by
  have HK : Hid (RK w R p s hv f) := hk
  have hi : (Try.prog.info? 51).map (·.size) = some (#[Value.int .i64 0, .int .i64 0, .slice none 0 0, .int .i64 why]).size := info_reader
  have hone : (#[Value.int .i64 0, .int .i64 0, .slice none 0 0, .int .i64 why]).all (·.oneCell') = true := by simp [Value.oneCell']
  have hg : w.heap[R]? = some (.cells #[.int .i64 p, .int .i64 s, hv, .int .i64 f] 51 (0, 0)) := hk
  have HG : Hid _ := hg
  clear hk hg
  go_enter Try.func17, Try.ntmps17
  go_wp2_with (first | (refine wpList_store_row rfl 51 _ _ rfl R #[.int .i64 0, .int .i64 0, .slice none 0 0, .int .i64 why] rfl rfl 51 _ HG.out hi rfl hone ?_))
  go_end0
  exact ⟨rfl, heapSetRow _ _ _ _ _ HG.out, (Fr.refl _ w).setRow R _ (fun _ h => h rfl)⟩
set_option maxHeartbeats 1000000 in
theorem new (w : World) (h : Bool) :
    Calls Try.prog 9 #[.bool h] w fun e w' => e = .returned (.pointer (some ⟨w.heap.size, 0, none⟩)) ∧ RK w' w.heap.size (if h then 2 else 0) 0 (.slice none 0 0) 0 ∧ Below w.heap.size w w' := by
  cases h
  · go_enter Try.func9, Try.ntmps9
    go_wp2
    go_ret
    exact ⟨rfl, heapNew _ _, (Below.refl _ _).alloc (Nat.le_refl _) _⟩
  · go_enter Try.func9, Try.ntmps9
    go_wp2
    go_ret
    exact ⟨rfl, heapNew _ _, (Below.refl _ _).alloc (Nat.le_refl _) _⟩
theorem or4 (x0 x1 x2 x3 : Nat) (h0 : x0 < 256) (h1 : x1 < 256) (h2 : x2 < 256) (h3 : x3 < 256) :
    bits .or .u32 (bits .or .u32 (bits .or .u32 ((x0 : Int) * 16777216) ((x1 : Int) * 65536)) ((x2 : Int) * 256)) (x3 : Int) = (((((x0 * 256 + x1) * 256 + x2) * 256 + x3 : Nat)) : Int) := by
  have a1 := u32_or_nat (x0 * 16777216) (x1 * 65536) (by omega) (by omega)
  rw [nat_join 24 _ _ (by omega) (by omega)] at a1
  have a2 := u32_or_nat (x0 * 16777216 + x1 * 65536) (x2 * 256) (by omega) (by omega)
  rw [nat_join 16 _ _ (by omega) (by omega)] at a2
  have a3 := u32_or_nat (x0 * 16777216 + x1 * 65536 + x2 * 256) x3 (by omega) (by omega)
  rw [nat_join 8 _ _ (by omega) (by omega)] at a3
  simp only [Int.natCast_mul, Int.natCast_add, Int.cast_ofNat_Int] at a1 a2 a3 ⊢
  rw [a1, a2, a3]
  omega
theorem ret_int {k : IntKind} {a b : Int} (h : a = b) : Ending.returned (.int k a) = .returned (.int k b) := by rw [h]
set_option maxHeartbeats 1000000 in
theorem number (l : List UInt8) (hl : l.length = 4) (w : World) :
    Calls Try.prog 21 #[.agg (bc l)] w fun e w' => e = .returned (.int .u32 (nm l : Int)) ∧ Below w.heap.size w w' := by
  have h0 := UInt8.toNat_lt (byt l 0)
  have h1 := UInt8.toNat_lt (byt l 1)
  have h2 := UInt8.toNat_lt (byt l 2)
  have h3 := UInt8.toNat_lt (byt l 3)
  have c0 := cell_bc (heapNew w (.cells (bc l) 58)) 0 (by omega)
  have c1 := cell_bc (heapNew w (.cells (bc l) 58)) 1 (by omega)
  have c2 := cell_bc (heapNew w (.cells (bc l) 58)) 2 (by omega)
  have c3 := cell_bc (heapNew w (.cells (bc l) 58)) 3 (by omega)
  have HB : Hid (Below w.heap.size w (w.alloc (.cells (bc l) 58))) := (Below.refl _ _).alloc (Nat.le_refl _) _
  unfold nm
  generalize (byt l 0).toNat = x0 at *
  generalize (byt l 1).toNat = x1 at *
  generalize (byt l 2).toNat = x2 at *
  generalize (byt l 3).toNat = x3 at *
  generalize bc l = L at *
  go_enter Try.func21, Try.ntmps21
  go_wp2
  go_ret
  exact ⟨ret_int (or4 x0 x1 x2 x3 h0 h1 h2 h3), HB.out⟩
theorem take_two (d held l : List UInt8) (h1 : held.length ≤ d.length) : (held ++ d.drop held.length).take held.length ++ l.take (d.length - held.length) ++ (held ++ d.drop held.length).drop (held.length + (d.length - held.length)) = (held ++ l).take d.length := by
  rw [List.take_left, List.drop_eq_nil_of_le (by rw [List.length_append, List.length_drop]; omega), List.append_nil, List.take_append, List.take_of_length_le h1]
set_option maxHeartbeats 2000000 in
theorem move (w : World) (S : Nat → Prop) (R p s G : Nat) (f : Int) (hv bv : Value) (held l d : List UInt8) (t : TypeId) (hk : RK w R p s hv f) (hg : w.heap[G]? = some (.cells (bc d) t (0, 0))) (hG : ¬ S G) (hR : G ≠ R)
    (hh : RB w hv held) (hb : RN S w bv l) (h1 : held.length ≤ d.length) (h2 : d.length ≤ held.length + l.length) (_h3 : d.length ≤ 65536) (_h4 : l.length ≤ 140737488351232) :
    Calls Try.prog 19 #[.pointer (some ⟨R, 0, none⟩), .slice (some ⟨G, 0, none⟩) d.length d.length, bv] w fun e w' => ∃ bv', e = .returned bv' ∧ RN S w' bv' (l.drop (d.length - held.length)) ∧ w'.heap[G]? = some (.cells (bc ((held ++ l).take d.length)) t (0, 0)) ∧ RK w' R p s (.slice none 0 0) f ∧ Fr (fun k => k ≠ R ∧ k ≠ G) w w' ∧ w'.heap.size = w.heap.size := by
  have hf1 : ∃ a n c, hv = .slice a n c := by obtain ⟨a, c, e, _⟩ := hh; exact ⟨a, _, c, e⟩
  -- the first copy
  have C1 : ∃ W1, (∀ ty, (Builtin.copy_ #[28, 28] ty #[.slice (some ⟨G, 0, none⟩) d.length d.length, hv]).run Try.prog w = .ok (goInt held.length) W1) ∧ W1.heap[G]? = some (.cells (bc (held ++ d.drop held.length)) t (0, 0)) ∧ (∀ k, k ≠ G → W1.heap[k]? = w.heap[k]?) ∧ Fr (fun k => k ≠ R ∧ k ≠ G) w W1 ∧ W1.heap.size = w.heap.size := by
    obtain ⟨ha, hc, rfl, hle, hh'⟩ := hh
    by_cases h0 : held = []
    · subst h0
      refine ⟨w, fun ty => run_copy_none w 28 28 ty 5 _ _ _ _ _ _ Try.underlying28 hs5 (Nat.zero_min _), by simpa using hg, fun _ _ => rfl, Fr.refl _ _, rfl⟩
    · rcases hh' with h | ⟨g, o, rfl, hlt, hcell⟩
      · exact absurd h h0
      refine ⟨_, fun ty => copy_row w ty G 0 d.length d.length g o held.length hc d held t hg (Nat.min_eq_left h1).symm hcell (by omega), ?_, fun k hk => setRow_other _ _ _ _ hk, (Fr.refl _ w).setRow G _ (fun _ h => h.2 rfl), by simp⟩
      rw [heapSetRow _ _ _ _ _ hg]
      simp
  obtain ⟨W1, c1, g1, k1, f1, z1⟩ := C1
  have kR1 : RK W1 R p s hv f := (k1 R hR.symm).trans hk
  -- held is let go
  have kR2 := kR1.set.2.2 (.slice none 0 0)
  have g2 : (W1.setCell ⟨R, 2, none⟩ (.slice none 0 0)).heap[G]? = some (.cells (bc (held ++ d.drop held.length)) t (0, 0)) := by rw [setCell_other hR]; exact g1
  have f2 : Fr (fun k => k ≠ R ∧ k ≠ G) w (W1.setCell ⟨R, 2, none⟩ (.slice none 0 0)) := f1.setCell R 2 _ (fun h => h.1 rfl)
  have z2 : (W1.setCell ⟨R, 2, none⟩ (.slice none 0 0)).heap.size = w.heap.size := by simpa using z1
  have b2 : RN S (W1.setCell ⟨R, 2, none⟩ (.slice none 0 0)) bv l := hb.move (fun _ h => h) (fun g hS hlt hex => by
    obtain ⟨a, n, c, rfl⟩ := hf1
    rw [setCell_other (hk.not_bytes hex), k1 g (fun e => hG (e ▸ hS))])
  have s1c := kR1.c2
  have s1f := kR1.fr 2
  have c0 := hk.c2
  generalize hW2 : W1.setCell ⟨R, 2, none⟩ (.slice none 0 0) = W2 at *
  obtain ⟨m, hm⟩ : ∃ m, d.length - held.length = m := ⟨_, rfl⟩
  have hml : m ≤ l.length := by omega
  -- the second copy
  have C2 : ∃ W3, (∀ ty x, (m ≠ 0 → x = some ⟨G, held.length, none⟩) → (Builtin.copy_ #[28, 28] ty #[.slice x m m, bv]).run Try.prog W2 = .ok (goInt m) W3) ∧ W3.heap[G]? = some (.cells (bc ((held ++ l).take d.length)) t (0, 0)) ∧ (∀ k, k ≠ G → W3.heap[k]? = W2.heap[k]?) ∧ Fr (fun k => k ≠ R ∧ k ≠ G) w W3 ∧ W3.heap.size = w.heap.size := by
    obtain ⟨ba, bcap, rfl, hle, hb'⟩ := b2
    have tt := take_two d held l h1
    rw [hm] at tt
    by_cases h0 : m = 0
    · subst h0
      refine ⟨W2, fun ty x _ => run_copy_none W2 28 28 ty 5 _ _ _ _ _ _ Try.underlying28 hs5 (Nat.min_zero _), ?_, fun _ _ => rfl, f2, z2⟩
      rw [g2]
      have e1 : d.drop held.length = [] := List.drop_eq_nil_of_le (by omega)
      have e2 : (held ++ l).take d.length = held := by rw [show d.length = held.length by omega, List.take_left]
      rw [e1, e2, List.append_nil]
    · rcases hb' with h | ⟨g, o, rfl, hS, hlt, hcell⟩
      · rw [h] at hml; simp at hml; omega
      have hlen : (l.take m).length = m := by rw [List.length_take]; omega
      refine ⟨_, fun ty x hx => ?_, heapSetRow _ _ _ (bc ((held ++ l).take d.length)) _ g2, fun k hk => setRow_other _ _ _ _ hk, f2.setRow G _ (fun _ h => h.2 rfl), by simpa using z2⟩
      rw [hx h0]
      have := copy_row W2 ty G held.length m m g o l.length bcap (held ++ d.drop held.length) (l.take m) t g2 (by rw [hlen]; exact (Nat.min_eq_right hml).symm) (fun i hi => by
        rw [hlen] at hi
        rw [byt_take _ _ _ hi]
        exact hcell i (by omega)) (by rw [hlen]; simp; omega)
      rw [hlen, tt] at this
      exact this
  obtain ⟨W3, c2, g3, k3, f3, z3⟩ := C2
  have kR3 : RK W3 R p s (.slice none 0 0) f := (k3 R hR.symm).trans kR2
  have b3 : RN S W3 bv l := b2.move (fun _ h => h) (fun g hS hlt _ => k3 g (fun e => hG (e ▸ hS)))
  obtain ⟨ba, bcap, rfl, hle, _⟩ := hb
  have HEb : Hid (RN S W3 (.slice ba l.length bcap) l) := b3
  have HE : Hid (RN S W3 (.slice (if bcap = m then ba else ba.map (·.add m)) (l.length - m) (bcap - m)) (l.drop m) ∧ W3.heap[G]? = some (.cells (bc ((held ++ l).take d.length)) t (0, 0)) ∧ RK W3 R p s (.slice none 0 0) f ∧ Fr (fun k => k ≠ R ∧ k ≠ G) w W3 ∧ W3.heap.size = w.heap.size) := ⟨b3.drop hml, g3, kR3, f3, z3⟩
  rw [hm]
  have d1 := c1 3
  have HW2 : Hid (W1.setCell ⟨R, 2, none⟩ (.slice none 0 0) = W2) := hW2
  obtain ⟨ha, hn, hc, rfl⟩ := hf1
  have hnl : hn = held.length := by obtain ⟨_, _, e, _⟩ := hh; simp only [Value.slice.injEq] at e; exact e.2.1
  subst hnl
  rw [← hW2] at c2
  clear hk hg hG hR hh hW2 f1 f2 f3 g1 g2 g3 k1 k3 kR1 kR2 kR3 b2 b3 z1 z2 z3 c1
  generalize d.length = n at *
  generalize held.length = hl at *
  generalize hll : l.length = ll at *
  clear hll
  have e0 : (hl : Int) ≤ (n : Int) := by omega
  by_cases hm0 : n = hl
  · have hm00 : m = 0 := by omega
    subst hm00 hm0
    have d2 := fun x => c2 3 x (fun h => absurd rfl h)
    go_enter Try.func19, Try.ntmps19
    go_wp2
    go_ret
    exact ⟨_, rfl, by rw [List.drop_zero]; exact HEb.out, HE.out.2⟩
  · have d2 := c2 3 (some ⟨G, hl, none⟩) (fun _ => rfl)
    have hmn : n - hl = m := hm
    have HE1 := HE.out.1
    by_cases hcm : bcap = m
    · rw [if_pos hcm, show ll - m = 0 by omega, show bcap - m = 0 by omega] at HE1
      have HE1' : Hid _ := HE1
      clear HE1
      subst hcm
      go_enter Try.func19, Try.ntmps19
      go_wp2
      go_ret
      exact ⟨_, rfl, HE1'.out, HE.out.2⟩
    · rw [if_neg hcm] at HE1
      have HE1' : Hid _ := HE1
      clear HE1
      go_enter Try.func19, Try.ntmps19
      go_wp2
      go_ret
      exact ⟨_, rfl, HE1'.out, HE.out.2⟩
end Go.Proofs.Ytmfeelkjbpjhdaa
