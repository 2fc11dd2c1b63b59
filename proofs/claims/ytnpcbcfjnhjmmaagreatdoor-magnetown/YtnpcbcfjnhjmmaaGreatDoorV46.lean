import Derived.Test.YtnpcbcfjnhjmmaaGreatDoorV45
import Derived.Test.YtnpcbcfjnhjmmaaGreatDoorV38
import Derived.Test.YtnpcbcfjnhjmmaaGreatDoorV01
import Derived.Test.YtnpcbcfjnhjmmaaGreatDoorV07
import Derived.Test.YtnpcbcfjnhjmmaaGreatDoorV41
import Derived.Deep.MidRow
namespace Go.Proofs.YtnpcbcfjnhjmmaaGreatDoor
open Go.Shelf Go.RowKit Go.Deep
namespace Ow
/-- none of these four lists lies in the block -/
def N4 (tr pe on mo : Value) : Nat → Prop := fun b => tr.ownBlock ≠ some b ∧ pe.ownBlock ≠ some b ∧ on.ownBlock ≠ some b ∧ mo.ownBlock ≠ some b
/-- what stands while a link is written over in its place -/
structure AS (w00 w wr : World) (H : Nat) (k k' : Lk) (S : Nat → Prop) (tr pe on mo : Value) : Prop where
  lb : LB wr H k.l k.nm tr pe on mo
  fr : Fr (N4 tr pe on mo) w wr
  be : Below w00.heap.size w00 wr
  rl : RLo S wr k' tr pe on mo
theorem AS.drew {w00 w wr : World} {H : Nat} {k k' : Lk} {S : Nat → Prop} {tr pe on mo : Value} (h : AS w00 w wr H k k' S tr pe on mo) : AS w00 w wr.drew H k k' S tr pe on mo :=
  ⟨h.lb, h.fr.trans (Fr.of_below (belowDrew1 wr)) (fun _ _ x => x), h.be.trans ((belowDrew1 wr).mono h.be.size), h.rl.below (belowDrew1 wr)⟩
theorem frN {w w' : World} {tr pe on mo v : Value} {g : Nat} (f : Fr (fun b => b ≠ g) w w') (hv : v.ownBlock = some g) (hin : v = tr ∨ v = pe ∨ v = on ∨ v = mo) : Fr (N4 tr pe on mo) w w' :=
  f.mono (fun b _ hb e => by
    subst e
    rcases hin with rfl | rfl | rfl | rfl
    · exact hb.1 hv
    · exact hb.2.1 hv
    · exact hb.2.2.1 hv
    · exact hb.2.2.2 hv)
theorem belowSet {w00 w : World} {g : Nat} (h : Below w00.heap.size w00 w) (hg : w00.heap.size ≤ g) (i : Nat) (u : Value) : Below w00.heap.size w00 (w.setCell ⟨g, i, none⟩ u) := h.setCell (by show w00.heap.size ≤ g; exact hg) u
theorem AS.setT {w00 w wr : World} {H : Nat} {k k' : Lk} {S : Nat → Prop} {pe on mo : Value} {g n cap : Nat} (h : AS w00 w wr H k k' S (.slice (some ⟨g, 0, none⟩) n cap) pe on mo) (hS : ∀ b, S b → w00.heap.size ≤ b ∧ b ≠ H) (i : Nat) (y : ByteArray) :
    AS w00 w (wr.setCell ⟨g, i, none⟩ (.string y)) H k { k' with ts := k'.ts.set i y } S (.slice (some ⟨g, 0, none⟩) n cap) pe on mo := by
  have hg := hS g (OwS.form h.rl.o1 |> fun _ => h.rl.o1.2 g rfl)
  refine ⟨h.lb.keep (Below.heap_setCell _ _ _ _ (by show H ≠ g; omega)), h.fr.trans (frN (frSet wr g i _) rfl (.inl rfl)) (fun _ _ x => x), belowSet h.be hg.1 i _, ?_⟩
  exact h.rl.putT ((frSet wr g i _).mono (fun b _ hb e => hb (by rw [e]; rfl))) (RSo.set h.rl.o1 i y) (fun _ hb _ => hb) (At.refl _ _)
theorem AS.setP {w00 w wr : World} {H : Nat} {k k' : Lk} {S : Nat → Prop} {tr on mo : Value} {g n cap : Nat} (h : AS w00 w wr H k k' S tr (.slice (some ⟨g, 0, none⟩) n cap) on mo) (hS : ∀ b, S b → w00.heap.size ≤ b ∧ b ≠ H) (i : Nat) (y : ByteArray) :
    AS w00 w (wr.setCell ⟨g, i, none⟩ (.string y)) H k { k' with ps := k'.ps.set i y } S tr (.slice (some ⟨g, 0, none⟩) n cap) on mo := by
  have hg := hS g (h.rl.o2.2 g rfl)
  refine ⟨h.lb.keep (Below.heap_setCell _ _ _ _ (by show H ≠ g; omega)), h.fr.trans (frN (frSet wr g i _) rfl (.inr (.inl rfl))) (fun _ _ x => x), belowSet h.be hg.1 i _, ?_⟩
  exact h.rl.putP ((frSet wr g i _).mono (fun b _ hb e => hb (by rw [e]; rfl))) (RSo.set h.rl.o2 i y) (fun _ hb _ => hb) (At.refl _ _)
theorem AS.setO {w00 w wr : World} {H : Nat} {k k' : Lk} {S : Nat → Prop} {tr pe mo : Value} {g n cap : Nat} (h : AS w00 w wr H k k' S tr pe (.slice (some ⟨g, 0, none⟩) n cap) mo) (hS : ∀ b, S b → w00.heap.size ≤ b ∧ b ≠ H) (i : Nat) (z : Int) (x : Int × Int) (hx : k'.rs[i]? = some x) :
    AS w00 w (wr.setCell ⟨g, i * 2, none⟩ (.int .i64 z)) H k { k' with rs := k'.rs.set i (z, x.2) } S tr pe (.slice (some ⟨g, 0, none⟩) n cap) mo := by
  have hg := hS g (h.rl.o3.2 g rfl)
  refine ⟨h.lb.keep (Below.heap_setCell _ _ _ _ (by show H ≠ g; omega)), h.fr.trans (frN (frSet wr g (i * 2) _) rfl (.inr (.inr (.inl rfl)))) (fun _ _ x => x), belowSet h.be hg.1 (i * 2) _, ?_⟩
  exact h.rl.putO ((frSet wr g (i * 2) _).mono (fun b _ hb e => hb (by rw [e]; rfl))) (RRo.set h.rl.o3 i z x hx) (fun _ hb _ => hb) (At.refl _ _)
theorem AS.setM {w00 w wr : World} {H : Nat} {k k' : Lk} {S : Nat → Prop} {tr pe on : Value} {g n cap : Nat} (h : AS w00 w wr H k k' S tr pe on (.slice (some ⟨g, 0, none⟩) n cap)) (hS : ∀ b, S b → w00.heap.size ≤ b ∧ b ≠ H) (i : Nat) (hi : i < k'.dn) (y : ByteArray) :
    AS w00 w (wr.setCell ⟨g, i * 6, none⟩ (.string y)) H k { k' with ky := updK k'.ky i y } S tr pe on (.slice (some ⟨g, 0, none⟩) n cap) := by
  have hg := hS g (h.rl.o4.lt rfl).2.1
  refine ⟨h.lb.keep (Below.heap_setCell _ _ _ _ (by show H ≠ g; omega)), h.fr.trans (frN (frSet wr g (i * 6) _) rfl (.inr (.inr (.inr rfl)))) (fun _ _ x => x), belowSet h.be hg.1 (i * 6) _, ?_⟩
  exact h.rl.putM ((frSet wr g (i * 6) _).mono (fun b _ hb e => hb (by rw [e]; rfl))) (fun _ hb _ => hb) (RDo.setKey h.rl.o4 i hi y)
def qq : ByteArray := { data := #[113] }
def B2 : Nat := 2147483647
/-- strings that are short, those ahead of a place longer by one -/
def Sh (n i : Nat) (ts : List ByteArray) : Prop := ts.length = n ∧ ∀ j x, ts[j]? = some x → x.size ≤ B2 + (if j < i then 1 else 0)
theorem Sh.next {n i : Nat} {ts : List ByteArray} {y : ByteArray} (h : Sh n i ts) (hy : ts[i]? = some y) : Sh n (i + 1) (ts.set i (y ++ { data := #[113] })) := by
  refine ⟨by rw [List.length_set]; exact h.1, fun j x hx => ?_⟩
  rw [List.getElem?_set] at hx
  split at hx
  · rename_i e
    subst e
    have hlt := (List.getElem?_eq_some_iff.1 hy).1
    rw [if_pos hlt] at hx
    have e2 := Option.some.inj hx
    have h1 := h.2 i y hy
    rw [if_neg (Nat.lt_irrefl i)] at h1
    rw [if_pos (Nat.lt_succ_self i), ← e2, ByteArray.size_append]
    show y.size + 1 ≤ _
    omega
  · rename_i e
    have h1 := h.2 j x hx
    split at h1
    · rw [if_pos (by omega)]; exact h1
    · rw [if_neg (by omega)]; exact h1
def ShK (n i : Nat) (ky : Nat → ByteArray) : Prop := ∀ j, j < n → (ky j).size ≤ B2 + (if j < i then 1 else 0)
theorem ShK.next {n i : Nat} {ky : Nat → ByteArray} (h : ShK n i ky) : ShK n (i + 1) (updK ky i (ky i ++ { data := #[113] })) := by
  intro j hj
  unfold updK
  have h1 := h j hj
  split
  · rename_i e
    subst e
    rw [if_neg (Nat.lt_irrefl j)] at h1
    rw [if_pos (Nat.lt_succ_self j), ByteArray.size_append]
    show (ky j).size + 1 ≤ _
    omega
  · rename_i e
    split at h1
    · rw [if_pos (by omega)]; exact h1
    · rw [if_neg (by omega)]; exact h1
theorem own_str {w : World} {n g cap : Nat} {ts : List ByteArray} {S : Nat → Prop} (h : RSo S w (.slice (some ⟨g, 0, none⟩) n cap) ts) {i : Nat} {y : ByteArray} (hy : ts[i]? = some y) : w.cell? ⟨g, i, none⟩ = some (.string y) ∧ w.frozen? ⟨g, i, none⟩ = false ∧ n = ts.length := by
  obtain ⟨a, c, e⟩ := OwS.form h
  simp only [Value.slice.injEq] at e
  obtain ⟨_, rfl, _⟩ := e
  have hi := (List.getElem?_eq_some_iff.1 hy).1
  refine ⟨?_, World.ownsRow.frozenAt h.1 i, rfl⟩
  rw [World.ownsRow.cellAt h.1 i (by omega)]
  simp [tsC, hy]
theorem own_slot {S : Nat → Prop} {w : World} {e sz n i : Nat} {v : Value} {xs : List Value} (h : OwS S w e sz v n xs) (hi : i < n) : ∃ g cap, v = .slice (some ⟨g, 0, none⟩) n cap := by
  rcases h.1.2 with ⟨_, h0⟩ | ⟨g, cap, _, e, _⟩
  · omega
  · exact ⟨g, cap, e⟩
theorem own_run {w : World} {n g cap : Nat} {rs : List (Int × Int)} {S : Nat → Prop} (h : RRo S w (.slice (some ⟨g, 0, none⟩) n cap) rs) {i : Nat} {y : Int × Int} (hy : rs[i]? = some y) : w.cell? ⟨g, i * 2, none⟩ = some (.int .i64 y.1) ∧ w.frozen? ⟨g, i * 2, none⟩ = false := by
  obtain ⟨a, c, e⟩ := OwS.form h
  simp only [Value.slice.injEq] at e
  obtain ⟨_, rfl, _⟩ := e
  have hi := (List.getElem?_eq_some_iff.1 hy).1
  exact ⟨by rw [World.ownsRow.cellAt h.1 (i * 2) (by omega)]; exact (rsC_get rs i y hy).1, World.ownsRow.frozenAt h.1 (i * 2)⟩
theorem rowD_at {ky : Nat → ByteArray} {dv : Nat → T} {X Y : Nat → Value} {i : Nat} : ∀ n, i < n → (rowD ky dv X Y n)[i * 6]? = some (.string (ky i))
  | 0, h => absurd h (Nat.not_lt_zero i)
  | n + 1, h => by
    rw [rowD_one]
    rcases Nat.lt_succ_iff_lt_or_eq.1 h with h1 | rfl
    · rw [List.getElem?_append_left (by rw [rowD_len]; omega)]
      exact rowD_at n h1
    · rw [List.getElem?_append_right (by rw [rowD_len]; exact Nat.le_refl _), rowD_len, Nat.sub_self]
      rfl
theorem own_key {w : World} {n g cap : Nat} {ky : Nat → ByteArray} {dv : Nat → T} {S : Nat → Prop} (h : RDo S w n ky dv (.slice (some ⟨g, 0, none⟩) n cap)) {i : Nat} (hi : i < n) : w.cell? ⟨g, i * 6, none⟩ = some (.string (ky i)) ∧ w.frozen? ⟨g, i * 6, none⟩ = false := by
  obtain ⟨X, Y, h1, _⟩ := h
  exact ⟨by rw [World.ownsRow.cellAt h1.1 (i * 6) (by omega)]; exact rowD_at n hi, World.ownsRow.frozenAt h1.1 (i * 6)⟩
theorem i64_wrap (z : Int) : I64 (wrap64 z) := by
  unfold I64 wrap64
  omega
theorem load_link_ifO {ops : Array Oper} {rest : List Oper} {o : Oper} {a : Act} {w : World} {Q : Exit → Act → World → Prop} (hw : Region.wanted o (yielded ops a.tmps) = true) (x : Operand) (ho : o.op = .load 28 x)
    (g : Nat) (hx : a.eval x = .pointer (some ⟨g, 0, none⟩)) {l : List UInt8} {nm : ByteArray} {tr pe on mo : Value} (hg : LB w g l nm tr pe on mo) (hl : l.length = 32)
    (h : wpList Tryz.prog ops Q rest (a.put o.dst (.agg (lkC l nm tr pe on mo))) w) : wpList Tryz.prog ops Q (o :: rest) a w := by
  unfold wpList
  rw [if_pos hw]
  exact .inl (wp_load_row 28 x ho g hx 28 _ (0, 0) _ hg Tryz.underlying28 rfl (infoLk hl) h)
theorem yields_lk {ops : Array Oper} {S : World → Prop} {op : Oper} {a : Act} (hw : Region.wanted op (yielded ops a.tmps) = true) (x : Operand) (ho : op.op = .load 28 x)
    (b : Nat) (hx : a.eval x = .pointer (some ⟨b, 0, none⟩)) {l : List UInt8} {nm : ByteArray} {tr pe on mo : Value} (hl : l.length = 32) (hS : ∀ w, S w → LB w b l nm tr pe on mo) : YieldsIf Tryz.prog ops S op (.agg (lkC l nm tr pe on mo)) a := by
  have h := yieldsIf_load_mid (P := Tryz.prog) (S := S) hw 28 x ho b 0 hx (lkC l nm tr pe on mo).toList _ (fun w hw j v hj => by
    have h9 := hS w hw
    unfold LB at h9
    simp only [World.cell?, h9, Nat.zero_add]
    simpa using hj) Tryz.underlying28 rfl (by rw [Array.length_toList]; exact infoLk hl)
  rwa [Array.toArray_toList] at h
theorem prE_formO (k : Lk) : ∃ s e, prE k = .returned (.tuple #[.string s, .int .i64 e]) := by
  unfold prE
  split
  · exact ⟨_, _, rfl⟩
  · exact ⟨_, _, rfl⟩
theorem Sh.ok {n i : Nat} {ts : List ByteArray} (h : Sh n i ts) : ∀ x ∈ ts, x.size ≤ 140737488351232 := fun x hx => by
  obtain ⟨j, hj, rfl⟩ := List.mem_iff_getElem.1 hx
  have h1 := h.2 j _ (List.getElem?_eq_getElem hj)
  unfold B2 at h1
  split at h1 <;> omega
theorem ShK.ok {n i : Nat} {ky : Nat → ByteArray} (h : ShK n i ky) : ∀ j, j < n → (ky j).size ≤ 140737488351232 := fun j hj => by
  have h1 := h j hj
  unfold B2 at h1
  split at h1 <;> omega
/-- the link that was written over, and its twin -/
structure XS (w00 w u : World) (H G : Nat) (k K : Lk) (tr pe on mo t5 p5 o5 m5 : Value) : Prop where
  lh : LB u H k.l k.nm tr pe on mo
  lg : LB u G k.l k.nm t5 p5 o5 m5
  r1 : RL4 (fun _ => True) u K tr pe on mo
  r2 : RL4 (fun _ => True) u K t5 p5 o5 m5
  fr : Fr (N4 tr pe on mo) w u
  be : Below w00.heap.size w00 u
theorem XS.below {w00 w u u' : World} {H G : Nat} {k K : Lk} {tr pe on mo t5 p5 o5 m5 : Value} (h : XS w00 w u H G k K tr pe on mo t5 p5 o5 m5) (b : Below u.heap.size u u') : XS w00 w u' H G k K tr pe on mo t5 p5 o5 m5 :=
  ⟨h.lh.keep (b.block H h.lh.lt), h.lg.keep (b.block G h.lg.lt), h.r1.move (fun _ x _ => x) b.size (fun q _ hl => b.block q hl), h.r2.move (fun _ x _ => x) b.size (fun q _ hl => b.block q hl), h.fr.trans (Fr.of_below b) (fun _ _ x => x), h.be.trans (b.mono h.be.size)⟩
theorem sum_mem : ∀ (l : List ByteArray) (x : ByteArray), x ∈ l → x.size ≤ (l.map ByteArray.size).sum
  | [], x, h => by cases h
  | a :: l, x, h => by
    rw [List.map_cons, List.sum_cons]
    rcases List.mem_cons.1 h with rfl | h
    · omega
    · have := sum_mem l x h; omega
theorem sumN_le (f : Nat → Nat) : ∀ (n i : Nat), i < n → f i ≤ sumN f n
  | 0, i, h => absurd h (Nat.not_lt_zero i)
  | n + 1, i, h => by
    have e : sumN f (n + 1) = sumN f n + f n := rfl
    rw [e]
    rcases Nat.lt_succ_iff_lt_or_eq.1 h with h | rfl
    · have := sumN_le f n i h; omega
    · omega
theorem few_all {k : Lk} (h : k.few) : (∀ x ∈ k.ts, x.size ≤ B2 + 0) ∧ (∀ x ∈ k.ps, x.size ≤ B2 + 0) ∧ ∀ j, j < k.dn → (k.ky j).size ≤ B2 + 0 := by
  unfold Lk.few at h
  unfold B2
  refine ⟨fun x hx => ?_, fun x hx => ?_, fun j hj => ?_⟩
  · have := sum_mem k.ts x hx; omega
  · have := sum_mem k.ps x hx; omega
  · have h1 := sumN_le (fun i => (k.ky i).size + (k.dv i).s.size) k.dn j hj
    have h2 : (k.ky j).size + (k.dv j).s.size ≤ sumN (fun i => (k.ky i).size + (k.dv i).s.size) k.dn := h1
    omega
set_option maxHeartbeats 4000000 in
set_option maxRecDepth 100000 in
theorem anewT (w00 : World) (S : Nat → Prop) (k : Lk) (tr pe on mo : Value) (w : World) (hk : k.ok) (hsm : k.small) (hfw : k.few) (hi : ∀ x ∈ k.rs, I64 x.1 ∧ I64 x.2) (hr : RLo S w k tr pe on mo) (hbe : Below w00.heap.size w00 w) (hT : ∀ u, Below w00.heap.size w00 u → IT u ∧ BT u) (hS : ∀ b, S b → w00.heap.size ≤ b ∧ b < w.heap.size) :
    Calls Tryz.prog 16 #[.agg (lkC k.l k.nm tr pe on mo)] w fun e w' => e = .returned (.bool true) ∧ Fr (N4 tr pe on mo) w w' ∧ Below w00.heap.size w00 w' := by
  have hl := hk.l
  have b0 : Below w.heap.size w (w.alloc (Obj.cells (lkC k.l k.nm tr pe on mo) 28)) := (Below.refl _ _).alloc (Nat.le_refl _) _
  have A0 : Hid (AS w00 w (w.alloc (Obj.cells (lkC k.l k.nm tr pe on mo) 28)) w.heap.size k k S tr pe on mo) := ⟨heap_new _ _, Fr.of_below b0, hbe.trans (b0.mono hbe.size), hr.below b0⟩
  have HS : Hid (∀ b, S b → w00.heap.size ≤ b ∧ b ≠ w.heap.size) := fun b hb => ⟨(hS b hb).1, by have := (hS b hb).2; omega⟩
  have HT : Hid (∀ u, Below w00.heap.size w00 u → IT u ∧ BT u) := hT
  have HK : Hid (k.ok ∧ k.small ∧ k.few ∧ ∀ x ∈ k.rs, I64 x.1 ∧ I64 x.2) := ⟨hk, hsm, hfw, hi⟩
  have SH : Hid (Sh k.ts.length 0 k.ts ∧ Sh k.ps.length 0 k.ps ∧ ShK k.dn 0 k.ky) := by
    obtain ⟨f1, f2, f3⟩ := few_all hfw
    exact ⟨⟨rfl, fun j x hx => by rw [if_neg (Nat.not_lt_zero j)]; exact f1 x (List.mem_of_getElem? hx)⟩, ⟨rfl, fun j x hx => by rw [if_neg (Nat.not_lt_zero j)]; exact f2 x (List.mem_of_getElem? hx)⟩, fun j hj => by rw [if_neg (Nat.not_lt_zero j)]; exact f3 j hj⟩
  clear hk hsm hfw hi hr hbe hT hS b0
  go_enter Tryz.func16, Tryz.ntmps16
  go_upto_region 1 with fail
  generalize (w.alloc (Obj.cells (lkC k.l k.nm tr pe on mo) 28)) = w0 at *
  generalize w.heap.size = H at *
  obtain ⟨ta, tc, rfl⟩ := A0.out.rl.o1.form
  obtain ⟨pa, pc, rfl⟩ := A0.out.rl.o2.form
  obtain ⟨oa, oc, rfl⟩ := A0.out.rl.o3.form
  obtain ⟨ma, mc, rfl⟩ := A0.out.rl.o4.form
  go_wp2
  go_loopw [3] (fun t wr => ∃ (i : Nat) (xs : List ByteArray), i ≤ k.ts.length ∧ t = .int .i64 (i : Int) ∧ Hid (Sh k.ts.length i xs ∧ AS w00 w wr H k { k with ts := xs } S (.slice ta k.ts.length tc) (.slice pa k.ps.length pc) (.slice oa k.rs.length oc) (.slice ma k.dn mc))) (fun t _ => k.ts.length - (intOf t).toNat)
  case atStart => exact ⟨0, k.ts, Nat.zero_le _, rfl, SH.out.1, A0.out⟩
  case round =>
    clear A0
    obtain ⟨i, xs, hi, rfl, HI⟩ := hrel
    by_cases hlt : i < k.ts.length
    · obtain ⟨y, hy⟩ : ∃ y, xs[i]? = some y := ⟨_, List.getElem?_eq_getElem (by rw [HI.out.1.1]; exact hlt)⟩
      obtain ⟨g, cap, hv⟩ := own_slot HI.out.2.rl.o1 (show i < xs.length by rw [HI.out.1.1]; exact hlt)
      simp only [Value.slice.injEq] at hv
      obtain ⟨rfl, -, rfl⟩ := hv
      have hsz := HI.out.1.2 i y hy
      rw [if_neg (Nat.lt_irrefl i)] at hsz
      unfold B2 at hsz
      have c33 := (HI.out.2.lb.cells hl).2.1
      obtain ⟨d1, d2, -⟩ := own_str HI.out.2.rl.o1 hy
      have HN := Lib.hid (AS.setT HI.out.2.drew HS.out i (y ++ { data := #[113] }))
      have d1w : wr.drew.cell? ⟨g, i, none⟩ = some (.string y) := d1
      have d2w : wr.drew.frozen? ⟨g, i, none⟩ = false := d2
      go_upto_region 4 with fail
      refine wp_region_held_drew (S := fun x => x.cell? ⟨H, 33, none⟩ = some (.slice (some ⟨g, 0, none⟩) k.ts.length tc)) (by kernel_rfl) (c33) (fun hHeld => ?_)
      refine wpAnyH_take (i := 0) (v := .pointer (some ⟨H, 33, none⟩)) rfl (by kernel_rfl) (by kernel_rfl) (by kernel_rfl) (fun _ _ _ h => h) (Or.inl ⟨by rfl, fun w hw => by go_simp⟩) hHeld ?_
      simp only [Act.put, List.getElem_toArray, List.getElem_cons_zero, List.setIfInBounds_toArray, List.set_cons_zero, List.set_cons_succ]
      refine wpAnyH_take (i := 1) (v := (.slice (some ⟨g, 0, none⟩) k.ts.length tc)) rfl (by kernel_rfl) (by kernel_rfl) (by kernel_rfl) (fun _ _ _ h => h) (Or.inl ⟨by rfl, fun w hw => by have s1 := hw; go_simp⟩) hHeld ?_
      simp only [Act.put, List.getElem_toArray, List.getElem_cons_zero, List.getElem_cons_succ, List.setIfInBounds_toArray, List.set_cons_zero, List.set_cons_succ]
      refine wpAnyH_take (i := 2) (v := .int .i64 (i : Int)) rfl (by kernel_rfl) (by kernel_rfl) (by kernel_rfl) (fun _ _ _ h => h) (Or.inl ⟨by rfl, fun w hw => by go_simp⟩) hHeld ?_
      simp only [Act.put, List.getElem_toArray, List.getElem_cons_zero, List.getElem_cons_succ, List.setIfInBounds_toArray, List.set_cons_zero, List.set_cons_succ]
      refine wpAnyH_take (i := 3) (v := .pointer (some ⟨H, 33, none⟩)) rfl (by kernel_rfl) (by kernel_rfl) (by kernel_rfl) (fun _ _ _ h => h) (Or.inl ⟨by rfl, fun w hw => by go_simp⟩) hHeld ?_
      simp only [Act.put, List.getElem_toArray, List.getElem_cons_zero, List.getElem_cons_succ, List.setIfInBounds_toArray, List.set_cons_zero, List.set_cons_succ]
      refine wpAnyH_take (i := 4) (v := (.slice (some ⟨g, 0, none⟩) k.ts.length tc)) rfl (by kernel_rfl) (by kernel_rfl) (by kernel_rfl) (fun _ _ _ h => h) (Or.inl ⟨by rfl, fun w hw => by have s1 := hw; go_simp⟩) hHeld ?_
      simp only [Act.put, List.getElem_toArray, List.getElem_cons_zero, List.getElem_cons_succ, List.setIfInBounds_toArray, List.set_cons_zero, List.set_cons_succ]
      refine wpAnyH_take (i := 5) (v := .int .i64 (i : Int)) rfl (by kernel_rfl) (by kernel_rfl) (by kernel_rfl) (fun _ _ _ h => h) (Or.inl ⟨by rfl, fun w hw => by go_simp⟩) hHeld ?_
      simp only [Act.put, List.getElem_toArray, List.getElem_cons_zero, List.getElem_cons_succ, List.setIfInBounds_toArray, List.set_cons_zero, List.set_cons_succ]
      refine wpAnyH_take (i := 6) (v := .pointer (some ⟨g, i, none⟩)) rfl (by kernel_rfl) (by kernel_rfl) (by kernel_rfl) (fun _ _ _ h => h) (Or.inl ⟨by rfl, fun w hw => by go_simp⟩) hHeld ?_
      simp only [Act.put, List.getElem_toArray, List.getElem_cons_zero, List.getElem_cons_succ, List.setIfInBounds_toArray, List.set_cons_zero, List.set_cons_succ]
      refine wpAnyH_ready (rs := [7]) (by kernel_rfl) (by simp) ?_
      refine AllReadyH.cons (o := _) rfl (fun K hK => ?_) AllReadyH.nil
      go_simp
      refine hK.out _ _ c33 (fun hHeld => ?_)
      clear hK K
      refine wpAnyH_take (i := 8) (v := .string (y ++ { data := #[113] })) rfl (by kernel_rfl) (by kernel_rfl) (by kernel_rfl) (fun _ _ _ h => h) (Or.inl ⟨by rfl, fun w hw => by go_simp; omega⟩) hHeld ?_
      simp only [Act.put, List.getElem_toArray, List.getElem_cons_zero, List.getElem_cons_succ, List.setIfInBounds_toArray, List.set_cons_zero, List.set_cons_succ]
      refine wpAnyH_take (i := 9) (v := .pointer (some ⟨g, i, none⟩)) rfl (by kernel_rfl) (by kernel_rfl) (by kernel_rfl) (fun _ _ _ h => h) (Or.inl ⟨by rfl, fun w hw => by go_simp⟩) hHeld ?_
      simp only [Act.put, List.getElem_toArray, List.getElem_cons_zero, List.getElem_cons_succ, List.setIfInBounds_toArray, List.set_cons_zero, List.set_cons_succ]
      refine wpAnyH_ready (rs := [10]) (by kernel_rfl) (by simp) ?_
      refine AllReadyH.cons (o := _) rfl (fun K hK => ?_) AllReadyH.nil
      go_simp
      refine hK.out _ _ (by have := (HN.out.lb.cells hl).2.1; exact this) (fun hHeld => ?_)
      clear hK K
      refine wpAnyH_done (by kernel_rfl) ?_ _
      clear hHeld
      have HM : Hid (Sh k.ts.length (i + 1) (xs.set i (y ++ { data := #[113] })) ∧ AS w00 w _ H k { k with ts := xs.set i (y ++ { data := #[113] }) } S (.slice (some ⟨g, 0, none⟩) k.ts.length tc) (.slice pa k.ps.length pc) (.slice oa k.rs.length oc) (.slice ma k.dn mc)) := ⟨HI.out.1.next hy, HN.out⟩
      clear HI HN c33 d1 d2 d1w d2w hsz
      have hsm9 := HK.out.2.1.ts
      go_wp2
      exact ⟨⟨i + 1, _, by omega, by go_num, HM⟩, by simp [intOf]; omega⟩
    · have A1 := Lib.hid HI.out.2
      have S1 := Lib.hid HI.out.1
      have e9 : i = k.ts.length := by omega
      subst e9
      clear HI hi hlt
      generalize xs = xs1 at *
      have c9 := (A1.out.lb.cells hl).2.1
      go_wp2
      clear c9
      go_loopw [4] (fun t wr => ∃ (i : Nat) (xs : List ByteArray), i ≤ k.ps.length ∧ t = .int .i64 (i : Int) ∧ Hid (Sh k.ps.length i xs ∧ AS w00 w wr H k { { k with ts := xs1 } with ps := xs } S (.slice ta k.ts.length tc) (.slice pa k.ps.length pc) (.slice oa k.rs.length oc) (.slice ma k.dn mc))) (fun t _ => k.ps.length - (intOf t).toNat)
      case atStart => exact ⟨0, k.ps, Nat.zero_le _, rfl, SH.out.2.1, A1.out⟩
      case round =>
        clear A1
        obtain ⟨i, xs, hi, rfl, HI⟩ := hrel
        by_cases hlt : i < k.ps.length
        · obtain ⟨y, hy⟩ : ∃ y, xs[i]? = some y := ⟨_, List.getElem?_eq_getElem (by rw [HI.out.1.1]; exact hlt)⟩
          obtain ⟨g, cap, hv⟩ := own_slot HI.out.2.rl.o2 (show i < xs.length by rw [HI.out.1.1]; exact hlt)
          simp only [Value.slice.injEq] at hv
          obtain ⟨rfl, -, rfl⟩ := hv
          have hsz := HI.out.1.2 i y hy
          rw [if_neg (Nat.lt_irrefl i)] at hsz
          unfold B2 at hsz
          have c33 := (HI.out.2.lb.cells hl).2.2.1
          obtain ⟨d1, d2, -⟩ := own_str HI.out.2.rl.o2 hy
          have HN := Lib.hid (AS.setP HI.out.2.drew HS.out i (y ++ { data := #[113] }))
          have d1w : wr.drew.cell? ⟨g, i, none⟩ = some (.string y) := d1
          have d2w : wr.drew.frozen? ⟨g, i, none⟩ = false := d2
          go_upto_region 8 with fail
          refine wp_region_held_drew (S := fun x => x.cell? ⟨H, 34, none⟩ = some (.slice (some ⟨g, 0, none⟩) k.ps.length pc)) (by kernel_rfl) (c33) (fun hHeld => ?_)
          refine wpAnyH_take (i := 0) (v := .pointer (some ⟨H, 34, none⟩)) rfl (by kernel_rfl) (by kernel_rfl) (by kernel_rfl) (fun _ _ _ h => h) (Or.inl ⟨by rfl, fun w hw => by go_simp⟩) hHeld ?_
          simp only [Act.put, List.getElem_toArray, List.getElem_cons_zero, List.setIfInBounds_toArray, List.set_cons_zero, List.set_cons_succ]
          refine wpAnyH_take (i := 1) (v := (.slice (some ⟨g, 0, none⟩) k.ps.length pc)) rfl (by kernel_rfl) (by kernel_rfl) (by kernel_rfl) (fun _ _ _ h => h) (Or.inl ⟨by rfl, fun w hw => by have s1 := hw; go_simp⟩) hHeld ?_
          simp only [Act.put, List.getElem_toArray, List.getElem_cons_zero, List.getElem_cons_succ, List.setIfInBounds_toArray, List.set_cons_zero, List.set_cons_succ]
          refine wpAnyH_take (i := 2) (v := .int .i64 (i : Int)) rfl (by kernel_rfl) (by kernel_rfl) (by kernel_rfl) (fun _ _ _ h => h) (Or.inl ⟨by rfl, fun w hw => by go_simp⟩) hHeld ?_
          simp only [Act.put, List.getElem_toArray, List.getElem_cons_zero, List.getElem_cons_succ, List.setIfInBounds_toArray, List.set_cons_zero, List.set_cons_succ]
          refine wpAnyH_take (i := 3) (v := .pointer (some ⟨H, 34, none⟩)) rfl (by kernel_rfl) (by kernel_rfl) (by kernel_rfl) (fun _ _ _ h => h) (Or.inl ⟨by rfl, fun w hw => by go_simp⟩) hHeld ?_
          simp only [Act.put, List.getElem_toArray, List.getElem_cons_zero, List.getElem_cons_succ, List.setIfInBounds_toArray, List.set_cons_zero, List.set_cons_succ]
          refine wpAnyH_take (i := 4) (v := (.slice (some ⟨g, 0, none⟩) k.ps.length pc)) rfl (by kernel_rfl) (by kernel_rfl) (by kernel_rfl) (fun _ _ _ h => h) (Or.inl ⟨by rfl, fun w hw => by have s1 := hw; go_simp⟩) hHeld ?_
          simp only [Act.put, List.getElem_toArray, List.getElem_cons_zero, List.getElem_cons_succ, List.setIfInBounds_toArray, List.set_cons_zero, List.set_cons_succ]
          refine wpAnyH_take (i := 5) (v := .int .i64 (i : Int)) rfl (by kernel_rfl) (by kernel_rfl) (by kernel_rfl) (fun _ _ _ h => h) (Or.inl ⟨by rfl, fun w hw => by go_simp⟩) hHeld ?_
          simp only [Act.put, List.getElem_toArray, List.getElem_cons_zero, List.getElem_cons_succ, List.setIfInBounds_toArray, List.set_cons_zero, List.set_cons_succ]
          refine wpAnyH_take (i := 6) (v := .pointer (some ⟨g, i, none⟩)) rfl (by kernel_rfl) (by kernel_rfl) (by kernel_rfl) (fun _ _ _ h => h) (Or.inl ⟨by rfl, fun w hw => by go_simp⟩) hHeld ?_
          simp only [Act.put, List.getElem_toArray, List.getElem_cons_zero, List.getElem_cons_succ, List.setIfInBounds_toArray, List.set_cons_zero, List.set_cons_succ]
          refine wpAnyH_ready (rs := [7]) (by kernel_rfl) (by simp) ?_
          refine AllReadyH.cons (o := _) rfl (fun K hK => ?_) AllReadyH.nil
          go_simp
          refine hK.out _ _ c33 (fun hHeld => ?_)
          clear hK K
          refine wpAnyH_take (i := 8) (v := .string (y ++ { data := #[113] })) rfl (by kernel_rfl) (by kernel_rfl) (by kernel_rfl) (fun _ _ _ h => h) (Or.inl ⟨by rfl, fun w hw => by go_simp; omega⟩) hHeld ?_
          simp only [Act.put, List.getElem_toArray, List.getElem_cons_zero, List.getElem_cons_succ, List.setIfInBounds_toArray, List.set_cons_zero, List.set_cons_succ]
          refine wpAnyH_take (i := 9) (v := .pointer (some ⟨g, i, none⟩)) rfl (by kernel_rfl) (by kernel_rfl) (by kernel_rfl) (fun _ _ _ h => h) (Or.inl ⟨by rfl, fun w hw => by go_simp⟩) hHeld ?_
          simp only [Act.put, List.getElem_toArray, List.getElem_cons_zero, List.getElem_cons_succ, List.setIfInBounds_toArray, List.set_cons_zero, List.set_cons_succ]
          refine wpAnyH_ready (rs := [10]) (by kernel_rfl) (by simp) ?_
          refine AllReadyH.cons (o := _) rfl (fun K hK => ?_) AllReadyH.nil
          go_simp
          refine hK.out _ _ (by have := (HN.out.lb.cells hl).2.2.1; exact this) (fun hHeld => ?_)
          clear hK K
          refine wpAnyH_done (by kernel_rfl) ?_ _
          clear hHeld
          have HM : Hid (Sh k.ps.length (i + 1) (xs.set i (y ++ { data := #[113] })) ∧ AS w00 w _ H k { { k with ts := xs1 } with ps := xs.set i (y ++ { data := #[113] }) } S (.slice ta k.ts.length tc) (.slice (some ⟨g, 0, none⟩) k.ps.length pc) (.slice oa k.rs.length oc) (.slice ma k.dn mc)) := ⟨HI.out.1.next hy, HN.out⟩
          clear HI HN c33 d1 d2 d1w d2w hsz
          have hsm9 := HK.out.2.1.ps
          go_wp2
          exact ⟨⟨i + 1, _, by omega, by go_num, HM⟩, by simp [intOf]; omega⟩
        · have A2 := Lib.hid HI.out.2
          have S2 := Lib.hid HI.out.1
          have e9 : i = k.ps.length := by omega
          subst e9
          clear HI hi hlt
          generalize xs = xs2 at *
          have c9 := (A2.out.lb.cells hl).2.2.1
          go_wp2
          clear c9
          go_loopw [5] (fun t wr => ∃ (i : Nat) (xs : List (Int × Int)), i ≤ k.rs.length ∧ t = .int .i64 (i : Int) ∧ Hid (xs.length = k.rs.length ∧ (∀ x ∈ xs, I64 x.1 ∧ I64 x.2) ∧ AS w00 w wr H k { { k with ts := xs1, ps := xs2 } with rs := xs } S (.slice ta k.ts.length tc) (.slice pa k.ps.length pc) (.slice oa k.rs.length oc) (.slice ma k.dn mc))) (fun t _ => k.rs.length - (intOf t).toNat)
          case atStart => exact ⟨0, k.rs, Nat.zero_le _, rfl, rfl, HK.out.2.2.2, A2.out⟩
          case round =>
            clear A2
            obtain ⟨i, xs, hi, rfl, HI⟩ := hrel
            by_cases hlt : i < k.rs.length
            · obtain ⟨y, hy⟩ : ∃ y, xs[i]? = some y := ⟨_, List.getElem?_eq_getElem (by rw [HI.out.1]; exact hlt)⟩
              obtain ⟨g, cap, hv⟩ := own_slot HI.out.2.2.rl.o3 (show i < xs.length by rw [HI.out.1]; exact hlt)
              simp only [Value.slice.injEq] at hv
              obtain ⟨rfl, -, rfl⟩ := hv
              have c35 := (HI.out.2.2.lb.cells hl).2.2.2.1
              obtain ⟨d1, d2⟩ := own_run HI.out.2.2.rl.o3 hy
              have HN := Lib.hid (AS.setO HI.out.2.2 HS.out i (wrap64 (y.1 + 1)) y hy)
              have hsm9 := HK.out.2.1.rs
              obtain ⟨y1, y2⟩ := y
              simp only at d1 HN
              have HM : Hid (∀ x ∈ xs.set i (wrap64 (y1 + 1), y2), I64 x.1 ∧ I64 x.2) := fun x hx => by
                rcases List.mem_or_eq_of_mem_set hx with h | rfl
                · exact HI.out.2.1 x h
                · exact ⟨i64_wrap _, (HI.out.2.1 _ (List.mem_of_getElem? hy)).2⟩
              have HL9 : Hid ((xs.set i (wrap64 (y1 + 1), y2)).length = k.rs.length) := by
                have h9 : (xs.set i (wrap64 (y1 + 1), y2)).length = k.rs.length := by rw [List.length_set]; exact HI.out.1
                exact h9
              clear HI hy
              go_upto_region 11 with fail
              have HM2 : Hid ((xs.set i (wrap64 (y1 + 1), y2)).length = k.rs.length ∧ (∀ x ∈ xs.set i (wrap64 (y1 + 1), y2), I64 x.1 ∧ I64 x.2) ∧ AS w00 w _ H k { { k with ts := xs1, ps := xs2 } with rs := xs.set i (wrap64 (y1 + 1), y2) } S (.slice ta k.ts.length tc) (.slice pa k.ps.length pc) (.slice (some ⟨g, 0, none⟩) k.rs.length oc) (.slice ma k.dn mc)) := ⟨HL9.out, HM.out, HN.out⟩
              clear HN HM HL9 c35 d1 d2
              go_wp2
              exact ⟨⟨i + 1, _, by omega, by go_num, HM2⟩, by simp [intOf]; omega⟩
            · have A3 := Lib.hid HI.out.2.2
              have S3 := Lib.hid (And.intro HI.out.1 HI.out.2.1)
              have e9 : i = k.rs.length := by omega
              subst e9
              clear HI hi hlt
              generalize xs = xs3 at *
              have c9 := (A3.out.lb.cells hl).2.2.2.1
              go_wp2
              clear c9
              go_loopw [6] (fun t wr => ∃ (i : Nat) (ky : Nat → ByteArray), i ≤ k.dn ∧ t = .int .i64 (i : Int) ∧ Hid (ShK k.dn i ky ∧ AS w00 w wr H k { { k with ts := xs1, ps := xs2, rs := xs3 } with ky := ky } S (.slice ta k.ts.length tc) (.slice pa k.ps.length pc) (.slice oa k.rs.length oc) (.slice ma k.dn mc))) (fun t _ => k.dn - (intOf t).toNat)
              case atStart => exact ⟨0, k.ky, Nat.zero_le _, rfl, SH.out.2.2, A3.out⟩
              case round =>
                clear A3
                obtain ⟨i, ky, hi, rfl, HI⟩ := hrel
                by_cases hlt : i < k.dn
                · obtain ⟨g, cap, hv⟩ : ∃ g cap, Value.slice ma k.dn mc = .slice (some ⟨g, 0, none⟩) k.dn cap := by
                    obtain ⟨X, Y, h1, _⟩ := HI.out.2.rl.o4
                    exact own_slot h1 hlt
                  simp only [Value.slice.injEq] at hv
                  obtain ⟨rfl, -, rfl⟩ := hv
                  have hsz := HI.out.1 i hlt
                  rw [if_neg (Nat.lt_irrefl i)] at hsz
                  unfold B2 at hsz
                  have c36 := (HI.out.2.lb.cells hl).2.2.2.2
                  obtain ⟨d1, d2⟩ := own_key HI.out.2.rl.o4 hlt
                  have HN := Lib.hid (AS.setM HI.out.2.drew HS.out i hlt (ky i ++ { data := #[113] }))
                  have d1w : wr.drew.cell? ⟨g, i * 6, none⟩ = some (.string (ky i)) := d1
                  have d2w : wr.drew.frozen? ⟨g, i * 6, none⟩ = false := d2
                  have hsm9 := HK.out.2.1.dn.1
                  go_upto_region 16 with fail
                  refine wp_region_held_drew (S := fun x => x.cell? ⟨H, 36, none⟩ = some (.slice (some ⟨g, 0, none⟩) k.dn mc)) (by kernel_rfl) (c36) (fun hHeld => ?_)
                  refine wpAnyH_take (i := 0) (v := .pointer (some ⟨H, 36, none⟩)) rfl (by kernel_rfl) (by kernel_rfl) (by kernel_rfl) (fun _ _ _ h => h) (Or.inl ⟨by rfl, fun w hw => by go_simp⟩) hHeld ?_
                  simp only [Act.put, List.getElem_toArray, List.getElem_cons_zero, List.setIfInBounds_toArray, List.set_cons_zero, List.set_cons_succ]
                  refine wpAnyH_take (i := 1) (v := (.slice (some ⟨g, 0, none⟩) k.dn mc)) rfl (by kernel_rfl) (by kernel_rfl) (by kernel_rfl) (fun _ _ _ h => h) (Or.inl ⟨by rfl, fun w hw => by have s1 := hw; go_simp⟩) hHeld ?_
                  simp only [Act.put, List.getElem_toArray, List.getElem_cons_zero, List.getElem_cons_succ, List.setIfInBounds_toArray, List.set_cons_zero, List.set_cons_succ]
                  refine wpAnyH_take (i := 2) (v := .int .i64 (i : Int)) rfl (by kernel_rfl) (by kernel_rfl) (by kernel_rfl) (fun _ _ _ h => h) (Or.inl ⟨by rfl, fun w hw => by go_simp⟩) hHeld ?_
                  simp only [Act.put, List.getElem_toArray, List.getElem_cons_zero, List.getElem_cons_succ, List.setIfInBounds_toArray, List.set_cons_zero, List.set_cons_succ]
                  refine wpAnyH_take (i := 3) (v := .pointer (some ⟨H, 36, none⟩)) rfl (by kernel_rfl) (by kernel_rfl) (by kernel_rfl) (fun _ _ _ h => h) (Or.inl ⟨by rfl, fun w hw => by go_simp⟩) hHeld ?_
                  simp only [Act.put, List.getElem_toArray, List.getElem_cons_zero, List.getElem_cons_succ, List.setIfInBounds_toArray, List.set_cons_zero, List.set_cons_succ]
                  refine wpAnyH_take (i := 4) (v := (.slice (some ⟨g, 0, none⟩) k.dn mc)) rfl (by kernel_rfl) (by kernel_rfl) (by kernel_rfl) (fun _ _ _ h => h) (Or.inl ⟨by rfl, fun w hw => by have s1 := hw; go_simp⟩) hHeld ?_
                  simp only [Act.put, List.getElem_toArray, List.getElem_cons_zero, List.getElem_cons_succ, List.setIfInBounds_toArray, List.set_cons_zero, List.set_cons_succ]
                  refine wpAnyH_take (i := 5) (v := .int .i64 (i : Int)) rfl (by kernel_rfl) (by kernel_rfl) (by kernel_rfl) (fun _ _ _ h => h) (Or.inl ⟨by rfl, fun w hw => by go_simp⟩) hHeld ?_
                  simp only [Act.put, List.getElem_toArray, List.getElem_cons_zero, List.getElem_cons_succ, List.setIfInBounds_toArray, List.set_cons_zero, List.set_cons_succ]
                  refine wpAnyH_take (i := 6) (v := .pointer (some ⟨g, i * 6, none⟩)) rfl (by kernel_rfl) (by kernel_rfl) (by kernel_rfl) (fun _ _ _ h => h) (Or.inl ⟨by rfl, fun w hw => by go_simp⟩) hHeld ?_
                  simp only [Act.put, List.getElem_toArray, List.getElem_cons_zero, List.getElem_cons_succ, List.setIfInBounds_toArray, List.set_cons_zero, List.set_cons_succ]
                  refine wpAnyH_take (i := 7) (v := .pointer (some ⟨g, i * 6, none⟩)) rfl (by kernel_rfl) (by kernel_rfl) (by kernel_rfl) (fun _ _ _ h => h) (Or.inl ⟨by rfl, fun w hw => by go_simp⟩) hHeld ?_
                  simp only [Act.put, List.getElem_toArray, List.getElem_cons_zero, List.getElem_cons_succ, List.setIfInBounds_toArray, List.set_cons_zero, List.set_cons_succ]
                  refine wpAnyH_ready (rs := [8]) (by kernel_rfl) (by simp) ?_
                  refine AllReadyH.cons (o := _) rfl (fun K hK => ?_) AllReadyH.nil
                  go_simp
                  refine hK.out _ _ c36 (fun hHeld => ?_)
                  clear hK K
                  refine wpAnyH_take (i := 9) (v := .string (ky i ++ { data := #[113] })) rfl (by kernel_rfl) (by kernel_rfl) (by kernel_rfl) (fun _ _ _ h => h) (Or.inl ⟨by rfl, fun w hw => by go_simp; omega⟩) hHeld ?_
                  simp only [Act.put, List.getElem_toArray, List.getElem_cons_zero, List.getElem_cons_succ, List.setIfInBounds_toArray, List.set_cons_zero, List.set_cons_succ]
                  refine wpAnyH_take (i := 10) (v := .pointer (some ⟨g, i * 6, none⟩)) rfl (by kernel_rfl) (by kernel_rfl) (by kernel_rfl) (fun _ _ _ h => h) (Or.inl ⟨by rfl, fun w hw => by go_simp⟩) hHeld ?_
                  simp only [Act.put, List.getElem_toArray, List.getElem_cons_zero, List.getElem_cons_succ, List.setIfInBounds_toArray, List.set_cons_zero, List.set_cons_succ]
                  refine wpAnyH_take (i := 11) (v := .pointer (some ⟨g, i * 6, none⟩)) rfl (by kernel_rfl) (by kernel_rfl) (by kernel_rfl) (fun _ _ _ h => h) (Or.inl ⟨by rfl, fun w hw => by go_simp⟩) hHeld ?_
                  simp only [Act.put, List.getElem_toArray, List.getElem_cons_zero, List.getElem_cons_succ, List.setIfInBounds_toArray, List.set_cons_zero, List.set_cons_succ]
                  refine wpAnyH_ready (rs := [12]) (by kernel_rfl) (by simp) ?_
                  refine AllReadyH.cons (o := _) rfl (fun K hK => ?_) AllReadyH.nil
                  go_simp
                  refine hK.out _ _ (by have := (HN.out.lb.cells hl).2.2.2.2; exact this) (fun hHeld => ?_)
                  clear hK K
                  refine wpAnyH_done (by kernel_rfl) ?_ _
                  clear hHeld
                  have HM : Hid (ShK k.dn (i + 1) (updK ky i (ky i ++ { data := #[113] })) ∧ AS w00 w _ H k { { k with ts := xs1, ps := xs2, rs := xs3 } with ky := updK ky i (ky i ++ { data := #[113] }) } S (.slice ta k.ts.length tc) (.slice pa k.ps.length pc) (.slice oa k.rs.length oc) (.slice (some ⟨g, 0, none⟩) k.dn mc)) := ⟨HI.out.1.next, HN.out⟩
                  clear HI HN c36 d1 d2 d1w d2w hsz
                  go_wp2
                  exact ⟨⟨i + 1, _, by omega, by go_num, HM⟩, by simp [intOf]; omega⟩
                · have A4 := Lib.hid HI.out.2
                  have S4 := Lib.hid HI.out.1
                  have e9 : i = k.dn := by omega
                  subst e9
                  clear HI hi hlt
                  generalize ky = ky4 at *
                  have c9 := (A4.out.lb.cells hl).2.2.2.2
                  obtain ⟨ok4, sm4, i4⟩ : { k with ts := xs1, ps := xs2, rs := xs3, ky := ky4 }.ok ∧ { k with ts := xs1, ps := xs2, rs := xs3, ky := ky4 }.small ∧ ∀ x ∈ ({ k with ts := xs1, ps := xs2, rs := xs3, ky := ky4 } : Lk).rs, I64 x.1 ∧ I64 x.2 := by
                    obtain ⟨k1, k2, _, _⟩ := HK.out
                    refine ⟨⟨k1.l, k1.nm, ⟨by show xs1.length ≤ _; rw [S1.out.1]; exact k1.ts.1, S1.out.ok⟩, ⟨by show xs2.length ≤ _; rw [S2.out.1]; exact k1.ps.1, S2.out.ok⟩, by show xs3.length ≤ _; rw [S3.out.1]; exact k1.rs, k1.dn.1, fun i hi => ⟨S4.out.ok i hi, (k1.dn.2 i hi).2⟩⟩, ⟨by show xs1.length ≤ _; rw [S1.out.1]; exact k2.ts, by show xs2.length ≤ _; rw [S2.out.1]; exact k2.ps, by show xs3.length ≤ _; rw [S3.out.1]; exact k2.rs, k2.dn⟩, S3.out.2⟩
                  have L1 := S1.out.1
                  have L2 := S2.out.1
                  have L3 := S3.out.1
                  clear S1 S2 S3 S4 SH HK HS
                  have HTW := Lib.hid (linkTwinO { k with ts := xs1, ps := xs2, rs := xs3, ky := ky4 } _ _ _ _ wr ok4 sm4 A4.out.rl.rl)
                  go_wp2_with (first | (refine load_link_ifO rfl _ rfl H rfl A4.out.lb hl ?_))
                  refine HTW.out.mono ?_
                  rintro e w5 ⟨t5, p5, o5, m5, rfl, r5, b5⟩
                  obtain ⟨ta5, tc5, rfl⟩ : ∃ a c, t5 = .slice a k.ts.length c := by obtain ⟨a, c, h⟩ := OwS.form r5.o1; exact ⟨a, c, by rw [h]; show Value.slice a xs1.length c = _; rw [L1]⟩
                  obtain ⟨pa5, pc5, rfl⟩ : ∃ a c, p5 = .slice a k.ps.length c := by obtain ⟨a, c, h⟩ := OwS.form r5.o2; exact ⟨a, c, by rw [h]; show Value.slice a xs2.length c = _; rw [L2]⟩
                  obtain ⟨oa5, oc5, rfl⟩ : ∃ a c, o5 = .slice a k.rs.length c := by obtain ⟨a, c, h⟩ := OwS.form r5.o3; exact ⟨a, c, by rw [h]; show Value.slice a xs3.length c = _; rw [L3]⟩
                  obtain ⟨ma5, mc5, rfl⟩ := r5.o4.form
                  have hZ : LB (w5.alloc (Obj.cells #[.int .u8 0, .int .u8 0, .int .u8 0, .int .u8 0, .int .u8 0, .int .u8 0, .int .u8 0, .int .u8 0, .int .u8 0, .int .u8 0, .int .u8 0, .int .u8 0, .int .u8 0, .int .u8 0, .int .u8 0, .int .u8 0, .int .u8 0, .int .u8 0, .int .u8 0, .int .u8 0, .int .u8 0, .int .u8 0, .int .u8 0, .int .u8 0, .int .u8 0, .int .u8 0, .int .u8 0, .int .u8 0, .int .u8 0, .int .u8 0, .int .u8 0, .int .u8 0, .string { data := #[] }, .slice .none 0 0, .slice .none 0 0, .slice .none 0 0, .slice .none 0 0] 28)) w5.heap.size (List.replicate 32 (0 : UInt8)) ⟨#[]⟩ (.slice none 0 0) (.slice none 0 0) (.slice none 0 0) (.slice none 0 0) := heap_new _ _
                  have XX : Hid (XS w00 w ((w5.alloc (Obj.cells #[.int .u8 0, .int .u8 0, .int .u8 0, .int .u8 0, .int .u8 0, .int .u8 0, .int .u8 0, .int .u8 0, .int .u8 0, .int .u8 0, .int .u8 0, .int .u8 0, .int .u8 0, .int .u8 0, .int .u8 0, .int .u8 0, .int .u8 0, .int .u8 0, .int .u8 0, .int .u8 0, .int .u8 0, .int .u8 0, .int .u8 0, .int .u8 0, .int .u8 0, .int .u8 0, .int .u8 0, .int .u8 0, .int .u8 0, .int .u8 0, .int .u8 0, .int .u8 0, .string { data := #[] }, .slice .none 0 0, .slice .none 0 0, .slice .none 0 0, .slice .none 0 0] 28)).setRow w5.heap.size (lkC k.l k.nm (.slice ta5 k.ts.length tc5) (.slice pa5 k.ps.length pc5) (.slice oa5 k.rs.length oc5) (.slice ma5 k.dn mc5))) H w5.heap.size k { k with ts := xs1, ps := xs2, rs := xs3, ky := ky4 } (.slice ta k.ts.length tc) (.slice pa k.ps.length pc) (.slice oa k.rs.length oc) (.slice ma k.dn mc) (.slice ta5 k.ts.length tc5) (.slice pa5 k.ps.length pc5) (.slice oa5 k.rs.length oc5) (.slice ma5 k.dn mc5)) := by
                    have BB : Below w5.heap.size w5 ((w5.alloc (Obj.cells #[.int .u8 0, .int .u8 0, .int .u8 0, .int .u8 0, .int .u8 0, .int .u8 0, .int .u8 0, .int .u8 0, .int .u8 0, .int .u8 0, .int .u8 0, .int .u8 0, .int .u8 0, .int .u8 0, .int .u8 0, .int .u8 0, .int .u8 0, .int .u8 0, .int .u8 0, .int .u8 0, .int .u8 0, .int .u8 0, .int .u8 0, .int .u8 0, .int .u8 0, .int .u8 0, .int .u8 0, .int .u8 0, .int .u8 0, .int .u8 0, .int .u8 0, .int .u8 0, .string { data := #[] }, .slice .none 0 0, .slice .none 0 0, .slice .none 0 0, .slice .none 0 0] 28)).setRow w5.heap.size (lkC k.l k.nm (.slice ta5 k.ts.length tc5) (.slice pa5 k.ps.length pc5) (.slice oa5 k.rs.length oc5) (.slice ma5 k.dn mc5))) := below_setRow ((Below.refl _ _).alloc (Nat.le_refl _) _) (Nat.le_refl _) _
                    have BC := b5.trans (BB.mono b5.size)
                    exact ⟨A4.out.lb.keep (BC.block H A4.out.lb.lt), setRow_heap _ _ _ _ _ _ hZ, A4.out.rl.rl.move (fun _ x _ => x) BC.size (fun q _ hq => BC.block q hq), r5.rl.move (fun _ x _ => x) BB.size (fun q _ hq => BB.block q hq), A4.out.fr.trans (Fr.of_below BC) (fun _ _ x => x), A4.out.be.trans (BC.mono A4.out.be.size)⟩
                  clear r5 b5 A4 HTW c9
                  go_upto_region 18 with (refine wpList_store_row rfl 28 _ _ rfl w5.heap.size (lkC k.l k.nm (.slice ta5 k.ts.length tc5) (.slice pa5 k.ps.length pc5) (.slice oa5 k.rs.length oc5) (.slice ma5 k.dn mc5)) rfl rfl 28 _ hZ (infoLk hl) (by rw [lkC_size hl, lkC_size (by simp)]) lkC_one ?_)
                  clear hZ
                  generalize ((w5.alloc (Obj.cells #[.int .u8 0, .int .u8 0, .int .u8 0, .int .u8 0, .int .u8 0, .int .u8 0, .int .u8 0, .int .u8 0, .int .u8 0, .int .u8 0, .int .u8 0, .int .u8 0, .int .u8 0, .int .u8 0, .int .u8 0, .int .u8 0, .int .u8 0, .int .u8 0, .int .u8 0, .int .u8 0, .int .u8 0, .int .u8 0, .int .u8 0, .int .u8 0, .int .u8 0, .int .u8 0, .int .u8 0, .int .u8 0, .int .u8 0, .int .u8 0, .int .u8 0, .int .u8 0, .string { data := #[] }, .slice .none 0 0, .slice .none 0 0, .slice .none 0 0, .slice .none 0 0] 28)).setRow w5.heap.size (lkC k.l k.nm (.slice ta5 k.ts.length tc5) (.slice pa5 k.ps.length pc5) (.slice oa5 k.rs.length oc5) (.slice ma5 k.dn mc5))) = u0 at *
                  generalize w5.heap.size = G at *
                  obtain ⟨s0, e0, hpe⟩ := prE_formO { k with ts := xs1, ps := xs2, rs := xs3, ky := ky4 }
                  have tb := HT.out u0 XX.out.be
                  have HP := Lib.hid (print10 { k with ts := xs1, ps := xs2, rs := xs3, ky := ky4 } (.slice ta k.ts.length tc) (.slice pa k.ps.length pc) (.slice oa k.rs.length oc) (.slice ma k.dn mc) u0 ok4 sm4 i4 tb.1 tb.2 XX.out.r1)
                  rw [hpe] at HP
                  clear tb
                  go_wp2_with (first | (refine load_link_ifO rfl _ rfl H rfl XX.out.lh hl ?_))
                  refine HP.out.mono ?_
                  rintro e u1 ⟨rfl, b1⟩
                  replace XX : Hid (XS w00 w u1 H G k { k with ts := xs1, ps := xs2, rs := xs3, ky := ky4 } (.slice ta k.ts.length tc) (.slice pa k.ps.length pc) (.slice oa k.rs.length oc) (.slice ma k.dn mc) (.slice ta5 k.ts.length tc5) (.slice pa5 k.ps.length pc5) (.slice oa5 k.rs.length oc5) (.slice ma5 k.dn mc5)) := XX.out.below b1
                  clear b1 HP
                  have tb := HT.out u1 XX.out.be
                  have HP := Lib.hid (print10 { k with ts := xs1, ps := xs2, rs := xs3, ky := ky4 } (.slice ta5 k.ts.length tc5) (.slice pa5 k.ps.length pc5) (.slice oa5 k.rs.length oc5) (.slice ma5 k.dn mc5) u1 ok4 sm4 i4 tb.1 tb.2 XX.out.r2)
                  rw [hpe] at HP
                  clear tb
                  go_wp2_with (first | (refine load_link_ifO rfl _ rfl G rfl XX.out.lg hl ?_))
                  refine HP.out.mono ?_
                  rintro e u2 ⟨rfl, b1⟩
                  replace XX : Hid (XS w00 w u2 H G k { k with ts := xs1, ps := xs2, rs := xs3, ky := ky4 } (.slice ta k.ts.length tc) (.slice pa k.ps.length pc) (.slice oa k.rs.length oc) (.slice ma k.dn mc) (.slice ta5 k.ts.length tc5) (.slice pa5 k.ps.length pc5) (.slice oa5 k.rs.length oc5) (.slice ma5 k.dn mc5)) := XX.out.below b1
                  clear b1 HP
                  have tb := HT.out u2 XX.out.be
                  have HP := Lib.hid (check7 { k with ts := xs1, ps := xs2, rs := xs3, ky := ky4 } (.slice ta k.ts.length tc) (.slice pa k.ps.length pc) (.slice oa k.rs.length oc) (.slice ma k.dn mc) u2 ok4 sm4 i4 tb.1 tb.2 XX.out.r1)
                  clear tb
                  go_wp2_with (first | (refine load_link_ifO rfl _ rfl H rfl XX.out.lh hl ?_))
                  refine HP.out.mono ?_
                  rintro e u3 ⟨rfl, b1⟩
                  replace XX : Hid (XS w00 w u3 H G k { k with ts := xs1, ps := xs2, rs := xs3, ky := ky4 } (.slice ta k.ts.length tc) (.slice pa k.ps.length pc) (.slice oa k.rs.length oc) (.slice ma k.dn mc) (.slice ta5 k.ts.length tc5) (.slice pa5 k.ps.length pc5) (.slice oa5 k.rs.length oc5) (.slice ma5 k.dn mc5)) := XX.out.below b1
                  clear b1 HP
                  have tb := HT.out u3 XX.out.be
                  have HP := Lib.hid (check7 { k with ts := xs1, ps := xs2, rs := xs3, ky := ky4 } (.slice ta5 k.ts.length tc5) (.slice pa5 k.ps.length pc5) (.slice oa5 k.rs.length oc5) (.slice ma5 k.dn mc5) u3 ok4 sm4 i4 tb.1 tb.2 XX.out.r2)
                  clear tb
                  go_wp2_with (first | (refine load_link_ifO rfl _ rfl G rfl XX.out.lg hl ?_))
                  refine HP.out.mono ?_
                  rintro e u4 ⟨rfl, b1⟩
                  replace XX : Hid (XS w00 w u4 H G k { k with ts := xs1, ps := xs2, rs := xs3, ky := ky4 } (.slice ta k.ts.length tc) (.slice pa k.ps.length pc) (.slice oa k.rs.length oc) (.slice ma k.dn mc) (.slice ta5 k.ts.length tc5) (.slice pa5 k.ps.length pc5) (.slice oa5 k.rs.length oc5) (.slice ma5 k.dn mc5)) := XX.out.below b1
                  clear b1 HP
                  have HW1 : Hid (∀ u, XS w00 w u H G k { k with ts := xs1, ps := xs2, rs := xs3, ky := ky4 } (.slice ta k.ts.length tc) (.slice pa k.ps.length pc) (.slice oa k.rs.length oc) (.slice ma k.dn mc) (.slice ta5 k.ts.length tc5) (.slice pa5 k.ps.length pc5) (.slice oa5 k.rs.length oc5) (.slice ma5 k.dn mc5) → Calls Tryz.prog 10 #[.agg (lkC k.l k.nm (.slice ta k.ts.length tc) (.slice pa k.ps.length pc) (.slice oa k.rs.length oc) (.slice ma k.dn mc)), .int .i64 3] u fun e w' => e = .returned (.bool (wantB xs3 3)) ∧ Below u.heap.size u w') := fun u h => wanted { k with ts := xs1, ps := xs2, rs := xs3, ky := ky4 } _ _ _ _ 3 u ok4 i4 (by unfold I64; omega) h.r1
                  have HW2 : Hid (∀ u, XS w00 w u H G k { k with ts := xs1, ps := xs2, rs := xs3, ky := ky4 } (.slice ta k.ts.length tc) (.slice pa k.ps.length pc) (.slice oa k.rs.length oc) (.slice ma k.dn mc) (.slice ta5 k.ts.length tc5) (.slice pa5 k.ps.length pc5) (.slice oa5 k.rs.length oc5) (.slice ma5 k.dn mc5) → Calls Tryz.prog 10 #[.agg (lkC k.l k.nm (.slice ta5 k.ts.length tc5) (.slice pa5 k.ps.length pc5) (.slice oa5 k.rs.length oc5) (.slice ma5 k.dn mc5)), .int .i64 3] u fun e w' => e = .returned (.bool (wantB xs3 3)) ∧ Below u.heap.size u w') := fun u h => wanted { k with ts := xs1, ps := xs2, rs := xs3, ky := ky4 } _ _ _ _ 3 u ok4 i4 (by unfold I64; omega) h.r2
                  have HSA : Hid (∀ u, XS w00 w u H G k { k with ts := xs1, ps := xs2, rs := xs3, ky := ky4 } (.slice ta k.ts.length tc) (.slice pa k.ps.length pc) (.slice oa k.rs.length oc) (.slice ma k.dn mc) (.slice ta5 k.ts.length tc5) (.slice pa5 k.ps.length pc5) (.slice oa5 k.rs.length oc5) (.slice ma5 k.dn mc5) → Calls Tryz.prog 11 #[.agg (lkC k.l k.nm (.slice ta k.ts.length tc) (.slice pa k.ps.length pc) (.slice oa k.rs.length oc) (.slice ma k.dn mc)), .agg (lkC k.l k.nm (.slice ta5 k.ts.length tc5) (.slice pa5 k.ps.length pc5) (.slice oa5 k.rs.length oc5) (.slice ma5 k.dn mc5))] u fun e w' => e = .returned (.bool true) ∧ Below u.heap.size u w') := fun u h => linkSame { k with ts := xs1, ps := xs2, rs := xs3, ky := ky4 } _ _ _ _ _ _ _ _ u ok4 h.r1 h.r2
                  generalize ckN { k with ts := xs1, ps := xs2, rs := xs3, ky := ky4 } = c0 at *
                  generalize wantB xs3 3 = v0 at *
                  clear hpe i4 sm4 ok4 L1 L2 L3 HT
                  go_upto_region 22 with fail
                  have XH := (XX.out.below (belowDrew1 u4))
                  clear XX
                  refine wp_region_held_drew (S := fun x => XS w00 w x H G k { k with ts := xs1, ps := xs2, rs := xs3, ky := ky4 } (.slice ta k.ts.length tc) (.slice pa k.ps.length pc) (.slice oa k.rs.length oc) (.slice ma k.dn mc) (.slice ta5 k.ts.length tc5) (.slice pa5 k.ps.length pc5) (.slice oa5 k.rs.length oc5) (.slice ma5 k.dn mc5)) (by kernel_rfl) (XH) (fun hHeld => ?_)
                  refine wpAnyH_take (i := 0) (v := .string s0) rfl (by kernel_rfl) (by kernel_rfl) (by kernel_rfl) (fun _ _ _ h => h) (Or.inl ⟨by rfl, fun w hw => by go_simp⟩) hHeld ?_
                  simp only [Act.put, List.getElem_toArray, List.getElem_cons_zero, List.setIfInBounds_toArray, List.set_cons_zero, List.set_cons_succ]
                  refine wpAnyH_take (i := 1) (v := .string s0) rfl (by kernel_rfl) (by kernel_rfl) (by kernel_rfl) (fun _ _ _ h => h) (Or.inl ⟨by rfl, fun w hw => by go_simp⟩) hHeld ?_
                  simp only [Act.put, List.getElem_toArray, List.getElem_cons_zero, List.getElem_cons_succ, List.setIfInBounds_toArray, List.set_cons_zero, List.set_cons_succ]
                  refine wpAnyH_take (i := 2) (v := .bool true) rfl (by kernel_rfl) (by kernel_rfl) (by kernel_rfl) (fun _ _ _ h => h) (Or.inl ⟨by rfl, fun w hw => by go_simp⟩) hHeld ?_
                  simp only [Act.put, List.getElem_toArray, List.getElem_cons_zero, List.getElem_cons_succ, List.setIfInBounds_toArray, List.set_cons_zero, List.set_cons_succ]
                  refine wpAnyH_take (i := 3) (v := .bool true) rfl (by kernel_rfl) (by kernel_rfl) (by kernel_rfl) (fun _ _ _ h => h) (Or.inl ⟨by rfl, fun w hw => by go_simp⟩) hHeld ?_
                  simp only [Act.put, List.getElem_toArray, List.getElem_cons_zero, List.getElem_cons_succ, List.setIfInBounds_toArray, List.set_cons_zero, List.set_cons_succ]
                  refine wpAnyH_take (i := 4) (v := .int .i64 e0) rfl (by kernel_rfl) (by kernel_rfl) (by kernel_rfl) (fun _ _ _ h => h) (Or.inl ⟨by rfl, fun w hw => by go_simp⟩) hHeld ?_
                  simp only [Act.put, List.getElem_toArray, List.getElem_cons_zero, List.getElem_cons_succ, List.setIfInBounds_toArray, List.set_cons_zero, List.set_cons_succ]
                  refine wpAnyH_take (i := 6) (v := .int .i64 e0) rfl (by kernel_rfl) (by kernel_rfl) (by kernel_rfl) (fun _ _ _ h => h) (Or.inl ⟨by rfl, fun w hw => by go_simp⟩) hHeld ?_
                  simp only [Act.put, List.getElem_toArray, List.getElem_cons_zero, List.getElem_cons_succ, List.setIfInBounds_toArray, List.set_cons_zero, List.set_cons_succ]
                  refine wpAnyH_ready (rs := [5]) (by kernel_rfl) (by simp) ?_
                  refine AllReadyH.cons (o := _) rfl (fun K hK => ?_) AllReadyH.nil
                  go_simp
                  refine (num9 _ _).mono ?_
                  rintro e w9 ⟨rfl, rfl⟩
                  go_wp2_with fail
                  refine hK.out _ _ XH (fun hHeld => ?_)
                  clear hK K
                  refine wpAnyH_ready (rs := [7]) (by kernel_rfl) (by simp) ?_
                  refine AllReadyH.cons (o := _) rfl (fun K hK => ?_) AllReadyH.nil
                  go_simp
                  refine (num9 _ _).mono ?_
                  rintro e w9 ⟨rfl, rfl⟩
                  go_wp2_with fail
                  refine hK.out _ _ XH (fun hHeld => ?_)
                  clear hK K
                  refine wpAnyH_take (i := 8) (v := .bool true) rfl (by kernel_rfl) (by kernel_rfl) (by kernel_rfl) (fun _ _ _ h => h) (Or.inl ⟨by rfl, fun w hw => by go_simp⟩) hHeld ?_
                  simp only [Act.put, List.getElem_toArray, List.getElem_cons_zero, List.getElem_cons_succ, List.setIfInBounds_toArray, List.set_cons_zero, List.set_cons_succ]
                  refine wpAnyH_take (i := 9) (v := .bool true) rfl (by kernel_rfl) (by kernel_rfl) (by kernel_rfl) (fun _ _ _ h => h) (Or.inl ⟨by rfl, fun w hw => by go_simp⟩) hHeld ?_
                  simp only [Act.put, List.getElem_toArray, List.getElem_cons_zero, List.getElem_cons_succ, List.setIfInBounds_toArray, List.set_cons_zero, List.set_cons_succ]
                  refine wpAnyH_take (i := 10) (v := .bool true) rfl (by kernel_rfl) (by kernel_rfl) (by kernel_rfl) (fun _ _ _ h => h) (Or.inl ⟨by rfl, fun w hw => by go_simp⟩) hHeld ?_
                  simp only [Act.put, List.getElem_toArray, List.getElem_cons_zero, List.getElem_cons_succ, List.setIfInBounds_toArray, List.set_cons_zero, List.set_cons_succ]
                  refine wpAnyH_take (i := 11) (v := .int .i64 c0) rfl (by kernel_rfl) (by kernel_rfl) (by kernel_rfl) (fun _ _ _ h => h) (Or.inl ⟨by rfl, fun w hw => by go_simp⟩) hHeld ?_
                  simp only [Act.put, List.getElem_toArray, List.getElem_cons_zero, List.getElem_cons_succ, List.setIfInBounds_toArray, List.set_cons_zero, List.set_cons_succ]
                  refine wpAnyH_take (i := 13) (v := .int .i64 c0) rfl (by kernel_rfl) (by kernel_rfl) (by kernel_rfl) (fun _ _ _ h => h) (Or.inl ⟨by rfl, fun w hw => by go_simp⟩) hHeld ?_
                  simp only [Act.put, List.getElem_toArray, List.getElem_cons_zero, List.getElem_cons_succ, List.setIfInBounds_toArray, List.set_cons_zero, List.set_cons_succ]
                  refine wpAnyH_ready (rs := [12]) (by kernel_rfl) (by simp) ?_
                  refine AllReadyH.cons (o := _) rfl (fun K hK => ?_) AllReadyH.nil
                  go_simp
                  refine (num9 _ _).mono ?_
                  rintro e w9 ⟨rfl, rfl⟩
                  go_wp2_with fail
                  refine hK.out _ _ XH (fun hHeld => ?_)
                  clear hK K
                  refine wpAnyH_ready (rs := [14]) (by kernel_rfl) (by simp) ?_
                  refine AllReadyH.cons (o := _) rfl (fun K hK => ?_) AllReadyH.nil
                  go_simp
                  refine (num9 _ _).mono ?_
                  rintro e w9 ⟨rfl, rfl⟩
                  go_wp2_with fail
                  refine hK.out _ _ XH (fun hHeld => ?_)
                  clear hK K
                  refine wpAnyH_take (i := 15) (v := .bool true) rfl (by kernel_rfl) (by kernel_rfl) (by kernel_rfl) (fun _ _ _ h => h) (Or.inl ⟨by rfl, fun w hw => by go_simp⟩) hHeld ?_
                  simp only [Act.put, List.getElem_toArray, List.getElem_cons_zero, List.getElem_cons_succ, List.setIfInBounds_toArray, List.set_cons_zero, List.set_cons_succ]
                  refine wpAnyH_take (i := 16) (v := .bool true) rfl (by kernel_rfl) (by kernel_rfl) (by kernel_rfl) (fun _ _ _ h => h) (Or.inl ⟨by rfl, fun w hw => by go_simp⟩) hHeld ?_
                  simp only [Act.put, List.getElem_toArray, List.getElem_cons_zero, List.getElem_cons_succ, List.setIfInBounds_toArray, List.set_cons_zero, List.set_cons_succ]
                  refine wpAnyH_take (i := 17) (v := .bool true) rfl (by kernel_rfl) (by kernel_rfl) (by kernel_rfl) (fun _ _ _ h => h) (Or.inl ⟨by rfl, fun w hw => by go_simp⟩) hHeld ?_
                  simp only [Act.put, List.getElem_toArray, List.getElem_cons_zero, List.getElem_cons_succ, List.setIfInBounds_toArray, List.set_cons_zero, List.set_cons_succ]
                  refine wpAnyH_take (i := 18) (v := .agg (lkC k.l k.nm (.slice ta k.ts.length tc) (.slice pa k.ps.length pc) (.slice oa k.rs.length oc) (.slice ma k.dn mc))) rfl (by kernel_rfl) (by kernel_rfl) (by kernel_rfl) (fun _ _ _ h => h) (yields_lk (by rfl) _ rfl H rfl hl (fun w hw => hw.lh)) hHeld ?_
                  simp only [Act.put, List.getElem_toArray, List.getElem_cons_zero, List.getElem_cons_succ, List.setIfInBounds_toArray, List.set_cons_zero, List.set_cons_succ]
                  refine wpAnyH_take (i := 20) (v := .agg (lkC k.l k.nm (.slice ta5 k.ts.length tc5) (.slice pa5 k.ps.length pc5) (.slice oa5 k.rs.length oc5) (.slice ma5 k.dn mc5))) rfl (by kernel_rfl) (by kernel_rfl) (by kernel_rfl) (fun _ _ _ h => h) (yields_lk (by rfl) _ rfl G rfl hl (fun w hw => hw.lg)) hHeld ?_
                  simp only [Act.put, List.getElem_toArray, List.getElem_cons_zero, List.getElem_cons_succ, List.setIfInBounds_toArray, List.set_cons_zero, List.set_cons_succ]
                  refine wpAnyH_ready (rs := [19]) (by kernel_rfl) (by simp) ?_
                  refine AllReadyH.cons (o := _) rfl (fun K hK => ?_) AllReadyH.nil
                  go_simp
                  refine (HW1.out _ XH).mono ?_
                  rintro e u5 ⟨rfl, b9⟩
                  have XH := XH.below b9
                  clear b9
                  go_wp2_with fail
                  refine hK.out _ _ XH (fun hHeld => ?_)
                  clear hK K
                  refine wpAnyH_ready (rs := [21]) (by kernel_rfl) (by simp) ?_
                  refine AllReadyH.cons (o := _) rfl (fun K hK => ?_) AllReadyH.nil
                  go_simp
                  refine (HW2.out _ XH).mono ?_
                  rintro e u6 ⟨rfl, b9⟩
                  have XH := XH.below b9
                  clear b9
                  go_wp2_with fail
                  refine hK.out _ _ XH (fun hHeld => ?_)
                  clear hK K
                  refine wpAnyH_take (i := 22) (v := .bool true) rfl (by kernel_rfl) (by kernel_rfl) (by kernel_rfl) (fun _ _ _ h => h) (Or.inl ⟨by rfl, fun w hw => by go_simp⟩) hHeld ?_
                  simp only [Act.put, List.getElem_toArray, List.getElem_cons_zero, List.getElem_cons_succ, List.setIfInBounds_toArray, List.set_cons_zero, List.set_cons_succ]
                  refine wpAnyH_take (i := 23) (v := .bool true) rfl (by kernel_rfl) (by kernel_rfl) (by kernel_rfl) (fun _ _ _ h => h) (Or.inl ⟨by rfl, fun w hw => by go_simp⟩) hHeld ?_
                  simp only [Act.put, List.getElem_toArray, List.getElem_cons_zero, List.getElem_cons_succ, List.setIfInBounds_toArray, List.set_cons_zero, List.set_cons_succ]
                  refine wpAnyH_take (i := 24) (v := .bool true) rfl (by kernel_rfl) (by kernel_rfl) (by kernel_rfl) (fun _ _ _ h => h) (Or.inl ⟨by rfl, fun w hw => by go_simp⟩) hHeld ?_
                  simp only [Act.put, List.getElem_toArray, List.getElem_cons_zero, List.getElem_cons_succ, List.setIfInBounds_toArray, List.set_cons_zero, List.set_cons_succ]
                  refine wpAnyH_take (i := 25) (v := .agg (lkC k.l k.nm (.slice ta k.ts.length tc) (.slice pa k.ps.length pc) (.slice oa k.rs.length oc) (.slice ma k.dn mc))) rfl (by kernel_rfl) (by kernel_rfl) (by kernel_rfl) (fun _ _ _ h => h) (yields_lk (by rfl) _ rfl H rfl hl (fun w hw => hw.lh)) hHeld ?_
                  simp only [Act.put, List.getElem_toArray, List.getElem_cons_zero, List.getElem_cons_succ, List.setIfInBounds_toArray, List.set_cons_zero, List.set_cons_succ]
                  refine wpAnyH_take (i := 26) (v := .agg (lkC k.l k.nm (.slice ta5 k.ts.length tc5) (.slice pa5 k.ps.length pc5) (.slice oa5 k.rs.length oc5) (.slice ma5 k.dn mc5))) rfl (by kernel_rfl) (by kernel_rfl) (by kernel_rfl) (fun _ _ _ h => h) (yields_lk (by rfl) _ rfl G rfl hl (fun w hw => hw.lg)) hHeld ?_
                  simp only [Act.put, List.getElem_toArray, List.getElem_cons_zero, List.getElem_cons_succ, List.setIfInBounds_toArray, List.set_cons_zero, List.set_cons_succ]
                  refine wpAnyH_ready (rs := [27]) (by kernel_rfl) (by simp) ?_
                  refine AllReadyH.cons (o := _) rfl (fun K hK => ?_) AllReadyH.nil
                  go_simp
                  refine (HSA.out _ XH).mono ?_
                  rintro e u7 ⟨rfl, b9⟩
                  have XH := XH.below b9
                  clear b9
                  go_wp2_with fail
                  refine hK.out _ _ XH (fun hHeld => ?_)
                  clear hK K
                  refine wpAnyH_take (i := 28) (v := .bool true) rfl (by kernel_rfl) (by kernel_rfl) (by kernel_rfl) (fun _ _ _ h => h) (Or.inl ⟨by rfl, fun w hw => by go_simp⟩) hHeld ?_
                  simp only [Act.put, List.getElem_toArray, List.getElem_cons_zero, List.getElem_cons_succ, List.setIfInBounds_toArray, List.set_cons_zero, List.set_cons_succ]
                  refine wpAnyH_ready (rs := [29]) (by kernel_rfl) (by simp) ?_
                  refine AllReadyH.cons (o := _) rfl (fun K hK => ?_) AllReadyH.nil
                  go_simp
                  refine hK.out _ _ XH (fun hHeld => ?_)
                  clear hK K
                  refine wpAnyH_done (by kernel_rfl) ?_ _
                  clear hHeld
                  go_wp2
                  go_ret
                  exact ⟨by simp, XH.fr, XH.be⟩
end Ow
end Go.Proofs.YtnpcbcfjnhjmmaaGreatDoor
