import Derived.Test.YtglknmelcianjaaSy
namespace Go.Proofs.Ytglknmelcianjaa
open Go.RowKit
/-- a byte behind a crash -/
def crB (keep : List Bool) (torn : Int) (cut : Nat) (last : List UInt8) (ws : List Wt) (i : Nat) : UInt8 := byt (crS keep torn cut (lv (i / 64) 0 ws) (sec last (i / 64))) (i % 64)
theorem crD_eq (keep : List Bool) (torn : Int) (cut : Nat) (last : List UInt8) (ws : List Wt) : crD keep torn cut last ws = lf last.length (crB keep torn cut last ws) := rfl
/-- those sectors are crashed that are not left -/
def cy (keep : List Bool) (torn : Int) (cut : Nat) (last : List UInt8) (ws : List Wt) (left : Nat → Bool) : List UInt8 := lf last.length fun i => if left (i / 64) then byt last i else crB keep torn cut last ws i
/-- .. and one of them is under way -/
def cz (keep : List Bool) (torn : Int) (cut : Nat) (last : List UInt8) (ws : List Wt) (left : Nat → Bool) (s : Nat) (c : List UInt8) : List UInt8 := lf last.length fun i => if i / 64 = s then byt c (i % 64) else if left (i / 64) then byt last i else crB keep torn cut last ws i
section
variable {keep : List Bool} {torn : Int} {cut : Nat} {last : List UInt8} {ws : List Wt} {left left' : Nat → Bool} {s : Nat} {c : List UInt8}
theorem cy_len : (cy keep torn cut last ws left).length = last.length := lf_len _ _
theorem cz_len : (cz keep torn cut last ws left s c).length = last.length := lf_len _ _
theorem crB_none {i : Nat} (h : nw (i / 64) ws = none) : crB keep torn cut last ws i = byt last i := by
  unfold crB
  rw [lv_nil h 0]
  simp only [crS, List.foldl_nil]
  rw [sec_byt _ _ _ (Nat.mod_lt _ (by omega))]
  congr 1
  omega
theorem cy_start (h : ∀ s, (nw s ws).isSome = true → left s = true) : cy keep torn cut last ws left = last := by
  unfold cy
  conv => rhs; rw [← lf_self last]
  apply lf_congr
  intro i hi
  by_cases hl : left (i / 64) = true
  · simp [hl]
  · simp only [hl]
    cases hn : nw (i / 64) ws with
    | none => simp [crB_none hn]
    | some d => exact absurd (h _ (by rw [hn]; rfl)) hl
theorem cy_end (h : ∀ s, left s = false) : cy keep torn cut last ws left = crD keep torn cut last ws := by
  unfold cy
  rw [crD_eq]
  apply lf_congr
  intro i _
  simp [h]
theorem cz_start (hs : left s = true) (h2 : ∀ t, t ≠ s → left' t = left t) : cz keep torn cut last ws left' s (sec last s) = cy keep torn cut last ws left := by
  unfold cz cy
  apply lf_congr
  intro i _
  by_cases hc : i / 64 = s
  · rw [if_pos hc, hc, hs, sec_byt _ _ _ (Nat.mod_lt _ (by omega))]
    simp
    congr 1
    omega
  · rw [if_neg hc, h2 _ hc]
theorem cz_end (hs : left' s = false) : cz keep torn cut last ws left' s (crS keep torn cut (lv s 0 ws) (sec last s)) = cy keep torn cut last ws left' := by
  unfold cz cy
  apply lf_congr
  intro i _
  by_cases hc : i / 64 = s
  · rw [if_pos hc, hc, hs]
    unfold crB
    rw [hc]
    simp
  · rw [if_neg hc]
theorem cz_put (hs : 64 * s + 64 ≤ last.length) (d : List UInt8) (hd : d.length ≤ 64) : sp (cz keep torn cut last ws left s c) (64 * s) d = cz keep torn cut last ws left s (d ++ c.drop d.length) := by
  unfold cz
  rw [sp_lf _ _ _ _ (by omega)]
  apply lf_congr
  intro i hi
  by_cases hin : 64 * s ≤ i ∧ i < 64 * s + d.length
  · have hq : i / 64 = s := by omega
    rw [if_pos hin, if_pos hq]
    unfold byt
    rw [List.getD_eq_getElem?_getD, List.getD_eq_getElem?_getD, List.getElem?_append_left (by omega)]
    congr 2
    omega
  · rw [if_neg hin]
    by_cases hq : i / 64 = s
    · rw [if_pos hq, if_pos hq]
      unfold byt
      rw [List.getD_eq_getElem?_getD, List.getD_eq_getElem?_getD, List.getElem?_append_right (by omega), List.getElem?_drop]
      congr 2
      omega
    · rw [if_neg hq, if_neg hq]
end
theorem crX_torn (keep : List Bool) (torn : Int) (cut : Nat) (c : List UInt8) (x : Nat × List UInt8) (h : (x.1 : Int) = torn) (hx : x.2.length = 64) (hcut : cut ≤ 64) : crX keep torn cut c x = x.2.take cut ++ c.drop (x.2.take cut).length := by
  unfold crX
  rw [if_pos h, List.length_take, Nat.min_eq_left (by omega)]
theorem crX_keep (keep : List Bool) (torn : Int) (cut : Nat) (c : List UInt8) (x : Nat × List UInt8) (h : (x.1 : Int) ≠ torn) (hk : keep.getD x.1 false = true) (hx : x.2.length = 64) (hc : c.length = 64) : crX keep torn cut c x = x.2 ++ c.drop x.2.length := by
  unfold crX
  rw [if_neg h, if_pos hk, List.drop_of_length_le (by omega), List.append_nil]
theorem crX_none (keep : List Bool) (torn : Int) (cut : Nat) (c : List UInt8) (x : Nat × List UInt8) (h : (x.1 : Int) ≠ torn) (hk : keep.getD x.1 false = false) : crX keep torn cut c x = c := by
  unfold crX
  rw [if_neg h, hk]
  rfl
theorem crS_snoc (keep : List Bool) (torn : Int) (cut : Nat) (xs : List (Nat × List UInt8)) (c : List UInt8) (j : Nat) (h : j < xs.length) : crS keep torn cut (xs.take (j + 1)) c = crX keep torn cut (crS keep torn cut (xs.take j) c) xs[j] := by
  unfold crS
  rw [List.take_succ_eq_append_getElem h, List.foldl_append]
  rfl
theorem crS_len {keep : List Bool} {torn : Int} {cut : Nat} : ∀ {xs : List (Nat × List UInt8)} {c : List UInt8}, c.length = 64 → (∀ x ∈ xs, x.2.length = 64) → cut ≤ 64 → (crS keep torn cut xs c).length = 64
  | [], _, hc, _, _ => hc
  | x :: xs, _, hc, hx, h => crS_len (xs := xs) (crX_len hc (hx x List.mem_cons_self) h) (fun y hy => hx y (List.mem_cons_of_mem _ hy)) h
theorem flat_at {α : Type} (f : α → List Value) (n : Nat) : ∀ (xs : List α) (j i : Nat), (∀ x ∈ xs, (f x).length = n) → (hj : j < xs.length) → i < n → (xs.flatMap f)[j * n + i]? = (f xs[j])[i]?
  | [], j, i, _, hj, _ => by simp at hj
  | x :: xs, 0, i, h, _, hi => by
    simp only [List.flatMap_cons, Nat.zero_mul, Nat.zero_add, List.getElem_cons_zero]
    rw [List.getElem?_append_left (by rw [h x List.mem_cons_self]; exact hi)]
  | x :: xs, j + 1, i, h, hj, hi => by
    simp only [List.flatMap_cons, List.getElem_cons_succ]
    rw [List.getElem?_append_right (by rw [h x List.mem_cons_self, Nat.add_mul]; omega), h x List.mem_cons_self, show (j + 1) * n + i - n = j * n + i by rw [Nat.add_mul]; omega]
    exact flat_at f n xs j i (fun y hy => h y (List.mem_cons_of_mem _ hy)) (by simpa using hj) hi
/-- a write in a list of writes -/
theorem OL.at {w : World} {g cap : Nat} {xs : List (Nat × List UInt8)} (h : OL w (.slice (some ⟨g, 0, none⟩) xs.length cap) xs) (hx : ∀ x ∈ xs, x.2.length = 64) (j : Nat) (hj : j < xs.length) : w.rangeAt g (j * 65) (wx (xs[j]).1 (xs[j]).2).toList := by
  rcases h.2 with ⟨e, _⟩ | ⟨g', c, cur, e, _, h2, h3, h4, h5, h6⟩
  · cases e
  simp only [Value.slice.injEq, Option.some.injEq, Addr.mk.injEq] at e
  obtain ⟨⟨rfl, _⟩, _, rfl⟩ := e
  intro i v hv
  have hwl : ∀ x ∈ xs, (wc x).length = 65 := fun x hx' => by simp [wc, bcl_len, hx x hx']
  have hxj := hx xs[j] (List.getElem_mem hj)
  have hi : i < 65 := by
    have := (List.getElem?_eq_some_iff.1 hv).1
    rw [Array.length_toList, wx_size _ _ hxj] at this
    exact this
  have e1 := flat_at wc 65 xs j i hwl hj hi
  have e2 : (wx (xs[j]).1 (xs[j]).2).toList = wc xs[j] := by rw [wx_list]; rfl
  have e3 : j * 65 + 65 ≤ xs.length * 65 := by rw [← Nat.succ_mul]; exact Nat.mul_le_mul_right _ hj
  rw [e2, ← e1, ← h6, List.getElem?_take_of_lt (by omega)] at hv
  simp only [World.cell?, h2]
  simpa using hv
/-- bools that are read -/
def RBo (w : World) (v : Value) (l : List Bool) : Prop :=
  ∃ a c, v = .slice a l.length c ∧ l.length ≤ c ∧ (l = [] ∨ ∃ g o, a = some ⟨g, o, none⟩ ∧ g < w.heap.size ∧ ∀ i, i < l.length → w.cell? ⟨g, o + i, none⟩ = some (.bool (l.getD i false)))
theorem RBo.keep {w w' : World} {v : Value} {l : List Bool} (h : RBo w v l) (hb : Below w.heap.size w w') : RBo w' v l := by
  obtain ⟨a, c, rfl, hle, h⟩ := h
  refine ⟨a, c, rfl, hle, ?_⟩
  rcases h with h | ⟨g, o, h1, h2, h3⟩
  · exact .inl h
  · exact .inr ⟨g, o, h1, Nat.lt_of_lt_of_le h2 hb.size, fun i hi => (World.cell?_of_block (w := w) (hb.block g h2)).trans (h3 i hi)⟩
theorem RBo.fr {S : Nat → Prop} {w w' : World} {v : Value} {l : List Bool} (h : RBo w v l) (hf : Fr S w w') (hs : ∀ g, v.ownBlock = some g → S g) : RBo w' v l := by
  obtain ⟨a, c, rfl, hle, h⟩ := h
  refine ⟨a, c, rfl, hle, ?_⟩
  rcases h with h | ⟨g, o, rfl, h2, h3⟩
  · exact .inl h
  · exact .inr ⟨g, o, rfl, Nat.lt_of_lt_of_le h2 hf.size, fun i hi => (World.cell?_of_block (w := w) (hf.block g h2 (hs g rfl))).trans (h3 i hi)⟩
/-- a crash under way, by sectors -/
structure CL (w : World) (lb cap mb : Nat) (M : DataW Value) (keep : List Bool) (torn : Int) (cut : Nat) (ws : List Wt) (last : List UInt8) (left : Lit → Bool) (cnt : Nat) (wr : World) : Prop where
  rg : wr.ranges Try.prog 3 idR mb w.heap.size ws.length M left cnt
  ow : OW 0 wr (.slice (some ⟨lb, 0, none⟩) last.length cap) (cy keep torn cut last ws fun s => left (ky s))
  fr : Fr (fun k => k ≠ lb) w wr
/-- .. inside of one sector -/
structure CI (w : World) (lb cap mb : Nat) (M : DataW Value) (keep : List Bool) (torn : Int) (cut : Nat) (ws : List Wt) (last : List UInt8) (left : Lit → Bool) (cnt : Nat) (s : Nat) (c : List UInt8) (wr : World) : Prop where
  rg : wr.ranges Try.prog 3 idR mb w.heap.size ws.length M left cnt
  ow : OW 0 wr (.slice (some ⟨lb, 0, none⟩) last.length cap) (cz keep torn cut last ws (fun s => left (ky s)) s c)
  fr : Fr (fun k => k ≠ lb) w wr
section
variable {w wr w2 w4 : World} {lb cap mb : Nat} {M : DataW Value} {keep : List Bool} {torn : Int} {cut : Nat} {ws : List Wt} {last : List UInt8} {left : Lit → Bool} {cnt cnt2 s : Nat} {c : List UInt8}
theorem CI.on (h : CI w lb cap mb M keep torn cut ws last left cnt s c wr) (hb : Below wr.heap.size wr w2) : CI w lb cap mb M keep torn cut ws last left cnt s c w2 :=
  ⟨h.rg.kept (row := none) ⟨hb.os, hb.tape, hb.output, hb.size, fun k hk _ => hb.block k hk⟩ (by simp) (by simp), ownsRow_fr (S := fun _ => True) h.ow (Fr.of_below hb) (fun _ _ => trivial), h.fr.trans (T := fun _ => True) (Fr.of_below hb) (fun _ _ _ => trivial)⟩
theorem CL.start (h : CL w lb cap mb M keep torn cut ws last left cnt wr) (hl : left (ky s) = true) (hrg : w2.ranges Try.prog 3 idR mb w.heap.size ws.length M (fun z => left z && !z.sameKey (ky s)) cnt2) (hg2 : wr.grownBy w2 (some w.heap.size)) (hlb : lb < w.heap.size) :
    CI w lb cap mb M keep torn cut ws last (fun z => left z && !z.sameKey (ky s)) cnt2 s (sec last s) w2 := by
  have b2 : Fr (fun k => k ≠ w.heap.size) wr w2 := ⟨hg2.os, hg2.tape, hg2.output, hg2.size, fun k hk hne => hg2.block k hk (fun e => hne (Option.some.inj e))⟩
  obtain ⟨_, l2⟩ := left_strike left s
  refine ⟨hrg, ?_, h.fr.trans (T := fun k => k ≠ w.heap.size) b2 (fun k hk _ => by show k ≠ w.heap.size; omega)⟩
  have := ownsRow_fr h.ow b2 (fun k hk e => by simp [Value.ownBlock] at hk; omega)
  rw [cz_start (left := fun s => left (ky s)) hl l2]
  exact this
theorem CI.stop (h : CI w lb cap mb M keep torn cut ws last (fun z => left z && !z.sameKey (ky s)) cnt2 s (crS keep torn cut (lv s 0 ws) (sec last s)) wr) : CL w lb cap mb M keep torn cut ws last (fun z => left z && !z.sameKey (ky s)) cnt2 wr := by
  obtain ⟨l1, _⟩ := left_strike left s
  refine ⟨h.rg, ?_, h.fr⟩
  have := h.ow
  rwa [cz_end l1] at this
theorem CI.copy (h : CI w lb cap mb M keep torn cut ws last left cnt s c wr) (hs : 64 * s + 64 ≤ last.length) (hlb : lb < w.heap.size) (b n q : Nat) (d : List UInt8) (hd : d.length = 64) (hq : q ≤ 64) (hbox : wr.heap[b]? = some (.cells (wx n d) 62 (0, 0))) :
    ∃ cs, (∀ ty dc, (Builtin.copy_ #[27, 27] ty #[.slice (some ⟨lb, s * 64, none⟩) 64 dc, .slice (some ⟨b, 1, none⟩) q 64]).run Try.prog wr = .ok (goInt q) (wr.setRow lb cs)) ∧ CI w lb cap mb M keep torn cut ws last left cnt s (d.take q ++ c.drop (d.take q).length) (wr.setRow lb cs) := by
  have hll : (cz keep torn cut last ws (fun s => left (ky s)) s c).length = last.length := cz_len
  have hdl : (d.take q).length = q := by rw [List.length_take]; omega
  have how : OW 0 wr (.slice (some ⟨lb, 0, none⟩) (cz keep torn cut last ws (fun s => left (ky s)) s c).length cap) (cz keep torn cut last ws (fun s => left (ky s)) s c) := by rw [hll]; exact h.ow
  obtain ⟨cs, h1, h2⟩ := OW_copy how (s * 64) b 1 (d.take q) (fun i hi => by rw [byt_take _ _ _ (by omega)]; exact wx_cell hbox i (by omega)) (by rw [hll, hdl]; omega)
  rw [hll, Nat.mul_comm s 64, cz_put hs (d.take q) (by omega)] at h2
  refine ⟨cs, fun ty dc => ?_, ?_, h2, h.fr.setRow lb cs (fun _ h => h rfl)⟩
  · have := h1 ty 64 dc q 64 (by rw [hdl]; exact (Nat.min_eq_left hq).symm)
    rw [hdl] at this
    exact this
  · obtain ⟨_, c5, hc5⟩ := ownsRow_lt h.ow lb rfl
    refine h.rg.kept (row := some lb) ⟨rfl, rfl, rfl, by simp, fun k hk hne => setRow_other _ _ _ _ (fun e => hne (by rw [e]))⟩ (fun e => ?_) (fun e => ?_)
    · injection e with e
      obtain ⟨es, c', hm, _⟩ := h.rg.owns
      rw [e, hc5] at hm
      cases hm
    · injection e with e
      omega
end
set_option maxHeartbeats 1000000 in
theorem lastingC {w : World} {p lb cap n : Nat} (c0 : w.cell? ⟨p, 0, none⟩ = some (.slice (some ⟨lb, 0, none⟩) n cap)) (k1 : n ≤ cap) (_k2 : cap ≤ 9223372036854775807) (hx : n ≤ 4194304) (s : Nat) (hs : 64 * s + 64 ≤ n) :
    Calls Try.prog 39 #[.pointer (some ⟨p, 0, none⟩), .int .i64 s] w fun e w' => e = .returned (.slice (some ⟨lb, s * 64, none⟩) 64 (cap - s * 64)) ∧ w' = w := by
  go_enter Try.func39, Try.ntmps39
  go_wp2
  go_ret
  exact ⟨rfl, rfl⟩
end Go.Proofs.Ytglknmelcianjaa
