import Derived.Test.YtnpcbcfjnhjmmaaGreatDoorV10
import Derived.ArgAppend
import Derived.Laws.OwnMore
namespace Go.Proofs.YtnpcbcfjnhjmmaaGreatDoor
open Go.RowKit
namespace Ow
structure Fr (S : Nat → Prop) (w w' : World) : Prop where
  os : w'.os = w.os
  tape : w'.tape = w.tape
  output : w'.output = w.output
  size : w.heap.size ≤ w'.heap.size
  block : ∀ k, k < w.heap.size → S k → w'.heap[k]? = w.heap[k]?
theorem Fr.refl (S : Nat → Prop) (w : World) : Fr S w w := ⟨rfl, rfl, rfl, Nat.le_refl _, fun _ _ _ => rfl⟩
theorem Fr.of_below {S : Nat → Prop} {w w' : World} (h : Below w.heap.size w w') : Fr S w w' := ⟨h.os, h.tape, h.output, h.size, fun k hk _ => h.block k hk⟩
theorem Fr.trans {S T : Nat → Prop} {w w' w'' : World} (a : Fr S w w') (b : Fr T w' w'') (h : ∀ k, k < w.heap.size → S k → T k) : Fr S w w'' :=
  ⟨b.os.trans a.os, b.tape.trans a.tape, b.output.trans a.output, Nat.le_trans a.size b.size, fun k hk hs => (b.block k (Nat.lt_of_lt_of_le hk a.size) (h k hk hs)).trans (a.block k hk hs)⟩
theorem Fr.mono {S T : Nat → Prop} {w w' : World} (a : Fr S w w') (h : ∀ k, k < w.heap.size → T k → S k) : Fr T w w' := ⟨a.os, a.tape, a.output, a.size, fun k hk ht => a.block k hk (h k hk ht)⟩
theorem Fr.setCell {S : Nat → Prop} {w w' : World} (a : Fr S w w') (R i : Nat) (v : Value) (h : ¬ S R) : Fr S w (w'.setCell ⟨R, i, none⟩ v) :=
  ⟨a.os, a.tape, a.output, by simpa using a.size, fun k hk hs => (Below.heap_setCell _ _ _ _ (fun e => by subst e; exact h hs)).trans (a.block k hk hs)⟩
theorem Fr.setRow {S : Nat → Prop} {w w' : World} (a : Fr S w w') (R : Nat) (cs : Array Value) (h : R < w.heap.size → ¬ S R) : Fr S w (w'.setRow R cs) :=
  ⟨a.os, a.tape, a.output, by simpa using a.size, fun k hk hs => (setRow_other _ _ _ _ (fun e => by subst e; exact h hk hs)).trans (a.block k hk hs)⟩
/-- an array with a list laid from a place on -/
def setR : Array Value → Nat → List Value → Array Value
  | cur, _, [] => cur
  | cur, o, u :: us => setR (cur.setIfInBounds o u) (o + 1) us
theorem setR_size : ∀ (us : List Value) (cur : Array Value) (o : Nat), (setR cur o us).size = cur.size
  | [], _, _ => rfl
  | u :: us, cur, o => by unfold setR; rw [setR_size us, Array.size_setIfInBounds]
theorem setR_low : ∀ (us : List Value) (cur : Array Value) (o k : Nat), k ≤ o → (setR cur o us).toList.take k = cur.toList.take k
  | [], _, _, _, _ => rfl
  | u :: us, cur, o, k, h => by
    unfold setR
    rw [setR_low us _ (o + 1) k (by omega), Array.toList_setIfInBounds, List.take_set_of_le h]
theorem setR_high : ∀ (us : List Value) (cur : Array Value) (o : Nat), o + us.length ≤ cur.size → (setR cur o us).toList.take (o + us.length) = cur.toList.take o ++ us
  | [], _, _, _ => by simp [setR]
  | u :: us, cur, o, h => by
    rw [List.length_cons] at h
    unfold setR
    have := setR_high us (cur.setIfInBounds o u) (o + 1) (by rw [Array.size_setIfInBounds]; omega)
    rw [List.length_cons, show o + (us.length + 1) = o + 1 + us.length by omega, this, Array.toList_setIfInBounds, List.take_succ_eq_append_getElem (by simp; omega), List.take_set_of_le (Nat.le_refl _)]
    simp
theorem setCells_heap : ∀ (us : List Value) (w : World) (g o : Nat) (cur : Array Value) (t : TypeId), w.heap[g]? = some (.cells cur t (0, 0)) → (w.setCells g o us).heap[g]? = some (.cells (setR cur o us) t (0, 0))
  | [], _, _, _, _, _, h => h
  | u :: us, w, g, o, cur, t, h => by
    unfold World.setCells setR
    exact setCells_heap us _ g (o + 1) _ t (setAt h o u)
theorem setCells_other : ∀ (us : List Value) (w : World) (g o k : Nat), k ≠ g → (w.setCells g o us).heap[k]? = w.heap[k]?
  | [], _, _, _, _, _ => rfl
  | u :: us, w, g, o, k, h => by
    unfold World.setCells
    rw [setCells_other us _ g (o + 1) k h]
    exact Below.heap_setCell _ _ _ _ (fun e => h e)
theorem setCells_rest : ∀ (us : List Value) (w : World) (g o : Nat), (w.setCells g o us).os = w.os ∧ (w.setCells g o us).tape = w.tape ∧ (w.setCells g o us).output = w.output ∧ (w.setCells g o us).heap.size = w.heap.size
  | [], _, _, _ => ⟨rfl, rfl, rfl, rfl⟩
  | u :: us, w, g, o => by
    unfold World.setCells
    obtain ⟨h1, h2, h3, h4⟩ := setCells_rest us (w.setCell ⟨g, o, none⟩ u) g (o + 1)
    exact ⟨h1, h2, h3, by rw [h4]; simp⟩
theorem ownsRow_baseL {w : World} {B B' e size n : Nat} {v : Value} {xs : List Value} (h : w.ownsRow B e size v n xs) (hb : B' ≤ B) : w.ownsRow B' e size v n xs := by
  refine ⟨h.1, ?_⟩
  rcases h.2 with h1 | ⟨g, cap, cur, h1, h2, h3⟩
  · exact .inl h1
  · exact .inr ⟨g, cap, cur, h1, Nat.le_trans hb h2, h3⟩
/-- what an append keeps: every list of the same kind that ends no later -/
def KeepsL (e : TypeId) (sz : Nat) (sv : Value) (n : Nat) (w w' : World) : Prop := ∀ (B0 : Nat) (v0 : Value) (m : Nat) (xs0 : List Value), w.ownsRow B0 e sz v0 m xs0 → (v0.ownBlock = sv.ownBlock → m ≤ n) → w'.ownsRow B0 e sz v0 m xs0
theorem append_bothL {ops : Array Oper} {rest : List Oper} {o : Oper} {a : Act} {Q : Exit → Act → World → Prop} {w : World} {B : Nat} {e t : TypeId} {sv : Value} {n sz m : Nat} {xs us : List Value} (i0 : TypeInfo) (z : Value) (bytes : Nat) (hgd : o.guard = none) (s x : Operand)
    (ho : o.op = .call { callee := .builtin .append, args := #[s, x], argTypes := #[t, t] }) (h1 : Tryz.prog.underlying t = some (.slice e)) (h2 : Tryz.prog.info? e = some i0) (h3 : i0.zero = some z) (h4 : i0.size = sz) (h5 : i0.bytes = bytes) (h6 : z.cells.size = sz) (h7 : 0 < sz) (hm : 0 < m)
    (hs : a.eval s = sv) (hown : w.ownsRow B e sz sv n xs) (ad : Addr) (cx : Nat) (hx : a.eval x = .slice (some ad) m cx) (hul : us.length = m * sz) (hc : ∀ j u, us[j]? = some u → w.cell? (ad.add j) = some u) (h1c : ∀ u ∈ us, u.oneCell' = true) (hB : B ≤ w.heap.size) (b1 : n + m ≤ maxLen) (b2 : (n + m) * bytes ≤ 140737488355328)
    (h : ∀ v' w', w'.ownsRow B e sz v' (n + m) (xs ++ us) → KeepsL e sz sv n w w' → w.grownBy w' sv.ownBlock → (v'.ownBlock = sv.ownBlock ∨ ∀ g, v'.ownBlock = some g → w.heap.size ≤ g) → wpList Tryz.prog ops Q rest (a.put o.dst v') w') : wpList Tryz.prog ops Q (o :: rest) a w := by
  have hall : ∀ w', w.grownBy w' none → KeepsL e sz sv n w w' := fun w' r2 B0 v0 m xs0 ho' _ => by
    refine ⟨ho'.1, ?_⟩
    rcases ho'.2 with hh | ⟨g, cap, cur, e1, e2, e3, e4⟩
    · exact .inl hh
    · exact .inr ⟨g, cap, cur, e1, e2, (r2.block g (Array.getElem?_eq_some_iff.1 e3).1 (by simp)).trans e3, e4⟩
  rcases hown.2 with ⟨rfl, rfl⟩ | ⟨g, cap, cur, rfl, hBg, hg, hnc, hcm, hsz, htk⟩
  · obtain rfl : xs = [] := List.eq_nil_of_length_eq_zero (by simpa using hown.1)
    refine wpList_append_grows w hgd s x t ho e i0 z sz bytes h1 h2 h3 h4 h5 h6 h7 none 0 0 [] hs (fun _ => ⟨rfl, rfl⟩) (by simp) (fun b hb => by cases hb) ad m cx us hx hul hc h1c (by omega) b1 b2 (fun v' w' r1 r2 => ?_)
    exact h v' w' (ownsRow_baseL r1 hB) (hall w' r2) r2 (.inr (fun g hg => (World.ownsRow.lt r1 g hg).1))
  · refine wpList_append_arg w hgd s x t ho e i0 z sz bytes h1 h2 h3 h4 h5 h6 h7 g 0 n cap xs hs hown.1 (fun j u' hj => ?_) ad m cx us hx hul hc h1c (fun hr j hj => ?_) b1 b2 (fun hr => ?_) (fun hr v' w' r1 r2 => ?_)
    · have hj' : j < n * sz := by
        have := (List.getElem?_eq_some_iff.1 hj).1
        rwa [hown.1] at this
      rw [Nat.zero_add]
      rw [← htk, List.getElem?_take_of_lt hj', Array.getElem?_toList] at hj
      simpa [World.cell?, hg] using hj
    · have hle : n * sz + m * sz ≤ cur.size := by rw [← Nat.add_mul, hsz]; exact Nat.mul_le_mul_right _ hr
      have : n * sz + j < cur.size := by omega
      rw [Nat.zero_add]
      exact ⟨by simp [World.cell?, hg, this], by simp [World.frozen?, hg]⟩
    · have hle : n * sz + us.length ≤ cur.size := by rw [hul, ← Nat.add_mul, hsz]; exact Nat.mul_le_mul_right _ hr
      rw [Nat.zero_add]
      have hh := setCells_heap us w g (n * sz) cur e hg
      obtain ⟨k1, k2, k3, k4⟩ := setCells_rest us w g (n * sz)
      refine h _ _ ⟨by rw [List.length_append, hown.1, hul, Nat.add_mul], .inr ⟨g, cap, _, rfl, hBg, hh, hr, hcm, by rw [setR_size]; exact hsz, ?_⟩⟩ (fun B0 v0 m0 xs0 ho' hm0 => ?_) ⟨k1, k2, k3, by rw [k4]; exact Nat.le_refl _, fun k hk hne => setCells_other us w g _ k (fun e => hne (by rw [e]; rfl))⟩ (.inl rfl)
      · have := setR_high us cur (n * sz) hle
        rw [hul, ← Nat.add_mul] at this
        rw [this, htk]
      · refine ⟨ho'.1, ?_⟩
        rcases ho'.2 with hh' | ⟨g', cap', cur', e1, e2, e3, e4, e5, e6, e7⟩
        · exact .inl hh'
        · by_cases eg : g' = g
          · subst eg
            have hm' := hm0 (by rw [e1]; rfl)
            rw [hg] at e3
            simp only [Option.some.injEq, Obj.cells.injEq] at e3
            obtain ⟨rfl, _⟩ := e3
            refine .inr ⟨g', cap', _, e1, e2, hh, e4, e5, by rw [setR_size]; exact e6, ?_⟩
            rw [setR_low us cur _ _ (Nat.mul_le_mul_right _ hm')]
            exact e7
          · exact .inr ⟨g', cap', cur', e1, e2, (setCells_other us w g _ g' eg).trans e3, e4, e5, e6, e7⟩
    · exact h v' w' (ownsRow_baseL r1 hB) (hall w' r2) ⟨r2.os, r2.tape, r2.output, r2.size, fun k hk _ => r2.block k hk (by simp)⟩ (.inr (fun g hg => (World.ownsRow.lt r1 g hg).1))
/-- a list gone on with: the new one, and the old one as it was -/
structure GIL (w : World) (B : Nat) (e : TypeId) (sz : Nat) (v0 : Value) (n : Nat) (xs : List Value) (k : Nat) (ys : List Value) (v : Value) (wr : World) : Prop where
  new : wr.ownsRow B e sz v (n + k) (xs ++ ys)
  old : wr.ownsRow B e sz v0 n xs
  fr : Fr (fun k => v0.ownBlock ≠ some k) w wr
  at_ : v.ownBlock = v0.ownBlock ∨ ∀ g, v.ownBlock = some g → w.heap.size ≤ g
theorem GIL.start {w : World} {B : Nat} {e : TypeId} {sz : Nat} {v0 : Value} {n : Nat} {xs : List Value} (h : w.ownsRow B e sz v0 n xs) : GIL w B e sz v0 n xs 0 [] v0 w := ⟨by simpa using h, h, Fr.refl _ _, .inl rfl⟩
theorem ownsRow_oneL {w w' : World} {B e size n : Nat} {v : Value} {xs : List Value} (h : w.ownsRow B e size v n xs) (hk : ∀ k, v.ownBlock = some k → w'.heap[k]? = w.heap[k]?) : w'.ownsRow B e size v n xs := by
  refine ⟨h.1, ?_⟩
  rcases h.2 with h1 | ⟨g, cap, cur, h1, h2, h3, h4⟩
  · exact .inl h1
  · exact .inr ⟨g, cap, cur, h1, h2, (hk g (by rw [h1]; rfl)).trans h3, h4⟩
theorem GIL.keep {w : World} {B : Nat} {e : TypeId} {sz : Nat} {v0 v : Value} {n k : Nat} {xs ys : List Value} {wr w' : World} (h : GIL w B e sz v0 n xs k ys v wr) (hb : Below wr.heap.size wr w') : GIL w B e sz v0 n xs k ys v w' :=
  ⟨ownsRow_oneL h.new (fun k hk => hb.block k (World.ownsRow.lt h.new k hk).2), ownsRow_oneL h.old (fun k hk => hb.block k (World.ownsRow.lt h.old k hk).2), h.fr.trans (Fr.of_below hb) (fun _ _ x => x), h.at_⟩
theorem GIL.next {w : World} {B : Nat} {e : TypeId} {sz : Nat} {v0 v v' : Value} {n k m : Nat} {xs ys us : List Value} {wr w' : World} (h : GIL w B e sz v0 n xs k ys v wr) (h1 : w'.ownsRow B e sz v' (n + k + m) (xs ++ ys ++ us)) (h2 : KeepsL e sz v (n + k) wr w') (h3 : wr.grownBy w' v.ownBlock) (h4 : v'.ownBlock = v.ownBlock ∨ ∀ g, v'.ownBlock = some g → wr.heap.size ≤ g) : GIL w B e sz v0 n xs (k + m) (ys ++ us) v' w' := by
  refine ⟨by rw [← List.append_assoc, ← Nat.add_assoc]; exact h1, h2 B v0 n xs h.old (fun _ => by omega), ?_, ?_⟩
  · refine ⟨h3.os.trans h.fr.os, h3.tape.trans h.fr.tape, h3.output.trans h.fr.output, Nat.le_trans h.fr.size h3.size, fun k hk hs => (h3.block k (Nat.lt_of_lt_of_le hk h.fr.size) (fun e => ?_)).trans (h.fr.block k hk hs)⟩
    rcases h.at_ with e1 | e1
    · exact hs (by rw [← e1]; exact e.symm)
    · have := e1 k e.symm; omega
  · rcases h4 with e | e
    · rw [e]; exact h.at_
    · right
      intro g hg
      have := e g hg
      have := h.fr.size
      omega
theorem GIL.form {w : World} {B : Nat} {e : TypeId} {sz : Nat} {v0 v : Value} {n k : Nat} {xs ys : List Value} {wr : World} (h : GIL w B e sz v0 n xs k ys v wr) : ∃ a n c, v = .slice a n c := by
  rcases h.new.2 with ⟨e, _⟩ | ⟨g, cap, cur, e, _⟩
  · exact ⟨_, _, _, e⟩
  · exact ⟨_, _, _, e⟩
end Ow
end Go.Proofs.YtnpcbcfjnhjmmaaGreatDoor
namespace Go.Proofs.YtnpcbcfjnhjmmaaGreatDoor
open Go.RowKit Go.Deep
namespace Ow
def repV (u : List Value) (k : Nat) : List Value := (List.replicate k u).flatten
theorem repV_succ (u : List Value) (k : Nat) : repV u (k + 1) = repV u k ++ u := by
  unfold repV
  rw [List.replicate_succ', List.flatten_append]
  simp
theorem repV_len (u : List Value) : ∀ k, (repV u k).length = k * u.length
  | 0 => by simp [repV]
  | k + 1 => by rw [repV_succ, List.length_append, repV_len u k, Nat.succ_mul]
theorem cellH2 {w : World} {g j : Nat} {cs : Array Value} {t : TypeId} (h : w.heap[g]? = some (.cells cs t (0, 0))) : w.cell? ⟨g, j, none⟩ = cs[j]? := by simp [World.cell?, h]
theorem new_cells (w : World) (us : List Value) (t : TypeId) : ∀ (j : Nat) (u : Value), us[j]? = some u → (w.alloc (.cells us.toArray t)).cell? ((⟨w.heap.size, 0, none⟩ : Addr).add j) = some u := fun j u hj => by
  rw [addAt, Nat.zero_add, cellH2 (heap_new w _)]
  simpa using hj
set_option maxHeartbeats 1000000 in
theorem textsOnT (v0 : Value) (n : Nat) (xs : List Value) (mk : ByteArray) (B : Nat) (w : World) (ho : w.ownsRow B 9 1 v0 n xs) (hB : B ≤ w.heap.size) (hl : n ≤ 16777216) :
    Calls Tryz.prog 13 #[v0, .string mk] w fun en w' => ∃ v, en = .returned v ∧ GIL w B 9 1 v0 n xs 70 (repV [.string mk] 70) v w' := by
  obtain ⟨a, ca, rfl⟩ : ∃ a c, v0 = .slice a n c := by
    rcases ho.2 with ⟨e, h⟩ | ⟨g, cap, cur, e, _⟩
    · exact ⟨none, 0, by rw [e, h]⟩
    · exact ⟨_, _, e⟩
  obtain ⟨i0, hi, hz0, hz1, hz2⟩ := info_parts info9
  have HF : Hid (Tryz.prog.info? 9 = some i0 ∧ i0.zero = some (.string ByteArray.empty) ∧ i0.size = 1 ∧ i0.bytes = 16) := ⟨hi, hz0, hz1, hz2⟩
  have HI : Hid (GIL w B 9 1 (.slice a n ca) n xs 0 (repV [.string mk] 0) (.slice a n ca) w ∧ B ≤ w.heap.size) := ⟨GIL.start ho, hB⟩
  clear ho hi hz0 hz1 hz2 hB
  go_enter Tryz.func13, Tryz.ntmps13
  have key : ∀ (k : Nat) (v : Value) (wr : World), GIL w B 9 1 (.slice a n ca) n xs k (repV [.string mk] k) v wr → Hid (GIL w B 9 1 (.slice a n ca) n xs k (repV [.string mk] k) v (wr.alloc (.cells #[.string mk] 9)) ∧ B ≤ (wr.alloc (.cells #[.string mk] 9)).heap.size) := fun k v wr h =>
    ⟨h.keep ((Below.refl _ _).alloc (Nat.le_refl _) _), by have := h.fr.size; have := HI.out.2; simp; omega⟩
  have step : ∀ (k : Nat) (v v' : Value) (wr w' : World), GIL w B 9 1 (.slice a n ca) n xs k (repV [.string mk] k) v wr → w'.ownsRow B 9 1 v' (n + k + 1) (xs ++ repV [.string mk] k ++ [.string mk]) → KeepsL 9 1 v (n + k) wr w' → wr.grownBy w' v.ownBlock → (v'.ownBlock = v.ownBlock ∨ ∀ g, v'.ownBlock = some g → wr.heap.size ≤ g) → Hid (GIL w B 9 1 (.slice a n ca) n xs (k + 1) (repV [.string mk] (k + 1)) v' w') := fun k v v' wr w' h q1 q2 q3 q4 => by
    have := h.next q1 q2 q3 q4
    rw [repV_succ]
    exact this
  have K0 := key 0 _ w HI.out.1
  clear HI
  go_wp2_with (first | (at_builtin; refine append_bothL (m := 1) (us := [.string mk]) i0 _ 16 rfl _ _ rfl Tryz.underlying24 HF.out.1 HF.out.2.1 HF.out.2.2.1 HF.out.2.2.2 rfl (by omega) (by omega) rfl K0.out.1.new ⟨w.heap.size, 0, none⟩ 1 rfl rfl (new_cells _ [.string mk] _) (by simp [Value.oneCell']) K0.out.2 (by unfold maxLen; omega) (by omega) ?_; intro v' w' q1 q2 q3 q4))
  have K1 := step 0 _ v' _ w' K0.out.1 q1 q2 q3 q4
  obtain ⟨va, vn, vc, rfl⟩ := K1.out.form
  clear K0 q1 q2 q3 q4
  go_loopw [5, 6] (fun v t wr => ∃ (k : Nat) (va : Option Addr) (vn vc : Nat), 1 ≤ k ∧ k ≤ 70 ∧ t = .int .i64 (k : Int) ∧ v = .slice va vn vc ∧ Hid (GIL w B 9 1 (.slice a n ca) n xs k (repV [.string mk] k) (.slice va vn vc) wr)) (fun _ t _ => 70 - (intOf t).toNat)
  case atStart => exact ⟨1, va, vn, vc, by omega, by omega, rfl, rfl, K1⟩
  case round =>
    clear K1
    obtain ⟨k, va, vn, vc, hk1, hk2, rfl, rfl, HK⟩ := hrel
    by_cases hlt : k < 70
    · have KA := key k _ wr HK.out
      clear HK
      go_wp2_with (first | (at_builtin; refine append_bothL (m := 1) (us := [.string mk]) i0 _ 16 rfl _ _ rfl Tryz.underlying24 HF.out.1 HF.out.2.1 HF.out.2.2.1 HF.out.2.2.2 rfl (by omega) (by omega) rfl KA.out.1.new ⟨wr.heap.size, 0, none⟩ 1 rfl rfl (new_cells _ [.string mk] _) (by simp [Value.oneCell']) KA.out.2 (by unfold maxLen; omega) (by omega) ?_; intro v' w' q1 q2 q3 q4))
      have KB := step k _ v' _ w' KA.out.1 q1 q2 q3 q4
      obtain ⟨xa, xn, xc, rfl⟩ := KB.out.form
      clear KA q1 q2 q3 q4
      exact ⟨⟨k + 1, xa, xn, xc, by omega, by omega, by go_num, rfl, KB⟩, by simp [intOf]; omega⟩
    · obtain rfl : k = 70 := by omega
      go_wp2
      go_ret
      exact ⟨_, rfl, HK.out⟩
set_option maxHeartbeats 1000000 in
theorem runsOnT (v0 : Value) (n : Nat) (xs : List Value) (mk : Int) (B : Nat) (w : World) (ho : w.ownsRow B 36 2 v0 n xs) (hB : B ≤ w.heap.size) (hl : n ≤ 16777216) :
    Calls Tryz.prog 14 #[v0, .int .i64 mk] w fun en w' => ∃ v, en = .returned v ∧ GIL w B 36 2 v0 n xs 70 (repV [.int .i64 mk, .int .i64 0] 70) v w' := by
  obtain ⟨a, ca, rfl⟩ : ∃ a c, v0 = .slice a n c := by
    rcases ho.2 with ⟨e, h⟩ | ⟨g, cap, cur, e, _⟩
    · exact ⟨none, 0, by rw [e, h]⟩
    · exact ⟨_, _, e⟩
  obtain ⟨i0, hi, hz0, hz1, hz2⟩ := info_parts infoRng
  have HF : Hid (Tryz.prog.info? 36 = some i0 ∧ i0.zero = some (.agg #[.int .i64 0, .int .i64 0]) ∧ i0.size = 2 ∧ i0.bytes = 16) := ⟨hi, hz0, hz1, hz2⟩
  have HI : Hid (GIL w B 36 2 (.slice a n ca) n xs 0 (repV [.int .i64 mk, .int .i64 0] 0) (.slice a n ca) w ∧ B ≤ w.heap.size) := ⟨GIL.start ho, hB⟩
  clear ho hi hz0 hz1 hz2 hB
  go_enter Tryz.func14, Tryz.ntmps14
  have key : ∀ (k : Nat) (v : Value) (wr : World), GIL w B 36 2 (.slice a n ca) n xs k (repV [.int .i64 mk, .int .i64 0] k) v wr → Hid (GIL w B 36 2 (.slice a n ca) n xs k (repV [.int .i64 mk, .int .i64 0] k) v (wr.alloc (.cells #[.int .i64 mk, .int .i64 0] 36)) ∧ B ≤ (wr.alloc (.cells #[.int .i64 mk, .int .i64 0] 36)).heap.size) := fun k v wr h =>
    ⟨h.keep ((Below.refl _ _).alloc (Nat.le_refl _) _), by have := h.fr.size; have := HI.out.2; simp; omega⟩
  have step : ∀ (k : Nat) (v v' : Value) (wr w' : World), GIL w B 36 2 (.slice a n ca) n xs k (repV [.int .i64 mk, .int .i64 0] k) v wr → w'.ownsRow B 36 2 v' (n + k + 1) (xs ++ repV [.int .i64 mk, .int .i64 0] k ++ [.int .i64 mk, .int .i64 0]) → KeepsL 36 2 v (n + k) wr w' → wr.grownBy w' v.ownBlock → (v'.ownBlock = v.ownBlock ∨ ∀ g, v'.ownBlock = some g → wr.heap.size ≤ g) → Hid (GIL w B 36 2 (.slice a n ca) n xs (k + 1) (repV [.int .i64 mk, .int .i64 0] (k + 1)) v' w') := fun k v v' wr w' h q1 q2 q3 q4 => by
    have := h.next q1 q2 q3 q4
    rw [repV_succ]
    exact this
  have K0 := key 0 _ w HI.out.1
  clear HI
  go_wp2_with (first | (at_builtin; refine append_bothL (m := 1) (us := [.int .i64 mk, .int .i64 0]) i0 _ 16 rfl _ _ rfl Tryz.underlying25 HF.out.1 HF.out.2.1 HF.out.2.2.1 HF.out.2.2.2 rfl (by omega) (by omega) rfl K0.out.1.new ⟨w.heap.size, 0, none⟩ 1 rfl rfl (new_cells _ [.int .i64 mk, .int .i64 0] _) (by simp [Value.oneCell']) K0.out.2 (by unfold maxLen; omega) (by omega) ?_; intro v' w' q1 q2 q3 q4))
  have K1 := step 0 _ v' _ w' K0.out.1 q1 q2 q3 q4
  obtain ⟨va, vn, vc, rfl⟩ := K1.out.form
  clear K0 q1 q2 q3 q4
  go_loopw [5, 6] (fun v t wr => ∃ (k : Nat) (va : Option Addr) (vn vc : Nat), 1 ≤ k ∧ k ≤ 70 ∧ t = .int .i64 (k : Int) ∧ v = .slice va vn vc ∧ Hid (GIL w B 36 2 (.slice a n ca) n xs k (repV [.int .i64 mk, .int .i64 0] k) (.slice va vn vc) wr)) (fun _ t _ => 70 - (intOf t).toNat)
  case atStart => exact ⟨1, va, vn, vc, by omega, by omega, rfl, rfl, K1⟩
  case round =>
    clear K1
    obtain ⟨k, va, vn, vc, hk1, hk2, rfl, rfl, HK⟩ := hrel
    by_cases hlt : k < 70
    · have KA := key k _ wr HK.out
      clear HK
      go_wp2_with (first | (at_builtin; refine append_bothL (m := 1) (us := [.int .i64 mk, .int .i64 0]) i0 _ 16 rfl _ _ rfl Tryz.underlying25 HF.out.1 HF.out.2.1 HF.out.2.2.1 HF.out.2.2.2 rfl (by omega) (by omega) rfl KA.out.1.new ⟨wr.heap.size, 0, none⟩ 1 rfl rfl (new_cells _ [.int .i64 mk, .int .i64 0] _) (by simp [Value.oneCell']) KA.out.2 (by unfold maxLen; omega) (by omega) ?_; intro v' w' q1 q2 q3 q4))
      have KB := step k _ v' _ w' KA.out.1 q1 q2 q3 q4
      obtain ⟨xa, xn, xc, rfl⟩ := KB.out.form
      clear KA q1 q2 q3 q4
      exact ⟨⟨k + 1, xa, xn, xc, by omega, by omega, by go_num, rfl, KB⟩, by simp [intOf]; omega⟩
    · obtain rfl : k = 70 := by omega
      go_wp2
      go_ret
      exact ⟨_, rfl, HK.out⟩
set_option maxHeartbeats 1000000 in
theorem pairsOnT (v0 : Value) (n : Nat) (xs : List Value) (mk : ByteArray) (B : Nat) (w : World) (ho : w.ownsRow B 41 6 v0 n xs) (hB : B ≤ w.heap.size) (hl : n ≤ 16777216) :
    Calls Tryz.prog 15 #[v0, .string mk] w fun en w' => ∃ v, en = .returned v ∧ GIL w B 41 6 v0 n xs 70 (repV [.string mk, .int .i64 0, .int .i64 0, .string { data := #[] }, .slice none 0 0, .slice none 0 0] 70) v w' := by
  obtain ⟨a, ca, rfl⟩ : ∃ a c, v0 = .slice a n c := by
    rcases ho.2 with ⟨e, h⟩ | ⟨g, cap, cur, e, _⟩
    · exact ⟨none, 0, by rw [e, h]⟩
    · exact ⟨_, _, e⟩
  obtain ⟨i0, hi, hz0, hz1, hz2⟩ := info_parts info68
  have HF : Hid (Tryz.prog.info? 41 = some i0 ∧ i0.zero = some (.agg #[.string ByteArray.empty, .int .i64 0, .int .i64 0, .string ByteArray.empty, .slice none 0 0, .slice none 0 0]) ∧ i0.size = 6 ∧ i0.bytes = 96) := ⟨hi, hz0, hz1, hz2⟩
  have HI : Hid (GIL w B 41 6 (.slice a n ca) n xs 0 (repV [.string mk, .int .i64 0, .int .i64 0, .string { data := #[] }, .slice none 0 0, .slice none 0 0] 0) (.slice a n ca) w ∧ B ≤ w.heap.size) := ⟨GIL.start ho, hB⟩
  clear ho hi hz0 hz1 hz2 hB
  go_enter Tryz.func15, Tryz.ntmps15
  have key : ∀ (k : Nat) (v : Value) (wr : World), GIL w B 41 6 (.slice a n ca) n xs k (repV [.string mk, .int .i64 0, .int .i64 0, .string { data := #[] }, .slice none 0 0, .slice none 0 0] k) v wr → Hid (GIL w B 41 6 (.slice a n ca) n xs k (repV [.string mk, .int .i64 0, .int .i64 0, .string { data := #[] }, .slice none 0 0, .slice none 0 0] k) v (wr.alloc (.cells #[.string mk, .int .i64 0, .int .i64 0, .string { data := #[] }, .slice none 0 0, .slice none 0 0] 41)) ∧ B ≤ (wr.alloc (.cells #[.string mk, .int .i64 0, .int .i64 0, .string { data := #[] }, .slice none 0 0, .slice none 0 0] 41)).heap.size) := fun k v wr h =>
    ⟨h.keep ((Below.refl _ _).alloc (Nat.le_refl _) _), by have := h.fr.size; have := HI.out.2; simp; omega⟩
  have step : ∀ (k : Nat) (v v' : Value) (wr w' : World), GIL w B 41 6 (.slice a n ca) n xs k (repV [.string mk, .int .i64 0, .int .i64 0, .string { data := #[] }, .slice none 0 0, .slice none 0 0] k) v wr → w'.ownsRow B 41 6 v' (n + k + 1) (xs ++ repV [.string mk, .int .i64 0, .int .i64 0, .string { data := #[] }, .slice none 0 0, .slice none 0 0] k ++ [.string mk, .int .i64 0, .int .i64 0, .string { data := #[] }, .slice none 0 0, .slice none 0 0]) → KeepsL 41 6 v (n + k) wr w' → wr.grownBy w' v.ownBlock → (v'.ownBlock = v.ownBlock ∨ ∀ g, v'.ownBlock = some g → wr.heap.size ≤ g) → Hid (GIL w B 41 6 (.slice a n ca) n xs (k + 1) (repV [.string mk, .int .i64 0, .int .i64 0, .string { data := #[] }, .slice none 0 0, .slice none 0 0] (k + 1)) v' w') := fun k v v' wr w' h q1 q2 q3 q4 => by
    have := h.next q1 q2 q3 q4
    rw [repV_succ]
    exact this
  have K0 := key 0 _ w HI.out.1
  clear HI
  go_wp2_with (first | (at_builtin; refine append_bothL (m := 1) (us := [.string mk, .int .i64 0, .int .i64 0, .string { data := #[] }, .slice none 0 0, .slice none 0 0]) i0 _ 96 rfl _ _ rfl Tryz.underlying26 HF.out.1 HF.out.2.1 HF.out.2.2.1 HF.out.2.2.2 rfl (by omega) (by omega) rfl K0.out.1.new ⟨w.heap.size, 0, none⟩ 1 rfl rfl (new_cells _ [.string mk, .int .i64 0, .int .i64 0, .string { data := #[] }, .slice none 0 0, .slice none 0 0] _) (by simp [Value.oneCell']) K0.out.2 (by unfold maxLen; omega) (by omega) ?_; intro v' w' q1 q2 q3 q4))
  have K1 := step 0 _ v' _ w' K0.out.1 q1 q2 q3 q4
  obtain ⟨va, vn, vc, rfl⟩ := K1.out.form
  clear K0 q1 q2 q3 q4
  go_loopw [5, 6] (fun v t wr => ∃ (k : Nat) (va : Option Addr) (vn vc : Nat), 1 ≤ k ∧ k ≤ 70 ∧ t = .int .i64 (k : Int) ∧ v = .slice va vn vc ∧ Hid (GIL w B 41 6 (.slice a n ca) n xs k (repV [.string mk, .int .i64 0, .int .i64 0, .string { data := #[] }, .slice none 0 0, .slice none 0 0] k) (.slice va vn vc) wr)) (fun _ t _ => 70 - (intOf t).toNat)
  case atStart => exact ⟨1, va, vn, vc, by omega, by omega, rfl, rfl, K1⟩
  case round =>
    clear K1
    obtain ⟨k, va, vn, vc, hk1, hk2, rfl, rfl, HK⟩ := hrel
    by_cases hlt : k < 70
    · have KA := key k _ wr HK.out
      clear HK
      go_wp2_with (first | (at_builtin; refine append_bothL (m := 1) (us := [.string mk, .int .i64 0, .int .i64 0, .string { data := #[] }, .slice none 0 0, .slice none 0 0]) i0 _ 96 rfl _ _ rfl Tryz.underlying26 HF.out.1 HF.out.2.1 HF.out.2.2.1 HF.out.2.2.2 rfl (by omega) (by omega) rfl KA.out.1.new ⟨wr.heap.size, 0, none⟩ 1 rfl rfl (new_cells _ [.string mk, .int .i64 0, .int .i64 0, .string { data := #[] }, .slice none 0 0, .slice none 0 0] _) (by simp [Value.oneCell']) KA.out.2 (by unfold maxLen; omega) (by omega) ?_; intro v' w' q1 q2 q3 q4))
      have KB := step k _ v' _ w' KA.out.1 q1 q2 q3 q4
      obtain ⟨xa, xn, xc, rfl⟩ := KB.out.form
      clear KA q1 q2 q3 q4
      exact ⟨⟨k + 1, xa, xn, xc, by omega, by omega, by go_num, rfl, KB⟩, by simp [intOf]; omega⟩
    · obtain rfl : k = 70 := by omega
      go_wp2
      go_ret
      exact ⟨_, rfl, HK.out⟩
end Ow
end Go.Proofs.YtnpcbcfjnhjmmaaGreatDoor
